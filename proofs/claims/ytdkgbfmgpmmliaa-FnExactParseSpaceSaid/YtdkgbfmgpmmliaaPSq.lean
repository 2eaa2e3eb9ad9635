/-
  The contract of the statement's ParseSpace. By an AI agent.
-/
import Derived.Test.YtdkgbfmgpmmliaaPSs
namespace Go.Proofs.Ytdkgbfmgpmmliaa
open Go.RowKit Cv
set_option linter.unusedVariables false
set_option linter.unusedSimpArgs false
set_option maxRecDepth 100000

theorem okP_eq (t : ByteArray) : okP t = isSp (pS t) := by
  unfold okP
  by_cases h : isSp (pS t) = true
  · have := ((isSp_iff _).1 h).hi
    rw [pS_len] at this
    simp [h, this]
  · simp [h]

set_option maxHeartbeats 1000000 in
theorem spec_ParseSpace (t : ByteArray) (ht : t.size ≤ 1073741823) (w : World) :
    Calls Try.prog 41 #[.string t] w fun e w' => ∃ v, e = .returned (.tuple #[.agg #[v], .int .i64 (ePS t)]) ∧ OwnInts w' w.heap.size v (vPS t) ∧ Below w.heap.size w w' := by
  have B0 : Below w.heap.size w (w.alloc (.cells #[.slice none 0 0] 28)) := by go_grown
  have q0 := cell_new w (.slice none 0 0) 28
  have q1 := frozen_new w (.slice none 0 0) 28
  by_cases hsp : isSp (pS t) = true
  · have HE : Hid (ePS t = 0) := Lib.hid (by simp [ePS, okP_eq, hsp])
    have HV : Hid (vPS t = pS t) := Lib.hid (by simp [vPS, okP_eq, hsp])
    go_enter Try.func41, Try.ntmps41
    go_wp2_with fail
    refine (l01ReadSpace_any t ht _).mono ?_
    rintro e w1 ⟨v, rfl, own, hb⟩
    obtain ⟨ao, cp, rfl, hI⟩ := own.ints
    have c1 := kept_cell hb q0 (lt_alloc _ _)
    have l1 := lt_of_below hb (lt_alloc _ _)
    have f1 : w1.frozen? ⟨w.heap.size, 0, none⟩ = false := (hb.frozen (p := ⟨w.heap.size, 0, none⟩) (lt_alloc _ _)).trans q1
    have B1 : Below w.heap.size w w1 := B0.trans (hb.mono B0.size)
    rw [show (w.alloc (.cells #[.slice none 0 0] 28)).heap.size = w.heap.size + 1 from by simp] at own
    clear hb q0 q1 B0
    go_wp2_with fail
    refine bodyPost_ret (by rw [results_cell_tmp rfl]; go_simp; try rfl) rfl ?_
    exact ⟨_, by rw [HE.out], by rw [HV.out]; exact ((own.kept (grown_setCell (grown_of_below (Below.refl _ _) (some w.heap.size)) 0 _) (.inr (fun e => by have := World.ownsRow.lt own _ e; omega))).alloc _).rebase (Nat.le_succ _), (B1.setCell (Nat.le_refl _) _).alloc (by simpa using B1.size) _⟩
  · have HE : Hid (ePS t = 6) := Lib.hid (by simp [ePS, okP_eq, hsp])
    have HV : Hid (vPS t = []) := Lib.hid (by simp [vPS, okP_eq, hsp])
    have hsp' : isSp (pS t) = false := by simpa using hsp
    clear hsp
    go_enter Try.func41, Try.ntmps41
    go_wp2_with fail
    refine (l01ReadSpace_any t ht _).mono ?_
    rintro e w1 ⟨v, rfl, own, hb⟩
    obtain ⟨ao, cp, rfl, hI⟩ := own.ints
    have c1 := kept_cell hb q0 (lt_alloc _ _)
    have l1 := lt_of_below hb (lt_alloc _ _)
    have f1 : w1.frozen? ⟨w.heap.size, 0, none⟩ = false := (hb.frozen (p := ⟨w.heap.size, 0, none⟩) (lt_alloc _ _)).trans q1
    have B1 : Below w.heap.size w w1 := B0.trans (hb.mono B0.size)
    clear hb q0 q1 B0
    go_wp2_with fail
    refine bodyPost_ret (by rw [results_cell_tmp rfl]; go_simp; try rfl) rfl ?_
    exact ⟨_, by rw [HE.out], by rw [HV.out]; exact own_nil _ _, (B1.setCell (Nat.le_refl _) _).alloc (by simpa using B1.size) _⟩

end Go.Proofs.Ytdkgbfmgpmmliaa
