/-
  The contract of the program's FirstShifts. By an AI agent.
-/
import Derived.Test.YtgcmkjbahikpiaaFshI
namespace Go.Proofs.Ytgcmkjbahikpiaa
open Go.RowKit Go.Shelf Cv
set_option linter.unusedVariables false
set_option linter.unusedSimpArgs false
set_option maxRecDepth 100000

set_option maxHeartbeats 1000000 in
theorem impl_FirstShifts (ao : Option Addr) (S : List Int) (cap : Nat) (hn : S.length ≤ 4294967296) (ac : Option Addr) (C : List Int) (capc : Nat) (hnc : C.length ≤ 4294967296) (w : World) (hS : Ints w ao S) (hC : Ints w ac C) :
    Calls Try.prog 41 #[.agg #[.slice ao S.length cap], .slice ac C.length capc] w fun e w' => ∃ v, e = .returned (.tuple #[v, .int .i64 (eFsh S C)]) ∧ OwnInts w' w.heap.size v (vFsh S C) ∧ Below w.heap.size w w' := by
  have B0 : Below w.heap.size w (w.alloc (.cells #[.slice ao S.length cap] 28)) := by go_grown
  have c0 := cell_new w (.slice ao S.length cap) 28
  have l0 := lt_alloc w (.cells #[.slice ao S.length cap] 28)
  have hg := someWordsError_n ao S cap hn ac C capc hnc none [] 0 0 rfl (by omega) _ (hS.below B0) (hC.below B0) (.inl rfl)
  rw [eSome_nil] at hg
  by_cases he : eFull S C = 0
  · have hen : (eFull S C != 0) = false := by simp [he]
    obtain ⟨hz, h0⟩ := eFull_zero he
    obtain ⟨bc, oc, rfl, hbc, _⟩ := hC.at h0
    have hcall := Lib.hid fun W h1 h2 => firstShifts_any ao S cap ⟨bc, oc, none⟩ C capc hz h0 W h1 h2
    have HG := Lib.hid hg
    clear he hz h0 hg
    go_enter Try.func41, Try.ntmps41
    go_wp2_with fail
    refine HG.out.mono ?_
    rintro e w1 ⟨rfl, hb⟩
    have c1 := kept_cell hb c0 l0
    have B1 : Below w.heap.size w w1 := B0.trans (hb.mono B0.size)
    have s1 := B1.size
    go_wp2_with fail
    refine (hcall.out _ (hS.below B1) (hC.below B1)).mono ?_
    rintro e w2 ⟨v, rfl, own, hb2⟩
    go_wp2_with fail
    go_ret2
    exact ⟨_, rfl, own.rebase s1, B1.trans (hb2.mono s1)⟩
  · have hen : (eFull S C != 0) = true := by simpa using he
    have HE : Hid (eFsh S C = eFull S C) := Lib.hid (by unfold eFsh; rw [if_neg he])
    have HV : Hid (vFsh S C = []) := Lib.hid (by unfold vFsh; rw [HE.out, if_neg he])
    have HG := Lib.hid hg
    clear he hg
    go_enter Try.func41, Try.ntmps41
    go_wp2_with fail
    refine HG.out.mono ?_
    rintro e w1 ⟨rfl, hb⟩
    go_wp2_with fail
    go_ret2
    exact ⟨_, by rw [HE.out]; rfl, by rw [HV.out]; exact own_nil _ _, B0.trans (hb.mono B0.size)⟩

end Go.Proofs.Ytgcmkjbahikpiaa
