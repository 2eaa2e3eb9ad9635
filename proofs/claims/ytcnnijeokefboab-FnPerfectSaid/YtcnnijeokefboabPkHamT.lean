/-
  The model's Hamming code with its errors. By an AI agent.
-/
import Derived.Test.YtcnnijeokefboabPkHamS
namespace Go.Proofs.Ytcnnijeokefboab
open Go.RowKit Cv
set_option linter.unusedVariables false
set_option linter.unusedSimpArgs false
set_option maxRecDepth 100000

theorem results_cell_tmp2h {fn : Func} {p u1 u2 : Tmp} {ty : TypeId} (h : fn.results = #[.cell p ty, .tmp u1, .tmp u2]) (tmps : Array Value) (P : Program) (w : World) :
    (results fn tmps).run P w =
      ((asAddr (tmps.getD p undef)).run P w).andThen fun a w₁ => ((loadVar ty a).run P w₁).andThen fun v w₂ => .ok (.tuple #[v, tmps.getD u1 undef, tmps.getD u2 undef]) w₂ := by
  simp only [results, h]
  simp [Sem.run_bind, Result.andThen]
def vHamS (q m : Int) : List Int := if eCol 2 q m = 0 then hS q (colL q m.toNat).length else []
def vHamC (q m : Int) : List Int := if eCol 2 q m = 0 then selL (hamP q m.toNat) (nW (hS q (colL q m.toNat).length)).toNat else []
theorem own_nilh (w : World) (base : Nat) : OwnInts w base (.slice none 0 0) [] := World.ownsRow_nil _ _ _ _
theorem good_of {q m : Int} (h : (2 ≤ q ∧ q ≤ 3) ∧ 2 ≤ m ∧ m ≤ 3) (g : ¬ 8 < (colL q m.toNat).length) : goodQM q m.toNat := by
  rcases (show q = 2 ∨ q = 3 by omega) with rfl | rfl <;> rcases (show m = 2 ∨ m = 3 by omega) with rfl | rfl
  · exact .inl ⟨rfl, rfl⟩
  · exact .inr (.inl ⟨rfl, rfl⟩)
  · exact .inr (.inr ⟨rfl, rfl⟩)
  · exact absurd (by decide) g
theorem eHam_zero {q m : Int} (h : eCol 2 q m = 0) : goodQM q m.toNat := by
  by_cases h1 : (2 ≤ q ∧ q ≤ 3) ∧ 2 ≤ m ∧ m ≤ 3
  · by_cases g : 8 < (colL q m.toNat).length
    · rw [(eCol_big h1 g).1] at h; omega
    · exact good_of h1 g
  · rw [(eCol_no h1).1] at h; omega
theorem vHamS_len (q m : Int) : (vHamS q m).length ≤ 8 := by
  unfold vHamS
  split
  · rename_i h
    have := good_len (eHam_zero h)
    rw [hS_len]; omega
  · simp
theorem vHamC_len (q m : Int) : (vHamC q m).length ≤ 1024 := by
  unfold vHamC
  split
  · rename_i h
    have h1 := nW_bd (good_sp (eHam_zero h))
    have h2 := selL_len (hamP q m.toNat) (nW (hS q (colL q m.toNat).length)).toNat
    omega
  · simp
theorem vHam_no {q m : Int} (h : eCol 2 q m ≠ 0) : vHamS q m = [] ∧ vHamC q m = [] := by
  unfold vHamS vHamC; rw [if_neg h, if_neg h]; exact ⟨rfl, rfl⟩
theorem vHam_ok {q m : Int} (h : eCol 2 q m = 0) : vHamS q m = hS q (colL q m.toNat).length ∧ vHamC q m = selL (hamP q m.toNat) (nW (hS q (colL q m.toNat).length)).toNat := by
  unfold vHamS vHamC; rw [if_pos h, if_pos h]; exact ⟨rfl, rfl⟩
theorem cell_set1 {w : World} {b : Nat} {v : Value} {t : TypeId} (u : Value) (h : w.heap[b]? = some (.cells #[v] t (0, 0))) : (w.setCell ⟨b, 0, none⟩ u).cell? ⟨b, 0, none⟩ = some u :=
  World.cell?_setCell_same' _ _ _ (by rw [cell_of1 h]; rfl)

set_option maxHeartbeats 2000000 in
theorem spec_HammingCode (q : Int) (hq : -9223372036854775808 ≤ q ∧ q ≤ 9223372036854775807) (m : Int) (hm : -9223372036854775808 ≤ m ∧ m ≤ 9223372036854775807) (w : World) :
    Calls Try.prog 15 #[.int .i64 q, .int .i64 m] w fun e w' => ∃ vs v, e = .returned (.tuple #[.agg #[vs], v, .int .i64 (eCol 2 q m)]) ∧ OwnInts w' w.heap.size vs (vHamS q m) ∧ OwnInts w' w.heap.size v (vHamC q m) ∧ Below w.heap.size w w' := by
  obtain ⟨W, hW⟩ : ∃ W, W = w.alloc (.cells #[.slice none 0 0] 26) := ⟨_, rfl⟩
  have hWs : W.heap.size = w.heap.size + 1 := by rw [hW]; simp
  have B0 : Below w.heap.size w W := by rw [hW]; go_grown
  have rR : W.heap[w.heap.size]? = some (.cells #[.slice none 0 0] 26 (0, 0)) := by rw [hW]; exact heap_alloc_new _ _
  have HW := Lib.hid hW
  clear hW
  by_cases h : (2 ≤ q ∧ q ≤ 3) ∧ 2 ≤ m ∧ m ≤ 3
  · have b1 := inB_true (n := q) (low := 2) (high := 3) h.1.1 h.1.2
    have b2 := inB_true (n := m) (low := 2) (high := 3) h.2.1 h.2.2
    have hc := l06Columns_any q (by omega) m.toNat (by omega) (by omega) W
    have HH := Lib.hid fun g w => l06Hamming_any q m.toNat (good_of h g) w
    rw [show ((m.toNat : Nat) : Int) = m by omega] at hc HH
    have HB := Lib.hid (eCol_big h)
    have HO := Lib.hid (eCol_ok h)
    have HV := Lib.hid (vHam_ok (q := q) (m := m))
    obtain ⟨R, hR⟩ : ∃ R, R = colL q m.toNat := ⟨_, rfl⟩
    rw [← hR] at hc HB HO HH HV
    have HC := Lib.hid hc
    clear h hc hR
    by_cases g : 8 < R.length
    · obtain ⟨e1, e2⟩ := HB.out g
      obtain ⟨v1, v2⟩ := vHam_no (q := q) (m := m) (by omega)
      have E1 := Lib.hid e1
      have E2 := Lib.hid v1
      have E3 := Lib.hid v2
      have gI : (8 : Int) < (R.length : Int) := by omega
      clear e1 e2 g v1 v2
      go_enter Try.func15, Try.ntmps15
      go_wp2_with fail
      rw [← HW.out]
      refine (l01In_any _ _ _ _).mono ?_
      rintro e w' ⟨rfl, rfl⟩
      go_wp2_with (first | (go_at_call 34; refine (l01In_any _ _ _ _).mono ?_; rintro e w' ⟨rfl, rfl⟩) | fail)
      refine HC.out.mono ?_
      rintro e w1 ⟨gg, c, rfl, oc, hb⟩
      have rR1 := (hb.block _ (by rw [hWs]; omega)).trans rR
      have rc := cell_of1 rR1
      have rf := frozen_of_row w1 w.heap.size 0 _ _ rR1
      have rs := cell_set1 (.slice none 0 0) rR1
      have B1 := (B0.trans (hb.mono B0.size)).setCell (p := ⟨w.heap.size, 0, none⟩) (Nat.le_refl _) (.slice none 0 0)
      clear oc hb rR rR1
      go_wp2_with fail
      refine bodyPost_ret (by rw [results_cell_tmp2h rfl]; go_simp; try rfl) rfl ?_
      exact ⟨.slice none 0 0, _, by rw [E1.out], by rw [E2.out]; exact own_nilh _ _, by rw [E3.out]; exact own_nilh _ _, B1⟩
    · obtain ⟨e1, e2⟩ := HO.out g
      obtain ⟨v1, v2⟩ := HV.out e1
      have E1 := Lib.hid e1
      have E2 := Lib.hid v1
      have E3 := Lib.hid v2
      have gI : ¬ (8 : Int) < (R.length : Int) := by omega
      have HH2 := Lib.hid (HH.out g)
      clear e1 e2 g v1 v2
      go_enter Try.func15, Try.ntmps15
      go_wp2_with fail
      rw [← HW.out]
      refine (l01In_any _ _ _ _).mono ?_
      rintro e w' ⟨rfl, rfl⟩
      go_wp2_with (first | (go_at_call 34; refine (l01In_any _ _ _ _).mono ?_; rintro e w' ⟨rfl, rfl⟩) | fail)
      refine HC.out.mono ?_
      rintro e w1 ⟨gg, c, rfl, oc, hb⟩
      have s1 := hb.size
      have rR1 := (hb.block _ (by rw [hWs]; omega)).trans rR
      have B1 := B0.trans (hb.mono B0.size)
      clear oc hb rR
      go_wp2_with fail
      refine (HH2.out _).mono ?_
      rintro e w2 ⟨vS, vC, rfl, oS, oC, hb⟩
      have s2 := hb.size
      have rR2 := (hb.block _ (by omega)).trans rR1
      have B2 := B1.trans (hb.mono B1.size)
      obtain ⟨aS, cS, rfl⟩ := own_shph oS
      obtain ⟨aC, cC, rfl⟩ := own_shph oC
      clear hb rR1
      have oS3 := (oS.alloc (.cells #[.slice aS (hS q R.length).length cS] 26)).rebase (base' := w.heap.size + 1) (by omega)
      have oC3 := (oC.alloc (.cells #[.slice aS (hS q R.length).length cS] 26)).rebase (base' := w.heap.size + 1) (by omega)
      have cO := cell_new w2 (.slice aS (hS q R.length).length cS) 26
      have hbA : Below w2.heap.size w2 (w2.alloc (.cells #[.slice aS (hS q R.length).length cS] 26)) := (Below.refl _ _).alloc (Nat.le_refl _) _
      have rR3 := (hbA.block _ (by omega)).trans rR2
      have B3 := B2.alloc B2.size (.cells #[.slice aS (hS q R.length).length cS] 26)
      have rc := cell_of1 rR3
      have rf := frozen_of_row _ w.heap.size 0 _ _ rR3
      have rs := cell_set1 (.slice aS (hS q R.length).length cS) rR3
      have oS4 := oS3.setBelow (a := ⟨w.heap.size, 0, none⟩) (Nat.lt_succ_self _) (.slice aS (hS q R.length).length cS)
      have oC4 := oC3.setBelow (a := ⟨w.heap.size, 0, none⟩) (Nat.lt_succ_self _) (.slice aS (hS q R.length).length cS)
      have B4 := B3.setCell (p := ⟨w.heap.size, 0, none⟩) (Nat.le_refl _) (.slice aS (hS q R.length).length cS)
      clear oS oC rR2 rR3 hbA B3 oS3 oC3
      go_wp2_with fail
      refine bodyPost_ret (by rw [results_cell_tmp2h rfl]; go_simp; try rfl) rfl ?_
      exact ⟨_, _, by rw [E1.out], by rw [E2.out]; exact oS4.rebase (Nat.le_succ _), by rw [E3.out]; exact oC4.rebase (Nat.le_succ _), B4⟩
  · obtain ⟨e1, _⟩ := eCol_no h
    obtain ⟨v1, v2⟩ := vHam_no (q := q) (m := m) (by omega)
    have E1 := Lib.hid e1
    have E2 := Lib.hid v1
    have E3 := Lib.hid v2
    have rc := cell_of1 rR
    have rf := frozen_of_row W w.heap.size 0 _ _ rR
    have rs := cell_set1 (.slice none 0 0) rR
    have B1 := B0.setCell (p := ⟨w.heap.size, 0, none⟩) (Nat.le_refl _) (.slice none 0 0)
    by_cases h1 : 2 ≤ q ∧ q ≤ 3
    · have b1 := inB_true (n := q) (low := 2) (high := 3) h1.1 h1.2
      have b2 : inB m 2 3 = false := by unfold inB; simp; omega
      clear h h1 e1 v1 v2 rR
      go_enter Try.func15, Try.ntmps15
      go_wp2_with fail
      rw [← HW.out]
      refine (l01In_any _ _ _ _).mono ?_
      rintro e w' ⟨rfl, rfl⟩
      go_wp2_with (first | (go_at_call 34; refine (l01In_any _ _ _ _).mono ?_; rintro e w' ⟨rfl, rfl⟩) | fail)
      refine bodyPost_ret (by rw [results_cell_tmp2h rfl]; go_simp; try rfl) rfl ?_
      exact ⟨.slice none 0 0, _, by rw [E1.out], by rw [E2.out]; exact own_nilh _ _, by rw [E3.out]; exact own_nilh _ _, B1⟩
    · have b1 : inB q 2 3 = false := by unfold inB; simp; omega
      clear h h1 e1 v1 v2 rR
      go_enter Try.func15, Try.ntmps15
      go_wp2_with fail
      rw [← HW.out]
      refine (l01In_any _ _ _ _).mono ?_
      rintro e w' ⟨rfl, rfl⟩
      go_wp2_with fail
      refine bodyPost_ret (by rw [results_cell_tmp2h rfl]; go_simp; try rfl) rfl ?_
      exact ⟨.slice none 0 0, _, by rw [E1.out], by rw [E2.out]; exact own_nilh _ _, by rw [E3.out]; exact own_nilh _ _, B1⟩

end Go.Proofs.Ytcnnijeokefboab
