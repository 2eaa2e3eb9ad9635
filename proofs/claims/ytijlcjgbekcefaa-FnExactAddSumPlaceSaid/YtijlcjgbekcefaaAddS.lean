/-
  The contract of the model of AddSumPlace. By an AI agent.
-/
import Derived.Test.YtijlcjgbekcefaaMath22
import Derived.Test.YtijlcjgbekcefaaDigits
import Derived.Test.YtijlcjgbekcefaaDsS
import Derived.Test.YtijlcjgbekcefaaDs
import Derived.Deep.RegionHeld3
namespace Go.Proofs.Ytijlcjgbekcefaa
open Go.RowKit Cv
set_option linter.unusedVariables false
set_option linter.unusedSimpArgs false
set_option maxRecDepth 100000

theorem box2r (w : World) (a c : Value) (t : TypeId) : ∃ W, W = (w.alloc (.cells #[a] t)).alloc (.cells #[c] t) ∧ W.cell? ⟨w.heap.size, 0, none⟩ = some a ∧ W.heap[w.heap.size + 1]? = some (.cells #[c] t (0, 0)) ∧ W.heap.size = w.heap.size + 2 ∧ Below w.heap.size w W := by
  have s1 : (w.alloc (.cells #[a] t)).heap.size = w.heap.size + 1 := World.size_alloc _ _
  have s2 : ((w.alloc (.cells #[a] t)).alloc (.cells #[c] t)).heap.size = w.heap.size + 2 := by rw [World.size_alloc, s1]
  have b1 : Below (w.alloc (.cells #[a] t)).heap.size (w.alloc (.cells #[a] t)) ((w.alloc (.cells #[a] t)).alloc (.cells #[c] t)) := (Below.refl _ _).alloc (Nat.le_refl _) _
  have b0 : Below w.heap.size w ((w.alloc (.cells #[a] t)).alloc (.cells #[c] t)) := ((Below.refl _ _).alloc (Nat.le_refl _) _).trans (b1.mono (by omega))
  have x1 := kept_cell b1 (cell_new w a t) (lt_alloc _ _)
  have x3 := heap_alloc_last (w.alloc (.cells #[a] t)) (.cells #[c] t)
  rw [s1] at x3
  exact ⟨_, rfl, x1, x3, s2, b0⟩
theorem own_acr {W W' : World} {base g n c m : Nat} {L : List Int} (h : OwnInts W base (.slice (some ⟨g, 0, none⟩) n c) L) (hb : Below m W W') (hg : g < m) : OwnInts W' base (.slice (some ⟨g, 0, none⟩) n c) L := by
  refine ⟨h.1, ?_⟩
  rcases h.2 with h2 | ⟨g', c', cur, hv, hb', hh, r⟩
  · exact .inl h2
  · simp only [Value.slice.injEq, Option.some.injEq, Addr.mk.injEq, and_true, true_and] at hv
    obtain ⟨rfl, rfl, rfl⟩ := hv
    exact .inr ⟨g, c, cur, by simp, hb', by rw [hb.block g hg]; exact hh, r⟩
set_option maxHeartbeats 4000000 in
theorem spec_AddSumPlace_e1 (as0 : Addr) (S : List Int) (cap : Nat) (hn : S.length ≤ 4294967296) (ac : Addr) (C : List Int) (capc : Nat) (hnc : C.length ≤ 4294967296) (q : Int) (hqb : -9223372036854775808 ≤ q ∧ q ≤ 9223372036854775807) (w : World) (hS : Ints w (some as0) S) (hC : Ints w (some ac) C) (E : Int) (hE : eCode S C = E) (hE0 : E ≠ 0) :
    Calls Try.prog 6 #[.agg #[.slice (some as0) S.length cap], .slice (some ac) C.length capc, .int .i64 q] w fun e w' => ∃ m vs v, e = .returned (.tuple #[.agg #[vs], v, .int .i64 (eAdd S C q)]) ∧ w.heap.size ≤ m ∧ RowIn vs w.heap.size m ∧ OwnInts w' w.heap.size vs (vAddS S C q) ∧ OwnInts w' m v (vAddC S C q) ∧ m ≤ w'.heap.size ∧ Below w.heap.size w w' := by
  obtain ⟨W0, hW0, cS, rR, z0, B0⟩ := box2r w (.slice (some as0) S.length cap) (.slice none 0 0) 26
  have HW0 := Lib.hid hW0
  have z0a : w.heap.size + 2 ≤ W0.heap.size := by omega
  clear hW0 z0
  have HEC := Lib.hid hE
  have hEb : (E != 0) = true := by simpa using hE0
  have hEc : (E == 0) = false := by simpa using hE0
  have HE : Hid (eAdd S C q = E) := Lib.hid (by unfold eAdd; rw [if_pos (by rw [hE]; exact hE0), hE])
  have HS0 : Hid (vAddS S C q = []) := Lib.hid (by unfold vAddS; rw [if_neg (by rw [HE.out]; exact hE0)])
  have HC0 : Hid (vAddC S C q = []) := Lib.hid (by unfold vAddC; rw [if_neg (by rw [HE.out]; exact hE0)])
  clear hE hE0
  go_enter Try.func6, Try.ntmps6
  go_wp2_with fail
  rw [← HW0.out]
  have h1 := l01Given_any (some as0) S cap hn (some ac) C capc hnc W0 (hS.below B0) (hC.below B0)
  rw [HEC.out] at h1
  refine h1.mono ?_
  rintro e w1 ⟨rfl, hb1⟩
  have s1 : w.heap.size + 2 ≤ w1.heap.size := by have := hb1.size; omega
  have cS1 := kept_cell hb1 cS (by omega)
  have rR1 := row_below rR hb1 (by omega)
  have B1 := B0.trans (hb1.mono (by omega))
  clear h1 hb1
  have rc : w1.cell? ⟨w.heap.size + 1, 0, none⟩ = some (.slice none 0 0) := by rw [cell_of_row w1 (w.heap.size + 1) 0 _ _ _ rR1]; rfl
  have rf : w1.frozen? ⟨w.heap.size + 1, 0, none⟩ = false := by have h' := rR1; simp [World.frozen?, h']
  have rs : (w1.setCell ⟨w.heap.size + 1, 0, none⟩ (.slice none 0 0)).cell? ⟨w.heap.size + 1, 0, none⟩ = some (.slice none 0 0) := World.cell?_setCell_same' _ _ _ (by rw [rc]; rfl)
  have B9 : Below w.heap.size w (w1.setCell ⟨w.heap.size + 1, 0, none⟩ (.slice none 0 0)) := B1.setCell (show w.heap.size ≤ w.heap.size + 1 by omega) _
  go_wp2_with fail
  refine bodyPost_ret (by rw [results_cell_tmp2 rfl]; go_simp; try rfl) rfl ?_
  exact ⟨w.heap.size, .slice none 0 0, _, by rw [HE.out], Nat.le_refl _, fun k hk => (by cases hk), by rw [HS0.out]; exact own_nil _ _, by rw [HC0.out]; exact own_nil _ _, B9.size, B9⟩

set_option maxHeartbeats 4000000 in
theorem spec_AddSumPlace_e2 (as0 : Addr) (S : List Int) (cap : Nat) (hn : S.length ≤ 4294967296) (ac : Addr) (C : List Int) (capc : Nat) (hnc : C.length ≤ 4294967296) (q : Int) (hqb : -9223372036854775808 ≤ q ∧ q ≤ 9223372036854775807) (w : World) (hS : Ints w (some as0) S) (hC : Ints w (some ac) C) (hE : eCode S C = 0) (hq : q < 2 ∨ 4 < q) :
    Calls Try.prog 6 #[.agg #[.slice (some as0) S.length cap], .slice (some ac) C.length capc, .int .i64 q] w fun e w' => ∃ m vs v, e = .returned (.tuple #[.agg #[vs], v, .int .i64 (eAdd S C q)]) ∧ w.heap.size ≤ m ∧ RowIn vs w.heap.size m ∧ OwnInts w' w.heap.size vs (vAddS S C q) ∧ OwnInts w' m v (vAddC S C q) ∧ m ≤ w'.heap.size ∧ Below w.heap.size w w' := by
  obtain ⟨W0, hW0, cS, rR, z0, B0⟩ := box2r w (.slice (some as0) S.length cap) (.slice none 0 0) 26
  have HW0 := Lib.hid hW0
  have z0a : w.heap.size + 2 ≤ W0.heap.size := by omega
  clear hW0 z0
  have HEC := Lib.hid hE
  have HIN : Hid (inB q 2 4 = false) := Lib.hid (by unfold inB; simp; omega)
  have HE : Hid (eAdd S C q = 2) := Lib.hid (by unfold eAdd; rw [if_neg (by rw [hE]; decide), if_pos hq])
  have HS0 : Hid (vAddS S C q = []) := Lib.hid (by unfold vAddS; rw [if_neg (by rw [HE.out]; decide)])
  have HC0 : Hid (vAddC S C q = []) := Lib.hid (by unfold vAddC; rw [if_neg (by rw [HE.out]; decide)])
  clear hE hq
  go_enter Try.func6, Try.ntmps6
  go_wp2_with fail
  rw [← HW0.out]
  have h1 := l01Given_any (some as0) S cap hn (some ac) C capc hnc W0 (hS.below B0) (hC.below B0)
  rw [HEC.out] at h1
  refine h1.mono ?_
  rintro e w1 ⟨rfl, hb1⟩
  have s1 : w.heap.size + 2 ≤ w1.heap.size := by have := hb1.size; omega
  have cS1 := kept_cell hb1 cS (by omega)
  have rR1 := row_below rR hb1 (by omega)
  have B1 := B0.trans (hb1.mono (by omega))
  clear h1 hb1
  have hin := l01In_any q 2 4 w1
  rw [HIN.out] at hin
  go_wp2_with fail
  refine hin.mono ?_
  rintro e w1b ⟨rfl, rfl⟩
  have rc : w1.cell? ⟨w.heap.size + 1, 0, none⟩ = some (.slice none 0 0) := by rw [cell_of_row w1 (w.heap.size + 1) 0 _ _ _ rR1]; rfl
  have rf : w1.frozen? ⟨w.heap.size + 1, 0, none⟩ = false := by have h' := rR1; simp [World.frozen?, h']
  have rs : (w1.setCell ⟨w.heap.size + 1, 0, none⟩ (.slice none 0 0)).cell? ⟨w.heap.size + 1, 0, none⟩ = some (.slice none 0 0) := World.cell?_setCell_same' _ _ _ (by rw [rc]; rfl)
  have B9 : Below w.heap.size w (w1.setCell ⟨w.heap.size + 1, 0, none⟩ (.slice none 0 0)) := B1.setCell (show w.heap.size ≤ w.heap.size + 1 by omega) _
  go_wp2_with fail
  refine bodyPost_ret (by rw [results_cell_tmp2 rfl]; go_simp; try rfl) rfl ?_
  exact ⟨w.heap.size, .slice none 0 0, _, by rw [HE.out], Nat.le_refl _, fun k hk => (by cases hk), by rw [HS0.out]; exact own_nil _ _, by rw [HC0.out]; exact own_nil _ _, B9.size, B9⟩

set_option maxHeartbeats 4000000 in
theorem spec_AddSumPlace_e3 (as0 : Addr) (S : List Int) (cap : Nat) (hn : S.length ≤ 4294967296) (ac : Addr) (C : List Int) (capc : Nat) (hnc : C.length ≤ 4294967296) (q : Int) (hqb : -9223372036854775808 ≤ q ∧ q ≤ 9223372036854775807) (w : World) (hS : Ints w (some as0) S) (hC : Ints w (some ac) C) (hE : eCode S C = 0) (hq : 2 ≤ q ∧ q ≤ 4) (hsx : isSp (S ++ [q]) = false) :
    Calls Try.prog 6 #[.agg #[.slice (some as0) S.length cap], .slice (some ac) C.length capc, .int .i64 q] w fun e w' => ∃ m vs v, e = .returned (.tuple #[.agg #[vs], v, .int .i64 (eAdd S C q)]) ∧ w.heap.size ≤ m ∧ RowIn vs w.heap.size m ∧ OwnInts w' w.heap.size vs (vAddS S C q) ∧ OwnInts w' m v (vAddC S C q) ∧ m ≤ w'.heap.size ∧ Below w.heap.size w w' := by
  obtain ⟨W0, hW0, cS, rR, z0, B0⟩ := box2r w (.slice (some as0) S.length cap) (.slice none 0 0) 26
  have HW0 := Lib.hid hW0
  have z0a : w.heap.size + 2 ≤ W0.heap.size := by omega
  clear hW0 z0
  have HEC := Lib.hid hE
  have HIN : Hid (inB q 2 4 = true) := Lib.hid (by unfold inB; simp; omega)
  obtain ⟨hSp, hc1, hc2⟩ := eCode_zero hE
  have hS8 := hSp.hi
  have hS1 := hSp.lo
  have HSp := Lib.hid hSp
  have hlenC := code_len hSp hc1 hc2
  have HE : Hid (eAdd S C q = 3) := Lib.hid (by unfold eAdd; rw [if_neg (by rw [hE]; decide), if_neg (by omega), if_neg (by rw [hsx]; decide)])
  have HS0 : Hid (vAddS S C q = []) := Lib.hid (by unfold vAddS; rw [if_neg (by rw [HE.out]; decide)])
  have HC0 : Hid (vAddC S C q = []) := Lib.hid (by unfold vAddC; rw [if_neg (by rw [HE.out]; decide)])
  clear hE hSp hc1 hc2
  go_enter Try.func6, Try.ntmps6
  go_wp2_with fail
  rw [← HW0.out]
  have h1 := l01Given_any (some as0) S cap hn (some ac) C capc hnc W0 (hS.below B0) (hC.below B0)
  rw [HEC.out] at h1
  refine h1.mono ?_
  rintro e w1 ⟨rfl, hb1⟩
  have s1 : w.heap.size + 2 ≤ w1.heap.size := by have := hb1.size; omega
  have cS1 := kept_cell hb1 cS (by omega)
  have rR1 := row_below rR hb1 (by omega)
  have B1 := B0.trans (hb1.mono (by omega))
  clear h1 hb1
  have hin := l01In_any q 2 4 w1
  rw [HIN.out] at hin
  go_wp2_with fail
  refine hin.mono ?_
  rintro e w1b ⟨rfl, rfl⟩
  have hX1 := ints_new w1 [q] 2
  have hpl := l03Plus_any as0 ⟨w1.heap.size, 0, none⟩ S [q] cap 1 (by omega) (by simp) (w1.alloc (.cells #[.int .i64 q] 2)) (hS.below (B1.alloc (by omega) _)) hX1
  rw [hsx] at hpl
  have HPL := Lib.hid hpl
  clear hpl hX1
  go_wp2_with fail
  refine HPL.out.mono ?_
  rintro e w2 ⟨vs, rfl, own, hb2⟩
  obtain ⟨g, c, hv, _⟩ := own_some own (by simp)
  obtain ⟨M, hM⟩ : ∃ M, M = (S ++ [q]).length := ⟨_, rfl⟩
  rw [← hM] at hv
  subst hv
  have HM := Lib.hid hM
  clear hM
  have h12 : Below w1.heap.size w1 w2 := ((Below.refl _ w1).alloc (Nat.le_refl _) _).trans (hb2.mono (by simp))
  have s2 : w.heap.size + 2 ≤ w2.heap.size := by have := h12.size; omega
  have cS2 := kept_cell h12 cS1 (by omega)
  have rR2 := row_below rR1 h12 (by omega)
  have B2 := B1.trans (h12.mono (by omega))
  have row2 := own.rowIn
  have s12 := h12.size
  clear hb2 h12 cS1 rR1 B1 HPL
  have cO := cell_new w2 (.slice (some ⟨g, 0, none⟩) M c) 26
  have h23 : Below w2.heap.size w2 (w2.alloc (.cells #[.slice (some ⟨g, 0, none⟩) M c] 26)) := (Below.refl _ _).alloc (Nat.le_refl _) _
  have cS3 := kept_cell h23 cS2 (by omega)
  have rR3 := row_alloc rR2 (.cells #[.slice (some ⟨g, 0, none⟩) M c] 26)
  have own3 := own.alloc (.cells #[.slice (some ⟨g, 0, none⟩) M c] 26)
  have B3 := B2.alloc (by omega) (.cells #[.slice (some ⟨g, 0, none⟩) M c] 26)
  clear own cS2 rR2 B2 h23
  have rc : (w2.alloc (.cells #[.slice (some ⟨g, 0, none⟩) M c] 26)).cell? ⟨w.heap.size + 1, 0, none⟩ = some (.slice none 0 0) := by rw [cell_of_row (w2.alloc (.cells #[.slice (some ⟨g, 0, none⟩) M c] 26)) (w.heap.size + 1) 0 _ _ _ rR3]; rfl
  have rf : (w2.alloc (.cells #[.slice (some ⟨g, 0, none⟩) M c] 26)).frozen? ⟨w.heap.size + 1, 0, none⟩ = false := by have h' := rR3; simp [World.frozen?, h']
  have rs : ((w2.alloc (.cells #[.slice (some ⟨g, 0, none⟩) M c] 26)).setCell ⟨w.heap.size + 1, 0, none⟩ (.slice none 0 0)).cell? ⟨w.heap.size + 1, 0, none⟩ = some (.slice none 0 0) := World.cell?_setCell_same' _ _ _ (by rw [rc]; rfl)
  have B9 : Below w.heap.size w ((w2.alloc (.cells #[.slice (some ⟨g, 0, none⟩) M c] 26)).setCell ⟨w.heap.size + 1, 0, none⟩ (.slice none 0 0)) := B3.setCell (show w.heap.size ≤ w.heap.size + 1 by omega) _
  go_wp2_with fail
  refine bodyPost_ret (by rw [results_cell_tmp2 rfl]; go_simp; try rfl) rfl ?_
  exact ⟨w.heap.size, .slice none 0 0, _, by rw [HE.out], Nat.le_refl _, fun k hk => (by cases hk), by rw [HS0.out]; exact own_nil _ _, by rw [HC0.out]; exact own_nil _ _, B9.size, B9⟩

set_option maxHeartbeats 4000000 in
theorem spec_AddSumPlace_ok (as0 : Addr) (S : List Int) (cap : Nat) (hn : S.length ≤ 4294967296) (ac : Addr) (C : List Int) (capc : Nat) (hnc : C.length ≤ 4294967296) (q : Int) (hqb : -9223372036854775808 ≤ q ∧ q ≤ 9223372036854775807) (w : World) (hS : Ints w (some as0) S) (hC : Ints w (some ac) C) (hE : eCode S C = 0) (hq : 2 ≤ q ∧ q ≤ 4) (hsx : isSp (S ++ [q]) = true) :
    Calls Try.prog 6 #[.agg #[.slice (some as0) S.length cap], .slice (some ac) C.length capc, .int .i64 q] w fun e w' => ∃ m vs v, e = .returned (.tuple #[.agg #[vs], v, .int .i64 (eAdd S C q)]) ∧ w.heap.size ≤ m ∧ RowIn vs w.heap.size m ∧ OwnInts w' w.heap.size vs (vAddS S C q) ∧ OwnInts w' m v (vAddC S C q) ∧ m ≤ w'.heap.size ∧ Below w.heap.size w w' := by
  obtain ⟨W0, hW0, cS, rR, z0, B0⟩ := box2r w (.slice (some as0) S.length cap) (.slice none 0 0) 26
  have HW0 := Lib.hid hW0
  have z0a : w.heap.size + 2 ≤ W0.heap.size := by omega
  clear hW0 z0
  have HEC := Lib.hid hE
  have HIN : Hid (inB q 2 4 = true) := Lib.hid (by unfold inB; simp; omega)
  obtain ⟨hSp, hc1, hc2⟩ := eCode_zero hE
  have hS8 := hSp.hi
  have hS1 := hSp.lo
  have HSp := Lib.hid hSp
  have hlenC := code_len hSp hc1 hc2
  have HE : Hid (eAdd S C q = 0) := Lib.hid (by unfold eAdd; rw [if_neg (by rw [hE]; decide), if_neg (by omega), if_pos hsx])
  have HVS : Hid (vAddS S C q = S ++ [q]) := Lib.hid (by unfold vAddS; rw [if_pos HE.out])
  have HVC : Hid (vAddC S C q = addC S C q) := Lib.hid (by unfold vAddC; rw [if_pos HE.out])
  have HC1 : Hid (∀ i, i < C.length → 0 ≤ gi C i ∧ gi C i < 1024) := Lib.hid fun i hi => by have := hc1 i hi; have := (nW_bd hSp).2; omega
  clear hE hSp hc1 hc2
  go_enter Try.func6, Try.ntmps6
  go_wp2_with fail
  rw [← HW0.out]
  have h1 := l01Given_any (some as0) S cap hn (some ac) C capc hnc W0 (hS.below B0) (hC.below B0)
  rw [HEC.out] at h1
  refine h1.mono ?_
  rintro e w1 ⟨rfl, hb1⟩
  have s1 : w.heap.size + 2 ≤ w1.heap.size := by have := hb1.size; omega
  have cS1 := kept_cell hb1 cS (by omega)
  have rR1 := row_below rR hb1 (by omega)
  have B1 := B0.trans (hb1.mono (by omega))
  clear h1 hb1
  have hin := l01In_any q 2 4 w1
  rw [HIN.out] at hin
  go_wp2_with fail
  refine hin.mono ?_
  rintro e w1b ⟨rfl, rfl⟩
  have hX1 := ints_new w1 [q] 2
  have hpl := l03Plus_any as0 ⟨w1.heap.size, 0, none⟩ S [q] cap 1 (by omega) (by simp) (w1.alloc (.cells #[.int .i64 q] 2)) (hS.below (B1.alloc (by omega) _)) hX1
  rw [hsx] at hpl
  have HPL := Lib.hid hpl
  clear hpl hX1
  go_wp2_with fail
  refine HPL.out.mono ?_
  rintro e w2 ⟨vs, rfl, own, hb2⟩
  obtain ⟨g, c, hv, _⟩ := own_some own (by simp)
  obtain ⟨M, hM⟩ : ∃ M, M = (S ++ [q]).length := ⟨_, rfl⟩
  rw [← hM] at hv
  subst hv
  have HM := Lib.hid hM
  clear hM
  have h12 : Below w1.heap.size w1 w2 := ((Below.refl _ w1).alloc (Nat.le_refl _) _).trans (hb2.mono (by simp))
  have s2 : w.heap.size + 2 ≤ w2.heap.size := by have := h12.size; omega
  have cS2 := kept_cell h12 cS1 (by omega)
  have rR2 := row_below rR1 h12 (by omega)
  have B2 := B1.trans (h12.mono (by omega))
  have row2 := own.rowIn
  have s12 := h12.size
  clear hb2 h12 cS1 rR1 B1 HPL
  have cO := cell_new w2 (.slice (some ⟨g, 0, none⟩) M c) 26
  have h23 : Below w2.heap.size w2 (w2.alloc (.cells #[.slice (some ⟨g, 0, none⟩) M c] 26)) := (Below.refl _ _).alloc (Nat.le_refl _) _
  have cS3 := kept_cell h23 cS2 (by omega)
  have rR3 := row_alloc rR2 (.cells #[.slice (some ⟨g, 0, none⟩) M c] 26)
  have own3 := own.alloc (.cells #[.slice (some ⟨g, 0, none⟩) M c] 26)
  have B3 := B2.alloc (by omega) (.cells #[.slice (some ⟨g, 0, none⟩) M c] 26)
  clear own cS2 rR2 B2 h23
  obtain ⟨m, hm⟩ : ∃ m, m = w2.heap.size + 1 := ⟨_, rfl⟩
  have oo := own_empty (w2.alloc (.cells #[.slice (some ⟨g, 0, none⟩) M c] 26)) m (by rw [hm]; simp) (n := m) (by rw [hm]; simp)
  have h34 : Below (w2.alloc (.cells #[.slice (some ⟨g, 0, none⟩) M c] 26)).heap.size (w2.alloc (.cells #[.slice (some ⟨g, 0, none⟩) M c] 26)) ((w2.alloc (.cells #[.slice (some ⟨g, 0, none⟩) M c] 26)).alloc (.cells #[] 2)) := (Below.refl _ _).alloc (Nat.le_refl _) _
  have cS4 := kept_cell h34 cS3 (by simp; omega)
  have cO4 := kept_cell h34 cO (by simp)
  have rR4 := row_alloc rR3 (.cells #[] 2)
  have own4 := own3.alloc (.cells #[] 2)
  have B4 := B3.alloc (by simp; omega) (.cells #[] 2)
  have Bm0 : Below m ((w2.alloc (.cells #[.slice (some ⟨g, 0, none⟩) M c] 26)).alloc (.cells #[] 2)) ((w2.alloc (.cells #[.slice (some ⟨g, 0, none⟩) M c] 26)).alloc (.cells #[] 2)) := Below.refl _ _
  clear h34 cS3 cO rR3 own3 B3
  obtain ⟨W4, hW4⟩ : ∃ W4, W4 = (w2.alloc (.cells #[.slice (some ⟨g, 0, none⟩) M c] 26)).alloc (.cells #[] 2) := ⟨_, rfl⟩
  have s4 : m ≤ W4.heap.size := by rw [hW4, hm]; simp
  rw [← hW4] at oo cS4 cO4 rR4 own4 B4 Bm0
  have HW4 := Lib.hid hW4
  have hm1 : w2.heap.size < m := by omega
  obtain ⟨qb, hqb2⟩ : ∃ qb, qb = w2.heap.size := ⟨_, rfl⟩
  rw [← hqb2] at cO4
  have hqb3 : qb < m := by omega
  have hw2m : w2.heap.size ≤ m := by omega
  have Hqb := Lib.hid hqb2
  have Hm := Lib.hid hm
  clear hW4 hm hqb2 Bm0
  go_wp2_with fail
  rw [← HW4.out]
  go_loopw [12, 45] (fun v i wr => ∃ k : Nat, k ≤ C.length ∧ i = .int .i64 k ∧ OwnInts wr m v ((addC S C q).take k) ∧ Below m W4 wr ∧ m ≤ wr.heap.size ∧ Below w.heap.size w wr) (fun _ i _ => C.length - (intOf i).toNat)
  case atStart =>
    refine ⟨0, Nat.zero_le _, rfl, ?_, Below.refl _ _, s4, B4⟩
    rw [Hm.out] at oo ⊢
    exact oo
  case round =>
    clear oo B4
    obtain ⟨k, hk, rfl, oo, Bm, sm, B⟩ := hrel
    by_cases hlt : k < C.length
    · obtain ⟨b, o, hbo, hbl, hc⟩ := hC.at hlt
      obtain rfl := Option.some.inj hbo
      clear hbo
      have hck0 := hc k hlt
      have hck := kept_cell B hck0 hbl
      have cSr := kept_cell Bm cS4 (by omega)
      have lS : w.heap.size < wr.heap.size := by omega
      have hbw : b < wr.heap.size := lt_of_below B hbl
      obtain ⟨x1, x2⟩ := HC1.out k hlt
      obtain ⟨x, hx⟩ : ∃ x, x = gi C k := ⟨_, rfl⟩
      rw [← hx] at hck hck0 x1 x2
      have HXX := Lib.hid hx
      clear hc hx
      go_wp2_with fail
      go_region_held3 (fun w' => w'.cell? ⟨w.heap.size, 0, none⟩ = some (.slice (some as0) S.length cap) ∧ w'.cell? ⟨b, o + k, none⟩ = some (.int .i64 x)) (first | exact ⟨cSr, hck⟩ | exact ⟨kept_cell hb5 cSr lS, kept_cell hb5 hck hbw⟩) (first | (go_at_call 22; refine (l01Digits_any (some as0) S cap HSp.out.hi HSp.out.bd x x1 (by omega) _ (hS.below B.drew)).mono ?_; rintro e w5 ⟨gd, rfl, od, hb5'⟩; have hb5 : Below wr.heap.size wr w5 := (Below.refl _ wr).drew.trans hb5'))
      replace oo := oo.below hb5
      replace hck := kept_cell hb5 hck hbw
      have Bm5 := Bm.trans (hb5.mono sm)
      have B5 := B.trans (hb5.mono B.size)
      have sm5 : m ≤ w5.heap.size := by have := hb5.size; omega
      obtain ⟨DG, hDG⟩ : ∃ DG, DG = digs S x := ⟨_, rfl⟩
      have hDl : DG.length = S.length := by rw [hDG]; exact digs_length _ _
      have HDb : Hid (∀ i, i < DG.length → 0 ≤ gi DG i ∧ gi DG i ≤ 4) := Lib.hid fun i hi => by
        rw [hDG] at hi ⊢
        rw [digs_length] at hi
        rw [gi_digs _ _ _ hi]
        have h1 := dig_bd S x HSp.out.bd i hi
        have h2 := HSp.out.bd i hi
        omega
      rw [← hDG] at od
      have HDl := Lib.hid hDl
      have HDG := Lib.hid hDG
      clear hb5 hb5' cSr lS hbw Bm B sm hDG hDl
      go_wp2_with fail
      go_loopw [15, 56] (fun sv i wi => ∃ j : Nat, j ≤ S.length ∧ i = .int .i64 j ∧ sv = .int .i64 (sumTo DG j) ∧ wi = w5) (fun _ i _ => S.length - (intOf i).toNat)
      case atStart => exact ⟨0, Nat.zero_le _, rfl, rfl, rfl⟩
      case round =>
        obtain ⟨j, hj, rfl, rfl, rfl⟩ := hrel
        obtain ⟨t1, t2⟩ := sumTo_bd DG HDb.out j (by rw [HDl.out]; exact hj)
        by_cases hlj : j < S.length
        · have hcd := od.cell (k := j) (by rw [HDl.out]; exact hlj)
          obtain ⟨t3, t4⟩ := HDb.out j (by rw [HDl.out]; exact hlj)
          have E1 : IntKind.i64.wrap (sumTo DG j + gi DG j) = sumTo DG j + gi DG j := IntWalk.i64_in _ ⟨by omega, by omega⟩
          go_wp2_with fail
          go_roundw
          case rel => exact ⟨j + 1, by omega, by go_num, rfl, trivial⟩
          case measure => simp [intOf]; omega
        · have ej : j = S.length := by omega
          obtain ⟨sv, hsv⟩ : ∃ sv, sv = sumTo DG j := ⟨_, rfl⟩
          rw [← hsv] at t1 t2
          have E2 : sv.tmod q = sv % q := Int.tmod_eq_emod_of_nonneg t1
          have hz : (q == 0) = false := by simp; omega
          have hz2 : ¬ q = 0 := by omega
          have p1 : 0 ≤ x * q := Int.mul_nonneg x1 (by omega)
          have p2 : x * q ≤ 1024 * 4 := Int.mul_le_mul (by omega) (by omega) (by omega) (by omega)
          have r1 : 0 ≤ sv % q := Int.emod_nonneg _ (by omega)
          have r2 : sv % q < q := Int.emod_lt_of_pos _ (by omega)
          have E3 : IntKind.i64.wrap (x * q) = x * q := IntWalk.i64_in _ ⟨by omega, by omega⟩
          have E4 : IntKind.i64.wrap (x * q + sv % q) = x * q + sv % q := IntWalk.i64_in _ ⟨by omega, by omega⟩
          have H2 : Hid ((addC S C q).take (k + 1) = (addC S C q).take k ++ [x * q + sv % q]) := Lib.hid (by
            rw [take_snoc _ _ (by rw [addC_len]; exact hlt), gi_addC _ _ _ _ hlt, ← HXX.out, ← HDG.out, hsv, ej])
          have hlk : ((addC S C q).take k).length ≤ 1024 := by rw [List.length_take, addC_len]; omega
          have own2 : OwnInts (wr.alloc (.cells #[.int .i64 (x * q + sv % q)] 2)).drew m _ ((addC S C q).take k) := (oo.alloc _).drew
          have B6 : Below w.heap.size w (wr.alloc (.cells #[.int .i64 (x * q + sv % q)] 2)).drew := (B5.alloc B5.size _).drew
          have Bm6 : Below m W4 (wr.alloc (.cells #[.int .i64 (x * q + sv % q)] 2)).drew := (Bm5.alloc sm5 _).drew
          have i1 : (0 : Int) ≤ (k : Int) := by omega
          have i2 : (k : Int) < (C.length : Int) := by omega
          have lbw : b < wr.heap.size := lt_of_below B5 hbl
          rw [← hsv]
          clear hsv ej od
          go_wp2_with fail
          refine wp_region_held_drew (S := fun w' => w'.cell? ⟨b, o + k, none⟩ = some (.int .i64 x)) (by kernel_rfl) hck (fun hHeld => ?_)
          refine wpAnyH_take (i := 0) (v := ?_) rfl (by kernel_rfl) (by kernel_rfl) (by kernel_rfl) (fun _ _ _ h => h) (Or.inl ⟨by rfl, ?_⟩) (by assumption) ?_
          rotate_left
          · (intro W hSw; (try dsimp only at hSw); go_simp; try (with_reducible rfl))
          (try simp only [Act.put, List.setIfInBounds_toArray, List.set_cons_zero, List.set_cons_succ])
          refine wpAnyH_take (i := 1) (v := ?_) rfl (by kernel_rfl) (by kernel_rfl) (by kernel_rfl) (fun _ _ _ h => h) (Or.inl ⟨by rfl, ?_⟩) (by assumption) ?_
          rotate_left
          · (intro W hSw; (try dsimp only at hSw); go_simp; try (with_reducible rfl))
          (try simp only [Act.put, List.setIfInBounds_toArray, List.set_cons_zero, List.set_cons_succ])
          refine wpAnyH_take (i := 2) (v := ?_) rfl (by kernel_rfl) (by kernel_rfl) (by kernel_rfl) (fun _ _ _ h => h) (Or.inl ⟨by rfl, ?_⟩) (by assumption) ?_
          rotate_left
          · (intro W hSw; (try dsimp only at hSw); go_simp; try (with_reducible rfl))
          (try simp only [Act.put, List.setIfInBounds_toArray, List.set_cons_zero, List.set_cons_succ])
          refine wpAnyH_take (i := 3) (v := ?_) rfl (by kernel_rfl) (by kernel_rfl) (by kernel_rfl) (fun _ _ _ h => h) (Or.inl ⟨by rfl, ?_⟩) (by assumption) ?_
          rotate_left
          · (intro W hSw; (try dsimp only at hSw); go_simp; try (with_reducible rfl))
          (try simp only [Act.put, List.setIfInBounds_toArray, List.set_cons_zero, List.set_cons_succ])
          refine wpAnyH_take (i := 4) (v := ?_) rfl (by kernel_rfl) (by kernel_rfl) (by kernel_rfl) (fun _ _ _ h => h) (Or.inl ⟨by rfl, ?_⟩) (by assumption) ?_
          rotate_left
          · (intro W hSw; (try dsimp only at hSw); go_simp; try (with_reducible rfl))
          (try simp only [Act.put, List.setIfInBounds_toArray, List.set_cons_zero, List.set_cons_succ])
          refine wpAnyH_take (i := 5) (v := ?_) rfl (by kernel_rfl) (by kernel_rfl) (by kernel_rfl) (fun _ _ _ h => h) (Or.inl ⟨by rfl, ?_⟩) (by assumption) ?_
          rotate_left
          · (intro W hSw; (try dsimp only at hSw); go_simp; try (with_reducible rfl))
          (try simp only [Act.put, List.setIfInBounds_toArray, List.set_cons_zero, List.set_cons_succ])
          refine wpAnyH_take (i := 6) (v := ?_) rfl (by kernel_rfl) (by kernel_rfl) (by kernel_rfl) (fun _ _ _ h => h) (Or.inl ⟨by rfl, ?_⟩) (by assumption) ?_
          rotate_left
          · (intro W hSw; (try dsimp only at hSw); go_simp; try (with_reducible rfl))
          (try simp only [Act.put, List.setIfInBounds_toArray, List.set_cons_zero, List.set_cons_succ])
          refine wpAnyH_take (i := 7) (v := ?_) rfl (by kernel_rfl) (by kernel_rfl) (by kernel_rfl) (fun _ _ _ h => h) (Or.inl ⟨by rfl, ?_⟩) (by assumption) ?_
          rotate_left
          · (intro W hSw; (try dsimp only at hSw); go_simp; try (with_reducible rfl))
          (try simp only [Act.put, List.setIfInBounds_toArray, List.set_cons_zero, List.set_cons_succ])
          refine wpAnyH_take (i := 8) (v := ?_) rfl (by kernel_rfl) (by kernel_rfl) (by kernel_rfl) (fun _ _ _ h => h) (Or.inl ⟨by rfl, ?_⟩) (by assumption) ?_
          rotate_left
          · (intro W hSw; (try dsimp only at hSw); go_simp; try (with_reducible rfl))
          (try simp only [Act.put, List.setIfInBounds_toArray, List.set_cons_zero, List.set_cons_succ])
          refine wpAnyH_take (i := 9) (v := ?_) rfl (by kernel_rfl) (by kernel_rfl) (by kernel_rfl) (fun _ _ _ h => h) (Or.inl ⟨by rfl, ?_⟩) (by assumption) ?_
          rotate_left
          · (intro W hSw; (try dsimp only at hSw); go_simp; try (with_reducible rfl))
          (try simp only [Act.put, List.setIfInBounds_toArray, List.set_cons_zero, List.set_cons_succ])
          refine wpAnyH_take (i := 10) (v := ?_) rfl (by kernel_rfl) (by kernel_rfl) (by kernel_rfl) (fun _ _ _ h => h) (Or.inl ⟨by rfl, ?_⟩) (by assumption) ?_
          rotate_left
          · (intro W hSw; (try dsimp only at hSw); go_simp; try (with_reducible rfl))
          (try simp only [Act.put, List.setIfInBounds_toArray, List.set_cons_zero, List.set_cons_succ])
          have B2 : Below wr.drew.heap.size wr.drew (wr.drew.alloc (.cells #[.int .i64 (x * q + sv % q)] 2)) := (Below.refl _ _).alloc (Nat.le_refl _) _
          refine wpAnyH_ready (rs := [11]) (by kernel_rfl) (by simp) ?_
          refine AllReadyH.cons rfl (fun K hK => ?_) AllReadyH.nil
          go_simp
          refine hK.out _ _ (kept_cell B2 hck lbw) (fun hHeld => ?_)
          clear hK K
          (try simp only [Act.put, List.setIfInBounds_toArray, List.set_cons_zero, List.set_cons_succ])
          refine wpAnyH_ready (rs := [12]) (by kernel_rfl) (by simp) ?_
          refine AllReadyH.cons rfl (fun K hK => ?_) AllReadyH.nil
          rw [if_pos (by kernel_rfl)]
          refine wp_append_int (.tmp 66) (.tmp 77) (by kernel_rfl) m _ ((addC S C q).take k) (by rfl) own2 wr.heap.size (x * q + sv % q) (by rfl) (cell_new wr _ _) (by omega) (Nat.le_trans sm5 (by simp)) ?_
          intro v' w6 hown' hgrow
          have hgb := grown_below B6 (Nat.le_trans B5.size (by simp)) hgrow own2 (by omega)
          have hgm := grown_below Bm6 (Nat.le_trans sm5 (by simp)) hgrow own2 (Nat.le_refl _)
          have sm6 : m ≤ w6.heap.size := by have := hgrow.size; simp at this; omega
          refine hK.out _ _ (kept_cell hgb hck0 hbl) (fun hHeld => ?_)
          clear hK K own2 hgrow E3 E4 E2 B2 B6 Bm6 hck
          (try simp only [Act.put, List.setIfInBounds_toArray, List.set_cons_zero, List.set_cons_succ])
          refine wpAnyH_take (i := 13) (v := ?_) rfl (by kernel_rfl) (by kernel_rfl) (by kernel_rfl) (fun _ _ _ h => h) (Or.inl ⟨by rfl, ?_⟩) (by assumption) ?_
          rotate_left
          · (intro W hSw; (try dsimp only at hSw); go_simp; try (with_reducible rfl))
          (try simp only [Act.put, List.setIfInBounds_toArray, List.set_cons_zero, List.set_cons_succ])
          refine wpAnyH_done (by kernel_rfl) ?_ _
          simp only [List.getElem_toArray, List.getElem_cons_succ, List.getElem_cons_zero, Act.put, List.setIfInBounds_toArray, List.set_cons_zero, List.set_cons_succ]
          go_wp2_with fail
          go_roundw
          case rel => exact ⟨k + 1, by omega, by go_num, by rw [H2.out]; exact hown', hgm, sm6, hgb⟩
          case measure => simp [intOf]; omega
    · have ek : k = C.length := by omega
      have HEK : Hid ((addC S C q).take k = vAddC S C q) := Lib.hid (by rw [HVC.out, ek, ← addC_len S C q, List.take_length])
      have cOr := kept_cell Bm cO4 hqb3
      have rRr := row_below rR4 Bm (by omega)
      have rc : wr.cell? ⟨w.heap.size + 1, 0, none⟩ = some (.slice none 0 0) := by rw [cell_of_row wr (w.heap.size + 1) 0 _ _ _ rRr]; rfl
      have rf : wr.frozen? ⟨w.heap.size + 1, 0, none⟩ = false := by have h' := rRr; simp [World.frozen?, h']
      have rs : (wr.setCell ⟨w.heap.size + 1, 0, none⟩ (.slice (some ⟨g, 0, none⟩) M c)).cell? ⟨w.heap.size + 1, 0, none⟩ = some (.slice (some ⟨g, 0, none⟩) M c) := World.cell?_setCell_same' _ _ _ (by rw [rc]; rfl)
      have B9 : Below w.heap.size w (wr.setCell ⟨w.heap.size + 1, 0, none⟩ (.slice (some ⟨g, 0, none⟩) M c)) := B.setCell (show w.heap.size ≤ w.heap.size + 1 by omega) _
      have lg : g < m := by have := row2 g rfl; omega
      have ownS : OwnInts wr (w1.alloc (.cells #[.int .i64 q] 2)).heap.size (.slice (some ⟨g, 0, none⟩) M c) (S ++ [q]) := own_acr own4 Bm lg
      have row3 := row2
      rw [HEK.out] at oo
      rw [Hqb.out] at cOr
      clear ek rRr
      go_wp2_with fail
      refine bodyPost_ret (by rw [results_cell_tmp2 rfl]; go_simp; try rfl) rfl ?_
      refine ⟨m, .slice (some ⟨g, 0, none⟩) M c, _, by rw [HE.out], by omega, fun z hz => by have := row3 z hz; simp at this; omega, ?_, ?_, by simpa using sm, B9⟩
      · rw [HVS.out]; exact (ownS.setBelow (by simp; omega) _).rebase (by simp; omega)
      · exact oo.setBelow (show w.heap.size + 1 < m by omega) _

theorem spec_AddSumPlace (as0 : Addr) (S : List Int) (cap : Nat) (hn : S.length ≤ 4294967296) (ac : Addr) (C : List Int) (capc : Nat) (hnc : C.length ≤ 4294967296) (q : Int) (hqb : -9223372036854775808 ≤ q ∧ q ≤ 9223372036854775807) (w : World) (hS : Ints w (some as0) S) (hC : Ints w (some ac) C) :
    Calls Try.prog 6 #[.agg #[.slice (some as0) S.length cap], .slice (some ac) C.length capc, .int .i64 q] w fun e w' => ∃ m vs v, e = .returned (.tuple #[.agg #[vs], v, .int .i64 (eAdd S C q)]) ∧ w.heap.size ≤ m ∧ RowIn vs w.heap.size m ∧ OwnInts w' w.heap.size vs (vAddS S C q) ∧ OwnInts w' m v (vAddC S C q) ∧ m ≤ w'.heap.size ∧ Below w.heap.size w w' := by
  by_cases h1 : eCode S C = 0
  · by_cases h2 : q < 2 ∨ 4 < q
    · exact spec_AddSumPlace_e2 as0 S cap hn ac C capc hnc q hqb w hS hC h1 h2
    · cases h4 : isSp (S ++ [q]) with
      | false => exact spec_AddSumPlace_e3 as0 S cap hn ac C capc hnc q hqb w hS hC h1 ⟨by omega, by omega⟩ h4
      | true => exact spec_AddSumPlace_ok as0 S cap hn ac C capc hnc q hqb w hS hC h1 ⟨by omega, by omega⟩ h4
  · exact spec_AddSumPlace_e1 as0 S cap hn ac C capc hnc q hqb w hS hC (eCode S C) rfl h1

end Go.Proofs.Ytijlcjgbekcefaa
