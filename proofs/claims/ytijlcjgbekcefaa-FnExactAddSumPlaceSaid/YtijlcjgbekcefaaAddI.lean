/-
  The contract of the program's AddSumPlace. By an AI agent.
-/
import Derived.Test.YtijlcjgbekcefaaAddP
import Derived.Test.YtijlcjgbekcefaaCat
import Derived.Test.YtijlcjgbekcefaaDsS
import Derived.Shelf.Abstract
namespace Go.Proofs.Ytijlcjgbekcefaa
open Go.RowKit Go.Shelf Cv
set_option linter.unusedVariables false
set_option linter.unusedSimpArgs false
set_option maxRecDepth 100000

theorem box3m (w : World) (a b c : Value) (t u : TypeId) : ∃ W, W = ((w.alloc (.cells #[a] t)).alloc (.cells #[b] u)).alloc (.cells #[c] t) ∧ W.cell? ⟨w.heap.size, 0, none⟩ = some a ∧ W.cell? ⟨w.heap.size + 1, 0, none⟩ = some b ∧ W.heap[w.heap.size + 2]? = some (.cells #[c] t (0, 0)) ∧ W.heap.size = w.heap.size + 3 ∧ Below w.heap.size w W := by
  have s1 : (w.alloc (.cells #[a] t)).heap.size = w.heap.size + 1 := World.size_alloc _ _
  have s2 : ((w.alloc (.cells #[a] t)).alloc (.cells #[b] u)).heap.size = w.heap.size + 2 := by rw [World.size_alloc, s1]
  have s3 : (((w.alloc (.cells #[a] t)).alloc (.cells #[b] u)).alloc (.cells #[c] t)).heap.size = w.heap.size + 3 := by rw [World.size_alloc, s2]
  have b2 : Below ((w.alloc (.cells #[a] t)).alloc (.cells #[b] u)).heap.size ((w.alloc (.cells #[a] t)).alloc (.cells #[b] u)) (((w.alloc (.cells #[a] t)).alloc (.cells #[b] u)).alloc (.cells #[c] t)) := (Below.refl _ _).alloc (Nat.le_refl _) _
  have b1 : Below (w.alloc (.cells #[a] t)).heap.size (w.alloc (.cells #[a] t)) (((w.alloc (.cells #[a] t)).alloc (.cells #[b] u)).alloc (.cells #[c] t)) := ((Below.refl _ _).alloc (Nat.le_refl _) _).trans (b2.mono (by omega))
  have b0 : Below w.heap.size w (((w.alloc (.cells #[a] t)).alloc (.cells #[b] u)).alloc (.cells #[c] t)) := ((Below.refl _ _).alloc (Nat.le_refl _) _).trans (b1.mono (by omega))
  have x1 := kept_cell b1 (cell_new w a t) (lt_alloc _ _)
  have x2 := kept_cell b2 (cell_new (w.alloc (.cells #[a] t)) b u) (lt_alloc _ _)
  have x3 := heap_alloc_last ((w.alloc (.cells #[a] t)).alloc (.cells #[b] u)) (.cells #[c] t)
  rw [s1] at x2
  rw [s2] at x3
  exact ⟨_, rfl, x1, x2, x3, s3, b0⟩
def twoA (S : List Int) (q : Int) : Nat → List Int := fun k => if k = 0 then S else [q]
theorem cat_twoA (S : List Int) (q : Int) : catTo (twoA S q) 2 = S ++ [q] := by simp [catTo, twoA]
set_option maxHeartbeats 4000000 in
theorem impl_AddSumPlace_e1 (as0 : Addr) (S : List Int) (cap : Nat) (hn : S.length ≤ 4294967296) (ac : Addr) (C : List Int) (capc : Nat) (hnc : C.length ≤ 4294967296) (q : Int) (hqb : -9223372036854775808 ≤ q ∧ q ≤ 9223372036854775807) (w : World) (hS : Ints w (some as0) S) (hC : Ints w (some ac) C) (E : Int) (hE : eCode S C = E) (hE0 : E ≠ 0) :
    Calls Try.prog 9 #[.agg #[.slice (some as0) S.length cap], .slice (some ac) C.length capc, .int .i64 q] w fun e w' => ∃ m vs v, e = .returned (.tuple #[.agg #[vs], v, .int .i64 (eAdd S C q)]) ∧ w.heap.size ≤ m ∧ RowIn vs w.heap.size m ∧ OwnInts w' w.heap.size vs (vAddS S C q) ∧ OwnInts w' m v (vAddC S C q) ∧ m ≤ w'.heap.size ∧ Below w.heap.size w w' := by
  obtain ⟨W0, hW0, cS, cQ, rR, z0, B0⟩ := box3m w (.slice (some as0) S.length cap) (.int .i64 q) (.slice none 0 0) 26 2
  have HW0 := Lib.hid hW0
  have z0a : w.heap.size + 3 ≤ W0.heap.size := by omega
  clear hW0 z0
  have HEC := Lib.hid hE
  have hEb : (E != 0) = true := by simpa using hE0
  have HE : Hid (eAdd S C q = E) := Lib.hid (by unfold eAdd; rw [if_pos (by rw [hE]; exact hE0), hE])
  have HS0 : Hid (vAddS S C q = []) := Lib.hid (by unfold vAddS; rw [if_neg (by rw [HE.out]; exact hE0)])
  have HC0 : Hid (vAddC S C q = []) := Lib.hid (by unfold vAddC; rw [if_neg (by rw [HE.out]; exact hE0)])
  clear hE hE0
  go_enter Try.func9, Try.ntmps9
  go_wp2_with fail
  rw [← HW0.out]
  have h1 := codeError_any (some as0) S cap hn (some ac) C capc hnc W0 (hS.below B0) (hC.below B0)
  rw [HEC.out] at h1
  refine h1.mono ?_
  rintro e w1 ⟨rfl, hb1⟩
  have s1 : w.heap.size + 3 ≤ w1.heap.size := by have := hb1.size; omega
  have cS1 := kept_cell hb1 cS (by omega)
  have cQ1 := kept_cell hb1 cQ (by omega)
  have rR1 := row_below rR hb1 (by omega)
  have B1 := B0.trans (hb1.mono (by omega))
  clear h1 hb1
  have rc : w1.cell? ⟨w.heap.size + 1 + 1, 0, none⟩ = some (.slice none 0 0) := by rw [cell_of_row w1 (w.heap.size + 2) 0 _ _ _ rR1]; rfl
  have rf : w1.frozen? ⟨w.heap.size + 1 + 1, 0, none⟩ = false := by have h' := rR1; simp [World.frozen?, h']
  have rs : (w1.setCell ⟨w.heap.size + 1 + 1, 0, none⟩ (.slice none 0 0)).cell? ⟨w.heap.size + 1 + 1, 0, none⟩ = some (.slice none 0 0) := World.cell?_setCell_same' _ _ _ (by rw [rc]; rfl)
  have B9 : Below w.heap.size w (w1.setCell ⟨w.heap.size + 1 + 1, 0, none⟩ (.slice none 0 0)) := B1.setCell (show w.heap.size ≤ w.heap.size + 1 + 1 by omega) _
  go_wp2_with fail
  refine bodyPost_ret (by rw [results_cell_tmp2 rfl]; go_simp; try rfl) rfl ?_
  exact ⟨w.heap.size, .slice none 0 0, _, by rw [HE.out], Nat.le_refl _, fun k hk => (by cases hk), by rw [HS0.out]; exact own_nil _ _, by rw [HC0.out]; exact own_nil _ _, B9.size, B9⟩

set_option maxHeartbeats 4000000 in
theorem impl_AddSumPlace_e2 (as0 : Addr) (S : List Int) (cap : Nat) (hn : S.length ≤ 4294967296) (ac : Addr) (C : List Int) (capc : Nat) (hnc : C.length ≤ 4294967296) (q : Int) (hqb : -9223372036854775808 ≤ q ∧ q ≤ 9223372036854775807) (w : World) (hS : Ints w (some as0) S) (hC : Ints w (some ac) C) (hE : eCode S C = 0) (hq : q < 2) :
    Calls Try.prog 9 #[.agg #[.slice (some as0) S.length cap], .slice (some ac) C.length capc, .int .i64 q] w fun e w' => ∃ m vs v, e = .returned (.tuple #[.agg #[vs], v, .int .i64 (eAdd S C q)]) ∧ w.heap.size ≤ m ∧ RowIn vs w.heap.size m ∧ OwnInts w' w.heap.size vs (vAddS S C q) ∧ OwnInts w' m v (vAddC S C q) ∧ m ≤ w'.heap.size ∧ Below w.heap.size w w' := by
  obtain ⟨W0, hW0, cS, cQ, rR, z0, B0⟩ := box3m w (.slice (some as0) S.length cap) (.int .i64 q) (.slice none 0 0) 26 2
  have HW0 := Lib.hid hW0
  have z0a : w.heap.size + 3 ≤ W0.heap.size := by omega
  clear hW0 z0
  have HEC := Lib.hid hE
  have HE : Hid (eAdd S C q = 2) := Lib.hid (by unfold eAdd; rw [if_neg (by rw [hE]; decide), if_pos (by omega)])
  have HS0 : Hid (vAddS S C q = []) := Lib.hid (by unfold vAddS; rw [if_neg (by rw [HE.out]; decide)])
  have HC0 : Hid (vAddC S C q = []) := Lib.hid (by unfold vAddC; rw [if_neg (by rw [HE.out]; decide)])
  clear hE
  go_enter Try.func9, Try.ntmps9
  go_wp2_with fail
  rw [← HW0.out]
  have h1 := codeError_any (some as0) S cap hn (some ac) C capc hnc W0 (hS.below B0) (hC.below B0)
  rw [HEC.out] at h1
  refine h1.mono ?_
  rintro e w1 ⟨rfl, hb1⟩
  have s1 : w.heap.size + 3 ≤ w1.heap.size := by have := hb1.size; omega
  have cS1 := kept_cell hb1 cS (by omega)
  have cQ1 := kept_cell hb1 cQ (by omega)
  have rR1 := row_below rR hb1 (by omega)
  have B1 := B0.trans (hb1.mono (by omega))
  clear h1 hb1
  have rc : w1.cell? ⟨w.heap.size + 1 + 1, 0, none⟩ = some (.slice none 0 0) := by rw [cell_of_row w1 (w.heap.size + 2) 0 _ _ _ rR1]; rfl
  have rf : w1.frozen? ⟨w.heap.size + 1 + 1, 0, none⟩ = false := by have h' := rR1; simp [World.frozen?, h']
  have rs : (w1.setCell ⟨w.heap.size + 1 + 1, 0, none⟩ (.slice none 0 0)).cell? ⟨w.heap.size + 1 + 1, 0, none⟩ = some (.slice none 0 0) := World.cell?_setCell_same' _ _ _ (by rw [rc]; rfl)
  have B9 : Below w.heap.size w (w1.setCell ⟨w.heap.size + 1 + 1, 0, none⟩ (.slice none 0 0)) := B1.setCell (show w.heap.size ≤ w.heap.size + 1 + 1 by omega) _
  go_wp2_with fail
  refine bodyPost_ret (by rw [results_cell_tmp2 rfl]; go_simp; try rfl) rfl ?_
  exact ⟨w.heap.size, .slice none 0 0, _, by rw [HE.out], Nat.le_refl _, fun k hk => (by cases hk), by rw [HS0.out]; exact own_nil _ _, by rw [HC0.out]; exact own_nil _ _, B9.size, B9⟩

set_option maxHeartbeats 4000000 in
theorem impl_AddSumPlace_e2b (as0 : Addr) (S : List Int) (cap : Nat) (hn : S.length ≤ 4294967296) (ac : Addr) (C : List Int) (capc : Nat) (hnc : C.length ≤ 4294967296) (q : Int) (hqb : -9223372036854775808 ≤ q ∧ q ≤ 9223372036854775807) (w : World) (hS : Ints w (some as0) S) (hC : Ints w (some ac) C) (hE : eCode S C = 0) (hq1 : ¬ q < 2) (hq : 4 < q) :
    Calls Try.prog 9 #[.agg #[.slice (some as0) S.length cap], .slice (some ac) C.length capc, .int .i64 q] w fun e w' => ∃ m vs v, e = .returned (.tuple #[.agg #[vs], v, .int .i64 (eAdd S C q)]) ∧ w.heap.size ≤ m ∧ RowIn vs w.heap.size m ∧ OwnInts w' w.heap.size vs (vAddS S C q) ∧ OwnInts w' m v (vAddC S C q) ∧ m ≤ w'.heap.size ∧ Below w.heap.size w w' := by
  obtain ⟨W0, hW0, cS, cQ, rR, z0, B0⟩ := box3m w (.slice (some as0) S.length cap) (.int .i64 q) (.slice none 0 0) 26 2
  have HW0 := Lib.hid hW0
  have z0a : w.heap.size + 3 ≤ W0.heap.size := by omega
  clear hW0 z0
  have HEC := Lib.hid hE
  have HE : Hid (eAdd S C q = 2) := Lib.hid (by unfold eAdd; rw [if_neg (by rw [hE]; decide), if_pos (by omega)])
  have HS0 : Hid (vAddS S C q = []) := Lib.hid (by unfold vAddS; rw [if_neg (by rw [HE.out]; decide)])
  have HC0 : Hid (vAddC S C q = []) := Lib.hid (by unfold vAddC; rw [if_neg (by rw [HE.out]; decide)])
  clear hE
  go_enter Try.func9, Try.ntmps9
  go_wp2_with fail
  rw [← HW0.out]
  have h1 := codeError_any (some as0) S cap hn (some ac) C capc hnc W0 (hS.below B0) (hC.below B0)
  rw [HEC.out] at h1
  refine h1.mono ?_
  rintro e w1 ⟨rfl, hb1⟩
  have s1 : w.heap.size + 3 ≤ w1.heap.size := by have := hb1.size; omega
  have cS1 := kept_cell hb1 cS (by omega)
  have cQ1 := kept_cell hb1 cQ (by omega)
  have rR1 := row_below rR hb1 (by omega)
  have B1 := B0.trans (hb1.mono (by omega))
  clear h1 hb1
  have rc : w1.cell? ⟨w.heap.size + 1 + 1, 0, none⟩ = some (.slice none 0 0) := by rw [cell_of_row w1 (w.heap.size + 2) 0 _ _ _ rR1]; rfl
  have rf : w1.frozen? ⟨w.heap.size + 1 + 1, 0, none⟩ = false := by have h' := rR1; simp [World.frozen?, h']
  have rs : (w1.setCell ⟨w.heap.size + 1 + 1, 0, none⟩ (.slice none 0 0)).cell? ⟨w.heap.size + 1 + 1, 0, none⟩ = some (.slice none 0 0) := World.cell?_setCell_same' _ _ _ (by rw [rc]; rfl)
  have B9 : Below w.heap.size w (w1.setCell ⟨w.heap.size + 1 + 1, 0, none⟩ (.slice none 0 0)) := B1.setCell (show w.heap.size ≤ w.heap.size + 1 + 1 by omega) _
  go_wp2_with fail
  refine bodyPost_ret (by rw [results_cell_tmp2 rfl]; go_simp; try rfl) rfl ?_
  exact ⟨w.heap.size, .slice none 0 0, _, by rw [HE.out], Nat.le_refl _, fun k hk => (by cases hk), by rw [HS0.out]; exact own_nil _ _, by rw [HC0.out]; exact own_nil _ _, B9.size, B9⟩

set_option maxHeartbeats 4000000 in
theorem impl_AddSumPlace_e3 (as0 : Addr) (S : List Int) (cap : Nat) (hn : S.length ≤ 4294967296) (ac : Addr) (C : List Int) (capc : Nat) (hnc : C.length ≤ 4294967296) (q : Int) (hqb : -9223372036854775808 ≤ q ∧ q ≤ 9223372036854775807) (w : World) (hS : Ints w (some as0) S) (hC : Ints w (some ac) C) (hE : eCode S C = 0) (hq : 2 ≤ q ∧ q ≤ 4) (hsx : isSp (S ++ [q]) = false) :
    Calls Try.prog 9 #[.agg #[.slice (some as0) S.length cap], .slice (some ac) C.length capc, .int .i64 q] w fun e w' => ∃ m vs v, e = .returned (.tuple #[.agg #[vs], v, .int .i64 (eAdd S C q)]) ∧ w.heap.size ≤ m ∧ RowIn vs w.heap.size m ∧ OwnInts w' w.heap.size vs (vAddS S C q) ∧ OwnInts w' m v (vAddC S C q) ∧ m ≤ w'.heap.size ∧ Below w.heap.size w w' := by
  obtain ⟨W0, hW0, cS, cQ, rR, z0, B0⟩ := box3m w (.slice (some as0) S.length cap) (.int .i64 q) (.slice none 0 0) 26 2
  have HW0 := Lib.hid hW0
  have z0a : w.heap.size + 3 ≤ W0.heap.size := by omega
  clear hW0 z0
  have HEC := Lib.hid hE
  obtain ⟨hSp, hc1, hc2⟩ := eCode_zero hE
  have hS8 := hSp.hi
  have hS1 := hSp.lo
  have HSp := Lib.hid hSp
  have hlenC := code_len hSp hc1 hc2
  have hq1 : ¬ q < 2 := by omega
  have hq2 : ¬ 4 < q := by omega
  have HE : Hid (eAdd S C q = 3) := Lib.hid (by unfold eAdd; rw [if_neg (by rw [hE]; decide), if_neg (by omega), if_neg (by rw [hsx]; decide)])
  have HS0 : Hid (vAddS S C q = []) := Lib.hid (by unfold vAddS; rw [if_neg (by rw [HE.out]; decide)])
  have HC0 : Hid (vAddC S C q = []) := Lib.hid (by unfold vAddC; rw [if_neg (by rw [HE.out]; decide)])
  clear hE hSp hc1 hc2
  go_enter Try.func9, Try.ntmps9
  go_wp2_with fail
  rw [← HW0.out]
  have h1 := codeError_any (some as0) S cap hn (some ac) C capc hnc W0 (hS.below B0) (hC.below B0)
  rw [HEC.out] at h1
  refine h1.mono ?_
  rintro e w1 ⟨rfl, hb1⟩
  have s1 : w.heap.size + 3 ≤ w1.heap.size := by have := hb1.size; omega
  have cS1 := kept_cell hb1 cS (by omega)
  have cQ1 := kept_cell hb1 cQ (by omega)
  have rR1 := row_below rR hb1 (by omega)
  have B1 := B0.trans (hb1.mono (by omega))
  clear h1 hb1
  have hc := concat_n (w1.heap.size + 1) 2 (by omega) (fun k => if k = 0 then as0 else ⟨w1.heap.size, 0, none⟩) (twoA S q) (fun k => if k = 0 then cap else 1) ((w1.alloc (.cells #[.int .i64 q] 2)).alloc (.cells #[.slice (some as0) S.length cap, .slice (some ⟨w1.heap.size, 0, none⟩) 1 1] 22)) (by simp)
    (fun k hk => by
      have : k = 0 ∨ k = 1 := by omega
      rcases this with rfl | rfl <;> simp [twoA])
    (fun k hk => by
      have : k = 0 ∨ k = 1 := by omega
      rcases this with rfl | rfl
      · exact ⟨hS.below ((B1.alloc (by omega) _).alloc (by simp; omega) _), by show S.length ≤ 65536; omega⟩
      · refine ⟨?_, by show [q].length ≤ 65536; simp⟩
        have h := ints_new w1 [q] 2
        exact h.below ((Below.refl _ _).alloc (Nat.le_refl _) _))
    (by rw [cat_twoA, List.length_append, List.length_singleton]; omega)
  rw [cat_twoA] at hc
  obtain ⟨M, hM⟩ : ∃ M, M = (S ++ [q]).length := ⟨_, rfl⟩
  have HM := Lib.hid hM
  have hM16 : M ≤ 9 := by rw [hM]; simp; omega
  rw [← hM] at hc
  have HCC := Lib.hid hc
  clear hM hc
  go_wp2_with fail
  refine HCC.out.mono ?_
  rintro e w6 ⟨g6, k6, rfl, own6, hb6⟩
  have h56 : Below w1.heap.size w1 w6 := Below.trans (((Below.refl _ w1).alloc (Nat.le_refl _) _).alloc (by simp) _) (hb6.mono (by simp; omega))
  have s6 : w.heap.size + 3 ≤ w6.heap.size := by have := h56.size; omega
  have s56 := h56.size
  have cS6 := kept_cell h56 cS1 (by omega)
  have cQ6 := kept_cell h56 cQ1 (by omega)
  have rR6 := row_below rR1 h56 (by omega)
  have B6 := B1.trans (h56.mono (by omega))
  have row6 := own6.rowIn
  have hg6 := own6.base_le
  simp only [World.size_alloc] at hg6
  clear hb6 h56 cS1 cQ1 rR1 B1 HCC
  have h67 : Below w6.heap.size w6 (w6.alloc (.cells #[.slice (some ⟨g6, 0, none⟩) M k6] 26)) := (Below.refl _ _).alloc (Nat.le_refl _) _
  have cO7 := cell_new w6 (.slice (some ⟨g6, 0, none⟩) M k6) 26
  have cS7 := kept_cell h67 cS6 (by omega)
  have cQ7 := kept_cell h67 cQ6 (by omega)
  have rR7 := row_alloc rR6 (.cells #[.slice (some ⟨g6, 0, none⟩) M k6] 26)
  have own7 := own6.alloc (.cells #[.slice (some ⟨g6, 0, none⟩) M k6] 26)
  have B7 := B6.alloc (by omega) (.cells #[.slice (some ⟨g6, 0, none⟩) M k6] 26)
  have hsp := IsSpace_any (some ⟨g6, 0, none⟩) (S ++ [q]) k6 (w6.alloc (.cells #[.slice (some ⟨g6, 0, none⟩) M k6] 26)) (by have := HM.out; omega) (own_ints own7)
  rw [← HM.out, hsx] at hsp
  have HSX := Lib.hid hsp
  clear hsp h67
  go_wp2_with fail
  refine HSX.out.mono ?_
  rintro e w8 ⟨rfl, hb8⟩
  have s78 := hb8.size
  rw [World.size_alloc] at s78
  have cO8 := kept_cell hb8 cO7 (by simp)
  have cS8 := kept_cell hb8 cS7 (by simp; omega)
  have cQ8 := kept_cell hb8 cQ7 (by simp; omega)
  have rR8 := row_below rR7 hb8 (by simp; omega)
  have own8 := own7.below hb8
  have B8 := B7.trans (hb8.mono (by simp; omega))
  clear hb8 cO7 cS7 cQ7 rR7 own7 B7 HSX own6 rR6 cS6 cQ6 B6
  have rc : w8.cell? ⟨w.heap.size + 1 + 1, 0, none⟩ = some (.slice none 0 0) := by rw [cell_of_row w8 (w.heap.size + 2) 0 _ _ _ rR8]; rfl
  have rf : w8.frozen? ⟨w.heap.size + 1 + 1, 0, none⟩ = false := by have h' := rR8; simp [World.frozen?, h']
  have rs : (w8.setCell ⟨w.heap.size + 1 + 1, 0, none⟩ (.slice none 0 0)).cell? ⟨w.heap.size + 1 + 1, 0, none⟩ = some (.slice none 0 0) := World.cell?_setCell_same' _ _ _ (by rw [rc]; rfl)
  have B9 : Below w.heap.size w (w8.setCell ⟨w.heap.size + 1 + 1, 0, none⟩ (.slice none 0 0)) := B8.setCell (show w.heap.size ≤ w.heap.size + 1 + 1 by omega) _
  go_wp2_with fail
  refine bodyPost_ret (by rw [results_cell_tmp2 rfl]; go_simp; try rfl) rfl ?_
  exact ⟨w.heap.size, .slice none 0 0, _, by rw [HE.out], Nat.le_refl _, fun k hk => (by cases hk), by rw [HS0.out]; exact own_nil _ _, by rw [HC0.out]; exact own_nil _ _, B9.size, B9⟩

set_option maxHeartbeats 4000000 in
theorem impl_AddSumPlace_ok (as0 : Addr) (S : List Int) (cap : Nat) (hn : S.length ≤ 4294967296) (ac : Addr) (C : List Int) (capc : Nat) (hnc : C.length ≤ 4294967296) (q : Int) (hqb : -9223372036854775808 ≤ q ∧ q ≤ 9223372036854775807) (w : World) (hS : Ints w (some as0) S) (hC : Ints w (some ac) C) (hE : eCode S C = 0) (hq : 2 ≤ q ∧ q ≤ 4) (hsx : isSp (S ++ [q]) = true) :
    Calls Try.prog 9 #[.agg #[.slice (some as0) S.length cap], .slice (some ac) C.length capc, .int .i64 q] w fun e w' => ∃ m vs v, e = .returned (.tuple #[.agg #[vs], v, .int .i64 (eAdd S C q)]) ∧ w.heap.size ≤ m ∧ RowIn vs w.heap.size m ∧ OwnInts w' w.heap.size vs (vAddS S C q) ∧ OwnInts w' m v (vAddC S C q) ∧ m ≤ w'.heap.size ∧ Below w.heap.size w w' := by
  obtain ⟨W0, hW0, cS, cQ, rR, z0, B0⟩ := box3m w (.slice (some as0) S.length cap) (.int .i64 q) (.slice none 0 0) 26 2
  have HW0 := Lib.hid hW0
  have z0a : w.heap.size + 3 ≤ W0.heap.size := by omega
  clear hW0 z0
  have HEC := Lib.hid hE
  obtain ⟨hSp, hc1, hc2⟩ := eCode_zero hE
  have hS8 := hSp.hi
  have hS1 := hSp.lo
  have HSp := Lib.hid hSp
  have hlenC := code_len hSp hc1 hc2
  have hq1 : ¬ q < 2 := by omega
  have hq2 : ¬ 4 < q := by omega
  have hX := (isSp_iff _).1 hsx
  have HX := Lib.hid hX
  have HE : Hid (eAdd S C q = 0) := Lib.hid (by unfold eAdd; rw [if_neg (by rw [hE]; decide), if_neg (by omega), if_pos hsx])
  have HVS : Hid (vAddS S C q = S ++ [q]) := Lib.hid (by unfold vAddS; rw [if_pos HE.out])
  have HVC : Hid (vAddC S C q = cmpT (sorted (C.map fun c => wordTo (S ++ [q]) (addD q (digs S c)) (S ++ [q]).length)) C.length) := Lib.hid (by
    unfold vAddC; rw [if_pos HE.out, add_same q hSp hq.1 (asc_code hE) (fun i hi => hc1 i hi)])
  have HC0 : Hid (∀ i, i < C.length → 0 ≤ gi C i ∧ gi C i ≤ 9223372036854775807) := Lib.hid fun i hi => by have := hc1 i hi; have := (nW_bd hSp).2; omega
  clear hE hSp hc1 hc2 hX
  go_enter Try.func9, Try.ntmps9
  go_wp2_with fail
  rw [← HW0.out]
  have h1 := codeError_any (some as0) S cap hn (some ac) C capc hnc W0 (hS.below B0) (hC.below B0)
  rw [HEC.out] at h1
  refine h1.mono ?_
  rintro e w1 ⟨rfl, hb1⟩
  have s1 : w.heap.size + 3 ≤ w1.heap.size := by have := hb1.size; omega
  have cS1 := kept_cell hb1 cS (by omega)
  have cQ1 := kept_cell hb1 cQ (by omega)
  have rR1 := row_below rR hb1 (by omega)
  have B1 := B0.trans (hb1.mono (by omega))
  clear h1 hb1
  have hc := concat_n (w1.heap.size + 1) 2 (by omega) (fun k => if k = 0 then as0 else ⟨w1.heap.size, 0, none⟩) (twoA S q) (fun k => if k = 0 then cap else 1) ((w1.alloc (.cells #[.int .i64 q] 2)).alloc (.cells #[.slice (some as0) S.length cap, .slice (some ⟨w1.heap.size, 0, none⟩) 1 1] 22)) (by simp)
    (fun k hk => by
      have : k = 0 ∨ k = 1 := by omega
      rcases this with rfl | rfl <;> simp [twoA])
    (fun k hk => by
      have : k = 0 ∨ k = 1 := by omega
      rcases this with rfl | rfl
      · exact ⟨hS.below ((B1.alloc (by omega) _).alloc (by simp; omega) _), by show S.length ≤ 65536; omega⟩
      · refine ⟨?_, by show [q].length ≤ 65536; simp⟩
        have h := ints_new w1 [q] 2
        exact h.below ((Below.refl _ _).alloc (Nat.le_refl _) _))
    (by rw [cat_twoA, List.length_append, List.length_singleton]; omega)
  rw [cat_twoA] at hc
  obtain ⟨M, hM⟩ : ∃ M, M = (S ++ [q]).length := ⟨_, rfl⟩
  have HM := Lib.hid hM
  have hM16 : M ≤ 9 := by rw [hM]; simp; omega
  rw [← hM] at hc
  have HCC := Lib.hid hc
  clear hM hc
  go_wp2_with fail
  refine HCC.out.mono ?_
  rintro e w6 ⟨g6, k6, rfl, own6, hb6⟩
  have h56 : Below w1.heap.size w1 w6 := Below.trans (((Below.refl _ w1).alloc (Nat.le_refl _) _).alloc (by simp) _) (hb6.mono (by simp; omega))
  have s6 : w.heap.size + 3 ≤ w6.heap.size := by have := h56.size; omega
  have s56 := h56.size
  have cS6 := kept_cell h56 cS1 (by omega)
  have cQ6 := kept_cell h56 cQ1 (by omega)
  have rR6 := row_below rR1 h56 (by omega)
  have B6 := B1.trans (h56.mono (by omega))
  have row6 := own6.rowIn
  have hg6 := own6.base_le
  simp only [World.size_alloc] at hg6
  clear hb6 h56 cS1 cQ1 rR1 B1 HCC
  have h67 : Below w6.heap.size w6 (w6.alloc (.cells #[.slice (some ⟨g6, 0, none⟩) M k6] 26)) := (Below.refl _ _).alloc (Nat.le_refl _) _
  have cO7 := cell_new w6 (.slice (some ⟨g6, 0, none⟩) M k6) 26
  have cS7 := kept_cell h67 cS6 (by omega)
  have cQ7 := kept_cell h67 cQ6 (by omega)
  have rR7 := row_alloc rR6 (.cells #[.slice (some ⟨g6, 0, none⟩) M k6] 26)
  have own7 := own6.alloc (.cells #[.slice (some ⟨g6, 0, none⟩) M k6] 26)
  have B7 := B6.alloc (by omega) (.cells #[.slice (some ⟨g6, 0, none⟩) M k6] 26)
  have hsp := IsSpace_any (some ⟨g6, 0, none⟩) (S ++ [q]) k6 (w6.alloc (.cells #[.slice (some ⟨g6, 0, none⟩) M k6] 26)) (by have := HM.out; omega) (own_ints own7)
  rw [← HM.out, hsx] at hsp
  have HSX := Lib.hid hsp
  clear hsp h67
  go_wp2_with fail
  refine HSX.out.mono ?_
  rintro e w8 ⟨rfl, hb8⟩
  have s78 := hb8.size
  rw [World.size_alloc] at s78
  have cO8 := kept_cell hb8 cO7 (by simp)
  have cS8 := kept_cell hb8 cS7 (by simp; omega)
  have cQ8 := kept_cell hb8 cQ7 (by simp; omega)
  have rR8 := row_below rR7 hb8 (by simp; omega)
  have own8 := own7.below hb8
  have B8 := B7.trans (hb8.mono (by simp; omega))
  clear hb8 cO7 cS7 cQ7 rR7 own7 B7 HSX own6 rR6 cS6 cQ6 B6
  have hcc := changedCode_any (some as0) S cap HSp.out.lo HSp.out.hi HSp.out.bd (some ac) C capc (by omega) HC0.out (some ⟨g6, 0, none⟩) (S ++ [q]) k6 HX.out.hi HX.out.bd 27 (enters_of Try.func27 (by kernel_rfl) rfl) #[] #[.pointer (some ⟨w.heap.size + 1, 0, none⟩)] (addD q) w8 (hS.below B8) (hC.below B8) (own_ints own8) (add_chg S HSp.out.hi HSp.out.bd q hq (w.heap.size + 1) w8 cQ8 (by omega))
  rw [← HM.out] at hcc
  have HCC2 := Lib.hid hcc
  clear hcc
  go_wp2_with fail
  refine HCC2.out.mono ?_
  rintro e w9 ⟨v, rfl, ownC, hb9⟩
  replace ownC : OwnInts w9 w8.heap.size v (vAddC S C q) := by rw [HVC.out, ← HM.out]; exact ownC
  have s89 := hb9.size
  have cO9 := kept_cell hb9 cO8 (by omega)
  have rR9 := row_below rR8 hb9 (by omega)
  have ownS := own8.below hb9
  have B9 := B8.trans (hb9.mono (by omega))
  have rc : w9.cell? ⟨w.heap.size + 1 + 1, 0, none⟩ = some (.slice none 0 0) := by rw [cell_of_row w9 (w.heap.size + 2) 0 _ _ _ rR9]; rfl
  have rf : w9.frozen? ⟨w.heap.size + 1 + 1, 0, none⟩ = false := by have h' := rR9; simp [World.frozen?, h']
  have rs : (w9.setCell ⟨w.heap.size + 1 + 1, 0, none⟩ (.slice (some ⟨g6, 0, none⟩) M k6)).cell? ⟨w.heap.size + 1 + 1, 0, none⟩ = some (.slice (some ⟨g6, 0, none⟩) M k6) := World.cell?_setCell_same' _ _ _ (by rw [rc]; rfl)
  have B10 : Below w.heap.size w (w9.setCell ⟨w.heap.size + 1 + 1, 0, none⟩ (.slice (some ⟨g6, 0, none⟩) M k6)) := B9.setCell (show w.heap.size ≤ w.heap.size + 1 + 1 by omega) _
  clear hb9 cO8 cS8 cQ8 rR8 own8 HCC2
  go_wp2_with fail
  refine bodyPost_ret (by rw [results_cell_tmp2 rfl]; go_simp; try rfl) rfl ?_
  refine ⟨w8.heap.size, .slice (some ⟨g6, 0, none⟩) M k6, v, by rw [HE.out], by omega, fun z hz => by have := row6 z hz; simp at this; omega, ?_, ?_, by simpa using s89, B10⟩
  · rw [HVS.out]; exact (ownS.setBelow (by simp; omega) _).rebase (by simp; omega)
  · exact ownC.setBelow (show w.heap.size + 1 + 1 < w8.heap.size by omega) _

theorem impl_AddSumPlace (as0 : Addr) (S : List Int) (cap : Nat) (hn : S.length ≤ 4294967296) (ac : Addr) (C : List Int) (capc : Nat) (hnc : C.length ≤ 4294967296) (q : Int) (hqb : -9223372036854775808 ≤ q ∧ q ≤ 9223372036854775807) (w : World) (hS : Ints w (some as0) S) (hC : Ints w (some ac) C) :
    Calls Try.prog 9 #[.agg #[.slice (some as0) S.length cap], .slice (some ac) C.length capc, .int .i64 q] w fun e w' => ∃ m vs v, e = .returned (.tuple #[.agg #[vs], v, .int .i64 (eAdd S C q)]) ∧ w.heap.size ≤ m ∧ RowIn vs w.heap.size m ∧ OwnInts w' w.heap.size vs (vAddS S C q) ∧ OwnInts w' m v (vAddC S C q) ∧ m ≤ w'.heap.size ∧ Below w.heap.size w w' := by
  by_cases h1 : eCode S C = 0
  · by_cases h2 : q < 2
    · exact impl_AddSumPlace_e2 as0 S cap hn ac C capc hnc q hqb w hS hC h1 h2
    · by_cases h3 : 4 < q
      · exact impl_AddSumPlace_e2b as0 S cap hn ac C capc hnc q hqb w hS hC h1 h2 h3
      · cases h4 : isSp (S ++ [q]) with
        | false => exact impl_AddSumPlace_e3 as0 S cap hn ac C capc hnc q hqb w hS hC h1 ⟨by omega, by omega⟩ h4
        | true => exact impl_AddSumPlace_ok as0 S cap hn ac C capc hnc q hqb w hS hC h1 ⟨by omega, by omega⟩ h4
  · exact impl_AddSumPlace_e1 as0 S cap hn ac C capc hnc q hqb w hS hC (eCode S C) rfl h1

end Go.Proofs.Ytijlcjgbekcefaa
