/-
  NumbersOf answers as its model at every argument, and leaves its arguments alone. By an AI agent.
-/
import Derived.Test.YtclahcnkkkgdhaaNo8
import Derived.Test.YtclahcnkkkgdhaaMark
import Derived.Deep.RegionHeld3
namespace Go.Proofs.Ytclahcnkkkgdhaa
open Go.RowKit Cv
set_option linter.unusedVariables false
set_option linter.unusedSimpArgs false

set_option maxRecDepth 100000 in
set_option maxHeartbeats 4000000 in
theorem law_NumbersOf_main (v0 p0 d0 h0 : Int) (a1 : Int) (ha1 : -9223372036854775808 ≤ a1 ∧ a1 ≤ 9223372036854775807) (w : World)   :
    Calls Try.prog 7 #[.agg #[.int .i64 v0, .int .i64 p0, .int .i64 d0, .int .i64 h0], .int .i64 a1] w fun e w' => e = .returned (.bool true) ∧ Below w.heap.size w w' := by
  go_enter Try.func7, Try.ntmps7
  go_wp2_with fail
  refine (toLottery_any v0 p0 d0 h0 _).mono ?_
  rintro e w1 ⟨rfl, hb⟩
  have B : Below w.heap.size w w1 := Below.trans (by go_grown) (hb.mono (by simp; try omega))
  have c0_0 : w1.cell? ⟨w.heap.size, 0, none⟩ = some (.int .i64 v0) := kept_cell hb (by simp) (by simp; try omega)
  have l0_0 : w.heap.size < w1.heap.size := lt_of_below hb (by simp; try omega)
  have pl0_0 : w.heap.size < w1.heap.size := l0_0
  have c0_1 : w1.cell? ⟨w.heap.size, 1, none⟩ = some (.int .i64 p0) := kept_cell hb (by simp) (by simp; try omega)
  have l0_1 : w.heap.size < w1.heap.size := lt_of_below hb (by simp; try omega)
  have pl0_1 : w.heap.size < w1.heap.size := l0_1
  have c0_2 : w1.cell? ⟨w.heap.size, 2, none⟩ = some (.int .i64 d0) := kept_cell hb (by simp) (by simp; try omega)
  have l0_2 : w.heap.size < w1.heap.size := lt_of_below hb (by simp; try omega)
  have pl0_2 : w.heap.size < w1.heap.size := l0_2
  have c0_3 : w1.cell? ⟨w.heap.size, 3, none⟩ = some (.int .i64 h0) := kept_cell hb (by simp) (by simp; try omega)
  have l0_3 : w.heap.size < w1.heap.size := lt_of_below hb (by simp; try omega)
  have pl0_3 : w.heap.size < w1.heap.size := l0_3
  have s0 : w.heap.size ≤ w1.heap.size := B.size
  clear hb
  go_wp2_with fail
  refine (spec_NumbersOf v0 p0 d0 h0 a1 ha1 _ ).mono ?_
  rintro e w2 ⟨v2, rfl, o2, hb⟩
  replace c0_0 := kept_cell hb c0_0 l0_0
  replace l0_0 := lt_of_below hb l0_0
  replace c0_1 := kept_cell hb c0_1 l0_1
  replace l0_1 := lt_of_below hb l0_1
  replace c0_2 := kept_cell hb c0_2 l0_2
  replace l0_2 := lt_of_below hb l0_2
  replace c0_3 := kept_cell hb c0_3 l0_3
  replace l0_3 := lt_of_below hb l0_3
  replace B := B.trans (hb.mono B.size)
  have s1 : w1.heap.size ≤ w2.heap.size := hb.size
  obtain ⟨a_2, k_2, hv⟩ := o2.shape
  subst hv
  replace o2 := o2.rebase (base' := w1.heap.size) (by simp)
  have Ro2 : RowIn (.slice a_2 (vNo v0 p0 d0 h0 a1).length k_2) (w1.heap.size) w2.heap.size := o2.rowIn
  clear hb
  go_wp2_with fail
  refine (toLottery_any v0 p0 d0 h0 _).mono ?_
  rintro e w3 ⟨rfl, hb⟩
  replace c0_0 := kept_cell hb c0_0 l0_0
  replace l0_0 := lt_of_below hb l0_0
  replace c0_1 := kept_cell hb c0_1 l0_1
  replace l0_1 := lt_of_below hb l0_1
  replace c0_2 := kept_cell hb c0_2 l0_2
  replace l0_2 := lt_of_below hb l0_2
  replace c0_3 := kept_cell hb c0_3 l0_3
  replace l0_3 := lt_of_below hb l0_3
  replace o2 := o2.below hb
  replace B := B.trans (hb.mono B.size)
  have s2 : w2.heap.size ≤ w3.heap.size := hb.size
  clear hb
  go_wp2_with fail
  refine (impl_NumbersOf v0 p0 d0 h0 a1 ha1 _ ).mono ?_
  rintro e w4 ⟨v4, rfl, o4, hb⟩
  replace c0_0 := kept_cell hb c0_0 l0_0
  replace l0_0 := lt_of_below hb l0_0
  replace c0_1 := kept_cell hb c0_1 l0_1
  replace l0_1 := lt_of_below hb l0_1
  replace c0_2 := kept_cell hb c0_2 l0_2
  replace l0_2 := lt_of_below hb l0_2
  replace c0_3 := kept_cell hb c0_3 l0_3
  replace l0_3 := lt_of_below hb l0_3
  replace o2 := o2.below hb
  replace B := B.trans (hb.mono B.size)
  have s3 : w3.heap.size ≤ w4.heap.size := hb.size
  obtain ⟨a_4, k_4, hv⟩ := o4.shape
  subst hv
  replace o4 := o4.rebase (base' := w3.heap.size) (by simp)
  have Ro4 : RowIn (.slice a_4 (vNo v0 p0 d0 h0 a1).length k_4) (w3.heap.size) w4.heap.size := o4.rowIn
  clear hb
  go_wp2_with fail
  refine (eqInt64S_same _ _ (vNo v0 p0 d0 h0 a1) _ _ _ (by have := vNo_len v0 p0 d0 h0 a1; omega) (own_ints o4) (own_ints o2)).mono ?_
  rintro e w5 ⟨rfl, hb⟩
  replace c0_0 := kept_cell hb c0_0 l0_0
  replace l0_0 := lt_of_below hb l0_0
  replace c0_1 := kept_cell hb c0_1 l0_1
  replace l0_1 := lt_of_below hb l0_1
  replace c0_2 := kept_cell hb c0_2 l0_2
  replace l0_2 := lt_of_below hb l0_2
  replace c0_3 := kept_cell hb c0_3 l0_3
  replace l0_3 := lt_of_below hb l0_3
  replace o2 := o2.below hb
  replace o4 := o4.below hb
  replace B := B.trans (hb.mono B.size)
  have s4 : w4.heap.size ≤ w5.heap.size := hb.size
  clear hb
  go_wp2_with fail
  refine (markInt64S_own _ _ _ _ _ _ _ (by have := vNo_len v0 p0 d0 h0 a1; omega) (by omega) (by omega) rfl o4).mono ?_
  clear o4
  rintro e w6 ⟨rfl, o4, hg⟩
  replace c0_0 := hg.cell (a := ⟨w.heap.size, 0, none⟩) c0_0 (row_ne_box (b := w.heap.size) Ro4 (by omega))
  replace l0_0 : w.heap.size < w6.heap.size := Nat.lt_of_lt_of_le l0_0 hg.size
  replace c0_1 := hg.cell (a := ⟨w.heap.size, 1, none⟩) c0_1 (row_ne_box (b := w.heap.size) Ro4 (by omega))
  replace l0_1 : w.heap.size < w6.heap.size := Nat.lt_of_lt_of_le l0_1 hg.size
  replace c0_2 := hg.cell (a := ⟨w.heap.size, 2, none⟩) c0_2 (row_ne_box (b := w.heap.size) Ro4 (by omega))
  replace l0_2 : w.heap.size < w6.heap.size := Nat.lt_of_lt_of_le l0_2 hg.size
  replace c0_3 := hg.cell (a := ⟨w.heap.size, 3, none⟩) c0_3 (row_ne_box (b := w.heap.size) Ro4 (by omega))
  replace l0_3 : w.heap.size < w6.heap.size := Nat.lt_of_lt_of_le l0_3 hg.size
  replace o2 := o2.kept hg (row_ne_row Ro2 Ro4 (by omega))
  replace B := below_mark B B.size hg Ro4 (by omega)
  have s5 : w5.heap.size ≤ w6.heap.size := hg.size
  clear hg
  go_wp2_with fail
  refine (heldInt64S_any _ _ _ 1 _ (by have := vNo_len v0 p0 d0 h0 a1; omega) (by omega) (by omega) (own_ints o4)).mono ?_
  rintro e wz ⟨rfl, rfl⟩
  go_wp2_with fail
  refine (toLottery_any v0 p0 d0 h0 _).mono ?_
  rintro e w7 ⟨rfl, hb⟩
  replace c0_0 := kept_cell hb c0_0 l0_0
  replace l0_0 := lt_of_below hb l0_0
  replace c0_1 := kept_cell hb c0_1 l0_1
  replace l0_1 := lt_of_below hb l0_1
  replace c0_2 := kept_cell hb c0_2 l0_2
  replace l0_2 := lt_of_below hb l0_2
  replace c0_3 := kept_cell hb c0_3 l0_3
  replace l0_3 := lt_of_below hb l0_3
  replace o2 := o2.below hb
  replace o4 := o4.below hb
  replace B := B.trans (hb.mono B.size)
  have s6 : w6.heap.size ≤ w7.heap.size := hb.size
  clear hb
  go_wp2_with fail
  refine (impl_NumbersOf v0 p0 d0 h0 a1 ha1 _ ).mono ?_
  rintro e w8 ⟨v8, rfl, o8, hb⟩
  replace c0_0 := kept_cell hb c0_0 l0_0
  replace l0_0 := lt_of_below hb l0_0
  replace c0_1 := kept_cell hb c0_1 l0_1
  replace l0_1 := lt_of_below hb l0_1
  replace c0_2 := kept_cell hb c0_2 l0_2
  replace l0_2 := lt_of_below hb l0_2
  replace c0_3 := kept_cell hb c0_3 l0_3
  replace l0_3 := lt_of_below hb l0_3
  replace o2 := o2.below hb
  replace o4 := o4.below hb
  replace B := B.trans (hb.mono B.size)
  have s7 : w7.heap.size ≤ w8.heap.size := hb.size
  obtain ⟨a_8, k_8, hv⟩ := o8.shape
  subst hv
  replace o8 := o8.rebase (base' := w7.heap.size) (by simp)
  have Ro8 : RowIn (.slice a_8 (vNo v0 p0 d0 h0 a1).length k_8) (w7.heap.size) w8.heap.size := o8.rowIn
  clear hb
  go_wp2_with fail
  refine (eqInt64S_same _ _ (vNo v0 p0 d0 h0 a1) _ _ _ (by have := vNo_len v0 p0 d0 h0 a1; omega) (own_ints o8) (own_ints o2)).mono ?_
  rintro e w9 ⟨rfl, hb⟩
  replace c0_0 := kept_cell hb c0_0 l0_0
  replace l0_0 := lt_of_below hb l0_0
  replace c0_1 := kept_cell hb c0_1 l0_1
  replace l0_1 := lt_of_below hb l0_1
  replace c0_2 := kept_cell hb c0_2 l0_2
  replace l0_2 := lt_of_below hb l0_2
  replace c0_3 := kept_cell hb c0_3 l0_3
  replace l0_3 := lt_of_below hb l0_3
  replace o2 := o2.below hb
  replace o4 := o4.below hb
  replace o8 := o8.below hb
  replace B := B.trans (hb.mono B.size)
  have s8 : w8.heap.size ≤ w9.heap.size := hb.size
  clear hb
  go_wp2_with fail
  refine (heldInt64S_any _ _ _ 1 _ (by have := vNo_len v0 p0 d0 h0 a1; omega) (by omega) (by omega) (own_ints o4)).mono ?_
  rintro e wz ⟨rfl, rfl⟩
  go_wp2_with fail
  go_ret
  exact ⟨rfl, B⟩

theorem law_NumbersOf (v0 p0 d0 h0 : Int) (a1 : Int) (ha1 : -9223372036854775808 ≤ a1 ∧ a1 ≤ 9223372036854775807) (w : World)  :
    Calls Try.prog 7 #[.agg #[.int .i64 v0, .int .i64 p0, .int .i64 d0, .int .i64 h0], .int .i64 a1] w fun e w' => e = .returned (.bool true) ∧ Below w.heap.size w w' := by
  exact law_NumbersOf_main v0 p0 d0 h0 a1 ha1 w  

end Go.Proofs.Ytclahcnkkkgdhaa
