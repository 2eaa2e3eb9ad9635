/-
  PrizesOf answers as its model at every argument, and leaves its arguments alone. By an AI agent.
-/
import Derived.Test.YtclahcnkkkgdhaaPz8
import Derived.Test.YtclahcnkkkgdhaaMark
import Derived.Deep.RegionHeld3
namespace Go.Proofs.Ytclahcnkkkgdhaa
open Go.RowKit Cv
set_option linter.unusedVariables false
set_option linter.unusedSimpArgs false

set_option maxRecDepth 100000 in
set_option maxHeartbeats 4000000 in
theorem law_PrizesOf_neg0 (v0 p0 d0 h0 : Int) (ao1 : Option Addr) (S1 : List Int) (cap1 : Nat) (hn1 : S1.length ≤ 9223372036854775807) (a2 : Int) (ha2 : -9223372036854775808 ≤ a2 ∧ a2 ≤ 9223372036854775807) (w : World) (hS1 : Ints w ao1 S1)  (hneg : 1048576 < S1.length) :
    Calls Try.prog 11 #[.agg #[.int .i64 v0, .int .i64 p0, .int .i64 d0, .int .i64 h0], .slice ao1 S1.length cap1, .int .i64 a2] w fun e w' => e = .returned (.bool true) ∧ Below w.heap.size w w' := by
  go_enter Try.func11, Try.ntmps11
  go_wp2_with fail
  go_ret
  exact ⟨rfl, by go_grown⟩

set_option maxRecDepth 100000 in
set_option maxHeartbeats 4000000 in
theorem law_PrizesOf_main (v0 p0 d0 h0 : Int) (ao1 : Option Addr) (S1 : List Int) (cap1 : Nat) (hn1 : S1.length ≤ 9223372036854775807) (a2 : Int) (ha2 : -9223372036854775808 ≤ a2 ∧ a2 ≤ 9223372036854775807) (w : World) (hS1 : Ints w ao1 S1) (hk0 : S1.length ≤ 1048576) :
    Calls Try.prog 11 #[.agg #[.int .i64 v0, .int .i64 p0, .int .i64 d0, .int .i64 h0], .slice ao1 S1.length cap1, .int .i64 a2] w fun e w' => e = .returned (.bool true) ∧ Below w.heap.size w w' := by
  go_enter Try.func11, Try.ntmps11
  go_wp2_with fail
  refine (toLottery_any v0 p0 d0 h0 _).mono ?_
  rintro e w1 ⟨rfl, hb⟩
  have B : Below w.heap.size w w1 := Below.trans (by go_grown) (hb.mono (by simp; try omega))
  have c0_0 : w1.cell? ⟨w.heap.size, 0, none⟩ = some (.int .i64 v0) := kept_cell hb (by simp) (by simp; try omega)
  have l0_0 : w.heap.size < w1.heap.size := lt_of_below hb (by simp; try omega)
  have pl0_0 : w.heap.size < w1.heap.size := l0_0
  have c0_1 : w1.cell? ⟨w.heap.size, 1, none⟩ = some (.int .i64 p0) := kept_cell hb (by simp) (by simp; try omega)
  have l0_1 : w.heap.size < w1.heap.size := lt_of_below hb (by simp; try omega)
  have pl0_1 : w.heap.size < w1.heap.size := l0_1
  have c0_2 : w1.cell? ⟨w.heap.size, 2, none⟩ = some (.int .i64 d0) := kept_cell hb (by simp) (by simp; try omega)
  have l0_2 : w.heap.size < w1.heap.size := lt_of_below hb (by simp; try omega)
  have pl0_2 : w.heap.size < w1.heap.size := l0_2
  have c0_3 : w1.cell? ⟨w.heap.size, 3, none⟩ = some (.int .i64 h0) := kept_cell hb (by simp) (by simp; try omega)
  have l0_3 : w.heap.size < w1.heap.size := lt_of_below hb (by simp; try omega)
  have pl0_3 : w.heap.size < w1.heap.size := l0_3
  have s0 : w.heap.size ≤ w1.heap.size := B.size
  clear hb
  go_wp2_with fail
  refine (toInt64S_any ao1 S1 cap1 _ (by omega) (hS1.below B)).mono ?_
  rintro e w2 ⟨b2, rfl, o2, hb⟩
  replace c0_0 := kept_cell hb c0_0 l0_0
  replace l0_0 := lt_of_below hb l0_0
  replace c0_1 := kept_cell hb c0_1 l0_1
  replace l0_1 := lt_of_below hb l0_1
  replace c0_2 := kept_cell hb c0_2 l0_2
  replace l0_2 := lt_of_below hb l0_2
  replace c0_3 := kept_cell hb c0_3 l0_3
  replace l0_3 := lt_of_below hb l0_3
  replace B := B.trans (hb.mono B.size)
  have s1 : w1.heap.size ≤ w2.heap.size := hb.size
  replace o2 := o2.rebase (base' := w1.heap.size) (by simp)
  have Ro2 : RowIn (.slice (some ⟨b2, 0, none⟩) S1.length S1.length) (w1.heap.size) w2.heap.size := o2.rowIn
  clear hb
  go_wp2_with fail
  refine (spec_PrizesOf v0 p0 d0 h0 _ S1 _ (by omega) a2 ha2 _ (own_ints o2)).mono ?_
  rintro e w3 ⟨v3, rfl, o3, hb⟩
  replace c0_0 := kept_cell hb c0_0 l0_0
  replace l0_0 := lt_of_below hb l0_0
  replace c0_1 := kept_cell hb c0_1 l0_1
  replace l0_1 := lt_of_below hb l0_1
  replace c0_2 := kept_cell hb c0_2 l0_2
  replace l0_2 := lt_of_below hb l0_2
  replace c0_3 := kept_cell hb c0_3 l0_3
  replace l0_3 := lt_of_below hb l0_3
  replace o2 := o2.below hb
  replace B := B.trans (hb.mono B.size)
  have s2 : w2.heap.size ≤ w3.heap.size := hb.size
  obtain ⟨a_3, k_3, hv⟩ := o3.shape
  subst hv
  replace o3 := o3.rebase (base' := w2.heap.size) (by simp)
  have Ro3 : RowIn (.slice a_3 (vPzs v0 p0 d0 h0 S1 a2).length k_3) (w2.heap.size) w3.heap.size := o3.rowIn
  clear hb
  go_wp2_with fail
  refine (toInt64S_any ao1 S1 cap1 _ (by omega) (hS1.below B)).mono ?_
  rintro e w4 ⟨b4, rfl, o4, hb⟩
  replace c0_0 := kept_cell hb c0_0 l0_0
  replace l0_0 := lt_of_below hb l0_0
  replace c0_1 := kept_cell hb c0_1 l0_1
  replace l0_1 := lt_of_below hb l0_1
  replace c0_2 := kept_cell hb c0_2 l0_2
  replace l0_2 := lt_of_below hb l0_2
  replace c0_3 := kept_cell hb c0_3 l0_3
  replace l0_3 := lt_of_below hb l0_3
  replace o2 := o2.below hb
  replace o3 := o3.below hb
  replace B := B.trans (hb.mono B.size)
  have s3 : w3.heap.size ≤ w4.heap.size := hb.size
  replace o4 := o4.rebase (base' := w3.heap.size) (by simp)
  have Ro4 : RowIn (.slice (some ⟨b4, 0, none⟩) S1.length S1.length) (w3.heap.size) w4.heap.size := o4.rowIn
  clear hb
  go_wp2_with fail
  refine (toLottery_any v0 p0 d0 h0 _).mono ?_
  rintro e w5 ⟨rfl, hb⟩
  replace c0_0 := kept_cell hb c0_0 l0_0
  replace l0_0 := lt_of_below hb l0_0
  replace c0_1 := kept_cell hb c0_1 l0_1
  replace l0_1 := lt_of_below hb l0_1
  replace c0_2 := kept_cell hb c0_2 l0_2
  replace l0_2 := lt_of_below hb l0_2
  replace c0_3 := kept_cell hb c0_3 l0_3
  replace l0_3 := lt_of_below hb l0_3
  replace o2 := o2.below hb
  replace o3 := o3.below hb
  replace o4 := o4.below hb
  replace B := B.trans (hb.mono B.size)
  have s4 : w4.heap.size ≤ w5.heap.size := hb.size
  clear hb
  go_wp2_with fail
  refine (impl_PrizesOf v0 p0 d0 h0 _ S1 _ (by omega) a2 ha2 _ (own_ints o4)).mono ?_
  rintro e w6 ⟨v6, rfl, o6, hb⟩
  replace c0_0 := kept_cell hb c0_0 l0_0
  replace l0_0 := lt_of_below hb l0_0
  replace c0_1 := kept_cell hb c0_1 l0_1
  replace l0_1 := lt_of_below hb l0_1
  replace c0_2 := kept_cell hb c0_2 l0_2
  replace l0_2 := lt_of_below hb l0_2
  replace c0_3 := kept_cell hb c0_3 l0_3
  replace l0_3 := lt_of_below hb l0_3
  replace o2 := o2.below hb
  replace o3 := o3.below hb
  replace o4 := o4.below hb
  replace B := B.trans (hb.mono B.size)
  have s5 : w5.heap.size ≤ w6.heap.size := hb.size
  obtain ⟨a_6, k_6, hv⟩ := o6.shape
  subst hv
  replace o6 := o6.rebase (base' := w5.heap.size) (by simp)
  have Ro6 : RowIn (.slice a_6 (vPzs v0 p0 d0 h0 S1 a2).length k_6) (w5.heap.size) w6.heap.size := o6.rowIn
  clear hb
  go_wp2_with fail
  refine (eqInt64S_same _ _ (vPzs v0 p0 d0 h0 S1 a2) _ _ _ (by have := vPzs_len v0 p0 d0 h0 S1 a2; omega) (own_ints o6) (own_ints o3)).mono ?_
  rintro e w7 ⟨rfl, hb⟩
  replace c0_0 := kept_cell hb c0_0 l0_0
  replace l0_0 := lt_of_below hb l0_0
  replace c0_1 := kept_cell hb c0_1 l0_1
  replace l0_1 := lt_of_below hb l0_1
  replace c0_2 := kept_cell hb c0_2 l0_2
  replace l0_2 := lt_of_below hb l0_2
  replace c0_3 := kept_cell hb c0_3 l0_3
  replace l0_3 := lt_of_below hb l0_3
  replace o2 := o2.below hb
  replace o3 := o3.below hb
  replace o4 := o4.below hb
  replace o6 := o6.below hb
  replace B := B.trans (hb.mono B.size)
  have s6 : w6.heap.size ≤ w7.heap.size := hb.size
  clear hb
  go_wp2_with fail
  refine (toInt64S_any ao1 S1 cap1 _ (by omega) (hS1.below B)).mono ?_
  rintro e w8 ⟨b8, rfl, o8, hb⟩
  replace c0_0 := kept_cell hb c0_0 l0_0
  replace l0_0 := lt_of_below hb l0_0
  replace c0_1 := kept_cell hb c0_1 l0_1
  replace l0_1 := lt_of_below hb l0_1
  replace c0_2 := kept_cell hb c0_2 l0_2
  replace l0_2 := lt_of_below hb l0_2
  replace c0_3 := kept_cell hb c0_3 l0_3
  replace l0_3 := lt_of_below hb l0_3
  replace o2 := o2.below hb
  replace o3 := o3.below hb
  replace o4 := o4.below hb
  replace o6 := o6.below hb
  replace B := B.trans (hb.mono B.size)
  have s7 : w7.heap.size ≤ w8.heap.size := hb.size
  replace o8 := o8.rebase (base' := w7.heap.size) (by simp)
  have Ro8 : RowIn (.slice (some ⟨b8, 0, none⟩) S1.length S1.length) (w7.heap.size) w8.heap.size := o8.rowIn
  clear hb
  go_wp2_with fail
  refine (eqInt64S_same _ _ S1 _ _ _ (by omega) (own_ints o4) (own_ints o8)).mono ?_
  rintro e w9 ⟨rfl, hb⟩
  replace c0_0 := kept_cell hb c0_0 l0_0
  replace l0_0 := lt_of_below hb l0_0
  replace c0_1 := kept_cell hb c0_1 l0_1
  replace l0_1 := lt_of_below hb l0_1
  replace c0_2 := kept_cell hb c0_2 l0_2
  replace l0_2 := lt_of_below hb l0_2
  replace c0_3 := kept_cell hb c0_3 l0_3
  replace l0_3 := lt_of_below hb l0_3
  replace o2 := o2.below hb
  replace o3 := o3.below hb
  replace o4 := o4.below hb
  replace o6 := o6.below hb
  replace o8 := o8.below hb
  replace B := B.trans (hb.mono B.size)
  have s8 : w8.heap.size ≤ w9.heap.size := hb.size
  clear hb
  go_wp2_with fail
  refine (markInt64S_own _ _ _ _ _ _ _ (by have := hn1; omega) (by omega) (by omega) rfl o4).mono ?_
  clear o4
  rintro e w10 ⟨rfl, o4, hg⟩
  replace c0_0 := hg.cell (a := ⟨w.heap.size, 0, none⟩) c0_0 (row_ne_box (b := w.heap.size) Ro4 (by omega))
  replace l0_0 : w.heap.size < w10.heap.size := Nat.lt_of_lt_of_le l0_0 hg.size
  replace c0_1 := hg.cell (a := ⟨w.heap.size, 1, none⟩) c0_1 (row_ne_box (b := w.heap.size) Ro4 (by omega))
  replace l0_1 : w.heap.size < w10.heap.size := Nat.lt_of_lt_of_le l0_1 hg.size
  replace c0_2 := hg.cell (a := ⟨w.heap.size, 2, none⟩) c0_2 (row_ne_box (b := w.heap.size) Ro4 (by omega))
  replace l0_2 : w.heap.size < w10.heap.size := Nat.lt_of_lt_of_le l0_2 hg.size
  replace c0_3 := hg.cell (a := ⟨w.heap.size, 3, none⟩) c0_3 (row_ne_box (b := w.heap.size) Ro4 (by omega))
  replace l0_3 : w.heap.size < w10.heap.size := Nat.lt_of_lt_of_le l0_3 hg.size
  replace o2 := o2.kept hg (row_ne_row Ro2 Ro4 (by omega))
  replace o3 := o3.kept hg (row_ne_row Ro3 Ro4 (by omega))
  replace o6 := o6.kept hg (row_ne_row Ro6 Ro4 (by omega))
  replace o8 := o8.kept hg (row_ne_row Ro8 Ro4 (by omega))
  replace B := below_mark B B.size hg Ro4 (by omega)
  have s9 : w9.heap.size ≤ w10.heap.size := hg.size
  clear hg
  go_wp2_with fail
  refine (eqInt64S_same _ _ (vPzs v0 p0 d0 h0 S1 a2) _ _ _ (by have := vPzs_len v0 p0 d0 h0 S1 a2; omega) (own_ints o6) (own_ints o3)).mono ?_
  rintro e w11 ⟨rfl, hb⟩
  replace c0_0 := kept_cell hb c0_0 l0_0
  replace l0_0 := lt_of_below hb l0_0
  replace c0_1 := kept_cell hb c0_1 l0_1
  replace l0_1 := lt_of_below hb l0_1
  replace c0_2 := kept_cell hb c0_2 l0_2
  replace l0_2 := lt_of_below hb l0_2
  replace c0_3 := kept_cell hb c0_3 l0_3
  replace l0_3 := lt_of_below hb l0_3
  replace o2 := o2.below hb
  replace o3 := o3.below hb
  replace o4 := o4.below hb
  replace o6 := o6.below hb
  replace o8 := o8.below hb
  replace B := B.trans (hb.mono B.size)
  have s10 : w10.heap.size ≤ w11.heap.size := hb.size
  clear hb
  go_wp2_with fail
  refine (markInt64S_own _ _ _ _ _ _ _ (by have := vPzs_len v0 p0 d0 h0 S1 a2; omega) (by omega) (by omega) rfl o6).mono ?_
  clear o6
  rintro e w12 ⟨rfl, o6, hg⟩
  replace c0_0 := hg.cell (a := ⟨w.heap.size, 0, none⟩) c0_0 (row_ne_box (b := w.heap.size) Ro6 (by omega))
  replace l0_0 : w.heap.size < w12.heap.size := Nat.lt_of_lt_of_le l0_0 hg.size
  replace c0_1 := hg.cell (a := ⟨w.heap.size, 1, none⟩) c0_1 (row_ne_box (b := w.heap.size) Ro6 (by omega))
  replace l0_1 : w.heap.size < w12.heap.size := Nat.lt_of_lt_of_le l0_1 hg.size
  replace c0_2 := hg.cell (a := ⟨w.heap.size, 2, none⟩) c0_2 (row_ne_box (b := w.heap.size) Ro6 (by omega))
  replace l0_2 : w.heap.size < w12.heap.size := Nat.lt_of_lt_of_le l0_2 hg.size
  replace c0_3 := hg.cell (a := ⟨w.heap.size, 3, none⟩) c0_3 (row_ne_box (b := w.heap.size) Ro6 (by omega))
  replace l0_3 : w.heap.size < w12.heap.size := Nat.lt_of_lt_of_le l0_3 hg.size
  replace o2 := o2.kept hg (row_ne_row Ro2 Ro6 (by omega))
  replace o3 := o3.kept hg (row_ne_row Ro3 Ro6 (by omega))
  replace o4 := o4.kept hg (row_ne_row Ro4 Ro6 (by omega))
  replace o8 := o8.kept hg (row_ne_row Ro8 Ro6 (by omega))
  replace B := below_mark B B.size hg Ro6 (by omega)
  have s11 : w11.heap.size ≤ w12.heap.size := hg.size
  clear hg
  go_wp2_with fail
  refine (heldInt64S_any _ _ _ 1 _ (by have := vPzs_len v0 p0 d0 h0 S1 a2; omega) (by omega) (by omega) (own_ints o6)).mono ?_
  rintro e wz ⟨rfl, rfl⟩
  go_wp2_with fail
  refine (toLottery_any v0 p0 d0 h0 _).mono ?_
  rintro e w13 ⟨rfl, hb⟩
  replace c0_0 := kept_cell hb c0_0 l0_0
  replace l0_0 := lt_of_below hb l0_0
  replace c0_1 := kept_cell hb c0_1 l0_1
  replace l0_1 := lt_of_below hb l0_1
  replace c0_2 := kept_cell hb c0_2 l0_2
  replace l0_2 := lt_of_below hb l0_2
  replace c0_3 := kept_cell hb c0_3 l0_3
  replace l0_3 := lt_of_below hb l0_3
  replace o2 := o2.below hb
  replace o3 := o3.below hb
  replace o4 := o4.below hb
  replace o6 := o6.below hb
  replace o8 := o8.below hb
  replace B := B.trans (hb.mono B.size)
  have s12 : w12.heap.size ≤ w13.heap.size := hb.size
  clear hb
  go_wp2_with fail
  refine (toInt64S_any ao1 S1 cap1 _ (by omega) (hS1.below B)).mono ?_
  rintro e w14 ⟨b14, rfl, o14, hb⟩
  replace c0_0 := kept_cell hb c0_0 l0_0
  replace l0_0 := lt_of_below hb l0_0
  replace c0_1 := kept_cell hb c0_1 l0_1
  replace l0_1 := lt_of_below hb l0_1
  replace c0_2 := kept_cell hb c0_2 l0_2
  replace l0_2 := lt_of_below hb l0_2
  replace c0_3 := kept_cell hb c0_3 l0_3
  replace l0_3 := lt_of_below hb l0_3
  replace o2 := o2.below hb
  replace o3 := o3.below hb
  replace o4 := o4.below hb
  replace o6 := o6.below hb
  replace o8 := o8.below hb
  replace B := B.trans (hb.mono B.size)
  have s13 : w13.heap.size ≤ w14.heap.size := hb.size
  replace o14 := o14.rebase (base' := w13.heap.size) (by simp)
  have Ro14 : RowIn (.slice (some ⟨b14, 0, none⟩) S1.length S1.length) (w13.heap.size) w14.heap.size := o14.rowIn
  clear hb
  go_wp2_with fail
  refine (impl_PrizesOf v0 p0 d0 h0 _ S1 _ (by omega) a2 ha2 _ (own_ints o14)).mono ?_
  rintro e w15 ⟨v15, rfl, o15, hb⟩
  replace c0_0 := kept_cell hb c0_0 l0_0
  replace l0_0 := lt_of_below hb l0_0
  replace c0_1 := kept_cell hb c0_1 l0_1
  replace l0_1 := lt_of_below hb l0_1
  replace c0_2 := kept_cell hb c0_2 l0_2
  replace l0_2 := lt_of_below hb l0_2
  replace c0_3 := kept_cell hb c0_3 l0_3
  replace l0_3 := lt_of_below hb l0_3
  replace o2 := o2.below hb
  replace o3 := o3.below hb
  replace o4 := o4.below hb
  replace o6 := o6.below hb
  replace o8 := o8.below hb
  replace o14 := o14.below hb
  replace B := B.trans (hb.mono B.size)
  have s14 : w14.heap.size ≤ w15.heap.size := hb.size
  obtain ⟨a_15, k_15, hv⟩ := o15.shape
  subst hv
  replace o15 := o15.rebase (base' := w14.heap.size) (by simp)
  have Ro15 : RowIn (.slice a_15 (vPzs v0 p0 d0 h0 S1 a2).length k_15) (w14.heap.size) w15.heap.size := o15.rowIn
  clear hb
  go_wp2_with fail
  refine (eqInt64S_same _ _ (vPzs v0 p0 d0 h0 S1 a2) _ _ _ (by have := vPzs_len v0 p0 d0 h0 S1 a2; omega) (own_ints o15) (own_ints o3)).mono ?_
  rintro e w16 ⟨rfl, hb⟩
  replace c0_0 := kept_cell hb c0_0 l0_0
  replace l0_0 := lt_of_below hb l0_0
  replace c0_1 := kept_cell hb c0_1 l0_1
  replace l0_1 := lt_of_below hb l0_1
  replace c0_2 := kept_cell hb c0_2 l0_2
  replace l0_2 := lt_of_below hb l0_2
  replace c0_3 := kept_cell hb c0_3 l0_3
  replace l0_3 := lt_of_below hb l0_3
  replace o2 := o2.below hb
  replace o3 := o3.below hb
  replace o4 := o4.below hb
  replace o6 := o6.below hb
  replace o8 := o8.below hb
  replace o14 := o14.below hb
  replace o15 := o15.below hb
  replace B := B.trans (hb.mono B.size)
  have s15 : w15.heap.size ≤ w16.heap.size := hb.size
  clear hb
  go_wp2_with fail
  refine (heldInt64S_any _ _ _ 1 _ (by have := vPzs_len v0 p0 d0 h0 S1 a2; omega) (by omega) (by omega) (own_ints o6)).mono ?_
  rintro e wz ⟨rfl, rfl⟩
  go_wp2_with fail
  go_ret
  exact ⟨rfl, B⟩

theorem law_PrizesOf (v0 p0 d0 h0 : Int) (ao1 : Option Addr) (S1 : List Int) (cap1 : Nat) (hn1 : S1.length ≤ 9223372036854775807) (a2 : Int) (ha2 : -9223372036854775808 ≤ a2 ∧ a2 ≤ 9223372036854775807) (w : World) (hS1 : Ints w ao1 S1) :
    Calls Try.prog 11 #[.agg #[.int .i64 v0, .int .i64 p0, .int .i64 d0, .int .i64 h0], .slice ao1 S1.length cap1, .int .i64 a2] w fun e w' => e = .returned (.bool true) ∧ Below w.heap.size w w' := by
  by_cases hk0 : S1.length ≤ 1048576
  case neg => exact law_PrizesOf_neg0 v0 p0 d0 h0 ao1 S1 cap1 hn1 a2 ha2 w hS1  (by omega)
  exact law_PrizesOf_main v0 p0 d0 h0 ao1 S1 cap1 hn1 a2 ha2 w hS1 hk0

end Go.Proofs.Ytclahcnkkkgdhaa
