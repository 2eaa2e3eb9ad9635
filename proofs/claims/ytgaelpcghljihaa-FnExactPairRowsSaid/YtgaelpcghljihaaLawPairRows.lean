/-
  PairRows answers as its model at every argument, and leaves its arguments alone. By an AI agent.
-/
import Derived.Test.YtgaelpcghljihaaPrs10
import Derived.Test.YtgaelpcghljihaaMarkS
import Derived.Test.YtgaelpcghljihaaMark
import Derived.Deep.RegionHeld3
namespace Go.Proofs.Ytgaelpcghljihaa
open Go.RowKit Cv
set_option linter.unusedVariables false
set_option linter.unusedSimpArgs false

set_option maxRecDepth 100000 in
set_option maxHeartbeats 4000000 in
theorem law_PairRows_main (a0 : Int) (ha0 : -9223372036854775808 ≤ a0 ∧ a0 ≤ 9223372036854775807) (w : World)   :
    Calls Try.prog 7 #[.int .i64 a0] w fun e w' => e = .returned (.bool true) ∧ Below w.heap.size w w' := by
  have HLn0 := vPrS_len a0
  have HLn1 := vPrC_len a0
  go_enter Try.func7, Try.ntmps7
  go_wp2_with fail
  refine (spec_PairRows a0 ha0 _ ).mono ?_
  rintro e w1 ⟨m1, vs1, v1, rfl, hm1, hr1, os1, o1, hn1, hb⟩
  have B : Below w.heap.size w w1 := Below.trans (by go_grown) (hb.mono (by simp; try omega))
  have s0 : w.heap.size ≤ w1.heap.size := B.size
  obtain ⟨as_1, ks_1, hv⟩ := os1.shape
  subst hv
  obtain ⟨a_1, k_1, hv⟩ := o1.shape
  subst hv
  have hm1' : w.heap.size ≤ m1 := by simpa using hm1
  have Ros1 : RowIn (.slice as_1 (vPrS a0).length ks_1) (w.heap.size) m1 := by simpa using hr1
  have Ro1 : RowIn (.slice a_1 (vPrC a0).length k_1) m1 w1.heap.size := o1.rowIn
  clear hm1 hr1
  clear hb
  go_wp2_with fail
  refine (impl_PairRows a0 ha0 _ ).mono ?_
  rintro e w2 ⟨m2, vs2, v2, rfl, hm2, hr2, os2, o2, hn2, hb⟩
  have hq : Below w1.heap.size w1 w2 := Below.trans ((Below.refl _ w1).alloc (Nat.le_refl _) _) (hb.mono (by simp))
  replace os1 := os1.below hq
  replace o1 := o1.below hq
  replace B := B.trans (hq.mono B.size)
  have s1 : w1.heap.size ≤ w2.heap.size := hq.size
  have cz1 := kept_cell hb (cell_new w1 (.slice as_1 (vPrS a0).length ks_1) 24) (lt_alloc _ _)
  have lz1 := lt_of_below hb (lt_alloc w1 (.cells #[.slice as_1 (vPrS a0).length ks_1] 24))
  have plz1 := lz1
  obtain ⟨as_2, ks_2, hv⟩ := os2.shape
  subst hv
  obtain ⟨a_2, k_2, hv⟩ := o2.shape
  subst hv
  have hm2' : w1.heap.size + 1 ≤ m2 := by simpa using hm2
  have Ros2 : RowIn (.slice as_2 (vPrS a0).length ks_2) (w1.heap.size + 1) m2 := by simpa using hr2
  have Ro2 : RowIn (.slice a_2 (vPrC a0).length k_2) m2 w2.heap.size := o2.rowIn
  clear hm2 hr2
  clear hb hq
  have pdcz1 := kept_cell ((Below.refl w2.heap.size w2).alloc (Nat.le_refl _) (.cells #[.slice as_2 (vPrS a0).length ks_2] 24)) cz1 lz1
  go_wp2_with fail
  clear pdcz1
  refine (eqSpace_same _ _ (vPrS a0) _ _ _ (by have := vPrS_len a0; omega) (own_ints (os2.alloc _)) (own_ints (os1.alloc _))).mono ?_
  rintro e w3 ⟨rfl, hb⟩
  have hq : Below w2.heap.size w2 w3 := Below.trans ((Below.refl _ w2).alloc (Nat.le_refl _) _) (hb.mono (by simp))
  replace cz1 := kept_cell hq cz1 lz1
  replace lz1 := lt_of_below hq lz1
  replace os1 := os1.below hq
  replace o1 := o1.below hq
  replace os2 := os2.below hq
  replace o2 := o2.below hq
  replace B := B.trans (hq.mono B.size)
  have s2 : w2.heap.size ≤ w3.heap.size := hq.size
  have cz2 := kept_cell hb (cell_new w2 (.slice as_2 (vPrS a0).length ks_2) 24) (lt_alloc _ _)
  have lz2 := lt_of_below hb (lt_alloc w2 (.cells #[.slice as_2 (vPrS a0).length ks_2] 24))
  have plz2 := lz2
  clear hb hq
  go_wp2_with fail
  refine (eqInt64S_same _ _ (vPrC a0) _ _ _ (by have := vPrC_len a0; omega) (own_ints o2) (own_ints o1)).mono ?_
  rintro e w4 ⟨rfl, hb⟩
  replace cz1 := kept_cell hb cz1 lz1
  replace lz1 := lt_of_below hb lz1
  replace cz2 := kept_cell hb cz2 lz2
  replace lz2 := lt_of_below hb lz2
  replace os1 := os1.below hb
  replace o1 := o1.below hb
  replace os2 := os2.below hb
  replace o2 := o2.below hb
  replace B := B.trans (hb.mono B.size)
  have s3 : w3.heap.size ≤ w4.heap.size := hb.size
  clear hb
  go_wp2_with fail
  refine (markSpace_gen _ _ _ _ _ _ _ (by have := vPrS_len a0; omega) (by omega) (by omega) rfl os2).mono ?_
  clear os2
  rintro e w5 ⟨rfl, os2, hg⟩
  replace cz1 := hg.cell (a := ⟨w1.heap.size, 0, none⟩) cz1 (row_ne_box (b := w1.heap.size) Ros2 (by omega))
  replace lz1 : w1.heap.size < w5.heap.size := Nat.lt_of_lt_of_le lz1 hg.size
  replace cz2 := hg.cell (a := ⟨w2.heap.size, 0, none⟩) cz2 (row_ne_box (b := w2.heap.size) Ros2 (by omega))
  replace lz2 : w2.heap.size < w5.heap.size := Nat.lt_of_lt_of_le lz2 hg.size
  replace os1 := os1.kept hg (row_ne_row Ros1 Ros2 (by omega))
  replace o1 := o1.kept hg (row_ne_row Ro1 Ros2 (by omega))
  replace o2 := o2.kept hg (row_ne_row Ro2 Ros2 (by omega))
  replace B := below_mark B B.size hg Ros2 (by omega)
  have s4 : w4.heap.size ≤ w5.heap.size := hg.size
  clear hg
  go_wp2_with fail
  refine (markInt64S_own _ _ _ _ _ _ _ (by have := vPrC_len a0; omega) (by omega) (by omega) rfl o2).mono ?_
  clear o2
  rintro e w6 ⟨rfl, o2, hg⟩
  replace cz1 := hg.cell (a := ⟨w1.heap.size, 0, none⟩) cz1 (row_ne_box (b := w1.heap.size) Ro2 (by omega))
  replace lz1 : w1.heap.size < w6.heap.size := Nat.lt_of_lt_of_le lz1 hg.size
  replace cz2 := hg.cell (a := ⟨w2.heap.size, 0, none⟩) cz2 (row_ne_box (b := w2.heap.size) Ro2 (by omega))
  replace lz2 : w2.heap.size < w6.heap.size := Nat.lt_of_lt_of_le lz2 hg.size
  replace os1 := os1.kept hg (row_ne_row Ros1 Ro2 (by omega))
  replace o1 := o1.kept hg (row_ne_row Ro1 Ro2 (by omega))
  replace os2 := os2.kept hg (row_ne_row Ros2 Ro2 (by omega))
  replace B := below_mark B B.size hg Ro2 (by omega)
  have s5 : w5.heap.size ≤ w6.heap.size := hg.size
  clear hg
  go_wp2_with fail
  refine (heldSpace_any _ _ _ _ _ (by have := vPrS_len a0; omega) (by omega) (by omega) (own_ints os2)).mono ?_
  rintro e w7 ⟨rfl, hb⟩
  replace cz1 := kept_cell hb cz1 lz1
  replace lz1 := lt_of_below hb lz1
  replace cz2 := kept_cell hb cz2 lz2
  replace lz2 := lt_of_below hb lz2
  replace os1 := os1.below hb
  replace o1 := o1.below hb
  replace os2 := os2.below hb
  replace o2 := o2.below hb
  replace B := B.trans (hb.mono B.size)
  have s6 : w6.heap.size ≤ w7.heap.size := hb.size
  clear hb
  go_wp2_with fail
  refine (heldInt64S_any _ _ _ _ _ (by have := vPrC_len a0; omega) (by omega) (by omega) (own_ints o2)).mono ?_
  rintro e wz ⟨rfl, rfl⟩
  go_wp2_with fail
  refine (impl_PairRows a0 ha0 _ ).mono ?_
  rintro e w8 ⟨m8, vs8, v8, rfl, hm8, hr8, os8, o8, hn8, hb⟩
  replace cz1 := kept_cell hb cz1 lz1
  replace lz1 := lt_of_below hb lz1
  replace cz2 := kept_cell hb cz2 lz2
  replace lz2 := lt_of_below hb lz2
  replace os1 := os1.below hb
  replace o1 := o1.below hb
  replace os2 := os2.below hb
  replace o2 := o2.below hb
  replace B := B.trans (hb.mono B.size)
  have s7 : w7.heap.size ≤ w8.heap.size := hb.size
  obtain ⟨as_8, ks_8, hv⟩ := os8.shape
  subst hv
  obtain ⟨a_8, k_8, hv⟩ := o8.shape
  subst hv
  have hm8' : w7.heap.size ≤ m8 := by simpa using hm8
  have Ros8 : RowIn (.slice as_8 (vPrS a0).length ks_8) (w7.heap.size) m8 := by simpa using hr8
  have Ro8 : RowIn (.slice a_8 (vPrC a0).length k_8) m8 w8.heap.size := o8.rowIn
  clear hm8 hr8
  clear hb
  have pdcz1 := kept_cell ((Below.refl w8.heap.size w8).alloc (Nat.le_refl _) (.cells #[.slice as_8 (vPrS a0).length ks_8] 24)) cz1 lz1
  have pdcz2 := kept_cell ((Below.refl w8.heap.size w8).alloc (Nat.le_refl _) (.cells #[.slice as_8 (vPrS a0).length ks_8] 24)) cz2 lz2
  go_wp2_with fail
  clear pdcz1 pdcz2
  refine (eqSpace_same _ _ (vPrS a0) _ _ _ (by have := vPrS_len a0; omega) (own_ints (os8.alloc _)) (own_ints (os1.alloc _))).mono ?_
  rintro e w9 ⟨rfl, hb⟩
  have hq : Below w8.heap.size w8 w9 := Below.trans ((Below.refl _ w8).alloc (Nat.le_refl _) _) (hb.mono (by simp))
  replace cz1 := kept_cell hq cz1 lz1
  replace lz1 := lt_of_below hq lz1
  replace cz2 := kept_cell hq cz2 lz2
  replace lz2 := lt_of_below hq lz2
  replace os1 := os1.below hq
  replace o1 := o1.below hq
  replace os2 := os2.below hq
  replace o2 := o2.below hq
  replace os8 := os8.below hq
  replace o8 := o8.below hq
  replace B := B.trans (hq.mono B.size)
  have s8 : w8.heap.size ≤ w9.heap.size := hq.size
  have cz8 := kept_cell hb (cell_new w8 (.slice as_8 (vPrS a0).length ks_8) 24) (lt_alloc _ _)
  have lz8 := lt_of_below hb (lt_alloc w8 (.cells #[.slice as_8 (vPrS a0).length ks_8] 24))
  have plz8 := lz8
  clear hb hq
  go_wp2_with fail
  refine (eqInt64S_same _ _ (vPrC a0) _ _ _ (by have := vPrC_len a0; omega) (own_ints o8) (own_ints o1)).mono ?_
  rintro e w10 ⟨rfl, hb⟩
  replace cz1 := kept_cell hb cz1 lz1
  replace lz1 := lt_of_below hb lz1
  replace cz2 := kept_cell hb cz2 lz2
  replace lz2 := lt_of_below hb lz2
  replace cz8 := kept_cell hb cz8 lz8
  replace lz8 := lt_of_below hb lz8
  replace os1 := os1.below hb
  replace o1 := o1.below hb
  replace os2 := os2.below hb
  replace o2 := o2.below hb
  replace os8 := os8.below hb
  replace o8 := o8.below hb
  replace B := B.trans (hb.mono B.size)
  have s9 : w9.heap.size ≤ w10.heap.size := hb.size
  clear hb
  go_wp2_with fail
  refine (heldSpace_any _ _ _ _ _ (by have := vPrS_len a0; omega) (by omega) (by omega) (own_ints os2)).mono ?_
  rintro e w11 ⟨rfl, hb⟩
  replace cz1 := kept_cell hb cz1 lz1
  replace lz1 := lt_of_below hb lz1
  replace cz2 := kept_cell hb cz2 lz2
  replace lz2 := lt_of_below hb lz2
  replace cz8 := kept_cell hb cz8 lz8
  replace lz8 := lt_of_below hb lz8
  replace os1 := os1.below hb
  replace o1 := o1.below hb
  replace os2 := os2.below hb
  replace o2 := o2.below hb
  replace os8 := os8.below hb
  replace o8 := o8.below hb
  replace B := B.trans (hb.mono B.size)
  have s10 : w10.heap.size ≤ w11.heap.size := hb.size
  clear hb
  go_wp2_with fail
  refine (heldInt64S_any _ _ _ _ _ (by have := vPrC_len a0; omega) (by omega) (by omega) (own_ints o2)).mono ?_
  rintro e wz ⟨rfl, rfl⟩
  go_wp2_with fail
  go_ret
  exact ⟨rfl, B⟩

theorem law_PairRows (a0 : Int) (ha0 : -9223372036854775808 ≤ a0 ∧ a0 ≤ 9223372036854775807) (w : World)  :
    Calls Try.prog 7 #[.int .i64 a0] w fun e w' => e = .returned (.bool true) ∧ Below w.heap.size w w' := by
  exact law_PairRows_main a0 ha0 w  

end Go.Proofs.Ytgaelpcghljihaa
