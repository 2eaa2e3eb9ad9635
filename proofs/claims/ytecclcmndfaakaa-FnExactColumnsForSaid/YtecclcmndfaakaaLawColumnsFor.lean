/-
  ColumnsFor answers as its model at every argument, and leaves its arguments alone. By an AI agent.
-/
import Derived.Test.YtecclcmndfaakaaClI
import Derived.Test.YtecclcmndfaakaaRwc
import Derived.Test.YtecclcmndfaakaaMark
import Derived.Deep.RegionHeld3
namespace Go.Proofs.Ytecclcmndfaakaa
open Go.RowKit Cv
set_option linter.unusedVariables false
set_option linter.unusedSimpArgs false

set_option maxRecDepth 100000 in
set_option maxHeartbeats 4000000 in
theorem law_ColumnsFor_main (a0 : Int) (ha0 : -9223372036854775808 ≤ a0 ∧ a0 ≤ 9223372036854775807) (a1 : Int) (ha1 : -9223372036854775808 ≤ a1 ∧ a1 ≤ 9223372036854775807) (w : World)   :
    Calls Try.prog 6 #[.int .i64 a0, .int .i64 a1] w fun e w' => e = .returned (.bool true) ∧ Below w.heap.size w w' := by
  go_enter Try.func6, Try.ntmps6
  go_wp2_with fail
  refine (spec_ColumnsFor a0 ha0 a1 ha1 _ ).mono ?_
  rintro e w1 ⟨v1, rfl, o1, hb⟩
  have B : Below w.heap.size w w1 := Below.trans (by go_grown) (hb.mono (by simp; try omega))
  have s0 : w.heap.size ≤ w1.heap.size := B.size
  obtain ⟨a_1, k_1, hv⟩ := o1.shape
  subst hv
  replace o1 := o1.rebase (lo' := w.heap.size) (by simp) (Nat.le_refl _)
  clear hb
  go_wp2_with fail
  refine (impl_ColumnsFor a0 ha0 a1 ha1 _ ).mono ?_
  rintro e w2 ⟨v2, rfl, o2, hb⟩
  replace o1 := o1.below hb
  replace B := B.trans (hb.mono B.size)
  have s1 : w1.heap.size ≤ w2.heap.size := hb.size
  obtain ⟨a_2, k_2, hv⟩ := o2.shape
  subst hv
  replace o2 := o2.rebase (lo' := w1.heap.size) (by simp) (Nat.le_refl _)
  clear hb
  go_wp2_with fail
  refine (eqInt64SS_same _ _ _ _ _ _ _ _ (vCol 1 a0 a1) _ (vCol_len a0 a1) o2 o1).mono ?_
  rintro e w3 ⟨rfl, hb⟩
  replace o1 := o1.below hb
  replace o2 := o2.below hb
  replace B := B.trans (hb.mono B.size)
  have s2 : w2.heap.size ≤ w3.heap.size := hb.size
  clear hb
  go_wp2_with fail
  refine (markInt64SS_own _ _ _ _ (vCol 1 a0 a1) 1 _ (vCol_len a0 a1) (by omega) (by omega) (by omega) o2).mono ?_
  clear o2
  rintro e w4 ⟨rfl, o2, hg⟩
  replace o1 := o1.belowB (by omega) hg
  replace B := B.trans (hg.mono (by omega))
  have s3 : w3.heap.size ≤ w4.heap.size := hg.size
  clear hg
  go_wp2_with fail
  refine (heldInt64SS_any _ _ _ _ (vCol 1 a0 a1) 1 _ (vCol_len a0 a1) (by omega) (by omega) o2).mono ?_
  rintro e wz ⟨rfl, rfl⟩
  go_wp2_with fail
  refine (impl_ColumnsFor a0 ha0 a1 ha1 _ ).mono ?_
  rintro e w5 ⟨v5, rfl, o5, hb⟩
  replace o1 := o1.below hb
  replace o2 := o2.below hb
  replace B := B.trans (hb.mono B.size)
  have s4 : w4.heap.size ≤ w5.heap.size := hb.size
  obtain ⟨a_5, k_5, hv⟩ := o5.shape
  subst hv
  replace o5 := o5.rebase (lo' := w4.heap.size) (by simp) (Nat.le_refl _)
  clear hb
  go_wp2_with fail
  refine (eqInt64SS_same _ _ _ _ _ _ _ _ (vCol 1 a0 a1) _ (vCol_len a0 a1) o5 o1).mono ?_
  rintro e w6 ⟨rfl, hb⟩
  replace o1 := o1.below hb
  replace o2 := o2.below hb
  replace o5 := o5.below hb
  replace B := B.trans (hb.mono B.size)
  have s5 : w5.heap.size ≤ w6.heap.size := hb.size
  clear hb
  go_wp2_with fail
  refine (heldInt64SS_any _ _ _ _ (vCol 1 a0 a1) 1 _ (vCol_len a0 a1) (by omega) (by omega) o2).mono ?_
  rintro e wz ⟨rfl, rfl⟩
  go_wp2_with fail
  go_ret
  exact ⟨rfl, B⟩

theorem law_ColumnsFor (a0 : Int) (ha0 : -9223372036854775808 ≤ a0 ∧ a0 ≤ 9223372036854775807) (a1 : Int) (ha1 : -9223372036854775808 ≤ a1 ∧ a1 ≤ 9223372036854775807) (w : World)  :
    Calls Try.prog 6 #[.int .i64 a0, .int .i64 a1] w fun e w' => e = .returned (.bool true) ∧ Below w.heap.size w w' := by
  exact law_ColumnsFor_main a0 ha0 a1 ha1 w  

end Go.Proofs.Ytecclcmndfaakaa
