/-
  PairNumber answers as its model at every argument, and leaves its arguments alone. By an AI agent.
-/
import Derived.Test.YtodbdcanhefcaaaPn10
import Derived.Test.YtodbdcanhefcaaaMark
import Derived.Deep.RegionHeld3
namespace Go.Proofs.Ytodbdcanhefcaaa
open Go.RowKit Cv
set_option linter.unusedVariables false
set_option linter.unusedSimpArgs false

set_option maxRecDepth 100000 in
set_option maxHeartbeats 4000000 in
theorem law_PairNumber_main (a0 : Int) (ha0 : -9223372036854775808 ≤ a0 ∧ a0 ≤ 9223372036854775807) (w : World)   :
    Calls Try.prog 12 #[.int .i64 a0] w fun e w' => e = .returned (.bool true) ∧ Below w.heap.size w w' := by
  go_enter Try.func12, Try.ntmps12
  go_wp2_with fail
  refine (spec_PairNumber a0 ha0 _ ).mono ?_
  rintro e w1 ⟨rfl, hb⟩
  have B : Below w.heap.size w w1 := Below.trans (by go_grown) (hb.mono (by simp; try omega))
  have s0 : w.heap.size ≤ w1.heap.size := B.size
  clear hb
  go_wp2_with fail
  refine (impl_PairNumber a0 ha0 _ ).mono ?_
  rintro e w2 ⟨rfl, hb⟩
  replace B := B.trans (hb.mono B.size)
  have s1 : w1.heap.size ≤ w2.heap.size := hb.size
  clear hb
  go_wp2_with fail
  go_ret
  exact ⟨rfl, B⟩

theorem law_PairNumber (a0 : Int) (ha0 : -9223372036854775808 ≤ a0 ∧ a0 ≤ 9223372036854775807) (w : World)  :
    Calls Try.prog 12 #[.int .i64 a0] w fun e w' => e = .returned (.bool true) ∧ Below w.heap.size w w' := by
  exact law_PairNumber_main a0 ha0 w  

end Go.Proofs.Ytodbdcanhefcaaa
