/-
  CommonNumbers answers as its model at every argument, and leaves its arguments alone. By an AI agent.
-/
import Derived.Test.YtclahcnkkkgdhaaPr8
import Derived.Test.YtclahcnkkkgdhaaMark
import Derived.Deep.RegionHeld3
namespace Go.Proofs.Ytclahcnkkkgdhaa
open Go.RowKit Cv
set_option linter.unusedVariables false
set_option linter.unusedSimpArgs false

set_option maxRecDepth 100000 in
set_option maxHeartbeats 4000000 in
theorem law_CommonNumbers_main (v0 p0 d0 h0 : Int) (a1 : Int) (ha1 : -9223372036854775808 ≤ a1 ∧ a1 ≤ 9223372036854775807) (a2 : Int) (ha2 : -9223372036854775808 ≤ a2 ∧ a2 ≤ 9223372036854775807) (w : World)   :
    Calls Try.prog 10 #[.agg #[.int .i64 v0, .int .i64 p0, .int .i64 d0, .int .i64 h0], .int .i64 a1, .int .i64 a2] w fun e w' => e = .returned (.bool true) ∧ Below w.heap.size w w' := by
  go_enter Try.func10, Try.ntmps10
  go_wp2_with fail
  refine (toLottery_any v0 p0 d0 h0 _).mono ?_
  rintro e w1 ⟨rfl, hb⟩
  have B : Below w.heap.size w w1 := Below.trans (by go_grown) (hb.mono (by simp; try omega))
  have c0_0 : w1.cell? ⟨w.heap.size, 0, none⟩ = some (.int .i64 v0) := kept_cell hb (by simp) (by simp; try omega)
  have l0_0 : w.heap.size < w1.heap.size := lt_of_below hb (by simp; try omega)
  have pl0_0 : w.heap.size < w1.heap.size := l0_0
  have c0_1 : w1.cell? ⟨w.heap.size, 1, none⟩ = some (.int .i64 p0) := kept_cell hb (by simp) (by simp; try omega)
  have l0_1 : w.heap.size < w1.heap.size := lt_of_below hb (by simp; try omega)
  have pl0_1 : w.heap.size < w1.heap.size := l0_1
  have c0_2 : w1.cell? ⟨w.heap.size, 2, none⟩ = some (.int .i64 d0) := kept_cell hb (by simp) (by simp; try omega)
  have l0_2 : w.heap.size < w1.heap.size := lt_of_below hb (by simp; try omega)
  have pl0_2 : w.heap.size < w1.heap.size := l0_2
  have c0_3 : w1.cell? ⟨w.heap.size, 3, none⟩ = some (.int .i64 h0) := kept_cell hb (by simp) (by simp; try omega)
  have l0_3 : w.heap.size < w1.heap.size := lt_of_below hb (by simp; try omega)
  have pl0_3 : w.heap.size < w1.heap.size := l0_3
  have s0 : w.heap.size ≤ w1.heap.size := B.size
  clear hb
  go_wp2_with fail
  refine (spec_CommonNumbers v0 p0 d0 h0 a1 ha1 a2 ha2 _ ).mono ?_
  rintro e w2 ⟨rfl, hb⟩
  replace c0_0 := kept_cell hb c0_0 l0_0
  replace l0_0 := lt_of_below hb l0_0
  replace c0_1 := kept_cell hb c0_1 l0_1
  replace l0_1 := lt_of_below hb l0_1
  replace c0_2 := kept_cell hb c0_2 l0_2
  replace l0_2 := lt_of_below hb l0_2
  replace c0_3 := kept_cell hb c0_3 l0_3
  replace l0_3 := lt_of_below hb l0_3
  replace B := B.trans (hb.mono B.size)
  have s1 : w1.heap.size ≤ w2.heap.size := hb.size
  clear hb
  go_wp2_with fail
  refine (toLottery_any v0 p0 d0 h0 _).mono ?_
  rintro e w3 ⟨rfl, hb⟩
  replace c0_0 := kept_cell hb c0_0 l0_0
  replace l0_0 := lt_of_below hb l0_0
  replace c0_1 := kept_cell hb c0_1 l0_1
  replace l0_1 := lt_of_below hb l0_1
  replace c0_2 := kept_cell hb c0_2 l0_2
  replace l0_2 := lt_of_below hb l0_2
  replace c0_3 := kept_cell hb c0_3 l0_3
  replace l0_3 := lt_of_below hb l0_3
  replace B := B.trans (hb.mono B.size)
  have s2 : w2.heap.size ≤ w3.heap.size := hb.size
  clear hb
  go_wp2_with fail
  refine (impl_CommonNumbers v0 p0 d0 h0 a1 ha1 a2 ha2 _ ).mono ?_
  rintro e w4 ⟨rfl, hb⟩
  replace c0_0 := kept_cell hb c0_0 l0_0
  replace l0_0 := lt_of_below hb l0_0
  replace c0_1 := kept_cell hb c0_1 l0_1
  replace l0_1 := lt_of_below hb l0_1
  replace c0_2 := kept_cell hb c0_2 l0_2
  replace l0_2 := lt_of_below hb l0_2
  replace c0_3 := kept_cell hb c0_3 l0_3
  replace l0_3 := lt_of_below hb l0_3
  replace B := B.trans (hb.mono B.size)
  have s3 : w3.heap.size ≤ w4.heap.size := hb.size
  clear hb
  go_wp2_with fail
  go_ret
  exact ⟨rfl, B⟩

theorem law_CommonNumbers (v0 p0 d0 h0 : Int) (a1 : Int) (ha1 : -9223372036854775808 ≤ a1 ∧ a1 ≤ 9223372036854775807) (a2 : Int) (ha2 : -9223372036854775808 ≤ a2 ∧ a2 ≤ 9223372036854775807) (w : World)  :
    Calls Try.prog 10 #[.agg #[.int .i64 v0, .int .i64 p0, .int .i64 d0, .int .i64 h0], .int .i64 a1, .int .i64 a2] w fun e w' => e = .returned (.bool true) ∧ Below w.heap.size w w' := by
  exact law_CommonNumbers_main v0 p0 d0 h0 a1 ha1 a2 ha2 w  

end Go.Proofs.Ytclahcnkkkgdhaa
