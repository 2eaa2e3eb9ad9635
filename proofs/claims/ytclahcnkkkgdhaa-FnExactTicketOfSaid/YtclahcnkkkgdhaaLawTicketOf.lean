/-
  TicketOf answers as its model at every argument, and leaves its arguments alone. By an AI agent.
-/
import Derived.Test.YtclahcnkkkgdhaaTo8
import Derived.Test.YtclahcnkkkgdhaaMark
import Derived.Deep.RegionHeld3
namespace Go.Proofs.Ytclahcnkkkgdhaa
open Go.RowKit Cv
set_option linter.unusedVariables false
set_option linter.unusedSimpArgs false

set_option maxRecDepth 100000 in
set_option maxHeartbeats 4000000 in
theorem law_TicketOf_neg0 (v0 p0 d0 h0 : Int) (ao1 : Option Addr) (S1 : List Int) (cap1 : Nat) (hn1 : S1.length ≤ 9223372036854775807) (w : World) (hS1 : Ints w ao1 S1)  (hneg : 1048576 < S1.length) :
    Calls Try.prog 6 #[.agg #[.int .i64 v0, .int .i64 p0, .int .i64 d0, .int .i64 h0], .slice ao1 S1.length cap1] w fun e w' => e = .returned (.bool true) ∧ Below w.heap.size w w' := by
  go_enter Try.func6, Try.ntmps6
  go_wp2_with fail
  go_ret
  exact ⟨rfl, by go_grown⟩

set_option maxRecDepth 100000 in
set_option maxHeartbeats 4000000 in
theorem law_TicketOf_main (v0 p0 d0 h0 : Int) (ao1 : Option Addr) (S1 : List Int) (cap1 : Nat) (hn1 : S1.length ≤ 9223372036854775807) (w : World) (hS1 : Ints w ao1 S1) (hk0 : S1.length ≤ 1048576) :
    Calls Try.prog 6 #[.agg #[.int .i64 v0, .int .i64 p0, .int .i64 d0, .int .i64 h0], .slice ao1 S1.length cap1] w fun e w' => e = .returned (.bool true) ∧ Below w.heap.size w w' := by
  go_enter Try.func6, Try.ntmps6
  go_wp2_with fail
  refine (toLottery_any v0 p0 d0 h0 _).mono ?_
  rintro e w1 ⟨rfl, hb⟩
  have B : Below w.heap.size w w1 := Below.trans (by go_grown) (hb.mono (by simp; try omega))
  have c0_0 : w1.cell? ⟨w.heap.size, 0, none⟩ = some (.int .i64 v0) := kept_cell hb (by simp) (by simp; try omega)
  have l0_0 : w.heap.size < w1.heap.size := lt_of_below hb (by simp; try omega)
  have pl0_0 : w.heap.size < w1.heap.size := l0_0
  have c0_1 : w1.cell? ⟨w.heap.size, 1, none⟩ = some (.int .i64 p0) := kept_cell hb (by simp) (by simp; try omega)
  have l0_1 : w.heap.size < w1.heap.size := lt_of_below hb (by simp; try omega)
  have pl0_1 : w.heap.size < w1.heap.size := l0_1
  have c0_2 : w1.cell? ⟨w.heap.size, 2, none⟩ = some (.int .i64 d0) := kept_cell hb (by simp) (by simp; try omega)
  have l0_2 : w.heap.size < w1.heap.size := lt_of_below hb (by simp; try omega)
  have pl0_2 : w.heap.size < w1.heap.size := l0_2
  have c0_3 : w1.cell? ⟨w.heap.size, 3, none⟩ = some (.int .i64 h0) := kept_cell hb (by simp) (by simp; try omega)
  have l0_3 : w.heap.size < w1.heap.size := lt_of_below hb (by simp; try omega)
  have pl0_3 : w.heap.size < w1.heap.size := l0_3
  have s0 : w.heap.size ≤ w1.heap.size := B.size
  clear hb
  go_wp2_with fail
  refine (toInt64S_any ao1 S1 cap1 _ (by omega) (hS1.below B)).mono ?_
  rintro e w2 ⟨b2, rfl, o2, hb⟩
  replace c0_0 := kept_cell hb c0_0 l0_0
  replace l0_0 := lt_of_below hb l0_0
  replace c0_1 := kept_cell hb c0_1 l0_1
  replace l0_1 := lt_of_below hb l0_1
  replace c0_2 := kept_cell hb c0_2 l0_2
  replace l0_2 := lt_of_below hb l0_2
  replace c0_3 := kept_cell hb c0_3 l0_3
  replace l0_3 := lt_of_below hb l0_3
  replace B := B.trans (hb.mono B.size)
  have s1 : w1.heap.size ≤ w2.heap.size := hb.size
  replace o2 := o2.rebase (base' := w1.heap.size) (by simp)
  have Ro2 : RowIn (.slice (some ⟨b2, 0, none⟩) S1.length S1.length) (w1.heap.size) w2.heap.size := o2.rowIn
  clear hb
  go_wp2_with fail
  refine (spec_TicketOf v0 p0 d0 h0 _ S1 _ (by omega) _ (own_ints o2)).mono ?_
  rintro e w3 ⟨rfl, hb⟩
  replace c0_0 := kept_cell hb c0_0 l0_0
  replace l0_0 := lt_of_below hb l0_0
  replace c0_1 := kept_cell hb c0_1 l0_1
  replace l0_1 := lt_of_below hb l0_1
  replace c0_2 := kept_cell hb c0_2 l0_2
  replace l0_2 := lt_of_below hb l0_2
  replace c0_3 := kept_cell hb c0_3 l0_3
  replace l0_3 := lt_of_below hb l0_3
  replace o2 := o2.below hb
  replace B := B.trans (hb.mono B.size)
  have s2 : w2.heap.size ≤ w3.heap.size := hb.size
  clear hb
  go_wp2_with fail
  refine (toInt64S_any ao1 S1 cap1 _ (by omega) (hS1.below B)).mono ?_
  rintro e w4 ⟨b4, rfl, o4, hb⟩
  replace c0_0 := kept_cell hb c0_0 l0_0
  replace l0_0 := lt_of_below hb l0_0
  replace c0_1 := kept_cell hb c0_1 l0_1
  replace l0_1 := lt_of_below hb l0_1
  replace c0_2 := kept_cell hb c0_2 l0_2
  replace l0_2 := lt_of_below hb l0_2
  replace c0_3 := kept_cell hb c0_3 l0_3
  replace l0_3 := lt_of_below hb l0_3
  replace o2 := o2.below hb
  replace B := B.trans (hb.mono B.size)
  have s3 : w3.heap.size ≤ w4.heap.size := hb.size
  replace o4 := o4.rebase (base' := w3.heap.size) (by simp)
  have Ro4 : RowIn (.slice (some ⟨b4, 0, none⟩) S1.length S1.length) (w3.heap.size) w4.heap.size := o4.rowIn
  clear hb
  go_wp2_with fail
  refine (toLottery_any v0 p0 d0 h0 _).mono ?_
  rintro e w5 ⟨rfl, hb⟩
  replace c0_0 := kept_cell hb c0_0 l0_0
  replace l0_0 := lt_of_below hb l0_0
  replace c0_1 := kept_cell hb c0_1 l0_1
  replace l0_1 := lt_of_below hb l0_1
  replace c0_2 := kept_cell hb c0_2 l0_2
  replace l0_2 := lt_of_below hb l0_2
  replace c0_3 := kept_cell hb c0_3 l0_3
  replace l0_3 := lt_of_below hb l0_3
  replace o2 := o2.below hb
  replace o4 := o4.below hb
  replace B := B.trans (hb.mono B.size)
  have s4 : w4.heap.size ≤ w5.heap.size := hb.size
  clear hb
  go_wp2_with fail
  refine (impl_TicketOf v0 p0 d0 h0 _ S1 _ (by omega) _ (own_ints o4)).mono ?_
  rintro e w6 ⟨rfl, hb⟩
  replace c0_0 := kept_cell hb c0_0 l0_0
  replace l0_0 := lt_of_below hb l0_0
  replace c0_1 := kept_cell hb c0_1 l0_1
  replace l0_1 := lt_of_below hb l0_1
  replace c0_2 := kept_cell hb c0_2 l0_2
  replace l0_2 := lt_of_below hb l0_2
  replace c0_3 := kept_cell hb c0_3 l0_3
  replace l0_3 := lt_of_below hb l0_3
  replace o2 := o2.below hb
  replace o4 := o4.below hb
  replace B := B.trans (hb.mono B.size)
  have s5 : w5.heap.size ≤ w6.heap.size := hb.size
  clear hb
  go_wp2_with fail
  refine (toInt64S_any ao1 S1 cap1 _ (by omega) (hS1.below B)).mono ?_
  rintro e w7 ⟨b7, rfl, o7, hb⟩
  replace c0_0 := kept_cell hb c0_0 l0_0
  replace l0_0 := lt_of_below hb l0_0
  replace c0_1 := kept_cell hb c0_1 l0_1
  replace l0_1 := lt_of_below hb l0_1
  replace c0_2 := kept_cell hb c0_2 l0_2
  replace l0_2 := lt_of_below hb l0_2
  replace c0_3 := kept_cell hb c0_3 l0_3
  replace l0_3 := lt_of_below hb l0_3
  replace o2 := o2.below hb
  replace o4 := o4.below hb
  replace B := B.trans (hb.mono B.size)
  have s6 : w6.heap.size ≤ w7.heap.size := hb.size
  replace o7 := o7.rebase (base' := w6.heap.size) (by simp)
  have Ro7 : RowIn (.slice (some ⟨b7, 0, none⟩) S1.length S1.length) (w6.heap.size) w7.heap.size := o7.rowIn
  clear hb
  go_wp2_with fail
  refine (eqInt64S_same _ _ S1 _ _ _ (by omega) (own_ints o4) (own_ints o7)).mono ?_
  rintro e w8 ⟨rfl, hb⟩
  replace c0_0 := kept_cell hb c0_0 l0_0
  replace l0_0 := lt_of_below hb l0_0
  replace c0_1 := kept_cell hb c0_1 l0_1
  replace l0_1 := lt_of_below hb l0_1
  replace c0_2 := kept_cell hb c0_2 l0_2
  replace l0_2 := lt_of_below hb l0_2
  replace c0_3 := kept_cell hb c0_3 l0_3
  replace l0_3 := lt_of_below hb l0_3
  replace o2 := o2.below hb
  replace o4 := o4.below hb
  replace o7 := o7.below hb
  replace B := B.trans (hb.mono B.size)
  have s7 : w7.heap.size ≤ w8.heap.size := hb.size
  clear hb
  go_wp2_with fail
  go_ret
  exact ⟨rfl, B⟩

theorem law_TicketOf (v0 p0 d0 h0 : Int) (ao1 : Option Addr) (S1 : List Int) (cap1 : Nat) (hn1 : S1.length ≤ 9223372036854775807) (w : World) (hS1 : Ints w ao1 S1) :
    Calls Try.prog 6 #[.agg #[.int .i64 v0, .int .i64 p0, .int .i64 d0, .int .i64 h0], .slice ao1 S1.length cap1] w fun e w' => e = .returned (.bool true) ∧ Below w.heap.size w w' := by
  by_cases hk0 : S1.length ≤ 1048576
  case neg => exact law_TicketOf_neg0 v0 p0 d0 h0 ao1 S1 cap1 hn1 w hS1  (by omega)
  exact law_TicketOf_main v0 p0 d0 h0 ao1 S1 cap1 hn1 w hS1 hk0

end Go.Proofs.Ytclahcnkkkgdhaa
