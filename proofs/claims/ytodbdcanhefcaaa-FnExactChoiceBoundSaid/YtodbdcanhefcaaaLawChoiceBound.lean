/-
  ChoiceBound answers as its model at every argument, and leaves its arguments alone. By an AI agent.
-/
import Derived.Test.YtodbdcanhefcaaaChB10
import Derived.Test.YtodbdcanhefcaaaMark
import Derived.Deep.RegionHeld3
namespace Go.Proofs.Ytodbdcanhefcaaa
open Go.RowKit Cv
set_option linter.unusedVariables false
set_option linter.unusedSimpArgs false

set_option maxRecDepth 100000 in
set_option maxHeartbeats 4000000 in
theorem law_ChoiceBound_neg0 (ao0 : Option Addr) (S0 : List Int) (cap0 : Nat) (hn0 : S0.length ≤ 9223372036854775807) (a1 : Int) (ha1 : -9223372036854775808 ≤ a1 ∧ a1 ≤ 9223372036854775807) (w : World) (hS0 : Ints w ao0 S0)  (hneg : 1048576 < (S0.length : Int)) :
    Calls Try.prog 8 #[.agg #[.slice ao0 S0.length cap0], .int .i64 a1] w fun e w' => e = .returned (.bool true) ∧ Below w.heap.size w w' := by
  have hz1 : szOf S0.length (1048576) = -1 := by unfold szOf; rw [if_pos (by omega)]
  go_enter Try.func8, Try.ntmps8
  go_wp2_with fail
  refine (szSpace_any _ _ _ _ _ hn0 (by omega) (by omega)).mono ?_
  rintro e w1 ⟨rfl, hb⟩
  have B : Below w.heap.size w w1 := Below.trans (by go_grown) (hb.mono (by simp; try omega))
  have c0 : w1.cell? ⟨w.heap.size, 0, none⟩ = some (.slice ao0 S0.length cap0) := kept_cell hb (by simp) (by simp; try omega)
  have l0 : w.heap.size < w1.heap.size := lt_of_below hb (by simp; try omega)
  have pl0 : w.heap.size < w1.heap.size := l0
  have s0 : w.heap.size ≤ w1.heap.size := B.size
  clear hb
  go_wp2_with fail
  go_ret
  exact ⟨rfl, B⟩

set_option maxRecDepth 100000 in
set_option maxHeartbeats 4000000 in
theorem law_ChoiceBound_main (ao0 : Option Addr) (S0 : List Int) (cap0 : Nat) (hn0 : S0.length ≤ 9223372036854775807) (a1 : Int) (ha1 : -9223372036854775808 ≤ a1 ∧ a1 ≤ 9223372036854775807) (w : World) (hS0 : Ints w ao0 S0) (hk0 : (S0.length : Int) ≤ 1048576) :
    Calls Try.prog 8 #[.agg #[.slice ao0 S0.length cap0], .int .i64 a1] w fun e w' => e = .returned (.bool true) ∧ Below w.heap.size w w' := by
  have hz1 : szOf S0.length (1048576) = 1048576 - (S0.length : Int) := by unfold szOf; rw [if_neg (by omega)]
  go_enter Try.func8, Try.ntmps8
  go_wp2_with fail
  refine (szSpace_any _ _ _ _ _ hn0 (by omega) (by omega)).mono ?_
  rintro e w1 ⟨rfl, hb⟩
  have B : Below w.heap.size w w1 := Below.trans (by go_grown) (hb.mono (by simp; try omega))
  have c0 : w1.cell? ⟨w.heap.size, 0, none⟩ = some (.slice ao0 S0.length cap0) := kept_cell hb (by simp) (by simp; try omega)
  have l0 : w.heap.size < w1.heap.size := lt_of_below hb (by simp; try omega)
  have pl0 : w.heap.size < w1.heap.size := l0
  have s0 : w.heap.size ≤ w1.heap.size := B.size
  clear hb
  go_wp2_with fail
  refine (toSpace_any ao0 S0 cap0 _ (by omega) (hS0.below B)).mono ?_
  rintro e w2 ⟨b2, rfl, o2, hb⟩
  replace c0 := kept_cell hb c0 l0
  replace l0 := lt_of_below hb l0
  replace B := B.trans (hb.mono B.size)
  have s1 : w1.heap.size ≤ w2.heap.size := hb.size
  replace o2 := o2.rebase (base' := w1.heap.size) (by simp)
  have Ro2 : RowIn (.slice (some ⟨b2, 0, none⟩) S0.length S0.length) (w1.heap.size) w2.heap.size := o2.rowIn
  clear hb
  go_wp2_with fail
  refine (spec_ChoiceBound _ S0 _ (by omega) a1 ha1 _ (own_ints o2)).mono ?_
  rintro e w3 ⟨rfl, hb⟩
  replace c0 := kept_cell hb c0 l0
  replace l0 := lt_of_below hb l0
  replace o2 := o2.below hb
  replace B := B.trans (hb.mono B.size)
  have s2 : w2.heap.size ≤ w3.heap.size := hb.size
  clear hb
  go_wp2_with fail
  refine (toSpace_any ao0 S0 cap0 _ (by omega) (hS0.below B)).mono ?_
  rintro e w4 ⟨b4, rfl, o4, hb⟩
  replace c0 := kept_cell hb c0 l0
  replace l0 := lt_of_below hb l0
  replace o2 := o2.below hb
  replace B := B.trans (hb.mono B.size)
  have s3 : w3.heap.size ≤ w4.heap.size := hb.size
  replace o4 := o4.rebase (base' := w3.heap.size) (by simp)
  have Ro4 : RowIn (.slice (some ⟨b4, 0, none⟩) S0.length S0.length) (w3.heap.size) w4.heap.size := o4.rowIn
  clear hb
  go_wp2_with fail
  refine (impl_ChoiceBound _ S0 _ (by omega) a1 ha1 _ (own_ints (o4.alloc _))).mono ?_
  rintro e w5 ⟨rfl, hb⟩
  have hq : Below w4.heap.size w4 w5 := Below.trans ((Below.refl _ w4).alloc (Nat.le_refl _) _) (hb.mono (by simp))
  replace c0 := kept_cell hq c0 l0
  replace l0 := lt_of_below hq l0
  replace o2 := o2.below hq
  replace o4 := o4.below hq
  replace B := B.trans (hq.mono B.size)
  have s4 : w4.heap.size ≤ w5.heap.size := hq.size
  have cxy4 := kept_cell hb (cell_new w4 (.slice (some ⟨b4, 0, none⟩) S0.length S0.length) 28) (lt_alloc _ _)
  have lxy4 := lt_of_below hb (lt_alloc w4 (.cells #[.slice (some ⟨b4, 0, none⟩) S0.length S0.length] 28))
  have plxy4 := lxy4
  clear hb hq
  go_wp2_with fail
  go_region_held3 (fun w' => w'.cell? ⟨w.heap.size, 0, none⟩ = some (.slice ao0 S0.length cap0) ∧ w'.cell? ⟨w4.heap.size, 0, none⟩ = some (.slice (some ⟨b4, 0, none⟩) S0.length S0.length)) (first | exact ⟨c0, cxy4⟩ | exact ⟨kept_cell hqa c0 l0, kept_cell hqa cxy4 lxy4⟩ | exact ⟨kept_cell hqb (kept_cell hqa c0 l0) (lt_of_below hqa l0), kept_cell hqb (kept_cell hqa cxy4 lxy4) (lt_of_below hqa lxy4)⟩) (first | (go_at_call 16; refine (toSpace_any ao0 S0 cap0 _ (by omega) (hS0.below B.drew)).mono ?_; rintro e w6 ⟨bq, rfl, oq, hqa'⟩; have hqa : Below w5.heap.size w5 w6 := (Below.refl w5.heap.size w5).drew.trans hqa') | (go_at_call 18; refine (eqSpace_same _ _ S0 _ _ _ (by omega) ((own_ints o4).below hqa) (own_ints oq)).mono ?_; rintro e w7 ⟨rfl, hqb⟩))
  have hq : Below w5.heap.size w5 w7 := hqa.trans (hqb.mono hqa.size)
  replace c0 := kept_cell hq c0 l0
  replace l0 := lt_of_below hq l0
  replace cxy4 := kept_cell hq cxy4 lxy4
  replace lxy4 := lt_of_below hq lxy4
  replace o2 := o2.below hq
  replace o4 := o4.below hq
  replace B := B.trans (hq.mono B.size)
  have s6 : w5.heap.size ≤ w7.heap.size := hq.size
  clear hqa hqa' hqb hq oq
  go_wp2_with fail
  go_ret
  exact ⟨rfl, B⟩

theorem law_ChoiceBound (ao0 : Option Addr) (S0 : List Int) (cap0 : Nat) (hn0 : S0.length ≤ 9223372036854775807) (a1 : Int) (ha1 : -9223372036854775808 ≤ a1 ∧ a1 ≤ 9223372036854775807) (w : World) (hS0 : Ints w ao0 S0) :
    Calls Try.prog 8 #[.agg #[.slice ao0 S0.length cap0], .int .i64 a1] w fun e w' => e = .returned (.bool true) ∧ Below w.heap.size w w' := by
  by_cases hk0 : (S0.length : Int) ≤ 1048576
  case neg => exact law_ChoiceBound_neg0 ao0 S0 cap0 hn0 a1 ha1 w hS0  (by omega)
  exact law_ChoiceBound_main ao0 S0 cap0 hn0 a1 ha1 w hS0 hk0

end Go.Proofs.Ytodbdcanhefcaaa
