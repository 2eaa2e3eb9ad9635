/-
  SlipText answers as its model at every argument, and leaves its arguments alone. By an AI agent.
-/
import Derived.Test.YtcbkmmadejbbpaaSlT
import Derived.Test.YtcbkmmadejbbpaaHelpS
import Derived.Deep.RegionHeld3
namespace Go.Proofs.Ytcbkmmadejbbpaa
open Go.RowKit Cv
set_option linter.unusedVariables false
set_option linter.unusedSimpArgs false

set_option maxRecDepth 100000 in
set_option maxHeartbeats 4000000 in
theorem law_SlipText_neg0 (ao0 : Option Addr) (S0 : List Int) (cap0 : Nat) (hn0 : S0.length ≤ 9223372036854775807) (ao1 : Option Addr) (S1 : List Int) (cap1 : Nat) (hn1 : S1.length ≤ 9223372036854775807) (w : World) (hS0 : Ints w ao0 S0) (hS1 : Ints w ao1 S1)  (hneg : 1048576 < S1.length) :
    Calls Try.prog 11 #[.agg #[.slice ao0 S0.length cap0], .slice ao1 S1.length cap1] w fun e w' => e = .returned (.bool true) ∧ Below w.heap.size w w' := by
  go_enter Try.func11, Try.ntmps11
  go_wp2_with fail
  go_ret
  exact ⟨rfl, by go_grown⟩

set_option maxRecDepth 100000 in
set_option maxHeartbeats 4000000 in
theorem law_SlipText_neg1 (ao0 : Option Addr) (S0 : List Int) (cap0 : Nat) (hn0 : S0.length ≤ 9223372036854775807) (ao1 : Option Addr) (S1 : List Int) (cap1 : Nat) (hn1 : S1.length ≤ 9223372036854775807) (w : World) (hS0 : Ints w ao0 S0) (hS1 : Ints w ao1 S1) (hk0 : S1.length ≤ 1048576) (hneg : 1048576 < (S0.length : Int)) :
    Calls Try.prog 11 #[.agg #[.slice ao0 S0.length cap0], .slice ao1 S1.length cap1] w fun e w' => e = .returned (.bool true) ∧ Below w.heap.size w w' := by
  have hz2 : szOf S0.length (1048576) = -1 := by unfold szOf; rw [if_pos (by omega)]
  go_enter Try.func11, Try.ntmps11
  go_wp2_with fail
  refine (szSpace_any _ _ _ _ _ hn0 (by omega) (by omega)).mono ?_
  rintro e w1 ⟨rfl, hb⟩
  have B : Below w.heap.size w w1 := Below.trans (by go_grown) (hb.mono (by simp; try omega))
  have c0 : w1.cell? ⟨w.heap.size, 0, none⟩ = some (.slice ao0 S0.length cap0) := kept_cell hb (by simp) (by simp; try omega)
  have l0 : w.heap.size < w1.heap.size := lt_of_below hb (by simp; try omega)
  have pl0 : w.heap.size < w1.heap.size := l0
  have s0 : w.heap.size ≤ w1.heap.size := B.size
  clear hb
  go_wp2_with fail
  go_ret
  exact ⟨rfl, B⟩

set_option maxRecDepth 100000 in
set_option maxHeartbeats 4000000 in
theorem law_SlipText_main (ao0 : Option Addr) (S0 : List Int) (cap0 : Nat) (hn0 : S0.length ≤ 9223372036854775807) (ao1 : Option Addr) (S1 : List Int) (cap1 : Nat) (hn1 : S1.length ≤ 9223372036854775807) (w : World) (hS0 : Ints w ao0 S0) (hS1 : Ints w ao1 S1) (hk0 : S1.length ≤ 1048576) (hk1 : (S0.length : Int) ≤ 1048576) :
    Calls Try.prog 11 #[.agg #[.slice ao0 S0.length cap0], .slice ao1 S1.length cap1] w fun e w' => e = .returned (.bool true) ∧ Below w.heap.size w w' := by
  have hz2 : szOf S0.length (1048576) = 1048576 - (S0.length : Int) := by unfold szOf; rw [if_neg (by omega)]
  go_enter Try.func11, Try.ntmps11
  go_wp2_with fail
  refine (szSpace_any _ _ _ _ _ hn0 (by omega) (by omega)).mono ?_
  rintro e w1 ⟨rfl, hb⟩
  have B : Below w.heap.size w w1 := Below.trans (by go_grown) (hb.mono (by simp; try omega))
  have c0 : w1.cell? ⟨w.heap.size, 0, none⟩ = some (.slice ao0 S0.length cap0) := kept_cell hb (by simp) (by simp; try omega)
  have l0 : w.heap.size < w1.heap.size := lt_of_below hb (by simp; try omega)
  have pl0 : w.heap.size < w1.heap.size := l0
  have s0 : w.heap.size ≤ w1.heap.size := B.size
  clear hb
  go_wp2_with fail
  refine (toSpace_any ao0 S0 cap0 _ (by omega) (hS0.below B)).mono ?_
  rintro e w2 ⟨b2, rfl, o2, hb⟩
  replace c0 := kept_cell hb c0 l0
  replace l0 := lt_of_below hb l0
  replace B := B.trans (hb.mono B.size)
  have s1 : w1.heap.size ≤ w2.heap.size := hb.size
  replace o2 := o2.rebase (base' := w1.heap.size) (by simp)
  have Ro2 : RowIn (.slice (some ⟨b2, 0, none⟩) S0.length S0.length) (w1.heap.size) w2.heap.size := o2.rowIn
  clear hb
  go_wp2_with fail
  refine (toSlip_any ao1 S1 cap1 _ (by omega) (hS1.below B)).mono ?_
  rintro e w3 ⟨b3, rfl, o3, hb⟩
  replace c0 := kept_cell hb c0 l0
  replace l0 := lt_of_below hb l0
  replace o2 := o2.below hb
  replace B := B.trans (hb.mono B.size)
  have s2 : w2.heap.size ≤ w3.heap.size := hb.size
  replace o3 := o3.rebase (base' := w2.heap.size) (by simp)
  have Ro3 : RowIn (.slice (some ⟨b3, 0, none⟩) S1.length S1.length) (w2.heap.size) w3.heap.size := o3.rowIn
  clear hb
  go_wp2_with fail
  refine (spec_SlipText _ S0 _ (by omega) _ S1 _ (by omega) _ (own_ints o2) (own_ints o3)).mono ?_
  rintro e w4 ⟨rfl, hb⟩
  replace c0 := kept_cell hb c0 l0
  replace l0 := lt_of_below hb l0
  replace o2 := o2.below hb
  replace o3 := o3.below hb
  replace B := B.trans (hb.mono B.size)
  have s3 : w3.heap.size ≤ w4.heap.size := hb.size
  clear hb
  go_wp2_with fail
  refine (toSpace_any ao0 S0 cap0 _ (by omega) (hS0.below B)).mono ?_
  rintro e w5 ⟨b5, rfl, o5, hb⟩
  replace c0 := kept_cell hb c0 l0
  replace l0 := lt_of_below hb l0
  replace o2 := o2.below hb
  replace o3 := o3.below hb
  replace B := B.trans (hb.mono B.size)
  have s4 : w4.heap.size ≤ w5.heap.size := hb.size
  replace o5 := o5.rebase (base' := w4.heap.size) (by simp)
  have Ro5 : RowIn (.slice (some ⟨b5, 0, none⟩) S0.length S0.length) (w4.heap.size) w5.heap.size := o5.rowIn
  clear hb
  go_wp2_with fail
  refine (toSlip_any ao1 S1 cap1 _ (by omega) (hS1.below (B.alloc B.size _))).mono ?_
  rintro e w6 ⟨b6, rfl, o6, hb⟩
  have hq : Below w5.heap.size w5 w6 := Below.trans ((Below.refl _ w5).alloc (Nat.le_refl _) _) (hb.mono (by simp))
  replace c0 := kept_cell hq c0 l0
  replace l0 := lt_of_below hq l0
  replace o2 := o2.below hq
  replace o3 := o3.below hq
  replace o5 := o5.below hq
  replace B := B.trans (hq.mono B.size)
  have s5 : w5.heap.size ≤ w6.heap.size := hq.size
  have cxy5 := kept_cell hb (cell_new w5 (.slice (some ⟨b5, 0, none⟩) S0.length S0.length) 26) (lt_alloc _ _)
  have lxy5 := lt_of_below hb (lt_alloc w5 (.cells #[.slice (some ⟨b5, 0, none⟩) S0.length S0.length] 26))
  have plxy5 := lxy5
  replace o6 := o6.rebase (base' := w5.heap.size + 1) (by simp)
  have Ro6 : RowIn (.slice (some ⟨b6, 0, none⟩) S1.length S1.length) (w5.heap.size + 1) w6.heap.size := o6.rowIn
  clear hb hq
  go_wp2_with fail
  refine (impl_SlipText _ S0 _ (by omega) _ S1 _ (by omega) _ (own_ints o5) (own_ints o6)).mono ?_
  rintro e w7 ⟨rfl, hb⟩
  replace c0 := kept_cell hb c0 l0
  replace l0 := lt_of_below hb l0
  replace cxy5 := kept_cell hb cxy5 lxy5
  replace lxy5 := lt_of_below hb lxy5
  replace o2 := o2.below hb
  replace o3 := o3.below hb
  replace o5 := o5.below hb
  replace o6 := o6.below hb
  replace B := B.trans (hb.mono B.size)
  have s6 : w6.heap.size ≤ w7.heap.size := hb.size
  clear hb
  go_wp2_with fail
  go_region_held3 (fun w' => w'.cell? ⟨w.heap.size, 0, none⟩ = some (.slice ao0 S0.length cap0) ∧ w'.cell? ⟨w5.heap.size, 0, none⟩ = some (.slice (some ⟨b5, 0, none⟩) S0.length S0.length)) (first | exact ⟨c0, cxy5⟩ | exact ⟨kept_cell hqa c0 l0, kept_cell hqa cxy5 lxy5⟩ | exact ⟨kept_cell hqb (kept_cell hqa c0 l0) (lt_of_below hqa l0), kept_cell hqb (kept_cell hqa cxy5 lxy5) (lt_of_below hqa lxy5)⟩) (first | (go_at_call 14; refine (toSpace_any ao0 S0 cap0 _ (by omega) (hS0.below B.drew)).mono ?_; rintro e w8 ⟨bq, rfl, oq, hqa'⟩; have hqa : Below w7.heap.size w7 w8 := (Below.refl w7.heap.size w7).drew.trans hqa') | (go_at_call 17; refine (eqSpace_same _ _ S0 _ _ _ (by omega) ((own_ints o5).below hqa) (own_ints oq)).mono ?_; rintro e w9 ⟨rfl, hqb⟩))
  have hq : Below w7.heap.size w7 w9 := hqa.trans (hqb.mono hqa.size)
  replace c0 := kept_cell hq c0 l0
  replace l0 := lt_of_below hq l0
  replace cxy5 := kept_cell hq cxy5 lxy5
  replace lxy5 := lt_of_below hq lxy5
  replace o2 := o2.below hq
  replace o3 := o3.below hq
  replace o5 := o5.below hq
  replace o6 := o6.below hq
  replace B := B.trans (hq.mono B.size)
  have s8 : w7.heap.size ≤ w9.heap.size := hq.size
  clear hqa hqa' hqb hq oq
  go_wp2_with fail
  refine (toSlip_any ao1 S1 cap1 _ (by omega) (hS1.below B)).mono ?_
  rintro e w10 ⟨b10, rfl, o10, hb⟩
  replace c0 := kept_cell hb c0 l0
  replace l0 := lt_of_below hb l0
  replace cxy5 := kept_cell hb cxy5 lxy5
  replace lxy5 := lt_of_below hb lxy5
  replace o2 := o2.below hb
  replace o3 := o3.below hb
  replace o5 := o5.below hb
  replace o6 := o6.below hb
  replace B := B.trans (hb.mono B.size)
  have s9 : w9.heap.size ≤ w10.heap.size := hb.size
  replace o10 := o10.rebase (base' := w9.heap.size) (by simp)
  have Ro10 : RowIn (.slice (some ⟨b10, 0, none⟩) S1.length S1.length) (w9.heap.size) w10.heap.size := o10.rowIn
  clear hb
  go_wp2_with fail
  refine (eqSlip_same _ _ S1 _ _ _ (by omega) (own_ints o6) (own_ints o10)).mono ?_
  rintro e w11 ⟨rfl, hb⟩
  replace c0 := kept_cell hb c0 l0
  replace l0 := lt_of_below hb l0
  replace cxy5 := kept_cell hb cxy5 lxy5
  replace lxy5 := lt_of_below hb lxy5
  replace o2 := o2.below hb
  replace o3 := o3.below hb
  replace o5 := o5.below hb
  replace o6 := o6.below hb
  replace o10 := o10.below hb
  replace B := B.trans (hb.mono B.size)
  have s10 : w10.heap.size ≤ w11.heap.size := hb.size
  clear hb
  go_wp2_with fail
  go_ret
  exact ⟨rfl, B⟩

theorem law_SlipText (ao0 : Option Addr) (S0 : List Int) (cap0 : Nat) (hn0 : S0.length ≤ 9223372036854775807) (ao1 : Option Addr) (S1 : List Int) (cap1 : Nat) (hn1 : S1.length ≤ 9223372036854775807) (w : World) (hS0 : Ints w ao0 S0) (hS1 : Ints w ao1 S1) :
    Calls Try.prog 11 #[.agg #[.slice ao0 S0.length cap0], .slice ao1 S1.length cap1] w fun e w' => e = .returned (.bool true) ∧ Below w.heap.size w w' := by
  by_cases hk0 : S1.length ≤ 1048576
  case neg => exact law_SlipText_neg0 ao0 S0 cap0 hn0 ao1 S1 cap1 hn1 w hS0 hS1  (by omega)
  by_cases hk1 : (S0.length : Int) ≤ 1048576
  case neg => exact law_SlipText_neg1 ao0 S0 cap0 hn0 ao1 S1 cap1 hn1 w hS0 hS1 hk0 (by omega)
  exact law_SlipText_main ao0 S0 cap0 hn0 ao1 S1 cap1 hn1 w hS0 hS1 hk0 hk1

end Go.Proofs.Ytcbkmmadejbbpaa
