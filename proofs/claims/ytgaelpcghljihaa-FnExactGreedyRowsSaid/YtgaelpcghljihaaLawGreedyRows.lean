/-
  GreedyRows answers as its model at every argument, and leaves its arguments alone. By an AI agent.
-/
import Derived.Test.YtgaelpcghljihaaGuC
import Derived.Test.YtgaelpcghljihaaGri10
import Derived.Test.YtgaelpcghljihaaMark
import Derived.Deep.RegionHeld3
namespace Go.Proofs.Ytgaelpcghljihaa
open Go.RowKit Cv
set_option linter.unusedVariables false
set_option linter.unusedSimpArgs false

set_option maxRecDepth 100000 in
set_option maxHeartbeats 4000000 in
theorem law_GreedyRows_neg0 (ao0 : Option Addr) (S0 : List Int) (cap0 : Nat) (hn0 : S0.length ≤ 9223372036854775807) (a1 : Int) (ha1 : -9223372036854775808 ≤ a1 ∧ a1 ≤ 9223372036854775807) (w : World) (hS0 : Ints w ao0 S0)  (hneg : 1048576 < (S0.length : Int)) :
    Calls Try.prog 6 #[.agg #[.slice ao0 S0.length cap0], .int .i64 a1] w fun e w' => e = .returned (.bool true) ∧ Below w.heap.size w w' := by
  have hz1 : szOf S0.length (1048576) = -1 := by unfold szOf; rw [if_pos (by omega)]
  go_enter Try.func6, Try.ntmps6
  go_wp2_with fail
  refine (szSpace_any _ _ _ _ _ hn0 (by omega) (by omega)).mono ?_
  rintro e w1 ⟨rfl, hb⟩
  have B : Below w.heap.size w w1 := Below.trans (by go_grown) (hb.mono (by simp; try omega))
  have c0 : w1.cell? ⟨w.heap.size, 0, none⟩ = some (.slice ao0 S0.length cap0) := kept_cell hb (by simp) (by simp; try omega)
  have l0 : w.heap.size < w1.heap.size := lt_of_below hb (by simp; try omega)
  have pl0 : w.heap.size < w1.heap.size := l0
  have s0 : w.heap.size ≤ w1.heap.size := B.size
  clear hb
  go_wp2_with fail
  go_ret
  exact ⟨rfl, B⟩

set_option maxRecDepth 100000 in
set_option maxHeartbeats 4000000 in
theorem law_GreedyRows_main (ao0 : Option Addr) (S0 : List Int) (cap0 : Nat) (hn0 : S0.length ≤ 9223372036854775807) (a1 : Int) (ha1 : -9223372036854775808 ≤ a1 ∧ a1 ≤ 9223372036854775807) (w : World) (hS0 : Ints w ao0 S0) (hk0 : (S0.length : Int) ≤ 1048576) :
    Calls Try.prog 6 #[.agg #[.slice ao0 S0.length cap0], .int .i64 a1] w fun e w' => e = .returned (.bool true) ∧ Below w.heap.size w w' := by
  have hz1 : szOf S0.length (1048576) = 1048576 - (S0.length : Int) := by unfold szOf; rw [if_neg (by omega)]
  go_enter Try.func6, Try.ntmps6
  go_wp2_with fail
  refine (szSpace_any _ _ _ _ _ hn0 (by omega) (by omega)).mono ?_
  rintro e w1 ⟨rfl, hb⟩
  have B : Below w.heap.size w w1 := Below.trans (by go_grown) (hb.mono (by simp; try omega))
  have c0 : w1.cell? ⟨w.heap.size, 0, none⟩ = some (.slice ao0 S0.length cap0) := kept_cell hb (by simp) (by simp; try omega)
  have l0 : w.heap.size < w1.heap.size := lt_of_below hb (by simp; try omega)
  have pl0 : w.heap.size < w1.heap.size := l0
  have s0 : w.heap.size ≤ w1.heap.size := B.size
  clear hb
  go_wp2_with fail
  refine (toSpace_any ao0 S0 cap0 _ (by omega) (hS0.below B)).mono ?_
  rintro e w2 ⟨b2, rfl, o2, hb⟩
  replace c0 := kept_cell hb c0 l0
  replace l0 := lt_of_below hb l0
  replace B := B.trans (hb.mono B.size)
  have s1 : w1.heap.size ≤ w2.heap.size := hb.size
  replace o2 := o2.rebase (base' := w1.heap.size) (by simp)
  have Ro2 : RowIn (.slice (some ⟨b2, 0, none⟩) S0.length S0.length) (w1.heap.size) w2.heap.size := o2.rowIn
  clear hb
  go_wp2_with fail
  refine (spec_GreedyRows _ S0 _ (by omega) a1 ha1 _ (own_ints o2)).mono ?_
  rintro e w3 ⟨v3, rfl, o3, hb⟩
  replace c0 := kept_cell hb c0 l0
  replace l0 := lt_of_below hb l0
  replace o2 := o2.below hb
  replace B := B.trans (hb.mono B.size)
  have s2 : w2.heap.size ≤ w3.heap.size := hb.size
  obtain ⟨a_3, k_3, hv⟩ := o3.shape
  subst hv
  replace o3 := o3.rebase (base' := w2.heap.size) (by simp)
  have Ro3 : RowIn (.slice a_3 (vGu S0 a1).length k_3) (w2.heap.size) w3.heap.size := o3.rowIn
  clear hb
  go_wp2_with fail
  refine (toSpace_any ao0 S0 cap0 _ (by omega) (hS0.below B)).mono ?_
  rintro e w4 ⟨b4, rfl, o4, hb⟩
  replace c0 := kept_cell hb c0 l0
  replace l0 := lt_of_below hb l0
  replace o2 := o2.below hb
  replace o3 := o3.below hb
  replace B := B.trans (hb.mono B.size)
  have s3 : w3.heap.size ≤ w4.heap.size := hb.size
  replace o4 := o4.rebase (base' := w3.heap.size) (by simp)
  have Ro4 : RowIn (.slice (some ⟨b4, 0, none⟩) S0.length S0.length) (w3.heap.size) w4.heap.size := o4.rowIn
  clear hb
  go_wp2_with fail
  refine (impl_GreedyRows _ S0 _ (by omega) a1 ha1 _ (own_ints (o4.alloc _))).mono ?_
  rintro e w5 ⟨v5, rfl, o5, hb⟩
  have hq : Below w4.heap.size w4 w5 := Below.trans ((Below.refl _ w4).alloc (Nat.le_refl _) _) (hb.mono (by simp))
  replace c0 := kept_cell hq c0 l0
  replace l0 := lt_of_below hq l0
  replace o2 := o2.below hq
  replace o3 := o3.below hq
  replace o4 := o4.below hq
  replace B := B.trans (hq.mono B.size)
  have s4 : w4.heap.size ≤ w5.heap.size := hq.size
  have cxy4 := kept_cell hb (cell_new w4 (.slice (some ⟨b4, 0, none⟩) S0.length S0.length) 24) (lt_alloc _ _)
  have lxy4 := lt_of_below hb (lt_alloc w4 (.cells #[.slice (some ⟨b4, 0, none⟩) S0.length S0.length] 24))
  have plxy4 := lxy4
  obtain ⟨a_5, k_5, hv⟩ := o5.shape
  subst hv
  replace o5 := o5.rebase (base' := w4.heap.size + 1) (by simp)
  have Ro5 : RowIn (.slice a_5 (vGu S0 a1).length k_5) (w4.heap.size + 1) w5.heap.size := o5.rowIn
  clear hb hq
  go_wp2_with fail
  refine (eqInt64S_same _ _ (vGu S0 a1) _ _ _ (by have := vGu_len S0 a1; omega) (own_ints o5) (own_ints o3)).mono ?_
  rintro e w6 ⟨rfl, hb⟩
  replace c0 := kept_cell hb c0 l0
  replace l0 := lt_of_below hb l0
  replace cxy4 := kept_cell hb cxy4 lxy4
  replace lxy4 := lt_of_below hb lxy4
  replace o2 := o2.below hb
  replace o3 := o3.below hb
  replace o4 := o4.below hb
  replace o5 := o5.below hb
  replace B := B.trans (hb.mono B.size)
  have s5 : w5.heap.size ≤ w6.heap.size := hb.size
  clear hb
  go_wp2_with fail
  go_region_held3 (fun w' => w'.cell? ⟨w.heap.size, 0, none⟩ = some (.slice ao0 S0.length cap0) ∧ w'.cell? ⟨w4.heap.size, 0, none⟩ = some (.slice (some ⟨b4, 0, none⟩) S0.length S0.length)) (first | exact ⟨c0, cxy4⟩ | exact ⟨kept_cell hqa c0 l0, kept_cell hqa cxy4 lxy4⟩ | exact ⟨kept_cell hqb (kept_cell hqa c0 l0) (lt_of_below hqa l0), kept_cell hqb (kept_cell hqa cxy4 lxy4) (lt_of_below hqa lxy4)⟩) (first | (go_at_call 26; refine (toSpace_any ao0 S0 cap0 _ (by omega) (hS0.below B.drew)).mono ?_; rintro e w7 ⟨bq, rfl, oq, hqa'⟩; have hqa : Below w6.heap.size w6 w7 := (Below.refl w6.heap.size w6).drew.trans hqa') | (go_at_call 29; refine (eqSpace_same _ _ S0 _ _ _ (by omega) ((own_ints o4).below hqa) (own_ints oq)).mono ?_; rintro e w8 ⟨rfl, hqb⟩))
  have hq : Below w6.heap.size w6 w8 := hqa.trans (hqb.mono hqa.size)
  replace c0 := kept_cell hq c0 l0
  replace l0 := lt_of_below hq l0
  replace cxy4 := kept_cell hq cxy4 lxy4
  replace lxy4 := lt_of_below hq lxy4
  replace o2 := o2.below hq
  replace o3 := o3.below hq
  replace o4 := o4.below hq
  replace o5 := o5.below hq
  replace B := B.trans (hq.mono B.size)
  have s7 : w6.heap.size ≤ w8.heap.size := hq.size
  clear hqa hqa' hqb hq oq
  go_wp2_with fail
  refine (markSpace_own b4 _ _ _ _ _ _ (by omega) (by omega) (by omega) rfl o4).mono ?_
  clear o4
  rintro e w9 ⟨rfl, o4, hg⟩
  replace c0 := hg.cell (a := ⟨w.heap.size, 0, none⟩) c0 (row_ne_box (b := w.heap.size) Ro4 (by omega))
  replace l0 : w.heap.size < w9.heap.size := Nat.lt_of_lt_of_le l0 hg.size
  replace cxy4 := hg.cell (a := ⟨w4.heap.size, 0, none⟩) cxy4 (row_ne_box (b := w4.heap.size) Ro4 (by omega))
  replace lxy4 : w4.heap.size < w9.heap.size := Nat.lt_of_lt_of_le lxy4 hg.size
  replace o2 := o2.kept hg (row_ne_row Ro2 Ro4 (by omega))
  replace o3 := o3.kept hg (row_ne_row Ro3 Ro4 (by omega))
  replace o5 := o5.kept hg (row_ne_row Ro5 Ro4 (by omega))
  replace B := below_mark B B.size hg Ro4 (by omega)
  have s8 : w8.heap.size ≤ w9.heap.size := hg.size
  clear hg
  go_wp2_with fail
  refine (eqInt64S_same _ _ (vGu S0 a1) _ _ _ (by have := vGu_len S0 a1; omega) (own_ints o5) (own_ints o3)).mono ?_
  rintro e w10 ⟨rfl, hb⟩
  replace c0 := kept_cell hb c0 l0
  replace l0 := lt_of_below hb l0
  replace cxy4 := kept_cell hb cxy4 lxy4
  replace lxy4 := lt_of_below hb lxy4
  replace o2 := o2.below hb
  replace o3 := o3.below hb
  replace o4 := o4.below hb
  replace o5 := o5.below hb
  replace B := B.trans (hb.mono B.size)
  have s9 : w9.heap.size ≤ w10.heap.size := hb.size
  clear hb
  go_wp2_with fail
  refine (markInt64S_own _ _ _ _ _ _ _ (by have := vGu_len S0 a1; omega) (by omega) (by omega) rfl o5).mono ?_
  clear o5
  rintro e w11 ⟨rfl, o5, hg⟩
  replace c0 := hg.cell (a := ⟨w.heap.size, 0, none⟩) c0 (row_ne_box (b := w.heap.size) Ro5 (by omega))
  replace l0 : w.heap.size < w11.heap.size := Nat.lt_of_lt_of_le l0 hg.size
  replace cxy4 := hg.cell (a := ⟨w4.heap.size, 0, none⟩) cxy4 (row_ne_box (b := w4.heap.size) Ro5 (by omega))
  replace lxy4 : w4.heap.size < w11.heap.size := Nat.lt_of_lt_of_le lxy4 hg.size
  replace o2 := o2.kept hg (row_ne_row Ro2 Ro5 (by omega))
  replace o3 := o3.kept hg (row_ne_row Ro3 Ro5 (by omega))
  replace o4 := o4.kept hg (row_ne_row Ro4 Ro5 (by omega))
  replace B := below_mark B B.size hg Ro5 (by omega)
  have s10 : w10.heap.size ≤ w11.heap.size := hg.size
  clear hg
  go_wp2_with fail
  refine (heldInt64S_any _ _ _ 1 _ (by have := vGu_len S0 a1; omega) (by omega) (by omega) (own_ints o5)).mono ?_
  rintro e wz ⟨rfl, rfl⟩
  go_wp2_with fail
  refine (toSpace_any ao0 S0 cap0 _ (by omega) (hS0.below B)).mono ?_
  rintro e w12 ⟨b12, rfl, o12, hb⟩
  replace c0 := kept_cell hb c0 l0
  replace l0 := lt_of_below hb l0
  replace cxy4 := kept_cell hb cxy4 lxy4
  replace lxy4 := lt_of_below hb lxy4
  replace o2 := o2.below hb
  replace o3 := o3.below hb
  replace o4 := o4.below hb
  replace o5 := o5.below hb
  replace B := B.trans (hb.mono B.size)
  have s11 : w11.heap.size ≤ w12.heap.size := hb.size
  replace o12 := o12.rebase (base' := w11.heap.size) (by simp)
  have Ro12 : RowIn (.slice (some ⟨b12, 0, none⟩) S0.length S0.length) (w11.heap.size) w12.heap.size := o12.rowIn
  clear hb
  go_wp2_with fail
  refine (impl_GreedyRows _ S0 _ (by omega) a1 ha1 _ (own_ints o12)).mono ?_
  rintro e w13 ⟨v13, rfl, o13, hb⟩
  replace c0 := kept_cell hb c0 l0
  replace l0 := lt_of_below hb l0
  replace cxy4 := kept_cell hb cxy4 lxy4
  replace lxy4 := lt_of_below hb lxy4
  replace o2 := o2.below hb
  replace o3 := o3.below hb
  replace o4 := o4.below hb
  replace o5 := o5.below hb
  replace o12 := o12.below hb
  replace B := B.trans (hb.mono B.size)
  have s12 : w12.heap.size ≤ w13.heap.size := hb.size
  obtain ⟨a_13, k_13, hv⟩ := o13.shape
  subst hv
  replace o13 := o13.rebase (base' := w12.heap.size) (by simp)
  have Ro13 : RowIn (.slice a_13 (vGu S0 a1).length k_13) (w12.heap.size) w13.heap.size := o13.rowIn
  clear hb
  go_wp2_with fail
  refine (eqInt64S_same _ _ (vGu S0 a1) _ _ _ (by have := vGu_len S0 a1; omega) (own_ints o13) (own_ints o3)).mono ?_
  rintro e w14 ⟨rfl, hb⟩
  replace c0 := kept_cell hb c0 l0
  replace l0 := lt_of_below hb l0
  replace cxy4 := kept_cell hb cxy4 lxy4
  replace lxy4 := lt_of_below hb lxy4
  replace o2 := o2.below hb
  replace o3 := o3.below hb
  replace o4 := o4.below hb
  replace o5 := o5.below hb
  replace o12 := o12.below hb
  replace o13 := o13.below hb
  replace B := B.trans (hb.mono B.size)
  have s13 : w13.heap.size ≤ w14.heap.size := hb.size
  clear hb
  go_wp2_with fail
  refine (heldInt64S_any _ _ _ 1 _ (by have := vGu_len S0 a1; omega) (by omega) (by omega) (own_ints o5)).mono ?_
  rintro e wz ⟨rfl, rfl⟩
  go_wp2_with fail
  go_ret
  exact ⟨rfl, B⟩

theorem law_GreedyRows (ao0 : Option Addr) (S0 : List Int) (cap0 : Nat) (hn0 : S0.length ≤ 9223372036854775807) (a1 : Int) (ha1 : -9223372036854775808 ≤ a1 ∧ a1 ≤ 9223372036854775807) (w : World) (hS0 : Ints w ao0 S0) :
    Calls Try.prog 6 #[.agg #[.slice ao0 S0.length cap0], .int .i64 a1] w fun e w' => e = .returned (.bool true) ∧ Below w.heap.size w w' := by
  by_cases hk0 : (S0.length : Int) ≤ 1048576
  case neg => exact law_GreedyRows_neg0 ao0 S0 cap0 hn0 a1 ha1 w hS0  (by omega)
  exact law_GreedyRows_main ao0 S0 cap0 hn0 a1 ha1 w hS0 hk0

end Go.Proofs.Ytgaelpcghljihaa
