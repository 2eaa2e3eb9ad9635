/-
  SplitSlip answers as its model at every argument, and leaves its arguments alone. By an AI agent.
-/
import Derived.Test.YtcbkmmadejbbpaaSpS
import Derived.Test.YtcbkmmadejbbpaaHelpS
import Derived.Deep.RegionHeld3
namespace Go.Proofs.Ytcbkmmadejbbpaa
open Go.RowKit Cv
set_option linter.unusedVariables false
set_option linter.unusedSimpArgs false

set_option maxRecDepth 100000 in
set_option maxHeartbeats 4000000 in
theorem law_SplitSlip_neg0 (ao0 : Option Addr) (S0 : List Int) (cap0 : Nat) (hn0 : S0.length ≤ 9223372036854775807) (ao1 : Option Addr) (S1 : List Int) (cap1 : Nat) (hn1 : S1.length ≤ 9223372036854775807) (a2 : Int) (ha2 : -9223372036854775808 ≤ a2 ∧ a2 ≤ 9223372036854775807) (w : World) (hS0 : Ints w ao0 S0) (hS1 : Ints w ao1 S1)  (hneg : 1048576 < S1.length) :
    Calls Try.prog 10 #[.agg #[.slice ao0 S0.length cap0], .slice ao1 S1.length cap1, .int .i64 a2] w fun e w' => e = .returned (.bool true) ∧ Below w.heap.size w w' := by
  go_enter Try.func10, Try.ntmps10
  go_wp2_with fail
  go_ret
  exact ⟨rfl, by go_grown⟩

set_option maxRecDepth 100000 in
set_option maxHeartbeats 4000000 in
theorem law_SplitSlip_neg1 (ao0 : Option Addr) (S0 : List Int) (cap0 : Nat) (hn0 : S0.length ≤ 9223372036854775807) (ao1 : Option Addr) (S1 : List Int) (cap1 : Nat) (hn1 : S1.length ≤ 9223372036854775807) (a2 : Int) (ha2 : -9223372036854775808 ≤ a2 ∧ a2 ≤ 9223372036854775807) (w : World) (hS0 : Ints w ao0 S0) (hS1 : Ints w ao1 S1) (hk0 : S1.length ≤ 1048576) (hneg : 1048576 < (S0.length : Int)) :
    Calls Try.prog 10 #[.agg #[.slice ao0 S0.length cap0], .slice ao1 S1.length cap1, .int .i64 a2] w fun e w' => e = .returned (.bool true) ∧ Below w.heap.size w w' := by
  have hz2 : szOf S0.length (1048576) = -1 := by unfold szOf; rw [if_pos (by omega)]
  go_enter Try.func10, Try.ntmps10
  go_wp2_with fail
  refine (szSpace_any _ _ _ _ _ hn0 (by omega) (by omega)).mono ?_
  rintro e w1 ⟨rfl, hb⟩
  have B : Below w.heap.size w w1 := Below.trans (by go_grown) (hb.mono (by simp; try omega))
  have c0 : w1.cell? ⟨w.heap.size, 0, none⟩ = some (.slice ao0 S0.length cap0) := kept_cell hb (by simp) (by simp; try omega)
  have l0 : w.heap.size < w1.heap.size := lt_of_below hb (by simp; try omega)
  have pl0 : w.heap.size < w1.heap.size := l0
  have s0 : w.heap.size ≤ w1.heap.size := B.size
  clear hb
  go_wp2_with fail
  go_ret
  exact ⟨rfl, B⟩

set_option maxRecDepth 100000 in
set_option maxHeartbeats 4000000 in
theorem law_SplitSlip_main (ao0 : Option Addr) (S0 : List Int) (cap0 : Nat) (hn0 : S0.length ≤ 9223372036854775807) (ao1 : Option Addr) (S1 : List Int) (cap1 : Nat) (hn1 : S1.length ≤ 9223372036854775807) (a2 : Int) (ha2 : -9223372036854775808 ≤ a2 ∧ a2 ≤ 9223372036854775807) (w : World) (hS0 : Ints w ao0 S0) (hS1 : Ints w ao1 S1) (hk0 : S1.length ≤ 1048576) (hk1 : (S0.length : Int) ≤ 1048576) :
    Calls Try.prog 10 #[.agg #[.slice ao0 S0.length cap0], .slice ao1 S1.length cap1, .int .i64 a2] w fun e w' => e = .returned (.bool true) ∧ Below w.heap.size w w' := by
  have hz2 : szOf S0.length (1048576) = 1048576 - (S0.length : Int) := by unfold szOf; rw [if_neg (by omega)]
  go_enter Try.func10, Try.ntmps10
  go_wp2_with fail
  refine (szSpace_any _ _ _ _ _ hn0 (by omega) (by omega)).mono ?_
  rintro e w1 ⟨rfl, hb⟩
  have B : Below w.heap.size w w1 := Below.trans (by go_grown) (hb.mono (by simp; try omega))
  have c0 : w1.cell? ⟨w.heap.size, 0, none⟩ = some (.slice ao0 S0.length cap0) := kept_cell hb (by simp) (by simp; try omega)
  have l0 : w.heap.size < w1.heap.size := lt_of_below hb (by simp; try omega)
  have pl0 : w.heap.size < w1.heap.size := l0
  have s0 : w.heap.size ≤ w1.heap.size := B.size
  clear hb
  go_wp2_with fail
  refine (toSpace_any ao0 S0 cap0 _ (by omega) (hS0.below B)).mono ?_
  rintro e w2 ⟨b2, rfl, o2, hb⟩
  replace c0 := kept_cell hb c0 l0
  replace l0 := lt_of_below hb l0
  replace B := B.trans (hb.mono B.size)
  have s1 : w1.heap.size ≤ w2.heap.size := hb.size
  replace o2 := o2.rebase (base' := w1.heap.size) (by simp)
  have Ro2 : RowIn (.slice (some ⟨b2, 0, none⟩) S0.length S0.length) (w1.heap.size) w2.heap.size := o2.rowIn
  clear hb
  go_wp2_with fail
  refine (toSlip_any ao1 S1 cap1 _ (by omega) (hS1.below B)).mono ?_
  rintro e w3 ⟨b3, rfl, o3, hb⟩
  replace c0 := kept_cell hb c0 l0
  replace l0 := lt_of_below hb l0
  replace o2 := o2.below hb
  replace B := B.trans (hb.mono B.size)
  have s2 : w2.heap.size ≤ w3.heap.size := hb.size
  replace o3 := o3.rebase (base' := w2.heap.size) (by simp)
  have Ro3 : RowIn (.slice (some ⟨b3, 0, none⟩) S1.length S1.length) (w2.heap.size) w3.heap.size := o3.rowIn
  clear hb
  go_wp2_with fail
  refine (spec_SplitSlip _ S0 _ (by omega) _ S1 _ (by omega) a2 ha2 _ (own_ints o2) (own_ints o3)).mono ?_
  rintro e w4 ⟨v4, rfl, o4, hb⟩
  replace c0 := kept_cell hb c0 l0
  replace l0 := lt_of_below hb l0
  replace o2 := o2.below hb
  replace o3 := o3.below hb
  replace B := B.trans (hb.mono B.size)
  have s3 : w3.heap.size ≤ w4.heap.size := hb.size
  obtain ⟨a_4, k_4, hv⟩ := o4.shape
  subst hv
  replace o4 := o4.rebase (lo' := w3.heap.size) (by simp) (Nat.le_refl _)
  clear hb
  go_wp2_with fail
  refine (toSpace_any ao0 S0 cap0 _ (by omega) (hS0.below B)).mono ?_
  rintro e w5 ⟨b5, rfl, o5, hb⟩
  replace c0 := kept_cell hb c0 l0
  replace l0 := lt_of_below hb l0
  replace o2 := o2.below hb
  replace o3 := o3.below hb
  replace o4 := o4.below hb
  replace B := B.trans (hb.mono B.size)
  have s4 : w4.heap.size ≤ w5.heap.size := hb.size
  replace o5 := o5.rebase (base' := w4.heap.size) (by simp)
  have Ro5 : RowIn (.slice (some ⟨b5, 0, none⟩) S0.length S0.length) (w4.heap.size) w5.heap.size := o5.rowIn
  clear hb
  go_wp2_with fail
  refine (toSlip_any ao1 S1 cap1 _ (by omega) (hS1.below (B.alloc B.size _))).mono ?_
  rintro e w6 ⟨b6, rfl, o6, hb⟩
  have hq : Below w5.heap.size w5 w6 := Below.trans ((Below.refl _ w5).alloc (Nat.le_refl _) _) (hb.mono (by simp))
  replace c0 := kept_cell hq c0 l0
  replace l0 := lt_of_below hq l0
  replace o2 := o2.below hq
  replace o3 := o3.below hq
  replace o4 := o4.below hq
  replace o5 := o5.below hq
  replace B := B.trans (hq.mono B.size)
  have s5 : w5.heap.size ≤ w6.heap.size := hq.size
  have cxy5 := kept_cell hb (cell_new w5 (.slice (some ⟨b5, 0, none⟩) S0.length S0.length) 26) (lt_alloc _ _)
  have lxy5 := lt_of_below hb (lt_alloc w5 (.cells #[.slice (some ⟨b5, 0, none⟩) S0.length S0.length] 26))
  have plxy5 := lxy5
  replace o6 := o6.rebase (base' := w5.heap.size + 1) (by simp)
  have Ro6 : RowIn (.slice (some ⟨b6, 0, none⟩) S1.length S1.length) (w5.heap.size + 1) w6.heap.size := o6.rowIn
  clear hb hq
  go_wp2_with fail
  refine (impl_SplitSlip _ S0 _ (by omega) _ S1 _ (by omega) a2 ha2 _ (own_ints o5) (own_ints o6)).mono ?_
  rintro e w7 ⟨v7, rfl, o7, hb⟩
  replace c0 := kept_cell hb c0 l0
  replace l0 := lt_of_below hb l0
  replace cxy5 := kept_cell hb cxy5 lxy5
  replace lxy5 := lt_of_below hb lxy5
  replace o2 := o2.below hb
  replace o3 := o3.below hb
  replace o4 := o4.below hb
  replace o5 := o5.below hb
  replace o6 := o6.below hb
  replace B := B.trans (hb.mono B.size)
  have s6 : w6.heap.size ≤ w7.heap.size := hb.size
  obtain ⟨a_7, k_7, hv⟩ := o7.shape
  subst hv
  replace o7 := o7.rebase (lo' := w6.heap.size) (by simp) (Nat.le_refl _)
  clear hb
  go_wp2_with fail
  refine (eqSlipS_same _ _ _ _ _ _ _ _ (vSpl S0 S1 a2) _ (vSpl_len S0 S1 a2) o7 o4).mono ?_
  rintro e w8 ⟨rfl, hb⟩
  replace c0 := kept_cell hb c0 l0
  replace l0 := lt_of_below hb l0
  replace cxy5 := kept_cell hb cxy5 lxy5
  replace lxy5 := lt_of_below hb lxy5
  replace o2 := o2.below hb
  replace o3 := o3.below hb
  replace o4 := o4.below hb
  replace o5 := o5.below hb
  replace o6 := o6.below hb
  replace o7 := o7.below hb
  replace B := B.trans (hb.mono B.size)
  have s7 : w7.heap.size ≤ w8.heap.size := hb.size
  clear hb
  go_wp2_with fail
  go_region_held3 (fun w' => w'.cell? ⟨w.heap.size, 0, none⟩ = some (.slice ao0 S0.length cap0) ∧ w'.cell? ⟨w5.heap.size, 0, none⟩ = some (.slice (some ⟨b5, 0, none⟩) S0.length S0.length)) (first | exact ⟨c0, cxy5⟩ | exact ⟨kept_cell hqa c0 l0, kept_cell hqa cxy5 lxy5⟩ | exact ⟨kept_cell hqb (kept_cell hqa c0 l0) (lt_of_below hqa l0), kept_cell hqb (kept_cell hqa cxy5 lxy5) (lt_of_below hqa lxy5)⟩) (first | (go_at_call 14; refine (toSpace_any ao0 S0 cap0 _ (by omega) (hS0.below B.drew)).mono ?_; rintro e w9 ⟨bq, rfl, oq, hqa'⟩; have hqa : Below w8.heap.size w8 w9 := (Below.refl w8.heap.size w8).drew.trans hqa') | (go_at_call 17; refine (eqSpace_same _ _ S0 _ _ _ (by omega) ((own_ints o5).below hqa) (own_ints oq)).mono ?_; rintro e w10 ⟨rfl, hqb⟩))
  have hq : Below w8.heap.size w8 w10 := hqa.trans (hqb.mono hqa.size)
  replace c0 := kept_cell hq c0 l0
  replace l0 := lt_of_below hq l0
  replace cxy5 := kept_cell hq cxy5 lxy5
  replace lxy5 := lt_of_below hq lxy5
  replace o2 := o2.below hq
  replace o3 := o3.below hq
  replace o4 := o4.below hq
  replace o5 := o5.below hq
  replace o6 := o6.below hq
  replace o7 := o7.below hq
  replace B := B.trans (hq.mono B.size)
  have s9 : w8.heap.size ≤ w10.heap.size := hq.size
  clear hqa hqa' hqb hq oq
  go_wp2_with fail
  refine (toSlip_any ao1 S1 cap1 _ (by omega) (hS1.below B)).mono ?_
  rintro e w11 ⟨b11, rfl, o11, hb⟩
  replace c0 := kept_cell hb c0 l0
  replace l0 := lt_of_below hb l0
  replace cxy5 := kept_cell hb cxy5 lxy5
  replace lxy5 := lt_of_below hb lxy5
  replace o2 := o2.below hb
  replace o3 := o3.below hb
  replace o4 := o4.below hb
  replace o5 := o5.below hb
  replace o6 := o6.below hb
  replace o7 := o7.below hb
  replace B := B.trans (hb.mono B.size)
  have s10 : w10.heap.size ≤ w11.heap.size := hb.size
  replace o11 := o11.rebase (base' := w10.heap.size) (by simp)
  have Ro11 : RowIn (.slice (some ⟨b11, 0, none⟩) S1.length S1.length) (w10.heap.size) w11.heap.size := o11.rowIn
  clear hb
  go_wp2_with fail
  refine (eqSlip_same _ _ S1 _ _ _ (by omega) (own_ints o6) (own_ints o11)).mono ?_
  rintro e w12 ⟨rfl, hb⟩
  replace c0 := kept_cell hb c0 l0
  replace l0 := lt_of_below hb l0
  replace cxy5 := kept_cell hb cxy5 lxy5
  replace lxy5 := lt_of_below hb lxy5
  replace o2 := o2.below hb
  replace o3 := o3.below hb
  replace o4 := o4.below hb
  replace o5 := o5.below hb
  replace o6 := o6.below hb
  replace o7 := o7.below hb
  replace o11 := o11.below hb
  replace B := B.trans (hb.mono B.size)
  have s11 : w11.heap.size ≤ w12.heap.size := hb.size
  clear hb
  go_wp2_with fail
  refine (markSpace_own b5 _ _ _ _ _ _ (by omega) (by omega) (by omega) rfl o5).mono ?_
  clear o5
  rintro e w13 ⟨rfl, o5, hg⟩
  replace c0 := hg.cell (a := ⟨w.heap.size, 0, none⟩) c0 (row_ne_box (b := w.heap.size) Ro5 (by omega))
  replace l0 : w.heap.size < w13.heap.size := Nat.lt_of_lt_of_le l0 hg.size
  replace cxy5 := hg.cell (a := ⟨w5.heap.size, 0, none⟩) cxy5 (row_ne_box (b := w5.heap.size) Ro5 (by omega))
  replace lxy5 : w5.heap.size < w13.heap.size := Nat.lt_of_lt_of_le lxy5 hg.size
  replace o2 := o2.kept hg (row_ne_row Ro2 Ro5 (by omega))
  replace o3 := o3.kept hg (row_ne_row Ro3 Ro5 (by omega))
  replace o4 := o4.kept hg (rws_apart Ro5 (by omega))
  replace o6 := o6.kept hg (row_ne_row Ro6 Ro5 (by omega))
  replace o7 := o7.kept hg (rws_apart Ro5 (by omega))
  replace o11 := o11.kept hg (row_ne_row Ro11 Ro5 (by omega))
  replace B := below_mark B B.size hg Ro5 (by omega)
  have s12 : w12.heap.size ≤ w13.heap.size := hg.size
  clear hg
  go_wp2_with fail
  refine (markSlip_own _ _ _ _ _ _ _ (by have := hn1; omega) (by omega) (by omega) rfl o6).mono ?_
  clear o6
  rintro e w14 ⟨rfl, o6, hg⟩
  replace c0 := hg.cell (a := ⟨w.heap.size, 0, none⟩) c0 (row_ne_box (b := w.heap.size) Ro6 (by omega))
  replace l0 : w.heap.size < w14.heap.size := Nat.lt_of_lt_of_le l0 hg.size
  replace cxy5 := hg.cell (a := ⟨w5.heap.size, 0, none⟩) cxy5 (row_ne_box (b := w5.heap.size) Ro6 (by omega))
  replace lxy5 : w5.heap.size < w14.heap.size := Nat.lt_of_lt_of_le lxy5 hg.size
  replace o2 := o2.kept hg (row_ne_row Ro2 Ro6 (by omega))
  replace o3 := o3.kept hg (row_ne_row Ro3 Ro6 (by omega))
  replace o4 := o4.kept hg (rws_apart Ro6 (by omega))
  replace o5 := o5.kept hg (row_ne_row Ro5 Ro6 (by omega))
  replace o7 := o7.kept hg (rws_apart Ro6 (by omega))
  replace o11 := o11.kept hg (row_ne_row Ro11 Ro6 (by omega))
  replace B := below_mark B B.size hg Ro6 (by omega)
  have s13 : w13.heap.size ≤ w14.heap.size := hg.size
  clear hg
  go_wp2_with fail
  refine (eqSlipS_same _ _ _ _ _ _ _ _ (vSpl S0 S1 a2) _ (vSpl_len S0 S1 a2) o7 o4).mono ?_
  rintro e w15 ⟨rfl, hb⟩
  replace c0 := kept_cell hb c0 l0
  replace l0 := lt_of_below hb l0
  replace cxy5 := kept_cell hb cxy5 lxy5
  replace lxy5 := lt_of_below hb lxy5
  replace o2 := o2.below hb
  replace o3 := o3.below hb
  replace o4 := o4.below hb
  replace o5 := o5.below hb
  replace o6 := o6.below hb
  replace o7 := o7.below hb
  replace o11 := o11.below hb
  replace B := B.trans (hb.mono B.size)
  have s14 : w14.heap.size ≤ w15.heap.size := hb.size
  clear hb
  go_wp2_with fail
  refine (markSlipS_own _ _ _ _ (vSpl S0 S1 a2) 1 _ (vSpl_len S0 S1 a2) (by omega) (by omega) (by omega) o7).mono ?_
  clear o7
  rintro e w16 ⟨rfl, o7, hg⟩
  replace c0 := kept_cell hg c0 (by omega)
  replace l0 : w.heap.size < w16.heap.size := Nat.lt_of_lt_of_le l0 hg.size
  replace cxy5 := kept_cell hg cxy5 (by omega)
  replace lxy5 : w5.heap.size < w16.heap.size := Nat.lt_of_lt_of_le lxy5 hg.size
  clear o11
  replace o2 := OwnInts.belowB o2 (rws_under Ro2 (by omega)) hg
  replace o3 := OwnInts.belowB o3 (rws_under Ro3 (by omega)) hg
  replace o4 := o4.belowB (by omega) hg
  replace o5 := OwnInts.belowB o5 (rws_under Ro5 (by omega)) hg
  replace o6 := OwnInts.belowB o6 (rws_under Ro6 (by omega)) hg
  replace B := B.trans (hg.mono (by omega))
  have s15 : w15.heap.size ≤ w16.heap.size := hg.size
  clear hg
  go_wp2_with fail
  refine (heldSlipS_any _ _ _ _ (vSpl S0 S1 a2) 1 _ (vSpl_len S0 S1 a2) (by omega) (by omega) o7).mono ?_
  rintro e wz ⟨rfl, rfl⟩
  go_wp2_with fail
  refine (toSpace_any ao0 S0 cap0 _ (by omega) (hS0.below B)).mono ?_
  rintro e w17 ⟨b17, rfl, o17, hb⟩
  replace c0 := kept_cell hb c0 l0
  replace l0 := lt_of_below hb l0
  replace cxy5 := kept_cell hb cxy5 lxy5
  replace lxy5 := lt_of_below hb lxy5
  replace o2 := o2.below hb
  replace o3 := o3.below hb
  replace o4 := o4.below hb
  replace o5 := o5.below hb
  replace o6 := o6.below hb
  replace o7 := o7.below hb
  replace B := B.trans (hb.mono B.size)
  have s16 : w16.heap.size ≤ w17.heap.size := hb.size
  replace o17 := o17.rebase (base' := w16.heap.size) (by simp)
  have Ro17 : RowIn (.slice (some ⟨b17, 0, none⟩) S0.length S0.length) (w16.heap.size) w17.heap.size := o17.rowIn
  clear hb
  go_wp2_with fail
  refine (toSlip_any ao1 S1 cap1 _ (by omega) (hS1.below B)).mono ?_
  rintro e w18 ⟨b18, rfl, o18, hb⟩
  replace c0 := kept_cell hb c0 l0
  replace l0 := lt_of_below hb l0
  replace cxy5 := kept_cell hb cxy5 lxy5
  replace lxy5 := lt_of_below hb lxy5
  replace o2 := o2.below hb
  replace o3 := o3.below hb
  replace o4 := o4.below hb
  replace o5 := o5.below hb
  replace o6 := o6.below hb
  replace o7 := o7.below hb
  replace o17 := o17.below hb
  replace B := B.trans (hb.mono B.size)
  have s17 : w17.heap.size ≤ w18.heap.size := hb.size
  replace o18 := o18.rebase (base' := w17.heap.size) (by simp)
  have Ro18 : RowIn (.slice (some ⟨b18, 0, none⟩) S1.length S1.length) (w17.heap.size) w18.heap.size := o18.rowIn
  clear hb
  go_wp2_with fail
  refine (impl_SplitSlip _ S0 _ (by omega) _ S1 _ (by omega) a2 ha2 _ (own_ints o17) (own_ints o18)).mono ?_
  rintro e w19 ⟨v19, rfl, o19, hb⟩
  replace c0 := kept_cell hb c0 l0
  replace l0 := lt_of_below hb l0
  replace cxy5 := kept_cell hb cxy5 lxy5
  replace lxy5 := lt_of_below hb lxy5
  replace o2 := o2.below hb
  replace o3 := o3.below hb
  replace o4 := o4.below hb
  replace o5 := o5.below hb
  replace o6 := o6.below hb
  replace o7 := o7.below hb
  replace o17 := o17.below hb
  replace o18 := o18.below hb
  replace B := B.trans (hb.mono B.size)
  have s18 : w18.heap.size ≤ w19.heap.size := hb.size
  obtain ⟨a_19, k_19, hv⟩ := o19.shape
  subst hv
  replace o19 := o19.rebase (lo' := w18.heap.size) (by simp) (Nat.le_refl _)
  clear hb
  go_wp2_with fail
  refine (eqSlipS_same _ _ _ _ _ _ _ _ (vSpl S0 S1 a2) _ (vSpl_len S0 S1 a2) o19 o4).mono ?_
  rintro e w20 ⟨rfl, hb⟩
  replace c0 := kept_cell hb c0 l0
  replace l0 := lt_of_below hb l0
  replace cxy5 := kept_cell hb cxy5 lxy5
  replace lxy5 := lt_of_below hb lxy5
  replace o2 := o2.below hb
  replace o3 := o3.below hb
  replace o4 := o4.below hb
  replace o5 := o5.below hb
  replace o6 := o6.below hb
  replace o7 := o7.below hb
  replace o17 := o17.below hb
  replace o18 := o18.below hb
  replace o19 := o19.below hb
  replace B := B.trans (hb.mono B.size)
  have s19 : w19.heap.size ≤ w20.heap.size := hb.size
  clear hb
  go_wp2_with fail
  refine (heldSlipS_any _ _ _ _ (vSpl S0 S1 a2) 1 _ (vSpl_len S0 S1 a2) (by omega) (by omega) o7).mono ?_
  rintro e wz ⟨rfl, rfl⟩
  go_wp2_with fail
  go_ret
  exact ⟨rfl, B⟩

theorem law_SplitSlip (ao0 : Option Addr) (S0 : List Int) (cap0 : Nat) (hn0 : S0.length ≤ 9223372036854775807) (ao1 : Option Addr) (S1 : List Int) (cap1 : Nat) (hn1 : S1.length ≤ 9223372036854775807) (a2 : Int) (ha2 : -9223372036854775808 ≤ a2 ∧ a2 ≤ 9223372036854775807) (w : World) (hS0 : Ints w ao0 S0) (hS1 : Ints w ao1 S1) :
    Calls Try.prog 10 #[.agg #[.slice ao0 S0.length cap0], .slice ao1 S1.length cap1, .int .i64 a2] w fun e w' => e = .returned (.bool true) ∧ Below w.heap.size w w' := by
  by_cases hk0 : S1.length ≤ 1048576
  case neg => exact law_SplitSlip_neg0 ao0 S0 cap0 hn0 ao1 S1 cap1 hn1 a2 ha2 w hS0 hS1  (by omega)
  by_cases hk1 : (S0.length : Int) ≤ 1048576
  case neg => exact law_SplitSlip_neg1 ao0 S0 cap0 hn0 ao1 S1 cap1 hn1 a2 ha2 w hS0 hS1 hk0 (by omega)
  exact law_SplitSlip_main ao0 S0 cap0 hn0 ao1 S1 cap1 hn1 a2 ha2 w hS0 hS1 hk0 hk1

end Go.Proofs.Ytcbkmmadejbbpaa
