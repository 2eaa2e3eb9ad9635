/-
  WordsReached answers as its model at every argument, and leaves its arguments alone. By an AI agent.
-/
import Derived.Test.YtfgpenldeckoaaaWrT9
import Derived.Test.YtfgpenldeckoaaaWrJ9
import Derived.Test.YtfgpenldeckoaaaMark
import Derived.Deep.RegionHeld3
namespace Go.Proofs.Ytfgpenldeckoaaa
open Go.RowKit Cv
set_option linter.unusedVariables false
set_option linter.unusedSimpArgs false

set_option maxRecDepth 100000 in
set_option maxHeartbeats 4000000 in
theorem law_WordsReached_neg0 (ao0 : Option Addr) (S0 : List Int) (cap0 : Nat) (hn0 : S0.length ≤ 9223372036854775807) (ao1 : Option Addr) (S1 : List Int) (cap1 : Nat) (hn1 : S1.length ≤ 9223372036854775807) (ao2 : Option Addr) (S2 : List Int) (cap2 : Nat) (hn2 : S2.length ≤ 9223372036854775807) (a3 : Int) (ha3 : -9223372036854775808 ≤ a3 ∧ a3 ≤ 9223372036854775807) (w : World) (hS0 : Ints w ao0 S0) (hS1 : Ints w ao1 S1) (hS2 : Ints w ao2 S2)  (hneg : 1048576 < S1.length) :
    Calls Try.prog 10 #[.agg #[.slice ao0 S0.length cap0], .slice ao1 S1.length cap1, .slice ao2 S2.length cap2, .int .i64 a3] w fun e w' => e = .returned (.bool true) ∧ Below w.heap.size w w' := by
  go_enter Try.func10, Try.ntmps10
  go_wp2_with fail
  go_ret
  exact ⟨rfl, by go_grown⟩

set_option maxRecDepth 100000 in
set_option maxHeartbeats 4000000 in
theorem law_WordsReached_neg1 (ao0 : Option Addr) (S0 : List Int) (cap0 : Nat) (hn0 : S0.length ≤ 9223372036854775807) (ao1 : Option Addr) (S1 : List Int) (cap1 : Nat) (hn1 : S1.length ≤ 9223372036854775807) (ao2 : Option Addr) (S2 : List Int) (cap2 : Nat) (hn2 : S2.length ≤ 9223372036854775807) (a3 : Int) (ha3 : -9223372036854775808 ≤ a3 ∧ a3 ≤ 9223372036854775807) (w : World) (hS0 : Ints w ao0 S0) (hS1 : Ints w ao1 S1) (hS2 : Ints w ao2 S2) (hk0 : S1.length ≤ 1048576) (hneg : 1048576 < S2.length) :
    Calls Try.prog 10 #[.agg #[.slice ao0 S0.length cap0], .slice ao1 S1.length cap1, .slice ao2 S2.length cap2, .int .i64 a3] w fun e w' => e = .returned (.bool true) ∧ Below w.heap.size w w' := by
  go_enter Try.func10, Try.ntmps10
  go_wp2_with fail
  go_ret
  exact ⟨rfl, by go_grown⟩

set_option maxRecDepth 100000 in
set_option maxHeartbeats 4000000 in
theorem law_WordsReached_neg2 (ao0 : Option Addr) (S0 : List Int) (cap0 : Nat) (hn0 : S0.length ≤ 9223372036854775807) (ao1 : Option Addr) (S1 : List Int) (cap1 : Nat) (hn1 : S1.length ≤ 9223372036854775807) (ao2 : Option Addr) (S2 : List Int) (cap2 : Nat) (hn2 : S2.length ≤ 9223372036854775807) (a3 : Int) (ha3 : -9223372036854775808 ≤ a3 ∧ a3 ≤ 9223372036854775807) (w : World) (hS0 : Ints w ao0 S0) (hS1 : Ints w ao1 S1) (hS2 : Ints w ao2 S2) (hk0 : S1.length ≤ 1048576) (hk1 : S2.length ≤ 1048576) (hneg : 1048576 < (S0.length : Int)) :
    Calls Try.prog 10 #[.agg #[.slice ao0 S0.length cap0], .slice ao1 S1.length cap1, .slice ao2 S2.length cap2, .int .i64 a3] w fun e w' => e = .returned (.bool true) ∧ Below w.heap.size w w' := by
  have hz3 : szOf S0.length (1048576) = -1 := by unfold szOf; rw [if_pos (by omega)]
  go_enter Try.func10, Try.ntmps10
  go_wp2_with fail
  refine (szSpace_any _ _ _ _ _ hn0 (by omega) (by omega)).mono ?_
  rintro e w1 ⟨rfl, hb⟩
  have B : Below w.heap.size w w1 := Below.trans (by go_grown) (hb.mono (by simp; try omega))
  have c0 : w1.cell? ⟨w.heap.size, 0, none⟩ = some (.slice ao0 S0.length cap0) := kept_cell hb (by simp) (by simp; try omega)
  have l0 : w.heap.size < w1.heap.size := lt_of_below hb (by simp; try omega)
  have pl0 : w.heap.size < w1.heap.size := l0
  have s0 : w.heap.size ≤ w1.heap.size := B.size
  clear hb
  go_wp2_with fail
  go_ret
  exact ⟨rfl, B⟩

set_option maxRecDepth 100000 in
set_option maxHeartbeats 4000000 in
theorem law_WordsReached_main (ao0 : Option Addr) (S0 : List Int) (cap0 : Nat) (hn0 : S0.length ≤ 9223372036854775807) (ao1 : Option Addr) (S1 : List Int) (cap1 : Nat) (hn1 : S1.length ≤ 9223372036854775807) (ao2 : Option Addr) (S2 : List Int) (cap2 : Nat) (hn2 : S2.length ≤ 9223372036854775807) (a3 : Int) (ha3 : -9223372036854775808 ≤ a3 ∧ a3 ≤ 9223372036854775807) (w : World) (hS0 : Ints w ao0 S0) (hS1 : Ints w ao1 S1) (hS2 : Ints w ao2 S2) (hk0 : S1.length ≤ 1048576) (hk1 : S2.length ≤ 1048576) (hk2 : (S0.length : Int) ≤ 1048576) :
    Calls Try.prog 10 #[.agg #[.slice ao0 S0.length cap0], .slice ao1 S1.length cap1, .slice ao2 S2.length cap2, .int .i64 a3] w fun e w' => e = .returned (.bool true) ∧ Below w.heap.size w w' := by
  have hz3 : szOf S0.length (1048576) = 1048576 - (S0.length : Int) := by unfold szOf; rw [if_neg (by omega)]
  go_enter Try.func10, Try.ntmps10
  go_wp2_with fail
  refine (szSpace_any _ _ _ _ _ hn0 (by omega) (by omega)).mono ?_
  rintro e w1 ⟨rfl, hb⟩
  have B : Below w.heap.size w w1 := Below.trans (by go_grown) (hb.mono (by simp; try omega))
  have c0 : w1.cell? ⟨w.heap.size, 0, none⟩ = some (.slice ao0 S0.length cap0) := kept_cell hb (by simp) (by simp; try omega)
  have l0 : w.heap.size < w1.heap.size := lt_of_below hb (by simp; try omega)
  have pl0 : w.heap.size < w1.heap.size := l0
  have s0 : w.heap.size ≤ w1.heap.size := B.size
  clear hb
  go_wp2_with fail
  refine (toSpace_any ao0 S0 cap0 _ (by omega) (hS0.below B)).mono ?_
  rintro e w2 ⟨b2, rfl, o2, hb⟩
  replace c0 := kept_cell hb c0 l0
  replace l0 := lt_of_below hb l0
  replace B := B.trans (hb.mono B.size)
  have s1 : w1.heap.size ≤ w2.heap.size := hb.size
  replace o2 := o2.rebase (base' := w1.heap.size) (by simp)
  have Ro2 : RowIn (.slice (some ⟨b2, 0, none⟩) S0.length S0.length) (w1.heap.size) w2.heap.size := o2.rowIn
  clear hb
  go_wp2_with fail
  refine (toInt64S_any ao1 S1 cap1 _ (by omega) (hS1.below B)).mono ?_
  rintro e w3 ⟨b3, rfl, o3, hb⟩
  replace c0 := kept_cell hb c0 l0
  replace l0 := lt_of_below hb l0
  replace o2 := o2.below hb
  replace B := B.trans (hb.mono B.size)
  have s2 : w2.heap.size ≤ w3.heap.size := hb.size
  replace o3 := o3.rebase (base' := w2.heap.size) (by simp)
  have Ro3 : RowIn (.slice (some ⟨b3, 0, none⟩) S1.length S1.length) (w2.heap.size) w3.heap.size := o3.rowIn
  clear hb
  go_wp2_with fail
  refine (toInt64S_any ao2 S2 cap2 _ (by omega) (hS2.below B)).mono ?_
  rintro e w4 ⟨b4, rfl, o4, hb⟩
  replace c0 := kept_cell hb c0 l0
  replace l0 := lt_of_below hb l0
  replace o2 := o2.below hb
  replace o3 := o3.below hb
  replace B := B.trans (hb.mono B.size)
  have s3 : w3.heap.size ≤ w4.heap.size := hb.size
  replace o4 := o4.rebase (base' := w3.heap.size) (by simp)
  have Ro4 : RowIn (.slice (some ⟨b4, 0, none⟩) S2.length S2.length) (w3.heap.size) w4.heap.size := o4.rowIn
  clear hb
  go_wp2_with fail
  refine (spec_WordsReached _ S0 _ (by omega) _ S1 _ (by omega) _ S2 _ (by omega) a3 ha3 _ (own_ints o2) (own_ints o3) (own_ints o4)).mono ?_
  rintro e w5 ⟨v5, rfl, o5, hb⟩
  replace c0 := kept_cell hb c0 l0
  replace l0 := lt_of_below hb l0
  replace o2 := o2.below hb
  replace o3 := o3.below hb
  replace o4 := o4.below hb
  replace B := B.trans (hb.mono B.size)
  have s4 : w4.heap.size ≤ w5.heap.size := hb.size
  obtain ⟨a_5, k_5, hv⟩ := o5.shape
  subst hv
  replace o5 := o5.rebase (base' := w4.heap.size) (by simp)
  have Ro5 : RowIn (.slice a_5 (vWr S0 S1 S2 a3).length k_5) (w4.heap.size) w5.heap.size := o5.rowIn
  clear hb
  go_wp2_with fail
  refine (toSpace_any ao0 S0 cap0 _ (by omega) (hS0.below B)).mono ?_
  rintro e w6 ⟨b6, rfl, o6, hb⟩
  replace c0 := kept_cell hb c0 l0
  replace l0 := lt_of_below hb l0
  replace o2 := o2.below hb
  replace o3 := o3.below hb
  replace o4 := o4.below hb
  replace o5 := o5.below hb
  replace B := B.trans (hb.mono B.size)
  have s5 : w5.heap.size ≤ w6.heap.size := hb.size
  replace o6 := o6.rebase (base' := w5.heap.size) (by simp)
  have Ro6 : RowIn (.slice (some ⟨b6, 0, none⟩) S0.length S0.length) (w5.heap.size) w6.heap.size := o6.rowIn
  clear hb
  go_wp2_with fail
  refine (toInt64S_any ao1 S1 cap1 _ (by omega) (hS1.below (B.alloc B.size _))).mono ?_
  rintro e w7 ⟨b7, rfl, o7, hb⟩
  have hq : Below w6.heap.size w6 w7 := Below.trans ((Below.refl _ w6).alloc (Nat.le_refl _) _) (hb.mono (by simp))
  replace c0 := kept_cell hq c0 l0
  replace l0 := lt_of_below hq l0
  replace o2 := o2.below hq
  replace o3 := o3.below hq
  replace o4 := o4.below hq
  replace o5 := o5.below hq
  replace o6 := o6.below hq
  replace B := B.trans (hq.mono B.size)
  have s6 : w6.heap.size ≤ w7.heap.size := hq.size
  have cxy6 := kept_cell hb (cell_new w6 (.slice (some ⟨b6, 0, none⟩) S0.length S0.length) 28) (lt_alloc _ _)
  have lxy6 := lt_of_below hb (lt_alloc w6 (.cells #[.slice (some ⟨b6, 0, none⟩) S0.length S0.length] 28))
  have plxy6 := lxy6
  replace o7 := o7.rebase (base' := w6.heap.size + 1) (by simp)
  have Ro7 : RowIn (.slice (some ⟨b7, 0, none⟩) S1.length S1.length) (w6.heap.size + 1) w7.heap.size := o7.rowIn
  clear hb hq
  go_wp2_with fail
  refine (toInt64S_any ao2 S2 cap2 _ (by omega) (hS2.below B)).mono ?_
  rintro e w8 ⟨b8, rfl, o8, hb⟩
  replace c0 := kept_cell hb c0 l0
  replace l0 := lt_of_below hb l0
  replace cxy6 := kept_cell hb cxy6 lxy6
  replace lxy6 := lt_of_below hb lxy6
  replace o2 := o2.below hb
  replace o3 := o3.below hb
  replace o4 := o4.below hb
  replace o5 := o5.below hb
  replace o6 := o6.below hb
  replace o7 := o7.below hb
  replace B := B.trans (hb.mono B.size)
  have s7 : w7.heap.size ≤ w8.heap.size := hb.size
  replace o8 := o8.rebase (base' := w7.heap.size) (by simp)
  have Ro8 : RowIn (.slice (some ⟨b8, 0, none⟩) S2.length S2.length) (w7.heap.size) w8.heap.size := o8.rowIn
  clear hb
  go_wp2_with fail
  refine (impl_WordsReached _ S0 _ (by omega) _ S1 _ (by omega) _ S2 _ (by omega) a3 ha3 _ (own_ints o6) (own_ints o7) (own_ints o8)).mono ?_
  rintro e w9 ⟨v9, rfl, o9, hb⟩
  replace c0 := kept_cell hb c0 l0
  replace l0 := lt_of_below hb l0
  replace cxy6 := kept_cell hb cxy6 lxy6
  replace lxy6 := lt_of_below hb lxy6
  replace o2 := o2.below hb
  replace o3 := o3.below hb
  replace o4 := o4.below hb
  replace o5 := o5.below hb
  replace o6 := o6.below hb
  replace o7 := o7.below hb
  replace o8 := o8.below hb
  replace B := B.trans (hb.mono B.size)
  have s8 : w8.heap.size ≤ w9.heap.size := hb.size
  obtain ⟨a_9, k_9, hv⟩ := o9.shape
  subst hv
  replace o9 := o9.rebase (base' := w8.heap.size) (by simp)
  have Ro9 : RowIn (.slice a_9 (vWr S0 S1 S2 a3).length k_9) (w8.heap.size) w9.heap.size := o9.rowIn
  clear hb
  go_wp2_with fail
  refine (eqInt64S_same _ _ (vWr S0 S1 S2 a3) _ _ _ (by have := vWr_len S0 S1 S2 a3; omega) (own_ints o9) (own_ints o5)).mono ?_
  rintro e w10 ⟨rfl, hb⟩
  replace c0 := kept_cell hb c0 l0
  replace l0 := lt_of_below hb l0
  replace cxy6 := kept_cell hb cxy6 lxy6
  replace lxy6 := lt_of_below hb lxy6
  replace o2 := o2.below hb
  replace o3 := o3.below hb
  replace o4 := o4.below hb
  replace o5 := o5.below hb
  replace o6 := o6.below hb
  replace o7 := o7.below hb
  replace o8 := o8.below hb
  replace o9 := o9.below hb
  replace B := B.trans (hb.mono B.size)
  have s9 : w9.heap.size ≤ w10.heap.size := hb.size
  clear hb
  go_wp2_with fail
  go_region_held3 (fun w' => w'.cell? ⟨w.heap.size, 0, none⟩ = some (.slice ao0 S0.length cap0) ∧ w'.cell? ⟨w6.heap.size, 0, none⟩ = some (.slice (some ⟨b6, 0, none⟩) S0.length S0.length)) (first | exact ⟨c0, cxy6⟩ | exact ⟨kept_cell hqa c0 l0, kept_cell hqa cxy6 lxy6⟩ | exact ⟨kept_cell hqb (kept_cell hqa c0 l0) (lt_of_below hqa l0), kept_cell hqb (kept_cell hqa cxy6 lxy6) (lt_of_below hqa lxy6)⟩) (first | (go_at_call 14; refine (toSpace_any ao0 S0 cap0 _ (by omega) (hS0.below B.drew)).mono ?_; rintro e w11 ⟨bq, rfl, oq, hqa'⟩; have hqa : Below w10.heap.size w10 w11 := (Below.refl w10.heap.size w10).drew.trans hqa') | (go_at_call 18; refine (eqSpace_same _ _ S0 _ _ _ (by omega) ((own_ints o6).below hqa) (own_ints oq)).mono ?_; rintro e w12 ⟨rfl, hqb⟩))
  have hq : Below w10.heap.size w10 w12 := hqa.trans (hqb.mono hqa.size)
  replace c0 := kept_cell hq c0 l0
  replace l0 := lt_of_below hq l0
  replace cxy6 := kept_cell hq cxy6 lxy6
  replace lxy6 := lt_of_below hq lxy6
  replace o2 := o2.below hq
  replace o3 := o3.below hq
  replace o4 := o4.below hq
  replace o5 := o5.below hq
  replace o6 := o6.below hq
  replace o7 := o7.below hq
  replace o8 := o8.below hq
  replace o9 := o9.below hq
  replace B := B.trans (hq.mono B.size)
  have s11 : w10.heap.size ≤ w12.heap.size := hq.size
  clear hqa hqa' hqb hq oq
  go_wp2_with fail
  refine (toInt64S_any ao1 S1 cap1 _ (by omega) (hS1.below B)).mono ?_
  rintro e w13 ⟨b13, rfl, o13, hb⟩
  replace c0 := kept_cell hb c0 l0
  replace l0 := lt_of_below hb l0
  replace cxy6 := kept_cell hb cxy6 lxy6
  replace lxy6 := lt_of_below hb lxy6
  replace o2 := o2.below hb
  replace o3 := o3.below hb
  replace o4 := o4.below hb
  replace o5 := o5.below hb
  replace o6 := o6.below hb
  replace o7 := o7.below hb
  replace o8 := o8.below hb
  replace o9 := o9.below hb
  replace B := B.trans (hb.mono B.size)
  have s12 : w12.heap.size ≤ w13.heap.size := hb.size
  replace o13 := o13.rebase (base' := w12.heap.size) (by simp)
  have Ro13 : RowIn (.slice (some ⟨b13, 0, none⟩) S1.length S1.length) (w12.heap.size) w13.heap.size := o13.rowIn
  clear hb
  go_wp2_with fail
  refine (eqInt64S_same _ _ S1 _ _ _ (by omega) (own_ints o7) (own_ints o13)).mono ?_
  rintro e w14 ⟨rfl, hb⟩
  replace c0 := kept_cell hb c0 l0
  replace l0 := lt_of_below hb l0
  replace cxy6 := kept_cell hb cxy6 lxy6
  replace lxy6 := lt_of_below hb lxy6
  replace o2 := o2.below hb
  replace o3 := o3.below hb
  replace o4 := o4.below hb
  replace o5 := o5.below hb
  replace o6 := o6.below hb
  replace o7 := o7.below hb
  replace o8 := o8.below hb
  replace o9 := o9.below hb
  replace o13 := o13.below hb
  replace B := B.trans (hb.mono B.size)
  have s13 : w13.heap.size ≤ w14.heap.size := hb.size
  clear hb
  go_wp2_with fail
  refine (toInt64S_any ao2 S2 cap2 _ (by omega) (hS2.below B)).mono ?_
  rintro e w15 ⟨b15, rfl, o15, hb⟩
  replace c0 := kept_cell hb c0 l0
  replace l0 := lt_of_below hb l0
  replace cxy6 := kept_cell hb cxy6 lxy6
  replace lxy6 := lt_of_below hb lxy6
  replace o2 := o2.below hb
  replace o3 := o3.below hb
  replace o4 := o4.below hb
  replace o5 := o5.below hb
  replace o6 := o6.below hb
  replace o7 := o7.below hb
  replace o8 := o8.below hb
  replace o9 := o9.below hb
  replace o13 := o13.below hb
  replace B := B.trans (hb.mono B.size)
  have s14 : w14.heap.size ≤ w15.heap.size := hb.size
  replace o15 := o15.rebase (base' := w14.heap.size) (by simp)
  have Ro15 : RowIn (.slice (some ⟨b15, 0, none⟩) S2.length S2.length) (w14.heap.size) w15.heap.size := o15.rowIn
  clear hb
  go_wp2_with fail
  refine (eqInt64S_same _ _ S2 _ _ _ (by omega) (own_ints o8) (own_ints o15)).mono ?_
  rintro e w16 ⟨rfl, hb⟩
  replace c0 := kept_cell hb c0 l0
  replace l0 := lt_of_below hb l0
  replace cxy6 := kept_cell hb cxy6 lxy6
  replace lxy6 := lt_of_below hb lxy6
  replace o2 := o2.below hb
  replace o3 := o3.below hb
  replace o4 := o4.below hb
  replace o5 := o5.below hb
  replace o6 := o6.below hb
  replace o7 := o7.below hb
  replace o8 := o8.below hb
  replace o9 := o9.below hb
  replace o13 := o13.below hb
  replace o15 := o15.below hb
  replace B := B.trans (hb.mono B.size)
  have s15 : w15.heap.size ≤ w16.heap.size := hb.size
  clear hb
  go_wp2_with fail
  refine (markSpace_own b6 _ _ _ _ _ _ (by omega) (by omega) (by omega) rfl o6).mono ?_
  clear o6
  rintro e w17 ⟨rfl, o6, hg⟩
  replace c0 := hg.cell (a := ⟨w.heap.size, 0, none⟩) c0 (row_ne_box (b := w.heap.size) Ro6 (by omega))
  replace l0 : w.heap.size < w17.heap.size := Nat.lt_of_lt_of_le l0 hg.size
  replace cxy6 := hg.cell (a := ⟨w6.heap.size, 0, none⟩) cxy6 (row_ne_box (b := w6.heap.size) Ro6 (by omega))
  replace lxy6 : w6.heap.size < w17.heap.size := Nat.lt_of_lt_of_le lxy6 hg.size
  replace o2 := o2.kept hg (row_ne_row Ro2 Ro6 (by omega))
  replace o3 := o3.kept hg (row_ne_row Ro3 Ro6 (by omega))
  replace o4 := o4.kept hg (row_ne_row Ro4 Ro6 (by omega))
  replace o5 := o5.kept hg (row_ne_row Ro5 Ro6 (by omega))
  replace o7 := o7.kept hg (row_ne_row Ro7 Ro6 (by omega))
  replace o8 := o8.kept hg (row_ne_row Ro8 Ro6 (by omega))
  replace o9 := o9.kept hg (row_ne_row Ro9 Ro6 (by omega))
  replace o13 := o13.kept hg (row_ne_row Ro13 Ro6 (by omega))
  replace o15 := o15.kept hg (row_ne_row Ro15 Ro6 (by omega))
  replace B := below_mark B B.size hg Ro6 (by omega)
  have s16 : w16.heap.size ≤ w17.heap.size := hg.size
  clear hg
  go_wp2_with fail
  refine (markInt64S_own _ _ _ _ _ _ _ (by have := hn1; omega) (by omega) (by omega) rfl o7).mono ?_
  clear o7
  rintro e w18 ⟨rfl, o7, hg⟩
  replace c0 := hg.cell (a := ⟨w.heap.size, 0, none⟩) c0 (row_ne_box (b := w.heap.size) Ro7 (by omega))
  replace l0 : w.heap.size < w18.heap.size := Nat.lt_of_lt_of_le l0 hg.size
  replace cxy6 := hg.cell (a := ⟨w6.heap.size, 0, none⟩) cxy6 (row_ne_box (b := w6.heap.size) Ro7 (by omega))
  replace lxy6 : w6.heap.size < w18.heap.size := Nat.lt_of_lt_of_le lxy6 hg.size
  replace o2 := o2.kept hg (row_ne_row Ro2 Ro7 (by omega))
  replace o3 := o3.kept hg (row_ne_row Ro3 Ro7 (by omega))
  replace o4 := o4.kept hg (row_ne_row Ro4 Ro7 (by omega))
  replace o5 := o5.kept hg (row_ne_row Ro5 Ro7 (by omega))
  replace o6 := o6.kept hg (row_ne_row Ro6 Ro7 (by omega))
  replace o8 := o8.kept hg (row_ne_row Ro8 Ro7 (by omega))
  replace o9 := o9.kept hg (row_ne_row Ro9 Ro7 (by omega))
  replace o13 := o13.kept hg (row_ne_row Ro13 Ro7 (by omega))
  replace o15 := o15.kept hg (row_ne_row Ro15 Ro7 (by omega))
  replace B := below_mark B B.size hg Ro7 (by omega)
  have s17 : w17.heap.size ≤ w18.heap.size := hg.size
  clear hg
  go_wp2_with fail
  refine (markInt64S_own _ _ _ _ _ _ _ (by have := hn2; omega) (by omega) (by omega) rfl o8).mono ?_
  clear o8
  rintro e w19 ⟨rfl, o8, hg⟩
  replace c0 := hg.cell (a := ⟨w.heap.size, 0, none⟩) c0 (row_ne_box (b := w.heap.size) Ro8 (by omega))
  replace l0 : w.heap.size < w19.heap.size := Nat.lt_of_lt_of_le l0 hg.size
  replace cxy6 := hg.cell (a := ⟨w6.heap.size, 0, none⟩) cxy6 (row_ne_box (b := w6.heap.size) Ro8 (by omega))
  replace lxy6 : w6.heap.size < w19.heap.size := Nat.lt_of_lt_of_le lxy6 hg.size
  replace o2 := o2.kept hg (row_ne_row Ro2 Ro8 (by omega))
  replace o3 := o3.kept hg (row_ne_row Ro3 Ro8 (by omega))
  replace o4 := o4.kept hg (row_ne_row Ro4 Ro8 (by omega))
  replace o5 := o5.kept hg (row_ne_row Ro5 Ro8 (by omega))
  replace o6 := o6.kept hg (row_ne_row Ro6 Ro8 (by omega))
  replace o7 := o7.kept hg (row_ne_row Ro7 Ro8 (by omega))
  replace o9 := o9.kept hg (row_ne_row Ro9 Ro8 (by omega))
  replace o13 := o13.kept hg (row_ne_row Ro13 Ro8 (by omega))
  replace o15 := o15.kept hg (row_ne_row Ro15 Ro8 (by omega))
  replace B := below_mark B B.size hg Ro8 (by omega)
  have s18 : w18.heap.size ≤ w19.heap.size := hg.size
  clear hg
  go_wp2_with fail
  refine (eqInt64S_same _ _ (vWr S0 S1 S2 a3) _ _ _ (by have := vWr_len S0 S1 S2 a3; omega) (own_ints o9) (own_ints o5)).mono ?_
  rintro e w20 ⟨rfl, hb⟩
  replace c0 := kept_cell hb c0 l0
  replace l0 := lt_of_below hb l0
  replace cxy6 := kept_cell hb cxy6 lxy6
  replace lxy6 := lt_of_below hb lxy6
  replace o2 := o2.below hb
  replace o3 := o3.below hb
  replace o4 := o4.below hb
  replace o5 := o5.below hb
  replace o6 := o6.below hb
  replace o7 := o7.below hb
  replace o8 := o8.below hb
  replace o9 := o9.below hb
  replace o13 := o13.below hb
  replace o15 := o15.below hb
  replace B := B.trans (hb.mono B.size)
  have s19 : w19.heap.size ≤ w20.heap.size := hb.size
  clear hb
  go_wp2_with fail
  refine (markInt64S_own _ _ _ _ _ _ _ (by have := vWr_len S0 S1 S2 a3; omega) (by omega) (by omega) rfl o9).mono ?_
  clear o9
  rintro e w21 ⟨rfl, o9, hg⟩
  replace c0 := hg.cell (a := ⟨w.heap.size, 0, none⟩) c0 (row_ne_box (b := w.heap.size) Ro9 (by omega))
  replace l0 : w.heap.size < w21.heap.size := Nat.lt_of_lt_of_le l0 hg.size
  replace cxy6 := hg.cell (a := ⟨w6.heap.size, 0, none⟩) cxy6 (row_ne_box (b := w6.heap.size) Ro9 (by omega))
  replace lxy6 : w6.heap.size < w21.heap.size := Nat.lt_of_lt_of_le lxy6 hg.size
  replace o2 := o2.kept hg (row_ne_row Ro2 Ro9 (by omega))
  replace o3 := o3.kept hg (row_ne_row Ro3 Ro9 (by omega))
  replace o4 := o4.kept hg (row_ne_row Ro4 Ro9 (by omega))
  replace o5 := o5.kept hg (row_ne_row Ro5 Ro9 (by omega))
  replace o6 := o6.kept hg (row_ne_row Ro6 Ro9 (by omega))
  replace o7 := o7.kept hg (row_ne_row Ro7 Ro9 (by omega))
  replace o8 := o8.kept hg (row_ne_row Ro8 Ro9 (by omega))
  replace o13 := o13.kept hg (row_ne_row Ro13 Ro9 (by omega))
  replace o15 := o15.kept hg (row_ne_row Ro15 Ro9 (by omega))
  replace B := below_mark B B.size hg Ro9 (by omega)
  have s20 : w20.heap.size ≤ w21.heap.size := hg.size
  clear hg
  go_wp2_with fail
  refine (heldInt64S_any _ _ _ 1 _ (by have := vWr_len S0 S1 S2 a3; omega) (by omega) (by omega) (own_ints o9)).mono ?_
  rintro e wz ⟨rfl, rfl⟩
  go_wp2_with fail
  refine (toSpace_any ao0 S0 cap0 _ (by omega) (hS0.below B)).mono ?_
  rintro e w22 ⟨b22, rfl, o22, hb⟩
  replace c0 := kept_cell hb c0 l0
  replace l0 := lt_of_below hb l0
  replace cxy6 := kept_cell hb cxy6 lxy6
  replace lxy6 := lt_of_below hb lxy6
  replace o2 := o2.below hb
  replace o3 := o3.below hb
  replace o4 := o4.below hb
  replace o5 := o5.below hb
  replace o6 := o6.below hb
  replace o7 := o7.below hb
  replace o8 := o8.below hb
  replace o9 := o9.below hb
  replace o13 := o13.below hb
  replace o15 := o15.below hb
  replace B := B.trans (hb.mono B.size)
  have s21 : w21.heap.size ≤ w22.heap.size := hb.size
  replace o22 := o22.rebase (base' := w21.heap.size) (by simp)
  have Ro22 : RowIn (.slice (some ⟨b22, 0, none⟩) S0.length S0.length) (w21.heap.size) w22.heap.size := o22.rowIn
  clear hb
  go_wp2_with fail
  refine (toInt64S_any ao1 S1 cap1 _ (by omega) (hS1.below B)).mono ?_
  rintro e w23 ⟨b23, rfl, o23, hb⟩
  replace c0 := kept_cell hb c0 l0
  replace l0 := lt_of_below hb l0
  replace cxy6 := kept_cell hb cxy6 lxy6
  replace lxy6 := lt_of_below hb lxy6
  replace o2 := o2.below hb
  replace o3 := o3.below hb
  replace o4 := o4.below hb
  replace o5 := o5.below hb
  replace o6 := o6.below hb
  replace o7 := o7.below hb
  replace o8 := o8.below hb
  replace o9 := o9.below hb
  replace o13 := o13.below hb
  replace o15 := o15.below hb
  replace o22 := o22.below hb
  replace B := B.trans (hb.mono B.size)
  have s22 : w22.heap.size ≤ w23.heap.size := hb.size
  replace o23 := o23.rebase (base' := w22.heap.size) (by simp)
  have Ro23 : RowIn (.slice (some ⟨b23, 0, none⟩) S1.length S1.length) (w22.heap.size) w23.heap.size := o23.rowIn
  clear hb
  go_wp2_with fail
  refine (toInt64S_any ao2 S2 cap2 _ (by omega) (hS2.below B)).mono ?_
  rintro e w24 ⟨b24, rfl, o24, hb⟩
  replace c0 := kept_cell hb c0 l0
  replace l0 := lt_of_below hb l0
  replace cxy6 := kept_cell hb cxy6 lxy6
  replace lxy6 := lt_of_below hb lxy6
  replace o2 := o2.below hb
  replace o3 := o3.below hb
  replace o4 := o4.below hb
  replace o5 := o5.below hb
  replace o6 := o6.below hb
  replace o7 := o7.below hb
  replace o8 := o8.below hb
  replace o9 := o9.below hb
  replace o13 := o13.below hb
  replace o15 := o15.below hb
  replace o22 := o22.below hb
  replace o23 := o23.below hb
  replace B := B.trans (hb.mono B.size)
  have s23 : w23.heap.size ≤ w24.heap.size := hb.size
  replace o24 := o24.rebase (base' := w23.heap.size) (by simp)
  have Ro24 : RowIn (.slice (some ⟨b24, 0, none⟩) S2.length S2.length) (w23.heap.size) w24.heap.size := o24.rowIn
  clear hb
  go_wp2_with fail
  refine (impl_WordsReached _ S0 _ (by omega) _ S1 _ (by omega) _ S2 _ (by omega) a3 ha3 _ (own_ints o22) (own_ints o23) (own_ints o24)).mono ?_
  rintro e w25 ⟨v25, rfl, o25, hb⟩
  replace c0 := kept_cell hb c0 l0
  replace l0 := lt_of_below hb l0
  replace cxy6 := kept_cell hb cxy6 lxy6
  replace lxy6 := lt_of_below hb lxy6
  replace o2 := o2.below hb
  replace o3 := o3.below hb
  replace o4 := o4.below hb
  replace o5 := o5.below hb
  replace o6 := o6.below hb
  replace o7 := o7.below hb
  replace o8 := o8.below hb
  replace o9 := o9.below hb
  replace o13 := o13.below hb
  replace o15 := o15.below hb
  replace o22 := o22.below hb
  replace o23 := o23.below hb
  replace o24 := o24.below hb
  replace B := B.trans (hb.mono B.size)
  have s24 : w24.heap.size ≤ w25.heap.size := hb.size
  obtain ⟨a_25, k_25, hv⟩ := o25.shape
  subst hv
  replace o25 := o25.rebase (base' := w24.heap.size) (by simp)
  have Ro25 : RowIn (.slice a_25 (vWr S0 S1 S2 a3).length k_25) (w24.heap.size) w25.heap.size := o25.rowIn
  clear hb
  go_wp2_with fail
  refine (eqInt64S_same _ _ (vWr S0 S1 S2 a3) _ _ _ (by have := vWr_len S0 S1 S2 a3; omega) (own_ints o25) (own_ints o5)).mono ?_
  rintro e w26 ⟨rfl, hb⟩
  replace c0 := kept_cell hb c0 l0
  replace l0 := lt_of_below hb l0
  replace cxy6 := kept_cell hb cxy6 lxy6
  replace lxy6 := lt_of_below hb lxy6
  replace o2 := o2.below hb
  replace o3 := o3.below hb
  replace o4 := o4.below hb
  replace o5 := o5.below hb
  replace o6 := o6.below hb
  replace o7 := o7.below hb
  replace o8 := o8.below hb
  replace o9 := o9.below hb
  replace o13 := o13.below hb
  replace o15 := o15.below hb
  replace o22 := o22.below hb
  replace o23 := o23.below hb
  replace o24 := o24.below hb
  replace o25 := o25.below hb
  replace B := B.trans (hb.mono B.size)
  have s25 : w25.heap.size ≤ w26.heap.size := hb.size
  clear hb
  go_wp2_with fail
  refine (heldInt64S_any _ _ _ 1 _ (by have := vWr_len S0 S1 S2 a3; omega) (by omega) (by omega) (own_ints o9)).mono ?_
  rintro e wz ⟨rfl, rfl⟩
  go_wp2_with fail
  go_ret
  exact ⟨rfl, B⟩

theorem law_WordsReached (ao0 : Option Addr) (S0 : List Int) (cap0 : Nat) (hn0 : S0.length ≤ 9223372036854775807) (ao1 : Option Addr) (S1 : List Int) (cap1 : Nat) (hn1 : S1.length ≤ 9223372036854775807) (ao2 : Option Addr) (S2 : List Int) (cap2 : Nat) (hn2 : S2.length ≤ 9223372036854775807) (a3 : Int) (ha3 : -9223372036854775808 ≤ a3 ∧ a3 ≤ 9223372036854775807) (w : World) (hS0 : Ints w ao0 S0) (hS1 : Ints w ao1 S1) (hS2 : Ints w ao2 S2) :
    Calls Try.prog 10 #[.agg #[.slice ao0 S0.length cap0], .slice ao1 S1.length cap1, .slice ao2 S2.length cap2, .int .i64 a3] w fun e w' => e = .returned (.bool true) ∧ Below w.heap.size w w' := by
  by_cases hk0 : S1.length ≤ 1048576
  case neg => exact law_WordsReached_neg0 ao0 S0 cap0 hn0 ao1 S1 cap1 hn1 ao2 S2 cap2 hn2 a3 ha3 w hS0 hS1 hS2  (by omega)
  by_cases hk1 : S2.length ≤ 1048576
  case neg => exact law_WordsReached_neg1 ao0 S0 cap0 hn0 ao1 S1 cap1 hn1 ao2 S2 cap2 hn2 a3 ha3 w hS0 hS1 hS2 hk0 (by omega)
  by_cases hk2 : (S0.length : Int) ≤ 1048576
  case neg => exact law_WordsReached_neg2 ao0 S0 cap0 hn0 ao1 S1 cap1 hn1 ao2 S2 cap2 hn2 a3 ha3 w hS0 hS1 hS2 hk0 hk1 (by omega)
  exact law_WordsReached_main ao0 S0 cap0 hn0 ao1 S1 cap1 hn1 ao2 S2 cap2 hn2 a3 ha3 w hS0 hS1 hS2 hk0 hk1 hk2

end Go.Proofs.Ytfgpenldeckoaaa
