/-
  CodeByColumns answers as its model at every argument, and leaves its arguments alone. By an AI agent.
-/
import Derived.Test.YtfgpenldeckoaaaCcS9
import Derived.Test.YtfgpenldeckoaaaCcI9
import Derived.Test.YtfgpenldeckoaaaMarkS
import Derived.Test.YtfgpenldeckoaaaMark
import Derived.Deep.RegionHeld3
namespace Go.Proofs.Ytfgpenldeckoaaa
open Go.RowKit Cv
set_option linter.unusedVariables false
set_option linter.unusedSimpArgs false

set_option maxRecDepth 100000 in
set_option maxHeartbeats 4000000 in
theorem law_CodeByColumns_neg0 (ao0 : Option Addr) (S0 : List Int) (cap0 : Nat) (hn0 : S0.length ≤ 9223372036854775807) (ao1 : Option Addr) (S1 : List Int) (cap1 : Nat) (hn1 : S1.length ≤ 9223372036854775807) (ao2 : Option Addr) (S2 : List Int) (cap2 : Nat) (hn2 : S2.length ≤ 9223372036854775807) (w : World) (hS0 : Ints w ao0 S0) (hS1 : Ints w ao1 S1) (hS2 : Ints w ao2 S2)  (hneg : 1048576 < S1.length) :
    Calls Try.prog 11 #[.agg #[.slice ao0 S0.length cap0], .slice ao1 S1.length cap1, .slice ao2 S2.length cap2] w fun e w' => e = .returned (.bool true) ∧ Below w.heap.size w w' := by
  go_enter Try.func11, Try.ntmps11
  go_wp2_with fail
  go_ret
  exact ⟨rfl, by go_grown⟩

set_option maxRecDepth 100000 in
set_option maxHeartbeats 4000000 in
theorem law_CodeByColumns_neg1 (ao0 : Option Addr) (S0 : List Int) (cap0 : Nat) (hn0 : S0.length ≤ 9223372036854775807) (ao1 : Option Addr) (S1 : List Int) (cap1 : Nat) (hn1 : S1.length ≤ 9223372036854775807) (ao2 : Option Addr) (S2 : List Int) (cap2 : Nat) (hn2 : S2.length ≤ 9223372036854775807) (w : World) (hS0 : Ints w ao0 S0) (hS1 : Ints w ao1 S1) (hS2 : Ints w ao2 S2) (hk0 : S1.length ≤ 1048576) (hneg : 1048576 < S2.length) :
    Calls Try.prog 11 #[.agg #[.slice ao0 S0.length cap0], .slice ao1 S1.length cap1, .slice ao2 S2.length cap2] w fun e w' => e = .returned (.bool true) ∧ Below w.heap.size w w' := by
  go_enter Try.func11, Try.ntmps11
  go_wp2_with fail
  go_ret
  exact ⟨rfl, by go_grown⟩

set_option maxRecDepth 100000 in
set_option maxHeartbeats 4000000 in
theorem law_CodeByColumns_neg2 (ao0 : Option Addr) (S0 : List Int) (cap0 : Nat) (hn0 : S0.length ≤ 9223372036854775807) (ao1 : Option Addr) (S1 : List Int) (cap1 : Nat) (hn1 : S1.length ≤ 9223372036854775807) (ao2 : Option Addr) (S2 : List Int) (cap2 : Nat) (hn2 : S2.length ≤ 9223372036854775807) (w : World) (hS0 : Ints w ao0 S0) (hS1 : Ints w ao1 S1) (hS2 : Ints w ao2 S2) (hk0 : S1.length ≤ 1048576) (hk1 : S2.length ≤ 1048576) (hneg : 1048576 < (S0.length : Int)) :
    Calls Try.prog 11 #[.agg #[.slice ao0 S0.length cap0], .slice ao1 S1.length cap1, .slice ao2 S2.length cap2] w fun e w' => e = .returned (.bool true) ∧ Below w.heap.size w w' := by
  have hz3 : szOf S0.length (1048576) = -1 := by unfold szOf; rw [if_pos (by omega)]
  go_enter Try.func11, Try.ntmps11
  go_wp2_with fail
  refine (szSpace_any _ _ _ _ _ hn0 (by omega) (by omega)).mono ?_
  rintro e w1 ⟨rfl, hb⟩
  have B : Below w.heap.size w w1 := Below.trans (by go_grown) (hb.mono (by simp; try omega))
  have c0 : w1.cell? ⟨w.heap.size, 0, none⟩ = some (.slice ao0 S0.length cap0) := kept_cell hb (by simp) (by simp; try omega)
  have l0 : w.heap.size < w1.heap.size := lt_of_below hb (by simp; try omega)
  have pl0 : w.heap.size < w1.heap.size := l0
  have s0 : w.heap.size ≤ w1.heap.size := B.size
  clear hb
  go_wp2_with fail
  go_ret
  exact ⟨rfl, B⟩

set_option maxRecDepth 100000 in
set_option maxHeartbeats 4000000 in
theorem law_CodeByColumns_main (ao0 : Option Addr) (S0 : List Int) (cap0 : Nat) (hn0 : S0.length ≤ 9223372036854775807) (ao1 : Option Addr) (S1 : List Int) (cap1 : Nat) (hn1 : S1.length ≤ 9223372036854775807) (ao2 : Option Addr) (S2 : List Int) (cap2 : Nat) (hn2 : S2.length ≤ 9223372036854775807) (w : World) (hS0 : Ints w ao0 S0) (hS1 : Ints w ao1 S1) (hS2 : Ints w ao2 S2) (hk0 : S1.length ≤ 1048576) (hk1 : S2.length ≤ 1048576) (hk2 : (S0.length : Int) ≤ 1048576) :
    Calls Try.prog 11 #[.agg #[.slice ao0 S0.length cap0], .slice ao1 S1.length cap1, .slice ao2 S2.length cap2] w fun e w' => e = .returned (.bool true) ∧ Below w.heap.size w w' := by
  have hz3 : szOf S0.length (1048576) = 1048576 - (S0.length : Int) := by unfold szOf; rw [if_neg (by omega)]
  have HLn0 := vCcS_len S0 S1 S2
  have HLn1 := vCcC_len S0 S1 S2
  go_enter Try.func11, Try.ntmps11
  go_wp2_with fail
  refine (szSpace_any _ _ _ _ _ hn0 (by omega) (by omega)).mono ?_
  rintro e w1 ⟨rfl, hb⟩
  have B : Below w.heap.size w w1 := Below.trans (by go_grown) (hb.mono (by simp; try omega))
  have c0 : w1.cell? ⟨w.heap.size, 0, none⟩ = some (.slice ao0 S0.length cap0) := kept_cell hb (by simp) (by simp; try omega)
  have l0 : w.heap.size < w1.heap.size := lt_of_below hb (by simp; try omega)
  have pl0 : w.heap.size < w1.heap.size := l0
  have s0 : w.heap.size ≤ w1.heap.size := B.size
  clear hb
  go_wp2_with fail
  refine (toSpace_any ao0 S0 cap0 _ (by omega) (hS0.below B)).mono ?_
  rintro e w2 ⟨b2, rfl, o2, hb⟩
  replace c0 := kept_cell hb c0 l0
  replace l0 := lt_of_below hb l0
  replace B := B.trans (hb.mono B.size)
  have s1 : w1.heap.size ≤ w2.heap.size := hb.size
  replace o2 := o2.rebase (base' := w1.heap.size) (by simp)
  have Ro2 : RowIn (.slice (some ⟨b2, 0, none⟩) S0.length S0.length) (w1.heap.size) w2.heap.size := o2.rowIn
  clear hb
  go_wp2_with fail
  refine (toInt64S_any ao1 S1 cap1 _ (by omega) (hS1.below B)).mono ?_
  rintro e w3 ⟨b3, rfl, o3, hb⟩
  replace c0 := kept_cell hb c0 l0
  replace l0 := lt_of_below hb l0
  replace o2 := o2.below hb
  replace B := B.trans (hb.mono B.size)
  have s2 : w2.heap.size ≤ w3.heap.size := hb.size
  replace o3 := o3.rebase (base' := w2.heap.size) (by simp)
  have Ro3 : RowIn (.slice (some ⟨b3, 0, none⟩) S1.length S1.length) (w2.heap.size) w3.heap.size := o3.rowIn
  clear hb
  go_wp2_with fail
  refine (toInt64S_any ao2 S2 cap2 _ (by omega) (hS2.below B)).mono ?_
  rintro e w4 ⟨b4, rfl, o4, hb⟩
  replace c0 := kept_cell hb c0 l0
  replace l0 := lt_of_below hb l0
  replace o2 := o2.below hb
  replace o3 := o3.below hb
  replace B := B.trans (hb.mono B.size)
  have s3 : w3.heap.size ≤ w4.heap.size := hb.size
  replace o4 := o4.rebase (base' := w3.heap.size) (by simp)
  have Ro4 : RowIn (.slice (some ⟨b4, 0, none⟩) S2.length S2.length) (w3.heap.size) w4.heap.size := o4.rowIn
  clear hb
  go_wp2_with fail
  refine (spec_CodeByColumns _ S0 _ (by omega) _ S1 _ (by omega) _ S2 _ (by omega) (by omega) _ (own_ints o2) (own_ints o3) (own_ints o4)).mono ?_
  rintro e w5 ⟨m5, vs5, v5, rfl, hm5, hr5, os5, o5, hn5, hb⟩
  replace c0 := kept_cell hb c0 l0
  replace l0 := lt_of_below hb l0
  replace o2 := o2.below hb
  replace o3 := o3.below hb
  replace o4 := o4.below hb
  replace B := B.trans (hb.mono B.size)
  have s4 : w4.heap.size ≤ w5.heap.size := hb.size
  obtain ⟨as_5, ks_5, hv⟩ := os5.shape
  subst hv
  obtain ⟨a_5, k_5, hv⟩ := o5.shape
  subst hv
  have hm5' : w4.heap.size ≤ m5 := by simpa using hm5
  have Ros5 : RowIn (.slice as_5 (vCcS S0 S1 S2).length ks_5) (w4.heap.size) m5 := by simpa using hr5
  have Ro5 : RowIn (.slice a_5 (vCcC S0 S1 S2).length k_5) m5 w5.heap.size := o5.rowIn
  clear hm5 hr5
  clear hb
  have pdc0 := kept_cell ((Below.refl w5.heap.size w5).alloc (Nat.le_refl _) (.cells #[.slice as_5 (vCcS S0 S1 S2).length ks_5] 28)) c0 l0
  go_wp2_with fail
  clear pdc0
  refine (toSpace_any ao0 S0 cap0 _ (by omega) (hS0.below (B.alloc B.size _))).mono ?_
  rintro e w6 ⟨b6, rfl, o6, hb⟩
  have hq : Below w5.heap.size w5 w6 := Below.trans ((Below.refl _ w5).alloc (Nat.le_refl _) _) (hb.mono (by simp))
  replace c0 := kept_cell hq c0 l0
  replace l0 := lt_of_below hq l0
  replace o2 := o2.below hq
  replace o3 := o3.below hq
  replace o4 := o4.below hq
  replace os5 := os5.below hq
  replace o5 := o5.below hq
  replace B := B.trans (hq.mono B.size)
  have s5 : w5.heap.size ≤ w6.heap.size := hq.size
  have cz5 := kept_cell hb (cell_new w5 (.slice as_5 (vCcS S0 S1 S2).length ks_5) 28) (lt_alloc _ _)
  have lz5 := lt_of_below hb (lt_alloc w5 (.cells #[.slice as_5 (vCcS S0 S1 S2).length ks_5] 28))
  have plz5 := lz5
  replace o6 := o6.rebase (base' := w5.heap.size + 1) (by simp)
  have Ro6 : RowIn (.slice (some ⟨b6, 0, none⟩) S0.length S0.length) (w5.heap.size + 1) w6.heap.size := o6.rowIn
  clear hb hq
  have pdc0 := kept_cell ((Below.refl w6.heap.size w6).alloc (Nat.le_refl _) (.cells #[.slice (some ⟨b6, 0, none⟩) S0.length S0.length] 28)) c0 l0
  have pdcz5 := kept_cell ((Below.refl w6.heap.size w6).alloc (Nat.le_refl _) (.cells #[.slice (some ⟨b6, 0, none⟩) S0.length S0.length] 28)) cz5 lz5
  go_wp2_with fail
  clear pdc0 pdcz5
  refine (toInt64S_any ao1 S1 cap1 _ (by omega) (hS1.below (B.alloc B.size _))).mono ?_
  rintro e w7 ⟨b7, rfl, o7, hb⟩
  have hq : Below w6.heap.size w6 w7 := Below.trans ((Below.refl _ w6).alloc (Nat.le_refl _) _) (hb.mono (by simp))
  replace c0 := kept_cell hq c0 l0
  replace l0 := lt_of_below hq l0
  replace cz5 := kept_cell hq cz5 lz5
  replace lz5 := lt_of_below hq lz5
  replace o2 := o2.below hq
  replace o3 := o3.below hq
  replace o4 := o4.below hq
  replace os5 := os5.below hq
  replace o5 := o5.below hq
  replace o6 := o6.below hq
  replace B := B.trans (hq.mono B.size)
  have s6 : w6.heap.size ≤ w7.heap.size := hq.size
  have cxy6 := kept_cell hb (cell_new w6 (.slice (some ⟨b6, 0, none⟩) S0.length S0.length) 28) (lt_alloc _ _)
  have lxy6 := lt_of_below hb (lt_alloc w6 (.cells #[.slice (some ⟨b6, 0, none⟩) S0.length S0.length] 28))
  have plxy6 := lxy6
  replace o7 := o7.rebase (base' := w6.heap.size + 1) (by simp)
  have Ro7 : RowIn (.slice (some ⟨b7, 0, none⟩) S1.length S1.length) (w6.heap.size + 1) w7.heap.size := o7.rowIn
  clear hb hq
  go_wp2_with fail
  refine (toInt64S_any ao2 S2 cap2 _ (by omega) (hS2.below B)).mono ?_
  rintro e w8 ⟨b8, rfl, o8, hb⟩
  replace c0 := kept_cell hb c0 l0
  replace l0 := lt_of_below hb l0
  replace cz5 := kept_cell hb cz5 lz5
  replace lz5 := lt_of_below hb lz5
  replace cxy6 := kept_cell hb cxy6 lxy6
  replace lxy6 := lt_of_below hb lxy6
  replace o2 := o2.below hb
  replace o3 := o3.below hb
  replace o4 := o4.below hb
  replace os5 := os5.below hb
  replace o5 := o5.below hb
  replace o6 := o6.below hb
  replace o7 := o7.below hb
  replace B := B.trans (hb.mono B.size)
  have s7 : w7.heap.size ≤ w8.heap.size := hb.size
  replace o8 := o8.rebase (base' := w7.heap.size) (by simp)
  have Ro8 : RowIn (.slice (some ⟨b8, 0, none⟩) S2.length S2.length) (w7.heap.size) w8.heap.size := o8.rowIn
  clear hb
  go_wp2_with fail
  refine (impl_CodeByColumns _ S0 _ (by omega) _ S1 _ (by omega) _ S2 _ (by omega) (by omega) _ (own_ints o6) (own_ints o7) (own_ints o8)).mono ?_
  rintro e w9 ⟨m9, vs9, v9, rfl, hm9, hr9, os9, o9, hn9, hb⟩
  replace c0 := kept_cell hb c0 l0
  replace l0 := lt_of_below hb l0
  replace cz5 := kept_cell hb cz5 lz5
  replace lz5 := lt_of_below hb lz5
  replace cxy6 := kept_cell hb cxy6 lxy6
  replace lxy6 := lt_of_below hb lxy6
  replace o2 := o2.below hb
  replace o3 := o3.below hb
  replace o4 := o4.below hb
  replace os5 := os5.below hb
  replace o5 := o5.below hb
  replace o6 := o6.below hb
  replace o7 := o7.below hb
  replace o8 := o8.below hb
  replace B := B.trans (hb.mono B.size)
  have s8 : w8.heap.size ≤ w9.heap.size := hb.size
  obtain ⟨as_9, ks_9, hv⟩ := os9.shape
  subst hv
  obtain ⟨a_9, k_9, hv⟩ := o9.shape
  subst hv
  have hm9' : w8.heap.size ≤ m9 := by simpa using hm9
  have Ros9 : RowIn (.slice as_9 (vCcS S0 S1 S2).length ks_9) (w8.heap.size) m9 := by simpa using hr9
  have Ro9 : RowIn (.slice a_9 (vCcC S0 S1 S2).length k_9) m9 w9.heap.size := o9.rowIn
  clear hm9 hr9
  clear hb
  have pdc0 := kept_cell ((Below.refl w9.heap.size w9).alloc (Nat.le_refl _) (.cells #[.slice as_9 (vCcS S0 S1 S2).length ks_9] 28)) c0 l0
  have pdcz5 := kept_cell ((Below.refl w9.heap.size w9).alloc (Nat.le_refl _) (.cells #[.slice as_9 (vCcS S0 S1 S2).length ks_9] 28)) cz5 lz5
  have pdcxy6 := kept_cell ((Below.refl w9.heap.size w9).alloc (Nat.le_refl _) (.cells #[.slice as_9 (vCcS S0 S1 S2).length ks_9] 28)) cxy6 lxy6
  go_wp2_with fail
  clear pdc0 pdcz5 pdcxy6
  refine (eqSpace_same _ _ (vCcS S0 S1 S2) _ _ _ (by have := vCcS_len S0 S1 S2; omega) (own_ints (os9.alloc _)) (own_ints (os5.alloc _))).mono ?_
  rintro e w10 ⟨rfl, hb⟩
  have hq : Below w9.heap.size w9 w10 := Below.trans ((Below.refl _ w9).alloc (Nat.le_refl _) _) (hb.mono (by simp))
  replace c0 := kept_cell hq c0 l0
  replace l0 := lt_of_below hq l0
  replace cz5 := kept_cell hq cz5 lz5
  replace lz5 := lt_of_below hq lz5
  replace cxy6 := kept_cell hq cxy6 lxy6
  replace lxy6 := lt_of_below hq lxy6
  replace o2 := o2.below hq
  replace o3 := o3.below hq
  replace o4 := o4.below hq
  replace os5 := os5.below hq
  replace o5 := o5.below hq
  replace o6 := o6.below hq
  replace o7 := o7.below hq
  replace o8 := o8.below hq
  replace os9 := os9.below hq
  replace o9 := o9.below hq
  replace B := B.trans (hq.mono B.size)
  have s9 : w9.heap.size ≤ w10.heap.size := hq.size
  have cz9 := kept_cell hb (cell_new w9 (.slice as_9 (vCcS S0 S1 S2).length ks_9) 28) (lt_alloc _ _)
  have lz9 := lt_of_below hb (lt_alloc w9 (.cells #[.slice as_9 (vCcS S0 S1 S2).length ks_9] 28))
  have plz9 := lz9
  clear hb hq
  go_wp2_with fail
  refine (eqInt64S_same _ _ (vCcC S0 S1 S2) _ _ _ (by have := vCcC_len S0 S1 S2; omega) (own_ints o9) (own_ints o5)).mono ?_
  rintro e w11 ⟨rfl, hb⟩
  replace c0 := kept_cell hb c0 l0
  replace l0 := lt_of_below hb l0
  replace cz5 := kept_cell hb cz5 lz5
  replace lz5 := lt_of_below hb lz5
  replace cxy6 := kept_cell hb cxy6 lxy6
  replace lxy6 := lt_of_below hb lxy6
  replace cz9 := kept_cell hb cz9 lz9
  replace lz9 := lt_of_below hb lz9
  replace o2 := o2.below hb
  replace o3 := o3.below hb
  replace o4 := o4.below hb
  replace os5 := os5.below hb
  replace o5 := o5.below hb
  replace o6 := o6.below hb
  replace o7 := o7.below hb
  replace o8 := o8.below hb
  replace os9 := os9.below hb
  replace o9 := o9.below hb
  replace B := B.trans (hb.mono B.size)
  have s10 : w10.heap.size ≤ w11.heap.size := hb.size
  clear hb
  go_wp2_with fail
  go_region_held3 (fun w' => w'.cell? ⟨w.heap.size, 0, none⟩ = some (.slice ao0 S0.length cap0) ∧ w'.cell? ⟨w6.heap.size, 0, none⟩ = some (.slice (some ⟨b6, 0, none⟩) S0.length S0.length)) (first | exact ⟨c0, cxy6⟩ | exact ⟨kept_cell hqa c0 l0, kept_cell hqa cxy6 lxy6⟩ | exact ⟨kept_cell hqb (kept_cell hqa c0 l0) (lt_of_below hqa l0), kept_cell hqb (kept_cell hqa cxy6 lxy6) (lt_of_below hqa lxy6)⟩) (first | (go_at_call 14; refine (toSpace_any ao0 S0 cap0 _ (by omega) (hS0.below B.drew)).mono ?_; rintro e w12 ⟨bq, rfl, oq, hqa'⟩; have hqa : Below w11.heap.size w11 w12 := (Below.refl w11.heap.size w11).drew.trans hqa') | (go_at_call 18; refine (eqSpace_same _ _ S0 _ _ _ (by omega) ((own_ints o6).below hqa) (own_ints oq)).mono ?_; rintro e w13 ⟨rfl, hqb⟩))
  have hq : Below w11.heap.size w11 w13 := hqa.trans (hqb.mono hqa.size)
  replace c0 := kept_cell hq c0 l0
  replace l0 := lt_of_below hq l0
  replace cz5 := kept_cell hq cz5 lz5
  replace lz5 := lt_of_below hq lz5
  replace cxy6 := kept_cell hq cxy6 lxy6
  replace lxy6 := lt_of_below hq lxy6
  replace cz9 := kept_cell hq cz9 lz9
  replace lz9 := lt_of_below hq lz9
  replace o2 := o2.below hq
  replace o3 := o3.below hq
  replace o4 := o4.below hq
  replace os5 := os5.below hq
  replace o5 := o5.below hq
  replace o6 := o6.below hq
  replace o7 := o7.below hq
  replace o8 := o8.below hq
  replace os9 := os9.below hq
  replace o9 := o9.below hq
  replace B := B.trans (hq.mono B.size)
  have s12 : w11.heap.size ≤ w13.heap.size := hq.size
  clear hqa hqa' hqb hq oq
  go_wp2_with fail
  refine (toInt64S_any ao1 S1 cap1 _ (by omega) (hS1.below B)).mono ?_
  rintro e w14 ⟨b14, rfl, o14, hb⟩
  replace c0 := kept_cell hb c0 l0
  replace l0 := lt_of_below hb l0
  replace cz5 := kept_cell hb cz5 lz5
  replace lz5 := lt_of_below hb lz5
  replace cxy6 := kept_cell hb cxy6 lxy6
  replace lxy6 := lt_of_below hb lxy6
  replace cz9 := kept_cell hb cz9 lz9
  replace lz9 := lt_of_below hb lz9
  replace o2 := o2.below hb
  replace o3 := o3.below hb
  replace o4 := o4.below hb
  replace os5 := os5.below hb
  replace o5 := o5.below hb
  replace o6 := o6.below hb
  replace o7 := o7.below hb
  replace o8 := o8.below hb
  replace os9 := os9.below hb
  replace o9 := o9.below hb
  replace B := B.trans (hb.mono B.size)
  have s13 : w13.heap.size ≤ w14.heap.size := hb.size
  replace o14 := o14.rebase (base' := w13.heap.size) (by simp)
  have Ro14 : RowIn (.slice (some ⟨b14, 0, none⟩) S1.length S1.length) (w13.heap.size) w14.heap.size := o14.rowIn
  clear hb
  go_wp2_with fail
  refine (eqInt64S_same _ _ S1 _ _ _ (by omega) (own_ints o7) (own_ints o14)).mono ?_
  rintro e w15 ⟨rfl, hb⟩
  replace c0 := kept_cell hb c0 l0
  replace l0 := lt_of_below hb l0
  replace cz5 := kept_cell hb cz5 lz5
  replace lz5 := lt_of_below hb lz5
  replace cxy6 := kept_cell hb cxy6 lxy6
  replace lxy6 := lt_of_below hb lxy6
  replace cz9 := kept_cell hb cz9 lz9
  replace lz9 := lt_of_below hb lz9
  replace o2 := o2.below hb
  replace o3 := o3.below hb
  replace o4 := o4.below hb
  replace os5 := os5.below hb
  replace o5 := o5.below hb
  replace o6 := o6.below hb
  replace o7 := o7.below hb
  replace o8 := o8.below hb
  replace os9 := os9.below hb
  replace o9 := o9.below hb
  replace o14 := o14.below hb
  replace B := B.trans (hb.mono B.size)
  have s14 : w14.heap.size ≤ w15.heap.size := hb.size
  clear hb
  go_wp2_with fail
  refine (toInt64S_any ao2 S2 cap2 _ (by omega) (hS2.below B)).mono ?_
  rintro e w16 ⟨b16, rfl, o16, hb⟩
  replace c0 := kept_cell hb c0 l0
  replace l0 := lt_of_below hb l0
  replace cz5 := kept_cell hb cz5 lz5
  replace lz5 := lt_of_below hb lz5
  replace cxy6 := kept_cell hb cxy6 lxy6
  replace lxy6 := lt_of_below hb lxy6
  replace cz9 := kept_cell hb cz9 lz9
  replace lz9 := lt_of_below hb lz9
  replace o2 := o2.below hb
  replace o3 := o3.below hb
  replace o4 := o4.below hb
  replace os5 := os5.below hb
  replace o5 := o5.below hb
  replace o6 := o6.below hb
  replace o7 := o7.below hb
  replace o8 := o8.below hb
  replace os9 := os9.below hb
  replace o9 := o9.below hb
  replace o14 := o14.below hb
  replace B := B.trans (hb.mono B.size)
  have s15 : w15.heap.size ≤ w16.heap.size := hb.size
  replace o16 := o16.rebase (base' := w15.heap.size) (by simp)
  have Ro16 : RowIn (.slice (some ⟨b16, 0, none⟩) S2.length S2.length) (w15.heap.size) w16.heap.size := o16.rowIn
  clear hb
  go_wp2_with fail
  refine (eqInt64S_same _ _ S2 _ _ _ (by omega) (own_ints o8) (own_ints o16)).mono ?_
  rintro e w17 ⟨rfl, hb⟩
  replace c0 := kept_cell hb c0 l0
  replace l0 := lt_of_below hb l0
  replace cz5 := kept_cell hb cz5 lz5
  replace lz5 := lt_of_below hb lz5
  replace cxy6 := kept_cell hb cxy6 lxy6
  replace lxy6 := lt_of_below hb lxy6
  replace cz9 := kept_cell hb cz9 lz9
  replace lz9 := lt_of_below hb lz9
  replace o2 := o2.below hb
  replace o3 := o3.below hb
  replace o4 := o4.below hb
  replace os5 := os5.below hb
  replace o5 := o5.below hb
  replace o6 := o6.below hb
  replace o7 := o7.below hb
  replace o8 := o8.below hb
  replace os9 := os9.below hb
  replace o9 := o9.below hb
  replace o14 := o14.below hb
  replace o16 := o16.below hb
  replace B := B.trans (hb.mono B.size)
  have s16 : w16.heap.size ≤ w17.heap.size := hb.size
  clear hb
  go_wp2_with fail
  refine (markSpace_own b6 _ _ _ _ _ _ (by omega) (by omega) (by omega) rfl o6).mono ?_
  clear o6
  rintro e w18 ⟨rfl, o6, hg⟩
  replace c0 := hg.cell (a := ⟨w.heap.size, 0, none⟩) c0 (row_ne_box (b := w.heap.size) Ro6 (by omega))
  replace l0 : w.heap.size < w18.heap.size := Nat.lt_of_lt_of_le l0 hg.size
  replace cz5 := hg.cell (a := ⟨w5.heap.size, 0, none⟩) cz5 (row_ne_box (b := w5.heap.size) Ro6 (by omega))
  replace lz5 : w5.heap.size < w18.heap.size := Nat.lt_of_lt_of_le lz5 hg.size
  replace cxy6 := hg.cell (a := ⟨w6.heap.size, 0, none⟩) cxy6 (row_ne_box (b := w6.heap.size) Ro6 (by omega))
  replace lxy6 : w6.heap.size < w18.heap.size := Nat.lt_of_lt_of_le lxy6 hg.size
  replace cz9 := hg.cell (a := ⟨w9.heap.size, 0, none⟩) cz9 (row_ne_box (b := w9.heap.size) Ro6 (by omega))
  replace lz9 : w9.heap.size < w18.heap.size := Nat.lt_of_lt_of_le lz9 hg.size
  replace o2 := o2.kept hg (row_ne_row Ro2 Ro6 (by omega))
  replace o3 := o3.kept hg (row_ne_row Ro3 Ro6 (by omega))
  replace o4 := o4.kept hg (row_ne_row Ro4 Ro6 (by omega))
  replace os5 := os5.kept hg (row_ne_row Ros5 Ro6 (by omega))
  replace o5 := o5.kept hg (row_ne_row Ro5 Ro6 (by omega))
  replace o7 := o7.kept hg (row_ne_row Ro7 Ro6 (by omega))
  replace o8 := o8.kept hg (row_ne_row Ro8 Ro6 (by omega))
  replace os9 := os9.kept hg (row_ne_row Ros9 Ro6 (by omega))
  replace o9 := o9.kept hg (row_ne_row Ro9 Ro6 (by omega))
  replace o14 := o14.kept hg (row_ne_row Ro14 Ro6 (by omega))
  replace o16 := o16.kept hg (row_ne_row Ro16 Ro6 (by omega))
  replace B := below_mark B B.size hg Ro6 (by omega)
  have s17 : w17.heap.size ≤ w18.heap.size := hg.size
  clear hg
  go_wp2_with fail
  refine (markInt64S_own _ _ _ _ _ _ _ (by have := hn1; omega) (by omega) (by omega) rfl o7).mono ?_
  clear o7
  rintro e w19 ⟨rfl, o7, hg⟩
  replace c0 := hg.cell (a := ⟨w.heap.size, 0, none⟩) c0 (row_ne_box (b := w.heap.size) Ro7 (by omega))
  replace l0 : w.heap.size < w19.heap.size := Nat.lt_of_lt_of_le l0 hg.size
  replace cz5 := hg.cell (a := ⟨w5.heap.size, 0, none⟩) cz5 (row_ne_box (b := w5.heap.size) Ro7 (by omega))
  replace lz5 : w5.heap.size < w19.heap.size := Nat.lt_of_lt_of_le lz5 hg.size
  replace cxy6 := hg.cell (a := ⟨w6.heap.size, 0, none⟩) cxy6 (row_ne_box (b := w6.heap.size) Ro7 (by omega))
  replace lxy6 : w6.heap.size < w19.heap.size := Nat.lt_of_lt_of_le lxy6 hg.size
  replace cz9 := hg.cell (a := ⟨w9.heap.size, 0, none⟩) cz9 (row_ne_box (b := w9.heap.size) Ro7 (by omega))
  replace lz9 : w9.heap.size < w19.heap.size := Nat.lt_of_lt_of_le lz9 hg.size
  replace o2 := o2.kept hg (row_ne_row Ro2 Ro7 (by omega))
  replace o3 := o3.kept hg (row_ne_row Ro3 Ro7 (by omega))
  replace o4 := o4.kept hg (row_ne_row Ro4 Ro7 (by omega))
  replace os5 := os5.kept hg (row_ne_row Ros5 Ro7 (by omega))
  replace o5 := o5.kept hg (row_ne_row Ro5 Ro7 (by omega))
  replace o6 := o6.kept hg (row_ne_row Ro6 Ro7 (by omega))
  replace o8 := o8.kept hg (row_ne_row Ro8 Ro7 (by omega))
  replace os9 := os9.kept hg (row_ne_row Ros9 Ro7 (by omega))
  replace o9 := o9.kept hg (row_ne_row Ro9 Ro7 (by omega))
  replace o14 := o14.kept hg (row_ne_row Ro14 Ro7 (by omega))
  replace o16 := o16.kept hg (row_ne_row Ro16 Ro7 (by omega))
  replace B := below_mark B B.size hg Ro7 (by omega)
  have s18 : w18.heap.size ≤ w19.heap.size := hg.size
  clear hg
  go_wp2_with fail
  refine (markInt64S_own _ _ _ _ _ _ _ (by have := hn2; omega) (by omega) (by omega) rfl o8).mono ?_
  clear o8
  rintro e w20 ⟨rfl, o8, hg⟩
  replace c0 := hg.cell (a := ⟨w.heap.size, 0, none⟩) c0 (row_ne_box (b := w.heap.size) Ro8 (by omega))
  replace l0 : w.heap.size < w20.heap.size := Nat.lt_of_lt_of_le l0 hg.size
  replace cz5 := hg.cell (a := ⟨w5.heap.size, 0, none⟩) cz5 (row_ne_box (b := w5.heap.size) Ro8 (by omega))
  replace lz5 : w5.heap.size < w20.heap.size := Nat.lt_of_lt_of_le lz5 hg.size
  replace cxy6 := hg.cell (a := ⟨w6.heap.size, 0, none⟩) cxy6 (row_ne_box (b := w6.heap.size) Ro8 (by omega))
  replace lxy6 : w6.heap.size < w20.heap.size := Nat.lt_of_lt_of_le lxy6 hg.size
  replace cz9 := hg.cell (a := ⟨w9.heap.size, 0, none⟩) cz9 (row_ne_box (b := w9.heap.size) Ro8 (by omega))
  replace lz9 : w9.heap.size < w20.heap.size := Nat.lt_of_lt_of_le lz9 hg.size
  replace o2 := o2.kept hg (row_ne_row Ro2 Ro8 (by omega))
  replace o3 := o3.kept hg (row_ne_row Ro3 Ro8 (by omega))
  replace o4 := o4.kept hg (row_ne_row Ro4 Ro8 (by omega))
  replace os5 := os5.kept hg (row_ne_row Ros5 Ro8 (by omega))
  replace o5 := o5.kept hg (row_ne_row Ro5 Ro8 (by omega))
  replace o6 := o6.kept hg (row_ne_row Ro6 Ro8 (by omega))
  replace o7 := o7.kept hg (row_ne_row Ro7 Ro8 (by omega))
  replace os9 := os9.kept hg (row_ne_row Ros9 Ro8 (by omega))
  replace o9 := o9.kept hg (row_ne_row Ro9 Ro8 (by omega))
  replace o14 := o14.kept hg (row_ne_row Ro14 Ro8 (by omega))
  replace o16 := o16.kept hg (row_ne_row Ro16 Ro8 (by omega))
  replace B := below_mark B B.size hg Ro8 (by omega)
  have s19 : w19.heap.size ≤ w20.heap.size := hg.size
  clear hg
  go_wp2_with fail
  refine (eqSpace_same _ _ (vCcS S0 S1 S2) _ _ _ (by have := vCcS_len S0 S1 S2; omega) (own_ints os9) (own_ints os5)).mono ?_
  rintro e w21 ⟨rfl, hb⟩
  replace c0 := kept_cell hb c0 l0
  replace l0 := lt_of_below hb l0
  replace cz5 := kept_cell hb cz5 lz5
  replace lz5 := lt_of_below hb lz5
  replace cxy6 := kept_cell hb cxy6 lxy6
  replace lxy6 := lt_of_below hb lxy6
  replace cz9 := kept_cell hb cz9 lz9
  replace lz9 := lt_of_below hb lz9
  replace o2 := o2.below hb
  replace o3 := o3.below hb
  replace o4 := o4.below hb
  replace os5 := os5.below hb
  replace o5 := o5.below hb
  replace o6 := o6.below hb
  replace o7 := o7.below hb
  replace o8 := o8.below hb
  replace os9 := os9.below hb
  replace o9 := o9.below hb
  replace o14 := o14.below hb
  replace o16 := o16.below hb
  replace B := B.trans (hb.mono B.size)
  have s20 : w20.heap.size ≤ w21.heap.size := hb.size
  clear hb
  go_wp2_with fail
  refine (eqInt64S_same _ _ (vCcC S0 S1 S2) _ _ _ (by have := vCcC_len S0 S1 S2; omega) (own_ints o9) (own_ints o5)).mono ?_
  rintro e w22 ⟨rfl, hb⟩
  replace c0 := kept_cell hb c0 l0
  replace l0 := lt_of_below hb l0
  replace cz5 := kept_cell hb cz5 lz5
  replace lz5 := lt_of_below hb lz5
  replace cxy6 := kept_cell hb cxy6 lxy6
  replace lxy6 := lt_of_below hb lxy6
  replace cz9 := kept_cell hb cz9 lz9
  replace lz9 := lt_of_below hb lz9
  replace o2 := o2.below hb
  replace o3 := o3.below hb
  replace o4 := o4.below hb
  replace os5 := os5.below hb
  replace o5 := o5.below hb
  replace o6 := o6.below hb
  replace o7 := o7.below hb
  replace o8 := o8.below hb
  replace os9 := os9.below hb
  replace o9 := o9.below hb
  replace o14 := o14.below hb
  replace o16 := o16.below hb
  replace B := B.trans (hb.mono B.size)
  have s21 : w21.heap.size ≤ w22.heap.size := hb.size
  clear hb
  go_wp2_with fail
  refine (markSpace_gen _ _ _ _ _ _ _ (by have := vCcS_len S0 S1 S2; omega) (by omega) (by omega) rfl os9).mono ?_
  clear os9
  rintro e w23 ⟨rfl, os9, hg⟩
  replace c0 := hg.cell (a := ⟨w.heap.size, 0, none⟩) c0 (row_ne_box (b := w.heap.size) Ros9 (by omega))
  replace l0 : w.heap.size < w23.heap.size := Nat.lt_of_lt_of_le l0 hg.size
  replace cz5 := hg.cell (a := ⟨w5.heap.size, 0, none⟩) cz5 (row_ne_box (b := w5.heap.size) Ros9 (by omega))
  replace lz5 : w5.heap.size < w23.heap.size := Nat.lt_of_lt_of_le lz5 hg.size
  replace cxy6 := hg.cell (a := ⟨w6.heap.size, 0, none⟩) cxy6 (row_ne_box (b := w6.heap.size) Ros9 (by omega))
  replace lxy6 : w6.heap.size < w23.heap.size := Nat.lt_of_lt_of_le lxy6 hg.size
  replace cz9 := hg.cell (a := ⟨w9.heap.size, 0, none⟩) cz9 (row_ne_box (b := w9.heap.size) Ros9 (by omega))
  replace lz9 : w9.heap.size < w23.heap.size := Nat.lt_of_lt_of_le lz9 hg.size
  replace o2 := o2.kept hg (row_ne_row Ro2 Ros9 (by omega))
  replace o3 := o3.kept hg (row_ne_row Ro3 Ros9 (by omega))
  replace o4 := o4.kept hg (row_ne_row Ro4 Ros9 (by omega))
  replace os5 := os5.kept hg (row_ne_row Ros5 Ros9 (by omega))
  replace o5 := o5.kept hg (row_ne_row Ro5 Ros9 (by omega))
  replace o6 := o6.kept hg (row_ne_row Ro6 Ros9 (by omega))
  replace o7 := o7.kept hg (row_ne_row Ro7 Ros9 (by omega))
  replace o8 := o8.kept hg (row_ne_row Ro8 Ros9 (by omega))
  replace o9 := o9.kept hg (row_ne_row Ro9 Ros9 (by omega))
  replace o14 := o14.kept hg (row_ne_row Ro14 Ros9 (by omega))
  replace o16 := o16.kept hg (row_ne_row Ro16 Ros9 (by omega))
  replace B := below_mark B B.size hg Ros9 (by omega)
  have s22 : w22.heap.size ≤ w23.heap.size := hg.size
  clear hg
  go_wp2_with fail
  refine (markInt64S_own _ _ _ _ _ _ _ (by have := vCcC_len S0 S1 S2; omega) (by omega) (by omega) rfl o9).mono ?_
  clear o9
  rintro e w24 ⟨rfl, o9, hg⟩
  replace c0 := hg.cell (a := ⟨w.heap.size, 0, none⟩) c0 (row_ne_box (b := w.heap.size) Ro9 (by omega))
  replace l0 : w.heap.size < w24.heap.size := Nat.lt_of_lt_of_le l0 hg.size
  replace cz5 := hg.cell (a := ⟨w5.heap.size, 0, none⟩) cz5 (row_ne_box (b := w5.heap.size) Ro9 (by omega))
  replace lz5 : w5.heap.size < w24.heap.size := Nat.lt_of_lt_of_le lz5 hg.size
  replace cxy6 := hg.cell (a := ⟨w6.heap.size, 0, none⟩) cxy6 (row_ne_box (b := w6.heap.size) Ro9 (by omega))
  replace lxy6 : w6.heap.size < w24.heap.size := Nat.lt_of_lt_of_le lxy6 hg.size
  replace cz9 := hg.cell (a := ⟨w9.heap.size, 0, none⟩) cz9 (row_ne_box (b := w9.heap.size) Ro9 (by omega))
  replace lz9 : w9.heap.size < w24.heap.size := Nat.lt_of_lt_of_le lz9 hg.size
  replace o2 := o2.kept hg (row_ne_row Ro2 Ro9 (by omega))
  replace o3 := o3.kept hg (row_ne_row Ro3 Ro9 (by omega))
  replace o4 := o4.kept hg (row_ne_row Ro4 Ro9 (by omega))
  replace os5 := os5.kept hg (row_ne_row Ros5 Ro9 (by omega))
  replace o5 := o5.kept hg (row_ne_row Ro5 Ro9 (by omega))
  replace o6 := o6.kept hg (row_ne_row Ro6 Ro9 (by omega))
  replace o7 := o7.kept hg (row_ne_row Ro7 Ro9 (by omega))
  replace o8 := o8.kept hg (row_ne_row Ro8 Ro9 (by omega))
  replace os9 := os9.kept hg (row_ne_row Ros9 Ro9 (by omega))
  replace o14 := o14.kept hg (row_ne_row Ro14 Ro9 (by omega))
  replace o16 := o16.kept hg (row_ne_row Ro16 Ro9 (by omega))
  replace B := below_mark B B.size hg Ro9 (by omega)
  have s23 : w23.heap.size ≤ w24.heap.size := hg.size
  clear hg
  go_wp2_with fail
  refine (heldSpace_any _ _ _ _ _ (by have := vCcS_len S0 S1 S2; omega) (by omega) (by omega) (own_ints os9)).mono ?_
  rintro e w25 ⟨rfl, hb⟩
  replace c0 := kept_cell hb c0 l0
  replace l0 := lt_of_below hb l0
  replace cz5 := kept_cell hb cz5 lz5
  replace lz5 := lt_of_below hb lz5
  replace cxy6 := kept_cell hb cxy6 lxy6
  replace lxy6 := lt_of_below hb lxy6
  replace cz9 := kept_cell hb cz9 lz9
  replace lz9 := lt_of_below hb lz9
  replace o2 := o2.below hb
  replace o3 := o3.below hb
  replace o4 := o4.below hb
  replace os5 := os5.below hb
  replace o5 := o5.below hb
  replace o6 := o6.below hb
  replace o7 := o7.below hb
  replace o8 := o8.below hb
  replace os9 := os9.below hb
  replace o9 := o9.below hb
  replace o14 := o14.below hb
  replace o16 := o16.below hb
  replace B := B.trans (hb.mono B.size)
  have s24 : w24.heap.size ≤ w25.heap.size := hb.size
  clear hb
  go_wp2_with fail
  refine (heldInt64S_any _ _ _ _ _ (by have := vCcC_len S0 S1 S2; omega) (by omega) (by omega) (own_ints o9)).mono ?_
  rintro e wz ⟨rfl, rfl⟩
  go_wp2_with fail
  refine (toSpace_any ao0 S0 cap0 _ (by omega) (hS0.below B)).mono ?_
  rintro e w26 ⟨b26, rfl, o26, hb⟩
  replace c0 := kept_cell hb c0 l0
  replace l0 := lt_of_below hb l0
  replace cz5 := kept_cell hb cz5 lz5
  replace lz5 := lt_of_below hb lz5
  replace cxy6 := kept_cell hb cxy6 lxy6
  replace lxy6 := lt_of_below hb lxy6
  replace cz9 := kept_cell hb cz9 lz9
  replace lz9 := lt_of_below hb lz9
  replace o2 := o2.below hb
  replace o3 := o3.below hb
  replace o4 := o4.below hb
  replace os5 := os5.below hb
  replace o5 := o5.below hb
  replace o6 := o6.below hb
  replace o7 := o7.below hb
  replace o8 := o8.below hb
  replace os9 := os9.below hb
  replace o9 := o9.below hb
  replace o14 := o14.below hb
  replace o16 := o16.below hb
  replace B := B.trans (hb.mono B.size)
  have s25 : w25.heap.size ≤ w26.heap.size := hb.size
  replace o26 := o26.rebase (base' := w25.heap.size) (by simp)
  have Ro26 : RowIn (.slice (some ⟨b26, 0, none⟩) S0.length S0.length) (w25.heap.size) w26.heap.size := o26.rowIn
  clear hb
  go_wp2_with fail
  refine (toInt64S_any ao1 S1 cap1 _ (by omega) (hS1.below B)).mono ?_
  rintro e w27 ⟨b27, rfl, o27, hb⟩
  replace c0 := kept_cell hb c0 l0
  replace l0 := lt_of_below hb l0
  replace cz5 := kept_cell hb cz5 lz5
  replace lz5 := lt_of_below hb lz5
  replace cxy6 := kept_cell hb cxy6 lxy6
  replace lxy6 := lt_of_below hb lxy6
  replace cz9 := kept_cell hb cz9 lz9
  replace lz9 := lt_of_below hb lz9
  replace o2 := o2.below hb
  replace o3 := o3.below hb
  replace o4 := o4.below hb
  replace os5 := os5.below hb
  replace o5 := o5.below hb
  replace o6 := o6.below hb
  replace o7 := o7.below hb
  replace o8 := o8.below hb
  replace os9 := os9.below hb
  replace o9 := o9.below hb
  replace o14 := o14.below hb
  replace o16 := o16.below hb
  replace o26 := o26.below hb
  replace B := B.trans (hb.mono B.size)
  have s26 : w26.heap.size ≤ w27.heap.size := hb.size
  replace o27 := o27.rebase (base' := w26.heap.size) (by simp)
  have Ro27 : RowIn (.slice (some ⟨b27, 0, none⟩) S1.length S1.length) (w26.heap.size) w27.heap.size := o27.rowIn
  clear hb
  go_wp2_with fail
  refine (toInt64S_any ao2 S2 cap2 _ (by omega) (hS2.below B)).mono ?_
  rintro e w28 ⟨b28, rfl, o28, hb⟩
  replace c0 := kept_cell hb c0 l0
  replace l0 := lt_of_below hb l0
  replace cz5 := kept_cell hb cz5 lz5
  replace lz5 := lt_of_below hb lz5
  replace cxy6 := kept_cell hb cxy6 lxy6
  replace lxy6 := lt_of_below hb lxy6
  replace cz9 := kept_cell hb cz9 lz9
  replace lz9 := lt_of_below hb lz9
  replace o2 := o2.below hb
  replace o3 := o3.below hb
  replace o4 := o4.below hb
  replace os5 := os5.below hb
  replace o5 := o5.below hb
  replace o6 := o6.below hb
  replace o7 := o7.below hb
  replace o8 := o8.below hb
  replace os9 := os9.below hb
  replace o9 := o9.below hb
  replace o14 := o14.below hb
  replace o16 := o16.below hb
  replace o26 := o26.below hb
  replace o27 := o27.below hb
  replace B := B.trans (hb.mono B.size)
  have s27 : w27.heap.size ≤ w28.heap.size := hb.size
  replace o28 := o28.rebase (base' := w27.heap.size) (by simp)
  have Ro28 : RowIn (.slice (some ⟨b28, 0, none⟩) S2.length S2.length) (w27.heap.size) w28.heap.size := o28.rowIn
  clear hb
  go_wp2_with fail
  refine (impl_CodeByColumns _ S0 _ (by omega) _ S1 _ (by omega) _ S2 _ (by omega) (by omega) _ (own_ints o26) (own_ints o27) (own_ints o28)).mono ?_
  rintro e w29 ⟨m29, vs29, v29, rfl, hm29, hr29, os29, o29, hn29, hb⟩
  replace c0 := kept_cell hb c0 l0
  replace l0 := lt_of_below hb l0
  replace cz5 := kept_cell hb cz5 lz5
  replace lz5 := lt_of_below hb lz5
  replace cxy6 := kept_cell hb cxy6 lxy6
  replace lxy6 := lt_of_below hb lxy6
  replace cz9 := kept_cell hb cz9 lz9
  replace lz9 := lt_of_below hb lz9
  replace o2 := o2.below hb
  replace o3 := o3.below hb
  replace o4 := o4.below hb
  replace os5 := os5.below hb
  replace o5 := o5.below hb
  replace o6 := o6.below hb
  replace o7 := o7.below hb
  replace o8 := o8.below hb
  replace os9 := os9.below hb
  replace o9 := o9.below hb
  replace o14 := o14.below hb
  replace o16 := o16.below hb
  replace o26 := o26.below hb
  replace o27 := o27.below hb
  replace o28 := o28.below hb
  replace B := B.trans (hb.mono B.size)
  have s28 : w28.heap.size ≤ w29.heap.size := hb.size
  obtain ⟨as_29, ks_29, hv⟩ := os29.shape
  subst hv
  obtain ⟨a_29, k_29, hv⟩ := o29.shape
  subst hv
  have hm29' : w28.heap.size ≤ m29 := by simpa using hm29
  have Ros29 : RowIn (.slice as_29 (vCcS S0 S1 S2).length ks_29) (w28.heap.size) m29 := by simpa using hr29
  have Ro29 : RowIn (.slice a_29 (vCcC S0 S1 S2).length k_29) m29 w29.heap.size := o29.rowIn
  clear hm29 hr29
  clear hb
  have pdc0 := kept_cell ((Below.refl w29.heap.size w29).alloc (Nat.le_refl _) (.cells #[.slice as_29 (vCcS S0 S1 S2).length ks_29] 28)) c0 l0
  have pdcz5 := kept_cell ((Below.refl w29.heap.size w29).alloc (Nat.le_refl _) (.cells #[.slice as_29 (vCcS S0 S1 S2).length ks_29] 28)) cz5 lz5
  have pdcxy6 := kept_cell ((Below.refl w29.heap.size w29).alloc (Nat.le_refl _) (.cells #[.slice as_29 (vCcS S0 S1 S2).length ks_29] 28)) cxy6 lxy6
  have pdcz9 := kept_cell ((Below.refl w29.heap.size w29).alloc (Nat.le_refl _) (.cells #[.slice as_29 (vCcS S0 S1 S2).length ks_29] 28)) cz9 lz9
  go_wp2_with fail
  clear pdc0 pdcz5 pdcxy6 pdcz9
  refine (eqSpace_same _ _ (vCcS S0 S1 S2) _ _ _ (by have := vCcS_len S0 S1 S2; omega) (own_ints (os29.alloc _)) (own_ints (os5.alloc _))).mono ?_
  rintro e w30 ⟨rfl, hb⟩
  have hq : Below w29.heap.size w29 w30 := Below.trans ((Below.refl _ w29).alloc (Nat.le_refl _) _) (hb.mono (by simp))
  replace c0 := kept_cell hq c0 l0
  replace l0 := lt_of_below hq l0
  replace cz5 := kept_cell hq cz5 lz5
  replace lz5 := lt_of_below hq lz5
  replace cxy6 := kept_cell hq cxy6 lxy6
  replace lxy6 := lt_of_below hq lxy6
  replace cz9 := kept_cell hq cz9 lz9
  replace lz9 := lt_of_below hq lz9
  replace o2 := o2.below hq
  replace o3 := o3.below hq
  replace o4 := o4.below hq
  replace os5 := os5.below hq
  replace o5 := o5.below hq
  replace o6 := o6.below hq
  replace o7 := o7.below hq
  replace o8 := o8.below hq
  replace os9 := os9.below hq
  replace o9 := o9.below hq
  replace o14 := o14.below hq
  replace o16 := o16.below hq
  replace o26 := o26.below hq
  replace o27 := o27.below hq
  replace o28 := o28.below hq
  replace os29 := os29.below hq
  replace o29 := o29.below hq
  replace B := B.trans (hq.mono B.size)
  have s29 : w29.heap.size ≤ w30.heap.size := hq.size
  have cz29 := kept_cell hb (cell_new w29 (.slice as_29 (vCcS S0 S1 S2).length ks_29) 28) (lt_alloc _ _)
  have lz29 := lt_of_below hb (lt_alloc w29 (.cells #[.slice as_29 (vCcS S0 S1 S2).length ks_29] 28))
  have plz29 := lz29
  clear hb hq
  go_wp2_with fail
  refine (eqInt64S_same _ _ (vCcC S0 S1 S2) _ _ _ (by have := vCcC_len S0 S1 S2; omega) (own_ints o29) (own_ints o5)).mono ?_
  rintro e w31 ⟨rfl, hb⟩
  replace c0 := kept_cell hb c0 l0
  replace l0 := lt_of_below hb l0
  replace cz5 := kept_cell hb cz5 lz5
  replace lz5 := lt_of_below hb lz5
  replace cxy6 := kept_cell hb cxy6 lxy6
  replace lxy6 := lt_of_below hb lxy6
  replace cz9 := kept_cell hb cz9 lz9
  replace lz9 := lt_of_below hb lz9
  replace cz29 := kept_cell hb cz29 lz29
  replace lz29 := lt_of_below hb lz29
  replace o2 := o2.below hb
  replace o3 := o3.below hb
  replace o4 := o4.below hb
  replace os5 := os5.below hb
  replace o5 := o5.below hb
  replace o6 := o6.below hb
  replace o7 := o7.below hb
  replace o8 := o8.below hb
  replace os9 := os9.below hb
  replace o9 := o9.below hb
  replace o14 := o14.below hb
  replace o16 := o16.below hb
  replace o26 := o26.below hb
  replace o27 := o27.below hb
  replace o28 := o28.below hb
  replace os29 := os29.below hb
  replace o29 := o29.below hb
  replace B := B.trans (hb.mono B.size)
  have s30 : w30.heap.size ≤ w31.heap.size := hb.size
  clear hb
  go_wp2_with fail
  refine (heldSpace_any _ _ _ _ _ (by have := vCcS_len S0 S1 S2; omega) (by omega) (by omega) (own_ints os9)).mono ?_
  rintro e w32 ⟨rfl, hb⟩
  replace c0 := kept_cell hb c0 l0
  replace l0 := lt_of_below hb l0
  replace cz5 := kept_cell hb cz5 lz5
  replace lz5 := lt_of_below hb lz5
  replace cxy6 := kept_cell hb cxy6 lxy6
  replace lxy6 := lt_of_below hb lxy6
  replace cz9 := kept_cell hb cz9 lz9
  replace lz9 := lt_of_below hb lz9
  replace cz29 := kept_cell hb cz29 lz29
  replace lz29 := lt_of_below hb lz29
  replace o2 := o2.below hb
  replace o3 := o3.below hb
  replace o4 := o4.below hb
  replace os5 := os5.below hb
  replace o5 := o5.below hb
  replace o6 := o6.below hb
  replace o7 := o7.below hb
  replace o8 := o8.below hb
  replace os9 := os9.below hb
  replace o9 := o9.below hb
  replace o14 := o14.below hb
  replace o16 := o16.below hb
  replace o26 := o26.below hb
  replace o27 := o27.below hb
  replace o28 := o28.below hb
  replace os29 := os29.below hb
  replace o29 := o29.below hb
  replace B := B.trans (hb.mono B.size)
  have s31 : w31.heap.size ≤ w32.heap.size := hb.size
  clear hb
  go_wp2_with fail
  refine (heldInt64S_any _ _ _ _ _ (by have := vCcC_len S0 S1 S2; omega) (by omega) (by omega) (own_ints o9)).mono ?_
  rintro e wz ⟨rfl, rfl⟩
  go_wp2_with fail
  go_ret
  exact ⟨rfl, B⟩

theorem law_CodeByColumns (ao0 : Option Addr) (S0 : List Int) (cap0 : Nat) (hn0 : S0.length ≤ 9223372036854775807) (ao1 : Option Addr) (S1 : List Int) (cap1 : Nat) (hn1 : S1.length ≤ 9223372036854775807) (ao2 : Option Addr) (S2 : List Int) (cap2 : Nat) (hn2 : S2.length ≤ 9223372036854775807) (w : World) (hS0 : Ints w ao0 S0) (hS1 : Ints w ao1 S1) (hS2 : Ints w ao2 S2) :
    Calls Try.prog 11 #[.agg #[.slice ao0 S0.length cap0], .slice ao1 S1.length cap1, .slice ao2 S2.length cap2] w fun e w' => e = .returned (.bool true) ∧ Below w.heap.size w w' := by
  by_cases hk0 : S1.length ≤ 1048576
  case neg => exact law_CodeByColumns_neg0 ao0 S0 cap0 hn0 ao1 S1 cap1 hn1 ao2 S2 cap2 hn2 w hS0 hS1 hS2  (by omega)
  by_cases hk1 : S2.length ≤ 1048576
  case neg => exact law_CodeByColumns_neg1 ao0 S0 cap0 hn0 ao1 S1 cap1 hn1 ao2 S2 cap2 hn2 w hS0 hS1 hS2 hk0 (by omega)
  by_cases hk2 : (S0.length : Int) ≤ 1048576
  case neg => exact law_CodeByColumns_neg2 ao0 S0 cap0 hn0 ao1 S1 cap1 hn1 ao2 S2 cap2 hn2 w hS0 hS1 hS2 hk0 hk1 (by omega)
  exact law_CodeByColumns_main ao0 S0 cap0 hn0 ao1 S1 cap1 hn1 ao2 S2 cap2 hn2 w hS0 hS1 hS2 hk0 hk1 hk2

end Go.Proofs.Ytfgpenldeckoaaa
