/-
  KeepSign answers as its model at every argument, and leaves its arguments alone. By an AI agent.
-/
import Derived.Test.YtpmeccpagndifaaKsS
import Derived.Test.YtpmeccpagndifaaKsI
import Derived.Test.YtpmeccpagndifaaMarkS
import Derived.Test.YtpmeccpagndifaaMark
import Derived.Deep.RegionHeld3
namespace Go.Proofs.Ytpmeccpagndifaa
open Go.RowKit Cv
set_option linter.unusedVariables false
set_option linter.unusedSimpArgs false

set_option maxRecDepth 100000 in
set_option maxHeartbeats 4000000 in
theorem law_KeepSign_neg0 (ao0 : Option Addr) (S0 : List Int) (cap0 : Nat) (hn0 : S0.length ≤ 9223372036854775807) (ao1 : Option Addr) (S1 : List Int) (cap1 : Nat) (hn1 : S1.length ≤ 9223372036854775807) (a2 : Int) (ha2 : -9223372036854775808 ≤ a2 ∧ a2 ≤ 9223372036854775807) (a3 : Int) (ha3 : -9223372036854775808 ≤ a3 ∧ a3 ≤ 9223372036854775807) (w : World) (hS0 : Ints w ao0 S0) (hS1 : Ints w ao1 S1)  (hneg : 1048576 < S1.length) :
    Calls Try.prog 9 #[.agg #[.slice ao0 S0.length cap0], .slice ao1 S1.length cap1, .int .i64 a2, .int .i64 a3] w fun e w' => e = .returned (.bool true) ∧ Below w.heap.size w w' := by
  go_enter Try.func9, Try.ntmps9
  go_wp2_with fail
  go_ret
  exact ⟨rfl, by go_grown⟩

set_option maxRecDepth 100000 in
set_option maxHeartbeats 4000000 in
theorem law_KeepSign_neg1 (ao0 : Option Addr) (S0 : List Int) (cap0 : Nat) (hn0 : S0.length ≤ 9223372036854775807) (ao1 : Option Addr) (S1 : List Int) (cap1 : Nat) (hn1 : S1.length ≤ 9223372036854775807) (a2 : Int) (ha2 : -9223372036854775808 ≤ a2 ∧ a2 ≤ 9223372036854775807) (a3 : Int) (ha3 : -9223372036854775808 ≤ a3 ∧ a3 ≤ 9223372036854775807) (w : World) (hS0 : Ints w ao0 S0) (hS1 : Ints w ao1 S1) (hk0 : S1.length ≤ 1048576) (hneg : 1048576 < (S0.length : Int)) :
    Calls Try.prog 9 #[.agg #[.slice ao0 S0.length cap0], .slice ao1 S1.length cap1, .int .i64 a2, .int .i64 a3] w fun e w' => e = .returned (.bool true) ∧ Below w.heap.size w w' := by
  have hz2 : szOf S0.length (1048576) = -1 := by unfold szOf; rw [if_pos (by omega)]
  go_enter Try.func9, Try.ntmps9
  go_wp2_with fail
  refine (szSpace_any _ _ _ _ _ hn0 (by omega) (by omega)).mono ?_
  rintro e w1 ⟨rfl, hb⟩
  have B : Below w.heap.size w w1 := Below.trans (by go_grown) (hb.mono (by simp; try omega))
  have c0 : w1.cell? ⟨w.heap.size, 0, none⟩ = some (.slice ao0 S0.length cap0) := kept_cell hb (by simp) (by simp; try omega)
  have l0 : w.heap.size < w1.heap.size := lt_of_below hb (by simp; try omega)
  have pl0 : w.heap.size < w1.heap.size := l0
  have s0 : w.heap.size ≤ w1.heap.size := B.size
  clear hb
  go_wp2_with fail
  go_ret
  exact ⟨rfl, B⟩

set_option maxRecDepth 100000 in
set_option maxHeartbeats 4000000 in
theorem law_KeepSign_main (ao0 : Option Addr) (S0 : List Int) (cap0 : Nat) (hn0 : S0.length ≤ 9223372036854775807) (ao1 : Option Addr) (S1 : List Int) (cap1 : Nat) (hn1 : S1.length ≤ 9223372036854775807) (a2 : Int) (ha2 : -9223372036854775808 ≤ a2 ∧ a2 ≤ 9223372036854775807) (a3 : Int) (ha3 : -9223372036854775808 ≤ a3 ∧ a3 ≤ 9223372036854775807) (w : World) (hS0 : Ints w ao0 S0) (hS1 : Ints w ao1 S1) (hk0 : S1.length ≤ 1048576) (hk1 : (S0.length : Int) ≤ 1048576) :
    Calls Try.prog 9 #[.agg #[.slice ao0 S0.length cap0], .slice ao1 S1.length cap1, .int .i64 a2, .int .i64 a3] w fun e w' => e = .returned (.bool true) ∧ Below w.heap.size w w' := by
  have hz2 : szOf S0.length (1048576) = 1048576 - (S0.length : Int) := by unfold szOf; rw [if_neg (by omega)]
  have HLn0 := vKsS_len S0 S1 a2 a3
  have HLn1 := vKsC_len S0 S1 a2 a3
  go_enter Try.func9, Try.ntmps9
  go_wp2_with fail
  refine (szSpace_any _ _ _ _ _ hn0 (by omega) (by omega)).mono ?_
  rintro e w1 ⟨rfl, hb⟩
  have B : Below w.heap.size w w1 := Below.trans (by go_grown) (hb.mono (by simp; try omega))
  have c0 : w1.cell? ⟨w.heap.size, 0, none⟩ = some (.slice ao0 S0.length cap0) := kept_cell hb (by simp) (by simp; try omega)
  have l0 : w.heap.size < w1.heap.size := lt_of_below hb (by simp; try omega)
  have pl0 : w.heap.size < w1.heap.size := l0
  have s0 : w.heap.size ≤ w1.heap.size := B.size
  clear hb
  go_wp2_with fail
  refine (toSpace_any ao0 S0 cap0 _ (by omega) (hS0.below B)).mono ?_
  rintro e w2 ⟨b2, rfl, o2, hb⟩
  replace c0 := kept_cell hb c0 l0
  replace l0 := lt_of_below hb l0
  replace B := B.trans (hb.mono B.size)
  have s1 : w1.heap.size ≤ w2.heap.size := hb.size
  replace o2 := o2.rebase (base' := w1.heap.size) (by simp)
  have Ro2 : RowIn (.slice (some ⟨b2, 0, none⟩) S0.length S0.length) (w1.heap.size) w2.heap.size := o2.rowIn
  clear hb
  go_wp2_with fail
  refine (toInt64S_any ao1 S1 cap1 _ (by omega) (hS1.below B)).mono ?_
  rintro e w3 ⟨b3, rfl, o3, hb⟩
  replace c0 := kept_cell hb c0 l0
  replace l0 := lt_of_below hb l0
  replace o2 := o2.below hb
  replace B := B.trans (hb.mono B.size)
  have s2 : w2.heap.size ≤ w3.heap.size := hb.size
  replace o3 := o3.rebase (base' := w2.heap.size) (by simp)
  have Ro3 : RowIn (.slice (some ⟨b3, 0, none⟩) S1.length S1.length) (w2.heap.size) w3.heap.size := o3.rowIn
  clear hb
  go_wp2_with fail
  refine (spec_KeepSign _ S0 _ (by omega) (by omega) _ S1 _ (by omega) a2 ha2 a3 ha3 _ (own_ints o2) (own_ints o3)).mono ?_
  rintro e w4 ⟨m4, vs4, v4, rfl, hm4, hr4, os4, o4, hn4, hb⟩
  replace c0 := kept_cell hb c0 l0
  replace l0 := lt_of_below hb l0
  replace o2 := o2.below hb
  replace o3 := o3.below hb
  replace B := B.trans (hb.mono B.size)
  have s3 : w3.heap.size ≤ w4.heap.size := hb.size
  obtain ⟨as_4, ks_4, hv⟩ := os4.shape
  subst hv
  obtain ⟨a_4, k_4, hv⟩ := o4.shape
  subst hv
  have hm4' : w3.heap.size ≤ m4 := by simpa using hm4
  have Ros4 : RowIn (.slice as_4 (vKsS S0 S1 a2 a3).length ks_4) (w3.heap.size) m4 := by simpa using hr4
  have Ro4 : RowIn (.slice a_4 (vKsC S0 S1 a2 a3).length k_4) m4 w4.heap.size := o4.rowIn
  clear hm4 hr4
  clear hb
  have pdc0 := kept_cell ((Below.refl w4.heap.size w4).alloc (Nat.le_refl _) (.cells #[.slice as_4 (vKsS S0 S1 a2 a3).length ks_4] 28)) c0 l0
  go_wp2_with fail
  clear pdc0
  refine (toSpace_any ao0 S0 cap0 _ (by omega) (hS0.below (B.alloc B.size _))).mono ?_
  rintro e w5 ⟨b5, rfl, o5, hb⟩
  have hq : Below w4.heap.size w4 w5 := Below.trans ((Below.refl _ w4).alloc (Nat.le_refl _) _) (hb.mono (by simp))
  replace c0 := kept_cell hq c0 l0
  replace l0 := lt_of_below hq l0
  replace o2 := o2.below hq
  replace o3 := o3.below hq
  replace os4 := os4.below hq
  replace o4 := o4.below hq
  replace B := B.trans (hq.mono B.size)
  have s4 : w4.heap.size ≤ w5.heap.size := hq.size
  have cz4 := kept_cell hb (cell_new w4 (.slice as_4 (vKsS S0 S1 a2 a3).length ks_4) 28) (lt_alloc _ _)
  have lz4 := lt_of_below hb (lt_alloc w4 (.cells #[.slice as_4 (vKsS S0 S1 a2 a3).length ks_4] 28))
  have plz4 := lz4
  replace o5 := o5.rebase (base' := w4.heap.size + 1) (by simp)
  have Ro5 : RowIn (.slice (some ⟨b5, 0, none⟩) S0.length S0.length) (w4.heap.size + 1) w5.heap.size := o5.rowIn
  clear hb hq
  have pdc0 := kept_cell ((Below.refl w5.heap.size w5).alloc (Nat.le_refl _) (.cells #[.slice (some ⟨b5, 0, none⟩) S0.length S0.length] 28)) c0 l0
  have pdcz4 := kept_cell ((Below.refl w5.heap.size w5).alloc (Nat.le_refl _) (.cells #[.slice (some ⟨b5, 0, none⟩) S0.length S0.length] 28)) cz4 lz4
  go_wp2_with fail
  clear pdc0 pdcz4
  refine (toInt64S_any ao1 S1 cap1 _ (by omega) (hS1.below (B.alloc B.size _))).mono ?_
  rintro e w6 ⟨b6, rfl, o6, hb⟩
  have hq : Below w5.heap.size w5 w6 := Below.trans ((Below.refl _ w5).alloc (Nat.le_refl _) _) (hb.mono (by simp))
  replace c0 := kept_cell hq c0 l0
  replace l0 := lt_of_below hq l0
  replace cz4 := kept_cell hq cz4 lz4
  replace lz4 := lt_of_below hq lz4
  replace o2 := o2.below hq
  replace o3 := o3.below hq
  replace os4 := os4.below hq
  replace o4 := o4.below hq
  replace o5 := o5.below hq
  replace B := B.trans (hq.mono B.size)
  have s5 : w5.heap.size ≤ w6.heap.size := hq.size
  have cxy5 := kept_cell hb (cell_new w5 (.slice (some ⟨b5, 0, none⟩) S0.length S0.length) 28) (lt_alloc _ _)
  have lxy5 := lt_of_below hb (lt_alloc w5 (.cells #[.slice (some ⟨b5, 0, none⟩) S0.length S0.length] 28))
  have plxy5 := lxy5
  replace o6 := o6.rebase (base' := w5.heap.size + 1) (by simp)
  have Ro6 : RowIn (.slice (some ⟨b6, 0, none⟩) S1.length S1.length) (w5.heap.size + 1) w6.heap.size := o6.rowIn
  clear hb hq
  go_wp2_with fail
  refine (impl_KeepSign _ S0 _ (by omega) (by omega) _ S1 _ (by omega) a2 ha2 a3 ha3 _ (own_ints o5) (own_ints o6)).mono ?_
  rintro e w7 ⟨m7, vs7, v7, rfl, hm7, hr7, os7, o7, hn7, hb⟩
  replace c0 := kept_cell hb c0 l0
  replace l0 := lt_of_below hb l0
  replace cz4 := kept_cell hb cz4 lz4
  replace lz4 := lt_of_below hb lz4
  replace cxy5 := kept_cell hb cxy5 lxy5
  replace lxy5 := lt_of_below hb lxy5
  replace o2 := o2.below hb
  replace o3 := o3.below hb
  replace os4 := os4.below hb
  replace o4 := o4.below hb
  replace o5 := o5.below hb
  replace o6 := o6.below hb
  replace B := B.trans (hb.mono B.size)
  have s6 : w6.heap.size ≤ w7.heap.size := hb.size
  obtain ⟨as_7, ks_7, hv⟩ := os7.shape
  subst hv
  obtain ⟨a_7, k_7, hv⟩ := o7.shape
  subst hv
  have hm7' : w6.heap.size ≤ m7 := by simpa using hm7
  have Ros7 : RowIn (.slice as_7 (vKsS S0 S1 a2 a3).length ks_7) (w6.heap.size) m7 := by simpa using hr7
  have Ro7 : RowIn (.slice a_7 (vKsC S0 S1 a2 a3).length k_7) m7 w7.heap.size := o7.rowIn
  clear hm7 hr7
  clear hb
  have pdc0 := kept_cell ((Below.refl w7.heap.size w7).alloc (Nat.le_refl _) (.cells #[.slice as_7 (vKsS S0 S1 a2 a3).length ks_7] 28)) c0 l0
  have pdcz4 := kept_cell ((Below.refl w7.heap.size w7).alloc (Nat.le_refl _) (.cells #[.slice as_7 (vKsS S0 S1 a2 a3).length ks_7] 28)) cz4 lz4
  have pdcxy5 := kept_cell ((Below.refl w7.heap.size w7).alloc (Nat.le_refl _) (.cells #[.slice as_7 (vKsS S0 S1 a2 a3).length ks_7] 28)) cxy5 lxy5
  go_wp2_with fail
  clear pdc0 pdcz4 pdcxy5
  refine (eqSpace_same _ _ (vKsS S0 S1 a2 a3) _ _ _ (by have := vKsS_len S0 S1 a2 a3; omega) (own_ints (os7.alloc _)) (own_ints (os4.alloc _))).mono ?_
  rintro e w8 ⟨rfl, hb⟩
  have hq : Below w7.heap.size w7 w8 := Below.trans ((Below.refl _ w7).alloc (Nat.le_refl _) _) (hb.mono (by simp))
  replace c0 := kept_cell hq c0 l0
  replace l0 := lt_of_below hq l0
  replace cz4 := kept_cell hq cz4 lz4
  replace lz4 := lt_of_below hq lz4
  replace cxy5 := kept_cell hq cxy5 lxy5
  replace lxy5 := lt_of_below hq lxy5
  replace o2 := o2.below hq
  replace o3 := o3.below hq
  replace os4 := os4.below hq
  replace o4 := o4.below hq
  replace o5 := o5.below hq
  replace o6 := o6.below hq
  replace os7 := os7.below hq
  replace o7 := o7.below hq
  replace B := B.trans (hq.mono B.size)
  have s7 : w7.heap.size ≤ w8.heap.size := hq.size
  have cz7 := kept_cell hb (cell_new w7 (.slice as_7 (vKsS S0 S1 a2 a3).length ks_7) 28) (lt_alloc _ _)
  have lz7 := lt_of_below hb (lt_alloc w7 (.cells #[.slice as_7 (vKsS S0 S1 a2 a3).length ks_7] 28))
  have plz7 := lz7
  clear hb hq
  go_wp2_with fail
  refine (eqInt64S_same _ _ (vKsC S0 S1 a2 a3) _ _ _ (by have := vKsC_len S0 S1 a2 a3; omega) (own_ints o7) (own_ints o4)).mono ?_
  rintro e w9 ⟨rfl, hb⟩
  replace c0 := kept_cell hb c0 l0
  replace l0 := lt_of_below hb l0
  replace cz4 := kept_cell hb cz4 lz4
  replace lz4 := lt_of_below hb lz4
  replace cxy5 := kept_cell hb cxy5 lxy5
  replace lxy5 := lt_of_below hb lxy5
  replace cz7 := kept_cell hb cz7 lz7
  replace lz7 := lt_of_below hb lz7
  replace o2 := o2.below hb
  replace o3 := o3.below hb
  replace os4 := os4.below hb
  replace o4 := o4.below hb
  replace o5 := o5.below hb
  replace o6 := o6.below hb
  replace os7 := os7.below hb
  replace o7 := o7.below hb
  replace B := B.trans (hb.mono B.size)
  have s8 : w8.heap.size ≤ w9.heap.size := hb.size
  clear hb
  go_wp2_with fail
  go_region_held3 (fun w' => w'.cell? ⟨w.heap.size, 0, none⟩ = some (.slice ao0 S0.length cap0) ∧ w'.cell? ⟨w5.heap.size, 0, none⟩ = some (.slice (some ⟨b5, 0, none⟩) S0.length S0.length)) (first | exact ⟨c0, cxy5⟩ | exact ⟨kept_cell hqa c0 l0, kept_cell hqa cxy5 lxy5⟩ | exact ⟨kept_cell hqb (kept_cell hqa c0 l0) (lt_of_below hqa l0), kept_cell hqb (kept_cell hqa cxy5 lxy5) (lt_of_below hqa lxy5)⟩) (first | (go_at_call 14; refine (toSpace_any ao0 S0 cap0 _ (by omega) (hS0.below B.drew)).mono ?_; rintro e w10 ⟨bq, rfl, oq, hqa'⟩; have hqa : Below w9.heap.size w9 w10 := (Below.refl w9.heap.size w9).drew.trans hqa') | (go_at_call 16; refine (eqSpace_same _ _ S0 _ _ _ (by omega) ((own_ints o5).below hqa) (own_ints oq)).mono ?_; rintro e w11 ⟨rfl, hqb⟩))
  have hq : Below w9.heap.size w9 w11 := hqa.trans (hqb.mono hqa.size)
  replace c0 := kept_cell hq c0 l0
  replace l0 := lt_of_below hq l0
  replace cz4 := kept_cell hq cz4 lz4
  replace lz4 := lt_of_below hq lz4
  replace cxy5 := kept_cell hq cxy5 lxy5
  replace lxy5 := lt_of_below hq lxy5
  replace cz7 := kept_cell hq cz7 lz7
  replace lz7 := lt_of_below hq lz7
  replace o2 := o2.below hq
  replace o3 := o3.below hq
  replace os4 := os4.below hq
  replace o4 := o4.below hq
  replace o5 := o5.below hq
  replace o6 := o6.below hq
  replace os7 := os7.below hq
  replace o7 := o7.below hq
  replace B := B.trans (hq.mono B.size)
  have s10 : w9.heap.size ≤ w11.heap.size := hq.size
  clear hqa hqa' hqb hq oq
  go_wp2_with fail
  refine (toInt64S_any ao1 S1 cap1 _ (by omega) (hS1.below B)).mono ?_
  rintro e w12 ⟨b12, rfl, o12, hb⟩
  replace c0 := kept_cell hb c0 l0
  replace l0 := lt_of_below hb l0
  replace cz4 := kept_cell hb cz4 lz4
  replace lz4 := lt_of_below hb lz4
  replace cxy5 := kept_cell hb cxy5 lxy5
  replace lxy5 := lt_of_below hb lxy5
  replace cz7 := kept_cell hb cz7 lz7
  replace lz7 := lt_of_below hb lz7
  replace o2 := o2.below hb
  replace o3 := o3.below hb
  replace os4 := os4.below hb
  replace o4 := o4.below hb
  replace o5 := o5.below hb
  replace o6 := o6.below hb
  replace os7 := os7.below hb
  replace o7 := o7.below hb
  replace B := B.trans (hb.mono B.size)
  have s11 : w11.heap.size ≤ w12.heap.size := hb.size
  replace o12 := o12.rebase (base' := w11.heap.size) (by simp)
  have Ro12 : RowIn (.slice (some ⟨b12, 0, none⟩) S1.length S1.length) (w11.heap.size) w12.heap.size := o12.rowIn
  clear hb
  go_wp2_with fail
  refine (eqInt64S_same _ _ S1 _ _ _ (by omega) (own_ints o6) (own_ints o12)).mono ?_
  rintro e w13 ⟨rfl, hb⟩
  replace c0 := kept_cell hb c0 l0
  replace l0 := lt_of_below hb l0
  replace cz4 := kept_cell hb cz4 lz4
  replace lz4 := lt_of_below hb lz4
  replace cxy5 := kept_cell hb cxy5 lxy5
  replace lxy5 := lt_of_below hb lxy5
  replace cz7 := kept_cell hb cz7 lz7
  replace lz7 := lt_of_below hb lz7
  replace o2 := o2.below hb
  replace o3 := o3.below hb
  replace os4 := os4.below hb
  replace o4 := o4.below hb
  replace o5 := o5.below hb
  replace o6 := o6.below hb
  replace os7 := os7.below hb
  replace o7 := o7.below hb
  replace o12 := o12.below hb
  replace B := B.trans (hb.mono B.size)
  have s12 : w12.heap.size ≤ w13.heap.size := hb.size
  clear hb
  go_wp2_with fail
  refine (markSpace_own b5 _ _ _ _ _ _ (by omega) (by omega) (by omega) rfl o5).mono ?_
  clear o5
  rintro e w14 ⟨rfl, o5, hg⟩
  replace c0 := hg.cell (a := ⟨w.heap.size, 0, none⟩) c0 (row_ne_box (b := w.heap.size) Ro5 (by omega))
  replace l0 : w.heap.size < w14.heap.size := Nat.lt_of_lt_of_le l0 hg.size
  replace cz4 := hg.cell (a := ⟨w4.heap.size, 0, none⟩) cz4 (row_ne_box (b := w4.heap.size) Ro5 (by omega))
  replace lz4 : w4.heap.size < w14.heap.size := Nat.lt_of_lt_of_le lz4 hg.size
  replace cxy5 := hg.cell (a := ⟨w5.heap.size, 0, none⟩) cxy5 (row_ne_box (b := w5.heap.size) Ro5 (by omega))
  replace lxy5 : w5.heap.size < w14.heap.size := Nat.lt_of_lt_of_le lxy5 hg.size
  replace cz7 := hg.cell (a := ⟨w7.heap.size, 0, none⟩) cz7 (row_ne_box (b := w7.heap.size) Ro5 (by omega))
  replace lz7 : w7.heap.size < w14.heap.size := Nat.lt_of_lt_of_le lz7 hg.size
  replace o2 := o2.kept hg (row_ne_row Ro2 Ro5 (by omega))
  replace o3 := o3.kept hg (row_ne_row Ro3 Ro5 (by omega))
  replace os4 := os4.kept hg (row_ne_row Ros4 Ro5 (by omega))
  replace o4 := o4.kept hg (row_ne_row Ro4 Ro5 (by omega))
  replace o6 := o6.kept hg (row_ne_row Ro6 Ro5 (by omega))
  replace os7 := os7.kept hg (row_ne_row Ros7 Ro5 (by omega))
  replace o7 := o7.kept hg (row_ne_row Ro7 Ro5 (by omega))
  replace o12 := o12.kept hg (row_ne_row Ro12 Ro5 (by omega))
  replace B := below_mark B B.size hg Ro5 (by omega)
  have s13 : w13.heap.size ≤ w14.heap.size := hg.size
  clear hg
  go_wp2_with fail
  refine (markInt64S_own _ _ _ _ _ _ _ (by have := hn1; omega) (by omega) (by omega) rfl o6).mono ?_
  clear o6
  rintro e w15 ⟨rfl, o6, hg⟩
  replace c0 := hg.cell (a := ⟨w.heap.size, 0, none⟩) c0 (row_ne_box (b := w.heap.size) Ro6 (by omega))
  replace l0 : w.heap.size < w15.heap.size := Nat.lt_of_lt_of_le l0 hg.size
  replace cz4 := hg.cell (a := ⟨w4.heap.size, 0, none⟩) cz4 (row_ne_box (b := w4.heap.size) Ro6 (by omega))
  replace lz4 : w4.heap.size < w15.heap.size := Nat.lt_of_lt_of_le lz4 hg.size
  replace cxy5 := hg.cell (a := ⟨w5.heap.size, 0, none⟩) cxy5 (row_ne_box (b := w5.heap.size) Ro6 (by omega))
  replace lxy5 : w5.heap.size < w15.heap.size := Nat.lt_of_lt_of_le lxy5 hg.size
  replace cz7 := hg.cell (a := ⟨w7.heap.size, 0, none⟩) cz7 (row_ne_box (b := w7.heap.size) Ro6 (by omega))
  replace lz7 : w7.heap.size < w15.heap.size := Nat.lt_of_lt_of_le lz7 hg.size
  replace o2 := o2.kept hg (row_ne_row Ro2 Ro6 (by omega))
  replace o3 := o3.kept hg (row_ne_row Ro3 Ro6 (by omega))
  replace os4 := os4.kept hg (row_ne_row Ros4 Ro6 (by omega))
  replace o4 := o4.kept hg (row_ne_row Ro4 Ro6 (by omega))
  replace o5 := o5.kept hg (row_ne_row Ro5 Ro6 (by omega))
  replace os7 := os7.kept hg (row_ne_row Ros7 Ro6 (by omega))
  replace o7 := o7.kept hg (row_ne_row Ro7 Ro6 (by omega))
  replace o12 := o12.kept hg (row_ne_row Ro12 Ro6 (by omega))
  replace B := below_mark B B.size hg Ro6 (by omega)
  have s14 : w14.heap.size ≤ w15.heap.size := hg.size
  clear hg
  go_wp2_with fail
  refine (eqSpace_same _ _ (vKsS S0 S1 a2 a3) _ _ _ (by have := vKsS_len S0 S1 a2 a3; omega) (own_ints os7) (own_ints os4)).mono ?_
  rintro e w16 ⟨rfl, hb⟩
  replace c0 := kept_cell hb c0 l0
  replace l0 := lt_of_below hb l0
  replace cz4 := kept_cell hb cz4 lz4
  replace lz4 := lt_of_below hb lz4
  replace cxy5 := kept_cell hb cxy5 lxy5
  replace lxy5 := lt_of_below hb lxy5
  replace cz7 := kept_cell hb cz7 lz7
  replace lz7 := lt_of_below hb lz7
  replace o2 := o2.below hb
  replace o3 := o3.below hb
  replace os4 := os4.below hb
  replace o4 := o4.below hb
  replace o5 := o5.below hb
  replace o6 := o6.below hb
  replace os7 := os7.below hb
  replace o7 := o7.below hb
  replace o12 := o12.below hb
  replace B := B.trans (hb.mono B.size)
  have s15 : w15.heap.size ≤ w16.heap.size := hb.size
  clear hb
  go_wp2_with fail
  refine (eqInt64S_same _ _ (vKsC S0 S1 a2 a3) _ _ _ (by have := vKsC_len S0 S1 a2 a3; omega) (own_ints o7) (own_ints o4)).mono ?_
  rintro e w17 ⟨rfl, hb⟩
  replace c0 := kept_cell hb c0 l0
  replace l0 := lt_of_below hb l0
  replace cz4 := kept_cell hb cz4 lz4
  replace lz4 := lt_of_below hb lz4
  replace cxy5 := kept_cell hb cxy5 lxy5
  replace lxy5 := lt_of_below hb lxy5
  replace cz7 := kept_cell hb cz7 lz7
  replace lz7 := lt_of_below hb lz7
  replace o2 := o2.below hb
  replace o3 := o3.below hb
  replace os4 := os4.below hb
  replace o4 := o4.below hb
  replace o5 := o5.below hb
  replace o6 := o6.below hb
  replace os7 := os7.below hb
  replace o7 := o7.below hb
  replace o12 := o12.below hb
  replace B := B.trans (hb.mono B.size)
  have s16 : w16.heap.size ≤ w17.heap.size := hb.size
  clear hb
  go_wp2_with fail
  refine (markSpace_gen _ _ _ _ _ _ _ (by have := vKsS_len S0 S1 a2 a3; omega) (by omega) (by omega) rfl os7).mono ?_
  clear os7
  rintro e w18 ⟨rfl, os7, hg⟩
  replace c0 := hg.cell (a := ⟨w.heap.size, 0, none⟩) c0 (row_ne_box (b := w.heap.size) Ros7 (by omega))
  replace l0 : w.heap.size < w18.heap.size := Nat.lt_of_lt_of_le l0 hg.size
  replace cz4 := hg.cell (a := ⟨w4.heap.size, 0, none⟩) cz4 (row_ne_box (b := w4.heap.size) Ros7 (by omega))
  replace lz4 : w4.heap.size < w18.heap.size := Nat.lt_of_lt_of_le lz4 hg.size
  replace cxy5 := hg.cell (a := ⟨w5.heap.size, 0, none⟩) cxy5 (row_ne_box (b := w5.heap.size) Ros7 (by omega))
  replace lxy5 : w5.heap.size < w18.heap.size := Nat.lt_of_lt_of_le lxy5 hg.size
  replace cz7 := hg.cell (a := ⟨w7.heap.size, 0, none⟩) cz7 (row_ne_box (b := w7.heap.size) Ros7 (by omega))
  replace lz7 : w7.heap.size < w18.heap.size := Nat.lt_of_lt_of_le lz7 hg.size
  replace o2 := o2.kept hg (row_ne_row Ro2 Ros7 (by omega))
  replace o3 := o3.kept hg (row_ne_row Ro3 Ros7 (by omega))
  replace os4 := os4.kept hg (row_ne_row Ros4 Ros7 (by omega))
  replace o4 := o4.kept hg (row_ne_row Ro4 Ros7 (by omega))
  replace o5 := o5.kept hg (row_ne_row Ro5 Ros7 (by omega))
  replace o6 := o6.kept hg (row_ne_row Ro6 Ros7 (by omega))
  replace o7 := o7.kept hg (row_ne_row Ro7 Ros7 (by omega))
  replace o12 := o12.kept hg (row_ne_row Ro12 Ros7 (by omega))
  replace B := below_mark B B.size hg Ros7 (by omega)
  have s17 : w17.heap.size ≤ w18.heap.size := hg.size
  clear hg
  go_wp2_with fail
  refine (markInt64S_own _ _ _ _ _ _ _ (by have := vKsC_len S0 S1 a2 a3; omega) (by omega) (by omega) rfl o7).mono ?_
  clear o7
  rintro e w19 ⟨rfl, o7, hg⟩
  replace c0 := hg.cell (a := ⟨w.heap.size, 0, none⟩) c0 (row_ne_box (b := w.heap.size) Ro7 (by omega))
  replace l0 : w.heap.size < w19.heap.size := Nat.lt_of_lt_of_le l0 hg.size
  replace cz4 := hg.cell (a := ⟨w4.heap.size, 0, none⟩) cz4 (row_ne_box (b := w4.heap.size) Ro7 (by omega))
  replace lz4 : w4.heap.size < w19.heap.size := Nat.lt_of_lt_of_le lz4 hg.size
  replace cxy5 := hg.cell (a := ⟨w5.heap.size, 0, none⟩) cxy5 (row_ne_box (b := w5.heap.size) Ro7 (by omega))
  replace lxy5 : w5.heap.size < w19.heap.size := Nat.lt_of_lt_of_le lxy5 hg.size
  replace cz7 := hg.cell (a := ⟨w7.heap.size, 0, none⟩) cz7 (row_ne_box (b := w7.heap.size) Ro7 (by omega))
  replace lz7 : w7.heap.size < w19.heap.size := Nat.lt_of_lt_of_le lz7 hg.size
  replace o2 := o2.kept hg (row_ne_row Ro2 Ro7 (by omega))
  replace o3 := o3.kept hg (row_ne_row Ro3 Ro7 (by omega))
  replace os4 := os4.kept hg (row_ne_row Ros4 Ro7 (by omega))
  replace o4 := o4.kept hg (row_ne_row Ro4 Ro7 (by omega))
  replace o5 := o5.kept hg (row_ne_row Ro5 Ro7 (by omega))
  replace o6 := o6.kept hg (row_ne_row Ro6 Ro7 (by omega))
  replace os7 := os7.kept hg (row_ne_row Ros7 Ro7 (by omega))
  replace o12 := o12.kept hg (row_ne_row Ro12 Ro7 (by omega))
  replace B := below_mark B B.size hg Ro7 (by omega)
  have s18 : w18.heap.size ≤ w19.heap.size := hg.size
  clear hg
  go_wp2_with fail
  refine (heldSpace_any _ _ _ _ _ (by have := vKsS_len S0 S1 a2 a3; omega) (by omega) (by omega) (own_ints os7)).mono ?_
  rintro e w20 ⟨rfl, hb⟩
  replace c0 := kept_cell hb c0 l0
  replace l0 := lt_of_below hb l0
  replace cz4 := kept_cell hb cz4 lz4
  replace lz4 := lt_of_below hb lz4
  replace cxy5 := kept_cell hb cxy5 lxy5
  replace lxy5 := lt_of_below hb lxy5
  replace cz7 := kept_cell hb cz7 lz7
  replace lz7 := lt_of_below hb lz7
  replace o2 := o2.below hb
  replace o3 := o3.below hb
  replace os4 := os4.below hb
  replace o4 := o4.below hb
  replace o5 := o5.below hb
  replace o6 := o6.below hb
  replace os7 := os7.below hb
  replace o7 := o7.below hb
  replace o12 := o12.below hb
  replace B := B.trans (hb.mono B.size)
  have s19 : w19.heap.size ≤ w20.heap.size := hb.size
  clear hb
  go_wp2_with fail
  refine (heldInt64S_any _ _ _ _ _ (by have := vKsC_len S0 S1 a2 a3; omega) (by omega) (by omega) (own_ints o7)).mono ?_
  rintro e wz ⟨rfl, rfl⟩
  go_wp2_with fail
  refine (toSpace_any ao0 S0 cap0 _ (by omega) (hS0.below B)).mono ?_
  rintro e w21 ⟨b21, rfl, o21, hb⟩
  replace c0 := kept_cell hb c0 l0
  replace l0 := lt_of_below hb l0
  replace cz4 := kept_cell hb cz4 lz4
  replace lz4 := lt_of_below hb lz4
  replace cxy5 := kept_cell hb cxy5 lxy5
  replace lxy5 := lt_of_below hb lxy5
  replace cz7 := kept_cell hb cz7 lz7
  replace lz7 := lt_of_below hb lz7
  replace o2 := o2.below hb
  replace o3 := o3.below hb
  replace os4 := os4.below hb
  replace o4 := o4.below hb
  replace o5 := o5.below hb
  replace o6 := o6.below hb
  replace os7 := os7.below hb
  replace o7 := o7.below hb
  replace o12 := o12.below hb
  replace B := B.trans (hb.mono B.size)
  have s20 : w20.heap.size ≤ w21.heap.size := hb.size
  replace o21 := o21.rebase (base' := w20.heap.size) (by simp)
  have Ro21 : RowIn (.slice (some ⟨b21, 0, none⟩) S0.length S0.length) (w20.heap.size) w21.heap.size := o21.rowIn
  clear hb
  go_wp2_with fail
  refine (toInt64S_any ao1 S1 cap1 _ (by omega) (hS1.below B)).mono ?_
  rintro e w22 ⟨b22, rfl, o22, hb⟩
  replace c0 := kept_cell hb c0 l0
  replace l0 := lt_of_below hb l0
  replace cz4 := kept_cell hb cz4 lz4
  replace lz4 := lt_of_below hb lz4
  replace cxy5 := kept_cell hb cxy5 lxy5
  replace lxy5 := lt_of_below hb lxy5
  replace cz7 := kept_cell hb cz7 lz7
  replace lz7 := lt_of_below hb lz7
  replace o2 := o2.below hb
  replace o3 := o3.below hb
  replace os4 := os4.below hb
  replace o4 := o4.below hb
  replace o5 := o5.below hb
  replace o6 := o6.below hb
  replace os7 := os7.below hb
  replace o7 := o7.below hb
  replace o12 := o12.below hb
  replace o21 := o21.below hb
  replace B := B.trans (hb.mono B.size)
  have s21 : w21.heap.size ≤ w22.heap.size := hb.size
  replace o22 := o22.rebase (base' := w21.heap.size) (by simp)
  have Ro22 : RowIn (.slice (some ⟨b22, 0, none⟩) S1.length S1.length) (w21.heap.size) w22.heap.size := o22.rowIn
  clear hb
  go_wp2_with fail
  refine (impl_KeepSign _ S0 _ (by omega) (by omega) _ S1 _ (by omega) a2 ha2 a3 ha3 _ (own_ints o21) (own_ints o22)).mono ?_
  rintro e w23 ⟨m23, vs23, v23, rfl, hm23, hr23, os23, o23, hn23, hb⟩
  replace c0 := kept_cell hb c0 l0
  replace l0 := lt_of_below hb l0
  replace cz4 := kept_cell hb cz4 lz4
  replace lz4 := lt_of_below hb lz4
  replace cxy5 := kept_cell hb cxy5 lxy5
  replace lxy5 := lt_of_below hb lxy5
  replace cz7 := kept_cell hb cz7 lz7
  replace lz7 := lt_of_below hb lz7
  replace o2 := o2.below hb
  replace o3 := o3.below hb
  replace os4 := os4.below hb
  replace o4 := o4.below hb
  replace o5 := o5.below hb
  replace o6 := o6.below hb
  replace os7 := os7.below hb
  replace o7 := o7.below hb
  replace o12 := o12.below hb
  replace o21 := o21.below hb
  replace o22 := o22.below hb
  replace B := B.trans (hb.mono B.size)
  have s22 : w22.heap.size ≤ w23.heap.size := hb.size
  obtain ⟨as_23, ks_23, hv⟩ := os23.shape
  subst hv
  obtain ⟨a_23, k_23, hv⟩ := o23.shape
  subst hv
  have hm23' : w22.heap.size ≤ m23 := by simpa using hm23
  have Ros23 : RowIn (.slice as_23 (vKsS S0 S1 a2 a3).length ks_23) (w22.heap.size) m23 := by simpa using hr23
  have Ro23 : RowIn (.slice a_23 (vKsC S0 S1 a2 a3).length k_23) m23 w23.heap.size := o23.rowIn
  clear hm23 hr23
  clear hb
  have pdc0 := kept_cell ((Below.refl w23.heap.size w23).alloc (Nat.le_refl _) (.cells #[.slice as_23 (vKsS S0 S1 a2 a3).length ks_23] 28)) c0 l0
  have pdcz4 := kept_cell ((Below.refl w23.heap.size w23).alloc (Nat.le_refl _) (.cells #[.slice as_23 (vKsS S0 S1 a2 a3).length ks_23] 28)) cz4 lz4
  have pdcxy5 := kept_cell ((Below.refl w23.heap.size w23).alloc (Nat.le_refl _) (.cells #[.slice as_23 (vKsS S0 S1 a2 a3).length ks_23] 28)) cxy5 lxy5
  have pdcz7 := kept_cell ((Below.refl w23.heap.size w23).alloc (Nat.le_refl _) (.cells #[.slice as_23 (vKsS S0 S1 a2 a3).length ks_23] 28)) cz7 lz7
  go_wp2_with fail
  clear pdc0 pdcz4 pdcxy5 pdcz7
  refine (eqSpace_same _ _ (vKsS S0 S1 a2 a3) _ _ _ (by have := vKsS_len S0 S1 a2 a3; omega) (own_ints (os23.alloc _)) (own_ints (os4.alloc _))).mono ?_
  rintro e w24 ⟨rfl, hb⟩
  have hq : Below w23.heap.size w23 w24 := Below.trans ((Below.refl _ w23).alloc (Nat.le_refl _) _) (hb.mono (by simp))
  replace c0 := kept_cell hq c0 l0
  replace l0 := lt_of_below hq l0
  replace cz4 := kept_cell hq cz4 lz4
  replace lz4 := lt_of_below hq lz4
  replace cxy5 := kept_cell hq cxy5 lxy5
  replace lxy5 := lt_of_below hq lxy5
  replace cz7 := kept_cell hq cz7 lz7
  replace lz7 := lt_of_below hq lz7
  replace o2 := o2.below hq
  replace o3 := o3.below hq
  replace os4 := os4.below hq
  replace o4 := o4.below hq
  replace o5 := o5.below hq
  replace o6 := o6.below hq
  replace os7 := os7.below hq
  replace o7 := o7.below hq
  replace o12 := o12.below hq
  replace o21 := o21.below hq
  replace o22 := o22.below hq
  replace os23 := os23.below hq
  replace o23 := o23.below hq
  replace B := B.trans (hq.mono B.size)
  have s23 : w23.heap.size ≤ w24.heap.size := hq.size
  have cz23 := kept_cell hb (cell_new w23 (.slice as_23 (vKsS S0 S1 a2 a3).length ks_23) 28) (lt_alloc _ _)
  have lz23 := lt_of_below hb (lt_alloc w23 (.cells #[.slice as_23 (vKsS S0 S1 a2 a3).length ks_23] 28))
  have plz23 := lz23
  clear hb hq
  go_wp2_with fail
  refine (eqInt64S_same _ _ (vKsC S0 S1 a2 a3) _ _ _ (by have := vKsC_len S0 S1 a2 a3; omega) (own_ints o23) (own_ints o4)).mono ?_
  rintro e w25 ⟨rfl, hb⟩
  replace c0 := kept_cell hb c0 l0
  replace l0 := lt_of_below hb l0
  replace cz4 := kept_cell hb cz4 lz4
  replace lz4 := lt_of_below hb lz4
  replace cxy5 := kept_cell hb cxy5 lxy5
  replace lxy5 := lt_of_below hb lxy5
  replace cz7 := kept_cell hb cz7 lz7
  replace lz7 := lt_of_below hb lz7
  replace cz23 := kept_cell hb cz23 lz23
  replace lz23 := lt_of_below hb lz23
  replace o2 := o2.below hb
  replace o3 := o3.below hb
  replace os4 := os4.below hb
  replace o4 := o4.below hb
  replace o5 := o5.below hb
  replace o6 := o6.below hb
  replace os7 := os7.below hb
  replace o7 := o7.below hb
  replace o12 := o12.below hb
  replace o21 := o21.below hb
  replace o22 := o22.below hb
  replace os23 := os23.below hb
  replace o23 := o23.below hb
  replace B := B.trans (hb.mono B.size)
  have s24 : w24.heap.size ≤ w25.heap.size := hb.size
  clear hb
  go_wp2_with fail
  refine (heldSpace_any _ _ _ _ _ (by have := vKsS_len S0 S1 a2 a3; omega) (by omega) (by omega) (own_ints os7)).mono ?_
  rintro e w26 ⟨rfl, hb⟩
  replace c0 := kept_cell hb c0 l0
  replace l0 := lt_of_below hb l0
  replace cz4 := kept_cell hb cz4 lz4
  replace lz4 := lt_of_below hb lz4
  replace cxy5 := kept_cell hb cxy5 lxy5
  replace lxy5 := lt_of_below hb lxy5
  replace cz7 := kept_cell hb cz7 lz7
  replace lz7 := lt_of_below hb lz7
  replace cz23 := kept_cell hb cz23 lz23
  replace lz23 := lt_of_below hb lz23
  replace o2 := o2.below hb
  replace o3 := o3.below hb
  replace os4 := os4.below hb
  replace o4 := o4.below hb
  replace o5 := o5.below hb
  replace o6 := o6.below hb
  replace os7 := os7.below hb
  replace o7 := o7.below hb
  replace o12 := o12.below hb
  replace o21 := o21.below hb
  replace o22 := o22.below hb
  replace os23 := os23.below hb
  replace o23 := o23.below hb
  replace B := B.trans (hb.mono B.size)
  have s25 : w25.heap.size ≤ w26.heap.size := hb.size
  clear hb
  go_wp2_with fail
  refine (heldInt64S_any _ _ _ _ _ (by have := vKsC_len S0 S1 a2 a3; omega) (by omega) (by omega) (own_ints o7)).mono ?_
  rintro e wz ⟨rfl, rfl⟩
  go_wp2_with fail
  go_ret
  exact ⟨rfl, B⟩

theorem law_KeepSign (ao0 : Option Addr) (S0 : List Int) (cap0 : Nat) (hn0 : S0.length ≤ 9223372036854775807) (ao1 : Option Addr) (S1 : List Int) (cap1 : Nat) (hn1 : S1.length ≤ 9223372036854775807) (a2 : Int) (ha2 : -9223372036854775808 ≤ a2 ∧ a2 ≤ 9223372036854775807) (a3 : Int) (ha3 : -9223372036854775808 ≤ a3 ∧ a3 ≤ 9223372036854775807) (w : World) (hS0 : Ints w ao0 S0) (hS1 : Ints w ao1 S1) :
    Calls Try.prog 9 #[.agg #[.slice ao0 S0.length cap0], .slice ao1 S1.length cap1, .int .i64 a2, .int .i64 a3] w fun e w' => e = .returned (.bool true) ∧ Below w.heap.size w w' := by
  by_cases hk0 : S1.length ≤ 1048576
  case neg => exact law_KeepSign_neg0 ao0 S0 cap0 hn0 ao1 S1 cap1 hn1 a2 ha2 a3 ha3 w hS0 hS1  (by omega)
  by_cases hk1 : (S0.length : Int) ≤ 1048576
  case neg => exact law_KeepSign_neg1 ao0 S0 cap0 hn0 ao1 S1 cap1 hn1 a2 ha2 a3 ha3 w hS0 hS1 hk0 (by omega)
  exact law_KeepSign_main ao0 S0 cap0 hn0 ao1 S1 cap1 hn1 a2 ha2 a3 ha3 w hS0 hS1 hk0 hk1

end Go.Proofs.Ytpmeccpagndifaa
