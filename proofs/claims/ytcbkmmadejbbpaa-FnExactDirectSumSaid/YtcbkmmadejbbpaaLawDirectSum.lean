/-
  DirectSum answers as its model at every argument, and leaves its arguments alone. By an AI agent.
-/
import Derived.Test.YtcbkmmadejbbpaaDsU
import Derived.Test.YtcbkmmadejbbpaaDsI
import Derived.Test.YtcbkmmadejbbpaaMarkS
import Derived.Test.YtcbkmmadejbbpaaMark
import Derived.Deep.CutRange
import Derived.Deep.RegionHeld3
namespace Go.Proofs.Ytcbkmmadejbbpaa
open Go.RowKit Cv
set_option linter.unusedVariables false
set_option linter.unusedSimpArgs false

set_option maxRecDepth 100000 in
set_option maxHeartbeats 4000000 in
theorem law_DirectSum_neg0 (ao0 : Option Addr) (S0 : List Int) (cap0 : Nat) (hn0 : S0.length ≤ 9223372036854775807) (ao1 : Option Addr) (S1 : List Int) (cap1 : Nat) (hn1 : S1.length ≤ 9223372036854775807) (ao2 : Option Addr) (S2 : List Int) (cap2 : Nat) (hn2 : S2.length ≤ 9223372036854775807) (ao3 : Option Addr) (S3 : List Int) (cap3 : Nat) (hn3 : S3.length ≤ 9223372036854775807) (w : World) (hS0 : Ints w ao0 S0) (hS1 : Ints w ao1 S1) (hS2 : Ints w ao2 S2) (hS3 : Ints w ao3 S3)  (hneg : 1048576 < S1.length) :
    Calls Try.prog 3 #[.agg #[.slice ao0 S0.length cap0], .slice ao1 S1.length cap1, .agg #[.slice ao2 S2.length cap2], .slice ao3 S3.length cap3] w fun e w' => e = .returned (.bool true) ∧ Below w.heap.size w w' := by
  go_enter Try.func3, Try.ntmps3
  go_wp2_with fail
  go_ret
  exact ⟨rfl, by go_grown⟩

set_option maxRecDepth 100000 in
set_option maxHeartbeats 4000000 in
theorem law_DirectSum_neg1 (ao0 : Option Addr) (S0 : List Int) (cap0 : Nat) (hn0 : S0.length ≤ 9223372036854775807) (ao1 : Option Addr) (S1 : List Int) (cap1 : Nat) (hn1 : S1.length ≤ 9223372036854775807) (ao2 : Option Addr) (S2 : List Int) (cap2 : Nat) (hn2 : S2.length ≤ 9223372036854775807) (ao3 : Option Addr) (S3 : List Int) (cap3 : Nat) (hn3 : S3.length ≤ 9223372036854775807) (w : World) (hS0 : Ints w ao0 S0) (hS1 : Ints w ao1 S1) (hS2 : Ints w ao2 S2) (hS3 : Ints w ao3 S3) (hk0 : S1.length ≤ 1048576) (hneg : 1048576 < S3.length) :
    Calls Try.prog 3 #[.agg #[.slice ao0 S0.length cap0], .slice ao1 S1.length cap1, .agg #[.slice ao2 S2.length cap2], .slice ao3 S3.length cap3] w fun e w' => e = .returned (.bool true) ∧ Below w.heap.size w w' := by
  go_enter Try.func3, Try.ntmps3
  go_wp2_with fail
  go_ret
  exact ⟨rfl, by go_grown⟩

set_option maxRecDepth 100000 in
set_option maxHeartbeats 4000000 in
theorem law_DirectSum_neg2 (ao0 : Option Addr) (S0 : List Int) (cap0 : Nat) (hn0 : S0.length ≤ 9223372036854775807) (ao1 : Option Addr) (S1 : List Int) (cap1 : Nat) (hn1 : S1.length ≤ 9223372036854775807) (ao2 : Option Addr) (S2 : List Int) (cap2 : Nat) (hn2 : S2.length ≤ 9223372036854775807) (ao3 : Option Addr) (S3 : List Int) (cap3 : Nat) (hn3 : S3.length ≤ 9223372036854775807) (w : World) (hS0 : Ints w ao0 S0) (hS1 : Ints w ao1 S1) (hS2 : Ints w ao2 S2) (hS3 : Ints w ao3 S3) (hk0 : S1.length ≤ 1048576) (hk1 : S3.length ≤ 1048576) (hneg : 1048576 < (S0.length : Int)) :
    Calls Try.prog 3 #[.agg #[.slice ao0 S0.length cap0], .slice ao1 S1.length cap1, .agg #[.slice ao2 S2.length cap2], .slice ao3 S3.length cap3] w fun e w' => e = .returned (.bool true) ∧ Below w.heap.size w w' := by
  have hz3 : szOf S0.length (1048576) = -1 := by unfold szOf; rw [if_pos (by omega)]
  go_enter Try.func3, Try.ntmps3
  go_wp2_with fail
  refine (szSpace_any _ _ _ _ _ hn0 (by omega) (by omega)).mono ?_
  rintro e w1 ⟨rfl, hb⟩
  have B : Below w.heap.size w w1 := Below.trans (by go_grown) (hb.mono (by simp; try omega))
  have c0 : w1.cell? ⟨w.heap.size, 0, none⟩ = some (.slice ao0 S0.length cap0) := kept_cell hb (by simp) (by simp; try omega)
  have l0 : w.heap.size < w1.heap.size := lt_of_below hb (by simp; try omega)
  have pl0 : w.heap.size < w1.heap.size := l0
  have c2 : w1.cell? ⟨w.heap.size + 1, 0, none⟩ = some (.slice ao2 S2.length cap2) := kept_cell hb (by simp) (by simp; try omega)
  have l2 : w.heap.size + 1 < w1.heap.size := lt_of_below hb (by simp; try omega)
  have pl2 : w.heap.size + 1 < w1.heap.size := l2
  have s0 : w.heap.size ≤ w1.heap.size := B.size
  clear hb
  go_wp2_with fail
  go_ret
  exact ⟨rfl, B⟩

set_option maxRecDepth 100000 in
set_option maxHeartbeats 4000000 in
theorem law_DirectSum_neg3 (ao0 : Option Addr) (S0 : List Int) (cap0 : Nat) (hn0 : S0.length ≤ 9223372036854775807) (ao1 : Option Addr) (S1 : List Int) (cap1 : Nat) (hn1 : S1.length ≤ 9223372036854775807) (ao2 : Option Addr) (S2 : List Int) (cap2 : Nat) (hn2 : S2.length ≤ 9223372036854775807) (ao3 : Option Addr) (S3 : List Int) (cap3 : Nat) (hn3 : S3.length ≤ 9223372036854775807) (w : World) (hS0 : Ints w ao0 S0) (hS1 : Ints w ao1 S1) (hS2 : Ints w ao2 S2) (hS3 : Ints w ao3 S3) (hk0 : S1.length ≤ 1048576) (hk1 : S3.length ≤ 1048576) (hk2 : (S0.length : Int) ≤ 1048576) (hneg : 1048576 - (S0.length : Int) < (S2.length : Int)) :
    Calls Try.prog 3 #[.agg #[.slice ao0 S0.length cap0], .slice ao1 S1.length cap1, .agg #[.slice ao2 S2.length cap2], .slice ao3 S3.length cap3] w fun e w' => e = .returned (.bool true) ∧ Below w.heap.size w w' := by
  have hz3 : szOf S0.length (1048576) = 1048576 - (S0.length : Int) := by unfold szOf; rw [if_neg (by omega)]
  have hz5 : szOf S2.length (1048576 - (S0.length : Int)) = -1 := by unfold szOf; rw [if_pos (by omega)]
  go_enter Try.func3, Try.ntmps3
  go_wp2_with fail
  refine (szSpace_any _ _ _ _ _ hn0 (by omega) (by omega)).mono ?_
  rintro e w1 ⟨rfl, hb⟩
  have B : Below w.heap.size w w1 := Below.trans (by go_grown) (hb.mono (by simp; try omega))
  have c0 : w1.cell? ⟨w.heap.size, 0, none⟩ = some (.slice ao0 S0.length cap0) := kept_cell hb (by simp) (by simp; try omega)
  have l0 : w.heap.size < w1.heap.size := lt_of_below hb (by simp; try omega)
  have pl0 : w.heap.size < w1.heap.size := l0
  have c2 : w1.cell? ⟨w.heap.size + 1, 0, none⟩ = some (.slice ao2 S2.length cap2) := kept_cell hb (by simp) (by simp; try omega)
  have l2 : w.heap.size + 1 < w1.heap.size := lt_of_below hb (by simp; try omega)
  have pl2 : w.heap.size + 1 < w1.heap.size := l2
  have s0 : w.heap.size ≤ w1.heap.size := B.size
  clear hb
  go_wp2_with fail
  refine (szSpace_any _ _ _ _ _ hn2 (by omega) (by omega)).mono ?_
  rintro e w2 ⟨rfl, hb⟩
  replace c0 := kept_cell hb c0 l0
  replace l0 := lt_of_below hb l0
  replace c2 := kept_cell hb c2 l2
  replace l2 := lt_of_below hb l2
  replace B := B.trans (hb.mono B.size)
  have s1 : w1.heap.size ≤ w2.heap.size := hb.size
  clear hb
  go_wp2_with fail
  go_ret
  exact ⟨rfl, B⟩

set_option maxRecDepth 100000 in
set_option maxHeartbeats 4000000 in
theorem law_DirectSum_main (ao0 : Option Addr) (S0 : List Int) (cap0 : Nat) (hn0 : S0.length ≤ 9223372036854775807) (ao1 : Option Addr) (S1 : List Int) (cap1 : Nat) (hn1 : S1.length ≤ 9223372036854775807) (ao2 : Option Addr) (S2 : List Int) (cap2 : Nat) (hn2 : S2.length ≤ 9223372036854775807) (ao3 : Option Addr) (S3 : List Int) (cap3 : Nat) (hn3 : S3.length ≤ 9223372036854775807) (w : World) (hS0 : Ints w ao0 S0) (hS1 : Ints w ao1 S1) (hS2 : Ints w ao2 S2) (hS3 : Ints w ao3 S3) (hk0 : S1.length ≤ 1048576) (hk1 : S3.length ≤ 1048576) (hk2 : (S0.length : Int) ≤ 1048576) (hk3 : (S2.length : Int) ≤ 1048576 - (S0.length : Int)) :
    Calls Try.prog 3 #[.agg #[.slice ao0 S0.length cap0], .slice ao1 S1.length cap1, .agg #[.slice ao2 S2.length cap2], .slice ao3 S3.length cap3] w fun e w' => e = .returned (.bool true) ∧ Below w.heap.size w w' := by
  have hz3 : szOf S0.length (1048576) = 1048576 - (S0.length : Int) := by unfold szOf; rw [if_neg (by omega)]
  have hz5 : szOf S2.length (1048576 - (S0.length : Int)) = 1048576 - (S0.length : Int) - (S2.length : Int) := by unfold szOf; rw [if_neg (by omega)]
  have HLn0 := vDsS_len S0 S1 S2 S3
  have HLn1 := vDsC_len S0 S1 S2 S3
  go_enter Try.func3, Try.ntmps3
  go_wp2_with fail
  refine (szSpace_any _ _ _ _ _ hn0 (by omega) (by omega)).mono ?_
  rintro e w1 ⟨rfl, hb⟩
  have B : Below w.heap.size w w1 := Below.trans (by go_grown) (hb.mono (by simp; try omega))
  have c0 : w1.cell? ⟨w.heap.size, 0, none⟩ = some (.slice ao0 S0.length cap0) := kept_cell hb (by simp) (by simp; try omega)
  have l0 : w.heap.size < w1.heap.size := lt_of_below hb (by simp; try omega)
  have pl0 : w.heap.size < w1.heap.size := l0
  have c2 : w1.cell? ⟨w.heap.size + 1, 0, none⟩ = some (.slice ao2 S2.length cap2) := kept_cell hb (by simp) (by simp; try omega)
  have l2 : w.heap.size + 1 < w1.heap.size := lt_of_below hb (by simp; try omega)
  have pl2 : w.heap.size + 1 < w1.heap.size := l2
  have s0 : w.heap.size ≤ w1.heap.size := B.size
  clear hb
  go_wp2_with fail
  refine (szSpace_any _ _ _ _ _ hn2 (by omega) (by omega)).mono ?_
  rintro e w2 ⟨rfl, hb⟩
  replace c0 := kept_cell hb c0 l0
  replace l0 := lt_of_below hb l0
  replace c2 := kept_cell hb c2 l2
  replace l2 := lt_of_below hb l2
  replace B := B.trans (hb.mono B.size)
  have s1 : w1.heap.size ≤ w2.heap.size := hb.size
  clear hb
  go_upto_region 12 with fail
  go_cut [10, 11, 12] from 42 to 54 (fun sx sy sz wx => ∃ (q : Nat) (as0 : Option Addr) (ks0 : Nat) (a0 : Option Addr) (k0 : Nat), sx = .pointer (some ⟨q, 0, none⟩) ∧ sy = (.slice a0 (vDsC S0 S1 S2 S3).length k0) ∧ sz = .int .i64 (eDs S0 S1 S2 S3) ∧ wx.cell? ⟨q, 0, none⟩ = some (.slice as0 (vDsS S0 S1 S2 S3).length ks0) ∧ q < wx.heap.size ∧ OwnInts wx w2.heap.size (.slice as0 (vDsS S0 S1 S2 S3).length ks0) (vDsS S0 S1 S2 S3) ∧ OwnInts wx w2.heap.size (.slice a0 (vDsC S0 S1 S2 S3).length k0) (vDsC S0 S1 S2 S3) ∧ Below w2.heap.size w2 wx)
  case first =>
    have H0 : Below w2.heap.size w2 w2 := Below.refl _ _
    refine wp_region_held_drew (S := fun w' => w'.cell? ⟨w.heap.size, 0, none⟩ = some (.slice ao0 S0.length cap0) ∧ w'.cell? ⟨w.heap.size + 1, 0, none⟩ = some (.slice ao2 S2.length cap2)) (by kernel_rfl) ⟨c0, c2⟩ (fun hHeld => ?_)
    refine wpAnyH_take (i := 0) (v := ?_) rfl (by kernel_rfl) (by kernel_rfl) (by kernel_rfl) (fun _ _ _ h => h) (Or.inl ⟨by rfl, ?_⟩) (by assumption) ?_
    rotate_left
    · (intro w hSw; obtain ⟨hSa, hSb⟩ := hSw; (try dsimp only at hSa hSb); go_simp; try (with_reducible rfl))
    (try simp only [Act.put, List.setIfInBounds_toArray, List.set_cons_zero, List.set_cons_succ])
    refine wpAnyH_take (i := 2) (v := ?_) rfl (by kernel_rfl) (by kernel_rfl) (by kernel_rfl) (fun _ _ _ h => h) (Or.inl ⟨by rfl, ?_⟩) (by assumption) ?_
    rotate_left
    · (intro w hSw; obtain ⟨hSa, hSb⟩ := hSw; (try dsimp only at hSa hSb); go_simp; try (with_reducible rfl))
    (try simp only [Act.put, List.setIfInBounds_toArray, List.set_cons_zero, List.set_cons_succ])
    refine wpAnyH_take (i := 4) (v := ?_) rfl (by kernel_rfl) (by kernel_rfl) (by kernel_rfl) (fun _ _ _ h => h) (Or.inl ⟨by rfl, ?_⟩) (by assumption) ?_
    rotate_left
    · (intro w hSw; obtain ⟨hSa, hSb⟩ := hSw; (try dsimp only at hSa hSb); go_simp; try (with_reducible rfl))
    (try simp only [Act.put, List.setIfInBounds_toArray, List.set_cons_zero, List.set_cons_succ])
    refine wpAnyH_take (i := 6) (v := ?_) rfl (by kernel_rfl) (by kernel_rfl) (by kernel_rfl) (fun _ _ _ h => h) (Or.inl ⟨by rfl, ?_⟩) (by assumption) ?_
    rotate_left
    · (intro w hSw; obtain ⟨hSa, hSb⟩ := hSw; (try dsimp only at hSa hSb); go_simp; try (with_reducible rfl))
    (try simp only [Act.put, List.setIfInBounds_toArray, List.set_cons_zero, List.set_cons_succ])
    refine wpAnyH_ready (rs := [1, 13]) (by kernel_rfl) (by simp) ?_
    refine AllReadyH.cons rfl (fun K hK => ?_) ?_
    · go_simp
      (go_at_call 14; refine (toSpace_any ao0 S0 cap0 _ (by omega) (hS0.below ((B.trans (H0.mono B.size)).drew))).mono ?_)
      rintro e x1 ⟨b1, rfl, y1, h1'⟩
      have h1 : Below w2.heap.size w2 x1 := (Below.refl _ w2).drew.trans h1'
      have H1 : Below w2.heap.size w2 x1 := H0.trans (h1.mono H0.size)
      have z1 := H1.size
      clear h1 h1'
      refine hK.out _ _ (⟨kept_cell H1 c0 l0, kept_cell H1 c2 l2⟩) (fun hHeld => ?_)
      clear hK K
      (try simp only [Act.put, List.setIfInBounds_toArray, List.set_cons_zero, List.set_cons_succ])
      refine wpAnyH_ready (rs := [3, 13]) (by kernel_rfl) (by simp) ?_
      refine AllReadyH.cons rfl (fun K hK => ?_) ?_
      · go_simp
        (go_at_call 15; refine (toInt64S_any ao1 S1 cap1 _ (by omega) (hS1.below ((B.trans (H1.mono B.size))))).mono ?_)
        rintro e x2 ⟨b2, rfl, y2, h2'⟩
        have h2 : Below x1.heap.size x1 x2 := h2'
        have H2 : Below w2.heap.size w2 x2 := H1.trans (h2.mono H1.size)
        have z2 := H2.size
        replace y1 := y1.below h2
        clear h2 h2'
        refine hK.out _ _ (⟨kept_cell H2 c0 l0, kept_cell H2 c2 l2⟩) (fun hHeld => ?_)
        clear hK K
        (try simp only [Act.put, List.setIfInBounds_toArray, List.set_cons_zero, List.set_cons_succ])
        refine wpAnyH_ready (rs := [5, 13]) (by kernel_rfl) (by simp) ?_
        refine AllReadyH.cons rfl (fun K hK => ?_) ?_
        · go_simp
          (go_at_call 14; refine (toSpace_any ao2 S2 cap2 _ (by omega) (hS2.below ((B.trans (H2.mono B.size))))).mono ?_)
          rintro e x3 ⟨b3, rfl, y3, h3'⟩
          have h3 : Below x2.heap.size x2 x3 := h3'
          have H3 : Below w2.heap.size w2 x3 := H2.trans (h3.mono H2.size)
          have z3 := H3.size
          replace y1 := y1.below h3
          replace y2 := y2.below h3
          clear h3 h3'
          refine hK.out _ _ (⟨kept_cell H3 c0 l0, kept_cell H3 c2 l2⟩) (fun hHeld => ?_)
          clear hK K
          (try simp only [Act.put, List.setIfInBounds_toArray, List.set_cons_zero, List.set_cons_succ])
          refine wpAnyH_ready (rs := [7, 13]) (by kernel_rfl) (by simp) ?_
          refine AllReadyH.cons rfl (fun K hK => ?_) ?_
          · go_simp
            (go_at_call 15; refine (toInt64S_any ao3 S3 cap3 _ (by omega) (hS3.below ((B.trans (H3.mono B.size))))).mono ?_)
            rintro e x4 ⟨b4, rfl, y4, h4'⟩
            have h4 : Below x3.heap.size x3 x4 := h4'
            have H4 : Below w2.heap.size w2 x4 := H3.trans (h4.mono H3.size)
            have z4 := H4.size
            replace y1 := y1.below h4
            replace y2 := y2.below h4
            replace y3 := y3.below h4
            clear h4 h4'
            refine hK.out _ _ (⟨kept_cell H4 c0 l0, kept_cell H4 c2 l2⟩) (fun hHeld => ?_)
            clear hK K
            (try simp only [Act.put, List.setIfInBounds_toArray, List.set_cons_zero, List.set_cons_succ])
            refine wpAnyH_ready (rs := [8, 13]) (by kernel_rfl) (by simp) ?_
            refine AllReadyH.cons rfl (fun K hK => ?_) ?_
            · go_simp
              (go_at_call 13; refine (spec_DirectSum _ S0 _ (by omega) _ S1 _ (by omega) _ S2 _ (by omega) _ S3 _ (by omega) _ (own_ints y1) (own_ints y2) (own_ints y3) (own_ints y4)).mono ?_)
              rintro e x5 ⟨m0, vs0, v0, rfl, hm0, hr0, os0, o0, hn0, h5'⟩
              have h5 : Below x4.heap.size x4 x5 := h5'
              have H5 : Below w2.heap.size w2 x5 := H4.trans (h5.mono H4.size)
              have z5 := H5.size
              obtain ⟨as0, ks0, hv⟩ := os0.shape
              subst hv
              obtain ⟨a0, k0, hv⟩ := o0.shape
              subst hv
              have hm1 : x4.heap.size ≤ m0 := hm0
              refine hK.out _ _ (⟨kept_cell H5 c0 l0, kept_cell H5 c2 l2⟩) (fun hHeld => ?_)
              clear hK K
              (try simp only [Act.put, List.setIfInBounds_toArray, List.set_cons_zero, List.set_cons_succ])
              refine wpAnyH_take (i := 9) (v := ?_) rfl (by kernel_rfl) (by kernel_rfl) (by kernel_rfl) (fun _ _ _ h => h) (Or.inl ⟨by rfl, ?_⟩) (by assumption) ?_
              rotate_left
              · (intro w hSw; obtain ⟨hSa, hSb⟩ := hSw; (try dsimp only at hSa hSb); go_simp; try (with_reducible rfl))
              (try simp only [Act.put, List.setIfInBounds_toArray, List.set_cons_zero, List.set_cons_succ])
              refine wpAnyH_take (i := 10) (v := ?_) rfl (by kernel_rfl) (by kernel_rfl) (by kernel_rfl) (fun _ _ _ h => h) (Or.inl ⟨by rfl, ?_⟩) (by assumption) ?_
              rotate_left
              · (intro w hSw; obtain ⟨hSa, hSb⟩ := hSw; (try dsimp only at hSa hSb); go_simp; try (with_reducible rfl))
              (try simp only [Act.put, List.setIfInBounds_toArray, List.set_cons_zero, List.set_cons_succ])
              refine wpAnyH_take (i := 11) (v := ?_) rfl (by kernel_rfl) (by kernel_rfl) (by kernel_rfl) (fun _ _ _ h => h) (Or.inl ⟨by rfl, ?_⟩) (by assumption) ?_
              rotate_left
              · (intro w hSw; obtain ⟨hSa, hSb⟩ := hSw; (try dsimp only at hSa hSb); go_simp; try (with_reducible rfl))
              (try simp only [Act.put, List.setIfInBounds_toArray, List.set_cons_zero, List.set_cons_succ])
              refine wpAnyH_take (i := 12) (v := ?_) rfl (by kernel_rfl) (by kernel_rfl) (by kernel_rfl) (fun _ _ _ h => h) (Or.inl ⟨by rfl, ?_⟩) (by assumption) ?_
              rotate_left
              · (intro w hSw; obtain ⟨hSa, hSb⟩ := hSw; (try dsimp only at hSa hSb); go_simp; try (with_reducible rfl))
              (try simp only [Act.put, List.setIfInBounds_toArray, List.set_cons_zero, List.set_cons_succ])
              refine wpAnyH_ready (rs := [13]) (by kernel_rfl) (by simp) ?_
              refine AllReadyH.cons rfl (fun K hK => ?_) AllReadyH.nil
              go_simp
              have HA : Below w2.heap.size w2 (x5.alloc (.cells #[.slice none 0 0] 26)) := H5.alloc H5.size _
              refine hK.out _ _ (⟨kept_cell HA c0 l0, kept_cell HA c2 l2⟩) (fun hHeld => ?_)
              clear hK K
              (try simp only [Act.put, List.setIfInBounds_toArray, List.set_cons_zero, List.set_cons_succ])
              refine wpAnyH_ready (rs := [14]) (by kernel_rfl) (by simp) ?_
              refine AllReadyH.cons rfl (fun K hK => ?_) AllReadyH.nil
              go_simp
              have HF : Below w2.heap.size w2 (x5.alloc (.cells #[(.slice as0 (vDsS S0 S1 S2 S3).length ks0)] 26)) := H5.alloc H5.size _
              refine hK.out _ _ (⟨kept_cell HF c0 l0, kept_cell HF c2 l2⟩) (fun hHeld => ?_)
              clear hK K
              (try simp only [Act.put, List.setIfInBounds_toArray, List.set_cons_zero, List.set_cons_succ])
              refine wpAnyH_take (i := 15) (v := ?_) rfl (by kernel_rfl) (by kernel_rfl) (by kernel_rfl) (fun _ _ _ h => h) (Or.inl ⟨by rfl, ?_⟩) (by assumption) ?_
              rotate_left
              · (intro w hSw; obtain ⟨hSa, hSb⟩ := hSw; (try dsimp only at hSa hSb); go_simp; try (with_reducible rfl))
              (try simp only [Act.put, List.setIfInBounds_toArray, List.set_cons_zero, List.set_cons_succ])
              refine wpAnyH_take (i := 16) (v := ?_) rfl (by kernel_rfl) (by kernel_rfl) (by kernel_rfl) (fun _ _ _ h => h) (Or.inl ⟨by rfl, ?_⟩) (by assumption) ?_
              rotate_left
              · (intro w hSw; obtain ⟨hSa, hSb⟩ := hSw; (try dsimp only at hSa hSb); go_simp; try (with_reducible rfl))
              (try simp only [Act.put, List.setIfInBounds_toArray, List.set_cons_zero, List.set_cons_succ])
              refine wpAnyH_done (by kernel_rfl) ?_ _
              (try simp only [List.getElem_toArray, List.getElem_cons_succ, List.getElem_cons_zero, Act.put, List.setIfInBounds_toArray, List.set_cons_zero, List.set_cons_succ])
              go_wp2_with fail
              go_meet
              exact ⟨x5.heap.size, as0, ks0, a0, k0, rfl, rfl, rfl, cell_new _ _ _, lt_alloc _ _, (os0.alloc _).rebase (by omega), (o0.alloc _).rebase (by omega), HF⟩
            refine AllReadyH.cons rfl (fun K hK => ?_) AllReadyH.nil
            go_simp
            have H6 : Below w2.heap.size w2 (x4.alloc (.cells #[.slice none 0 0] 26)) := H4.alloc H4.size _
            have z6 : (x4.alloc (.cells #[.slice none 0 0] 26)).heap.size = x4.heap.size + 1 := World.size_alloc _ _
            have rO := heap_alloc_last x4 (.cells #[.slice none 0 0] 26)
            have hp : x4.heap.size < (x4.alloc (.cells #[.slice none 0 0] 26)).heap.size := by omega
            have hpW : w2.heap.size ≤ x4.heap.size := H4.size
            replace y1 := y1.alloc (.cells #[.slice none 0 0] 26)
            replace y2 := y2.alloc (.cells #[.slice none 0 0] 26)
            replace y3 := y3.alloc (.cells #[.slice none 0 0] 26)
            replace y4 := y4.alloc (.cells #[.slice none 0 0] 26)
            refine hK.out _ _ (⟨kept_cell H6 c0 l0, kept_cell H6 c2 l2⟩) (fun hHeld => ?_)
            clear hK K
            (try simp only [Act.put, List.setIfInBounds_toArray, List.set_cons_zero, List.set_cons_succ])
            refine wpAnyH_ready (rs := [8]) (by kernel_rfl) (by simp) ?_
            refine AllReadyH.cons rfl (fun K hK => ?_) AllReadyH.nil
            go_simp
            have hpq := hp
            (go_at_call 13; refine (spec_DirectSum _ S0 _ (by omega) _ S1 _ (by omega) _ S2 _ (by omega) _ S3 _ (by omega) _ (own_ints y1) (own_ints y2) (own_ints y3) (own_ints y4)).mono ?_)
            rintro e x7 ⟨m0, vs0, v0, rfl, hm0, hr0, os0, o0, hn0, h7'⟩
            have h7 : Below (x4.alloc (.cells #[.slice none 0 0] 26)).heap.size (x4.alloc (.cells #[.slice none 0 0] 26)) x7 := h7'
            have H7 : Below w2.heap.size w2 x7 := H6.trans (h7.mono H6.size)
            have z7 := H7.size
            obtain ⟨as0, ks0, hv⟩ := os0.shape
            subst hv
            obtain ⟨a0, k0, hv⟩ := o0.shape
            subst hv
            have hm1 : (x4.alloc (.cells #[.slice none 0 0] 26)).heap.size ≤ m0 := hm0
            replace rO := row_below rO h7 (by omega)
            replace hp : x4.heap.size < x7.heap.size := Nat.lt_of_lt_of_le hp h7.size
            refine hK.out _ _ (⟨kept_cell H7 c0 l0, kept_cell H7 c2 l2⟩) (fun hHeld => ?_)
            clear hK K
            (try simp only [Act.put, List.setIfInBounds_toArray, List.set_cons_zero, List.set_cons_succ])
            refine wpAnyH_take (i := 9) (v := ?_) rfl (by kernel_rfl) (by kernel_rfl) (by kernel_rfl) (fun _ _ _ h => h) (Or.inl ⟨by rfl, ?_⟩) (by assumption) ?_
            rotate_left
            · (intro w hSw; obtain ⟨hSa, hSb⟩ := hSw; (try dsimp only at hSa hSb); go_simp; try (with_reducible rfl))
            (try simp only [Act.put, List.setIfInBounds_toArray, List.set_cons_zero, List.set_cons_succ])
            refine wpAnyH_take (i := 10) (v := ?_) rfl (by kernel_rfl) (by kernel_rfl) (by kernel_rfl) (fun _ _ _ h => h) (Or.inl ⟨by rfl, ?_⟩) (by assumption) ?_
            rotate_left
            · (intro w hSw; obtain ⟨hSa, hSb⟩ := hSw; (try dsimp only at hSa hSb); go_simp; try (with_reducible rfl))
            (try simp only [Act.put, List.setIfInBounds_toArray, List.set_cons_zero, List.set_cons_succ])
            refine wpAnyH_take (i := 11) (v := ?_) rfl (by kernel_rfl) (by kernel_rfl) (by kernel_rfl) (fun _ _ _ h => h) (Or.inl ⟨by rfl, ?_⟩) (by assumption) ?_
            rotate_left
            · (intro w hSw; obtain ⟨hSa, hSb⟩ := hSw; (try dsimp only at hSa hSb); go_simp; try (with_reducible rfl))
            (try simp only [Act.put, List.setIfInBounds_toArray, List.set_cons_zero, List.set_cons_succ])
            refine wpAnyH_take (i := 12) (v := ?_) rfl (by kernel_rfl) (by kernel_rfl) (by kernel_rfl) (fun _ _ _ h => h) (Or.inl ⟨by rfl, ?_⟩) (by assumption) ?_
            rotate_left
            · (intro w hSw; obtain ⟨hSa, hSb⟩ := hSw; (try dsimp only at hSa hSb); go_simp; try (with_reducible rfl))
            (try simp only [Act.put, List.setIfInBounds_toArray, List.set_cons_zero, List.set_cons_succ])
            refine wpAnyH_ready (rs := [14]) (by kernel_rfl) (by simp) ?_
            refine AllReadyH.cons rfl (fun K hK => ?_) AllReadyH.nil
            have rcO : x7.cell? ⟨x4.heap.size, 0, none⟩ = some (.slice none 0 0) := by rw [cell_of_row x7 (x4.heap.size) 0 _ _ _ rO]; rfl
            have rfO : x7.frozen? ⟨x4.heap.size, 0, none⟩ = false := by have h' := rO; simp [World.frozen?, h']
            go_simp
            have HF : Below w2.heap.size w2 (x7.setCell ⟨x4.heap.size, 0, none⟩ (.slice as0 (vDsS S0 S1 S2 S3).length ks0)) := H7.setCell (show w2.heap.size ≤ x4.heap.size from hpW) _
            refine hK.out _ _ (⟨kept_cell HF c0 l0, kept_cell HF c2 l2⟩) (fun hHeld => ?_)
            clear hK K
            (try simp only [Act.put, List.setIfInBounds_toArray, List.set_cons_zero, List.set_cons_succ])
            refine wpAnyH_take (i := 15) (v := ?_) rfl (by kernel_rfl) (by kernel_rfl) (by kernel_rfl) (fun _ _ _ h => h) (Or.inl ⟨by rfl, ?_⟩) (by assumption) ?_
            rotate_left
            · (intro w hSw; obtain ⟨hSa, hSb⟩ := hSw; (try dsimp only at hSa hSb); go_simp; try (with_reducible rfl))
            (try simp only [Act.put, List.setIfInBounds_toArray, List.set_cons_zero, List.set_cons_succ])
            refine wpAnyH_take (i := 16) (v := ?_) rfl (by kernel_rfl) (by kernel_rfl) (by kernel_rfl) (fun _ _ _ h => h) (Or.inl ⟨by rfl, ?_⟩) (by assumption) ?_
            rotate_left
            · (intro w hSw; obtain ⟨hSa, hSb⟩ := hSw; (try dsimp only at hSa hSb); go_simp; try (with_reducible rfl))
            (try simp only [Act.put, List.setIfInBounds_toArray, List.set_cons_zero, List.set_cons_succ])
            refine wpAnyH_done (by kernel_rfl) ?_ _
            (try simp only [List.getElem_toArray, List.getElem_cons_succ, List.getElem_cons_zero, Act.put, List.setIfInBounds_toArray, List.set_cons_zero, List.set_cons_succ])
            go_wp2_with fail
            go_meet
            exact ⟨x4.heap.size, as0, ks0, a0, k0, rfl, rfl, rfl, World.cell?_setCell_same' _ _ _ (by rw [rcO]; rfl), by simp; omega, (os0.setBelow (show x4.heap.size < _ by omega) _).rebase (by omega), (o0.setBelow (show x4.heap.size < _ by omega) _).rebase (by omega), HF⟩
          refine AllReadyH.cons rfl (fun K hK => ?_) AllReadyH.nil
          go_simp
          have H8 : Below w2.heap.size w2 (x3.alloc (.cells #[.slice none 0 0] 26)) := H3.alloc H3.size _
          have z8 : (x3.alloc (.cells #[.slice none 0 0] 26)).heap.size = x3.heap.size + 1 := World.size_alloc _ _
          have rO := heap_alloc_last x3 (.cells #[.slice none 0 0] 26)
          have hp : x3.heap.size < (x3.alloc (.cells #[.slice none 0 0] 26)).heap.size := by omega
          have hpW : w2.heap.size ≤ x3.heap.size := H3.size
          replace y1 := y1.alloc (.cells #[.slice none 0 0] 26)
          replace y2 := y2.alloc (.cells #[.slice none 0 0] 26)
          replace y3 := y3.alloc (.cells #[.slice none 0 0] 26)
          refine hK.out _ _ (⟨kept_cell H8 c0 l0, kept_cell H8 c2 l2⟩) (fun hHeld => ?_)
          clear hK K
          (try simp only [Act.put, List.setIfInBounds_toArray, List.set_cons_zero, List.set_cons_succ])
          refine wpAnyH_ready (rs := [7]) (by kernel_rfl) (by simp) ?_
          refine AllReadyH.cons rfl (fun K hK => ?_) AllReadyH.nil
          go_simp
          (go_at_call 15; refine (toInt64S_any ao3 S3 cap3 _ (by omega) (hS3.below ((B.trans (H8.mono B.size))))).mono ?_)
          rintro e x9 ⟨b9, rfl, y9, h9'⟩
          have h9 : Below (x3.alloc (.cells #[.slice none 0 0] 26)).heap.size (x3.alloc (.cells #[.slice none 0 0] 26)) x9 := h9'
          have H9 : Below w2.heap.size w2 x9 := H8.trans (h9.mono H8.size)
          have z9 := H9.size
          replace y1 := y1.below h9
          replace y2 := y2.below h9
          replace y3 := y3.below h9
          replace rO := row_below rO h9 (by omega)
          replace hp : x3.heap.size < x9.heap.size := Nat.lt_of_lt_of_le hp h9.size
          clear h9 h9'
          refine hK.out _ _ (⟨kept_cell H9 c0 l0, kept_cell H9 c2 l2⟩) (fun hHeld => ?_)
          clear hK K
          (try simp only [Act.put, List.setIfInBounds_toArray, List.set_cons_zero, List.set_cons_succ])
          refine wpAnyH_ready (rs := [8]) (by kernel_rfl) (by simp) ?_
          refine AllReadyH.cons rfl (fun K hK => ?_) AllReadyH.nil
          go_simp
          have hpq := hp
          (go_at_call 13; refine (spec_DirectSum _ S0 _ (by omega) _ S1 _ (by omega) _ S2 _ (by omega) _ S3 _ (by omega) _ (own_ints y1) (own_ints y2) (own_ints y3) (own_ints y9)).mono ?_)
          rintro e x10 ⟨m0, vs0, v0, rfl, hm0, hr0, os0, o0, hn0, h10'⟩
          have h10 : Below x9.heap.size x9 x10 := h10'
          have H10 : Below w2.heap.size w2 x10 := H9.trans (h10.mono H9.size)
          have z10 := H10.size
          obtain ⟨as0, ks0, hv⟩ := os0.shape
          subst hv
          obtain ⟨a0, k0, hv⟩ := o0.shape
          subst hv
          have hm1 : x9.heap.size ≤ m0 := hm0
          replace rO := row_below rO h10 (by omega)
          replace hp : x3.heap.size < x10.heap.size := Nat.lt_of_lt_of_le hp h10.size
          refine hK.out _ _ (⟨kept_cell H10 c0 l0, kept_cell H10 c2 l2⟩) (fun hHeld => ?_)
          clear hK K
          (try simp only [Act.put, List.setIfInBounds_toArray, List.set_cons_zero, List.set_cons_succ])
          refine wpAnyH_take (i := 9) (v := ?_) rfl (by kernel_rfl) (by kernel_rfl) (by kernel_rfl) (fun _ _ _ h => h) (Or.inl ⟨by rfl, ?_⟩) (by assumption) ?_
          rotate_left
          · (intro w hSw; obtain ⟨hSa, hSb⟩ := hSw; (try dsimp only at hSa hSb); go_simp; try (with_reducible rfl))
          (try simp only [Act.put, List.setIfInBounds_toArray, List.set_cons_zero, List.set_cons_succ])
          refine wpAnyH_take (i := 10) (v := ?_) rfl (by kernel_rfl) (by kernel_rfl) (by kernel_rfl) (fun _ _ _ h => h) (Or.inl ⟨by rfl, ?_⟩) (by assumption) ?_
          rotate_left
          · (intro w hSw; obtain ⟨hSa, hSb⟩ := hSw; (try dsimp only at hSa hSb); go_simp; try (with_reducible rfl))
          (try simp only [Act.put, List.setIfInBounds_toArray, List.set_cons_zero, List.set_cons_succ])
          refine wpAnyH_take (i := 11) (v := ?_) rfl (by kernel_rfl) (by kernel_rfl) (by kernel_rfl) (fun _ _ _ h => h) (Or.inl ⟨by rfl, ?_⟩) (by assumption) ?_
          rotate_left
          · (intro w hSw; obtain ⟨hSa, hSb⟩ := hSw; (try dsimp only at hSa hSb); go_simp; try (with_reducible rfl))
          (try simp only [Act.put, List.setIfInBounds_toArray, List.set_cons_zero, List.set_cons_succ])
          refine wpAnyH_take (i := 12) (v := ?_) rfl (by kernel_rfl) (by kernel_rfl) (by kernel_rfl) (fun _ _ _ h => h) (Or.inl ⟨by rfl, ?_⟩) (by assumption) ?_
          rotate_left
          · (intro w hSw; obtain ⟨hSa, hSb⟩ := hSw; (try dsimp only at hSa hSb); go_simp; try (with_reducible rfl))
          (try simp only [Act.put, List.setIfInBounds_toArray, List.set_cons_zero, List.set_cons_succ])
          refine wpAnyH_ready (rs := [14]) (by kernel_rfl) (by simp) ?_
          refine AllReadyH.cons rfl (fun K hK => ?_) AllReadyH.nil
          have rcO : x10.cell? ⟨x3.heap.size, 0, none⟩ = some (.slice none 0 0) := by rw [cell_of_row x10 (x3.heap.size) 0 _ _ _ rO]; rfl
          have rfO : x10.frozen? ⟨x3.heap.size, 0, none⟩ = false := by have h' := rO; simp [World.frozen?, h']
          go_simp
          have HF : Below w2.heap.size w2 (x10.setCell ⟨x3.heap.size, 0, none⟩ (.slice as0 (vDsS S0 S1 S2 S3).length ks0)) := H10.setCell (show w2.heap.size ≤ x3.heap.size from hpW) _
          refine hK.out _ _ (⟨kept_cell HF c0 l0, kept_cell HF c2 l2⟩) (fun hHeld => ?_)
          clear hK K
          (try simp only [Act.put, List.setIfInBounds_toArray, List.set_cons_zero, List.set_cons_succ])
          refine wpAnyH_take (i := 15) (v := ?_) rfl (by kernel_rfl) (by kernel_rfl) (by kernel_rfl) (fun _ _ _ h => h) (Or.inl ⟨by rfl, ?_⟩) (by assumption) ?_
          rotate_left
          · (intro w hSw; obtain ⟨hSa, hSb⟩ := hSw; (try dsimp only at hSa hSb); go_simp; try (with_reducible rfl))
          (try simp only [Act.put, List.setIfInBounds_toArray, List.set_cons_zero, List.set_cons_succ])
          refine wpAnyH_take (i := 16) (v := ?_) rfl (by kernel_rfl) (by kernel_rfl) (by kernel_rfl) (fun _ _ _ h => h) (Or.inl ⟨by rfl, ?_⟩) (by assumption) ?_
          rotate_left
          · (intro w hSw; obtain ⟨hSa, hSb⟩ := hSw; (try dsimp only at hSa hSb); go_simp; try (with_reducible rfl))
          (try simp only [Act.put, List.setIfInBounds_toArray, List.set_cons_zero, List.set_cons_succ])
          refine wpAnyH_done (by kernel_rfl) ?_ _
          (try simp only [List.getElem_toArray, List.getElem_cons_succ, List.getElem_cons_zero, Act.put, List.setIfInBounds_toArray, List.set_cons_zero, List.set_cons_succ])
          go_wp2_with fail
          go_meet
          exact ⟨x3.heap.size, as0, ks0, a0, k0, rfl, rfl, rfl, World.cell?_setCell_same' _ _ _ (by rw [rcO]; rfl), by simp; omega, (os0.setBelow (show x3.heap.size < _ by omega) _).rebase (by omega), (o0.setBelow (show x3.heap.size < _ by omega) _).rebase (by omega), HF⟩
        refine AllReadyH.cons rfl (fun K hK => ?_) AllReadyH.nil
        go_simp
        have H11 : Below w2.heap.size w2 (x2.alloc (.cells #[.slice none 0 0] 26)) := H2.alloc H2.size _
        have z11 : (x2.alloc (.cells #[.slice none 0 0] 26)).heap.size = x2.heap.size + 1 := World.size_alloc _ _
        have rO := heap_alloc_last x2 (.cells #[.slice none 0 0] 26)
        have hp : x2.heap.size < (x2.alloc (.cells #[.slice none 0 0] 26)).heap.size := by omega
        have hpW : w2.heap.size ≤ x2.heap.size := H2.size
        replace y1 := y1.alloc (.cells #[.slice none 0 0] 26)
        replace y2 := y2.alloc (.cells #[.slice none 0 0] 26)
        refine hK.out _ _ (⟨kept_cell H11 c0 l0, kept_cell H11 c2 l2⟩) (fun hHeld => ?_)
        clear hK K
        (try simp only [Act.put, List.setIfInBounds_toArray, List.set_cons_zero, List.set_cons_succ])
        refine wpAnyH_ready (rs := [5]) (by kernel_rfl) (by simp) ?_
        refine AllReadyH.cons rfl (fun K hK => ?_) AllReadyH.nil
        go_simp
        (go_at_call 14; refine (toSpace_any ao2 S2 cap2 _ (by omega) (hS2.below ((B.trans (H11.mono B.size))))).mono ?_)
        rintro e x12 ⟨b12, rfl, y12, h12'⟩
        have h12 : Below (x2.alloc (.cells #[.slice none 0 0] 26)).heap.size (x2.alloc (.cells #[.slice none 0 0] 26)) x12 := h12'
        have H12 : Below w2.heap.size w2 x12 := H11.trans (h12.mono H11.size)
        have z12 := H12.size
        replace y1 := y1.below h12
        replace y2 := y2.below h12
        replace rO := row_below rO h12 (by omega)
        replace hp : x2.heap.size < x12.heap.size := Nat.lt_of_lt_of_le hp h12.size
        clear h12 h12'
        refine hK.out _ _ (⟨kept_cell H12 c0 l0, kept_cell H12 c2 l2⟩) (fun hHeld => ?_)
        clear hK K
        (try simp only [Act.put, List.setIfInBounds_toArray, List.set_cons_zero, List.set_cons_succ])
        refine wpAnyH_ready (rs := [7]) (by kernel_rfl) (by simp) ?_
        refine AllReadyH.cons rfl (fun K hK => ?_) AllReadyH.nil
        go_simp
        (go_at_call 15; refine (toInt64S_any ao3 S3 cap3 _ (by omega) (hS3.below ((B.trans (H12.mono B.size))))).mono ?_)
        rintro e x13 ⟨b13, rfl, y13, h13'⟩
        have h13 : Below x12.heap.size x12 x13 := h13'
        have H13 : Below w2.heap.size w2 x13 := H12.trans (h13.mono H12.size)
        have z13 := H13.size
        replace y1 := y1.below h13
        replace y2 := y2.below h13
        replace y12 := y12.below h13
        replace rO := row_below rO h13 (by omega)
        replace hp : x2.heap.size < x13.heap.size := Nat.lt_of_lt_of_le hp h13.size
        clear h13 h13'
        refine hK.out _ _ (⟨kept_cell H13 c0 l0, kept_cell H13 c2 l2⟩) (fun hHeld => ?_)
        clear hK K
        (try simp only [Act.put, List.setIfInBounds_toArray, List.set_cons_zero, List.set_cons_succ])
        refine wpAnyH_ready (rs := [8]) (by kernel_rfl) (by simp) ?_
        refine AllReadyH.cons rfl (fun K hK => ?_) AllReadyH.nil
        go_simp
        have hpq := hp
        (go_at_call 13; refine (spec_DirectSum _ S0 _ (by omega) _ S1 _ (by omega) _ S2 _ (by omega) _ S3 _ (by omega) _ (own_ints y1) (own_ints y2) (own_ints y12) (own_ints y13)).mono ?_)
        rintro e x14 ⟨m0, vs0, v0, rfl, hm0, hr0, os0, o0, hn0, h14'⟩
        have h14 : Below x13.heap.size x13 x14 := h14'
        have H14 : Below w2.heap.size w2 x14 := H13.trans (h14.mono H13.size)
        have z14 := H14.size
        obtain ⟨as0, ks0, hv⟩ := os0.shape
        subst hv
        obtain ⟨a0, k0, hv⟩ := o0.shape
        subst hv
        have hm1 : x13.heap.size ≤ m0 := hm0
        replace rO := row_below rO h14 (by omega)
        replace hp : x2.heap.size < x14.heap.size := Nat.lt_of_lt_of_le hp h14.size
        refine hK.out _ _ (⟨kept_cell H14 c0 l0, kept_cell H14 c2 l2⟩) (fun hHeld => ?_)
        clear hK K
        (try simp only [Act.put, List.setIfInBounds_toArray, List.set_cons_zero, List.set_cons_succ])
        refine wpAnyH_take (i := 9) (v := ?_) rfl (by kernel_rfl) (by kernel_rfl) (by kernel_rfl) (fun _ _ _ h => h) (Or.inl ⟨by rfl, ?_⟩) (by assumption) ?_
        rotate_left
        · (intro w hSw; obtain ⟨hSa, hSb⟩ := hSw; (try dsimp only at hSa hSb); go_simp; try (with_reducible rfl))
        (try simp only [Act.put, List.setIfInBounds_toArray, List.set_cons_zero, List.set_cons_succ])
        refine wpAnyH_take (i := 10) (v := ?_) rfl (by kernel_rfl) (by kernel_rfl) (by kernel_rfl) (fun _ _ _ h => h) (Or.inl ⟨by rfl, ?_⟩) (by assumption) ?_
        rotate_left
        · (intro w hSw; obtain ⟨hSa, hSb⟩ := hSw; (try dsimp only at hSa hSb); go_simp; try (with_reducible rfl))
        (try simp only [Act.put, List.setIfInBounds_toArray, List.set_cons_zero, List.set_cons_succ])
        refine wpAnyH_take (i := 11) (v := ?_) rfl (by kernel_rfl) (by kernel_rfl) (by kernel_rfl) (fun _ _ _ h => h) (Or.inl ⟨by rfl, ?_⟩) (by assumption) ?_
        rotate_left
        · (intro w hSw; obtain ⟨hSa, hSb⟩ := hSw; (try dsimp only at hSa hSb); go_simp; try (with_reducible rfl))
        (try simp only [Act.put, List.setIfInBounds_toArray, List.set_cons_zero, List.set_cons_succ])
        refine wpAnyH_take (i := 12) (v := ?_) rfl (by kernel_rfl) (by kernel_rfl) (by kernel_rfl) (fun _ _ _ h => h) (Or.inl ⟨by rfl, ?_⟩) (by assumption) ?_
        rotate_left
        · (intro w hSw; obtain ⟨hSa, hSb⟩ := hSw; (try dsimp only at hSa hSb); go_simp; try (with_reducible rfl))
        (try simp only [Act.put, List.setIfInBounds_toArray, List.set_cons_zero, List.set_cons_succ])
        refine wpAnyH_ready (rs := [14]) (by kernel_rfl) (by simp) ?_
        refine AllReadyH.cons rfl (fun K hK => ?_) AllReadyH.nil
        have rcO : x14.cell? ⟨x2.heap.size, 0, none⟩ = some (.slice none 0 0) := by rw [cell_of_row x14 (x2.heap.size) 0 _ _ _ rO]; rfl
        have rfO : x14.frozen? ⟨x2.heap.size, 0, none⟩ = false := by have h' := rO; simp [World.frozen?, h']
        go_simp
        have HF : Below w2.heap.size w2 (x14.setCell ⟨x2.heap.size, 0, none⟩ (.slice as0 (vDsS S0 S1 S2 S3).length ks0)) := H14.setCell (show w2.heap.size ≤ x2.heap.size from hpW) _
        refine hK.out _ _ (⟨kept_cell HF c0 l0, kept_cell HF c2 l2⟩) (fun hHeld => ?_)
        clear hK K
        (try simp only [Act.put, List.setIfInBounds_toArray, List.set_cons_zero, List.set_cons_succ])
        refine wpAnyH_take (i := 15) (v := ?_) rfl (by kernel_rfl) (by kernel_rfl) (by kernel_rfl) (fun _ _ _ h => h) (Or.inl ⟨by rfl, ?_⟩) (by assumption) ?_
        rotate_left
        · (intro w hSw; obtain ⟨hSa, hSb⟩ := hSw; (try dsimp only at hSa hSb); go_simp; try (with_reducible rfl))
        (try simp only [Act.put, List.setIfInBounds_toArray, List.set_cons_zero, List.set_cons_succ])
        refine wpAnyH_take (i := 16) (v := ?_) rfl (by kernel_rfl) (by kernel_rfl) (by kernel_rfl) (fun _ _ _ h => h) (Or.inl ⟨by rfl, ?_⟩) (by assumption) ?_
        rotate_left
        · (intro w hSw; obtain ⟨hSa, hSb⟩ := hSw; (try dsimp only at hSa hSb); go_simp; try (with_reducible rfl))
        (try simp only [Act.put, List.setIfInBounds_toArray, List.set_cons_zero, List.set_cons_succ])
        refine wpAnyH_done (by kernel_rfl) ?_ _
        (try simp only [List.getElem_toArray, List.getElem_cons_succ, List.getElem_cons_zero, Act.put, List.setIfInBounds_toArray, List.set_cons_zero, List.set_cons_succ])
        go_wp2_with fail
        go_meet
        exact ⟨x2.heap.size, as0, ks0, a0, k0, rfl, rfl, rfl, World.cell?_setCell_same' _ _ _ (by rw [rcO]; rfl), by simp; omega, (os0.setBelow (show x2.heap.size < _ by omega) _).rebase (by omega), (o0.setBelow (show x2.heap.size < _ by omega) _).rebase (by omega), HF⟩
      refine AllReadyH.cons rfl (fun K hK => ?_) AllReadyH.nil
      go_simp
      have H15 : Below w2.heap.size w2 (x1.alloc (.cells #[.slice none 0 0] 26)) := H1.alloc H1.size _
      have z15 : (x1.alloc (.cells #[.slice none 0 0] 26)).heap.size = x1.heap.size + 1 := World.size_alloc _ _
      have rO := heap_alloc_last x1 (.cells #[.slice none 0 0] 26)
      have hp : x1.heap.size < (x1.alloc (.cells #[.slice none 0 0] 26)).heap.size := by omega
      have hpW : w2.heap.size ≤ x1.heap.size := H1.size
      replace y1 := y1.alloc (.cells #[.slice none 0 0] 26)
      refine hK.out _ _ (⟨kept_cell H15 c0 l0, kept_cell H15 c2 l2⟩) (fun hHeld => ?_)
      clear hK K
      (try simp only [Act.put, List.setIfInBounds_toArray, List.set_cons_zero, List.set_cons_succ])
      refine wpAnyH_ready (rs := [3]) (by kernel_rfl) (by simp) ?_
      refine AllReadyH.cons rfl (fun K hK => ?_) AllReadyH.nil
      go_simp
      (go_at_call 15; refine (toInt64S_any ao1 S1 cap1 _ (by omega) (hS1.below ((B.trans (H15.mono B.size))))).mono ?_)
      rintro e x16 ⟨b16, rfl, y16, h16'⟩
      have h16 : Below (x1.alloc (.cells #[.slice none 0 0] 26)).heap.size (x1.alloc (.cells #[.slice none 0 0] 26)) x16 := h16'
      have H16 : Below w2.heap.size w2 x16 := H15.trans (h16.mono H15.size)
      have z16 := H16.size
      replace y1 := y1.below h16
      replace rO := row_below rO h16 (by omega)
      replace hp : x1.heap.size < x16.heap.size := Nat.lt_of_lt_of_le hp h16.size
      clear h16 h16'
      refine hK.out _ _ (⟨kept_cell H16 c0 l0, kept_cell H16 c2 l2⟩) (fun hHeld => ?_)
      clear hK K
      (try simp only [Act.put, List.setIfInBounds_toArray, List.set_cons_zero, List.set_cons_succ])
      refine wpAnyH_ready (rs := [5]) (by kernel_rfl) (by simp) ?_
      refine AllReadyH.cons rfl (fun K hK => ?_) AllReadyH.nil
      go_simp
      (go_at_call 14; refine (toSpace_any ao2 S2 cap2 _ (by omega) (hS2.below ((B.trans (H16.mono B.size))))).mono ?_)
      rintro e x17 ⟨b17, rfl, y17, h17'⟩
      have h17 : Below x16.heap.size x16 x17 := h17'
      have H17 : Below w2.heap.size w2 x17 := H16.trans (h17.mono H16.size)
      have z17 := H17.size
      replace y1 := y1.below h17
      replace y16 := y16.below h17
      replace rO := row_below rO h17 (by omega)
      replace hp : x1.heap.size < x17.heap.size := Nat.lt_of_lt_of_le hp h17.size
      clear h17 h17'
      refine hK.out _ _ (⟨kept_cell H17 c0 l0, kept_cell H17 c2 l2⟩) (fun hHeld => ?_)
      clear hK K
      (try simp only [Act.put, List.setIfInBounds_toArray, List.set_cons_zero, List.set_cons_succ])
      refine wpAnyH_ready (rs := [7]) (by kernel_rfl) (by simp) ?_
      refine AllReadyH.cons rfl (fun K hK => ?_) AllReadyH.nil
      go_simp
      (go_at_call 15; refine (toInt64S_any ao3 S3 cap3 _ (by omega) (hS3.below ((B.trans (H17.mono B.size))))).mono ?_)
      rintro e x18 ⟨b18, rfl, y18, h18'⟩
      have h18 : Below x17.heap.size x17 x18 := h18'
      have H18 : Below w2.heap.size w2 x18 := H17.trans (h18.mono H17.size)
      have z18 := H18.size
      replace y1 := y1.below h18
      replace y16 := y16.below h18
      replace y17 := y17.below h18
      replace rO := row_below rO h18 (by omega)
      replace hp : x1.heap.size < x18.heap.size := Nat.lt_of_lt_of_le hp h18.size
      clear h18 h18'
      refine hK.out _ _ (⟨kept_cell H18 c0 l0, kept_cell H18 c2 l2⟩) (fun hHeld => ?_)
      clear hK K
      (try simp only [Act.put, List.setIfInBounds_toArray, List.set_cons_zero, List.set_cons_succ])
      refine wpAnyH_ready (rs := [8]) (by kernel_rfl) (by simp) ?_
      refine AllReadyH.cons rfl (fun K hK => ?_) AllReadyH.nil
      go_simp
      have hpq := hp
      (go_at_call 13; refine (spec_DirectSum _ S0 _ (by omega) _ S1 _ (by omega) _ S2 _ (by omega) _ S3 _ (by omega) _ (own_ints y1) (own_ints y16) (own_ints y17) (own_ints y18)).mono ?_)
      rintro e x19 ⟨m0, vs0, v0, rfl, hm0, hr0, os0, o0, hn0, h19'⟩
      have h19 : Below x18.heap.size x18 x19 := h19'
      have H19 : Below w2.heap.size w2 x19 := H18.trans (h19.mono H18.size)
      have z19 := H19.size
      obtain ⟨as0, ks0, hv⟩ := os0.shape
      subst hv
      obtain ⟨a0, k0, hv⟩ := o0.shape
      subst hv
      have hm1 : x18.heap.size ≤ m0 := hm0
      replace rO := row_below rO h19 (by omega)
      replace hp : x1.heap.size < x19.heap.size := Nat.lt_of_lt_of_le hp h19.size
      refine hK.out _ _ (⟨kept_cell H19 c0 l0, kept_cell H19 c2 l2⟩) (fun hHeld => ?_)
      clear hK K
      (try simp only [Act.put, List.setIfInBounds_toArray, List.set_cons_zero, List.set_cons_succ])
      refine wpAnyH_take (i := 9) (v := ?_) rfl (by kernel_rfl) (by kernel_rfl) (by kernel_rfl) (fun _ _ _ h => h) (Or.inl ⟨by rfl, ?_⟩) (by assumption) ?_
      rotate_left
      · (intro w hSw; obtain ⟨hSa, hSb⟩ := hSw; (try dsimp only at hSa hSb); go_simp; try (with_reducible rfl))
      (try simp only [Act.put, List.setIfInBounds_toArray, List.set_cons_zero, List.set_cons_succ])
      refine wpAnyH_take (i := 10) (v := ?_) rfl (by kernel_rfl) (by kernel_rfl) (by kernel_rfl) (fun _ _ _ h => h) (Or.inl ⟨by rfl, ?_⟩) (by assumption) ?_
      rotate_left
      · (intro w hSw; obtain ⟨hSa, hSb⟩ := hSw; (try dsimp only at hSa hSb); go_simp; try (with_reducible rfl))
      (try simp only [Act.put, List.setIfInBounds_toArray, List.set_cons_zero, List.set_cons_succ])
      refine wpAnyH_take (i := 11) (v := ?_) rfl (by kernel_rfl) (by kernel_rfl) (by kernel_rfl) (fun _ _ _ h => h) (Or.inl ⟨by rfl, ?_⟩) (by assumption) ?_
      rotate_left
      · (intro w hSw; obtain ⟨hSa, hSb⟩ := hSw; (try dsimp only at hSa hSb); go_simp; try (with_reducible rfl))
      (try simp only [Act.put, List.setIfInBounds_toArray, List.set_cons_zero, List.set_cons_succ])
      refine wpAnyH_take (i := 12) (v := ?_) rfl (by kernel_rfl) (by kernel_rfl) (by kernel_rfl) (fun _ _ _ h => h) (Or.inl ⟨by rfl, ?_⟩) (by assumption) ?_
      rotate_left
      · (intro w hSw; obtain ⟨hSa, hSb⟩ := hSw; (try dsimp only at hSa hSb); go_simp; try (with_reducible rfl))
      (try simp only [Act.put, List.setIfInBounds_toArray, List.set_cons_zero, List.set_cons_succ])
      refine wpAnyH_ready (rs := [14]) (by kernel_rfl) (by simp) ?_
      refine AllReadyH.cons rfl (fun K hK => ?_) AllReadyH.nil
      have rcO : x19.cell? ⟨x1.heap.size, 0, none⟩ = some (.slice none 0 0) := by rw [cell_of_row x19 (x1.heap.size) 0 _ _ _ rO]; rfl
      have rfO : x19.frozen? ⟨x1.heap.size, 0, none⟩ = false := by have h' := rO; simp [World.frozen?, h']
      go_simp
      have HF : Below w2.heap.size w2 (x19.setCell ⟨x1.heap.size, 0, none⟩ (.slice as0 (vDsS S0 S1 S2 S3).length ks0)) := H19.setCell (show w2.heap.size ≤ x1.heap.size from hpW) _
      refine hK.out _ _ (⟨kept_cell HF c0 l0, kept_cell HF c2 l2⟩) (fun hHeld => ?_)
      clear hK K
      (try simp only [Act.put, List.setIfInBounds_toArray, List.set_cons_zero, List.set_cons_succ])
      refine wpAnyH_take (i := 15) (v := ?_) rfl (by kernel_rfl) (by kernel_rfl) (by kernel_rfl) (fun _ _ _ h => h) (Or.inl ⟨by rfl, ?_⟩) (by assumption) ?_
      rotate_left
      · (intro w hSw; obtain ⟨hSa, hSb⟩ := hSw; (try dsimp only at hSa hSb); go_simp; try (with_reducible rfl))
      (try simp only [Act.put, List.setIfInBounds_toArray, List.set_cons_zero, List.set_cons_succ])
      refine wpAnyH_take (i := 16) (v := ?_) rfl (by kernel_rfl) (by kernel_rfl) (by kernel_rfl) (fun _ _ _ h => h) (Or.inl ⟨by rfl, ?_⟩) (by assumption) ?_
      rotate_left
      · (intro w hSw; obtain ⟨hSa, hSb⟩ := hSw; (try dsimp only at hSa hSb); go_simp; try (with_reducible rfl))
      (try simp only [Act.put, List.setIfInBounds_toArray, List.set_cons_zero, List.set_cons_succ])
      refine wpAnyH_done (by kernel_rfl) ?_ _
      (try simp only [List.getElem_toArray, List.getElem_cons_succ, List.getElem_cons_zero, Act.put, List.setIfInBounds_toArray, List.set_cons_zero, List.set_cons_succ])
      go_wp2_with fail
      go_meet
      exact ⟨x1.heap.size, as0, ks0, a0, k0, rfl, rfl, rfl, World.cell?_setCell_same' _ _ _ (by rw [rcO]; rfl), by simp; omega, (os0.setBelow (show x1.heap.size < _ by omega) _).rebase (by omega), (o0.setBelow (show x1.heap.size < _ by omega) _).rebase (by omega), HF⟩
    refine AllReadyH.cons rfl (fun K hK => ?_) AllReadyH.nil
    go_simp
    have H20 : Below w2.heap.size w2 (w2.alloc (.cells #[.slice none 0 0] 26)) := H0.alloc H0.size _
    have z20 : (w2.alloc (.cells #[.slice none 0 0] 26)).heap.size = w2.heap.size + 1 := World.size_alloc _ _
    have rO := heap_alloc_last w2 (.cells #[.slice none 0 0] 26)
    have hp : w2.heap.size < (w2.alloc (.cells #[.slice none 0 0] 26)).heap.size := by omega
    have hpW : w2.heap.size ≤ w2.heap.size := H0.size
    refine hK.out _ _ (⟨kept_cell H20.drew c0 l0, kept_cell H20.drew c2 l2⟩) (fun hHeld => ?_)
    clear hK K
    (try simp only [Act.put, List.setIfInBounds_toArray, List.set_cons_zero, List.set_cons_succ])
    refine wpAnyH_ready (rs := [1]) (by kernel_rfl) (by simp) ?_
    refine AllReadyH.cons rfl (fun K hK => ?_) AllReadyH.nil
    go_simp
    (go_at_call 14; refine (toSpace_any ao0 S0 cap0 _ (by omega) (hS0.below ((B.trans (H20.mono B.size)).drew))).mono ?_)
    rintro e x21 ⟨b21, rfl, y21, h21'⟩
    have h21 : Below (w2.alloc (.cells #[.slice none 0 0] 26)).heap.size (w2.alloc (.cells #[.slice none 0 0] 26)) x21 := (Below.refl _ (w2.alloc (.cells #[.slice none 0 0] 26))).drew.trans h21'
    have H21 : Below w2.heap.size w2 x21 := H20.trans (h21.mono H20.size)
    have z21 := H21.size
    replace rO := row_below rO h21 (by omega)
    replace hp : w2.heap.size < x21.heap.size := Nat.lt_of_lt_of_le hp h21.size
    clear h21 h21'
    refine hK.out _ _ (⟨kept_cell H21 c0 l0, kept_cell H21 c2 l2⟩) (fun hHeld => ?_)
    clear hK K
    (try simp only [Act.put, List.setIfInBounds_toArray, List.set_cons_zero, List.set_cons_succ])
    refine wpAnyH_ready (rs := [3]) (by kernel_rfl) (by simp) ?_
    refine AllReadyH.cons rfl (fun K hK => ?_) AllReadyH.nil
    go_simp
    (go_at_call 15; refine (toInt64S_any ao1 S1 cap1 _ (by omega) (hS1.below ((B.trans (H21.mono B.size))))).mono ?_)
    rintro e x22 ⟨b22, rfl, y22, h22'⟩
    have h22 : Below x21.heap.size x21 x22 := h22'
    have H22 : Below w2.heap.size w2 x22 := H21.trans (h22.mono H21.size)
    have z22 := H22.size
    replace y21 := y21.below h22
    replace rO := row_below rO h22 (by omega)
    replace hp : w2.heap.size < x22.heap.size := Nat.lt_of_lt_of_le hp h22.size
    clear h22 h22'
    refine hK.out _ _ (⟨kept_cell H22 c0 l0, kept_cell H22 c2 l2⟩) (fun hHeld => ?_)
    clear hK K
    (try simp only [Act.put, List.setIfInBounds_toArray, List.set_cons_zero, List.set_cons_succ])
    refine wpAnyH_ready (rs := [5]) (by kernel_rfl) (by simp) ?_
    refine AllReadyH.cons rfl (fun K hK => ?_) AllReadyH.nil
    go_simp
    (go_at_call 14; refine (toSpace_any ao2 S2 cap2 _ (by omega) (hS2.below ((B.trans (H22.mono B.size))))).mono ?_)
    rintro e x23 ⟨b23, rfl, y23, h23'⟩
    have h23 : Below x22.heap.size x22 x23 := h23'
    have H23 : Below w2.heap.size w2 x23 := H22.trans (h23.mono H22.size)
    have z23 := H23.size
    replace y21 := y21.below h23
    replace y22 := y22.below h23
    replace rO := row_below rO h23 (by omega)
    replace hp : w2.heap.size < x23.heap.size := Nat.lt_of_lt_of_le hp h23.size
    clear h23 h23'
    refine hK.out _ _ (⟨kept_cell H23 c0 l0, kept_cell H23 c2 l2⟩) (fun hHeld => ?_)
    clear hK K
    (try simp only [Act.put, List.setIfInBounds_toArray, List.set_cons_zero, List.set_cons_succ])
    refine wpAnyH_ready (rs := [7]) (by kernel_rfl) (by simp) ?_
    refine AllReadyH.cons rfl (fun K hK => ?_) AllReadyH.nil
    go_simp
    (go_at_call 15; refine (toInt64S_any ao3 S3 cap3 _ (by omega) (hS3.below ((B.trans (H23.mono B.size))))).mono ?_)
    rintro e x24 ⟨b24, rfl, y24, h24'⟩
    have h24 : Below x23.heap.size x23 x24 := h24'
    have H24 : Below w2.heap.size w2 x24 := H23.trans (h24.mono H23.size)
    have z24 := H24.size
    replace y21 := y21.below h24
    replace y22 := y22.below h24
    replace y23 := y23.below h24
    replace rO := row_below rO h24 (by omega)
    replace hp : w2.heap.size < x24.heap.size := Nat.lt_of_lt_of_le hp h24.size
    clear h24 h24'
    refine hK.out _ _ (⟨kept_cell H24 c0 l0, kept_cell H24 c2 l2⟩) (fun hHeld => ?_)
    clear hK K
    (try simp only [Act.put, List.setIfInBounds_toArray, List.set_cons_zero, List.set_cons_succ])
    refine wpAnyH_ready (rs := [8]) (by kernel_rfl) (by simp) ?_
    refine AllReadyH.cons rfl (fun K hK => ?_) AllReadyH.nil
    go_simp
    have hpq := hp
    (go_at_call 13; refine (spec_DirectSum _ S0 _ (by omega) _ S1 _ (by omega) _ S2 _ (by omega) _ S3 _ (by omega) _ (own_ints y21) (own_ints y22) (own_ints y23) (own_ints y24)).mono ?_)
    rintro e x25 ⟨m0, vs0, v0, rfl, hm0, hr0, os0, o0, hn0, h25'⟩
    have h25 : Below x24.heap.size x24 x25 := h25'
    have H25 : Below w2.heap.size w2 x25 := H24.trans (h25.mono H24.size)
    have z25 := H25.size
    obtain ⟨as0, ks0, hv⟩ := os0.shape
    subst hv
    obtain ⟨a0, k0, hv⟩ := o0.shape
    subst hv
    have hm1 : x24.heap.size ≤ m0 := hm0
    replace rO := row_below rO h25 (by omega)
    replace hp : w2.heap.size < x25.heap.size := Nat.lt_of_lt_of_le hp h25.size
    refine hK.out _ _ (⟨kept_cell H25 c0 l0, kept_cell H25 c2 l2⟩) (fun hHeld => ?_)
    clear hK K
    (try simp only [Act.put, List.setIfInBounds_toArray, List.set_cons_zero, List.set_cons_succ])
    refine wpAnyH_take (i := 9) (v := ?_) rfl (by kernel_rfl) (by kernel_rfl) (by kernel_rfl) (fun _ _ _ h => h) (Or.inl ⟨by rfl, ?_⟩) (by assumption) ?_
    rotate_left
    · (intro w hSw; obtain ⟨hSa, hSb⟩ := hSw; (try dsimp only at hSa hSb); go_simp; try (with_reducible rfl))
    (try simp only [Act.put, List.setIfInBounds_toArray, List.set_cons_zero, List.set_cons_succ])
    refine wpAnyH_take (i := 10) (v := ?_) rfl (by kernel_rfl) (by kernel_rfl) (by kernel_rfl) (fun _ _ _ h => h) (Or.inl ⟨by rfl, ?_⟩) (by assumption) ?_
    rotate_left
    · (intro w hSw; obtain ⟨hSa, hSb⟩ := hSw; (try dsimp only at hSa hSb); go_simp; try (with_reducible rfl))
    (try simp only [Act.put, List.setIfInBounds_toArray, List.set_cons_zero, List.set_cons_succ])
    refine wpAnyH_take (i := 11) (v := ?_) rfl (by kernel_rfl) (by kernel_rfl) (by kernel_rfl) (fun _ _ _ h => h) (Or.inl ⟨by rfl, ?_⟩) (by assumption) ?_
    rotate_left
    · (intro w hSw; obtain ⟨hSa, hSb⟩ := hSw; (try dsimp only at hSa hSb); go_simp; try (with_reducible rfl))
    (try simp only [Act.put, List.setIfInBounds_toArray, List.set_cons_zero, List.set_cons_succ])
    refine wpAnyH_take (i := 12) (v := ?_) rfl (by kernel_rfl) (by kernel_rfl) (by kernel_rfl) (fun _ _ _ h => h) (Or.inl ⟨by rfl, ?_⟩) (by assumption) ?_
    rotate_left
    · (intro w hSw; obtain ⟨hSa, hSb⟩ := hSw; (try dsimp only at hSa hSb); go_simp; try (with_reducible rfl))
    (try simp only [Act.put, List.setIfInBounds_toArray, List.set_cons_zero, List.set_cons_succ])
    refine wpAnyH_ready (rs := [14]) (by kernel_rfl) (by simp) ?_
    refine AllReadyH.cons rfl (fun K hK => ?_) AllReadyH.nil
    have rcO : x25.cell? ⟨w2.heap.size, 0, none⟩ = some (.slice none 0 0) := by rw [cell_of_row x25 (w2.heap.size) 0 _ _ _ rO]; rfl
    have rfO : x25.frozen? ⟨w2.heap.size, 0, none⟩ = false := by have h' := rO; simp [World.frozen?, h']
    go_simp
    have HF : Below w2.heap.size w2 (x25.setCell ⟨w2.heap.size, 0, none⟩ (.slice as0 (vDsS S0 S1 S2 S3).length ks0)) := H25.setCell (show w2.heap.size ≤ w2.heap.size from hpW) _
    refine hK.out _ _ (⟨kept_cell HF c0 l0, kept_cell HF c2 l2⟩) (fun hHeld => ?_)
    clear hK K
    (try simp only [Act.put, List.setIfInBounds_toArray, List.set_cons_zero, List.set_cons_succ])
    refine wpAnyH_take (i := 15) (v := ?_) rfl (by kernel_rfl) (by kernel_rfl) (by kernel_rfl) (fun _ _ _ h => h) (Or.inl ⟨by rfl, ?_⟩) (by assumption) ?_
    rotate_left
    · (intro w hSw; obtain ⟨hSa, hSb⟩ := hSw; (try dsimp only at hSa hSb); go_simp; try (with_reducible rfl))
    (try simp only [Act.put, List.setIfInBounds_toArray, List.set_cons_zero, List.set_cons_succ])
    refine wpAnyH_take (i := 16) (v := ?_) rfl (by kernel_rfl) (by kernel_rfl) (by kernel_rfl) (fun _ _ _ h => h) (Or.inl ⟨by rfl, ?_⟩) (by assumption) ?_
    rotate_left
    · (intro w hSw; obtain ⟨hSa, hSb⟩ := hSw; (try dsimp only at hSa hSb); go_simp; try (with_reducible rfl))
    (try simp only [Act.put, List.setIfInBounds_toArray, List.set_cons_zero, List.set_cons_succ])
    refine wpAnyH_done (by kernel_rfl) ?_ _
    (try simp only [List.getElem_toArray, List.getElem_cons_succ, List.getElem_cons_zero, Act.put, List.setIfInBounds_toArray, List.set_cons_zero, List.set_cons_succ])
    go_wp2_with fail
    go_meet
    exact ⟨w2.heap.size, as0, ks0, a0, k0, rfl, rfl, rfl, World.cell?_setCell_same' _ _ _ (by rw [rcO]; rfl), by simp; omega, (os0.setBelow (show w2.heap.size < _ by omega) _).rebase (by omega), (o0.setBelow (show w2.heap.size < _ by omega) _).rebase (by omega), HF⟩
  case rest =>
  obtain ⟨q3, as_3, ks_3, a_3, k_3, rfl, rfl, rfl, cz3, lz3, os3, o3, hb⟩ := hcut
  replace hb : Below w2.heap.size w2 wc := hb
  obtain ⟨w3, hwc⟩ : ∃ x, x = wc := ⟨_, rfl⟩
  subst hwc
  replace c0 := kept_cell hb c0 l0
  replace l0 := lt_of_below hb l0
  replace c2 := kept_cell hb c2 l2
  replace l2 := lt_of_below hb l2
  replace B := B.trans (hb.mono B.size)
  have s2 : w2.heap.size ≤ w3.heap.size := hb.size
  have Ros3 : RowIn (.slice as_3 (vDsS S0 S1 S2 S3).length ks_3) (w2.heap.size) w3.heap.size := os3.rowIn
  have Ro3 : RowIn (.slice a_3 (vDsC S0 S1 S2 S3).length k_3) (w2.heap.size) w3.heap.size := o3.rowIn
  clear hb
  have plz3 := lz3
  go_wp2_with fail
  refine (toSpace_any ao0 S0 cap0 _ (by omega) (hS0.below B)).mono ?_
  rintro e w4 ⟨b4, rfl, o4, hb⟩
  replace c0 := kept_cell hb c0 l0
  replace l0 := lt_of_below hb l0
  replace c2 := kept_cell hb c2 l2
  replace l2 := lt_of_below hb l2
  replace cz3 := kept_cell hb cz3 lz3
  replace lz3 := lt_of_below hb lz3
  replace os3 := os3.below hb
  replace o3 := o3.below hb
  replace B := B.trans (hb.mono B.size)
  have s3 : w3.heap.size ≤ w4.heap.size := hb.size
  replace o4 := o4.rebase (base' := w3.heap.size) (by simp)
  have Ro4 : RowIn (.slice (some ⟨b4, 0, none⟩) S0.length S0.length) (w3.heap.size) w4.heap.size := o4.rowIn
  clear hb
  have pdc0 := kept_cell ((Below.refl w4.heap.size w4).alloc (Nat.le_refl _) (.cells #[.slice (some ⟨b4, 0, none⟩) S0.length S0.length] 26)) c0 l0
  have pdc2 := kept_cell ((Below.refl w4.heap.size w4).alloc (Nat.le_refl _) (.cells #[.slice (some ⟨b4, 0, none⟩) S0.length S0.length] 26)) c2 l2
  have pdcz3 := kept_cell ((Below.refl w4.heap.size w4).alloc (Nat.le_refl _) (.cells #[.slice (some ⟨b4, 0, none⟩) S0.length S0.length] 26)) cz3 lz3
  go_wp2_with fail
  clear pdc0 pdc2 pdcz3
  refine (toInt64S_any ao1 S1 cap1 _ (by omega) (hS1.below (B.alloc B.size _))).mono ?_
  rintro e w5 ⟨b5, rfl, o5, hb⟩
  have hq : Below w4.heap.size w4 w5 := Below.trans ((Below.refl _ w4).alloc (Nat.le_refl _) _) (hb.mono (by simp))
  replace c0 := kept_cell hq c0 l0
  replace l0 := lt_of_below hq l0
  replace c2 := kept_cell hq c2 l2
  replace l2 := lt_of_below hq l2
  replace cz3 := kept_cell hq cz3 lz3
  replace lz3 := lt_of_below hq lz3
  replace os3 := os3.below hq
  replace o3 := o3.below hq
  replace o4 := o4.below hq
  replace B := B.trans (hq.mono B.size)
  have s4 : w4.heap.size ≤ w5.heap.size := hq.size
  have cxy4 := kept_cell hb (cell_new w4 (.slice (some ⟨b4, 0, none⟩) S0.length S0.length) 26) (lt_alloc _ _)
  have lxy4 := lt_of_below hb (lt_alloc w4 (.cells #[.slice (some ⟨b4, 0, none⟩) S0.length S0.length] 26))
  have plxy4 := lxy4
  replace o5 := o5.rebase (base' := w4.heap.size + 1) (by simp)
  have Ro5 : RowIn (.slice (some ⟨b5, 0, none⟩) S1.length S1.length) (w4.heap.size + 1) w5.heap.size := o5.rowIn
  clear hb hq
  go_wp2_with fail
  refine (toSpace_any ao2 S2 cap2 _ (by omega) (hS2.below B)).mono ?_
  rintro e w6 ⟨b6, rfl, o6, hb⟩
  replace c0 := kept_cell hb c0 l0
  replace l0 := lt_of_below hb l0
  replace c2 := kept_cell hb c2 l2
  replace l2 := lt_of_below hb l2
  replace cz3 := kept_cell hb cz3 lz3
  replace lz3 := lt_of_below hb lz3
  replace cxy4 := kept_cell hb cxy4 lxy4
  replace lxy4 := lt_of_below hb lxy4
  replace os3 := os3.below hb
  replace o3 := o3.below hb
  replace o4 := o4.below hb
  replace o5 := o5.below hb
  replace B := B.trans (hb.mono B.size)
  have s5 : w5.heap.size ≤ w6.heap.size := hb.size
  replace o6 := o6.rebase (base' := w5.heap.size) (by simp)
  have Ro6 : RowIn (.slice (some ⟨b6, 0, none⟩) S2.length S2.length) (w5.heap.size) w6.heap.size := o6.rowIn
  clear hb
  have pdc0 := kept_cell ((Below.refl w6.heap.size w6).alloc (Nat.le_refl _) (.cells #[.slice (some ⟨b6, 0, none⟩) S2.length S2.length] 26)) c0 l0
  have pdc2 := kept_cell ((Below.refl w6.heap.size w6).alloc (Nat.le_refl _) (.cells #[.slice (some ⟨b6, 0, none⟩) S2.length S2.length] 26)) c2 l2
  have pdcz3 := kept_cell ((Below.refl w6.heap.size w6).alloc (Nat.le_refl _) (.cells #[.slice (some ⟨b6, 0, none⟩) S2.length S2.length] 26)) cz3 lz3
  have pdcxy4 := kept_cell ((Below.refl w6.heap.size w6).alloc (Nat.le_refl _) (.cells #[.slice (some ⟨b6, 0, none⟩) S2.length S2.length] 26)) cxy4 lxy4
  go_wp2_with fail
  clear pdc0 pdc2 pdcz3 pdcxy4
  refine (toInt64S_any ao3 S3 cap3 _ (by omega) (hS3.below (B.alloc B.size _))).mono ?_
  rintro e w7 ⟨b7, rfl, o7, hb⟩
  have hq : Below w6.heap.size w6 w7 := Below.trans ((Below.refl _ w6).alloc (Nat.le_refl _) _) (hb.mono (by simp))
  replace c0 := kept_cell hq c0 l0
  replace l0 := lt_of_below hq l0
  replace c2 := kept_cell hq c2 l2
  replace l2 := lt_of_below hq l2
  replace cz3 := kept_cell hq cz3 lz3
  replace lz3 := lt_of_below hq lz3
  replace cxy4 := kept_cell hq cxy4 lxy4
  replace lxy4 := lt_of_below hq lxy4
  replace os3 := os3.below hq
  replace o3 := o3.below hq
  replace o4 := o4.below hq
  replace o5 := o5.below hq
  replace o6 := o6.below hq
  replace B := B.trans (hq.mono B.size)
  have s6 : w6.heap.size ≤ w7.heap.size := hq.size
  have cxy6 := kept_cell hb (cell_new w6 (.slice (some ⟨b6, 0, none⟩) S2.length S2.length) 26) (lt_alloc _ _)
  have lxy6 := lt_of_below hb (lt_alloc w6 (.cells #[.slice (some ⟨b6, 0, none⟩) S2.length S2.length] 26))
  have plxy6 := lxy6
  replace o7 := o7.rebase (base' := w6.heap.size + 1) (by simp)
  have Ro7 : RowIn (.slice (some ⟨b7, 0, none⟩) S3.length S3.length) (w6.heap.size + 1) w7.heap.size := o7.rowIn
  clear hb hq
  go_wp2_with fail
  refine (impl_DirectSum _ S0 _ (by omega) _ S1 _ (by omega) _ S2 _ (by omega) _ S3 _ (by omega) _ (own_ints o4) (own_ints o5) (own_ints o6) (own_ints o7)).mono ?_
  rintro e w8 ⟨m8, vs8, v8, rfl, hm8, hr8, os8, o8, hn8, hb⟩
  replace c0 := kept_cell hb c0 l0
  replace l0 := lt_of_below hb l0
  replace c2 := kept_cell hb c2 l2
  replace l2 := lt_of_below hb l2
  replace cz3 := kept_cell hb cz3 lz3
  replace lz3 := lt_of_below hb lz3
  replace cxy4 := kept_cell hb cxy4 lxy4
  replace lxy4 := lt_of_below hb lxy4
  replace cxy6 := kept_cell hb cxy6 lxy6
  replace lxy6 := lt_of_below hb lxy6
  replace os3 := os3.below hb
  replace o3 := o3.below hb
  replace o4 := o4.below hb
  replace o5 := o5.below hb
  replace o6 := o6.below hb
  replace o7 := o7.below hb
  replace B := B.trans (hb.mono B.size)
  have s7 : w7.heap.size ≤ w8.heap.size := hb.size
  obtain ⟨as_8, ks_8, hv⟩ := os8.shape
  subst hv
  obtain ⟨a_8, k_8, hv⟩ := o8.shape
  subst hv
  have hm8' : w7.heap.size ≤ m8 := by simpa using hm8
  have Ros8 : RowIn (.slice as_8 (vDsS S0 S1 S2 S3).length ks_8) (w7.heap.size) m8 := by simpa using hr8
  have Ro8 : RowIn (.slice a_8 (vDsC S0 S1 S2 S3).length k_8) m8 w8.heap.size := o8.rowIn
  clear hm8 hr8
  clear hb
  have pdc0 := kept_cell ((Below.refl w8.heap.size w8).alloc (Nat.le_refl _) (.cells #[.slice as_8 (vDsS S0 S1 S2 S3).length ks_8] 26)) c0 l0
  have pdc2 := kept_cell ((Below.refl w8.heap.size w8).alloc (Nat.le_refl _) (.cells #[.slice as_8 (vDsS S0 S1 S2 S3).length ks_8] 26)) c2 l2
  have pdcz3 := kept_cell ((Below.refl w8.heap.size w8).alloc (Nat.le_refl _) (.cells #[.slice as_8 (vDsS S0 S1 S2 S3).length ks_8] 26)) cz3 lz3
  have pdcxy4 := kept_cell ((Below.refl w8.heap.size w8).alloc (Nat.le_refl _) (.cells #[.slice as_8 (vDsS S0 S1 S2 S3).length ks_8] 26)) cxy4 lxy4
  have pdcxy6 := kept_cell ((Below.refl w8.heap.size w8).alloc (Nat.le_refl _) (.cells #[.slice as_8 (vDsS S0 S1 S2 S3).length ks_8] 26)) cxy6 lxy6
  go_wp2_with fail
  clear pdc0 pdc2 pdcz3 pdcxy4 pdcxy6
  refine (eqSpace_same _ _ (vDsS S0 S1 S2 S3) _ _ _ (by have := vDsS_len S0 S1 S2 S3; omega) (own_ints (os8.alloc _)) (own_ints (os3.alloc _))).mono ?_
  rintro e w9 ⟨rfl, hb⟩
  have hq : Below w8.heap.size w8 w9 := Below.trans ((Below.refl _ w8).alloc (Nat.le_refl _) _) (hb.mono (by simp))
  replace c0 := kept_cell hq c0 l0
  replace l0 := lt_of_below hq l0
  replace c2 := kept_cell hq c2 l2
  replace l2 := lt_of_below hq l2
  replace cz3 := kept_cell hq cz3 lz3
  replace lz3 := lt_of_below hq lz3
  replace cxy4 := kept_cell hq cxy4 lxy4
  replace lxy4 := lt_of_below hq lxy4
  replace cxy6 := kept_cell hq cxy6 lxy6
  replace lxy6 := lt_of_below hq lxy6
  replace os3 := os3.below hq
  replace o3 := o3.below hq
  replace o4 := o4.below hq
  replace o5 := o5.below hq
  replace o6 := o6.below hq
  replace o7 := o7.below hq
  replace os8 := os8.below hq
  replace o8 := o8.below hq
  replace B := B.trans (hq.mono B.size)
  have s8 : w8.heap.size ≤ w9.heap.size := hq.size
  have cz8 := kept_cell hb (cell_new w8 (.slice as_8 (vDsS S0 S1 S2 S3).length ks_8) 26) (lt_alloc _ _)
  have lz8 := lt_of_below hb (lt_alloc w8 (.cells #[.slice as_8 (vDsS S0 S1 S2 S3).length ks_8] 26))
  have plz8 := lz8
  clear hb hq
  go_wp2_with fail
  refine (eqInt64S_same _ _ (vDsC S0 S1 S2 S3) _ _ _ (by have := vDsC_len S0 S1 S2 S3; omega) (own_ints o8) (own_ints o3)).mono ?_
  rintro e w10 ⟨rfl, hb⟩
  replace c0 := kept_cell hb c0 l0
  replace l0 := lt_of_below hb l0
  replace c2 := kept_cell hb c2 l2
  replace l2 := lt_of_below hb l2
  replace cz3 := kept_cell hb cz3 lz3
  replace lz3 := lt_of_below hb lz3
  replace cxy4 := kept_cell hb cxy4 lxy4
  replace lxy4 := lt_of_below hb lxy4
  replace cxy6 := kept_cell hb cxy6 lxy6
  replace lxy6 := lt_of_below hb lxy6
  replace cz8 := kept_cell hb cz8 lz8
  replace lz8 := lt_of_below hb lz8
  replace os3 := os3.below hb
  replace o3 := o3.below hb
  replace o4 := o4.below hb
  replace o5 := o5.below hb
  replace o6 := o6.below hb
  replace o7 := o7.below hb
  replace os8 := os8.below hb
  replace o8 := o8.below hb
  replace B := B.trans (hb.mono B.size)
  have s9 : w9.heap.size ≤ w10.heap.size := hb.size
  clear hb
  go_wp2_with fail
  go_region_held3 (fun w' => w'.cell? ⟨w.heap.size, 0, none⟩ = some (.slice ao0 S0.length cap0) ∧ w'.cell? ⟨w4.heap.size, 0, none⟩ = some (.slice (some ⟨b4, 0, none⟩) S0.length S0.length)) (first | exact ⟨c0, cxy4⟩ | exact ⟨kept_cell hqa c0 l0, kept_cell hqa cxy4 lxy4⟩ | exact ⟨kept_cell hqb (kept_cell hqa c0 l0) (lt_of_below hqa l0), kept_cell hqb (kept_cell hqa cxy4 lxy4) (lt_of_below hqa lxy4)⟩) (first | (go_at_call 14; refine (toSpace_any ao0 S0 cap0 _ (by omega) (hS0.below B.drew)).mono ?_; rintro e w11 ⟨bq, rfl, oq, hqa'⟩; have hqa : Below w10.heap.size w10 w11 := (Below.refl w10.heap.size w10).drew.trans hqa') | (go_at_call 17; refine (eqSpace_same _ _ S0 _ _ _ (by omega) ((own_ints o4).below hqa) (own_ints oq)).mono ?_; rintro e w12 ⟨rfl, hqb⟩))
  have hq : Below w10.heap.size w10 w12 := hqa.trans (hqb.mono hqa.size)
  replace c0 := kept_cell hq c0 l0
  replace l0 := lt_of_below hq l0
  replace c2 := kept_cell hq c2 l2
  replace l2 := lt_of_below hq l2
  replace cz3 := kept_cell hq cz3 lz3
  replace lz3 := lt_of_below hq lz3
  replace cxy4 := kept_cell hq cxy4 lxy4
  replace lxy4 := lt_of_below hq lxy4
  replace cxy6 := kept_cell hq cxy6 lxy6
  replace lxy6 := lt_of_below hq lxy6
  replace cz8 := kept_cell hq cz8 lz8
  replace lz8 := lt_of_below hq lz8
  replace os3 := os3.below hq
  replace o3 := o3.below hq
  replace o4 := o4.below hq
  replace o5 := o5.below hq
  replace o6 := o6.below hq
  replace o7 := o7.below hq
  replace os8 := os8.below hq
  replace o8 := o8.below hq
  replace B := B.trans (hq.mono B.size)
  have s11 : w10.heap.size ≤ w12.heap.size := hq.size
  clear hqa hqa' hqb hq oq
  go_wp2_with fail
  refine (toInt64S_any ao1 S1 cap1 _ (by omega) (hS1.below B)).mono ?_
  rintro e w13 ⟨b13, rfl, o13, hb⟩
  replace c0 := kept_cell hb c0 l0
  replace l0 := lt_of_below hb l0
  replace c2 := kept_cell hb c2 l2
  replace l2 := lt_of_below hb l2
  replace cz3 := kept_cell hb cz3 lz3
  replace lz3 := lt_of_below hb lz3
  replace cxy4 := kept_cell hb cxy4 lxy4
  replace lxy4 := lt_of_below hb lxy4
  replace cxy6 := kept_cell hb cxy6 lxy6
  replace lxy6 := lt_of_below hb lxy6
  replace cz8 := kept_cell hb cz8 lz8
  replace lz8 := lt_of_below hb lz8
  replace os3 := os3.below hb
  replace o3 := o3.below hb
  replace o4 := o4.below hb
  replace o5 := o5.below hb
  replace o6 := o6.below hb
  replace o7 := o7.below hb
  replace os8 := os8.below hb
  replace o8 := o8.below hb
  replace B := B.trans (hb.mono B.size)
  have s12 : w12.heap.size ≤ w13.heap.size := hb.size
  replace o13 := o13.rebase (base' := w12.heap.size) (by simp)
  have Ro13 : RowIn (.slice (some ⟨b13, 0, none⟩) S1.length S1.length) (w12.heap.size) w13.heap.size := o13.rowIn
  clear hb
  go_wp2_with fail
  refine (eqInt64S_same _ _ S1 _ _ _ (by omega) (own_ints o5) (own_ints o13)).mono ?_
  rintro e w14 ⟨rfl, hb⟩
  replace c0 := kept_cell hb c0 l0
  replace l0 := lt_of_below hb l0
  replace c2 := kept_cell hb c2 l2
  replace l2 := lt_of_below hb l2
  replace cz3 := kept_cell hb cz3 lz3
  replace lz3 := lt_of_below hb lz3
  replace cxy4 := kept_cell hb cxy4 lxy4
  replace lxy4 := lt_of_below hb lxy4
  replace cxy6 := kept_cell hb cxy6 lxy6
  replace lxy6 := lt_of_below hb lxy6
  replace cz8 := kept_cell hb cz8 lz8
  replace lz8 := lt_of_below hb lz8
  replace os3 := os3.below hb
  replace o3 := o3.below hb
  replace o4 := o4.below hb
  replace o5 := o5.below hb
  replace o6 := o6.below hb
  replace o7 := o7.below hb
  replace os8 := os8.below hb
  replace o8 := o8.below hb
  replace o13 := o13.below hb
  replace B := B.trans (hb.mono B.size)
  have s13 : w13.heap.size ≤ w14.heap.size := hb.size
  clear hb
  go_wp2_with fail
  go_region_held3 (fun w' => w'.cell? ⟨w.heap.size + 1, 0, none⟩ = some (.slice ao2 S2.length cap2) ∧ w'.cell? ⟨w6.heap.size, 0, none⟩ = some (.slice (some ⟨b6, 0, none⟩) S2.length S2.length)) (first | exact ⟨c2, cxy6⟩ | exact ⟨kept_cell hqa c2 l2, kept_cell hqa cxy6 lxy6⟩ | exact ⟨kept_cell hqb (kept_cell hqa c2 l2) (lt_of_below hqa l2), kept_cell hqb (kept_cell hqa cxy6 lxy6) (lt_of_below hqa lxy6)⟩) (first | (go_at_call 14; refine (toSpace_any ao2 S2 cap2 _ (by omega) (hS2.below B.drew)).mono ?_; rintro e w15 ⟨bq, rfl, oq, hqa'⟩; have hqa : Below w14.heap.size w14 w15 := (Below.refl w14.heap.size w14).drew.trans hqa') | (go_at_call 17; refine (eqSpace_same _ _ S2 _ _ _ (by omega) ((own_ints o6).below hqa) (own_ints oq)).mono ?_; rintro e w16 ⟨rfl, hqb⟩))
  have hq : Below w14.heap.size w14 w16 := hqa.trans (hqb.mono hqa.size)
  replace c0 := kept_cell hq c0 l0
  replace l0 := lt_of_below hq l0
  replace c2 := kept_cell hq c2 l2
  replace l2 := lt_of_below hq l2
  replace cz3 := kept_cell hq cz3 lz3
  replace lz3 := lt_of_below hq lz3
  replace cxy4 := kept_cell hq cxy4 lxy4
  replace lxy4 := lt_of_below hq lxy4
  replace cxy6 := kept_cell hq cxy6 lxy6
  replace lxy6 := lt_of_below hq lxy6
  replace cz8 := kept_cell hq cz8 lz8
  replace lz8 := lt_of_below hq lz8
  replace os3 := os3.below hq
  replace o3 := o3.below hq
  replace o4 := o4.below hq
  replace o5 := o5.below hq
  replace o6 := o6.below hq
  replace o7 := o7.below hq
  replace os8 := os8.below hq
  replace o8 := o8.below hq
  replace o13 := o13.below hq
  replace B := B.trans (hq.mono B.size)
  have s15 : w14.heap.size ≤ w16.heap.size := hq.size
  clear hqa hqa' hqb hq oq
  go_wp2_with fail
  refine (toInt64S_any ao3 S3 cap3 _ (by omega) (hS3.below B)).mono ?_
  rintro e w17 ⟨b17, rfl, o17, hb⟩
  replace c0 := kept_cell hb c0 l0
  replace l0 := lt_of_below hb l0
  replace c2 := kept_cell hb c2 l2
  replace l2 := lt_of_below hb l2
  replace cz3 := kept_cell hb cz3 lz3
  replace lz3 := lt_of_below hb lz3
  replace cxy4 := kept_cell hb cxy4 lxy4
  replace lxy4 := lt_of_below hb lxy4
  replace cxy6 := kept_cell hb cxy6 lxy6
  replace lxy6 := lt_of_below hb lxy6
  replace cz8 := kept_cell hb cz8 lz8
  replace lz8 := lt_of_below hb lz8
  replace os3 := os3.below hb
  replace o3 := o3.below hb
  replace o4 := o4.below hb
  replace o5 := o5.below hb
  replace o6 := o6.below hb
  replace o7 := o7.below hb
  replace os8 := os8.below hb
  replace o8 := o8.below hb
  replace o13 := o13.below hb
  replace B := B.trans (hb.mono B.size)
  have s16 : w16.heap.size ≤ w17.heap.size := hb.size
  replace o17 := o17.rebase (base' := w16.heap.size) (by simp)
  have Ro17 : RowIn (.slice (some ⟨b17, 0, none⟩) S3.length S3.length) (w16.heap.size) w17.heap.size := o17.rowIn
  clear hb
  go_wp2_with fail
  refine (eqInt64S_same _ _ S3 _ _ _ (by omega) (own_ints o7) (own_ints o17)).mono ?_
  rintro e w18 ⟨rfl, hb⟩
  replace c0 := kept_cell hb c0 l0
  replace l0 := lt_of_below hb l0
  replace c2 := kept_cell hb c2 l2
  replace l2 := lt_of_below hb l2
  replace cz3 := kept_cell hb cz3 lz3
  replace lz3 := lt_of_below hb lz3
  replace cxy4 := kept_cell hb cxy4 lxy4
  replace lxy4 := lt_of_below hb lxy4
  replace cxy6 := kept_cell hb cxy6 lxy6
  replace lxy6 := lt_of_below hb lxy6
  replace cz8 := kept_cell hb cz8 lz8
  replace lz8 := lt_of_below hb lz8
  replace os3 := os3.below hb
  replace o3 := o3.below hb
  replace o4 := o4.below hb
  replace o5 := o5.below hb
  replace o6 := o6.below hb
  replace o7 := o7.below hb
  replace os8 := os8.below hb
  replace o8 := o8.below hb
  replace o13 := o13.below hb
  replace o17 := o17.below hb
  replace B := B.trans (hb.mono B.size)
  have s17 : w17.heap.size ≤ w18.heap.size := hb.size
  clear hb
  go_wp2_with fail
  refine (markSpace_own b4 _ _ _ _ _ _ (by omega) (by omega) (by omega) rfl o4).mono ?_
  clear o4
  rintro e w19 ⟨rfl, o4, hg⟩
  replace c0 := hg.cell (a := ⟨w.heap.size, 0, none⟩) c0 (row_ne_box (b := w.heap.size) Ro4 (by omega))
  replace l0 : w.heap.size < w19.heap.size := Nat.lt_of_lt_of_le l0 hg.size
  replace c2 := hg.cell (a := ⟨w.heap.size + 1, 0, none⟩) c2 (row_ne_box (b := w.heap.size + 1) Ro4 (by omega))
  replace l2 : w.heap.size + 1 < w19.heap.size := Nat.lt_of_lt_of_le l2 hg.size
  replace cz3 := hg.cell (a := ⟨q3, 0, none⟩) cz3 (row_ne_box (b := q3) Ro4 (by omega))
  replace lz3 : q3 < w19.heap.size := Nat.lt_of_lt_of_le lz3 hg.size
  replace cxy4 := hg.cell (a := ⟨w4.heap.size, 0, none⟩) cxy4 (row_ne_box (b := w4.heap.size) Ro4 (by omega))
  replace lxy4 : w4.heap.size < w19.heap.size := Nat.lt_of_lt_of_le lxy4 hg.size
  replace cxy6 := hg.cell (a := ⟨w6.heap.size, 0, none⟩) cxy6 (row_ne_box (b := w6.heap.size) Ro4 (by omega))
  replace lxy6 : w6.heap.size < w19.heap.size := Nat.lt_of_lt_of_le lxy6 hg.size
  replace cz8 := hg.cell (a := ⟨w8.heap.size, 0, none⟩) cz8 (row_ne_box (b := w8.heap.size) Ro4 (by omega))
  replace lz8 : w8.heap.size < w19.heap.size := Nat.lt_of_lt_of_le lz8 hg.size
  replace os3 := os3.kept hg (row_ne_row Ros3 Ro4 (by omega))
  replace o3 := o3.kept hg (row_ne_row Ro3 Ro4 (by omega))
  replace o5 := o5.kept hg (row_ne_row Ro5 Ro4 (by omega))
  replace o6 := o6.kept hg (row_ne_row Ro6 Ro4 (by omega))
  replace o7 := o7.kept hg (row_ne_row Ro7 Ro4 (by omega))
  replace os8 := os8.kept hg (row_ne_row Ros8 Ro4 (by omega))
  replace o8 := o8.kept hg (row_ne_row Ro8 Ro4 (by omega))
  replace o13 := o13.kept hg (row_ne_row Ro13 Ro4 (by omega))
  replace o17 := o17.kept hg (row_ne_row Ro17 Ro4 (by omega))
  replace B := below_mark B B.size hg Ro4 (by omega)
  have s18 : w18.heap.size ≤ w19.heap.size := hg.size
  clear hg
  go_wp2_with fail
  refine (markInt64S_own _ _ _ _ _ _ _ (by have := hn1; omega) (by omega) (by omega) rfl o5).mono ?_
  clear o5
  rintro e w20 ⟨rfl, o5, hg⟩
  replace c0 := hg.cell (a := ⟨w.heap.size, 0, none⟩) c0 (row_ne_box (b := w.heap.size) Ro5 (by omega))
  replace l0 : w.heap.size < w20.heap.size := Nat.lt_of_lt_of_le l0 hg.size
  replace c2 := hg.cell (a := ⟨w.heap.size + 1, 0, none⟩) c2 (row_ne_box (b := w.heap.size + 1) Ro5 (by omega))
  replace l2 : w.heap.size + 1 < w20.heap.size := Nat.lt_of_lt_of_le l2 hg.size
  replace cz3 := hg.cell (a := ⟨q3, 0, none⟩) cz3 (row_ne_box (b := q3) Ro5 (by omega))
  replace lz3 : q3 < w20.heap.size := Nat.lt_of_lt_of_le lz3 hg.size
  replace cxy4 := hg.cell (a := ⟨w4.heap.size, 0, none⟩) cxy4 (row_ne_box (b := w4.heap.size) Ro5 (by omega))
  replace lxy4 : w4.heap.size < w20.heap.size := Nat.lt_of_lt_of_le lxy4 hg.size
  replace cxy6 := hg.cell (a := ⟨w6.heap.size, 0, none⟩) cxy6 (row_ne_box (b := w6.heap.size) Ro5 (by omega))
  replace lxy6 : w6.heap.size < w20.heap.size := Nat.lt_of_lt_of_le lxy6 hg.size
  replace cz8 := hg.cell (a := ⟨w8.heap.size, 0, none⟩) cz8 (row_ne_box (b := w8.heap.size) Ro5 (by omega))
  replace lz8 : w8.heap.size < w20.heap.size := Nat.lt_of_lt_of_le lz8 hg.size
  replace os3 := os3.kept hg (row_ne_row Ros3 Ro5 (by omega))
  replace o3 := o3.kept hg (row_ne_row Ro3 Ro5 (by omega))
  replace o4 := o4.kept hg (row_ne_row Ro4 Ro5 (by omega))
  replace o6 := o6.kept hg (row_ne_row Ro6 Ro5 (by omega))
  replace o7 := o7.kept hg (row_ne_row Ro7 Ro5 (by omega))
  replace os8 := os8.kept hg (row_ne_row Ros8 Ro5 (by omega))
  replace o8 := o8.kept hg (row_ne_row Ro8 Ro5 (by omega))
  replace o13 := o13.kept hg (row_ne_row Ro13 Ro5 (by omega))
  replace o17 := o17.kept hg (row_ne_row Ro17 Ro5 (by omega))
  replace B := below_mark B B.size hg Ro5 (by omega)
  have s19 : w19.heap.size ≤ w20.heap.size := hg.size
  clear hg
  go_wp2_with fail
  refine (markSpace_own b6 _ _ _ _ _ _ (by omega) (by omega) (by omega) rfl o6).mono ?_
  clear o6
  rintro e w21 ⟨rfl, o6, hg⟩
  replace c0 := hg.cell (a := ⟨w.heap.size, 0, none⟩) c0 (row_ne_box (b := w.heap.size) Ro6 (by omega))
  replace l0 : w.heap.size < w21.heap.size := Nat.lt_of_lt_of_le l0 hg.size
  replace c2 := hg.cell (a := ⟨w.heap.size + 1, 0, none⟩) c2 (row_ne_box (b := w.heap.size + 1) Ro6 (by omega))
  replace l2 : w.heap.size + 1 < w21.heap.size := Nat.lt_of_lt_of_le l2 hg.size
  replace cz3 := hg.cell (a := ⟨q3, 0, none⟩) cz3 (row_ne_box (b := q3) Ro6 (by omega))
  replace lz3 : q3 < w21.heap.size := Nat.lt_of_lt_of_le lz3 hg.size
  replace cxy4 := hg.cell (a := ⟨w4.heap.size, 0, none⟩) cxy4 (row_ne_box (b := w4.heap.size) Ro6 (by omega))
  replace lxy4 : w4.heap.size < w21.heap.size := Nat.lt_of_lt_of_le lxy4 hg.size
  replace cxy6 := hg.cell (a := ⟨w6.heap.size, 0, none⟩) cxy6 (row_ne_box (b := w6.heap.size) Ro6 (by omega))
  replace lxy6 : w6.heap.size < w21.heap.size := Nat.lt_of_lt_of_le lxy6 hg.size
  replace cz8 := hg.cell (a := ⟨w8.heap.size, 0, none⟩) cz8 (row_ne_box (b := w8.heap.size) Ro6 (by omega))
  replace lz8 : w8.heap.size < w21.heap.size := Nat.lt_of_lt_of_le lz8 hg.size
  replace os3 := os3.kept hg (row_ne_row Ros3 Ro6 (by omega))
  replace o3 := o3.kept hg (row_ne_row Ro3 Ro6 (by omega))
  replace o4 := o4.kept hg (row_ne_row Ro4 Ro6 (by omega))
  replace o5 := o5.kept hg (row_ne_row Ro5 Ro6 (by omega))
  replace o7 := o7.kept hg (row_ne_row Ro7 Ro6 (by omega))
  replace os8 := os8.kept hg (row_ne_row Ros8 Ro6 (by omega))
  replace o8 := o8.kept hg (row_ne_row Ro8 Ro6 (by omega))
  replace o13 := o13.kept hg (row_ne_row Ro13 Ro6 (by omega))
  replace o17 := o17.kept hg (row_ne_row Ro17 Ro6 (by omega))
  replace B := below_mark B B.size hg Ro6 (by omega)
  have s20 : w20.heap.size ≤ w21.heap.size := hg.size
  clear hg
  go_wp2_with fail
  refine (markInt64S_own _ _ _ _ _ _ _ (by have := hn3; omega) (by omega) (by omega) rfl o7).mono ?_
  clear o7
  rintro e w22 ⟨rfl, o7, hg⟩
  replace c0 := hg.cell (a := ⟨w.heap.size, 0, none⟩) c0 (row_ne_box (b := w.heap.size) Ro7 (by omega))
  replace l0 : w.heap.size < w22.heap.size := Nat.lt_of_lt_of_le l0 hg.size
  replace c2 := hg.cell (a := ⟨w.heap.size + 1, 0, none⟩) c2 (row_ne_box (b := w.heap.size + 1) Ro7 (by omega))
  replace l2 : w.heap.size + 1 < w22.heap.size := Nat.lt_of_lt_of_le l2 hg.size
  replace cz3 := hg.cell (a := ⟨q3, 0, none⟩) cz3 (row_ne_box (b := q3) Ro7 (by omega))
  replace lz3 : q3 < w22.heap.size := Nat.lt_of_lt_of_le lz3 hg.size
  replace cxy4 := hg.cell (a := ⟨w4.heap.size, 0, none⟩) cxy4 (row_ne_box (b := w4.heap.size) Ro7 (by omega))
  replace lxy4 : w4.heap.size < w22.heap.size := Nat.lt_of_lt_of_le lxy4 hg.size
  replace cxy6 := hg.cell (a := ⟨w6.heap.size, 0, none⟩) cxy6 (row_ne_box (b := w6.heap.size) Ro7 (by omega))
  replace lxy6 : w6.heap.size < w22.heap.size := Nat.lt_of_lt_of_le lxy6 hg.size
  replace cz8 := hg.cell (a := ⟨w8.heap.size, 0, none⟩) cz8 (row_ne_box (b := w8.heap.size) Ro7 (by omega))
  replace lz8 : w8.heap.size < w22.heap.size := Nat.lt_of_lt_of_le lz8 hg.size
  replace os3 := os3.kept hg (row_ne_row Ros3 Ro7 (by omega))
  replace o3 := o3.kept hg (row_ne_row Ro3 Ro7 (by omega))
  replace o4 := o4.kept hg (row_ne_row Ro4 Ro7 (by omega))
  replace o5 := o5.kept hg (row_ne_row Ro5 Ro7 (by omega))
  replace o6 := o6.kept hg (row_ne_row Ro6 Ro7 (by omega))
  replace os8 := os8.kept hg (row_ne_row Ros8 Ro7 (by omega))
  replace o8 := o8.kept hg (row_ne_row Ro8 Ro7 (by omega))
  replace o13 := o13.kept hg (row_ne_row Ro13 Ro7 (by omega))
  replace o17 := o17.kept hg (row_ne_row Ro17 Ro7 (by omega))
  replace B := below_mark B B.size hg Ro7 (by omega)
  have s21 : w21.heap.size ≤ w22.heap.size := hg.size
  clear hg
  go_wp2_with fail
  refine (eqSpace_same _ _ (vDsS S0 S1 S2 S3) _ _ _ (by have := vDsS_len S0 S1 S2 S3; omega) (own_ints os8) (own_ints os3)).mono ?_
  rintro e w23 ⟨rfl, hb⟩
  replace c0 := kept_cell hb c0 l0
  replace l0 := lt_of_below hb l0
  replace c2 := kept_cell hb c2 l2
  replace l2 := lt_of_below hb l2
  replace cz3 := kept_cell hb cz3 lz3
  replace lz3 := lt_of_below hb lz3
  replace cxy4 := kept_cell hb cxy4 lxy4
  replace lxy4 := lt_of_below hb lxy4
  replace cxy6 := kept_cell hb cxy6 lxy6
  replace lxy6 := lt_of_below hb lxy6
  replace cz8 := kept_cell hb cz8 lz8
  replace lz8 := lt_of_below hb lz8
  replace os3 := os3.below hb
  replace o3 := o3.below hb
  replace o4 := o4.below hb
  replace o5 := o5.below hb
  replace o6 := o6.below hb
  replace o7 := o7.below hb
  replace os8 := os8.below hb
  replace o8 := o8.below hb
  replace o13 := o13.below hb
  replace o17 := o17.below hb
  replace B := B.trans (hb.mono B.size)
  have s22 : w22.heap.size ≤ w23.heap.size := hb.size
  clear hb
  go_wp2_with fail
  refine (eqInt64S_same _ _ (vDsC S0 S1 S2 S3) _ _ _ (by have := vDsC_len S0 S1 S2 S3; omega) (own_ints o8) (own_ints o3)).mono ?_
  rintro e w24 ⟨rfl, hb⟩
  replace c0 := kept_cell hb c0 l0
  replace l0 := lt_of_below hb l0
  replace c2 := kept_cell hb c2 l2
  replace l2 := lt_of_below hb l2
  replace cz3 := kept_cell hb cz3 lz3
  replace lz3 := lt_of_below hb lz3
  replace cxy4 := kept_cell hb cxy4 lxy4
  replace lxy4 := lt_of_below hb lxy4
  replace cxy6 := kept_cell hb cxy6 lxy6
  replace lxy6 := lt_of_below hb lxy6
  replace cz8 := kept_cell hb cz8 lz8
  replace lz8 := lt_of_below hb lz8
  replace os3 := os3.below hb
  replace o3 := o3.below hb
  replace o4 := o4.below hb
  replace o5 := o5.below hb
  replace o6 := o6.below hb
  replace o7 := o7.below hb
  replace os8 := os8.below hb
  replace o8 := o8.below hb
  replace o13 := o13.below hb
  replace o17 := o17.below hb
  replace B := B.trans (hb.mono B.size)
  have s23 : w23.heap.size ≤ w24.heap.size := hb.size
  clear hb
  go_wp2_with fail
  refine (markSpace_gen _ _ _ _ _ _ _ (by have := vDsS_len S0 S1 S2 S3; omega) (by omega) (by omega) rfl os8).mono ?_
  clear os8
  rintro e w25 ⟨rfl, os8, hg⟩
  replace c0 := hg.cell (a := ⟨w.heap.size, 0, none⟩) c0 (row_ne_box (b := w.heap.size) Ros8 (by omega))
  replace l0 : w.heap.size < w25.heap.size := Nat.lt_of_lt_of_le l0 hg.size
  replace c2 := hg.cell (a := ⟨w.heap.size + 1, 0, none⟩) c2 (row_ne_box (b := w.heap.size + 1) Ros8 (by omega))
  replace l2 : w.heap.size + 1 < w25.heap.size := Nat.lt_of_lt_of_le l2 hg.size
  replace cz3 := hg.cell (a := ⟨q3, 0, none⟩) cz3 (row_ne_box (b := q3) Ros8 (by omega))
  replace lz3 : q3 < w25.heap.size := Nat.lt_of_lt_of_le lz3 hg.size
  replace cxy4 := hg.cell (a := ⟨w4.heap.size, 0, none⟩) cxy4 (row_ne_box (b := w4.heap.size) Ros8 (by omega))
  replace lxy4 : w4.heap.size < w25.heap.size := Nat.lt_of_lt_of_le lxy4 hg.size
  replace cxy6 := hg.cell (a := ⟨w6.heap.size, 0, none⟩) cxy6 (row_ne_box (b := w6.heap.size) Ros8 (by omega))
  replace lxy6 : w6.heap.size < w25.heap.size := Nat.lt_of_lt_of_le lxy6 hg.size
  replace cz8 := hg.cell (a := ⟨w8.heap.size, 0, none⟩) cz8 (row_ne_box (b := w8.heap.size) Ros8 (by omega))
  replace lz8 : w8.heap.size < w25.heap.size := Nat.lt_of_lt_of_le lz8 hg.size
  replace os3 := os3.kept hg (row_ne_row Ros3 Ros8 (by omega))
  replace o3 := o3.kept hg (row_ne_row Ro3 Ros8 (by omega))
  replace o4 := o4.kept hg (row_ne_row Ro4 Ros8 (by omega))
  replace o5 := o5.kept hg (row_ne_row Ro5 Ros8 (by omega))
  replace o6 := o6.kept hg (row_ne_row Ro6 Ros8 (by omega))
  replace o7 := o7.kept hg (row_ne_row Ro7 Ros8 (by omega))
  replace o8 := o8.kept hg (row_ne_row Ro8 Ros8 (by omega))
  replace o13 := o13.kept hg (row_ne_row Ro13 Ros8 (by omega))
  replace o17 := o17.kept hg (row_ne_row Ro17 Ros8 (by omega))
  replace B := below_mark B B.size hg Ros8 (by omega)
  have s24 : w24.heap.size ≤ w25.heap.size := hg.size
  clear hg
  go_wp2_with fail
  refine (markInt64S_own _ _ _ _ _ _ _ (by have := vDsC_len S0 S1 S2 S3; omega) (by omega) (by omega) rfl o8).mono ?_
  clear o8
  rintro e w26 ⟨rfl, o8, hg⟩
  replace c0 := hg.cell (a := ⟨w.heap.size, 0, none⟩) c0 (row_ne_box (b := w.heap.size) Ro8 (by omega))
  replace l0 : w.heap.size < w26.heap.size := Nat.lt_of_lt_of_le l0 hg.size
  replace c2 := hg.cell (a := ⟨w.heap.size + 1, 0, none⟩) c2 (row_ne_box (b := w.heap.size + 1) Ro8 (by omega))
  replace l2 : w.heap.size + 1 < w26.heap.size := Nat.lt_of_lt_of_le l2 hg.size
  replace cz3 := hg.cell (a := ⟨q3, 0, none⟩) cz3 (row_ne_box (b := q3) Ro8 (by omega))
  replace lz3 : q3 < w26.heap.size := Nat.lt_of_lt_of_le lz3 hg.size
  replace cxy4 := hg.cell (a := ⟨w4.heap.size, 0, none⟩) cxy4 (row_ne_box (b := w4.heap.size) Ro8 (by omega))
  replace lxy4 : w4.heap.size < w26.heap.size := Nat.lt_of_lt_of_le lxy4 hg.size
  replace cxy6 := hg.cell (a := ⟨w6.heap.size, 0, none⟩) cxy6 (row_ne_box (b := w6.heap.size) Ro8 (by omega))
  replace lxy6 : w6.heap.size < w26.heap.size := Nat.lt_of_lt_of_le lxy6 hg.size
  replace cz8 := hg.cell (a := ⟨w8.heap.size, 0, none⟩) cz8 (row_ne_box (b := w8.heap.size) Ro8 (by omega))
  replace lz8 : w8.heap.size < w26.heap.size := Nat.lt_of_lt_of_le lz8 hg.size
  replace os3 := os3.kept hg (row_ne_row Ros3 Ro8 (by omega))
  replace o3 := o3.kept hg (row_ne_row Ro3 Ro8 (by omega))
  replace o4 := o4.kept hg (row_ne_row Ro4 Ro8 (by omega))
  replace o5 := o5.kept hg (row_ne_row Ro5 Ro8 (by omega))
  replace o6 := o6.kept hg (row_ne_row Ro6 Ro8 (by omega))
  replace o7 := o7.kept hg (row_ne_row Ro7 Ro8 (by omega))
  replace os8 := os8.kept hg (row_ne_row Ros8 Ro8 (by omega))
  replace o13 := o13.kept hg (row_ne_row Ro13 Ro8 (by omega))
  replace o17 := o17.kept hg (row_ne_row Ro17 Ro8 (by omega))
  replace B := below_mark B B.size hg Ro8 (by omega)
  have s25 : w25.heap.size ≤ w26.heap.size := hg.size
  clear hg
  go_wp2_with fail
  refine (heldSpace_any _ _ _ _ _ (by have := vDsS_len S0 S1 S2 S3; omega) (by omega) (by omega) (own_ints os8)).mono ?_
  rintro e w27 ⟨rfl, hb⟩
  replace c0 := kept_cell hb c0 l0
  replace l0 := lt_of_below hb l0
  replace c2 := kept_cell hb c2 l2
  replace l2 := lt_of_below hb l2
  replace cz3 := kept_cell hb cz3 lz3
  replace lz3 := lt_of_below hb lz3
  replace cxy4 := kept_cell hb cxy4 lxy4
  replace lxy4 := lt_of_below hb lxy4
  replace cxy6 := kept_cell hb cxy6 lxy6
  replace lxy6 := lt_of_below hb lxy6
  replace cz8 := kept_cell hb cz8 lz8
  replace lz8 := lt_of_below hb lz8
  replace os3 := os3.below hb
  replace o3 := o3.below hb
  replace o4 := o4.below hb
  replace o5 := o5.below hb
  replace o6 := o6.below hb
  replace o7 := o7.below hb
  replace os8 := os8.below hb
  replace o8 := o8.below hb
  replace o13 := o13.below hb
  replace o17 := o17.below hb
  replace B := B.trans (hb.mono B.size)
  have s26 : w26.heap.size ≤ w27.heap.size := hb.size
  clear hb
  go_wp2_with fail
  refine (heldInt64S_any _ _ _ _ _ (by have := vDsC_len S0 S1 S2 S3; omega) (by omega) (by omega) (own_ints o8)).mono ?_
  rintro e wz ⟨rfl, rfl⟩
  go_upto_region 47 with fail
  go_cut [23, 24, 25] from 157 to 169 (fun sx sy sz wx => ∃ (q : Nat) (as0 : Option Addr) (ks0 : Nat) (a0 : Option Addr) (k0 : Nat), sx = .pointer (some ⟨q, 0, none⟩) ∧ sy = (.slice a0 (vDsC S0 S1 S2 S3).length k0) ∧ sz = .int .i64 (eDs S0 S1 S2 S3) ∧ wx.cell? ⟨q, 0, none⟩ = some (.slice as0 (vDsS S0 S1 S2 S3).length ks0) ∧ q < wx.heap.size ∧ OwnInts wx w27.heap.size (.slice as0 (vDsS S0 S1 S2 S3).length ks0) (vDsS S0 S1 S2 S3) ∧ OwnInts wx w27.heap.size (.slice a0 (vDsC S0 S1 S2 S3).length k0) (vDsC S0 S1 S2 S3) ∧ Below w27.heap.size w27 wx)
  case first =>
    clear cz3 cxy4 cxy6 cz8 lz3 lxy4 lxy6 lz8 os3 o3 o4 o5 o6 o7 os8 o8 o13 o17
    have H0 : Below w27.heap.size w27 w27 := Below.refl _ _
    refine wp_region_held_drew (S := fun w' => w'.cell? ⟨w.heap.size, 0, none⟩ = some (.slice ao0 S0.length cap0) ∧ w'.cell? ⟨w.heap.size + 1, 0, none⟩ = some (.slice ao2 S2.length cap2)) (by kernel_rfl) ⟨c0, c2⟩ (fun hHeld => ?_)
    refine wpAnyH_take (i := 0) (v := ?_) rfl (by kernel_rfl) (by kernel_rfl) (by kernel_rfl) (fun _ _ _ h => h) (Or.inl ⟨by rfl, ?_⟩) (by assumption) ?_
    rotate_left
    · (intro w hSw; obtain ⟨hSa, hSb⟩ := hSw; (try dsimp only at hSa hSb); go_simp; try (with_reducible rfl))
    (try simp only [Act.put, List.setIfInBounds_toArray, List.set_cons_zero, List.set_cons_succ])
    refine wpAnyH_take (i := 2) (v := ?_) rfl (by kernel_rfl) (by kernel_rfl) (by kernel_rfl) (fun _ _ _ h => h) (Or.inl ⟨by rfl, ?_⟩) (by assumption) ?_
    rotate_left
    · (intro w hSw; obtain ⟨hSa, hSb⟩ := hSw; (try dsimp only at hSa hSb); go_simp; try (with_reducible rfl))
    (try simp only [Act.put, List.setIfInBounds_toArray, List.set_cons_zero, List.set_cons_succ])
    refine wpAnyH_take (i := 4) (v := ?_) rfl (by kernel_rfl) (by kernel_rfl) (by kernel_rfl) (fun _ _ _ h => h) (Or.inl ⟨by rfl, ?_⟩) (by assumption) ?_
    rotate_left
    · (intro w hSw; obtain ⟨hSa, hSb⟩ := hSw; (try dsimp only at hSa hSb); go_simp; try (with_reducible rfl))
    (try simp only [Act.put, List.setIfInBounds_toArray, List.set_cons_zero, List.set_cons_succ])
    refine wpAnyH_take (i := 6) (v := ?_) rfl (by kernel_rfl) (by kernel_rfl) (by kernel_rfl) (fun _ _ _ h => h) (Or.inl ⟨by rfl, ?_⟩) (by assumption) ?_
    rotate_left
    · (intro w hSw; obtain ⟨hSa, hSb⟩ := hSw; (try dsimp only at hSa hSb); go_simp; try (with_reducible rfl))
    (try simp only [Act.put, List.setIfInBounds_toArray, List.set_cons_zero, List.set_cons_succ])
    refine wpAnyH_ready (rs := [1, 13]) (by kernel_rfl) (by simp) ?_
    refine AllReadyH.cons rfl (fun K hK => ?_) ?_
    · go_simp
      (go_at_call 14; refine (toSpace_any ao0 S0 cap0 _ (by omega) (hS0.below ((B.trans (H0.mono B.size)).drew))).mono ?_)
      rintro e x1 ⟨b1, rfl, y1, h1'⟩
      have h1 : Below w27.heap.size w27 x1 := (Below.refl _ w27).drew.trans h1'
      have H1 : Below w27.heap.size w27 x1 := H0.trans (h1.mono H0.size)
      have z1 := H1.size
      clear h1 h1'
      refine hK.out _ _ (⟨kept_cell H1 c0 l0, kept_cell H1 c2 l2⟩) (fun hHeld => ?_)
      clear hK K
      (try simp only [Act.put, List.setIfInBounds_toArray, List.set_cons_zero, List.set_cons_succ])
      refine wpAnyH_ready (rs := [3, 13]) (by kernel_rfl) (by simp) ?_
      refine AllReadyH.cons rfl (fun K hK => ?_) ?_
      · go_simp
        (go_at_call 15; refine (toInt64S_any ao1 S1 cap1 _ (by omega) (hS1.below ((B.trans (H1.mono B.size))))).mono ?_)
        rintro e x2 ⟨b2, rfl, y2, h2'⟩
        have h2 : Below x1.heap.size x1 x2 := h2'
        have H2 : Below w27.heap.size w27 x2 := H1.trans (h2.mono H1.size)
        have z2 := H2.size
        replace y1 := y1.below h2
        clear h2 h2'
        refine hK.out _ _ (⟨kept_cell H2 c0 l0, kept_cell H2 c2 l2⟩) (fun hHeld => ?_)
        clear hK K
        (try simp only [Act.put, List.setIfInBounds_toArray, List.set_cons_zero, List.set_cons_succ])
        refine wpAnyH_ready (rs := [5, 13]) (by kernel_rfl) (by simp) ?_
        refine AllReadyH.cons rfl (fun K hK => ?_) ?_
        · go_simp
          (go_at_call 14; refine (toSpace_any ao2 S2 cap2 _ (by omega) (hS2.below ((B.trans (H2.mono B.size))))).mono ?_)
          rintro e x3 ⟨b3, rfl, y3, h3'⟩
          have h3 : Below x2.heap.size x2 x3 := h3'
          have H3 : Below w27.heap.size w27 x3 := H2.trans (h3.mono H2.size)
          have z3 := H3.size
          replace y1 := y1.below h3
          replace y2 := y2.below h3
          clear h3 h3'
          refine hK.out _ _ (⟨kept_cell H3 c0 l0, kept_cell H3 c2 l2⟩) (fun hHeld => ?_)
          clear hK K
          (try simp only [Act.put, List.setIfInBounds_toArray, List.set_cons_zero, List.set_cons_succ])
          refine wpAnyH_ready (rs := [7, 13]) (by kernel_rfl) (by simp) ?_
          refine AllReadyH.cons rfl (fun K hK => ?_) ?_
          · go_simp
            (go_at_call 15; refine (toInt64S_any ao3 S3 cap3 _ (by omega) (hS3.below ((B.trans (H3.mono B.size))))).mono ?_)
            rintro e x4 ⟨b4, rfl, y4, h4'⟩
            have h4 : Below x3.heap.size x3 x4 := h4'
            have H4 : Below w27.heap.size w27 x4 := H3.trans (h4.mono H3.size)
            have z4 := H4.size
            replace y1 := y1.below h4
            replace y2 := y2.below h4
            replace y3 := y3.below h4
            clear h4 h4'
            refine hK.out _ _ (⟨kept_cell H4 c0 l0, kept_cell H4 c2 l2⟩) (fun hHeld => ?_)
            clear hK K
            (try simp only [Act.put, List.setIfInBounds_toArray, List.set_cons_zero, List.set_cons_succ])
            refine wpAnyH_ready (rs := [8, 13]) (by kernel_rfl) (by simp) ?_
            refine AllReadyH.cons rfl (fun K hK => ?_) ?_
            · go_simp
              (go_at_call 16; refine (impl_DirectSum _ S0 _ (by omega) _ S1 _ (by omega) _ S2 _ (by omega) _ S3 _ (by omega) _ (own_ints y1) (own_ints y2) (own_ints y3) (own_ints y4)).mono ?_)
              rintro e x5 ⟨m0, vs0, v0, rfl, hm0, hr0, os0, o0, hn0, h5'⟩
              have h5 : Below x4.heap.size x4 x5 := h5'
              have H5 : Below w27.heap.size w27 x5 := H4.trans (h5.mono H4.size)
              have z5 := H5.size
              obtain ⟨as0, ks0, hv⟩ := os0.shape
              subst hv
              obtain ⟨a0, k0, hv⟩ := o0.shape
              subst hv
              have hm1 : x4.heap.size ≤ m0 := hm0
              refine hK.out _ _ (⟨kept_cell H5 c0 l0, kept_cell H5 c2 l2⟩) (fun hHeld => ?_)
              clear hK K
              (try simp only [Act.put, List.setIfInBounds_toArray, List.set_cons_zero, List.set_cons_succ])
              refine wpAnyH_take (i := 9) (v := ?_) rfl (by kernel_rfl) (by kernel_rfl) (by kernel_rfl) (fun _ _ _ h => h) (Or.inl ⟨by rfl, ?_⟩) (by assumption) ?_
              rotate_left
              · (intro w hSw; obtain ⟨hSa, hSb⟩ := hSw; (try dsimp only at hSa hSb); go_simp; try (with_reducible rfl))
              (try simp only [Act.put, List.setIfInBounds_toArray, List.set_cons_zero, List.set_cons_succ])
              refine wpAnyH_take (i := 10) (v := ?_) rfl (by kernel_rfl) (by kernel_rfl) (by kernel_rfl) (fun _ _ _ h => h) (Or.inl ⟨by rfl, ?_⟩) (by assumption) ?_
              rotate_left
              · (intro w hSw; obtain ⟨hSa, hSb⟩ := hSw; (try dsimp only at hSa hSb); go_simp; try (with_reducible rfl))
              (try simp only [Act.put, List.setIfInBounds_toArray, List.set_cons_zero, List.set_cons_succ])
              refine wpAnyH_take (i := 11) (v := ?_) rfl (by kernel_rfl) (by kernel_rfl) (by kernel_rfl) (fun _ _ _ h => h) (Or.inl ⟨by rfl, ?_⟩) (by assumption) ?_
              rotate_left
              · (intro w hSw; obtain ⟨hSa, hSb⟩ := hSw; (try dsimp only at hSa hSb); go_simp; try (with_reducible rfl))
              (try simp only [Act.put, List.setIfInBounds_toArray, List.set_cons_zero, List.set_cons_succ])
              refine wpAnyH_take (i := 12) (v := ?_) rfl (by kernel_rfl) (by kernel_rfl) (by kernel_rfl) (fun _ _ _ h => h) (Or.inl ⟨by rfl, ?_⟩) (by assumption) ?_
              rotate_left
              · (intro w hSw; obtain ⟨hSa, hSb⟩ := hSw; (try dsimp only at hSa hSb); go_simp; try (with_reducible rfl))
              (try simp only [Act.put, List.setIfInBounds_toArray, List.set_cons_zero, List.set_cons_succ])
              refine wpAnyH_ready (rs := [13]) (by kernel_rfl) (by simp) ?_
              refine AllReadyH.cons rfl (fun K hK => ?_) AllReadyH.nil
              go_simp
              have HA : Below w27.heap.size w27 (x5.alloc (.cells #[.slice none 0 0] 26)) := H5.alloc H5.size _
              refine hK.out _ _ (⟨kept_cell HA c0 l0, kept_cell HA c2 l2⟩) (fun hHeld => ?_)
              clear hK K
              (try simp only [Act.put, List.setIfInBounds_toArray, List.set_cons_zero, List.set_cons_succ])
              refine wpAnyH_ready (rs := [14]) (by kernel_rfl) (by simp) ?_
              refine AllReadyH.cons rfl (fun K hK => ?_) AllReadyH.nil
              go_simp
              have HF : Below w27.heap.size w27 (x5.alloc (.cells #[(.slice as0 (vDsS S0 S1 S2 S3).length ks0)] 26)) := H5.alloc H5.size _
              refine hK.out _ _ (⟨kept_cell HF c0 l0, kept_cell HF c2 l2⟩) (fun hHeld => ?_)
              clear hK K
              (try simp only [Act.put, List.setIfInBounds_toArray, List.set_cons_zero, List.set_cons_succ])
              refine wpAnyH_take (i := 15) (v := ?_) rfl (by kernel_rfl) (by kernel_rfl) (by kernel_rfl) (fun _ _ _ h => h) (Or.inl ⟨by rfl, ?_⟩) (by assumption) ?_
              rotate_left
              · (intro w hSw; obtain ⟨hSa, hSb⟩ := hSw; (try dsimp only at hSa hSb); go_simp; try (with_reducible rfl))
              (try simp only [Act.put, List.setIfInBounds_toArray, List.set_cons_zero, List.set_cons_succ])
              refine wpAnyH_take (i := 16) (v := ?_) rfl (by kernel_rfl) (by kernel_rfl) (by kernel_rfl) (fun _ _ _ h => h) (Or.inl ⟨by rfl, ?_⟩) (by assumption) ?_
              rotate_left
              · (intro w hSw; obtain ⟨hSa, hSb⟩ := hSw; (try dsimp only at hSa hSb); go_simp; try (with_reducible rfl))
              (try simp only [Act.put, List.setIfInBounds_toArray, List.set_cons_zero, List.set_cons_succ])
              refine wpAnyH_done (by kernel_rfl) ?_ _
              (try simp only [List.getElem_toArray, List.getElem_cons_succ, List.getElem_cons_zero, Act.put, List.setIfInBounds_toArray, List.set_cons_zero, List.set_cons_succ])
              go_wp2_with fail
              go_meet
              exact ⟨x5.heap.size, as0, ks0, a0, k0, rfl, rfl, rfl, cell_new _ _ _, lt_alloc _ _, (os0.alloc _).rebase (by omega), (o0.alloc _).rebase (by omega), HF⟩
            refine AllReadyH.cons rfl (fun K hK => ?_) AllReadyH.nil
            go_simp
            have H6 : Below w27.heap.size w27 (x4.alloc (.cells #[.slice none 0 0] 26)) := H4.alloc H4.size _
            have z6 : (x4.alloc (.cells #[.slice none 0 0] 26)).heap.size = x4.heap.size + 1 := World.size_alloc _ _
            have rO := heap_alloc_last x4 (.cells #[.slice none 0 0] 26)
            have hp : x4.heap.size < (x4.alloc (.cells #[.slice none 0 0] 26)).heap.size := by omega
            have hpW : w27.heap.size ≤ x4.heap.size := H4.size
            replace y1 := y1.alloc (.cells #[.slice none 0 0] 26)
            replace y2 := y2.alloc (.cells #[.slice none 0 0] 26)
            replace y3 := y3.alloc (.cells #[.slice none 0 0] 26)
            replace y4 := y4.alloc (.cells #[.slice none 0 0] 26)
            refine hK.out _ _ (⟨kept_cell H6 c0 l0, kept_cell H6 c2 l2⟩) (fun hHeld => ?_)
            clear hK K
            (try simp only [Act.put, List.setIfInBounds_toArray, List.set_cons_zero, List.set_cons_succ])
            refine wpAnyH_ready (rs := [8]) (by kernel_rfl) (by simp) ?_
            refine AllReadyH.cons rfl (fun K hK => ?_) AllReadyH.nil
            go_simp
            have hpq := hp
            (go_at_call 16; refine (impl_DirectSum _ S0 _ (by omega) _ S1 _ (by omega) _ S2 _ (by omega) _ S3 _ (by omega) _ (own_ints y1) (own_ints y2) (own_ints y3) (own_ints y4)).mono ?_)
            rintro e x7 ⟨m0, vs0, v0, rfl, hm0, hr0, os0, o0, hn0, h7'⟩
            have h7 : Below (x4.alloc (.cells #[.slice none 0 0] 26)).heap.size (x4.alloc (.cells #[.slice none 0 0] 26)) x7 := h7'
            have H7 : Below w27.heap.size w27 x7 := H6.trans (h7.mono H6.size)
            have z7 := H7.size
            obtain ⟨as0, ks0, hv⟩ := os0.shape
            subst hv
            obtain ⟨a0, k0, hv⟩ := o0.shape
            subst hv
            have hm1 : (x4.alloc (.cells #[.slice none 0 0] 26)).heap.size ≤ m0 := hm0
            replace rO := row_below rO h7 (by omega)
            replace hp : x4.heap.size < x7.heap.size := Nat.lt_of_lt_of_le hp h7.size
            refine hK.out _ _ (⟨kept_cell H7 c0 l0, kept_cell H7 c2 l2⟩) (fun hHeld => ?_)
            clear hK K
            (try simp only [Act.put, List.setIfInBounds_toArray, List.set_cons_zero, List.set_cons_succ])
            refine wpAnyH_take (i := 9) (v := ?_) rfl (by kernel_rfl) (by kernel_rfl) (by kernel_rfl) (fun _ _ _ h => h) (Or.inl ⟨by rfl, ?_⟩) (by assumption) ?_
            rotate_left
            · (intro w hSw; obtain ⟨hSa, hSb⟩ := hSw; (try dsimp only at hSa hSb); go_simp; try (with_reducible rfl))
            (try simp only [Act.put, List.setIfInBounds_toArray, List.set_cons_zero, List.set_cons_succ])
            refine wpAnyH_take (i := 10) (v := ?_) rfl (by kernel_rfl) (by kernel_rfl) (by kernel_rfl) (fun _ _ _ h => h) (Or.inl ⟨by rfl, ?_⟩) (by assumption) ?_
            rotate_left
            · (intro w hSw; obtain ⟨hSa, hSb⟩ := hSw; (try dsimp only at hSa hSb); go_simp; try (with_reducible rfl))
            (try simp only [Act.put, List.setIfInBounds_toArray, List.set_cons_zero, List.set_cons_succ])
            refine wpAnyH_take (i := 11) (v := ?_) rfl (by kernel_rfl) (by kernel_rfl) (by kernel_rfl) (fun _ _ _ h => h) (Or.inl ⟨by rfl, ?_⟩) (by assumption) ?_
            rotate_left
            · (intro w hSw; obtain ⟨hSa, hSb⟩ := hSw; (try dsimp only at hSa hSb); go_simp; try (with_reducible rfl))
            (try simp only [Act.put, List.setIfInBounds_toArray, List.set_cons_zero, List.set_cons_succ])
            refine wpAnyH_take (i := 12) (v := ?_) rfl (by kernel_rfl) (by kernel_rfl) (by kernel_rfl) (fun _ _ _ h => h) (Or.inl ⟨by rfl, ?_⟩) (by assumption) ?_
            rotate_left
            · (intro w hSw; obtain ⟨hSa, hSb⟩ := hSw; (try dsimp only at hSa hSb); go_simp; try (with_reducible rfl))
            (try simp only [Act.put, List.setIfInBounds_toArray, List.set_cons_zero, List.set_cons_succ])
            refine wpAnyH_ready (rs := [14]) (by kernel_rfl) (by simp) ?_
            refine AllReadyH.cons rfl (fun K hK => ?_) AllReadyH.nil
            have rcO : x7.cell? ⟨x4.heap.size, 0, none⟩ = some (.slice none 0 0) := by rw [cell_of_row x7 (x4.heap.size) 0 _ _ _ rO]; rfl
            have rfO : x7.frozen? ⟨x4.heap.size, 0, none⟩ = false := by have h' := rO; simp [World.frozen?, h']
            go_simp
            have HF : Below w27.heap.size w27 (x7.setCell ⟨x4.heap.size, 0, none⟩ (.slice as0 (vDsS S0 S1 S2 S3).length ks0)) := H7.setCell (show w27.heap.size ≤ x4.heap.size from hpW) _
            refine hK.out _ _ (⟨kept_cell HF c0 l0, kept_cell HF c2 l2⟩) (fun hHeld => ?_)
            clear hK K
            (try simp only [Act.put, List.setIfInBounds_toArray, List.set_cons_zero, List.set_cons_succ])
            refine wpAnyH_take (i := 15) (v := ?_) rfl (by kernel_rfl) (by kernel_rfl) (by kernel_rfl) (fun _ _ _ h => h) (Or.inl ⟨by rfl, ?_⟩) (by assumption) ?_
            rotate_left
            · (intro w hSw; obtain ⟨hSa, hSb⟩ := hSw; (try dsimp only at hSa hSb); go_simp; try (with_reducible rfl))
            (try simp only [Act.put, List.setIfInBounds_toArray, List.set_cons_zero, List.set_cons_succ])
            refine wpAnyH_take (i := 16) (v := ?_) rfl (by kernel_rfl) (by kernel_rfl) (by kernel_rfl) (fun _ _ _ h => h) (Or.inl ⟨by rfl, ?_⟩) (by assumption) ?_
            rotate_left
            · (intro w hSw; obtain ⟨hSa, hSb⟩ := hSw; (try dsimp only at hSa hSb); go_simp; try (with_reducible rfl))
            (try simp only [Act.put, List.setIfInBounds_toArray, List.set_cons_zero, List.set_cons_succ])
            refine wpAnyH_done (by kernel_rfl) ?_ _
            (try simp only [List.getElem_toArray, List.getElem_cons_succ, List.getElem_cons_zero, Act.put, List.setIfInBounds_toArray, List.set_cons_zero, List.set_cons_succ])
            go_wp2_with fail
            go_meet
            exact ⟨x4.heap.size, as0, ks0, a0, k0, rfl, rfl, rfl, World.cell?_setCell_same' _ _ _ (by rw [rcO]; rfl), by simp; omega, (os0.setBelow (show x4.heap.size < _ by omega) _).rebase (by omega), (o0.setBelow (show x4.heap.size < _ by omega) _).rebase (by omega), HF⟩
          refine AllReadyH.cons rfl (fun K hK => ?_) AllReadyH.nil
          go_simp
          have H8 : Below w27.heap.size w27 (x3.alloc (.cells #[.slice none 0 0] 26)) := H3.alloc H3.size _
          have z8 : (x3.alloc (.cells #[.slice none 0 0] 26)).heap.size = x3.heap.size + 1 := World.size_alloc _ _
          have rO := heap_alloc_last x3 (.cells #[.slice none 0 0] 26)
          have hp : x3.heap.size < (x3.alloc (.cells #[.slice none 0 0] 26)).heap.size := by omega
          have hpW : w27.heap.size ≤ x3.heap.size := H3.size
          replace y1 := y1.alloc (.cells #[.slice none 0 0] 26)
          replace y2 := y2.alloc (.cells #[.slice none 0 0] 26)
          replace y3 := y3.alloc (.cells #[.slice none 0 0] 26)
          refine hK.out _ _ (⟨kept_cell H8 c0 l0, kept_cell H8 c2 l2⟩) (fun hHeld => ?_)
          clear hK K
          (try simp only [Act.put, List.setIfInBounds_toArray, List.set_cons_zero, List.set_cons_succ])
          refine wpAnyH_ready (rs := [7]) (by kernel_rfl) (by simp) ?_
          refine AllReadyH.cons rfl (fun K hK => ?_) AllReadyH.nil
          go_simp
          (go_at_call 15; refine (toInt64S_any ao3 S3 cap3 _ (by omega) (hS3.below ((B.trans (H8.mono B.size))))).mono ?_)
          rintro e x9 ⟨b9, rfl, y9, h9'⟩
          have h9 : Below (x3.alloc (.cells #[.slice none 0 0] 26)).heap.size (x3.alloc (.cells #[.slice none 0 0] 26)) x9 := h9'
          have H9 : Below w27.heap.size w27 x9 := H8.trans (h9.mono H8.size)
          have z9 := H9.size
          replace y1 := y1.below h9
          replace y2 := y2.below h9
          replace y3 := y3.below h9
          replace rO := row_below rO h9 (by omega)
          replace hp : x3.heap.size < x9.heap.size := Nat.lt_of_lt_of_le hp h9.size
          clear h9 h9'
          refine hK.out _ _ (⟨kept_cell H9 c0 l0, kept_cell H9 c2 l2⟩) (fun hHeld => ?_)
          clear hK K
          (try simp only [Act.put, List.setIfInBounds_toArray, List.set_cons_zero, List.set_cons_succ])
          refine wpAnyH_ready (rs := [8]) (by kernel_rfl) (by simp) ?_
          refine AllReadyH.cons rfl (fun K hK => ?_) AllReadyH.nil
          go_simp
          have hpq := hp
          (go_at_call 16; refine (impl_DirectSum _ S0 _ (by omega) _ S1 _ (by omega) _ S2 _ (by omega) _ S3 _ (by omega) _ (own_ints y1) (own_ints y2) (own_ints y3) (own_ints y9)).mono ?_)
          rintro e x10 ⟨m0, vs0, v0, rfl, hm0, hr0, os0, o0, hn0, h10'⟩
          have h10 : Below x9.heap.size x9 x10 := h10'
          have H10 : Below w27.heap.size w27 x10 := H9.trans (h10.mono H9.size)
          have z10 := H10.size
          obtain ⟨as0, ks0, hv⟩ := os0.shape
          subst hv
          obtain ⟨a0, k0, hv⟩ := o0.shape
          subst hv
          have hm1 : x9.heap.size ≤ m0 := hm0
          replace rO := row_below rO h10 (by omega)
          replace hp : x3.heap.size < x10.heap.size := Nat.lt_of_lt_of_le hp h10.size
          refine hK.out _ _ (⟨kept_cell H10 c0 l0, kept_cell H10 c2 l2⟩) (fun hHeld => ?_)
          clear hK K
          (try simp only [Act.put, List.setIfInBounds_toArray, List.set_cons_zero, List.set_cons_succ])
          refine wpAnyH_take (i := 9) (v := ?_) rfl (by kernel_rfl) (by kernel_rfl) (by kernel_rfl) (fun _ _ _ h => h) (Or.inl ⟨by rfl, ?_⟩) (by assumption) ?_
          rotate_left
          · (intro w hSw; obtain ⟨hSa, hSb⟩ := hSw; (try dsimp only at hSa hSb); go_simp; try (with_reducible rfl))
          (try simp only [Act.put, List.setIfInBounds_toArray, List.set_cons_zero, List.set_cons_succ])
          refine wpAnyH_take (i := 10) (v := ?_) rfl (by kernel_rfl) (by kernel_rfl) (by kernel_rfl) (fun _ _ _ h => h) (Or.inl ⟨by rfl, ?_⟩) (by assumption) ?_
          rotate_left
          · (intro w hSw; obtain ⟨hSa, hSb⟩ := hSw; (try dsimp only at hSa hSb); go_simp; try (with_reducible rfl))
          (try simp only [Act.put, List.setIfInBounds_toArray, List.set_cons_zero, List.set_cons_succ])
          refine wpAnyH_take (i := 11) (v := ?_) rfl (by kernel_rfl) (by kernel_rfl) (by kernel_rfl) (fun _ _ _ h => h) (Or.inl ⟨by rfl, ?_⟩) (by assumption) ?_
          rotate_left
          · (intro w hSw; obtain ⟨hSa, hSb⟩ := hSw; (try dsimp only at hSa hSb); go_simp; try (with_reducible rfl))
          (try simp only [Act.put, List.setIfInBounds_toArray, List.set_cons_zero, List.set_cons_succ])
          refine wpAnyH_take (i := 12) (v := ?_) rfl (by kernel_rfl) (by kernel_rfl) (by kernel_rfl) (fun _ _ _ h => h) (Or.inl ⟨by rfl, ?_⟩) (by assumption) ?_
          rotate_left
          · (intro w hSw; obtain ⟨hSa, hSb⟩ := hSw; (try dsimp only at hSa hSb); go_simp; try (with_reducible rfl))
          (try simp only [Act.put, List.setIfInBounds_toArray, List.set_cons_zero, List.set_cons_succ])
          refine wpAnyH_ready (rs := [14]) (by kernel_rfl) (by simp) ?_
          refine AllReadyH.cons rfl (fun K hK => ?_) AllReadyH.nil
          have rcO : x10.cell? ⟨x3.heap.size, 0, none⟩ = some (.slice none 0 0) := by rw [cell_of_row x10 (x3.heap.size) 0 _ _ _ rO]; rfl
          have rfO : x10.frozen? ⟨x3.heap.size, 0, none⟩ = false := by have h' := rO; simp [World.frozen?, h']
          go_simp
          have HF : Below w27.heap.size w27 (x10.setCell ⟨x3.heap.size, 0, none⟩ (.slice as0 (vDsS S0 S1 S2 S3).length ks0)) := H10.setCell (show w27.heap.size ≤ x3.heap.size from hpW) _
          refine hK.out _ _ (⟨kept_cell HF c0 l0, kept_cell HF c2 l2⟩) (fun hHeld => ?_)
          clear hK K
          (try simp only [Act.put, List.setIfInBounds_toArray, List.set_cons_zero, List.set_cons_succ])
          refine wpAnyH_take (i := 15) (v := ?_) rfl (by kernel_rfl) (by kernel_rfl) (by kernel_rfl) (fun _ _ _ h => h) (Or.inl ⟨by rfl, ?_⟩) (by assumption) ?_
          rotate_left
          · (intro w hSw; obtain ⟨hSa, hSb⟩ := hSw; (try dsimp only at hSa hSb); go_simp; try (with_reducible rfl))
          (try simp only [Act.put, List.setIfInBounds_toArray, List.set_cons_zero, List.set_cons_succ])
          refine wpAnyH_take (i := 16) (v := ?_) rfl (by kernel_rfl) (by kernel_rfl) (by kernel_rfl) (fun _ _ _ h => h) (Or.inl ⟨by rfl, ?_⟩) (by assumption) ?_
          rotate_left
          · (intro w hSw; obtain ⟨hSa, hSb⟩ := hSw; (try dsimp only at hSa hSb); go_simp; try (with_reducible rfl))
          (try simp only [Act.put, List.setIfInBounds_toArray, List.set_cons_zero, List.set_cons_succ])
          refine wpAnyH_done (by kernel_rfl) ?_ _
          (try simp only [List.getElem_toArray, List.getElem_cons_succ, List.getElem_cons_zero, Act.put, List.setIfInBounds_toArray, List.set_cons_zero, List.set_cons_succ])
          go_wp2_with fail
          go_meet
          exact ⟨x3.heap.size, as0, ks0, a0, k0, rfl, rfl, rfl, World.cell?_setCell_same' _ _ _ (by rw [rcO]; rfl), by simp; omega, (os0.setBelow (show x3.heap.size < _ by omega) _).rebase (by omega), (o0.setBelow (show x3.heap.size < _ by omega) _).rebase (by omega), HF⟩
        refine AllReadyH.cons rfl (fun K hK => ?_) AllReadyH.nil
        go_simp
        have H11 : Below w27.heap.size w27 (x2.alloc (.cells #[.slice none 0 0] 26)) := H2.alloc H2.size _
        have z11 : (x2.alloc (.cells #[.slice none 0 0] 26)).heap.size = x2.heap.size + 1 := World.size_alloc _ _
        have rO := heap_alloc_last x2 (.cells #[.slice none 0 0] 26)
        have hp : x2.heap.size < (x2.alloc (.cells #[.slice none 0 0] 26)).heap.size := by omega
        have hpW : w27.heap.size ≤ x2.heap.size := H2.size
        replace y1 := y1.alloc (.cells #[.slice none 0 0] 26)
        replace y2 := y2.alloc (.cells #[.slice none 0 0] 26)
        refine hK.out _ _ (⟨kept_cell H11 c0 l0, kept_cell H11 c2 l2⟩) (fun hHeld => ?_)
        clear hK K
        (try simp only [Act.put, List.setIfInBounds_toArray, List.set_cons_zero, List.set_cons_succ])
        refine wpAnyH_ready (rs := [5]) (by kernel_rfl) (by simp) ?_
        refine AllReadyH.cons rfl (fun K hK => ?_) AllReadyH.nil
        go_simp
        (go_at_call 14; refine (toSpace_any ao2 S2 cap2 _ (by omega) (hS2.below ((B.trans (H11.mono B.size))))).mono ?_)
        rintro e x12 ⟨b12, rfl, y12, h12'⟩
        have h12 : Below (x2.alloc (.cells #[.slice none 0 0] 26)).heap.size (x2.alloc (.cells #[.slice none 0 0] 26)) x12 := h12'
        have H12 : Below w27.heap.size w27 x12 := H11.trans (h12.mono H11.size)
        have z12 := H12.size
        replace y1 := y1.below h12
        replace y2 := y2.below h12
        replace rO := row_below rO h12 (by omega)
        replace hp : x2.heap.size < x12.heap.size := Nat.lt_of_lt_of_le hp h12.size
        clear h12 h12'
        refine hK.out _ _ (⟨kept_cell H12 c0 l0, kept_cell H12 c2 l2⟩) (fun hHeld => ?_)
        clear hK K
        (try simp only [Act.put, List.setIfInBounds_toArray, List.set_cons_zero, List.set_cons_succ])
        refine wpAnyH_ready (rs := [7]) (by kernel_rfl) (by simp) ?_
        refine AllReadyH.cons rfl (fun K hK => ?_) AllReadyH.nil
        go_simp
        (go_at_call 15; refine (toInt64S_any ao3 S3 cap3 _ (by omega) (hS3.below ((B.trans (H12.mono B.size))))).mono ?_)
        rintro e x13 ⟨b13, rfl, y13, h13'⟩
        have h13 : Below x12.heap.size x12 x13 := h13'
        have H13 : Below w27.heap.size w27 x13 := H12.trans (h13.mono H12.size)
        have z13 := H13.size
        replace y1 := y1.below h13
        replace y2 := y2.below h13
        replace y12 := y12.below h13
        replace rO := row_below rO h13 (by omega)
        replace hp : x2.heap.size < x13.heap.size := Nat.lt_of_lt_of_le hp h13.size
        clear h13 h13'
        refine hK.out _ _ (⟨kept_cell H13 c0 l0, kept_cell H13 c2 l2⟩) (fun hHeld => ?_)
        clear hK K
        (try simp only [Act.put, List.setIfInBounds_toArray, List.set_cons_zero, List.set_cons_succ])
        refine wpAnyH_ready (rs := [8]) (by kernel_rfl) (by simp) ?_
        refine AllReadyH.cons rfl (fun K hK => ?_) AllReadyH.nil
        go_simp
        have hpq := hp
        (go_at_call 16; refine (impl_DirectSum _ S0 _ (by omega) _ S1 _ (by omega) _ S2 _ (by omega) _ S3 _ (by omega) _ (own_ints y1) (own_ints y2) (own_ints y12) (own_ints y13)).mono ?_)
        rintro e x14 ⟨m0, vs0, v0, rfl, hm0, hr0, os0, o0, hn0, h14'⟩
        have h14 : Below x13.heap.size x13 x14 := h14'
        have H14 : Below w27.heap.size w27 x14 := H13.trans (h14.mono H13.size)
        have z14 := H14.size
        obtain ⟨as0, ks0, hv⟩ := os0.shape
        subst hv
        obtain ⟨a0, k0, hv⟩ := o0.shape
        subst hv
        have hm1 : x13.heap.size ≤ m0 := hm0
        replace rO := row_below rO h14 (by omega)
        replace hp : x2.heap.size < x14.heap.size := Nat.lt_of_lt_of_le hp h14.size
        refine hK.out _ _ (⟨kept_cell H14 c0 l0, kept_cell H14 c2 l2⟩) (fun hHeld => ?_)
        clear hK K
        (try simp only [Act.put, List.setIfInBounds_toArray, List.set_cons_zero, List.set_cons_succ])
        refine wpAnyH_take (i := 9) (v := ?_) rfl (by kernel_rfl) (by kernel_rfl) (by kernel_rfl) (fun _ _ _ h => h) (Or.inl ⟨by rfl, ?_⟩) (by assumption) ?_
        rotate_left
        · (intro w hSw; obtain ⟨hSa, hSb⟩ := hSw; (try dsimp only at hSa hSb); go_simp; try (with_reducible rfl))
        (try simp only [Act.put, List.setIfInBounds_toArray, List.set_cons_zero, List.set_cons_succ])
        refine wpAnyH_take (i := 10) (v := ?_) rfl (by kernel_rfl) (by kernel_rfl) (by kernel_rfl) (fun _ _ _ h => h) (Or.inl ⟨by rfl, ?_⟩) (by assumption) ?_
        rotate_left
        · (intro w hSw; obtain ⟨hSa, hSb⟩ := hSw; (try dsimp only at hSa hSb); go_simp; try (with_reducible rfl))
        (try simp only [Act.put, List.setIfInBounds_toArray, List.set_cons_zero, List.set_cons_succ])
        refine wpAnyH_take (i := 11) (v := ?_) rfl (by kernel_rfl) (by kernel_rfl) (by kernel_rfl) (fun _ _ _ h => h) (Or.inl ⟨by rfl, ?_⟩) (by assumption) ?_
        rotate_left
        · (intro w hSw; obtain ⟨hSa, hSb⟩ := hSw; (try dsimp only at hSa hSb); go_simp; try (with_reducible rfl))
        (try simp only [Act.put, List.setIfInBounds_toArray, List.set_cons_zero, List.set_cons_succ])
        refine wpAnyH_take (i := 12) (v := ?_) rfl (by kernel_rfl) (by kernel_rfl) (by kernel_rfl) (fun _ _ _ h => h) (Or.inl ⟨by rfl, ?_⟩) (by assumption) ?_
        rotate_left
        · (intro w hSw; obtain ⟨hSa, hSb⟩ := hSw; (try dsimp only at hSa hSb); go_simp; try (with_reducible rfl))
        (try simp only [Act.put, List.setIfInBounds_toArray, List.set_cons_zero, List.set_cons_succ])
        refine wpAnyH_ready (rs := [14]) (by kernel_rfl) (by simp) ?_
        refine AllReadyH.cons rfl (fun K hK => ?_) AllReadyH.nil
        have rcO : x14.cell? ⟨x2.heap.size, 0, none⟩ = some (.slice none 0 0) := by rw [cell_of_row x14 (x2.heap.size) 0 _ _ _ rO]; rfl
        have rfO : x14.frozen? ⟨x2.heap.size, 0, none⟩ = false := by have h' := rO; simp [World.frozen?, h']
        go_simp
        have HF : Below w27.heap.size w27 (x14.setCell ⟨x2.heap.size, 0, none⟩ (.slice as0 (vDsS S0 S1 S2 S3).length ks0)) := H14.setCell (show w27.heap.size ≤ x2.heap.size from hpW) _
        refine hK.out _ _ (⟨kept_cell HF c0 l0, kept_cell HF c2 l2⟩) (fun hHeld => ?_)
        clear hK K
        (try simp only [Act.put, List.setIfInBounds_toArray, List.set_cons_zero, List.set_cons_succ])
        refine wpAnyH_take (i := 15) (v := ?_) rfl (by kernel_rfl) (by kernel_rfl) (by kernel_rfl) (fun _ _ _ h => h) (Or.inl ⟨by rfl, ?_⟩) (by assumption) ?_
        rotate_left
        · (intro w hSw; obtain ⟨hSa, hSb⟩ := hSw; (try dsimp only at hSa hSb); go_simp; try (with_reducible rfl))
        (try simp only [Act.put, List.setIfInBounds_toArray, List.set_cons_zero, List.set_cons_succ])
        refine wpAnyH_take (i := 16) (v := ?_) rfl (by kernel_rfl) (by kernel_rfl) (by kernel_rfl) (fun _ _ _ h => h) (Or.inl ⟨by rfl, ?_⟩) (by assumption) ?_
        rotate_left
        · (intro w hSw; obtain ⟨hSa, hSb⟩ := hSw; (try dsimp only at hSa hSb); go_simp; try (with_reducible rfl))
        (try simp only [Act.put, List.setIfInBounds_toArray, List.set_cons_zero, List.set_cons_succ])
        refine wpAnyH_done (by kernel_rfl) ?_ _
        (try simp only [List.getElem_toArray, List.getElem_cons_succ, List.getElem_cons_zero, Act.put, List.setIfInBounds_toArray, List.set_cons_zero, List.set_cons_succ])
        go_wp2_with fail
        go_meet
        exact ⟨x2.heap.size, as0, ks0, a0, k0, rfl, rfl, rfl, World.cell?_setCell_same' _ _ _ (by rw [rcO]; rfl), by simp; omega, (os0.setBelow (show x2.heap.size < _ by omega) _).rebase (by omega), (o0.setBelow (show x2.heap.size < _ by omega) _).rebase (by omega), HF⟩
      refine AllReadyH.cons rfl (fun K hK => ?_) AllReadyH.nil
      go_simp
      have H15 : Below w27.heap.size w27 (x1.alloc (.cells #[.slice none 0 0] 26)) := H1.alloc H1.size _
      have z15 : (x1.alloc (.cells #[.slice none 0 0] 26)).heap.size = x1.heap.size + 1 := World.size_alloc _ _
      have rO := heap_alloc_last x1 (.cells #[.slice none 0 0] 26)
      have hp : x1.heap.size < (x1.alloc (.cells #[.slice none 0 0] 26)).heap.size := by omega
      have hpW : w27.heap.size ≤ x1.heap.size := H1.size
      replace y1 := y1.alloc (.cells #[.slice none 0 0] 26)
      refine hK.out _ _ (⟨kept_cell H15 c0 l0, kept_cell H15 c2 l2⟩) (fun hHeld => ?_)
      clear hK K
      (try simp only [Act.put, List.setIfInBounds_toArray, List.set_cons_zero, List.set_cons_succ])
      refine wpAnyH_ready (rs := [3]) (by kernel_rfl) (by simp) ?_
      refine AllReadyH.cons rfl (fun K hK => ?_) AllReadyH.nil
      go_simp
      (go_at_call 15; refine (toInt64S_any ao1 S1 cap1 _ (by omega) (hS1.below ((B.trans (H15.mono B.size))))).mono ?_)
      rintro e x16 ⟨b16, rfl, y16, h16'⟩
      have h16 : Below (x1.alloc (.cells #[.slice none 0 0] 26)).heap.size (x1.alloc (.cells #[.slice none 0 0] 26)) x16 := h16'
      have H16 : Below w27.heap.size w27 x16 := H15.trans (h16.mono H15.size)
      have z16 := H16.size
      replace y1 := y1.below h16
      replace rO := row_below rO h16 (by omega)
      replace hp : x1.heap.size < x16.heap.size := Nat.lt_of_lt_of_le hp h16.size
      clear h16 h16'
      refine hK.out _ _ (⟨kept_cell H16 c0 l0, kept_cell H16 c2 l2⟩) (fun hHeld => ?_)
      clear hK K
      (try simp only [Act.put, List.setIfInBounds_toArray, List.set_cons_zero, List.set_cons_succ])
      refine wpAnyH_ready (rs := [5]) (by kernel_rfl) (by simp) ?_
      refine AllReadyH.cons rfl (fun K hK => ?_) AllReadyH.nil
      go_simp
      (go_at_call 14; refine (toSpace_any ao2 S2 cap2 _ (by omega) (hS2.below ((B.trans (H16.mono B.size))))).mono ?_)
      rintro e x17 ⟨b17, rfl, y17, h17'⟩
      have h17 : Below x16.heap.size x16 x17 := h17'
      have H17 : Below w27.heap.size w27 x17 := H16.trans (h17.mono H16.size)
      have z17 := H17.size
      replace y1 := y1.below h17
      replace y16 := y16.below h17
      replace rO := row_below rO h17 (by omega)
      replace hp : x1.heap.size < x17.heap.size := Nat.lt_of_lt_of_le hp h17.size
      clear h17 h17'
      refine hK.out _ _ (⟨kept_cell H17 c0 l0, kept_cell H17 c2 l2⟩) (fun hHeld => ?_)
      clear hK K
      (try simp only [Act.put, List.setIfInBounds_toArray, List.set_cons_zero, List.set_cons_succ])
      refine wpAnyH_ready (rs := [7]) (by kernel_rfl) (by simp) ?_
      refine AllReadyH.cons rfl (fun K hK => ?_) AllReadyH.nil
      go_simp
      (go_at_call 15; refine (toInt64S_any ao3 S3 cap3 _ (by omega) (hS3.below ((B.trans (H17.mono B.size))))).mono ?_)
      rintro e x18 ⟨b18, rfl, y18, h18'⟩
      have h18 : Below x17.heap.size x17 x18 := h18'
      have H18 : Below w27.heap.size w27 x18 := H17.trans (h18.mono H17.size)
      have z18 := H18.size
      replace y1 := y1.below h18
      replace y16 := y16.below h18
      replace y17 := y17.below h18
      replace rO := row_below rO h18 (by omega)
      replace hp : x1.heap.size < x18.heap.size := Nat.lt_of_lt_of_le hp h18.size
      clear h18 h18'
      refine hK.out _ _ (⟨kept_cell H18 c0 l0, kept_cell H18 c2 l2⟩) (fun hHeld => ?_)
      clear hK K
      (try simp only [Act.put, List.setIfInBounds_toArray, List.set_cons_zero, List.set_cons_succ])
      refine wpAnyH_ready (rs := [8]) (by kernel_rfl) (by simp) ?_
      refine AllReadyH.cons rfl (fun K hK => ?_) AllReadyH.nil
      go_simp
      have hpq := hp
      (go_at_call 16; refine (impl_DirectSum _ S0 _ (by omega) _ S1 _ (by omega) _ S2 _ (by omega) _ S3 _ (by omega) _ (own_ints y1) (own_ints y16) (own_ints y17) (own_ints y18)).mono ?_)
      rintro e x19 ⟨m0, vs0, v0, rfl, hm0, hr0, os0, o0, hn0, h19'⟩
      have h19 : Below x18.heap.size x18 x19 := h19'
      have H19 : Below w27.heap.size w27 x19 := H18.trans (h19.mono H18.size)
      have z19 := H19.size
      obtain ⟨as0, ks0, hv⟩ := os0.shape
      subst hv
      obtain ⟨a0, k0, hv⟩ := o0.shape
      subst hv
      have hm1 : x18.heap.size ≤ m0 := hm0
      replace rO := row_below rO h19 (by omega)
      replace hp : x1.heap.size < x19.heap.size := Nat.lt_of_lt_of_le hp h19.size
      refine hK.out _ _ (⟨kept_cell H19 c0 l0, kept_cell H19 c2 l2⟩) (fun hHeld => ?_)
      clear hK K
      (try simp only [Act.put, List.setIfInBounds_toArray, List.set_cons_zero, List.set_cons_succ])
      refine wpAnyH_take (i := 9) (v := ?_) rfl (by kernel_rfl) (by kernel_rfl) (by kernel_rfl) (fun _ _ _ h => h) (Or.inl ⟨by rfl, ?_⟩) (by assumption) ?_
      rotate_left
      · (intro w hSw; obtain ⟨hSa, hSb⟩ := hSw; (try dsimp only at hSa hSb); go_simp; try (with_reducible rfl))
      (try simp only [Act.put, List.setIfInBounds_toArray, List.set_cons_zero, List.set_cons_succ])
      refine wpAnyH_take (i := 10) (v := ?_) rfl (by kernel_rfl) (by kernel_rfl) (by kernel_rfl) (fun _ _ _ h => h) (Or.inl ⟨by rfl, ?_⟩) (by assumption) ?_
      rotate_left
      · (intro w hSw; obtain ⟨hSa, hSb⟩ := hSw; (try dsimp only at hSa hSb); go_simp; try (with_reducible rfl))
      (try simp only [Act.put, List.setIfInBounds_toArray, List.set_cons_zero, List.set_cons_succ])
      refine wpAnyH_take (i := 11) (v := ?_) rfl (by kernel_rfl) (by kernel_rfl) (by kernel_rfl) (fun _ _ _ h => h) (Or.inl ⟨by rfl, ?_⟩) (by assumption) ?_
      rotate_left
      · (intro w hSw; obtain ⟨hSa, hSb⟩ := hSw; (try dsimp only at hSa hSb); go_simp; try (with_reducible rfl))
      (try simp only [Act.put, List.setIfInBounds_toArray, List.set_cons_zero, List.set_cons_succ])
      refine wpAnyH_take (i := 12) (v := ?_) rfl (by kernel_rfl) (by kernel_rfl) (by kernel_rfl) (fun _ _ _ h => h) (Or.inl ⟨by rfl, ?_⟩) (by assumption) ?_
      rotate_left
      · (intro w hSw; obtain ⟨hSa, hSb⟩ := hSw; (try dsimp only at hSa hSb); go_simp; try (with_reducible rfl))
      (try simp only [Act.put, List.setIfInBounds_toArray, List.set_cons_zero, List.set_cons_succ])
      refine wpAnyH_ready (rs := [14]) (by kernel_rfl) (by simp) ?_
      refine AllReadyH.cons rfl (fun K hK => ?_) AllReadyH.nil
      have rcO : x19.cell? ⟨x1.heap.size, 0, none⟩ = some (.slice none 0 0) := by rw [cell_of_row x19 (x1.heap.size) 0 _ _ _ rO]; rfl
      have rfO : x19.frozen? ⟨x1.heap.size, 0, none⟩ = false := by have h' := rO; simp [World.frozen?, h']
      go_simp
      have HF : Below w27.heap.size w27 (x19.setCell ⟨x1.heap.size, 0, none⟩ (.slice as0 (vDsS S0 S1 S2 S3).length ks0)) := H19.setCell (show w27.heap.size ≤ x1.heap.size from hpW) _
      refine hK.out _ _ (⟨kept_cell HF c0 l0, kept_cell HF c2 l2⟩) (fun hHeld => ?_)
      clear hK K
      (try simp only [Act.put, List.setIfInBounds_toArray, List.set_cons_zero, List.set_cons_succ])
      refine wpAnyH_take (i := 15) (v := ?_) rfl (by kernel_rfl) (by kernel_rfl) (by kernel_rfl) (fun _ _ _ h => h) (Or.inl ⟨by rfl, ?_⟩) (by assumption) ?_
      rotate_left
      · (intro w hSw; obtain ⟨hSa, hSb⟩ := hSw; (try dsimp only at hSa hSb); go_simp; try (with_reducible rfl))
      (try simp only [Act.put, List.setIfInBounds_toArray, List.set_cons_zero, List.set_cons_succ])
      refine wpAnyH_take (i := 16) (v := ?_) rfl (by kernel_rfl) (by kernel_rfl) (by kernel_rfl) (fun _ _ _ h => h) (Or.inl ⟨by rfl, ?_⟩) (by assumption) ?_
      rotate_left
      · (intro w hSw; obtain ⟨hSa, hSb⟩ := hSw; (try dsimp only at hSa hSb); go_simp; try (with_reducible rfl))
      (try simp only [Act.put, List.setIfInBounds_toArray, List.set_cons_zero, List.set_cons_succ])
      refine wpAnyH_done (by kernel_rfl) ?_ _
      (try simp only [List.getElem_toArray, List.getElem_cons_succ, List.getElem_cons_zero, Act.put, List.setIfInBounds_toArray, List.set_cons_zero, List.set_cons_succ])
      go_wp2_with fail
      go_meet
      exact ⟨x1.heap.size, as0, ks0, a0, k0, rfl, rfl, rfl, World.cell?_setCell_same' _ _ _ (by rw [rcO]; rfl), by simp; omega, (os0.setBelow (show x1.heap.size < _ by omega) _).rebase (by omega), (o0.setBelow (show x1.heap.size < _ by omega) _).rebase (by omega), HF⟩
    refine AllReadyH.cons rfl (fun K hK => ?_) AllReadyH.nil
    go_simp
    have H20 : Below w27.heap.size w27 (w27.alloc (.cells #[.slice none 0 0] 26)) := H0.alloc H0.size _
    have z20 : (w27.alloc (.cells #[.slice none 0 0] 26)).heap.size = w27.heap.size + 1 := World.size_alloc _ _
    have rO := heap_alloc_last w27 (.cells #[.slice none 0 0] 26)
    have hp : w27.heap.size < (w27.alloc (.cells #[.slice none 0 0] 26)).heap.size := by omega
    have hpW : w27.heap.size ≤ w27.heap.size := H0.size
    refine hK.out _ _ (⟨kept_cell H20.drew c0 l0, kept_cell H20.drew c2 l2⟩) (fun hHeld => ?_)
    clear hK K
    (try simp only [Act.put, List.setIfInBounds_toArray, List.set_cons_zero, List.set_cons_succ])
    refine wpAnyH_ready (rs := [1]) (by kernel_rfl) (by simp) ?_
    refine AllReadyH.cons rfl (fun K hK => ?_) AllReadyH.nil
    go_simp
    (go_at_call 14; refine (toSpace_any ao0 S0 cap0 _ (by omega) (hS0.below ((B.trans (H20.mono B.size)).drew))).mono ?_)
    rintro e x21 ⟨b21, rfl, y21, h21'⟩
    have h21 : Below (w27.alloc (.cells #[.slice none 0 0] 26)).heap.size (w27.alloc (.cells #[.slice none 0 0] 26)) x21 := (Below.refl _ (w27.alloc (.cells #[.slice none 0 0] 26))).drew.trans h21'
    have H21 : Below w27.heap.size w27 x21 := H20.trans (h21.mono H20.size)
    have z21 := H21.size
    replace rO := row_below rO h21 (by omega)
    replace hp : w27.heap.size < x21.heap.size := Nat.lt_of_lt_of_le hp h21.size
    clear h21 h21'
    refine hK.out _ _ (⟨kept_cell H21 c0 l0, kept_cell H21 c2 l2⟩) (fun hHeld => ?_)
    clear hK K
    (try simp only [Act.put, List.setIfInBounds_toArray, List.set_cons_zero, List.set_cons_succ])
    refine wpAnyH_ready (rs := [3]) (by kernel_rfl) (by simp) ?_
    refine AllReadyH.cons rfl (fun K hK => ?_) AllReadyH.nil
    go_simp
    (go_at_call 15; refine (toInt64S_any ao1 S1 cap1 _ (by omega) (hS1.below ((B.trans (H21.mono B.size))))).mono ?_)
    rintro e x22 ⟨b22, rfl, y22, h22'⟩
    have h22 : Below x21.heap.size x21 x22 := h22'
    have H22 : Below w27.heap.size w27 x22 := H21.trans (h22.mono H21.size)
    have z22 := H22.size
    replace y21 := y21.below h22
    replace rO := row_below rO h22 (by omega)
    replace hp : w27.heap.size < x22.heap.size := Nat.lt_of_lt_of_le hp h22.size
    clear h22 h22'
    refine hK.out _ _ (⟨kept_cell H22 c0 l0, kept_cell H22 c2 l2⟩) (fun hHeld => ?_)
    clear hK K
    (try simp only [Act.put, List.setIfInBounds_toArray, List.set_cons_zero, List.set_cons_succ])
    refine wpAnyH_ready (rs := [5]) (by kernel_rfl) (by simp) ?_
    refine AllReadyH.cons rfl (fun K hK => ?_) AllReadyH.nil
    go_simp
    (go_at_call 14; refine (toSpace_any ao2 S2 cap2 _ (by omega) (hS2.below ((B.trans (H22.mono B.size))))).mono ?_)
    rintro e x23 ⟨b23, rfl, y23, h23'⟩
    have h23 : Below x22.heap.size x22 x23 := h23'
    have H23 : Below w27.heap.size w27 x23 := H22.trans (h23.mono H22.size)
    have z23 := H23.size
    replace y21 := y21.below h23
    replace y22 := y22.below h23
    replace rO := row_below rO h23 (by omega)
    replace hp : w27.heap.size < x23.heap.size := Nat.lt_of_lt_of_le hp h23.size
    clear h23 h23'
    refine hK.out _ _ (⟨kept_cell H23 c0 l0, kept_cell H23 c2 l2⟩) (fun hHeld => ?_)
    clear hK K
    (try simp only [Act.put, List.setIfInBounds_toArray, List.set_cons_zero, List.set_cons_succ])
    refine wpAnyH_ready (rs := [7]) (by kernel_rfl) (by simp) ?_
    refine AllReadyH.cons rfl (fun K hK => ?_) AllReadyH.nil
    go_simp
    (go_at_call 15; refine (toInt64S_any ao3 S3 cap3 _ (by omega) (hS3.below ((B.trans (H23.mono B.size))))).mono ?_)
    rintro e x24 ⟨b24, rfl, y24, h24'⟩
    have h24 : Below x23.heap.size x23 x24 := h24'
    have H24 : Below w27.heap.size w27 x24 := H23.trans (h24.mono H23.size)
    have z24 := H24.size
    replace y21 := y21.below h24
    replace y22 := y22.below h24
    replace y23 := y23.below h24
    replace rO := row_below rO h24 (by omega)
    replace hp : w27.heap.size < x24.heap.size := Nat.lt_of_lt_of_le hp h24.size
    clear h24 h24'
    refine hK.out _ _ (⟨kept_cell H24 c0 l0, kept_cell H24 c2 l2⟩) (fun hHeld => ?_)
    clear hK K
    (try simp only [Act.put, List.setIfInBounds_toArray, List.set_cons_zero, List.set_cons_succ])
    refine wpAnyH_ready (rs := [8]) (by kernel_rfl) (by simp) ?_
    refine AllReadyH.cons rfl (fun K hK => ?_) AllReadyH.nil
    go_simp
    have hpq := hp
    (go_at_call 16; refine (impl_DirectSum _ S0 _ (by omega) _ S1 _ (by omega) _ S2 _ (by omega) _ S3 _ (by omega) _ (own_ints y21) (own_ints y22) (own_ints y23) (own_ints y24)).mono ?_)
    rintro e x25 ⟨m0, vs0, v0, rfl, hm0, hr0, os0, o0, hn0, h25'⟩
    have h25 : Below x24.heap.size x24 x25 := h25'
    have H25 : Below w27.heap.size w27 x25 := H24.trans (h25.mono H24.size)
    have z25 := H25.size
    obtain ⟨as0, ks0, hv⟩ := os0.shape
    subst hv
    obtain ⟨a0, k0, hv⟩ := o0.shape
    subst hv
    have hm1 : x24.heap.size ≤ m0 := hm0
    replace rO := row_below rO h25 (by omega)
    replace hp : w27.heap.size < x25.heap.size := Nat.lt_of_lt_of_le hp h25.size
    refine hK.out _ _ (⟨kept_cell H25 c0 l0, kept_cell H25 c2 l2⟩) (fun hHeld => ?_)
    clear hK K
    (try simp only [Act.put, List.setIfInBounds_toArray, List.set_cons_zero, List.set_cons_succ])
    refine wpAnyH_take (i := 9) (v := ?_) rfl (by kernel_rfl) (by kernel_rfl) (by kernel_rfl) (fun _ _ _ h => h) (Or.inl ⟨by rfl, ?_⟩) (by assumption) ?_
    rotate_left
    · (intro w hSw; obtain ⟨hSa, hSb⟩ := hSw; (try dsimp only at hSa hSb); go_simp; try (with_reducible rfl))
    (try simp only [Act.put, List.setIfInBounds_toArray, List.set_cons_zero, List.set_cons_succ])
    refine wpAnyH_take (i := 10) (v := ?_) rfl (by kernel_rfl) (by kernel_rfl) (by kernel_rfl) (fun _ _ _ h => h) (Or.inl ⟨by rfl, ?_⟩) (by assumption) ?_
    rotate_left
    · (intro w hSw; obtain ⟨hSa, hSb⟩ := hSw; (try dsimp only at hSa hSb); go_simp; try (with_reducible rfl))
    (try simp only [Act.put, List.setIfInBounds_toArray, List.set_cons_zero, List.set_cons_succ])
    refine wpAnyH_take (i := 11) (v := ?_) rfl (by kernel_rfl) (by kernel_rfl) (by kernel_rfl) (fun _ _ _ h => h) (Or.inl ⟨by rfl, ?_⟩) (by assumption) ?_
    rotate_left
    · (intro w hSw; obtain ⟨hSa, hSb⟩ := hSw; (try dsimp only at hSa hSb); go_simp; try (with_reducible rfl))
    (try simp only [Act.put, List.setIfInBounds_toArray, List.set_cons_zero, List.set_cons_succ])
    refine wpAnyH_take (i := 12) (v := ?_) rfl (by kernel_rfl) (by kernel_rfl) (by kernel_rfl) (fun _ _ _ h => h) (Or.inl ⟨by rfl, ?_⟩) (by assumption) ?_
    rotate_left
    · (intro w hSw; obtain ⟨hSa, hSb⟩ := hSw; (try dsimp only at hSa hSb); go_simp; try (with_reducible rfl))
    (try simp only [Act.put, List.setIfInBounds_toArray, List.set_cons_zero, List.set_cons_succ])
    refine wpAnyH_ready (rs := [14]) (by kernel_rfl) (by simp) ?_
    refine AllReadyH.cons rfl (fun K hK => ?_) AllReadyH.nil
    have rcO : x25.cell? ⟨w27.heap.size, 0, none⟩ = some (.slice none 0 0) := by rw [cell_of_row x25 (w27.heap.size) 0 _ _ _ rO]; rfl
    have rfO : x25.frozen? ⟨w27.heap.size, 0, none⟩ = false := by have h' := rO; simp [World.frozen?, h']
    go_simp
    have HF : Below w27.heap.size w27 (x25.setCell ⟨w27.heap.size, 0, none⟩ (.slice as0 (vDsS S0 S1 S2 S3).length ks0)) := H25.setCell (show w27.heap.size ≤ w27.heap.size from hpW) _
    refine hK.out _ _ (⟨kept_cell HF c0 l0, kept_cell HF c2 l2⟩) (fun hHeld => ?_)
    clear hK K
    (try simp only [Act.put, List.setIfInBounds_toArray, List.set_cons_zero, List.set_cons_succ])
    refine wpAnyH_take (i := 15) (v := ?_) rfl (by kernel_rfl) (by kernel_rfl) (by kernel_rfl) (fun _ _ _ h => h) (Or.inl ⟨by rfl, ?_⟩) (by assumption) ?_
    rotate_left
    · (intro w hSw; obtain ⟨hSa, hSb⟩ := hSw; (try dsimp only at hSa hSb); go_simp; try (with_reducible rfl))
    (try simp only [Act.put, List.setIfInBounds_toArray, List.set_cons_zero, List.set_cons_succ])
    refine wpAnyH_take (i := 16) (v := ?_) rfl (by kernel_rfl) (by kernel_rfl) (by kernel_rfl) (fun _ _ _ h => h) (Or.inl ⟨by rfl, ?_⟩) (by assumption) ?_
    rotate_left
    · (intro w hSw; obtain ⟨hSa, hSb⟩ := hSw; (try dsimp only at hSa hSb); go_simp; try (with_reducible rfl))
    (try simp only [Act.put, List.setIfInBounds_toArray, List.set_cons_zero, List.set_cons_succ])
    refine wpAnyH_done (by kernel_rfl) ?_ _
    (try simp only [List.getElem_toArray, List.getElem_cons_succ, List.getElem_cons_zero, Act.put, List.setIfInBounds_toArray, List.set_cons_zero, List.set_cons_succ])
    go_wp2_with fail
    go_meet
    exact ⟨w27.heap.size, as0, ks0, a0, k0, rfl, rfl, rfl, World.cell?_setCell_same' _ _ _ (by rw [rcO]; rfl), by simp; omega, (os0.setBelow (show w27.heap.size < _ by omega) _).rebase (by omega), (o0.setBelow (show w27.heap.size < _ by omega) _).rebase (by omega), HF⟩
  case rest =>
  obtain ⟨q28, as_28, ks_28, a_28, k_28, rfl, rfl, rfl, cz28, lz28, os28, o28, hb⟩ := hcut
  replace hb : Below w27.heap.size w27 wc := hb
  obtain ⟨w28, hwc⟩ : ∃ x, x = wc := ⟨_, rfl⟩
  subst hwc
  replace c0 := kept_cell hb c0 l0
  replace l0 := lt_of_below hb l0
  replace c2 := kept_cell hb c2 l2
  replace l2 := lt_of_below hb l2
  replace cz3 := kept_cell hb cz3 lz3
  replace lz3 := lt_of_below hb lz3
  replace cxy4 := kept_cell hb cxy4 lxy4
  replace lxy4 := lt_of_below hb lxy4
  replace cxy6 := kept_cell hb cxy6 lxy6
  replace lxy6 := lt_of_below hb lxy6
  replace cz8 := kept_cell hb cz8 lz8
  replace lz8 := lt_of_below hb lz8
  replace B := B.trans (hb.mono B.size)
  replace os3 := os3.below hb
  replace o3 := o3.below hb
  replace o4 := o4.below hb
  replace o5 := o5.below hb
  replace o6 := o6.below hb
  replace o7 := o7.below hb
  replace os8 := os8.below hb
  replace o8 := o8.below hb
  replace o13 := o13.below hb
  replace o17 := o17.below hb
  have s27 : w27.heap.size ≤ w28.heap.size := hb.size
  have Ros28 : RowIn (.slice as_28 (vDsS S0 S1 S2 S3).length ks_28) (w27.heap.size) w28.heap.size := os28.rowIn
  have Ro28 : RowIn (.slice a_28 (vDsC S0 S1 S2 S3).length k_28) (w27.heap.size) w28.heap.size := o28.rowIn
  clear hb
  have plz28 := lz28
  go_wp2_with fail
  refine (eqSpace_same _ _ (vDsS S0 S1 S2 S3) _ _ _ (by have := vDsS_len S0 S1 S2 S3; omega) (own_ints os28) (own_ints os3)).mono ?_
  rintro e w29 ⟨rfl, hb⟩
  replace c0 := kept_cell hb c0 l0
  replace l0 := lt_of_below hb l0
  replace c2 := kept_cell hb c2 l2
  replace l2 := lt_of_below hb l2
  replace cz3 := kept_cell hb cz3 lz3
  replace lz3 := lt_of_below hb lz3
  replace cxy4 := kept_cell hb cxy4 lxy4
  replace lxy4 := lt_of_below hb lxy4
  replace cxy6 := kept_cell hb cxy6 lxy6
  replace lxy6 := lt_of_below hb lxy6
  replace cz8 := kept_cell hb cz8 lz8
  replace lz8 := lt_of_below hb lz8
  replace cz28 := kept_cell hb cz28 lz28
  replace lz28 := lt_of_below hb lz28
  replace os3 := os3.below hb
  replace o3 := o3.below hb
  replace o4 := o4.below hb
  replace o5 := o5.below hb
  replace o6 := o6.below hb
  replace o7 := o7.below hb
  replace os8 := os8.below hb
  replace o8 := o8.below hb
  replace o13 := o13.below hb
  replace o17 := o17.below hb
  replace os28 := os28.below hb
  replace o28 := o28.below hb
  replace B := B.trans (hb.mono B.size)
  have s28 : w28.heap.size ≤ w29.heap.size := hb.size
  clear hb
  go_wp2_with fail
  refine (eqInt64S_same _ _ (vDsC S0 S1 S2 S3) _ _ _ (by have := vDsC_len S0 S1 S2 S3; omega) (own_ints o28) (own_ints o3)).mono ?_
  rintro e w30 ⟨rfl, hb⟩
  replace c0 := kept_cell hb c0 l0
  replace l0 := lt_of_below hb l0
  replace c2 := kept_cell hb c2 l2
  replace l2 := lt_of_below hb l2
  replace cz3 := kept_cell hb cz3 lz3
  replace lz3 := lt_of_below hb lz3
  replace cxy4 := kept_cell hb cxy4 lxy4
  replace lxy4 := lt_of_below hb lxy4
  replace cxy6 := kept_cell hb cxy6 lxy6
  replace lxy6 := lt_of_below hb lxy6
  replace cz8 := kept_cell hb cz8 lz8
  replace lz8 := lt_of_below hb lz8
  replace cz28 := kept_cell hb cz28 lz28
  replace lz28 := lt_of_below hb lz28
  replace os3 := os3.below hb
  replace o3 := o3.below hb
  replace o4 := o4.below hb
  replace o5 := o5.below hb
  replace o6 := o6.below hb
  replace o7 := o7.below hb
  replace os8 := os8.below hb
  replace o8 := o8.below hb
  replace o13 := o13.below hb
  replace o17 := o17.below hb
  replace os28 := os28.below hb
  replace o28 := o28.below hb
  replace B := B.trans (hb.mono B.size)
  have s29 : w29.heap.size ≤ w30.heap.size := hb.size
  clear hb
  go_wp2_with fail
  refine (heldSpace_any _ _ _ _ _ (by have := vDsS_len S0 S1 S2 S3; omega) (by omega) (by omega) (own_ints os8)).mono ?_
  rintro e w31 ⟨rfl, hb⟩
  replace c0 := kept_cell hb c0 l0
  replace l0 := lt_of_below hb l0
  replace c2 := kept_cell hb c2 l2
  replace l2 := lt_of_below hb l2
  replace cz3 := kept_cell hb cz3 lz3
  replace lz3 := lt_of_below hb lz3
  replace cxy4 := kept_cell hb cxy4 lxy4
  replace lxy4 := lt_of_below hb lxy4
  replace cxy6 := kept_cell hb cxy6 lxy6
  replace lxy6 := lt_of_below hb lxy6
  replace cz8 := kept_cell hb cz8 lz8
  replace lz8 := lt_of_below hb lz8
  replace cz28 := kept_cell hb cz28 lz28
  replace lz28 := lt_of_below hb lz28
  replace os3 := os3.below hb
  replace o3 := o3.below hb
  replace o4 := o4.below hb
  replace o5 := o5.below hb
  replace o6 := o6.below hb
  replace o7 := o7.below hb
  replace os8 := os8.below hb
  replace o8 := o8.below hb
  replace o13 := o13.below hb
  replace o17 := o17.below hb
  replace os28 := os28.below hb
  replace o28 := o28.below hb
  replace B := B.trans (hb.mono B.size)
  have s30 : w30.heap.size ≤ w31.heap.size := hb.size
  clear hb
  go_wp2_with fail
  refine (heldInt64S_any _ _ _ _ _ (by have := vDsC_len S0 S1 S2 S3; omega) (by omega) (by omega) (own_ints o8)).mono ?_
  rintro e wz ⟨rfl, rfl⟩
  go_wp2_with fail
  go_ret
  exact ⟨rfl, B⟩

theorem law_DirectSum (ao0 : Option Addr) (S0 : List Int) (cap0 : Nat) (hn0 : S0.length ≤ 9223372036854775807) (ao1 : Option Addr) (S1 : List Int) (cap1 : Nat) (hn1 : S1.length ≤ 9223372036854775807) (ao2 : Option Addr) (S2 : List Int) (cap2 : Nat) (hn2 : S2.length ≤ 9223372036854775807) (ao3 : Option Addr) (S3 : List Int) (cap3 : Nat) (hn3 : S3.length ≤ 9223372036854775807) (w : World) (hS0 : Ints w ao0 S0) (hS1 : Ints w ao1 S1) (hS2 : Ints w ao2 S2) (hS3 : Ints w ao3 S3) :
    Calls Try.prog 3 #[.agg #[.slice ao0 S0.length cap0], .slice ao1 S1.length cap1, .agg #[.slice ao2 S2.length cap2], .slice ao3 S3.length cap3] w fun e w' => e = .returned (.bool true) ∧ Below w.heap.size w w' := by
  by_cases hk0 : S1.length ≤ 1048576
  case neg => exact law_DirectSum_neg0 ao0 S0 cap0 hn0 ao1 S1 cap1 hn1 ao2 S2 cap2 hn2 ao3 S3 cap3 hn3 w hS0 hS1 hS2 hS3  (by omega)
  by_cases hk1 : S3.length ≤ 1048576
  case neg => exact law_DirectSum_neg1 ao0 S0 cap0 hn0 ao1 S1 cap1 hn1 ao2 S2 cap2 hn2 ao3 S3 cap3 hn3 w hS0 hS1 hS2 hS3 hk0 (by omega)
  by_cases hk2 : (S0.length : Int) ≤ 1048576
  case neg => exact law_DirectSum_neg2 ao0 S0 cap0 hn0 ao1 S1 cap1 hn1 ao2 S2 cap2 hn2 ao3 S3 cap3 hn3 w hS0 hS1 hS2 hS3 hk0 hk1 (by omega)
  by_cases hk3 : (S2.length : Int) ≤ 1048576 - (S0.length : Int)
  case neg => exact law_DirectSum_neg3 ao0 S0 cap0 hn0 ao1 S1 cap1 hn1 ao2 S2 cap2 hn2 ao3 S3 cap3 hn3 w hS0 hS1 hS2 hS3 hk0 hk1 hk2 (by omega)
  exact law_DirectSum_main ao0 S0 cap0 hn0 ao1 S1 cap1 hn1 ao2 S2 cap2 hn2 ao3 S3 cap3 hn3 w hS0 hS1 hS2 hS3 hk0 hk1 hk2 hk3

end Go.Proofs.Ytcbkmmadejbbpaa
