/-
  The contract of the program's BundleOf. By an AI agent.
-/
import Derived.Test.YtcbkmmadejbbpaaMathR
import Derived.Test.YtcbkmmadejbbpaaPerI
import Derived.Test.YtcbkmmadejbbpaaCtM
import Derived.Test.YtcbkmmadejbbpaaPlc
import Derived.Test.YtcbkmmadejbbpaaErr
import Derived.Test.YtcbkmmadejbbpaaFar
import Derived.Test.YtcbkmmadejbbpaaFam
import Derived.Test.YtcbkmmadejbbpaaSort
import Derived.Test.YtcbkmmadejbbpaaAppendAt
import Derived.Test.YtcbkmmadejbbpaaMark
import Derived.Deep.RegionHeld3
namespace Go.Proofs.Ytcbkmmadejbbpaa
open Go.RowKit Cv
set_option linter.unusedVariables false
set_option linter.unusedSimpArgs false
set_option maxRecDepth 100000

theorem mx_ge {L : List Int} (k : Nat) (hk : k < L.length) (j : Nat) (hj : j ≤ k) : gi L j ≤ mxTo L k := by
  induction k with
  | zero => have : j = 0 := by omega
            subst this; rw [mxTo]; exact Int.le_refl _
  | succ k ih =>
    rw [mxTo]
    by_cases e : j = k + 1
    · subst e; split <;> omega
    · have := ih (by omega) (by omega)
      split <;> omega
theorem two_mx {S : List Int} (hS : Sp S) : allTwo S = decide (mxTo S (S.length - 1) ≤ 2) := by
  have h1 := hS.lo
  unfold allTwo
  rw [Bool.eq_iff_iff, decide_eq_true_eq, decide_eq_true_eq]
  constructor
  · intro h
    have := (mxTo_bd (L := S) (a := 2) (b := 2) (fun i hi => by rw [h i hi]; omega) (S.length - 1) (by omega)).2
    exact this
  · intro h k hk
    have := mx_ge (L := S) (S.length - 1) (by omega) k (by omega)
    have := hS.bd k hk
    omega
theorem eBun_a' {S C : List Int} {x i : Int} (h : eBuA S C x i ≠ 0) : eBun S C x i = eBuA S C x i := by unfold eBun; rw [if_neg h]

theorem own_one' (w : World) (base : Nat) (x : Int) (h : base ≤ w.heap.size) {n : Nat} (hn : n = w.heap.size) : OwnInts (w.alloc (.cells #[.int .i64 x] 2)) base (.slice (some ⟨n, 0, none⟩) 1 1) [x] := by
  subst hn
  exact ⟨by simp, .inr ⟨w.heap.size, 1, #[.int .i64 x], rfl, h, heap_alloc_new w _, Nat.le_refl _, by simp [maxLen], by simp, by simp⟩⟩
set_option maxHeartbeats 2000000 in
theorem bundleError_any (ao : Option Addr) (S : List Int) (cap : Nat) (hn : S.length ≤ 4294967296) (ac : Option Addr) (C : List Int) (capc : Nat) (hnc : C.length ≤ 4294967296) (x : Int) (hx : -9223372036854775808 ≤ x ∧ x ≤ 9223372036854775807) (i : Int) (hi : -9223372036854775808 ≤ i ∧ i ≤ 9223372036854775807) (w : World) (hS : Ints w ao S) (hC : Ints w ac C) :
    Calls Try.prog 74 #[.agg #[.slice ao S.length cap], .slice ac C.length capc, .int .i64 x, .int .i64 i] w fun e w' => e = .returned (.int .i64 (eBun S C x i)) ∧ Below w.heap.size w w' := by
  obtain ⟨W1, hW1⟩ : ∃ W1, W1 = w.alloc (.cells #[.slice ao S.length cap] 26) := ⟨_, rfl⟩
  have HW1 := Lib.hid hW1
  have B1 : Below w.heap.size w W1 := by rw [hW1]; go_grown
  have c1 : W1.cell? ⟨w.heap.size, 0, none⟩ = some (.slice ao S.length cap) := by rw [hW1]; exact cell_new _ _ _
  have l1 : w.heap.size < W1.heap.size := by rw [hW1]; simp
  have HA := Lib.hid (eBuA_or S C x i)
  have HE := Lib.hid (eBun_a' (S := S) (C := C) (x := x) (i := i))
  have HE5 : Hid (eBuA S C x i = 0 → ¬ (allTwo S = true ∧ perB S C 1 = true ∧ x ∈ C) → eBun S C x i = 5) := Lib.hid fun h g => by unfold eBun; rw [if_pos h, if_neg g]
  have HE0 : Hid (eBuA S C x i = 0 → (allTwo S = true ∧ perB S C 1 = true ∧ x ∈ C) → eBun S C x i = 0) := Lib.hid fun h g => by unfold eBun; rw [if_pos h, if_pos g]
  have HZ : Hid (eBuA S C x i = 0 → eCode S C = 0) := Lib.hid fun h => (eBuA_zero h).1
  obtain ⟨E, hE⟩ : ∃ E, E = eBun S C x i := ⟨_, rfl⟩
  obtain ⟨EA, hEA⟩ : ∃ EA, EA = eBuA S C x i := ⟨_, rfl⟩
  rw [← hE, ← hEA] at HE HE5 HE0
  rw [← hEA] at HA HZ
  rw [← hE]
  clear hE hEA hW1
  go_enter Try.func74, Try.ntmps74
  go_wp2_with fail
  rw [← HW1.out]
  refine wp_region_held_drew (S := fun w' => w'.cell? ⟨w.heap.size, 0, none⟩ = some (.slice ao S.length cap)) (by kernel_rfl) c1 (fun hHeld => ?_)
  refine wpAnyH_take (i := 0) (v := .agg #[.slice ao S.length cap]) rfl (by kernel_rfl) (by kernel_rfl) (by kernel_rfl) (fun _ _ _ h => h) (Or.inl ⟨by rfl, ?_⟩) (by assumption) ?_
  · (intro W hSw; (try dsimp only at hSw); go_simp)
  (try simp only [List.getElem_toArray, List.getElem_cons_succ, List.getElem_cons_zero, Act.put, List.setIfInBounds_toArray, List.set_cons_zero, List.set_cons_succ])
  refine wpAnyH_take (i := 1) (v := ?_) rfl (by kernel_rfl) (by kernel_rfl) (by kernel_rfl) (fun _ _ _ h => h) (Or.inl ⟨by rfl, ?_⟩) (by assumption) ?_
  rotate_left
  · (intro w hSw; (try dsimp only at hSw); go_simp; try (with_reducible rfl))
  (try simp only [List.getElem_toArray, List.getElem_cons_succ, List.getElem_cons_zero, Act.put, List.setIfInBounds_toArray, List.set_cons_zero, List.set_cons_succ])
  refine wpAnyH_take (i := 2) (v := ?_) rfl (by kernel_rfl) (by kernel_rfl) (by kernel_rfl) (fun _ _ _ h => h) (Or.inl ⟨by rfl, ?_⟩) (by assumption) ?_
  rotate_left
  · (intro w hSw; (try dsimp only at hSw); go_simp; try (with_reducible rfl))
  (try simp only [List.getElem_toArray, List.getElem_cons_succ, List.getElem_cons_zero, Act.put, List.setIfInBounds_toArray, List.set_cons_zero, List.set_cons_succ])
  refine wpAnyH_take (i := 5) (v := .agg #[.slice ao S.length cap]) rfl (by kernel_rfl) (by kernel_rfl) (by kernel_rfl) (fun _ _ _ h => h) (Or.inl ⟨by rfl, ?_⟩) (by assumption) ?_
  · (intro W hSw; (try dsimp only at hSw); go_simp)
  (try simp only [List.getElem_toArray, List.getElem_cons_succ, List.getElem_cons_zero, Act.put, List.setIfInBounds_toArray, List.set_cons_zero, List.set_cons_succ])
  refine wpAnyH_take (i := 6) (v := ?_) rfl (by kernel_rfl) (by kernel_rfl) (by kernel_rfl) (fun _ _ _ h => h) (Or.inl ⟨by rfl, ?_⟩) (by assumption) ?_
  rotate_left
  · (intro w hSw; (try dsimp only at hSw); go_simp; try (with_reducible rfl))
  (try simp only [List.getElem_toArray, List.getElem_cons_succ, List.getElem_cons_zero, Act.put, List.setIfInBounds_toArray, List.set_cons_zero, List.set_cons_succ])
  refine wpAnyH_take (i := 7) (v := ?_) rfl (by kernel_rfl) (by kernel_rfl) (by kernel_rfl) (fun _ _ _ h => h) (Or.inl ⟨by rfl, ?_⟩) (by assumption) ?_
  rotate_left
  · (intro w hSw; (try dsimp only at hSw); go_simp; try (with_reducible rfl))
  (try simp only [List.getElem_toArray, List.getElem_cons_succ, List.getElem_cons_zero, Act.put, List.setIfInBounds_toArray, List.set_cons_zero, List.set_cons_succ])
  refine wpAnyH_ready (rs := [3]) (by kernel_rfl) (by simp) ?_
  refine AllReadyH.cons rfl (fun K hK => ?_) AllReadyH.nil
  have hbT : Below W1.heap.size W1 (W1.drew.alloc (.cells #[.int .i64 x] 2)) := (Below.refl _ W1).drew.alloc (Nat.le_refl _) _
  have cT := kept_cell hbT c1 l1
  have BT := B1.trans (hbT.mono B1.size)
  have lT := lt_of_below hbT l1
  go_simp
  refine hK.out _ _ cT (fun hHeld => ?_)
  clear hK K
  (try simp only [List.getElem_toArray, List.getElem_cons_succ, List.getElem_cons_zero, Act.put, List.setIfInBounds_toArray, List.set_cons_zero, List.set_cons_succ])
  refine wpAnyH_ready (rs := [4]) (by kernel_rfl) (by simp) ?_
  refine AllReadyH.cons rfl (fun K hK => ?_) AllReadyH.nil
  go_simp
  (go_at_call 101; refine (codeAndWordsError_n ao S cap hn ac C capc hnc _ [x] 1 _ rfl (by omega) _ (hS.below BT) (hC.below BT) (ints_new1 _ x _ rfl)).mono ?_)
  rintro e w2 ⟨rfl, hb2⟩
  have c2 := kept_cell hb2 cT lT
  have l2 := lt_of_below hb2 lT
  have B2 := BT.trans (hb2.mono BT.size)
  refine hK.out _ _ c2 (fun hHeld => ?_)
  clear hK K
  (try simp only [List.getElem_toArray, List.getElem_cons_succ, List.getElem_cons_zero, Act.put, List.setIfInBounds_toArray, List.set_cons_zero, List.set_cons_succ])
  refine wpAnyH_ready (rs := [8]) (by kernel_rfl) (by simp) ?_
  refine AllReadyH.cons rfl (fun K hK => ?_) AllReadyH.nil
  go_simp
  (go_at_call 91; refine (placeError_any ao S cap hn ac C capc hnc i _ (hS.below B2) (hC.below B2)).mono ?_)
  rintro e w3 ⟨rfl, hb3⟩
  have c3 := kept_cell hb3 c2 l2
  have l3 := lt_of_below hb3 l2
  have B3 := B2.trans (hb3.mono B2.size)
  refine hK.out _ _ c3 (fun hHeld => ?_)
  clear hK K
  (try simp only [List.getElem_toArray, List.getElem_cons_succ, List.getElem_cons_zero, Act.put, List.setIfInBounds_toArray, List.set_cons_zero, List.set_cons_succ])
  refine wpAnyH_ready (rs := [9]) (by kernel_rfl) (by simp) ?_
  refine AllReadyH.cons rfl (fun K hK => ?_) AllReadyH.nil
  have hb4 : Below w3.heap.size w3 (w3.alloc (.cells #[.int .i64 (eCW S C [x]), .int .i64 (ePlc S C i)] 2)) := (Below.refl _ w3).alloc (Nat.le_refl _) _
  have c4 := kept_cell hb4 c3 l3
  have l4 := lt_of_below hb4 l3
  have B4 := B3.trans (hb4.mono B3.size)
  go_simp
  refine hK.out _ _ c4 (fun hHeld => ?_)
  clear hK K
  (try simp only [List.getElem_toArray, List.getElem_cons_succ, List.getElem_cons_zero, Act.put, List.setIfInBounds_toArray, List.set_cons_zero, List.set_cons_succ])
  refine wpAnyH_ready (rs := [10]) (by kernel_rfl) (by simp) ?_
  refine AllReadyH.cons rfl (fun K hK => ?_) AllReadyH.nil
  go_simp
  (go_at_call 89; refine (cmpOr2 _ (eCW S C [x]) (ePlc S C i) _ _ (ints_new2 _ _ _ _ rfl)).mono ?_)
  rintro e w5 ⟨rfl, rfl⟩
  rw [HA.out]
  refine hK.out _ _ c4 (fun hHeld => ?_)
  clear hK K
  (try simp only [List.getElem_toArray, List.getElem_cons_succ, List.getElem_cons_zero, Act.put, List.setIfInBounds_toArray, List.set_cons_zero, List.set_cons_succ])
  refine wpAnyH_take (i := 11) (v := ?_) rfl (by kernel_rfl) (by kernel_rfl) (by kernel_rfl) (fun _ _ _ h => h) (Or.inl ⟨by rfl, ?_⟩) (by assumption) ?_
  rotate_left
  · (intro w hSw; (try dsimp only at hSw); go_simp; try (with_reducible rfl))
  (try simp only [List.getElem_toArray, List.getElem_cons_succ, List.getElem_cons_zero, Act.put, List.setIfInBounds_toArray, List.set_cons_zero, List.set_cons_succ])
  refine wpAnyH_done (by kernel_rfl) ?_ _
  obtain ⟨W4, hW4⟩ : ∃ W4, W4 = w3.alloc (.cells #[.int .i64 (eCW S C [x]), .int .i64 (ePlc S C i)] 2) := ⟨_, rfl⟩
  rw [← hW4] at c4 l4 B4 ⊢
  clear hW4 hb4 c3 l3 B3 hb3 c2 l2 B2 hb2 cT lT BT hbT c1 l1 B1 HA HW1
  by_cases ha : EA = 0
  · have han : (EA != 0) = false := by simp [ha]
    obtain ⟨hSp, hc1, hc2⟩ := eCode_zero (HZ.out ha)
    have hlen := code_len0 (HZ.out ha)
    have N1 := nW_bd hSp
    have HC1 : Hid (∀ i, i < C.length → 0 ≤ gi C i ∧ gi C i ≤ 9223372036854775807) := Lib.hid fun i h => by have := hc1 i h; omega
    have hs1 := hSp.lo
    have hs8 := hSp.hi
    have hmax := max_any ao S cap hs1 (by omega) (fun k hk => by have := hSp.bd k hk; omega) W4 (hS.below B4)
    have H2 := Lib.hid (two_mx hSp)
    have HIs := Lib.hid fun W h1 h2 => isPerfect_any ao S cap hSp ac C capc hlen HC1.out 1 (by omega) (by omega) W h1 h2
    have H5 := Lib.hid (HE5.out ha)
    have H0 := Lib.hid (HE0.out ha)
    obtain ⟨M, hM⟩ : ∃ M, M = mxTo S (S.length - 1) := ⟨_, rfl⟩
    rw [← hM] at hmax H2
    have HMX := Lib.hid hmax
    clear ha hSp hc1 hc2 hmax hM
    by_cases hm : 2 < M
    · have hX := Lib.hid (H5.out fun h => by have h1 := h.1; rw [H2.out, decide_eq_true_eq] at h1; omega)
      go_wp2_with fail
      refine HMX.out.mono ?_
      rintro e w6 ⟨rfl, rfl⟩
      go_wp2_with fail
      go_ret
      exact ⟨by rw [hX.out]; try rfl, B4⟩
    · have hT : Hid (allTwo S = true) := Lib.hid (by rw [H2.out, decide_eq_true_eq]; omega)
      cases hp : perB S C 1 with
      | false =>
        have hX := Lib.hid (H5.out fun h => by rw [hp] at h; exact absurd h.2.1 (by decide))
        rw [hp] at HIs
        clear hp
        go_wp2_with fail
        refine HMX.out.mono ?_
        rintro e w6 ⟨rfl, rfl⟩
        go_wp2_with fail
        refine (HIs.out _ (hS.below B4) (hC.below B4)).mono ?_
        rintro e w7 ⟨rfl, hb7⟩
        go_wp2_with fail
        go_ret
        exact ⟨by rw [hX.out]; try rfl, B4.trans (hb7.mono B4.size)⟩
      | true =>
        rw [hp] at HIs
        have HP := Lib.hid hp
        clear hp
        by_cases hin : x ∈ C
        · have hX := Lib.hid (H0.out ⟨hT.out, HP.out, hin⟩)
          have hid : decide (x ∈ C) = true := by simpa using hin
          clear hin
          go_wp2_with fail
          refine HMX.out.mono ?_
          rintro e w6 ⟨rfl, rfl⟩
          go_wp2_with fail
          refine (HIs.out _ (hS.below B4) (hC.below B4)).mono ?_
          rintro e w7 ⟨rfl, hb7⟩
          have B7 := B4.trans (hb7.mono B4.size)
          have hct := contains_any ac C capc x hnc w7 (hC.below B7)
          rw [hid] at hct
          go_wp2_with fail
          refine hct.mono ?_
          rintro e w8 ⟨rfl, rfl⟩
          go_wp2_with fail
          go_ret
          exact ⟨by rw [hX.out]; try rfl, B7⟩
        · have hX := Lib.hid (H5.out fun h => hin h.2.2)
          have hid : decide (x ∈ C) = false := by simpa using hin
          clear hin
          go_wp2_with fail
          refine HMX.out.mono ?_
          rintro e w6 ⟨rfl, rfl⟩
          go_wp2_with fail
          refine (HIs.out _ (hS.below B4) (hC.below B4)).mono ?_
          rintro e w7 ⟨rfl, hb7⟩
          have B7 := B4.trans (hb7.mono B4.size)
          have hct := contains_any ac C capc x hnc w7 (hC.below B7)
          rw [hid] at hct
          go_wp2_with fail
          refine hct.mono ?_
          rintro e w8 ⟨rfl, rfl⟩
          go_wp2_with fail
          go_ret
          exact ⟨by rw [hX.out]; try rfl, B7⟩
  · have han : (EA != 0) = true := by simpa using ha
    have hX := Lib.hid (HE.out ha)
    clear ha
    go_wp2_with fail
    go_ret
    exact ⟨by rw [hX.out]; try rfl, B4⟩

set_option maxHeartbeats 2000000 in
theorem areBound_any (ao : Option Addr) (S : List Int) (cap : Nat) (hSp : Sp S) (u x : Int) (hu : 0 ≤ u ∧ u ≤ 9223372036854775807) (hx : 0 ≤ x ∧ x ≤ 9223372036854775807) (i : Nat) (hi : i < S.length) (w : World) (hS : Ints w ao S) :
    Calls Try.prog 112 #[.agg #[.slice ao S.length cap], .int .i64 u, .int .i64 x, .int .i64 i] w fun e w' => e = .returned (.bool (bndB S i u x)) ∧ Below w.heap.size w w' := by
  have hs1 := hSp.lo
  have hs8 := hSp.hi
  have B0 : Below w.heap.size w ((w.alloc (.cells #[.slice ao S.length cap] 26)).alloc (.cells #[.int .i64 u, .int .i64 x] 2)) := by go_grown
  have hcall := digitParts_n ao S cap hs1 hs8 hSp.bd (some ⟨w.heap.size + 1, 0, none⟩) [u, x] 2 2 rfl (by omega) (by intro j hj; match j, hj with | 0, _ => exact hu | 1, _ => exact hx) _ (hS.below B0) (ints_new2 _ u x _ (by simp))
  have iI : (i : Int) < (S.length : Int) := by omega
  have i0 : (0 : Int) ≤ (i : Int) := by omega
  have HF := Lib.hid (diff_digs S u x)
  go_enter Try.func112, Try.ntmps112
  go_wp2_with fail
  refine hcall.mono ?_
  rintro e w1 ⟨P, g, U, rfl, hp, hb⟩
  have B1 := B0.trans (hb.mono B0.size)
  have r0 := hp.row 0 (by simp)
  have r1 := hp.row 1 (by simp)
  have i1 := hp.ints (k := 0) (by simp)
  have i2 := hp.ints (k := 1) (by simp)
  rw [show gi [u, x] 0 = u from rfl] at i1
  rw [show gi [u, x] 1 = x from rfl] at i2
  have d1 : w1.cell? ⟨g, 0 * S.length + i, none⟩ = some (.int .i64 (dig S u i)) := by
    rcases i1 with h | ⟨b', o', h, _, h2⟩
    · rw [digs_length] at h; omega
    · simp at h; obtain ⟨rfl, rfl⟩ := h
      have := h2 i (by rw [digs_length]; exact hi)
      rw [gi_digs _ _ _ hi] at this
      simpa using this
  have d2 : w1.cell? ⟨g, 1 * S.length + i, none⟩ = some (.int .i64 (dig S x i)) := by
    rcases i2 with h | ⟨b', o', h, _, h2⟩
    · rw [digs_length] at h; omega
    · simp at h; obtain ⟨rfl, rfl⟩ := h
      have := h2 i (by rw [digs_length]; exact hi)
      rw [gi_digs _ _ _ hi] at this
      simpa using this
  have gl := hp.own.base_le
  clear hb hcall B0
  go_wp2_with fail
  simp only [Nat.zero_mul, Nat.one_mul, Nat.zero_add] at r0 r1 d1 d2 i1 i2
  have f0 := fam_cell r0
  have f1 := fam_cell r1
  have e1 := fam_cell d1
  have e2 := fam_cell d2
  have hdf := Lib.hid fun W (hW : Below w1.heap.size w1 W) => differences_any (some ⟨g, 0, none⟩) (some ⟨g, S.length, none⟩) (digs S u) (digs S x) S.length S.length S.length S.length W (by omega) (digs_length _ _) (digs_length _ _) (Nat.le_refl _) (i1.below hW) (i2.below hW)
  rw [HF.out] at hdf
  by_cases hd : dist S u x = 3
  · have hdb : (dist S u x == 3) = true := by simp [hd]
    have HBT : Hid (bndB S i u x = (dig S u i != dig S x i)) := Lib.hid (by unfold bndB; rw [decide_eq_true hd, Bool.true_and])
    clear hd
    refine wp_region_fam (by kernel_rfl) (by kernel_rfl) ?_
    repeat (go_big_quiet_step (first | (go_at_call 131; exact fam_calls (hdf.out _ (fam_below _)))))
    refine wpQuiet_nil ?_
    rintro _ ⟨y, rfl⟩
    have hb2 := fam_below y
    generalize fam w1 y = w4 at hb2 ⊢
    go_wp2_with fail
    go_ret
    exact ⟨by rw [HBT.out]; try rfl, B1.trans (hb2.mono B1.size)⟩
  · have hdb : (dist S u x == 3) = false := by simpa using hd
    have HBF : Hid (bndB S i u x = false) := Lib.hid (by unfold bndB; rw [decide_eq_false hd, Bool.false_and])
    clear hd
    refine wp_region_fam (by kernel_rfl) (by kernel_rfl) ?_
    repeat (go_big_quiet_step (first | (go_at_call 131; exact fam_calls (hdf.out _ (fam_below _)))))
    refine wpQuiet_nil ?_
    rintro _ ⟨y, rfl⟩
    have hb2 := fam_below y
    generalize fam w1 y = w4 at hb2 ⊢
    go_wp2_with fail
    go_ret
    exact ⟨by rw [HBF.out]; try rfl, B1.trans (hb2.mono B1.size)⟩

set_option maxHeartbeats 4000000 in
theorem bundleOf_any (ao : Option Addr) (S : List Int) (cap : Nat) (ac : Option Addr) (C : List Int) (capc : Nat) (hz : eCode S C = 0) (x : Int) (hx : x ∈ C) (i : Nat) (hi : i < S.length) (w : World) (hS : Ints w ao S) (hC : Ints w ac C) :
    Calls Try.prog 75 #[.agg #[.slice ao S.length cap], .slice ac C.length capc, .int .i64 x, .int .i64 i] w fun e w' => ∃ v, e = .returned v ∧ OwnInts w' w.heap.size v (sorted (bunL S C i x)) ∧ Below w.heap.size w w' := by
  obtain ⟨hSp, hc1, hc2⟩ := eCode_zero hz
  obtain ⟨N1, N2⟩ := nW_bd hSp
  have hlen := code_len0 hz
  have HC1 : Hid (∀ u, u ∈ C → 0 ≤ u ∧ u ≤ 9223372036854775807) := Lib.hid fun u h => by
    obtain ⟨t, ht, rfl⟩ := mem_gi h
    have := hc1 t ht; omega
  have HSub := Lib.hid fun k => sub_to (S := S) i hx k
  have HStep := Lib.hid fun k h => to_step (S := S) (C := C) (i := i) (w := x) (k := k) h
  have HEnd := Lib.hid fun k h1 h2 => to_end (S := S) (i := i) hx (k := k) h1 h2
  have HAB := Lib.hid fun (u y : Int) (hu : 0 ≤ u ∧ u ≤ 9223372036854775807) (hy : 0 ≤ y ∧ y ≤ 9223372036854775807) W h => areBound_any ao S cap hSp u y hu hy i hi W h
  clear hc1 hc2 hSp hz hx
  go_enter Try.func75, Try.ntmps75
  go_wp2_with fail
  obtain ⟨W1, hW1⟩ : ∃ W1, W1 = w.alloc (.cells #[.slice ao S.length cap] 26) := ⟨_, rfl⟩
  have B1 : Below w.heap.size w W1 := by rw [hW1]; go_grown
  have c1 : W1.cell? ⟨w.heap.size, 0, none⟩ = some (.slice ao S.length cap) := by rw [hW1]; exact cell_new _ _ _
  have s1 : W1.heap.size = w.heap.size + 1 := by rw [hW1]; simp
  have ow2 := own_one' W1 (w.heap.size + 1) x (by omega) (n := w.heap.size + 1) (by omega)
  obtain ⟨W2, hW2⟩ : ∃ W2, W2 = W1.alloc (.cells #[.int .i64 x] 2) := ⟨_, rfl⟩
  rw [← hW2] at ow2
  have b2 : Below W1.heap.size W1 W2 := by rw [hW2]; exact (Below.refl _ _).alloc (Nat.le_refl _) _
  have l2 : w.heap.size < W2.heap.size := by rw [hW2]; simp; omega
  have c2 := kept_cell b2 c1 (by omega)
  have B2 : Below w.heap.size w W2 := B1.trans (b2.mono B1.size)
  have HW : Hid (W2 = (w.alloc (.cells #[.slice ao S.length cap] 26)).alloc (.cells #[.int .i64 x] 2)) := Lib.hid (by rw [hW2, hW1])
  clear hW1 hW2 B1 c1 s1 b2
  rw [← HW.out]
  go_loopw [9, 10] (fun vq vi wr => ∃ (k gq cq : Nat) (Q : List Int), k ≤ Q.length ∧ vi = .int .i64 k ∧ Hid (Q = buTo S C i x k) ∧ vq = .slice (some ⟨gq, 0, none⟩) Q.length cq ∧ OwnInts wr (w.heap.size + 1) (.slice (some ⟨gq, 0, none⟩) Q.length cq) Q ∧ wr.cell? ⟨w.heap.size, 0, none⟩ = some (.slice ao S.length cap) ∧ w.heap.size < wr.heap.size ∧ Below w.heap.size w wr) (fun _ vi _ => C.length + 1 - (intOf vi).toNat)
  case atStart => exact ⟨0, w.heap.size + 1, 1, [x], by simp, rfl, Lib.hid rfl, rfl, ow2, c2, l2, B2⟩
  case round =>
    clear ow2 c2 l2 B2
    obtain ⟨k, gq, cq, Q, hk, rfl, HQ, rfl, oq, c, l, B⟩ := hrel
    have hsub := HSub.out k
    rw [← HQ.out] at hsub
    have hQC := hsub.len
    by_cases hlt : k < Q.length
    · have hltI : (k : Int) < (Q.length : Int) := by omega
      have HR0 : Hid (buTo S C i x (k + 1) = buIn S C i (gi Q k) Q C.length) := Lib.hid (by have h := HStep.out k (by rw [← HQ.out]; exact hlt); rw [← HQ.out] at h; exact h)
      obtain ⟨x0, hx0⟩ : ∃ x0, x0 = gi Q k := ⟨_, rfl⟩
      have hxC : x0 ∈ C := by rw [hx0]; exact hsub.sub _ (gi_mem hlt)
      have hx09 := HC1.out x0 hxC
      rw [← hx0] at HR0
      have HX0 := Lib.hid hx0
      have HSB := Lib.hid hsub
      clear hx0 hxC hsub
      go_wp2_with fail
      go_loopw [9, 23] (fun vq vj wr => ∃ (j gq cq : Nat) (R : List Int), j ≤ C.length ∧ vj = .int .i64 j ∧ Hid (R = buIn S C i x0 Q j) ∧ vq = .slice (some ⟨gq, 0, none⟩) R.length cq ∧ OwnInts wr (w.heap.size + 1) (.slice (some ⟨gq, 0, none⟩) R.length cq) R ∧ wr.cell? ⟨w.heap.size, 0, none⟩ = some (.slice ao S.length cap) ∧ w.heap.size < wr.heap.size ∧ Below w.heap.size w wr) (fun _ vj _ => C.length - (intOf vj).toNat)
      case atStart => exact ⟨0, gq, cq, Q, Nat.zero_le _, rfl, Lib.hid rfl, rfl, oq, c, l, B⟩
      case round =>
        clear oq c l B
        obtain ⟨j, gq, cq, R, hj, rfl, HR, rfl, oq, c, l, B⟩ := hrel
        have hsR : Sub C R := by rw [HR.out]; exact sub_in i x0 HSB.out j hj
        have hRC := hsR.len
        have hQR : Q.length ≤ R.length := by rw [HR.out]; exact in_len i x0 Q j
        have hgk : gi R k = x0 := by rw [HR.out, in_gi i x0 Q j k hlt, HX0.out]
        obtain ⟨P, hP⟩ : ∃ P, P = R.length := ⟨_, rfl⟩
        have hcq := oq.cell (k := k) (by omega)
        rw [hgk] at hcq
        rw [← hP] at oq ⊢
        have HPl := Lib.hid hP
        have hkP : (k : Int) < (P : Int) := by omega
        have k0 : (0 : Int) ≤ (k : Int) := by omega
        have gqb := oq.base_le
        have hP9 : P ≤ 1024 := by omega
        clear hP hsR hgk
        by_cases hjt : j < C.length
        · obtain ⟨b, o, rfl, hbl, hcc0⟩ := hC.at hjt
          have hcc : wr.cell? ⟨b, o + j, none⟩ = some (.int .i64 (gi C j)) := kept_cell B (hcc0 j hjt) hbl
          have hjI : (j : Int) < (C.length : Int) := by omega
          have j0 : (0 : Int) ≤ (j : Int) := by omega
          have HIN : Hid (buIn S C i x0 Q (j + 1) = if bndB S i x0 (gi C j) = true ∧ ¬ gi C j ∈ R then R ++ [gi C j] else R) := Lib.hid (by rw [buIn, ← HR.out])
          obtain ⟨y0, hy0⟩ : ∃ y0, y0 = gi C j := ⟨_, rfl⟩
          have hy09 := HC1.out (gi C j) (gi_mem hjt)
          rw [← hy0] at hcc HIN hy09
          have hab := HAB.out x0 y0 hx09 hy09
          have hct : ∀ W, Below wr.heap.size wr W → Calls Try.prog 111 #[.slice (some ⟨gq, 0, none⟩) P cq, .int .i64 y0] W fun e w' => e = .returned (.bool (decide (y0 ∈ R))) ∧ Below W.heap.size W w' := fun W hW => by
            rw [HPl.out]
            refine (contains_any (some ⟨gq, 0, none⟩) R cq y0 (by rw [← HPl.out]; omega) W ((own_ints oq).below hW)).mono ?_
            rintro e w' ⟨h1, rfl⟩
            exact ⟨h1, Below.refl _ _⟩
          have HCT := Lib.hid hct
          have fc := fam_cell c
          have fq := fam_cell hcq
          clear hcc0 hy0 hct
          have HROUND : Hid True := Lib.hid trivial
          cases hbn : bndB S i x0 y0 with
          | false =>
            have HI : Hid (R = buIn S C i x0 Q (j + 1)) := Lib.hid (by rw [HIN.out, hbn, if_neg (by simp)])
            rw [hbn] at hab
            have HABx := Lib.hid hab
            clear hbn hab
            go_wp2_with fail
            refine wp_region_fam (by kernel_rfl) (by kernel_rfl) ?_
            repeat (go_big_quiet_step (first | (go_at_call 112; exact fam_calls (HABx.out _ (hS.below (B.trans ((fam_below _).mono B.size)))))))
            refine wpQuiet_nil ?_
            rintro _ ⟨y, rfl⟩
            have hb2 := fam_below y
            generalize fam wr y = w4 at hb2 ⊢
            have oq4 := oq.below hb2
            have c4 := kept_cell hb2 c l
            have l4 := lt_of_below hb2 l
            have B4 := B.trans (hb2.mono B.size)
            clear fc fq hb2
            go_wp2_with fail
            go_roundw
            case rel => exact ⟨j + 1, gq, cq, R, by omega, by go_num, HI, by rw [← HPl.out], by rw [← HPl.out]; exact oq4, c4, l4, B4⟩
            case measure => simp [intOf]; omega
          | true =>
            rw [hbn] at hab
            have HABx := Lib.hid hab
            by_cases hm : y0 ∈ R
            · have HI : Hid (R = buIn S C i x0 Q (j + 1)) := Lib.hid (by rw [HIN.out, if_neg (fun g => g.2 hm)])
              have hmd : decide (y0 ∈ R) = true := by simpa using hm
              rw [hmd] at HCT
              clear hbn hab hm hmd
              go_wp2_with fail
              refine wp_region_fam (by kernel_rfl) (by kernel_rfl) ?_
              repeat (go_big_quiet_step (first | (go_at_call 112; exact fam_calls (HABx.out _ (hS.below (B.trans ((fam_below _).mono B.size))))) | (go_at_call 111; exact fam_calls (HCT.out _ (fam_below _)))))
              refine wpQuiet_nil ?_
              rintro _ ⟨y, rfl⟩
              have hb2 := fam_below y
              generalize fam wr y = w4 at hb2 ⊢
              have oq4 := oq.below hb2
              have c4 := kept_cell hb2 c l
              have l4 := lt_of_below hb2 l
              have B4 := B.trans (hb2.mono B.size)
              clear fc fq hb2
              go_wp2_with fail
              go_roundw
              case rel => exact ⟨j + 1, gq, cq, R, by omega, by go_num, HI, by rw [← HPl.out], by rw [← HPl.out]; exact oq4, c4, l4, B4⟩
              case measure => simp [intOf]; omega
            · have HI : Hid (R ++ [y0] = buIn S C i x0 Q (j + 1)) := Lib.hid (by rw [HIN.out, if_pos ⟨hbn, hm⟩])
              have hmd : decide (y0 ∈ R) = false := by simpa using hm
              rw [hmd] at HCT
              have hRl : R.length ≤ 1073741824 := by rw [← HPl.out]; omega
              clear hbn hab hm hmd
              go_wp2_with fail
              refine wp_region_fam (by kernel_rfl) (by kernel_rfl) ?_
              repeat (go_big_quiet_step (first | (go_at_call 112; exact fam_calls (HABx.out _ (hS.below (B.trans ((fam_below _).mono B.size))))) | (go_at_call 111; exact fam_calls (HCT.out _ (fam_below _)))))
              refine wpQuiet_nil ?_
              rintro _ ⟨y, rfl⟩
              have hb2 := fam_below y
              generalize fam wr y = w6 at hb2 ⊢
              have oq7 := oq.below hb2
              have c7 := kept_cell hb2 c l
              have l7 := lt_of_below hb2 l
              have B7 := B.trans (hb2.mono B.size)
              have s7 := hb2.size
              clear fc fq hb2
              go_wp2_with (at_builtin; refine wpList_append_int_at rfl _ _ rfl (w.heap.size + 1) (.slice (some ⟨gq, 0, none⟩) P cq) R rfl (oq7.alloc _) w6.heap.size y0 rfl (cell_new _ _ _) hRl (by rw [World.size_alloc]; omega) ?_; intro v' w9 hown' hgrow hblk)
              obtain ⟨g', cp', hv', _⟩ := own_some hown' (by simp)
              subst hv'
              have hbT : Below w6.heap.size w6 (w6.alloc (.cells #[.int .i64 y0] 2)) := (Below.refl _ _).alloc (Nat.le_refl _) _
              have c9 := hgrow.cell (a := ⟨w.heap.size, 0, none⟩) (kept_cell hbT c7 l7) (fun e => by have := Option.some.inj e; simp at this; omega)
              have B9 := (B7.alloc B7.size (.cells #[.int .i64 y0] 2)).grown hgrow (by rw [World.size_alloc]; have := B7.size; omega) (fun z hz => by cases hz; (try dsimp only); omega)
              have l9 : w.heap.size < w9.heap.size := by have := hgrow.size; rw [World.size_alloc] at this; omega
              have hL2 : (R ++ [y0]).length = P + 1 := by rw [List.length_append, ← HPl.out]; rfl
              have HL2 := Lib.hid hL2
              rw [hL2] at hown' ⊢
              clear hblk hgrow hbT oq7 B7 c7 hL2
              go_wp2_with fail
              go_roundw
              case rel => exact ⟨j + 1, g', cp', R ++ [y0], by omega, by go_num, HI, by rw [HL2.out], by rw [HL2.out]; exact hown', c9, l9, B9⟩
              case measure => simp [intOf]; omega
        · have hjI : ¬ (j : Int) < (C.length : Int) := by omega
          have HI : Hid (R = buTo S C i x (k + 1)) := Lib.hid (by rw [HR0.out, HR.out, show j = C.length by omega])
          go_wp2_with fail
          go_roundw
          case rel => exact ⟨k + 1, gq, cq, R, by have := HPl.out; omega, by go_num, HI, by rw [← HPl.out], by rw [← HPl.out]; exact oq, c, l, B⟩
          case measure => simp [intOf]; omega
    · have hltI : ¬ (k : Int) < (Q.length : Int) := by omega
      have HF : Hid (bunL S C i x = Q) := Lib.hid (by have h := HEnd.out k (by rw [← HQ.out]; exact hk) (by rw [← HQ.out]; exact hlt); rw [h, ← HQ.out])
      have hsrt := sort_any (w.heap.size + 1) gq cq Q wr (by omega) oq
      have gqb := oq.base_le
      obtain ⟨P, hP⟩ : ∃ P, P = Q.length := ⟨_, rfl⟩
      rw [← hP] at oq hsrt hltI ⊢
      have HSRT := Lib.hid hsrt
      clear hP hsub hsrt
      go_wp2_with fail
      refine HSRT.out.mono ?_
      rintro e w8 ⟨rfl, own8, hg8⟩
      go_wp2_with fail
      go_ret
      exact ⟨_, rfl, by rw [HF.out]; exact own8.rebase (by omega), B.grown hg8 B.size (by intro z hz; cases hz; omega)⟩

set_option maxHeartbeats 1000000 in
theorem impl_BundleOf (ao : Option Addr) (S : List Int) (cap : Nat) (hn : S.length ≤ 4294967296) (ac : Option Addr) (C : List Int) (capc : Nat) (hnc : C.length ≤ 4294967296) (x : Int) (hx : -9223372036854775808 ≤ x ∧ x ≤ 9223372036854775807) (i : Int) (hi : -9223372036854775808 ≤ i ∧ i ≤ 9223372036854775807) (w : World) (hS : Ints w ao S) (hC : Ints w ac C) :
    Calls Try.prog 32 #[.agg #[.slice ao S.length cap], .slice ac C.length capc, .int .i64 x, .int .i64 i] w fun e w' => ∃ v, e = .returned (.tuple #[v, .int .i64 (eBun S C x i)]) ∧ OwnInts w' w.heap.size v (vBun S C x i) ∧ Below w.heap.size w w' := by
  have B0 : Below w.heap.size w (w.alloc (.cells #[.slice ao S.length cap] 26)) := by go_grown
  have c0 := cell_new w (.slice ao S.length cap) 26
  have l0 := lt_alloc w (.cells #[.slice ao S.length cap] 26)
  have hg := bundleError_any ao S cap hn ac C capc hnc x hx i hi _ (hS.below B0) (hC.below B0)
  by_cases he : eBun S C x i = 0
  · have hen : (eBun S C x i != 0) = false := by simp [he]
    obtain ⟨ha, _, _, hm⟩ := eBun_zero he
    obtain ⟨hz, hxw, i0, i1⟩ := eBuA_zero ha
    obtain ⟨t, ht⟩ : ∃ t : Nat, i = (t : Int) := ⟨i.toNat, by omega⟩
    have HV : Hid (vBun S C x i = sorted (bunL S C t x)) := Lib.hid (by unfold vBun; rw [if_pos he, ht]; rfl)
    have hcall := Lib.hid fun W h1 h2 => bundleOf_any ao S cap ac C capc hz x hm t (by omega) W h1 h2
    rw [← ht] at hcall
    have HE := Lib.hid he
    have HG := Lib.hid hg
    clear he ha hm hz hxw ht hg
    go_enter Try.func32, Try.ntmps32
    go_wp2_with fail
    refine HG.out.mono ?_
    rintro e w1 ⟨rfl, hb⟩
    have c1 := kept_cell hb c0 l0
    have B1 : Below w.heap.size w w1 := B0.trans (hb.mono B0.size)
    have s1 := B1.size
    go_wp2_with fail
    refine (hcall.out _ (hS.below B1) (hC.below B1)).mono ?_
    rintro e w2 ⟨v, rfl, own, hb2⟩
    go_wp2_with fail
    go_ret2
    exact ⟨_, by rw [HE.out]; rfl, by rw [HV.out]; exact own.rebase s1, B1.trans (hb2.mono s1)⟩
  · have hen : (eBun S C x i != 0) = true := by simpa using he
    have HV : Hid (vBun S C x i = []) := Lib.hid (by unfold vBun; rw [if_neg he])
    have HG := Lib.hid hg
    clear he hg
    go_enter Try.func32, Try.ntmps32
    go_wp2_with fail
    refine HG.out.mono ?_
    rintro e w1 ⟨rfl, hb⟩
    go_wp2_with fail
    go_ret2
    exact ⟨_, rfl, by rw [HV.out]; exact own_nil _ _, B0.trans (hb.mono B0.size)⟩

end Go.Proofs.Ytcbkmmadejbbpaa
