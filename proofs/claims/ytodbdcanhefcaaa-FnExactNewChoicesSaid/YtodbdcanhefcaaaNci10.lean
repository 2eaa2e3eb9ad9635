/-
  The program's NewChoices. By an AI agent.
-/
import Derived.Test.YtodbdcanhefcaaaNcsA
import Derived.Test.YtodbdcanhefcaaaMic10
import Derived.Test.YtodbdcanhefcaaaRer10
import Derived.Test.YtodbdcanhefcaaaCntB
namespace Go.Proofs.Ytodbdcanhefcaaa
open Go.RowKit Cv
set_option linter.unusedVariables false
set_option linter.unusedSimpArgs false
set_option maxRecDepth 100000

theorem OwnSets.rebase10 {w : World} {base base' : Nat} {v : Value} {ps : List (Nat → Bool)} (h : OwnSets w base v ps) (hb : base' ≤ base) : OwnSets w base' v ps := by
  obtain ⟨h1, h2⟩ := h
  refine ⟨h1, ?_⟩
  rcases h2 with h2 | ⟨g, cap, cur, hv, hg, r⟩
  · exact Or.inl h2
  · exact Or.inr ⟨g, cap, cur, hv, by omega, r⟩
theorem OwnSets.kept10 {w w' : World} {base : Nat} {v : Value} {ps : List (Nat → Bool)} {row : Option Nat} (h : OwnSets w base v ps) (hg : w.grownBy w' row) (hne : v.ownBlock = none ∨ v.ownBlock ≠ row) : OwnSets w' base v ps := World.ownsRow.kept h hg hne
theorem chmem_of {w : World} {ao : Option Addr} {n cap gx g nF cF base base' N : Nat} {C : List (List Int)} {t : Nat} (hN : N = C.length) (hC : ∀ c, c ∈ C → c.length = 2 * t) (hX : OwnXs w base (.slice (some ⟨gx, 0, none⟩) N N) (chL ao n cap g t N)) (hF : OwnInts w base' (.slice (some ⟨g, 0, none⟩) nF cF) C.flatten) : ChMem w ao n cap gx C t :=
  ChMem.all hN hC hX hF fun k j hk hj => ⟨by
    rw [flat_lenC hC]
    have := Nat.mul_le_mul_right (2 * t) (show k + 1 ≤ C.length from hk)
    rw [Nat.succ_mul] at this; omega, gi_flat k j hC hk hj⟩
theorem cntTo_split (p q : Nat → Bool) (n : Nat) : cntTo p n = cntTo (fun u => p u && q u) n + cntTo (fun u => p u && !q u) n := by
  induction n with
  | zero => rfl
  | succ n ih =>
    simp only [cntTo, ih]
    have e : (if p n = true then 1 else 0) = (if (p n && q n) = true then 1 else 0) + (if (p n && !q n) = true then 1 else 0) := by
      rcases hp : p n with _ | _ <;> rcases hq : q n with _ | _ <;> rfl
    omega
theorem cntTo_filter (C : List (List Int)) (f : List Int → Bool) (N : Nat) (hN : C.length ≤ N) : (C.filter f).length = cntTo (fun u => decide (u < C.length) && f (rr C u)) N := by
  have h1 : ∀ n, n ≤ C.length → ((C.take n).filter f).length = cntTo (fun u => decide (u < C.length) && f (rr C u)) n := fun n hn => by
    induction n with
    | zero => simp [cntTo]
    | succ n ih =>
      rw [take_rr C n (by omega), List.filter_append, List.length_append, ih (by omega), cntTo]
      congr 1
      cases h : f (rr C n) <;> simp [h, show n < C.length by omega]
  have h2 : ∀ m, cntTo (fun u => decide (u < C.length) && f (rr C u)) (C.length + m) = cntTo (fun u => decide (u < C.length) && f (rr C u)) C.length := fun m => by
    induction m with
    | zero => rfl
    | succ m ih => rw [← Nat.add_assoc, cntTo, ih]; simp [show ¬ C.length + m < C.length by omega]
  have h3 := h1 C.length (Nat.le_refl _)
  rw [List.take_length] at h3
  rw [h3, ← h2 (N - C.length)]
  congr 1; omega
/-- what the first k rows have together -/
theorem union_take (S : List Int) (C : List (List Int)) (R : List Int) (k : Nat) (hk : k ≤ R.length) (u : Nat) : unionL ((chSets S C R).take k) u = (decide (u < C.length) && anyR S R k (rr C u)) := by
  induction k with
  | zero => simp [unionL, anyR]
  | succ k ih =>
    have e : (chSets S C R).take (k + 1) = (chSets S C R).take k ++ [pAt (chSets S C R) k] := by
      rw [List.take_add_one, List.getElem?_eq_getElem (by rw [chSets_len]; omega)]
      simp [pAt, List.getD, List.getElem?_eq_getElem (show k < (chSets S C R).length by rw [chSets_len]; omega)]
    rw [e, unionL_snoc]
    simp only [ih (by omega)]
    rw [pAt_chSets S C R k (by omega)]
    unfold anyR chP
    rw [List.range_succ, List.any_append]
    cases decide (u < C.length) <;> simp
theorem new_count (S : List Int) (C : List (List Int)) (R : List Int) (k : Nat) (hk : k < R.length) (hC : C.length ≤ 1024) :
    ((cntTo (byd (pAt (chSets S C R) k) (unionL ((chSets S C R).take k))) 1024 : Nat) : Int) = ((msTo S C R k).length : Int) - ((msTo S C R (k + 1)).length : Int) := by
  have e1 := cntTo_filter C (fun c => !anyR S R k c) 1024 hC
  have e2 := cntTo_filter C (fun c => !anyR S R (k + 1) c) 1024 hC
  rw [← msTo_filter] at e1 e2
  have e3 := cntTo_split (fun u => decide (u < C.length) && !anyR S R k (rr C u)) (fun u => hasC (digs S (gi R k)) (rr C u)) 1024
  have e4 : (fun u => (decide (u < C.length) && !anyR S R k (rr C u)) && !hasC (digs S (gi R k)) (rr C u)) = fun u => decide (u < C.length) && !anyR S R (k + 1) (rr C u) := by
    funext u
    unfold anyR
    rw [List.range_succ, List.any_append]
    simp [Bool.not_or, Bool.and_assoc]
  have e5 : (fun u => (decide (u < C.length) && !anyR S R k (rr C u)) && hasC (digs S (gi R k)) (rr C u)) = byd (pAt (chSets S C R) k) (unionL ((chSets S C R).take k)) := by
    funext u
    unfold byd
    rw [union_take S C R k (by omega), pAt_chSets S C R k hk]
    unfold chP
    cases decide (u < C.length) <;> simp [Bool.and_comm]
  rw [e4, e5] at e3
  omega

set_option maxHeartbeats 4000000 in
theorem impl_NewChoices (ao : Option Addr) (S : List Int) (cap : Nat) (hn : S.length ≤ 4294967296) (ar : Option Addr) (R : List Int) (capr : Nat) (hnr : R.length ≤ 4294967296) (hcap : R.length ≤ capr) (t : Int) (ht : -9223372036854775808 ≤ t ∧ t ≤ 9223372036854775807) (w : World) (hS : Ints w ao S) (hRI : Ints w ar R) :
    Calls Try.prog 42 #[.agg #[.slice ao S.length cap], .slice ar R.length capr, .int .i64 t] w fun e w' => ∃ v, e = .returned (.tuple #[v, .int .i64 (eR10 S R t)]) ∧ OwnInts w' w.heap.size v (vNw S R t) ∧ Below w.heap.size w w' := by
  have B0 : Below w.heap.size w (w.alloc (.cells #[.slice ao S.length cap] 28)) := by go_grown
  have c0 := cell_new w (.slice ao S.length cap) 28
  have l0 := lt_alloc w (.cells #[.slice ao S.length cap] 28)
  have hc := rowsError_any ao S cap hn ar R capr hnr t _ (hS.below B0) (hRI.below B0)
  by_cases he : eR10 S R t = 0
  case neg =>
    have HV : Hid (vNw S R t = []) := Lib.hid (by unfold vNw; rw [if_neg he])
    obtain ⟨E, hE⟩ : ∃ E, E = eR10 S R t := ⟨_, rfl⟩
    rw [← hE] at hc he ⊢
    have hb : (E != 0) = true := by simpa using he
    clear hE he
    go_enter Try.func42, Try.ntmps42
    go_wp2_with fail
    refine hc.mono ?_
    rintro e w1 ⟨rfl, hb1⟩
    have B1 := B0.trans (hb1.mono B0.size)
    go_wp2_with fail
    go_ret2
    exact ⟨_, rfl, by rw [HV.out]; exact World.ownsRow_nil _ _ _ _, B1⟩
  obtain ⟨hSp, hRb, hR2, g1, g2, g3⟩ := eR10_zero he
  have HSp := Lib.hid hSp
  have HV : Hid (vNw S R t = nwL S (allC S t.toNat) R R.length) := Lib.hid (by unfold vNw; rw [if_pos he])
  have HE := Lib.hid he
  rw [he] at hc
  clear he
  obtain ⟨t, rfl⟩ : ∃ n : Nat, t = n := ⟨t.toNat, by omega⟩
  rw [Int.toNat_natCast] at HV
  have ht1 : 0 < t := by omega
  have ht3 : t ≤ 3 := by omega
  have hC832 := allC_le hSp ht1 ht3
  have HCc : Hid (IsCs S.length t (allC S t)) := Lib.hid (allC_cs t)
  have HCf : Hid (∀ c, c ∈ allC S t → c.length = 2 * t) := Lib.hid (allC_len2 S t)
  have HCH := Lib.hid fun w hS => choicesOf_any ao S cap hSp t ht1 ht3 w hS
  obtain ⟨C, hC⟩ : ∃ C, C = allC S t := ⟨_, rfl⟩
  rw [← hC] at HV hC832 HCc HCf HCH
  have HCS0 := Lib.hid fun gx w hS hRI hCM => choiceSets_any ao S cap hSp ar R capr (by omega) hRb gx C.length S.length cap t ao C ht1 ht3 (by omega) HCc.out w hS hRI hCM
  obtain ⟨NC, hNC⟩ : ∃ NC, NC = C.length := ⟨_, rfl⟩
  have HCN := Lib.hid hNC
  rw [← hNC] at HCH HCS0 hC832
  have HNW := Lib.hid fun i => nwL_succ S C R i
  have HNL := Lib.hid fun i => nwL_len S C R i
  have HCT : Hid (∀ k, k < R.length → ((cntTo (byd (pAt (chSets S C R) k) (unionL ((chSets S C R).take k))) 1024 : Nat) : Int) = ((msTo S C R k).length : Int) - ((msTo S C R (k + 1)).length : Int)) := Lib.hid fun k hk => new_count S C R k hk (by rw [← hNC]; omega)
  have HPl : Hid ((chSets S C R).length = R.length) := Lib.hid (chSets_len S C R)
  obtain ⟨PS, hPS⟩ : ∃ PS, PS = chSets S C R := ⟨_, rfl⟩
  rw [← hPS] at HCS0 HCT HPl
  obtain ⟨K, hK⟩ : ∃ K, K = R.length := ⟨_, rfl⟩
  have HK := Lib.hid hK
  rw [← hK] at hR2 hcap HV hc HCS0 HCT HPl ⊢
  have HCS := HCS0
  clear hSp hC hK hNC hPS hRb HCS0
  obtain ⟨i0, hi0, hz0, hz1, hz2⟩ := info_parts infoI64
  go_enter Try.func42, Try.ntmps42
  go_wp2_with fail
  refine hc.mono ?_
  rintro e w1 ⟨rfl, hb1⟩
  have c1 := kept_cell hb1 c0 l0
  have l1 := lt_of_below hb1 l0
  have B1 := B0.trans (hb1.mono B0.size)
  obtain ⟨W1, hW1⟩ : ∃ W1, W1 = w1.alloc (.cells #[.int .u64 0, .int .u64 0, .int .u64 0, .int .u64 0, .int .u64 0, .int .u64 0, .int .u64 0, .int .u64 0, .int .u64 0, .int .u64 0, .int .u64 0, .int .u64 0, .int .u64 0, .int .u64 0, .int .u64 0, .int .u64 0] 85) := ⟨_, rfl⟩
  have r1 : RowAt W1 w1.heap.size (fun _ => false) := by rw [hW1]; exact rowz_new w1 rfl
  have c1b : W1.cell? ⟨w.heap.size, 0, none⟩ = some (.slice ao S.length cap) := by rw [hW1]; exact kept_cell ((Below.refl _ w1).alloc (Nat.le_refl _) _) c1 l1
  have l1b : w.heap.size < W1.heap.size := by rw [hW1]; simp; omega
  have B1b : Below w.heap.size w W1 := by rw [hW1]; exact B1.alloc B1.size _
  have l19 : w1.heap.size < W1.heap.size := by rw [hW1]; simp
  have l09 : w.heap.size < w1.heap.size := l1
  have HW1 := Lib.hid hW1
  clear hc c0 l0 B0 hb1 hW1 c1 l1 B1
  go_wp2_with (first | (at_make; refine wpList_make_full _ rfl _ _ 22 rfl W1.heap.size 2 i0 (.int .i64 0) 1 Try.underlying22 hi0 hz0 hz1 .i64 .i64 (K : Int) (K : Int) K rfl rfl rfl rfl (by rw [hz2]; omega) (by unfold maxLen; omega) (by rw [HW1.out]; exact Nat.le_refl _) ?_; rw [← HW1.out]; intro w2 hown hgrow) | fail)
  have b2 : Below W1.heap.size W1 w2 := below_grown0 hgrow
  have o2 := own_made hown
  have c2 := kept_cell b2 c1b l1b
  have l2 := lt_of_below b2 l1b
  have r2 := r1.below b2 l19
  have B2 := B1b.trans (b2.mono B1b.size)
  have lo2 := o2.base_le
  clear hown hgrow hi0 hz0 hz1 hz2 c1b l1b B1b b2 r1
  refine wp_region_held_drew (S := fun w' => w'.cell? ⟨w.heap.size, 0, none⟩ = some (.slice ao S.length cap)) (by kernel_rfl) (c2) (fun hHeld => ?_)
  refine wpAnyH_take (i := 0) (v := ?_) rfl (by kernel_rfl) (by kernel_rfl) (by kernel_rfl) (fun _ _ _ h => h) (Or.inl ⟨by rfl, ?_⟩) (by assumption) ?_
  rotate_left
  · (intro w hSw; obtain hSw := hSw; (try dsimp only at hSw); go_simp; try (with_reducible rfl))
  (try simp only [Act.put, List.setIfInBounds_toArray, List.set_cons_zero, List.set_cons_succ, List.getElem_toArray, List.getElem_cons_succ, List.getElem_cons_zero])
  refine wpAnyH_take (i := 1) (v := ?_) rfl (by kernel_rfl) (by kernel_rfl) (by kernel_rfl) (fun _ _ _ h => h) (Or.inl ⟨by rfl, ?_⟩) (by assumption) ?_
  rotate_left
  · (intro w hSw; obtain hSw := hSw; (try dsimp only at hSw); go_simp; try (with_reducible rfl))
  (try simp only [Act.put, List.setIfInBounds_toArray, List.set_cons_zero, List.set_cons_succ, List.getElem_toArray, List.getElem_cons_succ, List.getElem_cons_zero])
  refine wpAnyH_take (i := 2) (v := ?_) rfl (by kernel_rfl) (by kernel_rfl) (by kernel_rfl) (fun _ _ _ h => h) (Or.inl ⟨by rfl, ?_⟩) (by assumption) ?_
  rotate_left
  · (intro w hSw; obtain hSw := hSw; (try dsimp only at hSw); go_simp; try (with_reducible rfl))
  (try simp only [Act.put, List.setIfInBounds_toArray, List.set_cons_zero, List.set_cons_succ, List.getElem_toArray, List.getElem_cons_succ, List.getElem_cons_zero])
  refine wpAnyH_take (i := 3) (v := ?_) rfl (by kernel_rfl) (by kernel_rfl) (by kernel_rfl) (fun _ _ _ h => h) (Or.inl ⟨by rfl, ?_⟩) (by assumption) ?_
  rotate_left
  · (intro w hSw; obtain hSw := hSw; (try dsimp only at hSw); go_simp; try (with_reducible rfl))
  (try simp only [Act.put, List.setIfInBounds_toArray, List.set_cons_zero, List.set_cons_succ, List.getElem_toArray, List.getElem_cons_succ, List.getElem_cons_zero])
  refine wpAnyH_take (i := 7) (v := ?_) rfl (by kernel_rfl) (by kernel_rfl) (by kernel_rfl) (fun _ _ _ h => h) (Or.inl ⟨by rfl, ?_⟩) (by assumption) ?_
  rotate_left
  · (intro w hSw; obtain hSw := hSw; (try dsimp only at hSw); go_simp; try (with_reducible rfl))
  (try simp only [Act.put, List.setIfInBounds_toArray, List.set_cons_zero, List.set_cons_succ, List.getElem_toArray, List.getElem_cons_succ, List.getElem_cons_zero])
  refine wpAnyH_ready (rs := [4]) (by kernel_rfl) (by simp) ?_
  refine AllReadyH.cons rfl (fun K hK => ?_) AllReadyH.nil
  go_simp
  (go_at_call 74; refine (HCH.out _ ((hS.below B2).below (Below.refl w2.heap.size w2).drew)).mono ?_)
  rintro e x1 ⟨gx1, g1, nF1, cF1, rfl, oX1, oF1, hb1⟩
  have H1 : Below w2.heap.size w2 x1 := Below.trans (Below.refl w2.heap.size w2).drew (hb1.mono (Below.size (Below.refl w2.heap.size w2).drew))
  have hcm1 := chmem_of HCN.out HCf.out oX1 oF1
  refine hK.out _ _ (kept_cell H1 c2 l2) (fun hHeld => ?_)
  clear hK K
  (try simp only [Act.put, List.setIfInBounds_toArray, List.set_cons_zero, List.set_cons_succ, List.getElem_toArray, List.getElem_cons_succ, List.getElem_cons_zero])
  refine wpAnyH_ready (rs := [5]) (by kernel_rfl) (by simp) ?_
  refine AllReadyH.cons rfl (fun K hK => ?_) AllReadyH.nil
  go_simp
  (go_at_call 72; refine (HCS.out gx1 _ ((hS.below B2).below H1) ((hRI.below B2).below H1) hcm1).mono ?_)
  rintro e x2 ⟨gs2, rfl, oS2, hb2⟩
  have H2 : Below w2.heap.size w2 x2 := Below.trans H1 (hb2.mono (Below.size H1))
  replace hcm1 := hcm1.below hb2
  refine hK.out _ _ (kept_cell H2 c2 l2) (fun hHeld => ?_)
  clear hK K
  (try simp only [Act.put, List.setIfInBounds_toArray, List.set_cons_zero, List.set_cons_succ, List.getElem_toArray, List.getElem_cons_succ, List.getElem_cons_zero])
  refine wpAnyH_take (i := 6) (v := ?_) rfl (by kernel_rfl) (by kernel_rfl) (by kernel_rfl) (fun _ _ _ h => h) (Or.inl ⟨by rfl, ?_⟩) (by assumption) ?_
  rotate_left
  · (intro w hSw; obtain hSw := hSw; (try dsimp only at hSw); go_simp; try (with_reducible rfl))
  (try simp only [Act.put, List.setIfInBounds_toArray, List.set_cons_zero, List.set_cons_succ, List.getElem_toArray, List.getElem_cons_succ, List.getElem_cons_zero])
  refine wpAnyH_done (by kernel_rfl) ?_ _
  (try simp only [Act.put, List.setIfInBounds_toArray, List.set_cons_zero, List.set_cons_succ, List.getElem_toArray, List.getElem_cons_succ, List.getElem_cons_zero])
  have Hn : Below w2.heap.size w2 x2 := H2
  have oZ := oS2.rebase10 (base' := w2.heap.size) (Below.size H1)
  obtain ⟨gs, hgs⟩ : ∃ z, z = gs2 := ⟨_, rfl⟩
  rw [← hgs] at oZ ⊢
  clear hgs
  obtain ⟨wZ, hwZ⟩ : ∃ z, z = x2 := ⟨_, rfl⟩
  rw [← hwZ] at Hn oZ ⊢
  clear hwZ hHeld
  have oC := o2.below Hn
  have rZ := r2.below Hn r2.lt
  have BZ := B2.trans (Hn.mono B2.size)
  have hgs := oZ.base_le.1
  have hgs1 : gs ≠ w1.heap.size := by omega
  have hgs2 : gs ≠ W1.heap.size := by omega
  have h91 : w1.heap.size ≠ W1.heap.size := by omega
  have hBz : w1.heap.size + 1 ≤ wZ.heap.size ∧ W1.heap.size + 1 ≤ wZ.heap.size := ⟨by have := Hn.size; omega, by have := Hn.size; omega⟩
  have hU0 : Hid (unionL (PS.take 0) = fun _ => false) := Lib.hid (by funext u; simp [unionL])
  clear r2 o2 c2 l2 B2 Hn lo2
  rw [← hU0.out] at rZ
  go_wp2_with fail
  go_loopw [31] (fun x wr => ∃ (k : Nat) (T : List Int), k ≤ K ∧ x = .int .i64 (k : Int) ∧ OwnInts wr W1.heap.size (.slice (some ⟨W1.heap.size, 0, none⟩) K K) T ∧ Hid (T.length = K ∧ ∀ j, j < k → gi T j = gi (nwL S C R K) j) ∧ OwnSets wr w2.heap.size (.slice (some ⟨gs, 0, none⟩) K K) PS ∧ RowAt wr w1.heap.size (unionL (PS.take k)) ∧ wZ.heap.size ≤ wr.heap.size ∧ Below w.heap.size w wr) (fun x _ => K - (intOf x).toNat)
  case atStart => exact ⟨0, _, Nat.zero_le _, rfl, oC, Lib.hid ⟨by simp, fun j hj => by omega⟩, oZ, rZ, Nat.le_refl _, BZ⟩
  case round =>
    clear oC oZ rZ BZ
    obtain ⟨k, T, hk, rfl, oC, HT, oZ, r9, hzr, B⟩ := hrel
    by_cases hlt : k < K
    · have hkI : (k : Int) < (K : Int) := by omega
      have hck : ∀ j, j < 16 → wr.cell? ⟨gs, k * 16 + j, none⟩ = some (.int .u64 (partN (pAt PS k) j)) := fun j hj => oZ.cells k (by rw [HPl.out]; exact hlt) j hj
      have HVk := Lib.hid (HCT.out k hlt)
      have HUk : Hid ((fun u => unionL (PS.take k) u || pAt PS k u) = unionL (PS.take (k + 1))) := Lib.hid (by
        rw [List.take_add_one, List.getElem?_eq_getElem (by rw [HPl.out]; exact hlt)]
        have e : [PS[k]'(by rw [HPl.out]; exact hlt)] = [pAt PS k] := by simp [pAt, List.getD, List.getElem?_eq_getElem (show k < PS.length by rw [HPl.out]; exact hlt)]
        rw [Option.toList_some, e, unionL_snoc])
      have HGk : Hid (gi (nwL S C R K) k = ((msTo S C R k).length : Int) - ((msTo S C R (k + 1)).length : Int)) := Lib.hid (by simp [nwL, gi, hlt])
      obtain ⟨P, hP⟩ : ∃ P, P = pAt PS k := ⟨_, rfl⟩
      obtain ⟨U, hU⟩ : ∃ U, U = unionL (PS.take k) := ⟨_, rfl⟩
      rw [← hP] at hck HVk HUk
      rw [← hU] at HVk HUk r9
      have hzr0 := rowz_new wr rfl
      obtain ⟨W5, hW5⟩ : ∃ W5, W5 = (wr.alloc (.cells #[.int .u64 0, .int .u64 0, .int .u64 0, .int .u64 0, .int .u64 0, .int .u64 0, .int .u64 0, .int .u64 0, .int .u64 0, .int .u64 0, .int .u64 0, .int .u64 0, .int .u64 0, .int .u64 0, .int .u64 0, .int .u64 0] 85)).setRow wr.heap.size (setA P) := ⟨_, rfl⟩
      have b5 : Below wr.heap.size wr W5 := by rw [hW5]; exact ((Below.refl _ wr).alloc (Nat.le_refl _) _).grown (grown_setRow _) (by simp) (fun j e => by cases e; exact Nat.le_refl _)
      have r12 : RowAt W5 wr.heap.size P := by rw [hW5]; exact row_set hzr0
      have r95 := r9.below b5 r9.lt
      have oC5 := oC.below b5
      have oZ5 := oZ.below b5
      have hW5s : wr.heap.size < W5.heap.size := r12.lt
      have HW5 := Lib.hid hW5
      have hc9 : w1.heap.size < wr.heap.size := by omega
      have hc10 : W1.heap.size < wr.heap.size := by omega
      have hTk : k < T.length := by rw [HT.out.1]; exact hlt
      obtain ⟨V, hV⟩ : ∃ V : Nat, V = cntTo (byd P U) 1024 := ⟨_, rfl⟩
      have hcb := countBeyond_any P U
      rw [← hV] at hcb HVk
      clear hP hU hW5 r9 oC oZ hV
      go_wp2_with (first
        | (refine wpList_ldAt rfl _ rfl hck rfl ?_)
        | (refine wpList_st16 rfl _ _ rfl hzr0 P rfl rfl ?_; rw [← HW5.out])
        | (refine wpList_ld16 rfl _ rfl r12 rfl ?_)
        | (refine wpList_ld16 rfl _ rfl r95 rfl ?_)
        | (go_at_call 77; refine (hcb _).mono ?_; rintro e w6 ⟨rfl, hb6⟩; have oC6 := oC5.below hb6; have hcell := oC6.cell (k := k) hTk; have hfree := oC6.free k; have g7 : w6.grownBy (w6.setCell ⟨W1.heap.size, k, none⟩ (.int .i64 (V : Int))) (some W1.heap.size) := grown_setCell (World.grownBy.refl w6 _) _ _; have r97 := (r95.below hb6 r95.lt).kept g7 h91; have r127 := (r12.below hb6 r12.lt).kept g7 (by omega))
        | (refine wpList_ld16 rfl _ rfl r97 rfl ?_)
        | (refine wpList_ld16 rfl _ rfl r127 rfl ?_)
        | (go_at_call 78; refine (with_any U P _).mono ?_; rintro e w8 ⟨rfl, hb8⟩; have r98 := r97.below hb8 r97.lt)
        | (refine wpList_st16 rfl _ _ rfl r98 (fun u => U u || P u) rfl rfl ?_)
        | fail)
      have g9 : w8.grownBy (w8.setRow w1.heap.size (setA fun u => U u || P u)) (some w1.heap.size) := grown_setRow _
      have r99 : RowAt (w8.setRow w1.heap.size (setA fun u => U u || P u)) w1.heap.size (unionL (PS.take (k + 1))) := by rw [← HUk.out]; exact row_set r98
      have oC9 := ((oC6.stored k (V : Int)).below hb8).kept g9 (.inr (by simp only [Value.ownBlock]; intro e; exact h91 (Option.some.inj e).symm))
      have oZ9 := ((((oZ5.below hb6).kept10 g7 (.inr (by simp only [Value.ownBlock]; intro e; exact hgs2 (Option.some.inj e)))).below hb8)).kept10 g9 (.inr (by simp only [Value.ownBlock]; intro e; exact hgs1 (Option.some.inj e)))
      have B6 : Below w.heap.size w w6 := B.trans ((b5.trans (hb6.mono b5.size)).mono B.size)
      have B7 : Below w.heap.size w (w6.setCell ⟨W1.heap.size, k, none⟩ (.int .i64 (V : Int))) := B6.setCell (by simp; omega) _
      have B9 := (B7.trans (hb8.mono B7.size)).grown g9 (B7.trans (hb8.mono B7.size)).size (fun j e => by cases e; omega)
      have hz9 : wZ.heap.size ≤ (w8.setRow w1.heap.size (setA fun u => U u || P u)).heap.size := by
        have h1 := b5.size; have h2 := hb6.size; have h3 := g7.size; have h4 := hb8.size; have h5 := g9.size; omega
      have HT2 : Hid ((T.set k (V : Int)).length = K ∧ ∀ j, j < k + 1 → gi (T.set k (V : Int)) j = gi (nwL S C R K) j) := Lib.hid ⟨by rw [List.length_set]; exact HT.out.1, fun j hj => by
        rw [gi_set _ _ _ _ hTk]
        by_cases e : j = k
        · subst e; rw [if_pos rfl, HGk.out, HVk.out]
        · rw [if_neg e]; exact HT.out.2 j (by omega)⟩
      clear r12 r95 r97 r127 r98 oC5 oC6 oZ5 hb6 hb8 g7 g9 hcell hfree B6 B7 hck hzr0 hcb b5 B HT
      go_wp2_with fail
      go_roundw
      case rel => exact ⟨k + 1, _, by omega, by go_num, oC9, HT2, oZ9, r99, hz9, B9⟩
      case measure => simp [intOf]; omega
    · have hkI : ¬ (k : Int) < (K : Int) := by omega
      have HTe : Hid (T = nwL S C R K) := Lib.hid (ext_gi (by rw [HT.out.1, HNL.out]) fun j hj => by rw [HT.out.1] at hj; exact HT.out.2 j (by omega))
      rw [HTe.out] at oC
      have hW1w : w.heap.size ≤ W1.heap.size := by omega
      go_wp2_with fail
      go_ret2
      exact ⟨_, ret_v2 HE.out.symm, by rw [HV.out]; exact oC.rebase hW1w, B⟩

end Go.Proofs.Ytodbdcanhefcaaa
