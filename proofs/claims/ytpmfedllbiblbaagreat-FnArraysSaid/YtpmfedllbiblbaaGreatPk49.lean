/-
  Texts put together: Nci10, Gri10x, Del, Cat. By an AI agent.
-/
import Derived.Test.YtpmfedllbiblbaaGreatPkNcsA
import Derived.Test.YtpmfedllbiblbaaGreatPk48
import Derived.Test.YtpmfedllbiblbaaGreatPkRer10
import Derived.Test.YtpmfedllbiblbaaGreatPk35
import Derived.Test.YtpmfedllbiblbaaGreatPk37
import Derived.Test.YtpmfedllbiblbaaGreatPkChc10
import Derived.Test.YtpmfedllbiblbaaGreatPk39
import Derived.Test.YtpmfedllbiblbaaGreatPk45
import Derived.Test.YtpmfedllbiblbaaGreatPkMath
import Derived.Test.YtpmfedllbiblbaaGreatPkAppend
import Derived.Test.YtpmfedllbiblbaaGreatPkPut
import Derived.Lib.SliceRun
import Derived.Deep.WholeRow
import Derived.Shelf.Spec.SlicesGrow
import Derived.Shelf.SlGeneric
import Derived.Ground.Names8Prog
namespace Go.Proofs.YtpmfedllbiblbaaGreat
open Go.RowKit Cv
set_option linter.unusedVariables false
set_option linter.unusedSimpArgs false
set_option maxRecDepth 100000

theorem OwnSets.rebase10 {w : World} {base base' : Nat} {v : Value} {ps : List (Nat → Bool)} (h : OwnSets w base v ps) (hb : base' ≤ base) : OwnSets w base' v ps := by
  obtain ⟨h1, h2⟩ := h
  refine ⟨h1, ?_⟩
  rcases h2 with h2 | ⟨g, cap, cur, hv, hg, r⟩
  · exact Or.inl h2
  · exact Or.inr ⟨g, cap, cur, hv, by omega, r⟩
theorem OwnSets.kept10 {w w' : World} {base : Nat} {v : Value} {ps : List (Nat → Bool)} {row : Option Nat} (h : OwnSets w base v ps) (hg : w.grownBy w' row) (hne : v.ownBlock = none ∨ v.ownBlock ≠ row) : OwnSets w' base v ps := World.ownsRow.kept h hg hne
theorem chmem_of {w : World} {ao : Option Addr} {n cap gx g nF cF base base' N : Nat} {C : List (List Int)} {t : Nat} (hN : N = C.length) (hC : ∀ c, c ∈ C → c.length = 2 * t) (hX : OwnXs w base (.slice (some ⟨gx, 0, none⟩) N N) (chL ao n cap g t N)) (hF : OwnInts w base' (.slice (some ⟨g, 0, none⟩) nF cF) C.flatten) : ChMem w ao n cap gx C t :=
  ChMem.all hN hC hX hF fun k j hk hj => ⟨by
    rw [flat_lenC hC]
    have := Nat.mul_le_mul_right (2 * t) (show k + 1 ≤ C.length from hk)
    rw [Nat.succ_mul] at this; omega, gi_flat k j hC hk hj⟩
theorem cntTo_split (p q : Nat → Bool) (n : Nat) : cntTo p n = cntTo (fun u => p u && q u) n + cntTo (fun u => p u && !q u) n := by
  induction n with
  | zero => rfl
  | succ n ih =>
    simp only [cntTo, ih]
    have e : (if p n = true then 1 else 0) = (if (p n && q n) = true then 1 else 0) + (if (p n && !q n) = true then 1 else 0) := by
      rcases hp : p n with _ | _ <;> rcases hq : q n with _ | _ <;> rfl
    omega
theorem cntTo_filter (C : List (List Int)) (f : List Int → Bool) (N : Nat) (hN : C.length ≤ N) : (C.filter f).length = cntTo (fun u => decide (u < C.length) && f (rr C u)) N := by
  have h1 : ∀ n, n ≤ C.length → ((C.take n).filter f).length = cntTo (fun u => decide (u < C.length) && f (rr C u)) n := fun n hn => by
    induction n with
    | zero => simp [cntTo]
    | succ n ih =>
      rw [take_rr C n (by omega), List.filter_append, List.length_append, ih (by omega), cntTo]
      congr 1
      cases h : f (rr C n) <;> simp [h, show n < C.length by omega]
  have h2 : ∀ m, cntTo (fun u => decide (u < C.length) && f (rr C u)) (C.length + m) = cntTo (fun u => decide (u < C.length) && f (rr C u)) C.length := fun m => by
    induction m with
    | zero => rfl
    | succ m ih => rw [← Nat.add_assoc, cntTo, ih]; simp [show ¬ C.length + m < C.length by omega]
  have h3 := h1 C.length (Nat.le_refl _)
  rw [List.take_length] at h3
  rw [h3, ← h2 (N - C.length)]
  congr 1; omega
/-- what the first k rows have together -/
theorem union_take (S : List Int) (C : List (List Int)) (R : List Int) (k : Nat) (hk : k ≤ R.length) (u : Nat) : unionL ((chSets S C R).take k) u = (decide (u < C.length) && anyR S R k (rr C u)) := by
  induction k with
  | zero => simp [unionL, anyR]
  | succ k ih =>
    have e : (chSets S C R).take (k + 1) = (chSets S C R).take k ++ [pAt (chSets S C R) k] := by
      rw [List.take_add_one, List.getElem?_eq_getElem (by rw [chSets_len]; omega)]
      simp [pAt, List.getD, List.getElem?_eq_getElem (show k < (chSets S C R).length by rw [chSets_len]; omega)]
    rw [e, unionL_snoc]
    simp only [ih (by omega)]
    rw [pAt_chSets S C R k (by omega)]
    unfold anyR chP
    rw [List.range_succ, List.any_append]
    cases decide (u < C.length) <;> simp
theorem new_count (S : List Int) (C : List (List Int)) (R : List Int) (k : Nat) (hk : k < R.length) (hC : C.length ≤ 1024) :
    ((cntTo (byd (pAt (chSets S C R) k) (unionL ((chSets S C R).take k))) 1024 : Nat) : Int) = ((msTo S C R k).length : Int) - ((msTo S C R (k + 1)).length : Int) := by
  have e1 := cntTo_filter C (fun c => !anyR S R k c) 1024 hC
  have e2 := cntTo_filter C (fun c => !anyR S R (k + 1) c) 1024 hC
  rw [← msTo_filter] at e1 e2
  have e3 := cntTo_split (fun u => decide (u < C.length) && !anyR S R k (rr C u)) (fun u => hasC (digs S (gi R k)) (rr C u)) 1024
  have e4 : (fun u => (decide (u < C.length) && !anyR S R k (rr C u)) && !hasC (digs S (gi R k)) (rr C u)) = fun u => decide (u < C.length) && !anyR S R (k + 1) (rr C u) := by
    funext u
    unfold anyR
    rw [List.range_succ, List.any_append]
    simp [Bool.not_or, Bool.and_assoc]
  have e5 : (fun u => (decide (u < C.length) && !anyR S R k (rr C u)) && hasC (digs S (gi R k)) (rr C u)) = byd (pAt (chSets S C R) k) (unionL ((chSets S C R).take k)) := by
    funext u
    unfold byd
    rw [union_take S C R k (by omega), pAt_chSets S C R k hk]
    unfold chP
    cases decide (u < C.length) <;> simp [Bool.and_comm]
  rw [e4, e5] at e3
  omega

set_option maxHeartbeats 4000000 in
theorem impl_NewChoices (ao : Option Addr) (S : List Int) (cap : Nat) (hn : S.length ≤ 4294967296) (ar : Option Addr) (R : List Int) (capr : Nat) (hnr : R.length ≤ 4294967296) (hcap : R.length ≤ capr) (t : Int) (ht : -9223372036854775808 ≤ t ∧ t ≤ 9223372036854775807) (w : World) (hS : Ints w ao S) (hRI : Ints w ar R) :
    Calls Tryz.prog 15 #[.agg #[.slice ao S.length cap], .slice ar R.length capr, .int .i64 t] w fun e w' => ∃ v, e = .returned (.tuple #[v, .int .i64 (eR10 S R t)]) ∧ OwnInts w' w.heap.size v (vNw S R t) ∧ Below w.heap.size w w' := by
  have B0 : Below w.heap.size w (w.alloc (.cells #[.slice ao S.length cap] 26)) := by go_grown
  have c0 := cell_new w (.slice ao S.length cap) 26
  have l0 := lt_alloc w (.cells #[.slice ao S.length cap] 26)
  have hc := rowsError_any ao S cap hn ar R capr hnr t _ (hS.below B0) (hRI.below B0)
  by_cases he : eR10 S R t = 0
  case neg =>
    have HV : Hid (vNw S R t = []) := Lib.hid (by unfold vNw; rw [if_neg he])
    obtain ⟨E, hE⟩ : ∃ E, E = eR10 S R t := ⟨_, rfl⟩
    rw [← hE] at hc he ⊢
    have hb : (E != 0) = true := by simpa using he
    clear hE he
    go_enter Tryz.func15, Tryz.ntmps15
    go_wp2_with fail
    refine hc.mono ?_
    rintro e w1 ⟨rfl, hb1⟩
    have B1 := B0.trans (hb1.mono B0.size)
    go_wp2_with fail
    go_ret2
    exact ⟨_, rfl, by rw [HV.out]; exact World.ownsRow_nil _ _ _ _, B1⟩
  obtain ⟨hSp, hRb, hR2, g1, g2, g3⟩ := eR10_zero he
  have HSp := Lib.hid hSp
  have HV : Hid (vNw S R t = nwL S (allC S t.toNat) R R.length) := Lib.hid (by unfold vNw; rw [if_pos he])
  have HE := Lib.hid he
  rw [he] at hc
  clear he
  obtain ⟨t, rfl⟩ : ∃ n : Nat, t = n := ⟨t.toNat, by omega⟩
  rw [Int.toNat_natCast] at HV
  have ht1 : 0 < t := by omega
  have ht3 : t ≤ 3 := by omega
  have hC832 := allC_le hSp ht1 ht3
  have HCc : Hid (IsCs S.length t (allC S t)) := Lib.hid (allC_cs t)
  have HCf : Hid (∀ c, c ∈ allC S t → c.length = 2 * t) := Lib.hid (allC_len2 S t)
  have HCH := Lib.hid fun w hS => choicesOf_any ao S cap hSp t ht1 ht3 w hS
  obtain ⟨C, hC⟩ : ∃ C, C = allC S t := ⟨_, rfl⟩
  rw [← hC] at HV hC832 HCc HCf HCH
  have HCS0 := Lib.hid fun gx w hS hRI hCM => choiceSets_any ao S cap hSp ar R capr (by omega) hRb gx C.length S.length cap t ao C ht1 ht3 (by omega) HCc.out w hS hRI hCM
  obtain ⟨NC, hNC⟩ : ∃ NC, NC = C.length := ⟨_, rfl⟩
  have HCN := Lib.hid hNC
  rw [← hNC] at HCH HCS0 hC832
  have HNW := Lib.hid fun i => nwL_succ S C R i
  have HNL := Lib.hid fun i => nwL_len S C R i
  have HCT : Hid (∀ k, k < R.length → ((cntTo (byd (pAt (chSets S C R) k) (unionL ((chSets S C R).take k))) 1024 : Nat) : Int) = ((msTo S C R k).length : Int) - ((msTo S C R (k + 1)).length : Int)) := Lib.hid fun k hk => new_count S C R k hk (by rw [← hNC]; omega)
  have HPl : Hid ((chSets S C R).length = R.length) := Lib.hid (chSets_len S C R)
  obtain ⟨PS, hPS⟩ : ∃ PS, PS = chSets S C R := ⟨_, rfl⟩
  rw [← hPS] at HCS0 HCT HPl
  obtain ⟨K, hK⟩ : ∃ K, K = R.length := ⟨_, rfl⟩
  have HK := Lib.hid hK
  rw [← hK] at hR2 hcap HV hc HCS0 HCT HPl ⊢
  have HCS := HCS0
  clear hSp hC hK hNC hPS hRb HCS0
  obtain ⟨i0, hi0, hz0, hz1, hz2⟩ := info_parts infoI64
  go_enter Tryz.func15, Tryz.ntmps15
  go_wp2_with fail
  refine hc.mono ?_
  rintro e w1 ⟨rfl, hb1⟩
  have c1 := kept_cell hb1 c0 l0
  have l1 := lt_of_below hb1 l0
  have B1 := B0.trans (hb1.mono B0.size)
  obtain ⟨W1, hW1⟩ : ∃ W1, W1 = w1.alloc (.cells #[.int .u64 0, .int .u64 0, .int .u64 0, .int .u64 0, .int .u64 0, .int .u64 0, .int .u64 0, .int .u64 0, .int .u64 0, .int .u64 0, .int .u64 0, .int .u64 0, .int .u64 0, .int .u64 0, .int .u64 0, .int .u64 0] 68) := ⟨_, rfl⟩
  have r1 : RowAt W1 w1.heap.size (fun _ => false) := by rw [hW1]; exact rowz_new w1 rfl
  have c1b : W1.cell? ⟨w.heap.size, 0, none⟩ = some (.slice ao S.length cap) := by rw [hW1]; exact kept_cell ((Below.refl _ w1).alloc (Nat.le_refl _) _) c1 l1
  have l1b : w.heap.size < W1.heap.size := by rw [hW1]; simp; omega
  have B1b : Below w.heap.size w W1 := by rw [hW1]; exact B1.alloc B1.size _
  have l19 : w1.heap.size < W1.heap.size := by rw [hW1]; simp
  have l09 : w.heap.size < w1.heap.size := l1
  have HW1 := Lib.hid hW1
  clear hc c0 l0 B0 hb1 hW1 c1 l1 B1
  go_wp2_with (first | (at_make; refine wpList_make_full _ rfl _ _ 24 rfl W1.heap.size 2 i0 (.int .i64 0) 1 Tryz.underlying24 hi0 hz0 hz1 .i64 .i64 (K : Int) (K : Int) K rfl rfl rfl rfl (by rw [hz2]; omega) (by unfold maxLen; omega) (by rw [HW1.out]; exact Nat.le_refl _) ?_; rw [← HW1.out]; intro w2 hown hgrow) | fail)
  have b2 : Below W1.heap.size W1 w2 := below_grown0 hgrow
  have o2 := own_made hown
  have c2 := kept_cell b2 c1b l1b
  have l2 := lt_of_below b2 l1b
  have r2 := r1.below b2 l19
  have B2 := B1b.trans (b2.mono B1b.size)
  have lo2 := o2.base_le
  clear hown hgrow hi0 hz0 hz1 hz2 c1b l1b B1b b2 r1
  refine wp_region_held_drew (S := fun w' => w'.cell? ⟨w.heap.size, 0, none⟩ = some (.slice ao S.length cap)) (by kernel_rfl) (c2) (fun hHeld => ?_)
  refine wpAnyH_take (i := 0) (v := ?_) rfl (by kernel_rfl) (by kernel_rfl) (by kernel_rfl) (fun _ _ _ h => h) (Or.inl ⟨by rfl, ?_⟩) (by assumption) ?_
  rotate_left
  · (intro w hSw; obtain hSw := hSw; (try dsimp only at hSw); go_simp; try (with_reducible rfl))
  (try simp only [Act.put, List.setIfInBounds_toArray, List.set_cons_zero, List.set_cons_succ, List.getElem_toArray, List.getElem_cons_succ, List.getElem_cons_zero])
  refine wpAnyH_take (i := 1) (v := ?_) rfl (by kernel_rfl) (by kernel_rfl) (by kernel_rfl) (fun _ _ _ h => h) (Or.inl ⟨by rfl, ?_⟩) (by assumption) ?_
  rotate_left
  · (intro w hSw; obtain hSw := hSw; (try dsimp only at hSw); go_simp; try (with_reducible rfl))
  (try simp only [Act.put, List.setIfInBounds_toArray, List.set_cons_zero, List.set_cons_succ, List.getElem_toArray, List.getElem_cons_succ, List.getElem_cons_zero])
  refine wpAnyH_take (i := 2) (v := ?_) rfl (by kernel_rfl) (by kernel_rfl) (by kernel_rfl) (fun _ _ _ h => h) (Or.inl ⟨by rfl, ?_⟩) (by assumption) ?_
  rotate_left
  · (intro w hSw; obtain hSw := hSw; (try dsimp only at hSw); go_simp; try (with_reducible rfl))
  (try simp only [Act.put, List.setIfInBounds_toArray, List.set_cons_zero, List.set_cons_succ, List.getElem_toArray, List.getElem_cons_succ, List.getElem_cons_zero])
  refine wpAnyH_take (i := 3) (v := ?_) rfl (by kernel_rfl) (by kernel_rfl) (by kernel_rfl) (fun _ _ _ h => h) (Or.inl ⟨by rfl, ?_⟩) (by assumption) ?_
  rotate_left
  · (intro w hSw; obtain hSw := hSw; (try dsimp only at hSw); go_simp; try (with_reducible rfl))
  (try simp only [Act.put, List.setIfInBounds_toArray, List.set_cons_zero, List.set_cons_succ, List.getElem_toArray, List.getElem_cons_succ, List.getElem_cons_zero])
  refine wpAnyH_take (i := 7) (v := ?_) rfl (by kernel_rfl) (by kernel_rfl) (by kernel_rfl) (fun _ _ _ h => h) (Or.inl ⟨by rfl, ?_⟩) (by assumption) ?_
  rotate_left
  · (intro w hSw; obtain hSw := hSw; (try dsimp only at hSw); go_simp; try (with_reducible rfl))
  (try simp only [Act.put, List.setIfInBounds_toArray, List.set_cons_zero, List.set_cons_succ, List.getElem_toArray, List.getElem_cons_succ, List.getElem_cons_zero])
  refine wpAnyH_ready (rs := [4]) (by kernel_rfl) (by simp) ?_
  refine AllReadyH.cons rfl (fun K hK => ?_) AllReadyH.nil
  go_simp
  (go_at_call 41; refine (HCH.out _ ((hS.below B2).below (Below.refl w2.heap.size w2).drew)).mono ?_)
  rintro e x1 ⟨gx1, g1, nF1, cF1, rfl, oX1, oF1, hb1⟩
  have H1 : Below w2.heap.size w2 x1 := Below.trans (Below.refl w2.heap.size w2).drew (hb1.mono (Below.size (Below.refl w2.heap.size w2).drew))
  have hcm1 := chmem_of HCN.out HCf.out oX1 oF1
  refine hK.out _ _ (kept_cell H1 c2 l2) (fun hHeld => ?_)
  clear hK K
  (try simp only [Act.put, List.setIfInBounds_toArray, List.set_cons_zero, List.set_cons_succ, List.getElem_toArray, List.getElem_cons_succ, List.getElem_cons_zero])
  refine wpAnyH_ready (rs := [5]) (by kernel_rfl) (by simp) ?_
  refine AllReadyH.cons rfl (fun K hK => ?_) AllReadyH.nil
  go_simp
  (go_at_call 40; refine (HCS.out gx1 _ ((hS.below B2).below H1) ((hRI.below B2).below H1) hcm1).mono ?_)
  rintro e x2 ⟨gs2, rfl, oS2, hb2⟩
  have H2 : Below w2.heap.size w2 x2 := Below.trans H1 (hb2.mono (Below.size H1))
  replace hcm1 := hcm1.below hb2
  refine hK.out _ _ (kept_cell H2 c2 l2) (fun hHeld => ?_)
  clear hK K
  (try simp only [Act.put, List.setIfInBounds_toArray, List.set_cons_zero, List.set_cons_succ, List.getElem_toArray, List.getElem_cons_succ, List.getElem_cons_zero])
  refine wpAnyH_take (i := 6) (v := ?_) rfl (by kernel_rfl) (by kernel_rfl) (by kernel_rfl) (fun _ _ _ h => h) (Or.inl ⟨by rfl, ?_⟩) (by assumption) ?_
  rotate_left
  · (intro w hSw; obtain hSw := hSw; (try dsimp only at hSw); go_simp; try (with_reducible rfl))
  (try simp only [Act.put, List.setIfInBounds_toArray, List.set_cons_zero, List.set_cons_succ, List.getElem_toArray, List.getElem_cons_succ, List.getElem_cons_zero])
  refine wpAnyH_done (by kernel_rfl) ?_ _
  (try simp only [Act.put, List.setIfInBounds_toArray, List.set_cons_zero, List.set_cons_succ, List.getElem_toArray, List.getElem_cons_succ, List.getElem_cons_zero])
  have Hn : Below w2.heap.size w2 x2 := H2
  have oZ := oS2.rebase10 (base' := w2.heap.size) (Below.size H1)
  obtain ⟨gs, hgs⟩ : ∃ z, z = gs2 := ⟨_, rfl⟩
  rw [← hgs] at oZ ⊢
  clear hgs
  obtain ⟨wZ, hwZ⟩ : ∃ z, z = x2 := ⟨_, rfl⟩
  rw [← hwZ] at Hn oZ ⊢
  clear hwZ hHeld
  have oC := o2.below Hn
  have rZ := r2.below Hn r2.lt
  have BZ := B2.trans (Hn.mono B2.size)
  have hgs := oZ.base_le.1
  have hgs1 : gs ≠ w1.heap.size := by omega
  have hgs2 : gs ≠ W1.heap.size := by omega
  have h91 : w1.heap.size ≠ W1.heap.size := by omega
  have hBz : w1.heap.size + 1 ≤ wZ.heap.size ∧ W1.heap.size + 1 ≤ wZ.heap.size := ⟨by have := Hn.size; omega, by have := Hn.size; omega⟩
  have hU0 : Hid (unionL (PS.take 0) = fun _ => false) := Lib.hid (by funext u; simp [unionL])
  clear r2 o2 c2 l2 B2 Hn lo2
  rw [← hU0.out] at rZ
  go_wp2_with fail
  go_loopw [31] (fun x wr => ∃ (k : Nat) (T : List Int), k ≤ K ∧ x = .int .i64 (k : Int) ∧ OwnInts wr W1.heap.size (.slice (some ⟨W1.heap.size, 0, none⟩) K K) T ∧ Hid (T.length = K ∧ ∀ j, j < k → gi T j = gi (nwL S C R K) j) ∧ OwnSets wr w2.heap.size (.slice (some ⟨gs, 0, none⟩) K K) PS ∧ RowAt wr w1.heap.size (unionL (PS.take k)) ∧ wZ.heap.size ≤ wr.heap.size ∧ Below w.heap.size w wr) (fun x _ => K - (intOf x).toNat)
  case atStart => exact ⟨0, _, Nat.zero_le _, rfl, oC, Lib.hid ⟨by simp, fun j hj => by omega⟩, oZ, rZ, Nat.le_refl _, BZ⟩
  case round =>
    clear oC oZ rZ BZ
    obtain ⟨k, T, hk, rfl, oC, HT, oZ, r9, hzr, B⟩ := hrel
    by_cases hlt : k < K
    · have hkI : (k : Int) < (K : Int) := by omega
      have hck : ∀ j, j < 16 → wr.cell? ⟨gs, k * 16 + j, none⟩ = some (.int .u64 (partN (pAt PS k) j)) := fun j hj => oZ.cells k (by rw [HPl.out]; exact hlt) j hj
      have HVk := Lib.hid (HCT.out k hlt)
      have HUk : Hid ((fun u => unionL (PS.take k) u || pAt PS k u) = unionL (PS.take (k + 1))) := Lib.hid (by
        rw [List.take_add_one, List.getElem?_eq_getElem (by rw [HPl.out]; exact hlt)]
        have e : [PS[k]'(by rw [HPl.out]; exact hlt)] = [pAt PS k] := by simp [pAt, List.getD, List.getElem?_eq_getElem (show k < PS.length by rw [HPl.out]; exact hlt)]
        rw [Option.toList_some, e, unionL_snoc])
      have HGk : Hid (gi (nwL S C R K) k = ((msTo S C R k).length : Int) - ((msTo S C R (k + 1)).length : Int)) := Lib.hid (by simp [nwL, gi, hlt])
      obtain ⟨P, hP⟩ : ∃ P, P = pAt PS k := ⟨_, rfl⟩
      obtain ⟨U, hU⟩ : ∃ U, U = unionL (PS.take k) := ⟨_, rfl⟩
      rw [← hP] at hck HVk HUk
      rw [← hU] at HVk HUk r9
      have hzr0 := rowz_new wr rfl
      obtain ⟨W5, hW5⟩ : ∃ W5, W5 = (wr.alloc (.cells #[.int .u64 0, .int .u64 0, .int .u64 0, .int .u64 0, .int .u64 0, .int .u64 0, .int .u64 0, .int .u64 0, .int .u64 0, .int .u64 0, .int .u64 0, .int .u64 0, .int .u64 0, .int .u64 0, .int .u64 0, .int .u64 0] 68)).setRow wr.heap.size (setA P) := ⟨_, rfl⟩
      have b5 : Below wr.heap.size wr W5 := by rw [hW5]; exact ((Below.refl _ wr).alloc (Nat.le_refl _) _).grown (grown_setRow _) (by simp) (fun j e => by cases e; exact Nat.le_refl _)
      have r12 : RowAt W5 wr.heap.size P := by rw [hW5]; exact row_set hzr0
      have r95 := r9.below b5 r9.lt
      have oC5 := oC.below b5
      have oZ5 := oZ.below b5
      have hW5s : wr.heap.size < W5.heap.size := r12.lt
      have HW5 := Lib.hid hW5
      have hc9 : w1.heap.size < wr.heap.size := by omega
      have hc10 : W1.heap.size < wr.heap.size := by omega
      have hTk : k < T.length := by rw [HT.out.1]; exact hlt
      obtain ⟨V, hV⟩ : ∃ V : Nat, V = cntTo (byd P U) 1024 := ⟨_, rfl⟩
      have hcb := countBeyond_any P U
      rw [← hV] at hcb HVk
      clear hP hU hW5 r9 oC oZ hV
      go_wp2_with (first
        | (refine wpList_ldAt rfl _ rfl hck rfl ?_)
        | (refine wpList_st16 rfl _ _ rfl hzr0 P rfl rfl ?_; rw [← HW5.out])
        | (refine wpList_ld16 rfl _ rfl r12 rfl ?_)
        | (refine wpList_ld16 rfl _ rfl r95 rfl ?_)
        | (go_at_call 48; refine (hcb _).mono ?_; rintro e w6 ⟨rfl, hb6⟩; have oC6 := oC5.below hb6; have hcell := oC6.cell (k := k) hTk; have hfree := oC6.free k; have g7 : w6.grownBy (w6.setCell ⟨W1.heap.size, k, none⟩ (.int .i64 (V : Int))) (some W1.heap.size) := grown_setCell (World.grownBy.refl w6 _) _ _; have r97 := (r95.below hb6 r95.lt).kept g7 h91; have r127 := (r12.below hb6 r12.lt).kept g7 (by omega))
        | (refine wpList_ld16 rfl _ rfl r97 rfl ?_)
        | (refine wpList_ld16 rfl _ rfl r127 rfl ?_)
        | (go_at_call 49; refine (with_any U P _).mono ?_; rintro e w8 ⟨rfl, hb8⟩; have r98 := r97.below hb8 r97.lt)
        | (refine wpList_st16 rfl _ _ rfl r98 (fun u => U u || P u) rfl rfl ?_)
        | fail)
      have g9 : w8.grownBy (w8.setRow w1.heap.size (setA fun u => U u || P u)) (some w1.heap.size) := grown_setRow _
      have r99 : RowAt (w8.setRow w1.heap.size (setA fun u => U u || P u)) w1.heap.size (unionL (PS.take (k + 1))) := by rw [← HUk.out]; exact row_set r98
      have oC9 := ((oC6.stored k (V : Int)).below hb8).kept g9 (.inr (by simp only [Value.ownBlock]; intro e; exact h91 (Option.some.inj e).symm))
      have oZ9 := ((((oZ5.below hb6).kept10 g7 (.inr (by simp only [Value.ownBlock]; intro e; exact hgs2 (Option.some.inj e)))).below hb8)).kept10 g9 (.inr (by simp only [Value.ownBlock]; intro e; exact hgs1 (Option.some.inj e)))
      have B6 : Below w.heap.size w w6 := B.trans ((b5.trans (hb6.mono b5.size)).mono B.size)
      have B7 : Below w.heap.size w (w6.setCell ⟨W1.heap.size, k, none⟩ (.int .i64 (V : Int))) := B6.setCell (by simp; omega) _
      have B9 := (B7.trans (hb8.mono B7.size)).grown g9 (B7.trans (hb8.mono B7.size)).size (fun j e => by cases e; omega)
      have hz9 : wZ.heap.size ≤ (w8.setRow w1.heap.size (setA fun u => U u || P u)).heap.size := by
        have h1 := b5.size; have h2 := hb6.size; have h3 := g7.size; have h4 := hb8.size; have h5 := g9.size; omega
      have HT2 : Hid ((T.set k (V : Int)).length = K ∧ ∀ j, j < k + 1 → gi (T.set k (V : Int)) j = gi (nwL S C R K) j) := Lib.hid ⟨by rw [List.length_set]; exact HT.out.1, fun j hj => by
        rw [gi_set _ _ _ _ hTk]
        by_cases e : j = k
        · subst e; rw [if_pos rfl, HGk.out, HVk.out]
        · rw [if_neg e]; exact HT.out.2 j (by omega)⟩
      clear r12 r95 r97 r127 r98 oC5 oC6 oZ5 hb6 hb8 g7 g9 hcell hfree B6 B7 hck hzr0 hcb b5 B HT
      go_wp2_with fail
      go_roundw
      case rel => exact ⟨k + 1, _, by omega, by go_num, oC9, HT2, oZ9, r99, hz9, B9⟩
      case measure => simp [intOf]; omega
    · have hkI : ¬ (k : Int) < (K : Int) := by omega
      have HTe : Hid (T = nwL S C R K) := Lib.hid (ext_gi (by rw [HT.out.1, HNL.out]) fun j hj => by rw [HT.out.1] at hj; exact HT.out.2 j (by omega))
      rw [HTe.out] at oC
      have hW1w : w.heap.size ≤ W1.heap.size := by omega
      go_wp2_with fail
      go_ret2
      exact ⟨_, ret_v2 HE.out.symm, by rw [HV.out]; exact oC.rebase hW1w, B⟩

end Go.Proofs.YtpmfedllbiblbaaGreat

namespace Go.Proofs.YtpmfedllbiblbaaGreat
open Go.RowKit Cv
set_option linter.unusedVariables false
set_option linter.unusedSimpArgs false
set_option maxRecDepth 100000

theorem OwnSets.rebase_gu {w : World} {base base' : Nat} {v : Value} {ps : List (Nat → Bool)} (h : OwnSets w base v ps) (hb : base' ≤ base) : OwnSets w base' v ps := by
  obtain ⟨h1, h2⟩ := h
  refine ⟨h1, ?_⟩
  rcases h2 with h2 | ⟨g, cap, cur, hv, hg, r⟩
  · exact Or.inl h2
  · exact Or.inr ⟨g, cap, cur, hv, by omega, r⟩
theorem chmem_gu {w : World} {ao : Option Addr} {n cap gx g nF cF base base' N : Nat} {C : List (List Int)} {t : Nat} (hN : N = C.length) (hC : ∀ c, c ∈ C → c.length = 2 * t) (hX : OwnXs w base (.slice (some ⟨gx, 0, none⟩) N N) (chL ao n cap g t N)) (hF : OwnInts w base' (.slice (some ⟨g, 0, none⟩) nF cF) C.flatten) : ChMem w ao n cap gx C t :=
  ChMem.all hN hC hX hF fun k j hk hj => ⟨by
    rw [flat_lenC hC]
    have := Nat.mul_le_mul_right (2 * t) (show k + 1 ≤ C.length from hk)
    rw [Nat.succ_mul] at this; omega, gi_flat k j hC hk hj⟩
theorem ints_of_own {w : World} {base q n c : Nat} {L : List Int} (hn : L.length = n) (h : OwnInts w base (.slice (some ⟨q, 0, none⟩) n c) L) : Ints w (some ⟨q, 0, none⟩) L := by
  subst hn
  obtain ⟨a, c', e, hi⟩ := h.ints
  simp only [Value.slice.injEq] at e
  rw [e.1]; exact hi
theorem ret_gu {v : Value} {x y : Int} (h : x = y) : Ending.returned (.tuple #[v, .int .i64 x]) = Ending.returned (.tuple #[v, .int .i64 y]) := by rw [h]

set_option maxHeartbeats 4000000 in
theorem impl_GreedyRows (ao : Option Addr) (S : List Int) (cap : Nat) (hn : S.length ≤ 4294967296) (t : Int) (ht : -9223372036854775808 ≤ t ∧ t ≤ 9223372036854775807) (w : World) (hS : Ints w ao S) :
    Calls Tryz.prog 18 #[.agg #[.slice ao S.length cap], .int .i64 t] w fun e w' => ∃ v, e = .returned (.tuple #[v, .int .i64 (eGu S t)]) ∧ OwnInts w' w.heap.size v (vGu S t) ∧ Below w.heap.size w w' := by
  have B0 : Below w.heap.size w (w.alloc (.cells #[.slice ao S.length cap] 26)) := by go_grown
  have c0 := cell_new w (.slice ao S.length cap) 26
  have l0 := lt_alloc w (.cells #[.slice ao S.length cap] 26)
  have hc := rowsError_any ao S cap hn none [] 0 (by simp) t _ (hS.below B0) (Or.inl rfl)
  rw [show ([] : List Int).length = 0 from rfl, eR10_nilG] at hc
  by_cases he : eC10 S t = 0
  case neg =>
    have HV : Hid (vGu S t = [] ∧ eGu S t = eC10 S t) := Lib.hid (by unfold vGu eGu; rw [if_neg he, if_neg he]; exact ⟨rfl, rfl⟩)
    obtain ⟨E, hE⟩ : ∃ E, E = eC10 S t := ⟨_, rfl⟩
    rw [← hE] at hc he HV
    have hb : (E != 0) = true := by simpa using he
    clear hE he
    go_enter Tryz.func18, Tryz.ntmps18
    go_wp2_with fail
    refine hc.mono ?_
    rintro e w1 ⟨rfl, hb1⟩
    have B1 := B0.trans (hb1.mono B0.size)
    go_wp2_with fail
    go_ret2
    exact ⟨_, ret_gu HV.out.2.symm, by rw [HV.out.1]; exact World.ownsRow_nil _ _ _ _, B1⟩
  obtain ⟨hSp, g1, g2, g3⟩ := eC10_zero he
  have HSp := Lib.hid hSp
  have HV : Hid (vGu S t = upV (psG S (allC S t.toNat) (nW S).toNat) (nW S).toNat 200 ∧ eGu S t = upE (psG S (allC S t.toNat) (nW S).toNat) (nW S).toNat 200) := Lib.hid (by unfold vGu eGu; rw [if_pos he, if_pos he]; exact ⟨rfl, rfl⟩)
  rw [he] at hc
  clear he
  obtain ⟨t, rfl⟩ : ∃ n : Nat, t = n := ⟨t.toNat, by omega⟩
  rw [Int.toNat_natCast] at HV
  obtain ⟨N1, N2⟩ := nW_bd hSp
  obtain ⟨N, hN⟩ : ∃ N : Nat, nW S = (N : Int) := ⟨(nW S).toNat, by omega⟩
  rw [hN, Int.toNat_natCast] at HV
  have ht1 : 0 < t := by omega
  have ht3 : t ≤ 3 := by omega
  have hC832 := allC_le hSp ht1 ht3
  have HCc : Hid (IsCs S.length t (allC S t)) := Lib.hid (allC_cs t)
  have HCf : Hid (∀ c, c ∈ allC S t → c.length = 2 * t) := Lib.hid (allC_len2 S t)
  have HCH := Lib.hid fun w hS => choicesOf_any ao S cap hSp t ht1 ht3 w hS
  have HAW := Lib.hid fun w hS => allWords_any ao S cap hSp N (Lib.hid hN) w hS
  have HU : Hid ((upto N).length = N) := Lib.hid (upto_len N)
  obtain ⟨C, hC⟩ : ∃ C, C = allC S t := ⟨_, rfl⟩
  rw [← hC] at HV hC832 HCc HCf HCH
  have HCS : Hid (∀ q gx w, Ints w ao S → Ints w (some ⟨q, 0, none⟩) (upto N) → ChMem w ao S.length cap gx C t → Calls Tryz.prog 40 #[.agg #[.slice ao S.length cap], .slice (some ⟨q, 0, none⟩) N N, .slice (some ⟨gx, 0, none⟩) C.length C.length] w fun e w' => ∃ g, e = .returned (.slice (some ⟨g, 0, none⟩) N N) ∧ OwnSets w' w.heap.size (.slice (some ⟨g, 0, none⟩) N N) (psG S C N) ∧ Below w.heap.size w w') := Lib.hid fun q gx w hS hRI hCM => by
    have h := choiceSets_any ao S cap hSp (some ⟨q, 0, none⟩) (upto N) N (by rw [upto_len]; omega) (fun i hi => by rw [upto_len] at hi; rw [gi_upto _ _ hi]; omega) gx C.length S.length cap t ao C ht1 ht3 (by omega) HCc.out w hS hRI hCM
    rw [upto_len] at h
    exact h
  have HGU : Hid (∀ g w, OwnSets w 0 (.slice (some ⟨g, 0, none⟩) N N) (psG S C N) → Calls Tryz.prog 51 #[.slice (some ⟨g, 0, none⟩) N N, .int .i64 200] w fun e w' => ∃ v, e = .returned (.tuple #[v, .int .i64 (upE (psG S C N) N 200)]) ∧ OwnInts w' w.heap.size v (upV (psG S C N) N 200) ∧ Below w.heap.size w w') := Lib.hid fun g w hO => greedyUpTo_any 0 g N N (psG S C N) (psG_len S C N).symm (by omega) (by omega) (psG_bd S C N (by omega)) 200 (by omega) w hO
  obtain ⟨NC, hNC⟩ : ∃ NC, NC = C.length := ⟨_, rfl⟩
  have HCN := Lib.hid hNC
  rw [← hNC] at HCH HCS hC832
  obtain ⟨PS, hPS⟩ : ∃ PS, PS = psG S C N := ⟨_, rfl⟩
  rw [← hPS] at HCS HGU HV
  obtain ⟨UV, hUV⟩ : ∃ UV, UV = upV PS N 200 := ⟨_, rfl⟩
  obtain ⟨UE, hUE⟩ : ∃ UE, UE = upE PS N 200 := ⟨_, rfl⟩
  rw [← hUV, ← hUE] at HGU HV
  clear hSp hC hNC hPS hUV hUE hN N1 N2
  go_enter Tryz.func18, Tryz.ntmps18
  go_wp2_with fail
  refine hc.mono ?_
  rintro e w1 ⟨rfl, hb1⟩
  have c1 := kept_cell hb1 c0 l0
  have l1 := lt_of_below hb1 l0
  have B1 := B0.trans (hb1.mono B0.size)
  clear hc c0 l0 B0 hb1
  go_wp2_with fail
  refine wp_region_held_drew (S := fun w' => w'.cell? ⟨w.heap.size, 0, none⟩ = some (.slice ao S.length cap)) (by kernel_rfl) (c1) (fun hHeld => ?_)
  refine wpAnyH_take (i := 0) (v := ?_) rfl (by kernel_rfl) (by kernel_rfl) (by kernel_rfl) (fun _ _ _ h => h) (Or.inl ⟨by rfl, ?_⟩) (by assumption) ?_
  rotate_left
  · (intro w hSw; obtain hSw := hSw; (try dsimp only at hSw); go_simp; try (with_reducible rfl))
  (try simp only [Act.put, List.setIfInBounds_toArray, List.set_cons_zero, List.set_cons_succ, List.getElem_toArray, List.getElem_cons_succ, List.getElem_cons_zero])
  refine wpAnyH_take (i := 1) (v := ?_) rfl (by kernel_rfl) (by kernel_rfl) (by kernel_rfl) (fun _ _ _ h => h) (Or.inl ⟨by rfl, ?_⟩) (by assumption) ?_
  rotate_left
  · (intro w hSw; obtain hSw := hSw; (try dsimp only at hSw); go_simp; try (with_reducible rfl))
  (try simp only [Act.put, List.setIfInBounds_toArray, List.set_cons_zero, List.set_cons_succ, List.getElem_toArray, List.getElem_cons_succ, List.getElem_cons_zero])
  refine wpAnyH_take (i := 3) (v := ?_) rfl (by kernel_rfl) (by kernel_rfl) (by kernel_rfl) (fun _ _ _ h => h) (Or.inl ⟨by rfl, ?_⟩) (by assumption) ?_
  rotate_left
  · (intro w hSw; obtain hSw := hSw; (try dsimp only at hSw); go_simp; try (with_reducible rfl))
  (try simp only [Act.put, List.setIfInBounds_toArray, List.set_cons_zero, List.set_cons_succ, List.getElem_toArray, List.getElem_cons_succ, List.getElem_cons_zero])
  refine wpAnyH_take (i := 4) (v := ?_) rfl (by kernel_rfl) (by kernel_rfl) (by kernel_rfl) (fun _ _ _ h => h) (Or.inl ⟨by rfl, ?_⟩) (by assumption) ?_
  rotate_left
  · (intro w hSw; obtain hSw := hSw; (try dsimp only at hSw); go_simp; try (with_reducible rfl))
  (try simp only [Act.put, List.setIfInBounds_toArray, List.set_cons_zero, List.set_cons_succ, List.getElem_toArray, List.getElem_cons_succ, List.getElem_cons_zero])
  refine wpAnyH_ready (rs := [2]) (by kernel_rfl) (by simp) ?_
  refine AllReadyH.cons rfl (fun K hK => ?_) AllReadyH.nil
  go_simp
  (go_at_call 52; refine (HAW.out _ ((hS.below B1).below (Below.refl w1.heap.size w1).drew)).mono ?_)
  rintro e x1 ⟨q1, rfl, oQ1, hb1⟩
  have H1 : Below w1.heap.size w1 x1 := Below.trans (Below.refl w1.heap.size w1).drew (hb1.mono (Below.size (Below.refl w1.heap.size w1).drew))
  refine hK.out _ _ (kept_cell H1 c1 l1) (fun hHeld => ?_)
  clear hK K
  (try simp only [Act.put, List.setIfInBounds_toArray, List.set_cons_zero, List.set_cons_succ, List.getElem_toArray, List.getElem_cons_succ, List.getElem_cons_zero])
  refine wpAnyH_ready (rs := [5]) (by kernel_rfl) (by simp) ?_
  refine AllReadyH.cons rfl (fun K hK => ?_) AllReadyH.nil
  go_simp
  (go_at_call 41; refine (HCH.out _ ((hS.below B1).below H1)).mono ?_)
  rintro e x2 ⟨gx2, g2, nF2, cF2, rfl, oX2, oF2, hb2⟩
  have H2 : Below w1.heap.size w1 x2 := Below.trans H1 (hb2.mono (Below.size H1))
  replace oQ1 := oQ1.below hb2
  have hcm2 := chmem_gu HCN.out HCf.out oX2 oF2
  refine hK.out _ _ (kept_cell H2 c1 l1) (fun hHeld => ?_)
  clear hK K
  (try simp only [Act.put, List.setIfInBounds_toArray, List.set_cons_zero, List.set_cons_succ, List.getElem_toArray, List.getElem_cons_succ, List.getElem_cons_zero])
  refine wpAnyH_ready (rs := [6]) (by kernel_rfl) (by simp) ?_
  refine AllReadyH.cons rfl (fun K hK => ?_) AllReadyH.nil
  go_simp
  (go_at_call 40; refine (HCS.out _ gx2 _ ((hS.below B1).below H2) (ints_of_own HU.out oQ1) hcm2).mono ?_)
  rintro e x3 ⟨gs3, rfl, oS3, hb3⟩
  have H3 : Below w1.heap.size w1 x3 := Below.trans H2 (hb3.mono (Below.size H2))
  replace oQ1 := oQ1.below hb3
  replace hcm2 := hcm2.below hb3
  refine hK.out _ _ (kept_cell H3 c1 l1) (fun hHeld => ?_)
  clear hK K
  (try simp only [Act.put, List.setIfInBounds_toArray, List.set_cons_zero, List.set_cons_succ, List.getElem_toArray, List.getElem_cons_succ, List.getElem_cons_zero])
  refine wpAnyH_ready (rs := [7]) (by kernel_rfl) (by simp) ?_
  refine AllReadyH.cons rfl (fun K hK => ?_) AllReadyH.nil
  go_simp
  (go_at_call 51; refine (HGU.out _ _ (oS3.rebase_gu (base' := 0) (Nat.zero_le _))).mono ?_)
  rintro e x4 ⟨vn4, rfl, oN4, hb4⟩
  have H4 : Below w1.heap.size w1 x4 := Below.trans H3 (hb4.mono (Below.size H3))
  replace oQ1 := oQ1.below hb4
  replace hcm2 := hcm2.below hb4
  replace oS3 := oS3.below hb4
  replace oN4 := oN4.rebase (base' := w1.heap.size) (Below.size H3)
  refine hK.out _ _ (kept_cell H4 c1 l1) (fun hHeld => ?_)
  clear hK K
  (try simp only [Act.put, List.setIfInBounds_toArray, List.set_cons_zero, List.set_cons_succ, List.getElem_toArray, List.getElem_cons_succ, List.getElem_cons_zero])
  refine wpAnyH_take (i := 8) (v := ?_) rfl (by kernel_rfl) (by kernel_rfl) (by kernel_rfl) (fun _ _ _ h => h) (Or.inl ⟨by rfl, ?_⟩) (by assumption) ?_
  rotate_left
  · (intro w hSw; obtain hSw := hSw; (try dsimp only at hSw); go_simp; try (with_reducible rfl))
  (try simp only [Act.put, List.setIfInBounds_toArray, List.set_cons_zero, List.set_cons_succ, List.getElem_toArray, List.getElem_cons_succ, List.getElem_cons_zero])
  refine wpAnyH_take (i := 9) (v := ?_) rfl (by kernel_rfl) (by kernel_rfl) (by kernel_rfl) (fun _ _ _ h => h) (Or.inl ⟨by rfl, ?_⟩) (by assumption) ?_
  rotate_left
  · (intro w hSw; obtain hSw := hSw; (try dsimp only at hSw); go_simp; try (with_reducible rfl))
  (try simp only [Act.put, List.setIfInBounds_toArray, List.set_cons_zero, List.set_cons_succ, List.getElem_toArray, List.getElem_cons_succ, List.getElem_cons_zero])
  refine wpAnyH_take (i := 10) (v := ?_) rfl (by kernel_rfl) (by kernel_rfl) (by kernel_rfl) (fun _ _ _ h => h) (Or.inl ⟨by rfl, ?_⟩) (by assumption) ?_
  rotate_left
  · (intro w hSw; obtain hSw := hSw; (try dsimp only at hSw); go_simp; try (with_reducible rfl))
  (try simp only [Act.put, List.setIfInBounds_toArray, List.set_cons_zero, List.set_cons_succ, List.getElem_toArray, List.getElem_cons_succ, List.getElem_cons_zero])
  refine wpAnyH_take (i := 11) (v := ?_) rfl (by kernel_rfl) (by kernel_rfl) (by kernel_rfl) (fun _ _ _ h => h) (Or.inl ⟨by rfl, ?_⟩) (by assumption) ?_
  rotate_left
  · (intro w hSw; obtain hSw := hSw; (try dsimp only at hSw); go_simp; try (with_reducible rfl))
  (try simp only [Act.put, List.setIfInBounds_toArray, List.set_cons_zero, List.set_cons_succ, List.getElem_toArray, List.getElem_cons_succ, List.getElem_cons_zero])
  refine wpAnyH_done (by kernel_rfl) ?_ _
  (try simp only [Act.put, List.setIfInBounds_toArray, List.set_cons_zero, List.set_cons_succ, List.getElem_toArray, List.getElem_cons_succ, List.getElem_cons_zero])
  have Hn : Below w1.heap.size w1 x4 := H4
  have oZ := oN4
  obtain ⟨wZ, hwZ⟩ : ∃ z, z = x4 := ⟨_, rfl⟩
  rw [← hwZ] at Hn oZ ⊢
  clear hwZ hHeld
  have BZ := B1.trans (Hn.mono B1.size)
  have hw1 : w.heap.size ≤ w1.heap.size := B1.size
  go_wp2_with fail
  go_ret2
  exact ⟨_, ret_gu HV.out.2.symm, by rw [HV.out.1]; exact oZ.rebase hw1, BZ⟩

end Go.Proofs.YtpmfedllbiblbaaGreat

namespace Go.Proofs.YtpmfedllbiblbaaGreat
open Go.RowKit Cv
set_option linter.unusedVariables false
set_option linter.unusedSimpArgs false
set_option maxRecDepth 100000

/-- a function value that answers p at the numbers of L, in every world in which what lay below n lies still -/
def PredN (f : Nat) (pre post : Array Value) (p : Int → Bool) (n : Nat) (w : World) (L : List Int) : Prop :=
  ∀ (W : World) (x : Int), Below n w W → x ∈ L → Calls Tryz.prog f (pre.push (.int .i64 x) ++ post) W fun e w' => e = .returned (.bool (p x)) ∧ Below W.heap.size W w'

/-- what DeleteFunc has done with the first j numbers: i of them are kept -/
def DelI (q : Int → Bool) (L R : List Int) (i j : Nat) : Prop :=
  R.length = L.length ∧ i < j ∧ R.take i = (L.take j).filter q ∧ ((L.take j).filter q).length = i ∧ ∀ t, j ≤ t → gi R t = gi L t
end Go.Proofs.YtpmfedllbiblbaaGreat

namespace Go.Proofs
shelf_lay_g Lays8.n4 Nm8 4 at Tryz 90 as Tryz.lgrow
end Go.Proofs
namespace Go.Proofs.YtpmfedllbiblbaaGreat
open Go.RowKit Cv
set_option linter.unusedVariables false
set_option linter.unusedSimpArgs false
set_option maxRecDepth 100000

/-- lists one behind the other, the first k -/
def catTo (L : Nat → List Int) : Nat → List Int
  | 0 => []
  | k + 1 => catTo L k ++ L k
theorem catTo_bd (L : Nat → List Int) (n : Nat) (h : ∀ k, k < n → (L k).length ≤ 65536) (k : Nat) (hk : k ≤ n) : (catTo L k).length ≤ k * 65536 := by
  induction k with
  | zero => simp [catTo]
  | succ k ih => rw [catTo, List.length_append]; have := ih (by omega); have := h k (by omega); omega
theorem catTo_mono (L : Nat → List Int) {k n : Nat} (hk : k ≤ n) : (catTo L k).length ≤ (catTo L n).length := by
  induction n with
  | zero => have : k = 0 := by omega
            subst this; exact Nat.le_refl _
  | succ n ih =>
    by_cases e : k = n + 1
    · subst e; exact Nat.le_refl _
    · have := ih (by omega); rw [catTo, List.length_append]; omega

theorem growNil_any (n : Nat) (hn0 : 0 < n) (hn : n ≤ 16777216) (w : World) :
    Calls Tryz.prog 90 #[.slice none 0 0, .int .i64 n] w fun e w' => ∃ c, e = .returned (.slice (some ⟨w.heap.size, 0, none⟩) 0 c) ∧ OwnInts w' w.heap.size (.slice (some ⟨w.heap.size, 0, none⟩) 0 c) [] ∧ Below w.heap.size w w' := by
  obtain ⟨i0, hi, hz0, hz1, hz2⟩ := info_parts infoI64
  have h : Calls Tryz.prog 90 #[.slice none 0 0, .int .i64 n] w fun e w' => e = .returned (.slice (some ⟨w.heap.size, 0, none⟩) 0 (grownCap w (0 + n) 0 2)) ∧
      w' = w.drew.alloc (.cells (([] : List Value).toArray ++ Builtin.zeroCells (Value.int .i64 0).cells (0 + n - 0) ++ Builtin.zeroCells (Value.int .i64 0).cells (grownCap w (0 + n) 0 2 - (0 + n))) 2) :=
    Any8.slices_Grow_grow Tryz.lgrow i0 (.int .i64 0) hi hz0 (by rw [hz1]; decide) none 0 0 n [] w (Nat.le_refl _) (by omega) (by rw [hz2]; omega) (by omega) (by simp) (fun _ => rfl) (fun a ha => by simp at ha)
  rw [Nat.zero_add] at h
  refine h.mono ?_
  rintro e w' ⟨rfl, rfl⟩
  refine ⟨_, rfl, ?_, (Below.refl _ _).drew.alloc (Nat.le_refl _) _⟩
  have g1 := grownCap_ge w n 0 2
  have g2 := grownCap_le_maxLen w n 0 2 (by unfold maxLen; omega)
  refine ⟨by simp, .inr ⟨w.heap.size, _, _, rfl, Nat.le_refl _, heap_alloc_last w.drew _, Nat.zero_le _, g2, ?_, by simp⟩⟩
  simp [Builtin.zeroCells, Value.cells]
  omega
theorem own_stays {w : World} {base m : Nat} {v v' : Value} {L : List Int} (h : OwnInts w base v' L) (hnil : v' = .slice none 0 0 ↔ v = .slice none 0 0 ∧ m = 0) (hv : v ≠ .slice none 0 0) : ∃ g c, v' = .slice (some ⟨g, 0, none⟩) L.length c := by
  rcases h.2 with ⟨h1, _⟩ | ⟨g, c, cur, h1, _⟩
  · exact absurd (hnil.1 h1).1 hv
  · exact ⟨g, c, h1⟩

set_option maxHeartbeats 1000000 in
theorem concat_n (b n : Nat) (hn8 : n ≤ 8) (A : Nat → Addr) (L : Nat → List Int) (K : Nat → Nat) (w : World) (hb : b < w.heap.size)
    (hc : ∀ k, k < n → w.cell? ⟨b, k, none⟩ = some (.slice (some (A k)) (L k).length (K k))) (hL : ∀ k, k < n → Ints w (some (A k)) (L k) ∧ (L k).length ≤ 65536) (hpos : 0 < (catTo L n).length) :
    Calls Tryz.prog 47 #[.slice (some ⟨b, 0, none⟩) n n] w fun e w' => ∃ g c, e = .returned (.slice (some ⟨g, 0, none⟩) (catTo L n).length c) ∧ OwnInts w' w.heap.size (.slice (some ⟨g, 0, none⟩) (catTo L n).length c) (catTo L n) ∧ Below w.heap.size w w' := by
  have HL := Lib.hid hL
  have HC := Lib.hid hc
  have HB := Lib.hid (catTo_bd L n fun k hk => (hL k hk).2)
  have hbd := HB.out n (Nat.le_refl _)
  clear hL hc
  go_enter Tryz.func47, Tryz.ntmps47
  go_wp2_with fail
  go_loopw [3, 11] (fun sz i wr => ∃ k : Nat, k ≤ n ∧ i = .int .i64 k ∧ sz = .int .i64 (catTo L k).length ∧ wr = w) (fun _ i _ => n - (intOf i).toNat)
  case atStart => exact ⟨0, Nat.zero_le _, rfl, rfl, rfl⟩
  case round =>
    obtain ⟨k, hk, rfl, rfl, rfl⟩ := hrel
    by_cases hlt : k < n
    · have hck := HC.out k hlt
      have hq := catTo_mono L (k := k + 1) (n := n) (by omega)
      have hqe : (catTo L (k + 1)).length = (catTo L k).length + (L k).length := by rw [catTo, List.length_append]
      obtain ⟨Q, hQ⟩ : ∃ Q, Q = (catTo L (k + 1)).length := ⟨_, rfl⟩
      obtain ⟨P, hP⟩ : ∃ P, P = (catTo L k).length := ⟨_, rfl⟩
      obtain ⟨m, hm⟩ : ∃ m, m = (L k).length := ⟨_, rfl⟩
      obtain ⟨a, ha⟩ : ∃ a, a = A k := ⟨_, rfl⟩
      obtain ⟨q, hq2⟩ : ∃ q, q = K k := ⟨_, rfl⟩
      rw [← ha, ← hm, ← hq2] at hck
      rw [← hQ, ← hP, ← hm] at hqe
      rw [← hQ] at hq
      rw [← hP]
      have HQ := Lib.hid hQ
      have E1 : IntKind.i64.wrap ((P : Int) + (m : Int)) = (Q : Int) := by rw [IntWalk.i64_in _ ⟨by omega, by omega⟩]; omega
      have d1 : decide ((Q : Int) < 0) = false := by simp
      clear hQ hP hm ha hq2 hqe hq
      go_wp2_with fail
      go_roundw
      case rel => exact ⟨k + 1, by omega, by go_num, by rw [HQ.out], by first | rfl | trivial⟩
      case measure => simp [intOf]; omega
    · have ek : k = n := by omega
      subst ek
      obtain ⟨T, hT⟩ : ∃ T, T = (catTo L k).length := ⟨_, rfl⟩
      rw [← hT] at hpos hbd ⊢
      have HT := Lib.hid hT
      clear hT
      obtain ⟨W0, rfl⟩ : ∃ W0, W0 = wr := ⟨_, rfl⟩
      go_wp2_with fail
      refine (growNil_any T hpos (by omega) _).mono ?_
      rintro e w1 ⟨c0, rfl, own, hb1⟩
      go_wp2_with fail
      go_loopw [6, 27] (fun vs i wq => ∃ (j g c : Nat), j ≤ k ∧ i = .int .i64 j ∧ vs = .slice (some ⟨g, 0, none⟩) (catTo L j).length c ∧ OwnInts wq W0.heap.size (.slice (some ⟨g, 0, none⟩) (catTo L j).length c) (catTo L j) ∧ Below W0.heap.size W0 wq) (fun _ i _ => k - (intOf i).toNat)
      case atStart => exact ⟨0, W0.heap.size, c0, Nat.zero_le _, rfl, rfl, own, hb1⟩
      case round =>
        clear own hb1
        obtain ⟨j, g, c, hj, rfl, rfl, own, B⟩ := hrel
        by_cases hlt2 : j < k
        · have hck := kept_cell B (HC.out j hlt2) hb
          obtain ⟨hI, hlI⟩ := HL.out j hlt2
          replace hI := hI.below B
          have hq := catTo_mono L (k := j + 1) (n := k) (by omega)
          have hqe : (catTo L (j + 1)).length = (catTo L j).length + (L j).length := by rw [catTo, List.length_append]
          rw [← HT.out] at hq
          obtain ⟨P, hP⟩ : ∃ P, P = (catTo L j).length := ⟨_, rfl⟩
          obtain ⟨m, hm⟩ : ∃ m, m = (L j).length := ⟨_, rfl⟩
          obtain ⟨a, ha⟩ : ∃ a, a = A j := ⟨_, rfl⟩
          obtain ⟨q, hq2⟩ : ∃ q, q = K j := ⟨_, rfl⟩
          rw [← ha, ← hm, ← hq2] at hck
          rw [← ha] at hI
          rw [← hP, ← hm] at hqe
          rw [← hP] at own ⊢
          have HP := Lib.hid hP
          have HM := Lib.hid hm
          have hs := B.size
          have e1 : Hid (catTo L j ++ L j = catTo L (j + 1)) := Lib.hid rfl
          have hlen : (catTo L j).length + m ≤ 1073741824 := by rw [← hP]; omega
          clear hP hm ha hq2 hqe
          go_wp2_with (at_builtin; refine wpList_append_ints rfl _ _ rfl W0.heap.size _ _ rfl own a (L j) m q HM.out rfl hI hlen hs ?_; intro v' w4 hown' hgrow hnil; have hb4 := grown_below B hs hgrow own (Nat.le_refl _); rw [e1.out] at hown'; obtain ⟨g2, c2, hv⟩ := own_stays hown' hnil (fun h => absurd (Value.slice.inj h).1 (by simp)); obtain ⟨P2, hP2⟩ : ∃ P, P = (catTo L (j + 1)).length := ⟨_, rfl⟩; rw [← hP2] at hv; subst hv; replace hP2 := Lib.hid hP2)
          go_roundw
          case rel => exact ⟨j + 1, g2, c2, by omega, by go_num, by rw [hP2.out], by rw [← hP2.out]; exact hown', hb4⟩
          case measure => simp [intOf]; omega
        · have ej : j = k := by omega
          subst ej
          rw [← HT.out] at own ⊢
          go_wp2_with fail
          go_ret
          exact ⟨g, c, by rw [← HT.out]; rfl, by rw [← HT.out]; exact own, B⟩

end Go.Proofs.YtpmfedllbiblbaaGreat
