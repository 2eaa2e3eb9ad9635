/-
  The program's LeanRows. By an AI agent.
-/
import Derived.Test.YtodbdcanhefcaaaLrs10
import Derived.Test.YtodbdcanhefcaaaChc10
import Derived.Test.YtodbdcanhefcaaaRer10
import Derived.Test.YtodbdcanhefcaaaNed10
namespace Go.Proofs.Ytodbdcanhefcaaa
open Go.RowKit Cv
set_option linter.unusedVariables false
set_option linter.unusedSimpArgs false
set_option maxRecDepth 100000

theorem OwnSets.rebase10 {w : World} {base base' : Nat} {v : Value} {ps : List (Nat → Bool)} (h : OwnSets w base v ps) (hb : base' ≤ base) : OwnSets w base' v ps := by
  obtain ⟨h1, h2⟩ := h
  refine ⟨h1, ?_⟩
  rcases h2 with h2 | ⟨g, cap, cur, hv, hg, r⟩
  · exact Or.inl h2
  · exact Or.inr ⟨g, cap, cur, hv, by omega, r⟩
theorem chmem_of {w : World} {ao : Option Addr} {n cap gx g nF cF base base' N : Nat} {C : List (List Int)} {t : Nat} (hN : N = C.length) (hC : ∀ c, c ∈ C → c.length = 2 * t) (hX : OwnXs w base (.slice (some ⟨gx, 0, none⟩) N N) (chL ao n cap g t N)) (hF : OwnInts w base' (.slice (some ⟨g, 0, none⟩) nF cF) C.flatten) : ChMem w ao n cap gx C t :=
  ChMem.all hN hC hX hF fun k j hk hj => ⟨by
    rw [flat_lenC hC]
    have := Nat.mul_le_mul_right (2 * t) (show k + 1 ≤ C.length from hk)
    rw [Nat.succ_mul] at this; omega, gi_flat k j hC hk hj⟩
/-- whether one of the rows has the choice -/
def anyL (S L c : List Int) : Bool := L.any fun x => hasC (digs S x) c
theorem anyL_snoc (S L c : List Int) (x : Int) : anyL S (L ++ [x]) c = (anyL S L c || hasC (digs S x) c) := by simp [anyL]
theorem anyL_app (S L M c : List Int) : anyL S (L ++ M) c = (anyL S L c || anyL S M c) := by simp [anyL]
theorem msTo_anyL (S : List Int) (C : List (List Int)) (L : List Int) (k : Nat) (hk : k ≤ L.length) : msTo S C L k = C.filter fun c => !anyL S (L.take k) c := by
  induction k with
  | zero => exact (List.filter_eq_self.2 fun _ _ => rfl).symm
  | succ k ih =>
    rw [msTo, ih (by omega), List.filter_filter]
    congr 1
    funext c
    have e : L.take (k + 1) = L.take k ++ [gi L k] := by
      rw [List.take_add_one, List.getElem?_eq_getElem (by omega), gi_lt _ _ (by omega)]; rfl
    rw [e, anyL_snoc, Bool.not_or, Bool.and_comm]
theorem filt_lt {α : Type} (p q : α → Bool) (C : List α) : (C.filter fun c => p c && q c).length < (C.filter p).length ↔ ∃ c, c ∈ C ∧ p c = true ∧ q c = false := by
  have hle : ∀ C : List α, (C.filter fun c => p c && q c).length ≤ (C.filter p).length := fun C => by
    induction C with
    | nil => simp
    | cons c C ih =>
      rw [List.filter_cons, List.filter_cons]
      rcases hp : p c with _ | _ <;> rcases hq : q c with _ | _ <;> simp <;> omega
  induction C with
  | nil => simp
  | cons c C ih =>
    have h := hle C
    rw [List.filter_cons, List.filter_cons]
    rcases hp : p c with _ | _
    · simp [hp, ih]
    · rcases hq : q c with _ | _
      · simp [hp, hq]; omega
      · simp [hp, hq, ih]
theorem union_ch (S : List Int) (C : List (List Int)) (L : List Int) (u : Nat) : unionL (chSets S C L) u = (decide (u < C.length) && anyL S L (rr C u)) := by
  induction L with
  | nil => simp [unionL, chSets, anyL]
  | cons x L ih =>
    unfold unionL chSets anyL at ih ⊢
    rw [List.map_cons, List.any_cons, List.any_cons, ih, chP]
    cases decide (u < C.length) <;> simp
theorem behU_ch (S : List Int) (C : List (List Int)) (R : List Int) (k u : Nat) : behU (chSets S C R) k u = (decide (u < C.length) && anyL S (R.drop (k + 1)) (rr C u)) := by
  unfold behU
  rw [show (chSets S C R).drop (k + 1) = chSets S C (R.drop (k + 1)) by unfold chSets; rw [List.map_drop]]
  exact union_ch S C _ u
theorem out_lr (S : List Int) (C : List (List Int)) (R : List Int) (hC : C.length ≤ 1024) (k : Nat) (hk : k ≤ R.length) : outT (chSets S C R) R true k = lrTo S C R k ∧ befT (chSets S C R) true k = fun u => decide (u < C.length) && anyL S (lrTo S C R k) (rr C u) := by
  induction k with
  | zero => exact ⟨rfl, by funext u; simp [befT, lrTo, anyL]⟩
  | succ k ih =>
    obtain ⟨i1, i2⟩ := ih (by omega)
    have hP := pAt_chSets S C R k (by omega)
    have hN : needS (chSets S C R) (befT (chSets S C R) true k) k = true ↔ (msTo S C (lrTo S C R k ++ R.drop (k + 1) ++ [gi R k]) ((lrTo S C R k ++ R.drop (k + 1)).length + 1)).length < (msTo S C (lrTo S C R k ++ R.drop (k + 1)) (lrTo S C R k ++ R.drop (k + 1)).length).length := by
      obtain ⟨O, hO⟩ : ∃ O, O = lrTo S C R k ++ R.drop (k + 1) := ⟨_, rfl⟩
      have hb : ∀ u, (befT (chSets S C R) true k u || behU (chSets S C R) k u) = (decide (u < C.length) && anyL S O (rr C u)) := fun u => by
        simp only [i2, behU_ch, hO, anyL_app]; cases decide (u < C.length) <;> simp
      rw [← hO, msTo_anyL S C O O.length (Nat.le_refl _), msTo_anyL S C (O ++ [gi R k]) (O.length + 1) (by simp), List.take_length, List.take_of_length_le (by simp)]
      have e : (fun c => !anyL S (O ++ [gi R k]) c) = fun c => (!anyL S O c) && !hasC (digs S (gi R k)) c := by funext c; rw [anyL_snoc, Bool.not_or]
      rw [e, filt_lt, needS, hP]
      simp only [hb]
      rw [Bool.not_eq_true', ← Bool.not_eq_true, eqS_iff]
      constructor
      · intro h
        rw [Classical.not_forall] at h
        obtain ⟨u, hu⟩ := h
        rw [Classical.not_imp] at hu
        obtain ⟨_, hu⟩ := hu
        unfold chP at hu
        have hlt : u < C.length := by
          by_cases e : u < C.length
          · exact e
          · simp [e] at hu
        refine ⟨rr C u, ?_, ?_, ?_⟩
        · unfold rr; simp [List.getD, List.getElem?_eq_getElem hlt]
        · rcases h1 : anyL S O (rr C u) with _ | _
          · rfl
          · simp [hlt, h1] at hu
        · rcases h1 : hasC (digs S (gi R k)) (rr C u) with _ | _
          · simp [hlt, h1] at hu
          · rfl
      · rintro ⟨c, hc, h1, h2⟩ h
        obtain ⟨u, hu, rfl⟩ := List.getElem_of_mem hc
        have h3 := h u (by omega)
        have er : rr C u = C[u] := by simp [rr, List.getD, List.getElem?_eq_getElem hu]
        unfold chP at h3
        rw [er] at h3
        simp only [Bool.not_eq_true', Bool.not_eq_false'] at h1 h2
        simp [hu, h1, h2] at h3
    by_cases h : needS (chSets S C R) (befT (chSets S C R) true k) k = true
    · have h' := hN.1 h
      refine ⟨by rw [outT, if_pos h, i1, lrTo, if_pos h'], ?_⟩
      rw [befT, lrTo, if_pos h', if_pos (by rw [h]; rfl)]
      funext u
      simp only [i2, hP, chP, anyL_snoc]; cases decide (u < C.length) <;> simp
    · have h' := fun e => h (hN.2 e)
      refine ⟨by rw [outT, if_neg h, i1, lrTo, if_neg h'], ?_⟩
      rw [befT, lrTo, if_neg h', if_neg (by simpa using h)]
      exact i2

set_option maxHeartbeats 4000000 in
theorem impl_LeanRows (ao : Option Addr) (S : List Int) (cap : Nat) (hn : S.length ≤ 4294967296) (ar : Option Addr) (R : List Int) (capr : Nat) (hnr : R.length ≤ 4294967296) (hcap : R.length ≤ capr) (t : Int) (ht : -9223372036854775808 ≤ t ∧ t ≤ 9223372036854775807) (w : World) (hS : Ints w ao S) (hRI : Ints w ar R) :
    Calls Try.prog 40 #[.agg #[.slice ao S.length cap], .slice ar R.length capr, .int .i64 t] w fun e w' => ∃ v, e = .returned (.tuple #[v, .int .i64 (eR10 S R t)]) ∧ OwnInts w' w.heap.size v (vLr S R t) ∧ Below w.heap.size w w' := by
  have B0 : Below w.heap.size w (w.alloc (.cells #[.slice ao S.length cap] 28)) := by go_grown
  have c0 := cell_new w (.slice ao S.length cap) 28
  have l0 := lt_alloc w (.cells #[.slice ao S.length cap] 28)
  have hc := rowsError_any ao S cap hn ar R capr hnr t _ (hS.below B0) (hRI.below B0)
  by_cases he : eR10 S R t = 0
  case neg =>
    have HV : Hid (vLr S R t = []) := Lib.hid (by unfold vLr; rw [if_neg he])
    obtain ⟨E, hE⟩ : ∃ E, E = eR10 S R t := ⟨_, rfl⟩
    rw [← hE] at hc he ⊢
    have hb : (E != 0) = true := by simpa using he
    clear hE he
    go_enter Try.func40, Try.ntmps40
    go_wp2_with fail
    refine hc.mono ?_
    rintro e w1 ⟨rfl, hb1⟩
    have B1 := B0.trans (hb1.mono B0.size)
    go_wp2_with fail
    go_ret2
    exact ⟨_, rfl, by rw [HV.out]; exact World.ownsRow_nil _ _ _ _, B1⟩
  obtain ⟨hSp, hRb, hR2, g1, g2, g3⟩ := eR10_zero he
  have HSp := Lib.hid hSp
  have HV : Hid (vLr S R t = lrTo S (allC S t.toNat) R R.length) := Lib.hid (by unfold vLr; rw [if_pos he])
  have HE := Lib.hid he
  rw [he] at hc
  clear he
  obtain ⟨t, rfl⟩ : ∃ n : Nat, t = n := ⟨t.toNat, by omega⟩
  rw [Int.toNat_natCast] at HV
  have ht1 : 0 < t := by omega
  have ht3 : t ≤ 3 := by omega
  have hC832 := allC_le hSp ht1 ht3
  have HCc : Hid (IsCs S.length t (allC S t)) := Lib.hid (allC_cs t)
  have HCf : Hid (∀ c, c ∈ allC S t → c.length = 2 * t) := Lib.hid (allC_len2 S t)
  have HCH := Lib.hid fun w hS => choicesOf_any ao S cap hSp t ht1 ht3 w hS
  obtain ⟨C, hC⟩ : ∃ C, C = allC S t := ⟨_, rfl⟩
  rw [← hC] at HV hC832 HCc HCf HCH
  have HCS := Lib.hid fun gx w hS hRI hCM => choiceSets_any ao S cap hSp ar R capr (by omega) hRb gx C.length S.length cap t ao C ht1 ht3 (by omega) HCc.out w hS hRI hCM
  rw [← (out_lr S C R (by omega) R.length (Nat.le_refl _)).1] at HV
  obtain ⟨NC, hNC⟩ : ∃ NC, NC = C.length := ⟨_, rfl⟩
  have HCN := Lib.hid hNC
  rw [← hNC] at HCH HCS hC832
  have HPl : Hid ((chSets S C R).length = R.length) := Lib.hid (chSets_len S C R)
  obtain ⟨PS, hPS⟩ : ∃ PS, PS = chSets S C R := ⟨_, rfl⟩
  rw [← hPS] at HCS HPl HV
  have HNE : Hid (∀ (g : Nat) (W : World), Ints W ar R → OwnSets W 0 (.slice (some ⟨g, 0, none⟩) R.length R.length) PS → Calls Try.prog 76 #[.slice ar R.length capr, .slice (some ⟨g, 0, none⟩) R.length R.length, .bool true] W fun e w' => ∃ v, e = .returned v ∧ OwnInts w' W.heap.size v (outT PS R true R.length) ∧ Below W.heap.size W w') := Lib.hid fun g W h1 h2 => neededOf_any ar R capr (by omega) 0 _ R.length PS HPl.out true W (Nat.zero_le _) h1 h2
  obtain ⟨OUT, hOUT⟩ : ∃ OUT, OUT = outT PS R true R.length := ⟨_, rfl⟩
  rw [← hOUT] at HNE HV
  obtain ⟨Kn, hKn⟩ : ∃ Kn, Kn = R.length := ⟨_, rfl⟩
  rw [← hKn] at hR2 hcap hc HCS HNE ⊢
  clear hSp hC hKn hNC hPS hRb hOUT HPl
  go_enter Try.func40, Try.ntmps40
  go_wp2_with fail
  refine hc.mono ?_
  rintro e w1 ⟨rfl, hb1⟩
  have c1 := kept_cell hb1 c0 l0
  have l1 := lt_of_below hb1 l0
  have B1 := B0.trans (hb1.mono B0.size)
  clear hc c0 l0 B0 hb1
  go_wp2_with fail
  refine wp_region_held_drew (S := fun w' => w'.cell? ⟨w.heap.size, 0, none⟩ = some (.slice ao S.length cap)) (by kernel_rfl) (c1) (fun hHeld => ?_)
  refine wpAnyH_take (i := 0) (v := ?_) rfl (by kernel_rfl) (by kernel_rfl) (by kernel_rfl) (fun _ _ _ h => h) (Or.inl ⟨by rfl, ?_⟩) (by assumption) ?_
  rotate_left
  · (intro w hSw; obtain hSw := hSw; (try dsimp only at hSw); go_simp; try (with_reducible rfl))
  (try simp only [Act.put, List.setIfInBounds_toArray, List.set_cons_zero, List.set_cons_succ, List.getElem_toArray, List.getElem_cons_succ, List.getElem_cons_zero])
  refine wpAnyH_take (i := 1) (v := ?_) rfl (by kernel_rfl) (by kernel_rfl) (by kernel_rfl) (fun _ _ _ h => h) (Or.inl ⟨by rfl, ?_⟩) (by assumption) ?_
  rotate_left
  · (intro w hSw; obtain hSw := hSw; (try dsimp only at hSw); go_simp; try (with_reducible rfl))
  (try simp only [Act.put, List.setIfInBounds_toArray, List.set_cons_zero, List.set_cons_succ, List.getElem_toArray, List.getElem_cons_succ, List.getElem_cons_zero])
  refine wpAnyH_take (i := 2) (v := ?_) rfl (by kernel_rfl) (by kernel_rfl) (by kernel_rfl) (fun _ _ _ h => h) (Or.inl ⟨by rfl, ?_⟩) (by assumption) ?_
  rotate_left
  · (intro w hSw; obtain hSw := hSw; (try dsimp only at hSw); go_simp; try (with_reducible rfl))
  (try simp only [Act.put, List.setIfInBounds_toArray, List.set_cons_zero, List.set_cons_succ, List.getElem_toArray, List.getElem_cons_succ, List.getElem_cons_zero])
  refine wpAnyH_take (i := 3) (v := ?_) rfl (by kernel_rfl) (by kernel_rfl) (by kernel_rfl) (fun _ _ _ h => h) (Or.inl ⟨by rfl, ?_⟩) (by assumption) ?_
  rotate_left
  · (intro w hSw; obtain hSw := hSw; (try dsimp only at hSw); go_simp; try (with_reducible rfl))
  (try simp only [Act.put, List.setIfInBounds_toArray, List.set_cons_zero, List.set_cons_succ, List.getElem_toArray, List.getElem_cons_succ, List.getElem_cons_zero])
  refine wpAnyH_take (i := 4) (v := ?_) rfl (by kernel_rfl) (by kernel_rfl) (by kernel_rfl) (fun _ _ _ h => h) (Or.inl ⟨by rfl, ?_⟩) (by assumption) ?_
  rotate_left
  · (intro w hSw; obtain hSw := hSw; (try dsimp only at hSw); go_simp; try (with_reducible rfl))
  (try simp only [Act.put, List.setIfInBounds_toArray, List.set_cons_zero, List.set_cons_succ, List.getElem_toArray, List.getElem_cons_succ, List.getElem_cons_zero])
  refine wpAnyH_ready (rs := [5]) (by kernel_rfl) (by simp) ?_
  refine AllReadyH.cons rfl (fun K hK => ?_) AllReadyH.nil
  go_simp
  (go_at_call 74; refine (HCH.out _ ((hS.below B1).below (Below.refl w1.heap.size w1).drew)).mono ?_)
  rintro e x1 ⟨gx1, g1, nF1, cF1, rfl, oX1, oF1, hb1⟩
  have H1 : Below w1.heap.size w1 x1 := Below.trans (Below.refl w1.heap.size w1).drew (hb1.mono (Below.size (Below.refl w1.heap.size w1).drew))
  have hcm1 := chmem_of HCN.out HCf.out oX1 oF1
  refine hK.out _ _ (kept_cell H1 c1 l1) (fun hHeld => ?_)
  clear hK K
  (try simp only [Act.put, List.setIfInBounds_toArray, List.set_cons_zero, List.set_cons_succ, List.getElem_toArray, List.getElem_cons_succ, List.getElem_cons_zero])
  refine wpAnyH_ready (rs := [6]) (by kernel_rfl) (by simp) ?_
  refine AllReadyH.cons rfl (fun K hK => ?_) AllReadyH.nil
  go_simp
  (go_at_call 72; refine (HCS.out gx1 _ ((hS.below B1).below H1) ((hRI.below B1).below H1) hcm1).mono ?_)
  rintro e x2 ⟨gs2, rfl, oS2, hb2⟩
  have H2 : Below w1.heap.size w1 x2 := Below.trans H1 (hb2.mono (Below.size H1))
  replace hcm1 := hcm1.below hb2
  refine hK.out _ _ (kept_cell H2 c1 l1) (fun hHeld => ?_)
  clear hK K
  (try simp only [Act.put, List.setIfInBounds_toArray, List.set_cons_zero, List.set_cons_succ, List.getElem_toArray, List.getElem_cons_succ, List.getElem_cons_zero])
  refine wpAnyH_ready (rs := [7]) (by kernel_rfl) (by simp) ?_
  refine AllReadyH.cons rfl (fun K hK => ?_) AllReadyH.nil
  go_simp
  (go_at_call 76; refine (HNE.out _ _ ((hRI.below B1).below H2) (oS2.rebase10 (base' := 0) (Nat.zero_le _))).mono ?_)
  rintro e x3 ⟨vn3, rfl, oN3, hb3⟩
  have H3 : Below w1.heap.size w1 x3 := Below.trans H2 (hb3.mono (Below.size H2))
  replace hcm1 := hcm1.below hb3
  replace oS2 := oS2.below hb3
  replace oN3 := oN3.rebase (base' := w1.heap.size) (Below.size H2)
  refine hK.out _ _ (kept_cell H3 c1 l1) (fun hHeld => ?_)
  clear hK K
  (try simp only [Act.put, List.setIfInBounds_toArray, List.set_cons_zero, List.set_cons_succ, List.getElem_toArray, List.getElem_cons_succ, List.getElem_cons_zero])
  refine wpAnyH_take (i := 8) (v := ?_) rfl (by kernel_rfl) (by kernel_rfl) (by kernel_rfl) (fun _ _ _ h => h) (Or.inl ⟨by rfl, ?_⟩) (by assumption) ?_
  rotate_left
  · (intro w hSw; obtain hSw := hSw; (try dsimp only at hSw); go_simp; try (with_reducible rfl))
  (try simp only [Act.put, List.setIfInBounds_toArray, List.set_cons_zero, List.set_cons_succ, List.getElem_toArray, List.getElem_cons_succ, List.getElem_cons_zero])
  refine wpAnyH_take (i := 9) (v := ?_) rfl (by kernel_rfl) (by kernel_rfl) (by kernel_rfl) (fun _ _ _ h => h) (Or.inl ⟨by rfl, ?_⟩) (by assumption) ?_
  rotate_left
  · (intro w hSw; obtain hSw := hSw; (try dsimp only at hSw); go_simp; try (with_reducible rfl))
  (try simp only [Act.put, List.setIfInBounds_toArray, List.set_cons_zero, List.set_cons_succ, List.getElem_toArray, List.getElem_cons_succ, List.getElem_cons_zero])
  refine wpAnyH_done (by kernel_rfl) ?_ _
  (try simp only [Act.put, List.setIfInBounds_toArray, List.set_cons_zero, List.set_cons_succ, List.getElem_toArray, List.getElem_cons_succ, List.getElem_cons_zero])
  have Hn : Below w1.heap.size w1 x3 := H3
  have oZ := oN3
  obtain ⟨wZ, hwZ⟩ : ∃ z, z = x3 := ⟨_, rfl⟩
  rw [← hwZ] at Hn oZ ⊢
  clear hwZ hHeld
  have BZ := B1.trans (Hn.mono B1.size)
  have hw1 : w.heap.size ≤ w1.heap.size := B1.size
  go_wp2_with fail
  go_ret2
  exact ⟨_, ret_vL HE.out.symm, by rw [HV.out]; exact oZ.rebase hw1, BZ⟩

end Go.Proofs.Ytodbdcanhefcaaa
