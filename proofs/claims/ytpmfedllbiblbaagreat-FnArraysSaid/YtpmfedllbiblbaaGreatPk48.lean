/-
  Texts put together: Lri10, Mic10. By an AI agent.
-/
import Derived.Test.YtpmfedllbiblbaaGreatPkLrs10
import Derived.Test.YtpmfedllbiblbaaGreatPkChc10
import Derived.Test.YtpmfedllbiblbaaGreatPkRer10
import Derived.Test.YtpmfedllbiblbaaGreatPkNed10
import Derived.Test.YtpmfedllbiblbaaGreatPkChoA
import Derived.Test.YtpmfedllbiblbaaGreatPk37
import Derived.Test.YtpmfedllbiblbaaGreatPk39
import Derived.Great.BuildSlice
namespace Go.Proofs.YtpmfedllbiblbaaGreat
open Go.RowKit Cv
set_option linter.unusedVariables false
set_option linter.unusedSimpArgs false
set_option maxRecDepth 100000

theorem OwnSets.rebase10L {w : World} {base base' : Nat} {v : Value} {ps : List (Nat → Bool)} (h : OwnSets w base v ps) (hb : base' ≤ base) : OwnSets w base' v ps := by
  obtain ⟨h1, h2⟩ := h
  refine ⟨h1, ?_⟩
  rcases h2 with h2 | ⟨g, cap, cur, hv, hg, r⟩
  · exact Or.inl h2
  · exact Or.inr ⟨g, cap, cur, hv, by omega, r⟩
theorem chmem_ofL {w : World} {ao : Option Addr} {n cap gx g nF cF base base' N : Nat} {C : List (List Int)} {t : Nat} (hN : N = C.length) (hC : ∀ c, c ∈ C → c.length = 2 * t) (hX : OwnXs w base (.slice (some ⟨gx, 0, none⟩) N N) (chL ao n cap g t N)) (hF : OwnInts w base' (.slice (some ⟨g, 0, none⟩) nF cF) C.flatten) : ChMem w ao n cap gx C t :=
  ChMem.all hN hC hX hF fun k j hk hj => ⟨by
    rw [flat_lenC hC]
    have := Nat.mul_le_mul_right (2 * t) (show k + 1 ≤ C.length from hk)
    rw [Nat.succ_mul] at this; omega, gi_flat k j hC hk hj⟩
/-- whether one of the rows has the choice -/
def anyL (S L c : List Int) : Bool := L.any fun x => hasC (digs S x) c
theorem anyL_snoc (S L c : List Int) (x : Int) : anyL S (L ++ [x]) c = (anyL S L c || hasC (digs S x) c) := by simp [anyL]
theorem anyL_app (S L M c : List Int) : anyL S (L ++ M) c = (anyL S L c || anyL S M c) := by simp [anyL]
theorem msTo_anyL (S : List Int) (C : List (List Int)) (L : List Int) (k : Nat) (hk : k ≤ L.length) : msTo S C L k = C.filter fun c => !anyL S (L.take k) c := by
  induction k with
  | zero => exact (List.filter_eq_self.2 fun _ _ => rfl).symm
  | succ k ih =>
    rw [msTo, ih (by omega), List.filter_filter]
    congr 1
    funext c
    have e : L.take (k + 1) = L.take k ++ [gi L k] := by
      rw [List.take_add_one, List.getElem?_eq_getElem (by omega), gi_lt _ _ (by omega)]; rfl
    rw [e, anyL_snoc, Bool.not_or, Bool.and_comm]
theorem filt_lt {α : Type} (p q : α → Bool) (C : List α) : (C.filter fun c => p c && q c).length < (C.filter p).length ↔ ∃ c, c ∈ C ∧ p c = true ∧ q c = false := by
  have hle : ∀ C : List α, (C.filter fun c => p c && q c).length ≤ (C.filter p).length := fun C => by
    induction C with
    | nil => simp
    | cons c C ih =>
      rw [List.filter_cons, List.filter_cons]
      rcases hp : p c with _ | _ <;> rcases hq : q c with _ | _ <;> simp <;> omega
  induction C with
  | nil => simp
  | cons c C ih =>
    have h := hle C
    rw [List.filter_cons, List.filter_cons]
    rcases hp : p c with _ | _
    · simp [hp, ih]
    · rcases hq : q c with _ | _
      · simp [hp, hq]; omega
      · simp [hp, hq, ih]
theorem union_ch (S : List Int) (C : List (List Int)) (L : List Int) (u : Nat) : unionL (chSets S C L) u = (decide (u < C.length) && anyL S L (rr C u)) := by
  induction L with
  | nil => simp [unionL, chSets, anyL]
  | cons x L ih =>
    unfold unionL chSets anyL at ih ⊢
    rw [List.map_cons, List.any_cons, List.any_cons, ih, chP]
    cases decide (u < C.length) <;> simp
theorem behU_ch (S : List Int) (C : List (List Int)) (R : List Int) (k u : Nat) : behU (chSets S C R) k u = (decide (u < C.length) && anyL S (R.drop (k + 1)) (rr C u)) := by
  unfold behU
  rw [show (chSets S C R).drop (k + 1) = chSets S C (R.drop (k + 1)) by unfold chSets; rw [List.map_drop]]
  exact union_ch S C _ u
theorem out_lr (S : List Int) (C : List (List Int)) (R : List Int) (hC : C.length ≤ 1024) (k : Nat) (hk : k ≤ R.length) : outT (chSets S C R) R true k = lrTo S C R k ∧ befT (chSets S C R) true k = fun u => decide (u < C.length) && anyL S (lrTo S C R k) (rr C u) := by
  induction k with
  | zero => exact ⟨rfl, by funext u; simp [befT, lrTo, anyL]⟩
  | succ k ih =>
    obtain ⟨i1, i2⟩ := ih (by omega)
    have hP := pAt_chSets S C R k (by omega)
    have hN : needS (chSets S C R) (befT (chSets S C R) true k) k = true ↔ (msTo S C (lrTo S C R k ++ R.drop (k + 1) ++ [gi R k]) ((lrTo S C R k ++ R.drop (k + 1)).length + 1)).length < (msTo S C (lrTo S C R k ++ R.drop (k + 1)) (lrTo S C R k ++ R.drop (k + 1)).length).length := by
      obtain ⟨O, hO⟩ : ∃ O, O = lrTo S C R k ++ R.drop (k + 1) := ⟨_, rfl⟩
      have hb : ∀ u, (befT (chSets S C R) true k u || behU (chSets S C R) k u) = (decide (u < C.length) && anyL S O (rr C u)) := fun u => by
        simp only [i2, behU_ch, hO, anyL_app]; cases decide (u < C.length) <;> simp
      rw [← hO, msTo_anyL S C O O.length (Nat.le_refl _), msTo_anyL S C (O ++ [gi R k]) (O.length + 1) (by simp), List.take_length, List.take_of_length_le (by simp)]
      have e : (fun c => !anyL S (O ++ [gi R k]) c) = fun c => (!anyL S O c) && !hasC (digs S (gi R k)) c := by funext c; rw [anyL_snoc, Bool.not_or]
      rw [e, filt_lt, needS, hP]
      simp only [hb]
      rw [Bool.not_eq_true', ← Bool.not_eq_true, eqS_iff]
      constructor
      · intro h
        rw [Classical.not_forall] at h
        obtain ⟨u, hu⟩ := h
        rw [Classical.not_imp] at hu
        obtain ⟨_, hu⟩ := hu
        unfold chP at hu
        have hlt : u < C.length := by
          by_cases e : u < C.length
          · exact e
          · simp [e] at hu
        refine ⟨rr C u, ?_, ?_, ?_⟩
        · unfold rr; simp [List.getD, List.getElem?_eq_getElem hlt]
        · rcases h1 : anyL S O (rr C u) with _ | _
          · rfl
          · simp [hlt, h1] at hu
        · rcases h1 : hasC (digs S (gi R k)) (rr C u) with _ | _
          · simp [hlt, h1] at hu
          · rfl
      · rintro ⟨c, hc, h1, h2⟩ h
        obtain ⟨u, hu, rfl⟩ := List.getElem_of_mem hc
        have h3 := h u (by omega)
        have er : rr C u = C[u] := by simp [rr, List.getD, List.getElem?_eq_getElem hu]
        unfold chP at h3
        rw [er] at h3
        simp only [Bool.not_eq_true', Bool.not_eq_false'] at h1 h2
        simp [hu, h1, h2] at h3
    by_cases h : needS (chSets S C R) (befT (chSets S C R) true k) k = true
    · have h' := hN.1 h
      refine ⟨by rw [outT, if_pos h, i1, lrTo, if_pos h'], ?_⟩
      rw [befT, lrTo, if_pos h', if_pos (by rw [h]; rfl)]
      funext u
      simp only [i2, hP, chP, anyL_snoc]; cases decide (u < C.length) <;> simp
    · have h' := fun e => h (hN.2 e)
      refine ⟨by rw [outT, if_neg h, i1, lrTo, if_neg h'], ?_⟩
      rw [befT, lrTo, if_neg h', if_neg (by simpa using h)]
      exact i2

set_option maxHeartbeats 4000000 in
theorem impl_LeanRows (ao : Option Addr) (S : List Int) (cap : Nat) (hn : S.length ≤ 4294967296) (ar : Option Addr) (R : List Int) (capr : Nat) (hnr : R.length ≤ 4294967296) (hcap : R.length ≤ capr) (t : Int) (ht : -9223372036854775808 ≤ t ∧ t ≤ 9223372036854775807) (w : World) (hS : Ints w ao S) (hRI : Ints w ar R) :
    Calls Tryz.prog 7 #[.agg #[.slice ao S.length cap], .slice ar R.length capr, .int .i64 t] w fun e w' => ∃ v, e = .returned (.tuple #[v, .int .i64 (eR10 S R t)]) ∧ OwnInts w' w.heap.size v (vLr S R t) ∧ Below w.heap.size w w' := by
  have B0 : Below w.heap.size w (w.alloc (.cells #[.slice ao S.length cap] 26)) := by go_grown
  have c0 := cell_new w (.slice ao S.length cap) 26
  have l0 := lt_alloc w (.cells #[.slice ao S.length cap] 26)
  have hc := rowsError_any ao S cap hn ar R capr hnr t _ (hS.below B0) (hRI.below B0)
  by_cases he : eR10 S R t = 0
  case neg =>
    have HV : Hid (vLr S R t = []) := Lib.hid (by unfold vLr; rw [if_neg he])
    obtain ⟨E, hE⟩ : ∃ E, E = eR10 S R t := ⟨_, rfl⟩
    rw [← hE] at hc he ⊢
    have hb : (E != 0) = true := by simpa using he
    clear hE he
    go_enter Tryz.func7, Tryz.ntmps7
    go_wp2_with fail
    refine hc.mono ?_
    rintro e w1 ⟨rfl, hb1⟩
    have B1 := B0.trans (hb1.mono B0.size)
    go_wp2_with fail
    go_ret2
    exact ⟨_, rfl, by rw [HV.out]; exact World.ownsRow_nil _ _ _ _, B1⟩
  obtain ⟨hSp, hRb, hR2, g1, g2, g3⟩ := eR10_zero he
  have HSp := Lib.hid hSp
  have HV : Hid (vLr S R t = lrTo S (allC S t.toNat) R R.length) := Lib.hid (by unfold vLr; rw [if_pos he])
  have HE := Lib.hid he
  rw [he] at hc
  clear he
  obtain ⟨t, rfl⟩ : ∃ n : Nat, t = n := ⟨t.toNat, by omega⟩
  rw [Int.toNat_natCast] at HV
  have ht1 : 0 < t := by omega
  have ht3 : t ≤ 3 := by omega
  have hC832 := allC_le hSp ht1 ht3
  have HCc : Hid (IsCs S.length t (allC S t)) := Lib.hid (allC_cs t)
  have HCf : Hid (∀ c, c ∈ allC S t → c.length = 2 * t) := Lib.hid (allC_len2 S t)
  have HCH := Lib.hid fun w hS => choicesOf_any ao S cap hSp t ht1 ht3 w hS
  obtain ⟨C, hC⟩ : ∃ C, C = allC S t := ⟨_, rfl⟩
  rw [← hC] at HV hC832 HCc HCf HCH
  have HCS := Lib.hid fun gx w hS hRI hCM => choiceSets_any ao S cap hSp ar R capr (by omega) hRb gx C.length S.length cap t ao C ht1 ht3 (by omega) HCc.out w hS hRI hCM
  rw [← (out_lr S C R (by omega) R.length (Nat.le_refl _)).1] at HV
  obtain ⟨NC, hNC⟩ : ∃ NC, NC = C.length := ⟨_, rfl⟩
  have HCN := Lib.hid hNC
  rw [← hNC] at HCH HCS hC832
  have HPl : Hid ((chSets S C R).length = R.length) := Lib.hid (chSets_len S C R)
  obtain ⟨PS, hPS⟩ : ∃ PS, PS = chSets S C R := ⟨_, rfl⟩
  rw [← hPS] at HCS HPl HV
  have HNE : Hid (∀ (g : Nat) (W : World), Ints W ar R → OwnSets W 0 (.slice (some ⟨g, 0, none⟩) R.length R.length) PS → Calls Tryz.prog 39 #[.slice ar R.length capr, .slice (some ⟨g, 0, none⟩) R.length R.length, .bool true] W fun e w' => ∃ v, e = .returned v ∧ OwnInts w' W.heap.size v (outT PS R true R.length) ∧ Below W.heap.size W w') := Lib.hid fun g W h1 h2 => neededOf_any ar R capr (by omega) 0 _ R.length PS HPl.out true W (Nat.zero_le _) h1 h2
  obtain ⟨OUT, hOUT⟩ : ∃ OUT, OUT = outT PS R true R.length := ⟨_, rfl⟩
  rw [← hOUT] at HNE HV
  obtain ⟨Kn, hKn⟩ : ∃ Kn, Kn = R.length := ⟨_, rfl⟩
  rw [← hKn] at hR2 hcap hc HCS HNE ⊢
  clear hSp hC hKn hNC hPS hRb hOUT HPl
  go_enter Tryz.func7, Tryz.ntmps7
  go_wp2_with fail
  refine hc.mono ?_
  rintro e w1 ⟨rfl, hb1⟩
  have c1 := kept_cell hb1 c0 l0
  have l1 := lt_of_below hb1 l0
  have B1 := B0.trans (hb1.mono B0.size)
  clear hc c0 l0 B0 hb1
  go_wp2_with fail
  refine wp_region_held_drew (S := fun w' => w'.cell? ⟨w.heap.size, 0, none⟩ = some (.slice ao S.length cap)) (by kernel_rfl) (c1) (fun hHeld => ?_)
  refine wpAnyH_take (i := 0) (v := ?_) rfl (by kernel_rfl) (by kernel_rfl) (by kernel_rfl) (fun _ _ _ h => h) (Or.inl ⟨by rfl, ?_⟩) (by assumption) ?_
  rotate_left
  · (intro w hSw; obtain hSw := hSw; (try dsimp only at hSw); go_simp; try (with_reducible rfl))
  (try simp only [Act.put, List.setIfInBounds_toArray, List.set_cons_zero, List.set_cons_succ, List.getElem_toArray, List.getElem_cons_succ, List.getElem_cons_zero])
  refine wpAnyH_take (i := 1) (v := ?_) rfl (by kernel_rfl) (by kernel_rfl) (by kernel_rfl) (fun _ _ _ h => h) (Or.inl ⟨by rfl, ?_⟩) (by assumption) ?_
  rotate_left
  · (intro w hSw; obtain hSw := hSw; (try dsimp only at hSw); go_simp; try (with_reducible rfl))
  (try simp only [Act.put, List.setIfInBounds_toArray, List.set_cons_zero, List.set_cons_succ, List.getElem_toArray, List.getElem_cons_succ, List.getElem_cons_zero])
  refine wpAnyH_take (i := 2) (v := ?_) rfl (by kernel_rfl) (by kernel_rfl) (by kernel_rfl) (fun _ _ _ h => h) (Or.inl ⟨by rfl, ?_⟩) (by assumption) ?_
  rotate_left
  · (intro w hSw; obtain hSw := hSw; (try dsimp only at hSw); go_simp; try (with_reducible rfl))
  (try simp only [Act.put, List.setIfInBounds_toArray, List.set_cons_zero, List.set_cons_succ, List.getElem_toArray, List.getElem_cons_succ, List.getElem_cons_zero])
  refine wpAnyH_take (i := 3) (v := ?_) rfl (by kernel_rfl) (by kernel_rfl) (by kernel_rfl) (fun _ _ _ h => h) (Or.inl ⟨by rfl, ?_⟩) (by assumption) ?_
  rotate_left
  · (intro w hSw; obtain hSw := hSw; (try dsimp only at hSw); go_simp; try (with_reducible rfl))
  (try simp only [Act.put, List.setIfInBounds_toArray, List.set_cons_zero, List.set_cons_succ, List.getElem_toArray, List.getElem_cons_succ, List.getElem_cons_zero])
  refine wpAnyH_take (i := 4) (v := ?_) rfl (by kernel_rfl) (by kernel_rfl) (by kernel_rfl) (fun _ _ _ h => h) (Or.inl ⟨by rfl, ?_⟩) (by assumption) ?_
  rotate_left
  · (intro w hSw; obtain hSw := hSw; (try dsimp only at hSw); go_simp; try (with_reducible rfl))
  (try simp only [Act.put, List.setIfInBounds_toArray, List.set_cons_zero, List.set_cons_succ, List.getElem_toArray, List.getElem_cons_succ, List.getElem_cons_zero])
  refine wpAnyH_ready (rs := [5]) (by kernel_rfl) (by simp) ?_
  refine AllReadyH.cons rfl (fun K hK => ?_) AllReadyH.nil
  go_simp
  (go_at_call 41; refine (HCH.out _ ((hS.below B1).below (Below.refl w1.heap.size w1).drew)).mono ?_)
  rintro e x1 ⟨gx1, g1, nF1, cF1, rfl, oX1, oF1, hb1⟩
  have H1 : Below w1.heap.size w1 x1 := Below.trans (Below.refl w1.heap.size w1).drew (hb1.mono (Below.size (Below.refl w1.heap.size w1).drew))
  have hcm1 := chmem_ofL HCN.out HCf.out oX1 oF1
  refine hK.out _ _ (kept_cell H1 c1 l1) (fun hHeld => ?_)
  clear hK K
  (try simp only [Act.put, List.setIfInBounds_toArray, List.set_cons_zero, List.set_cons_succ, List.getElem_toArray, List.getElem_cons_succ, List.getElem_cons_zero])
  refine wpAnyH_ready (rs := [6]) (by kernel_rfl) (by simp) ?_
  refine AllReadyH.cons rfl (fun K hK => ?_) AllReadyH.nil
  go_simp
  (go_at_call 40; refine (HCS.out gx1 _ ((hS.below B1).below H1) ((hRI.below B1).below H1) hcm1).mono ?_)
  rintro e x2 ⟨gs2, rfl, oS2, hb2⟩
  have H2 : Below w1.heap.size w1 x2 := Below.trans H1 (hb2.mono (Below.size H1))
  replace hcm1 := hcm1.below hb2
  refine hK.out _ _ (kept_cell H2 c1 l1) (fun hHeld => ?_)
  clear hK K
  (try simp only [Act.put, List.setIfInBounds_toArray, List.set_cons_zero, List.set_cons_succ, List.getElem_toArray, List.getElem_cons_succ, List.getElem_cons_zero])
  refine wpAnyH_ready (rs := [7]) (by kernel_rfl) (by simp) ?_
  refine AllReadyH.cons rfl (fun K hK => ?_) AllReadyH.nil
  go_simp
  (go_at_call 39; refine (HNE.out _ _ ((hRI.below B1).below H2) (oS2.rebase10L (base' := 0) (Nat.zero_le _))).mono ?_)
  rintro e x3 ⟨vn3, rfl, oN3, hb3⟩
  have H3 : Below w1.heap.size w1 x3 := Below.trans H2 (hb3.mono (Below.size H2))
  replace hcm1 := hcm1.below hb3
  replace oS2 := oS2.below hb3
  replace oN3 := oN3.rebase (base' := w1.heap.size) (Below.size H2)
  refine hK.out _ _ (kept_cell H3 c1 l1) (fun hHeld => ?_)
  clear hK K
  (try simp only [Act.put, List.setIfInBounds_toArray, List.set_cons_zero, List.set_cons_succ, List.getElem_toArray, List.getElem_cons_succ, List.getElem_cons_zero])
  refine wpAnyH_take (i := 8) (v := ?_) rfl (by kernel_rfl) (by kernel_rfl) (by kernel_rfl) (fun _ _ _ h => h) (Or.inl ⟨by rfl, ?_⟩) (by assumption) ?_
  rotate_left
  · (intro w hSw; obtain hSw := hSw; (try dsimp only at hSw); go_simp; try (with_reducible rfl))
  (try simp only [Act.put, List.setIfInBounds_toArray, List.set_cons_zero, List.set_cons_succ, List.getElem_toArray, List.getElem_cons_succ, List.getElem_cons_zero])
  refine wpAnyH_take (i := 9) (v := ?_) rfl (by kernel_rfl) (by kernel_rfl) (by kernel_rfl) (fun _ _ _ h => h) (Or.inl ⟨by rfl, ?_⟩) (by assumption) ?_
  rotate_left
  · (intro w hSw; obtain hSw := hSw; (try dsimp only at hSw); go_simp; try (with_reducible rfl))
  (try simp only [Act.put, List.setIfInBounds_toArray, List.set_cons_zero, List.set_cons_succ, List.getElem_toArray, List.getElem_cons_succ, List.getElem_cons_zero])
  refine wpAnyH_done (by kernel_rfl) ?_ _
  (try simp only [Act.put, List.setIfInBounds_toArray, List.set_cons_zero, List.set_cons_succ, List.getElem_toArray, List.getElem_cons_succ, List.getElem_cons_zero])
  have Hn : Below w1.heap.size w1 x3 := H3
  have oZ := oN3
  obtain ⟨wZ, hwZ⟩ : ∃ z, z = x3 := ⟨_, rfl⟩
  rw [← hwZ] at Hn oZ ⊢
  clear hwZ hHeld
  have BZ := B1.trans (Hn.mono B1.size)
  have hw1 : w.heap.size ≤ w1.heap.size := B1.size
  go_wp2_with fail
  go_ret2
  exact ⟨_, ret_vL HE.out.symm, by rw [HV.out]; exact oZ.rebase hw1, BZ⟩

end Go.Proofs.YtpmfedllbiblbaaGreat

namespace Go.Proofs.YtpmfedllbiblbaaGreat
open Go.RowKit Cv
set_option linter.unusedVariables false
set_option linter.unusedSimpArgs false
set_option maxRecDepth 100000

/-- whether one of the first i rows has a choice -/
def anyR (S R : List Int) (i : Nat) (c : List Int) : Bool := (List.range i).any fun j => hasC (digs S (gi R j)) c
theorem msTo_filter (S : List Int) (C : List (List Int)) (R : List Int) (i : Nat) : msTo S C R i = C.filter fun c => !anyR S R i c := by
  induction i with
  | zero => exact (List.filter_eq_self.2 fun _ _ => rfl).symm
  | succ i ih =>
    rw [msTo, ih, List.filter_filter]
    refine List.filter_congr fun c _ => ?_
    unfold anyR
    rw [List.range_succ, List.any_append]
    simp [Bool.not_or, Bool.and_comm]
theorem union_chSets (S : List Int) (C : List (List Int)) (R : List Int) (u : Nat) (hu : u < C.length) : unionL (chSets S C R) u = anyR S R R.length (rr C u) := by
  unfold unionL chSets anyR
  rw [List.any_map]
  have e : ∀ L : List Int, (L.any ((fun p => p u) ∘ fun x => chP (digs S x) C C.length)) = L.any fun x => hasC (digs S x) (rr C u) := fun L => by
    congr 1; funext x; simp [chP, hu]
  rw [e]
  have e2 : R = (List.range R.length).map fun j => gi R j := ext_gi (by simp) fun i hi => by simp [gi, hi]
  rw [show (R.any fun x => hasC (digs S x) (rr C u)) = ((List.range R.length).map fun j => gi R j).any fun x => hasC (digs S x) (rr C u) from by rw [← e2], List.any_map]
  rfl
/-- the choices among the first i that no row has -/
def muJ (S : List Int) (C : List (List Int)) (R : List Int) (i : Nat) : List (List Int) := (C.take i).filter fun c => !anyR S R R.length c
theorem muJ_succ (S : List Int) (C : List (List Int)) (R : List Int) (i : Nat) (h : i < C.length) : muJ S C R (i + 1) = muJ S C R i ++ if anyR S R R.length (rr C i) = true then [] else [rr C i] := by
  unfold muJ
  rw [take_rr C i h, List.filter_append]
  by_cases e : anyR S R R.length (rr C i) = true <;> simp [e]
theorem muJ_all (S : List Int) (C : List (List Int)) (R : List Int) : muJ S C R C.length = msTo S C R R.length := by rw [msTo_filter]; unfold muJ; rw [List.take_length]
theorem muJ_len (S : List Int) (C : List (List Int)) (R : List Int) (i : Nat) : (muJ S C R i).length ≤ C.length := Nat.le_trans (List.length_filter_le _ _) (by rw [List.length_take]; omega)

theorem fill3 (z : Array Value) (hz : z.size = 3) (p : Ch3) : Instr.fill (fun i => some (i * 3, 3)) z [(0, .agg p.arr)] = some p.arr := by
  have h := Great.fill_whole (s := 3) (by decide) [.agg p.arr] z (fun v hv => by rw [List.mem_singleton.1 hv]; rfl) (by simp [hz])
  simpa [Value.cells] using h
theorem wpList_buildX {w : World} {ops : Array Oper} {rest : List Oper} {o : Oper} {a : Act} {Q : Exit → Act → World → Prop} (hgd : o.guard = none) (x : Operand)
    (ho : o.op = .buildSlice 57 1 #[(0, x)]) (p : Ch3) (hx : a.eval x = .agg p.arr)
    (h : wpList Tryz.prog ops Q rest (a.put o.dst (.slice (some ⟨w.heap.size, 0, none⟩) 1 1)) (w.alloc (.cells p.arr 64))) : wpList Tryz.prog ops Q (o :: rest) a w := by
  obtain ⟨i0, hi, hz0, hz1, hz2⟩ := info_parts infoCh3
  have hb : (Instr.buildSlice 57 1 #[(0, .agg p.arr)]).run Tryz.prog w = .ok (.slice (some ⟨w.heap.size, 0, none⟩) 1 1) (w.alloc (.cells p.arr 64)) :=
    run_buildSlice w 57 64 1 _ p.arr i0 (.agg Ch3.z.arr) Tryz.underlying57 hi hz0 (by rw [hz1]; decide) (by rw [hz1]; decide) (by
      rw [hz1]; exact fill3 _ (by simp) p)
  refine wpList_plain hgd fun K hK => ?_
  unfold Oper.wp execOp
  simp only [ho, Sem.run_bind, List.map_toArray, List.map_cons, List.map_nil, hx, hb, Result.andThen_ok]
  exact hK _ _ h
/-- an append of one choice -/
theorem wpList_append_X {w : World} {ops : Array Oper} {rest : List Oper} {o : Oper} {a : Act} {Q : Exit → Act → World → Prop} (hgd : o.guard = none) (s x : Operand)
    (ho : o.op = .call { callee := .builtin .append, args := #[s, x], argTypes := #[57, 57] })
    (base : Nat) (v : Value) (X : List Ch3) (hs : a.eval s = v) (hown : OwnXs w base v X) (b : Nat) (p : Ch3) (hp : p.one) (hx : a.eval x = .slice (some ⟨b, 0, none⟩) 1 1) (hc : w.heap[b]? = some (.cells p.arr 64 (0, 0)))
    (hlen : X.length ≤ 1048576) (hbase : base ≤ w.heap.size) (m : Nat) (hm : m = X.length + 1)
    (h : ∀ g c w', OwnXs w' base (.slice (some ⟨g, 0, none⟩) m c) (X ++ [p]) → w.grownBy w' v.ownBlock → wpList Tryz.prog ops Q rest (a.put o.dst (.slice (some ⟨g, 0, none⟩) m c)) w') : wpList Tryz.prog ops Q (o :: rest) a w := by
  subst hm
  obtain ⟨i0, hi, hz0, hz1, hz2⟩ := info_parts infoCh3
  refine wpList_plain hgd fun _ hK => ?_
  refine wp_append_lies w s x 57 ho base 64 i0 (.agg Ch3.z.arr) 3 72 Tryz.underlying57 hi hz0 hz1 hz2 rfl (by decide) v X.length (cellsX X) hs hown ⟨b, 0, none⟩ 1 1 p.arr.toList hx rfl ?_ ?_ (by decide) (by unfold maxLen; omega) (by omega) hbase _ rfl ?_
  · intro j u hj
    rw [addr_add, Nat.zero_add, cell_of_row w b j _ _ _ hc]
    simpa using hj
  · intro u hu
    have := hp
    unfold Ch3.one at this
    rw [Array.all_eq_true_iff_forall_mem] at this
    exact this u (by simpa using hu)
  · intro g cap w' h1 h2 _ _
    refine hK _ _ (h g cap w' ?_ h2)
    unfold OwnXs
    rw [List.length_append, cellsX_snoc]
    exact h1
theorem xAt_snoc (X : List Ch3) (p : Ch3) (j : Nat) (h : j < X.length + 1) : xAt (X ++ [p]) j = if j = X.length then p else xAt X j := by
  unfold xAt
  simp only [List.getD]
  by_cases e : j = X.length
  · subst e; simp
  · rw [if_neg e, List.getElem?_append_left (by omega)]

set_option maxHeartbeats 4000000 in
theorem missingChoices_any (ao : Option Addr) (S : List Int) (cap : Nat) (hSp : Sp S) (ar : Option Addr) (R : List Int) (capr : Nat) (hRl : R.length ≤ 1048576) (hR : ∀ i, i < R.length → 0 ≤ gi R i ∧ gi R i < nW S) (t : Nat) (ht1 : 0 < t) (ht3 : t ≤ 3) (w : World) (hS : Ints w ao S) (hRI : Ints w ar R) :
    Calls Tryz.prog 46 #[.agg #[.slice ao S.length cap], .slice ar R.length capr, .int .i64 (t : Int)] w fun e w' => ∃ g c, e = .returned (.slice (some ⟨g, 0, none⟩) (mL S R t).length c) ∧ w.heap.size ≤ g ∧ ChMem w' ao S.length cap g (mL S R t) t ∧ Below w.heap.size w w' := by
  have HSp := Lib.hid hSp
  have HR := Lib.hid hR
  have hC832 := allC_le hSp ht1 ht3
  have HCc : Hid (IsCs S.length t (allC S t)) := Lib.hid (allC_cs t)
  have HC2 : Hid (∀ c, c ∈ allC S t → c.length = 2 * t) := Lib.hid (allC_len2 S t)
  have hch := choicesOf_any ao S cap hSp t ht1 ht3
  have HML : Hid (mL S R t = muJ S (allC S t) R (allC S t).length) := Lib.hid (muJ_all _ _ _).symm
  obtain ⟨C, hC⟩ : ∃ C, C = allC S t := ⟨_, rfl⟩
  rw [← hC] at hC832 HCc HC2 hch HML
  have HMS := Lib.hid fun i => muJ_succ S C R i
  have HMN := Lib.hid fun i => muJ_len S C R i
  have HUN := Lib.hid fun u => union_chSets S C R u
  obtain ⟨NC, hNC⟩ : ∃ NC, NC = C.length := ⟨_, rfl⟩
  rw [← hNC] at hC832 hch HML HMN
  have HNC := Lib.hid hNC
  clear hC hNC hSp hR
  have B0 : Below w.heap.size w (w.alloc (.cells #[.slice ao S.length cap] 26)) := by go_grown
  have c0 := cell_new w (.slice ao S.length cap) 26
  have l0 := lt_alloc w (.cells #[.slice ao S.length cap] 26)
  go_enter Tryz.func46, Tryz.ntmps46
  go_wp2_with fail
  refine (hch _ (hS.below B0)).mono ?_
  rintro e w1 ⟨gx, g, nF, cF, rfl, oX, oF, hb1⟩
  have hCM : ChMem w1 ao S.length cap gx C t := ChMem.all HNC.out HC2.out oX oF fun k j hk hj => ⟨by
    rw [flat_lenC HC2.out]
    have := Nat.mul_le_mul_right (2 * t) (show k + 1 ≤ C.length from hk)
    rw [Nat.succ_mul] at this; omega, gi_flat k j HC2.out hk hj⟩
  have c1 := kept_cell hb1 c0 l0
  have l1 := lt_of_below hb1 l0
  have B1 := B0.trans (hb1.mono B0.size)
  have hcs := choiceSets_any ao S cap HSp.out ar R capr hRl HR.out gx NC S.length cap t ao C ht1 ht3 (by rw [← HNC.out]; omega) HCc.out w1 (hS.below B1) (hRI.below B1) hCM
  rw [← HNC.out] at hcs
  have Hcs := Lib.hid hcs
  clear c0 l0 B0 hb1 oX oF hcs hch
  go_wp2_with fail
  refine Hcs.out.mono ?_
  rintro e w2 ⟨gs, rfl, oS, hb2⟩
  have hCM2 := hCM.below hb2
  have c2 := kept_cell hb2 c1 l1
  have l2 := lt_of_below hb2 l1
  have B2 := B1.trans (hb2.mono B1.size)
  clear hb2 c1 l1 B1 hCM Hcs
  go_wp2_with fail
  refine (valuesS_any (some ⟨gs, 0, none⟩) R.length R.length w2).mono ?_
  rintro e w3 ⟨rfl, hvb, hb3⟩
  have oS3 := oS.below hb3
  have hgv := fun n (hn : 1 ≤ n) => valuesS_gives n hn w1.heap.size gs R.length R.length (chSets S C R) w2.heap.size (chSets_len S C R).symm (by omega) w3 oS3 hvb
  have htg := together_any 105 #[.pointer (some ⟨w2.heap.size, 0, none⟩)] (enters_of Tryz.func105 (by kernel_rfl) rfl) (Below w3.heap.size) (chSets S C R) R.length w3 (fun h k => h.trans k) (fun A B h => h) hgv
  have hCM3 := hCM2.below hb3
  have l3 := lt_of_below hb3 l2
  have B3 := B2.trans (hb3.mono B2.size)
  clear hb3 c2 l2 B2 hCM2 oS oS3 hvb hgv
  go_wp2_with fail
  refine htg.mono ?_
  rintro e w4 ⟨rfl, hb4⟩
  have hCM4 := hCM3.below hb4
  have B4 := B3.trans (hb4.mono B3.size)
  have HU : Hid (∀ u, u < NC → unionL (chSets S C R) u = anyR S R R.length (rr C u)) := Lib.hid fun u hu => HUN.out u (by rw [← HNC.out]; exact hu)
  obtain ⟨U, hU⟩ : ∃ U, U = unionL (chSets S C R) := ⟨_, rfl⟩
  rw [← hU] at HU ⊢
  have hz4 := rowz_new w4 rfl
  obtain ⟨w5, hw5⟩ : ∃ w5, w5 = (w4.alloc (.cells #[.int .u64 0, .int .u64 0, .int .u64 0, .int .u64 0, .int .u64 0, .int .u64 0, .int .u64 0, .int .u64 0, .int .u64 0, .int .u64 0, .int .u64 0, .int .u64 0, .int .u64 0, .int .u64 0, .int .u64 0, .int .u64 0] 68)).setRow w4.heap.size (setA U) := ⟨_, rfl⟩
  have r5 : RowAt w5 w4.heap.size U := by rw [hw5]; exact row_set hz4
  have b5 : Below w4.heap.size w4 w5 := by rw [hw5]; exact ((Below.refl _ w4).alloc (Nat.le_refl _) _).grown (grown_setRow _) (by simp) (fun j e => by cases e; exact Nat.le_refl _)
  have hCM5 := hCM4.below b5
  have B5 := B4.trans (b5.mono B4.size)
  have oM5 : OwnXs (w5.alloc (.cells #[] 64)) w5.heap.size (.slice (some ⟨w5.heap.size, 0, none⟩) 0 0) [] := World.ownsRow_made w5 (base := w5.heap.size) (e := 64) (size := 3) #[] 0 (Nat.le_refl _) (by simp [maxLen]) (by simp)
  have B6 : Below w5.heap.size w5 (w5.alloc (.cells #[] 64)) := (Below.refl _ _).alloc (Nat.le_refl _) _
  have HW5 := Lib.hid hw5
  clear hU hb4 htg hCM3 hCM4 l3 B3 B4 b5 hw5
  go_wp2_with (first | (refine wpList_st16 rfl _ _ rfl hz4 U rfl rfl ?_; rw [← HW5.out]) | fail)
  clear hz4
  have HMu0 : Hid (muJ S C R 0 = []) := Lib.hid rfl
  go_loopw [9, 24] (fun o x wr => ∃ (i gm cm M : Nat) (X : List Ch3), i ≤ NC ∧ x = .int .i64 (i : Int) ∧ o = .slice (some ⟨gm, 0, none⟩) M cm ∧ OwnXs wr w5.heap.size (.slice (some ⟨gm, 0, none⟩) M cm) X ∧ Hid (X.length = M ∧ (muJ S C R i).length = M ∧ ∀ j, j < M → ∃ g o, xAt X j = chX ao S.length cap g t o ∧ Ints w5 (some ⟨g, o, none⟩) (rr (muJ S C R i) j)) ∧ M ≤ i ∧ Below w5.heap.size w5 wr) (fun _ x _ => NC - (intOf x).toNat)
  case atStart => exact ⟨0, _, 0, 0, [], Nat.zero_le _, rfl, rfl, oM5, Lib.hid ⟨rfl, by rw [HMu0.out]; rfl, fun j hj => by omega⟩, Nat.le_refl _, B6⟩
  case round =>
    clear oM5 B6
    obtain ⟨i, gm, cm, M, X, hi, rfl, rfl, oX, HX, hMi, B⟩ := hrel
    have r8 := r5.below B r5.lt
    by_cases hlt : i < NC
    · have hlI : (i : Int) < (NC : Int) := by omega
      obtain ⟨hgx, g, o, ⟨hx1, hx2, hx3⟩, hIc⟩ := hCM5 i (by rw [← HNC.out]; exact hlt)
      replace hx1 := kept_cell B hx1 hgx
      replace hx2 := kept_cell B hx2 hgx
      replace hx3 := kept_cell B hx3 hgx
      simp only [chX] at hx1 hx2 hx3
      have HIc := Lib.hid hIc
      have hUi := HU.out i hlt
      have HMS1 := Lib.hid (HMS.out i (by rw [← HNC.out]; exact hlt))
      have hbw : Below wr.heap.size wr (wr.alloc (.cells #[.slice ao S.length cap, .slice (some ⟨g, o, none⟩) t t, .slice (some ⟨g, o + t, none⟩) t t] 64)) := (Below.refl _ _).alloc (Nat.le_refl _) _
      have r9 := r8.below hbw r8.lt
      have hla := lacks_any U i (by omega) (wr.alloc (.cells #[.slice ao S.length cap, .slice (some ⟨g, o, none⟩) t t, .slice (some ⟨g, o + t, none⟩) t t] 64))
      have hr : (wr.alloc (.cells #[.slice ao S.length cap, .slice (some ⟨g, o, none⟩) t t, .slice (some ⟨g, o + t, none⟩) t t] 64)).heap[wr.heap.size]? = some (.cells #[.slice ao S.length cap, .slice (some ⟨g, o, none⟩) t t, .slice (some ⟨g, o + t, none⟩) t t] 64 (0, 0)) := heap_alloc_new _ _
      clear hIc r8
      cases hu : U i with
      | true =>
        rw [hu] at hla
        have hMn : muJ S C R (i + 1) = muJ S C R i := by rw [HMS1.out, if_pos (by rw [← hUi]; exact hu), List.append_nil]
        have HX2 : Hid (X.length = M ∧ (muJ S C R (i + 1)).length = M ∧ ∀ j, j < M → ∃ g o, xAt X j = chX ao S.length cap g t o ∧ Ints w5 (some ⟨g, o, none⟩) (rr (muJ S C R (i + 1)) j)) := Lib.hid (by rw [hMn]; exact HX.out)
        clear hMn hu hUi hr
        go_wp2_with (first | (refine wpList_ld16 rfl _ rfl r9 rfl ?_) | (go_at_call 89; refine hla.mono ?_; rintro e w9 ⟨rfl, hb9⟩) | fail)
        have H9 := hbw.trans (hb9.mono hbw.size)
        have oX9 := oX.below H9
        have B9 := B.trans (H9.mono B.size)
        clear oX HX B hb9 H9 hx1 hx2 hx3 hbw r9
        go_roundw
        case rel => exact ⟨i + 1, gm, cm, M, X, by omega, by go_num, rfl, oX9, HX2, by omega, B9⟩
        case measure => simp [intOf]; omega
      | false =>
        rw [hu] at hla
        have hMn : muJ S C R (i + 1) = muJ S C R i ++ [rr C i] := by rw [HMS1.out, if_neg (by rw [← hUi, hu]; decide)]
        have HX2 : Hid ((X ++ [chX ao S.length cap g t o]).length = M + 1 ∧ (muJ S C R (i + 1)).length = M + 1 ∧ ∀ j, j < M + 1 → ∃ g' o', xAt (X ++ [chX ao S.length cap g t o]) j = chX ao S.length cap g' t o' ∧ Ints w5 (some ⟨g', o', none⟩) (rr (muJ S C R (i + 1)) j)) := Lib.hid ⟨by simp [HX.out.1], by rw [hMn]; simp [HX.out.2.1], fun j hj => by
          rw [hMn, xAt_snoc _ _ _ (by rw [HX.out.1]; exact hj), rr_app _ _ _ (by rw [HX.out.2.1]; exact hj), HX.out.1, HX.out.2.1]
          by_cases e : j = M
          · rw [if_pos e, if_pos e]; exact ⟨g, o, rfl, HIc.out⟩
          · rw [if_neg e, if_neg e]; exact HX.out.2.2 j (by omega)⟩
        have HXl := Lib.hid HX.out.1
        clear hMn hu hUi
        have hz5 := B.size
        have hzl : wr.heap.size < (wr.alloc (.cells #[.slice ao S.length cap, .slice (some ⟨g, o, none⟩) t t, .slice (some ⟨g, o + t, none⟩) t t] 64)).heap.size := by simp
        go_wp2_with (first
          | (refine wpList_ld16 rfl _ rfl r9 rfl ?_)
          | (go_at_call 89; refine hla.mono ?_; rintro e w9 ⟨rfl, hb9⟩; have H9 := hbw.trans (hb9.mono hbw.size); have hr9 := (hb9.block _ hzl).trans hr; have oX9 := oX.below H9; have z9 := H9.size)
          | (refine wpList_load_row rfl _ _ rfl wr.heap.size rfl _ _ _ _ hr9 Tryz.underlying64 rfl infoCh ?_)
          | (refine wpList_buildX rfl _ rfl (chX ao S.length cap g t o) rfl ?_)
          | (at_builtin; refine wpList_append_X rfl _ _ rfl w5.heap.size _ X rfl (oX9.alloc _) w9.heap.size (chX ao S.length cap g t o) (chX_one _ _ _ _ _ _) rfl (heap_alloc_new _ _) (by rw [HXl.out]; omega) (by rw [World.size_alloc]; omega) (M + 1) (by rw [HXl.out]) ?_; intro g9 c9 w10 oX10 hg10)
          | fail)
        have b10 : Below w5.heap.size wr w10 := ((H9.mono hz5).alloc (Nat.le_trans hz5 H9.size) (.cells (chX ao S.length cap g t o).arr 64)).grown hg10 (by rw [World.size_alloc]; omega) (fun z hz => by have h1 := oX9.base_le.1; cases hz; exact h1)
        have B10 := B.trans b10
        clear oX HX B hb9 H9 hx1 hx2 hx3 hbw r9 oX9 hr9 hg10 b10
        go_wp2_with fail
        go_roundw
        case rel => exact ⟨i + 1, g9, c9, M + 1, _, by omega, by go_num, rfl, oX10, HX2, by omega, B10⟩
        case measure => simp [intOf]; omega
    · have hlI : ¬ (i : Int) < (NC : Int) := by omega
      have hin : i = NC := by omega
      have HE : Hid (mL S R t = muJ S C R i) := Lib.hid (by rw [HML.out, hin])
      have HM2 : Hid ((mL S R t).length = M) := Lib.hid (by rw [HE.out]; exact HX.out.2.1)
      have hgm := oX.base_le
      have hch : ChMem wr ao S.length cap gm (mL S R t) t := fun j hj => by
        rw [HM2.out] at hj
        obtain ⟨g', o', e1, e2⟩ := HX.out.2.2 j hj
        have hcx := oX.cells j (by rw [HX.out.1]; exact hj)
        rw [e1] at hcx
        exact ⟨hgm.2, g', o', hcx, by rw [HE.out]; exact e2.below B⟩
      have hz5 : w.heap.size ≤ w5.heap.size := B5.size
      clear hin
      go_wp2_with fail
      go_ret
      exact ⟨gm, ⟨cm, by rw [HM2.out]; rfl⟩, by omega, hch, B5.trans (B.mono hz5)⟩

end Go.Proofs.YtpmfedllbiblbaaGreat
