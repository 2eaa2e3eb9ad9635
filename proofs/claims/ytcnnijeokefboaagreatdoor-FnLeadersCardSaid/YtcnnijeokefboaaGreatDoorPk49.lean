/-
  Texts put together: MathV, MathLd. By an AI agent.
-/
import Derived.Test.YtcnnijeokefboaaGreatDoorMathB
import Derived.Test.YtcnnijeokefboaaGreatDoorPk48
import Derived.Test.YtcnnijeokefboaaGreatDoorPk47
namespace Go.Proofs.YtcnnijeokefboaaGreatDoor
set_option linter.unusedVariables false
set_option linter.unusedSimpArgs false
namespace Cv

/-- how many words of a list cover a word -/
def cvN (S : List Int) (r : Int) (X : List Int) (u : Nat) : Nat := (X.filter fun x => ballB S x r u).length
theorem cvN_app (S : List Int) (r : Int) (X Y : List Int) (u : Nat) : cvN S r (X ++ Y) u = cvN S r X u + cvN S r Y u := by unfold cvN; rw [List.filter_append, List.length_append]
theorem cvN_cons (S : List Int) (r x : Int) (Y : List Int) (u : Nat) : cvN S r (x :: Y) u = (if ballB S x r u = true then 1 else 0) + cvN S r Y u := by
  unfold cvN
  rw [List.filter_cons]
  by_cases h : ballB S x r u = true
  · rw [if_pos h, if_pos h, List.length_cons]; omega
  · rw [if_neg h, if_neg h]; omega
theorem cvN_pos {S : List Int} {r x : Int} {X : List Int} {u : Nat} (hx : x ∈ X) (h : ballB S x r u = true) : 1 ≤ cvN S r X u :=
  List.length_pos_of_mem (List.mem_filter.2 ⟨hx, h⟩)
theorem tcov_cvN (S X : List Int) (r : Int) (u : Nat) : ∀ k, k ≤ X.length → tcov S X r (u : Int) k = (cvN S r (X.take k) u : Int) := by
  intro k
  induction k with
  | zero => intro _; simp [tcov, cnt, cvN]
  | succ k ih =>
    intro hk
    have h1 := ih (by omega)
    unfold tcov at h1 ⊢
    rw [cnt, h1, take_snoc X k (by omega), cvN_app, cvN_cons]
    have e : ballB S (gi X k) r u = decide (dist S (gi X k) (u : Int) ≤ r) := by unfold ballB; rw [dist_comm]
    rw [e]
    by_cases h : dist S (gi X k) (u : Int) ≤ r
    · simp [h, cvN]
    · simp [h, cvN]
theorem tAt_cvN (S X : List Int) (r : Int) (u : Nat) : tAt S X r u = (cvN S r X u : Int) := by
  unfold tAt
  rw [tcov_cvN S X r u X.length (Nat.le_refl _), List.take_length]
theorem mem_selTo {p : Nat → Bool} {n : Nat} {y : Int} : y ∈ selTo p n ↔ ∃ u : Nat, u < n ∧ p u = true ∧ y = (u : Int) := by
  induction n with
  | zero => simp [selTo]
  | succ n ih =>
    rw [selTo, List.mem_append, ih]
    constructor
    · rintro (⟨u, h1, h2, h3⟩ | h)
      · exact ⟨u, by omega, h2, h3⟩
      · by_cases e : p n = true
        · rw [if_pos e] at h; exact ⟨n, by omega, e, by simpa using h⟩
        · rw [if_neg e] at h; cases h
    · rintro ⟨u, h1, h2, h3⟩
      by_cases e : u = n
      · subst e; exact .inr (by rw [if_pos h2]; simpa using h3)
      · exact .inl ⟨u, by omega, h2, h3⟩
theorem needB_iff (T S : List Int) (x r : Int) : needB T S x r = true ↔ ∃ u : Nat, u < (nW S).toNat ∧ ballB S x r u = true ∧ gi T u = 1 := by
  unfold needB
  rw [oneTo_iff]
  constructor
  · rintro ⟨j, hj, h⟩
    have hm : gi (ballW S x r) j ∈ ballW S x r := gi_mem hj
    obtain ⟨u, h1, h2, h3⟩ := mem_selTo.1 hm
    rw [h3, Int.toNat_natCast] at h
    exact ⟨u, h1, h2, h⟩
  · rintro ⟨u, h1, h2, h3⟩
    have hm : (u : Int) ∈ ballW S x r := mem_selTo.2 ⟨u, h1, h2, rfl⟩
    obtain ⟨j, hj, e⟩ := mem_gi hm
    exact ⟨j, hj, by rw [e, Int.toNat_natCast]; exact h3⟩

/-- what is kept of a code and what is not yet asked -/
def lnX (S C : List Int) (r : Int) (k : Nat) : List Int := lnTo S C r k ++ C.drop k
theorem drop_gi (C : List Int) (k : Nat) (h : k < C.length) : C.drop k = gi C k :: C.drop (k + 1) := by rw [List.drop_eq_getElem_cons h, gi_lt C k h]
theorem lnX_cv (S C : List Int) (r : Int) (k : Nat) (hk : k < C.length) (u : Nat) : cvN S r (lnX S C r k) u = cvN S r (lnX S C r (k + 1)) u + (if needB (lnT S C r k) S (gi C k) r = true then 0 else if ballB S (gi C k) r u = true then 1 else 0) := by
  unfold lnX
  rw [drop_gi C k hk, lnTo]
  by_cases h : needB (lnT S C r k) S (gi C k) r = true
  · rw [if_pos h, if_pos h, cvN_app, cvN_cons, cvN_app, cvN_app, cvN_cons]
    simp [cvN]; omega
  · rw [if_neg h, if_neg h, cvN_app, cvN_cons, cvN_app]; omega
theorem lnT_cv (S C : List Int) (r : Int) (k : Nat) (hk : k ≤ C.length) (u : Nat) (hu : u < (nW S).toNat) : gi (lnT S C r k) u = (cvN S r (lnX S C r k) u : Int) := by
  induction k with
  | zero => rw [lnT, gi_timesA _ _ _ _ hu, tAt_cvN]; rfl
  | succ k ih =>
    have h1 := ih (by omega)
    have h2 := lnX_cv S C r k (by omega) u
    rw [lnT]
    by_cases h : needB (lnT S C r k) S (gi C k) r = true
    · rw [if_pos h] at h2 ⊢; rw [h1]; omega
    · rw [if_neg h] at h2 ⊢
      rw [gi_decL _ _ _ (by rw [lnT_len]; exact hu), h1]
      have h3 : cntIn (ballW S (gi C k) r) u (ballW S (gi C k) r).length = if u < (nW S).toNat ∧ ballB S (gi C k) r u = true then 1 else 0 := cntIn_sel _ _ _
      rw [h3]
      by_cases e : ballB S (gi C k) r u = true
      · rw [if_pos e] at h2; rw [if_pos ⟨hu, e⟩]; omega
      · rw [if_neg e] at h2; rw [if_neg (fun g => e g.2)]; omega
theorem lnX_le (S C : List Int) (r : Int) (u k : Nat) : ∀ d, k + d ≤ C.length → cvN S r (lnX S C r (k + d)) u ≤ cvN S r (lnX S C r k) u := by
  intro d
  induction d with
  | zero => intro _; exact Nat.le_refl _
  | succ d ih =>
    intro h
    have := ih (by omega)
    have h2 := lnX_cv S C r (k + d) (by omega) u
    rw [show k + (d + 1) = k + d + 1 from rfl]
    omega
theorem lnX_zero (S C : List Int) (r : Int) (u : Nat) (hu : u < (nW S).toNat) (k : Nat) (hk : k ≤ C.length) : cvN S r (lnX S C r k) u = 0 ↔ cvN S r C u = 0 := by
  induction k with
  | zero => exact Iff.rfl
  | succ k ih =>
    rw [← ih (by omega)]
    have h2 := lnX_cv S C r k (by omega) u
    have h3 := lnT_cv S C r k (by omega) u hu
    by_cases h : needB (lnT S C r k) S (gi C k) r = true
    · rw [if_pos h] at h2; omega
    · rw [if_neg h] at h2
      by_cases e : ballB S (gi C k) r u = true
      · rw [if_pos e] at h2
        have h4 : gi (lnT S C r k) u ≠ 1 := fun g => h ((needB_iff _ _ _ _).2 ⟨u, hu, e, g⟩)
        omega
      · rw [if_neg e] at h2; omega
theorem lnX_end (S C : List Int) (r : Int) : lnX S C r C.length = lnTo S C r C.length := by unfold lnX; rw [List.drop_length, List.append_nil]
theorem lnTo_in (S C : List Int) (r : Int) (k : Nat) {x : Int} (h : x ∈ lnTo S C r k) : ∃ j, j < k ∧ gi C j = x ∧ needB (lnT S C r j) S (gi C j) r = true := by
  induction k with
  | zero => simp [lnTo] at h
  | succ k ih =>
    rw [lnTo] at h
    split at h
    · rename_i hb
      rcases List.mem_append.1 h with h | h
      · obtain ⟨j, h1, h2⟩ := ih h; exact ⟨j, by omega, h2⟩
      · exact ⟨k, by omega, (by simpa using h : x = gi C k).symm, hb⟩
    · obtain ⟨j, h1, h2⟩ := ih h; exact ⟨j, by omega, h2⟩
theorem lnTo_put (S C : List Int) (r : Int) (j : Nat) (hb : needB (lnT S C r j) S (gi C j) r = true) (k : Nat) (hk : j < k) : gi C j ∈ lnTo S C r k := by
  induction k with
  | zero => omega
  | succ k ih =>
    rw [lnTo]
    by_cases e : j = k
    · subst e; rw [if_pos hb]; simp
    · have := ih (by omega)
      split
      · exact List.mem_append.2 (.inl this)
      · exact this
theorem lnTo_sub (S C : List Int) (r : Int) (k : Nat) (hk : k ≤ C.length) : (lnTo S C r k).Sublist (C.take k) := by
  induction k with
  | zero => simp [lnTo]
  | succ k ih =>
    rw [lnTo, take_snoc C k (by omega)]
    split
    · exact (ih (by omega)).append (List.Sublist.refl _)
    · exact (ih (by omega)).trans (List.sublist_append_left _ _)
/-- a word of the lean code has a word that it alone covers -/
theorem ln_alone (S C : List Int) (r : Int) {x : Int} (h : x ∈ lnTo S C r C.length) : ∃ u : Nat, u < (nW S).toNat ∧ ballB S x r u = true ∧ cvN S r (lnTo S C r C.length) u = 1 := by
  obtain ⟨j, hj, rfl, hb⟩ := lnTo_in S C r _ h
  obtain ⟨u, hu, e, h1⟩ := (needB_iff _ _ _ _).1 hb
  rw [lnT_cv S C r j (by omega) u hu] at h1
  have h2 := lnX_le S C r u j (C.length - j) (by omega)
  rw [Nat.add_sub_cancel' (by omega), lnX_end] at h2
  have h3 := cvN_pos h e
  exact ⟨u, hu, e, by omega⟩
theorem needTo_all (S L : List Int) (r : Int) (h : ∀ x, x ∈ L → needB (timesL S L r) S x r = true) (k : Nat) (hk : k ≤ L.length) : needTo S L r k = L.take k := by
  induction k with
  | zero => rfl
  | succ k ih => rw [needTo, if_pos (h _ (gi_mem (by omega))), ih (by omega), take_snoc L k (by omega)]
theorem needTo_in (S L : List Int) (r : Int) (k : Nat) {x : Int} (h : x ∈ needTo S L r k) : ∃ j, j < k ∧ gi L j = x ∧ needB (timesL S L r) S (gi L j) r = true := by
  induction k with
  | zero => simp [needTo] at h
  | succ k ih =>
    rw [needTo] at h
    split at h
    · rename_i hb
      rcases List.mem_append.1 h with h | h
      · obtain ⟨j, h1, h2⟩ := ih h; exact ⟨j, by omega, h2⟩
      · exact ⟨k, by omega, (by simpa using h : x = gi L k).symm, hb⟩
    · obtain ⟨j, h1, h2⟩ := ih h; exact ⟨j, by omega, h2⟩
theorem selL_congrV {p q : Nat → Bool} (n : Nat) (h : ∀ u, u < n → p u = q u) : selL p n = selL q n := by
  unfold selL
  rw [List.filter_congr fun u hu => h u (List.mem_range.1 hu)]
/-- what holds of a code and its lean code -/
theorem fl_all {S C : List Int} {r : Int} (h : eCov S C r = 0) : eCov S (vLean S C r) r = 0 ∧ vUnc S (vLean S C r) r = vUnc S C r ∧ vNeed S (vLean S C r) r = vLean S C r ∧ (∀ x, x ∈ vNeed S C r → x ∈ vLean S C r) ∧ vCovS S C r = decide ((vUnc S C r).length = 0) := by
  obtain ⟨hz, r0, r8⟩ := eCov_zero h
  obtain ⟨hS, hc1, hc2⟩ := eCode_zero hz
  have isS := (isSp_iff S).2 hS
  have hL : vLean S C r = lnTo S C r C.length := by unfold vLean; rw [if_pos h]
  have hsub := lnTo_sub S C r C.length (Nat.le_refl _)
  rw [List.take_length] at hsub
  have hasc : Asc (lnTo S C r C.length) := List.Pairwise.sublist hsub (asc_code hz)
  have hcd : eCode S (lnTo S C r C.length) = 0 := by
    unfold eCode
    rw [if_pos isS, if_pos ((codeB_iff _ _).2 ⟨fun i hi => ?_, fun i h0 hi => asc_lt hasc (by omega) hi⟩)]
    obtain ⟨j, hj, e⟩ := mem_gi (hsub.subset (gi_mem hi))
    rw [← e]; exact hc1 j hj
  have hcv : eCov S (lnTo S C r C.length) r = 0 := by unfold eCov; rw [if_pos hcd, if_pos ⟨r0, r8⟩]
  rw [hL]
  refine ⟨hcv, ?_, ?_, ?_, ?_⟩
  · unfold vUnc
    rw [if_pos hcv, if_pos h]
    refine selL_congrV _ fun u hu => ?_
    unfold uncP
    rw [tAt_cvN, tAt_cvN]
    have := lnX_zero S C r u hu C.length (Nat.le_refl _)
    rw [lnX_end] at this
    rw [Bool.eq_iff_iff, beq_iff_eq, beq_iff_eq]
    omega
  · unfold vNeed
    rw [if_pos hcv, needTo_all S _ r (fun x hx => ?_) _ (Nat.le_refl _), List.take_length]
    obtain ⟨u, hu, e, h1⟩ := ln_alone S C r hx
    exact (needB_iff _ _ _ _).2 ⟨u, hu, e, by rw [gi_timesA _ _ _ _ hu, tAt_cvN, h1]; rfl⟩
  · intro x hx
    unfold vNeed at hx
    rw [if_pos h] at hx
    obtain ⟨j, hj, rfl, hb⟩ := needTo_in S C r _ hx
    obtain ⟨u, hu, e, h1⟩ := (needB_iff _ _ _ _).1 hb
    rw [gi_timesA _ _ _ _ hu, tAt_cvN] at h1
    refine lnTo_put S C r j ((needB_iff _ _ _ _).2 ⟨u, hu, e, ?_⟩) _ hj
    rw [lnT_cv S C r j (by omega) u hu]
    have h2 := lnX_le S C r u 0 j (by omega)
    rw [Nat.zero_add] at h2
    have h3 : cvN S r (lnX S C r 0) u = cvN S r C u := rfl
    have h4 : 1 ≤ cvN S r (lnX S C r j) u := by
      refine cvN_pos (x := gi C j) ?_ e
      unfold lnX
      rw [drop_gi C j hj]; simp
    omega
  · unfold vCovS vUnc
    rw [if_pos h, if_pos h]

theorem farB_ge (f : Nat → Int) (k j : Nat) (h : j ≤ k) : f j ≤ (farB f k).2 := by
  induction k with
  | zero => obtain rfl : j = 0 := by omega
            exact Int.le_refl _
  | succ k ih =>
    simp only [farB]
    by_cases e : j = k + 1
    · subst e; split
      · exact Int.le_refl _
      · omega
    · have := ih (by omega)
      split
      · show f j ≤ f (k + 1); omega
      · exact this
theorem unc_far {S C : List Int} {r : Int} {u : Nat} (hC : 0 < C.length) : uncP S C r u = decide (r < toW S C (u : Int)) := by
  unfold uncP
  rw [Bool.eq_iff_iff, beq_iff_eq, decide_eq_true_eq]
  show tcov S C r (u : Int) C.length = 0 ↔ _
  unfold tcov
  rw [cnt_zero]
  obtain ⟨j, hj, e⟩ := minTo_at (fun k => dist S (gi C k) (u : Int)) (C.length - 1)
  have e2 : toW S C (u : Int) = minTo (fun k => dist S (gi C k) (u : Int)) (C.length - 1) := rfl
  constructor
  · intro h
    have := h j (by omega)
    rw [e2, ← e]
    simpa using this
  · intro h k hk
    have := minTo_le (fun k => dist S (gi C k) (u : Int)) (C.length - 1) k (by omega)
    rw [e2] at h
    simp only [decide_eq_false_iff_not]
    show ¬ dist S (gi C k) (u : Int) ≤ r
    have h3 : minTo (fun k => dist S (gi C k) (u : Int)) (C.length - 1) ≤ dist S (gi C k) (u : Int) := this
    omega
/-- what holds of a code's radius -/
theorem fr_all {S C : List Int} (h : eFull S C = 0) : eCov S C (vRadius S C) = 0 ∧ vCovS S C (vRadius S C) = true ∧ 0 ≤ vRadius S C ∧ vRadius S C ≤ 8 ∧ (0 < vRadius S C → eCov S C (vRadius S C - 1) = 0 ∧ vCovS S C (vRadius S C - 1) = false) := by
  obtain ⟨hz, hC⟩ := eFull_zero h
  obtain ⟨hS, _, _⟩ := eCode_zero hz
  have N := nW_bd hS
  have hr : vRadius S C = (farW S C).2 := by unfold vRadius; rw [if_pos h]
  have hb := (farB_bd (fun (u : Nat) => toW S C (u : Int)) ((nW S).toNat - 1) 0 S.length (fun j _ => toW_bd S C j))
  have h8 := hS.hi
  have hR0 : 0 ≤ vRadius S C := by rw [hr]; exact hb.2.1
  have hR8 : vRadius S C ≤ 8 := by rw [hr]; have : (farW S C).2 ≤ S.length := hb.2.2; omega
  have e0 : eCov S C (vRadius S C) = 0 := by unfold eCov; rw [if_pos hz, if_pos ⟨hR0, hR8⟩]
  refine ⟨e0, ?_, hR0, hR8, fun hp => ?_⟩
  · unfold vCovS
    rw [if_pos e0, decide_eq_true_eq]
    unfold selL
    rw [List.length_map, List.length_eq_zero_iff, List.filter_eq_nil_iff]
    intro u hu
    have hu := List.mem_range.1 hu
    rw [unc_far hC, decide_eq_true_eq]
    have : toW S C (u : Int) ≤ (farW S C).2 := farB_ge (fun (u : Nat) => toW S C (u : Int)) ((nW S).toNat - 1) u (by omega)
    omega
  · have e1 : eCov S C (vRadius S C - 1) = 0 := by unfold eCov; rw [if_pos hz, if_pos ⟨by omega, by omega⟩]
    refine ⟨e1, ?_⟩
    unfold vCovS
    rw [if_pos e1, decide_eq_false_iff_not]
    unfold selL
    rw [List.length_map, List.length_eq_zero_iff, List.filter_eq_nil_iff]
    intro g
    have hf := farB_at (fun (u : Nat) => toW S C (u : Int)) ((nW S).toNat - 1)
    have hb1 := hb.1
    have hm := g (farB (fun (u : Nat) => toW S C (u : Int)) ((nW S).toNat - 1)).1.toNat (List.mem_range.2 (by omega))
    rw [unc_far hC, decide_eq_true_eq] at hm
    have e3 : toW S C (((farB (fun (u : Nat) => toW S C (u : Int)) ((nW S).toNat - 1)).1.toNat : Nat) : Int) = (farW S C).2 := hf
    rw [e3, ← hr] at hm
    omega

end Cv
end Go.Proofs.YtcnnijeokefboaaGreatDoor

namespace Go.Proofs.YtcnnijeokefboaaGreatDoor
open Cv
set_option linter.unusedVariables false
set_option linter.unusedSimpArgs false

theorem nr_ldr {S C : List Int} (hP : Pl S) (g : Gp S C) {x : Int} (hx : Wd S x) : dist S (nrW S C x) x = dist S 0 (ldr S C x) := by
  have h := (minus_iff hP.sp (g.wd _ (nr_mem hP g hx)) (ldr_wd hP g x) hx).2 rfl
  have h2 := dist_add hP.sp (nrW S C x) (ldr S C x)
  rw [h] at h2; exact h2
theorem ldr_least {S C : List Int} (hP : Pl S) (g : Gp S C) {x c : Int} (hx : Wd S x) (hc : c ∈ C) : dist S 0 (ldr S C x) ≤ dist S c x := by
  obtain ⟨v, hv, e⟩ := gp_neg hP g hc
  have hy : sumW S v x ∈ shL S C x := (mem_shL _ _ _ _).2 ⟨v, hv, rfl⟩
  have hl := List.length_pos_of_mem g.zero
  have hi := ldr_is S (shL S C x) (by rw [shL_len]; exact hl)
  have h1 := hi.2 _ hy
  rw [← Bool.not_eq_true, lgt_iff] at h1
  have h2 := dist_add hP.sp c (sumW S v x)
  rw [← sum_assoc hP.sp, e, sum_0l hP.sp hx] at h2
  change ¬ (dist S 0 (sumW S v x) < dist S 0 (ldr S C x) ∨ _) at h1
  omega
theorem to_ldr {S C : List Int} (hP : Pl S) (g : Gp S C) {x : Int} (hx : Wd S x) : toW S C x = dist S 0 (ldr S C x) := by
  have hl := List.length_pos_of_mem g.zero
  obtain ⟨j, hj, e⟩ := minTo_at (fun k => dist S (gi C k) x) (C.length - 1)
  have h1 : toW S C x = dist S (gi C j) x := e.symm
  have h2 := ldr_least hP g hx (gi_mem (show j < C.length by omega))
  obtain ⟨i, hi, e2⟩ := mem_gi (nr_mem hP g hx)
  have h3 := minTo_le (fun k => dist S (gi C k) x) (C.length - 1) i (by omega)
  have h4 := nr_ldr hP g hx
  have h3' : toW S C x ≤ dist S (gi C i) x := h3
  rw [e2, h4] at h3'
  omega
theorem sh_same {S C : List Int} (hP : Pl S) (g : Gp S C) {x y : Int} (hx : Wd S x) (hy : y ∈ shL S C x) (z : Int) : z ∈ shL S C y ↔ z ∈ shL S C x := by
  have key : ∀ {a b : Int}, b ∈ shL S C a → ∀ z, z ∈ shL S C b → z ∈ shL S C a := by
    intro a b hb z hz
    obtain ⟨u, hu, rfl⟩ := (mem_shL _ _ _ _).1 hb
    obtain ⟨v, hv, rfl⟩ := (mem_shL _ _ _ _).1 hz
    exact (mem_shL _ _ _ _).2 ⟨sumW S v u, g.sum v u hv hu, sum_assoc hP.sp _ _ _⟩
  exact ⟨key hy z, key (sh_back hP g hx hy) z⟩
theorem ldr_same {S C : List Int} (hP : Pl S) (g : Gp S C) {x y : Int} (hx : Wd S x) (hy : y ∈ shL S C x) : ldr S C y = ldr S C x := by
  have hl := List.length_pos_of_mem g.zero
  exact ldr_uniq (sh_same hP g hx hy) (ldr_is S _ (by rw [shL_len]; exact hl)) (ldr_is S _ (by rw [shL_len]; exact hl))
theorem kn_ldr {S C : List Int} (hP : Pl S) (g : Gp S C) (k : Nat) (hk : k ≤ (nW S).toNat) : ∀ y, y ∈ knTo S C k → ldr S C y ∈ ldsTo S C k := by
  induction k with
  | zero => intro y hy; simp [knTo] at hy
  | succ k ih =>
    have h1 := ih (by omega)
    by_cases e : (k : Int) ∈ knTo S C k
    · rw [(kn_yes e).1, (kn_yes e).2.1]; exact h1
    · rw [(kn_no e).1, (kn_no e).2.1]
      intro y hy
      rcases List.mem_append.1 hy with hy | hy
      · exact List.mem_append_left _ (h1 y hy)
      · rw [ldr_same hP g (wd_nat (by omega)) hy]; simp
theorem kn_mono {S C : List Int} {j k : Nat} (h : j ≤ k) {y : Int} (hy : y ∈ knTo S C j) : y ∈ knTo S C k := by
  induction k with
  | zero => obtain rfl : j = 0 := by omega
            exact hy
  | succ k ih =>
    by_cases e : j = k + 1
    · subst e; exact hy
    · have := ih (by omega)
      rw [knTo]
      split
      · exact this
      · exact List.mem_append_left _ this
theorem kn_has {S C : List Int} (hP : Pl S) (g : Gp S C) {j k : Nat} (hj : j < k) (hk : k ≤ (nW S).toNat) : (j : Int) ∈ knTo S C k := by
  refine kn_mono (j := j + 1) (by omega) ?_
  by_cases e : (j : Int) ∈ knTo S C j
  · rw [(kn_yes e).1]; exact e
  · rw [(kn_no e).1]; exact List.mem_append_right _ (sh_self hP g (wd_nat (by omega)))
theorem kn_nd {S C : List Int} (hP : Pl S) (g : Gp S C) (k : Nat) (hk : k ≤ (nW S).toNat) : (knTo S C k).Nodup ∧ (knTo S C k).length = (ldsTo S C k).length * C.length := by
  induction k with
  | zero => simp [knTo, ldsTo]
  | succ k ih =>
    obtain ⟨h1, h2⟩ := ih (by omega)
    by_cases e : (k : Int) ∈ knTo S C k
    · rw [(kn_yes e).1, (kn_yes e).2.1]; exact ⟨h1, h2⟩
    · rw [(kn_no e).1, (kn_no e).2.1]
      refine ⟨List.nodup_append.2 ⟨h1, nd_shL hP.sp g _, fun a ha b hb e2 => ?_⟩, ?_⟩
      · subst e2
        exact e ((kn_closed hP g k (by omega) _ ha).2 _ (sh_back hP g (wd_nat (by omega)) hb))
      · rw [List.length_append, List.length_append, h2, shL_len, Nat.add_mul]; simp
theorem lds_times {S C : List Int} (hP : Pl S) (g : Gp S C) : ((ldsM S C (nW S).toNat).length : Int) * C.length = nW S := by
  have N := nW_bd hP.sp
  obtain ⟨h1, h2⟩ := kn_nd hP g (nW S).toNat (Nat.le_refl _)
  have e : (ldsM S C (nW S).toNat).length = (ldsTo S C (nW S).toNat).length := by rw [← lds_same hP g _ (Nat.le_refl _), sorted_len]
  have l1 := nd_len (M := (List.range (nW S).toNat).map fun (i : Nat) => (i : Int)) h1 fun x hx => by
    have q := (kn_closed hP g _ (Nat.le_refl _) x hx).1
    unfold Wd at q
    exact List.mem_map.2 ⟨x.toNat, by rw [List.mem_range]; omega, by omega⟩
  have l2 := nd_len (L := (List.range (nW S).toNat).map fun (i : Nat) => (i : Int)) (M := knTo S C (nW S).toNat) (List.Pairwise.map _ (fun a b h => by omega) (List.nodup_range (n := (nW S).toNat))) fun x hx => by
    obtain ⟨i, hi, rfl⟩ := List.mem_map.1 hx
    exact kn_has hP g (List.mem_range.1 hi) (Nat.le_refl _)
  rw [List.length_map, List.length_range] at l1 l2
  rw [e, ← Int.natCast_mul, ← h2]; omega
theorem lds_of {S C : List Int} (k : Nat) : ∀ y, y ∈ ldsTo S C k → ∃ j, j < k ∧ y = ldr S C (j : Int) := by
  induction k with
  | zero => intro y hy; simp [ldsTo] at hy
  | succ k ih =>
    intro y hy
    by_cases e : (k : Int) ∈ knTo S C k
    · rw [(kn_yes e).2.1] at hy
      obtain ⟨j, hj, h⟩ := ih y hy
      exact ⟨j, by omega, h⟩
    · rw [(kn_no e).2.1] at hy
      rcases List.mem_append.1 hy with hy | hy
      · obtain ⟨j, hj, h⟩ := ih y hy
        exact ⟨j, by omega, h⟩
      · rw [List.mem_singleton] at hy
        exact ⟨k, by omega, hy⟩
theorem wm_ge (S L : List Int) (k i : Nat) (h : i < k) : dist S 0 (gi L i) ≤ wmTo S L k := by
  induction k with
  | zero => omega
  | succ k ih =>
    rw [wmTo]
    by_cases e : i = k
    · subst e; split <;> omega
    · have := ih (by omega)
      split <;> omega
theorem wm_at (S L : List Int) (k : Nat) : wmTo S L k = 0 ∨ ∃ i, i < k ∧ wmTo S L k = dist S 0 (gi L i) := by
  induction k with
  | zero => exact .inl rfl
  | succ k ih =>
    rw [wmTo]
    split
    · exact .inr ⟨k, by omega, rfl⟩
    · rcases ih with h | ⟨i, hi, h⟩
      · exact .inl h
      · exact .inr ⟨i, by omega, h⟩
theorem rad_ldr {S C : List Int} (hP : Pl S) (g : Gp S C) : wmTo S (ldsM S C (nW S).toNat) (ldsM S C (nW S).toNat).length = (farW S C).2 := by
  have N := nW_bd hP.sp
  have h1 : (farW S C).2 ≤ wmTo S (ldsM S C (nW S).toNat) (ldsM S C (nW S).toNat).length := by
    have ha := farB_at (fun (u : Nat) => toW S C (u : Int)) ((nW S).toNat - 1)
    obtain ⟨b1, _⟩ := farB_bd (fun (u : Nat) => toW S C (u : Int)) ((nW S).toNat - 1) 0 S.length (fun j _ => toW_bd S C _)
    obtain ⟨u, hu⟩ : ∃ u, u = (farB (fun (u : Nat) => toW S C (u : Int)) ((nW S).toNat - 1)).1.toNat := ⟨_, rfl⟩
    rw [← hu] at ha
    have hN : u < (nW S).toNat := by omega
    have hw : Wd S (u : Int) := wd_nat hN
    have hm := kn_ldr hP g _ (Nat.le_refl _) _ (kn_has hP g hN (Nat.le_refl _))
    obtain ⟨i, hi, e⟩ := mem_gi ((mem_ldsM _ _ _ _).2 hm)
    have := wm_ge S (ldsM S C (nW S).toNat) _ i hi
    rw [e, ← to_ldr hP g hw] at this
    unfold farW
    rw [← ha]; exact this
  have h2 : wmTo S (ldsM S C (nW S).toNat) (ldsM S C (nW S).toNat).length ≤ (farW S C).2 := by
    rcases wm_at S (ldsM S C (nW S).toNat) (ldsM S C (nW S).toNat).length with h | ⟨i, hi, h⟩
    · rw [h]; exact (farB_bd (fun (u : Nat) => toW S C (u : Int)) ((nW S).toNat - 1) 0 S.length (fun j _ => toW_bd S C _)).2.1
    · obtain ⟨j, hj, e⟩ := lds_of _ _ ((mem_ldsM _ _ _ _).1 (gi_mem hi))
      rw [h, e, ← to_ldr hP g (wd_nat hj)]
      exact farB_ge (fun (u : Nat) => toW S C (u : Int)) ((nW S).toNat - 1) j (by omega)
  omega
theorem wc_sum (S C : List Int) (n : Nat) : wsT (fun _ => 1) (wcTo S C n) (S.length + 1) = n := by
  induction n with
  | zero => rw [wcTo_0, wsT_rep]; rfl
  | succ n ih =>
    have hb := dist_bd S 0 (gi C n)
    obtain ⟨d, hd⟩ : ∃ d : Nat, dist S 0 (gi C n) = (d : Int) := ⟨(dist S 0 (gi C n)).toNat, by omega⟩
    have e : wcTo S C (n + 1) = bump (wcTo S C n) (d : Int) := by rw [← wcTo_step S C n d hd]; rfl
    rw [e, wsT_bump _ _ _ (by omega) (by rw [wcTo_len]; omega), ih, if_pos (by omega)]
    push_cast; rfl
/-- what the law asks of a linear code's leaders -/
theorem ld_all {S C : List Int} (h : eLin S C = 0) : Sp S ∧ eSp S = 0 ∧ vCount S = ((vLds S C).length : Int) * C.length ∧ eFull S C = 0 ∧ vRadius S C = vRad S C ∧ eCode S C = 0 ∧ (vWc S C).length = S.length + 1 ∧ wsT (fun _ => 1) (vWc S C) (S.length + 1) = C.length ∧ (∀ j, 0 ≤ gi (vWc S C) j ∧ gi (vWc S C) j ≤ 1048576) := by
  obtain ⟨hc, hl⟩ := eLin_zero h
  obtain ⟨hP, g⟩ := lin_gp hc hl
  have isS := (isSp_iff S).2 hP.sp
  have hlen := List.length_pos_of_mem g.zero
  have hf : eFull S C = 0 := by unfold eFull; rw [if_neg (by omega)]; exact hc
  have hv : vLds S C = ldsM S C (nW S).toNat := by unfold vLds; rw [if_pos h]
  have hw : vWc S C = wcTo S C C.length := by unfold vWc; rw [if_pos hc]
  have l24 := nd_words hP.sp g.nd g.wd
  refine ⟨hP.sp, by simp [eSp, isS], ?_, hf, ?_, hc, ?_, ?_, fun j => ?_⟩
  · rw [hv, lds_times hP g]; simp [vCount, isS]
  · unfold vRadius vRad; rw [if_pos hf, if_pos h, rad_ldr hP g]
  · rw [hw, wcTo_len]
  · rw [hw, wc_sum]
  · rw [hw]; have := wcTo_bd S C C.length j; omega
theorem vNrW_bd {S C : List Int} {x : Int} (h : eNrW S C x = 0) : Wd S (vNrW S C x) ∧ vNrW S C x ∈ C := by
  obtain ⟨hc, hw, hl⟩ := eNrW_zero h
  obtain ⟨hP, g⟩ := lin_gp hc hl
  have hx := (eW1_zero hw).2
  unfold vNrW
  rw [if_pos h]
  exact ⟨g.wd _ (nr_mem hP g hx), nr_mem hP g hx⟩
/-- and of a nearest word -/
theorem ld_near {S C : List Int} {x : Int} (h : eNrW S C x = 0) : eLin S C = 0 ∧ vNrW S C x ∈ C ∧ eWords S [vNrW S C x, x] = 0 ∧ vDist S (vNrW S C x) x ≤ vRad S C ∧ (0 ≤ vNrW S C x ∧ vNrW S C x ≤ 1024) ∧ ∀ k, k < C.length → eWords S [gi C k, x] = 0 ∧ vDist S (vNrW S C x) x ≤ vDist S (gi C k) x ∧ (0 ≤ gi C k ∧ gi C k ≤ 1024) := by
  obtain ⟨hc, hw, hl⟩ := eNrW_zero h
  obtain ⟨hP, g⟩ := lin_gp hc hl
  have N := nW_bd hP.sp
  have hx := (eW1_zero hw).2
  have e1 : eLin S C = 0 := by unfold eLin; rw [if_pos hc, if_pos hl]
  obtain ⟨hnw, hnm⟩ := vNrW_bd h
  have e2 := eW2_mk hP.sp hnw hx
  have hv : vNrW S C x = nrW S C x := by unfold vNrW; rw [if_pos h]
  have d0 : vDist S (vNrW S C x) x = dist S 0 (ldr S C x) := by unfold vDist; rw [if_pos e2, hv, nr_ldr hP g hx]
  have bn := hnw
  unfold Wd at bn
  refine ⟨e1, hnm, e2, ?_, by omega, fun k hk => ?_⟩
  · rw [d0]
    have hm := kn_ldr hP g _ (Nat.le_refl _) _ (kn_has hP g (j := x.toNat) (k := (nW S).toNat) (by unfold Wd at hx; omega) (Nat.le_refl _))
    obtain ⟨i, hi, e⟩ := mem_gi ((mem_ldsM _ _ _ _).2 hm)
    have := wm_ge S (ldsM S C (nW S).toNat) _ i hi
    rw [e, Int.toNat_of_nonneg hx.1] at this
    unfold vRad; rw [if_pos e1]; exact this
  · have hk' := g.wd _ (gi_mem hk)
    have e3 := eW2_mk hP.sp hk' hx
    have bk := hk'
    unfold Wd at bk
    refine ⟨e3, ?_, by omega⟩
    rw [d0]
    unfold vDist
    rw [if_pos e3]
    exact ldr_least hP g hx (gi_mem hk)
end Go.Proofs.YtcnnijeokefboaaGreatDoor
