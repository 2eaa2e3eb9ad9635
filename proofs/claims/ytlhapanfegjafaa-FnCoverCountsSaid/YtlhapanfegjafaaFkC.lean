/-
  Merged texts: MathK, MathK2, MathV, GrK, SumW. Never import this beside one of them. By an AI agent.
-/
import Derived.Test.YtlhapanfegjafaaMathP
import Derived.Test.YtlhapanfegjafaaMathB
import Derived.Test.YtlhapanfegjafaaMathF
import Derived.Test.YtlhapanfegjafaaFcC
import Derived.Test.YtlhapanfegjafaaHelp
namespace Go.Proofs.Ytlhapanfegjafaa
set_option linter.unusedVariables false
set_option linter.unusedSimpArgs false
namespace Cv

/-- the sum of a list's first k numbers, each with its weight -/
def wsT (g : Nat → Int) (L : List Int) : Nat → Int
  | 0 => 0
  | k + 1 => wsT g L k + g k * gi L k
/-- the sum of the first values -/
def sT (f : Nat → Int) : Nat → Int
  | 0 => 0
  | k + 1 => sT f k + f k
theorem wsT_bump (g : Nat → Int) (L : List Int) (v : Int) (h0 : 0 ≤ v) (hv : v.toNat < L.length) (n : Nat) : wsT g (bump L v) n = wsT g L n + if v.toNat < n then g v.toNat else 0 := by
  induction n with
  | zero => simp [wsT]
  | succ n ih =>
    rw [wsT, wsT, ih]
    have e : gi (bump L v) n = gi L n + if n = v.toNat then 1 else 0 := by
      unfold bump
      rw [gi_set _ _ _ _ hv]
      by_cases e : n = v.toNat
      · subst e; rw [if_pos rfl, if_pos rfl]
      · rw [if_neg e, if_neg e]; omega
    rw [e, Int.mul_add]
    by_cases h1 : n = v.toNat
    · subst h1; rw [if_neg (by omega), if_pos rfl, if_pos (by omega)]; omega
    · rw [if_neg h1, Int.mul_zero]
      by_cases h2 : v.toNat < n
      · rw [if_pos h2, if_pos (by omega)]; omega
      · rw [if_neg h2, if_neg (by omega)]; omega
theorem wsT_rep (g : Nat → Int) (m n : Nat) : wsT g (List.replicate m 0) n = 0 := by
  induction n with
  | zero => rfl
  | succ n ih => rw [wsT, ih, gi_rep0]; simp
theorem wsT_cov (g f : Nat → Int) (n : Nat) (k : Nat) (h : ∀ u, u < k → 0 ≤ f u ∧ (f u).toNat < n) : wsT g (covTo f n k) n = sT (fun u => g (f u).toNat) k := by
  induction k with
  | zero => rw [covTo, wsT_rep]; rfl
  | succ k ih =>
    obtain ⟨h1, h2⟩ := h k (by omega)
    rw [covTo, wsT_bump g _ _ h1 (by rw [covTo_len]; exact h2), ih fun u hu => h u (by omega), if_pos h2]
    rfl
theorem sT_congr {f g : Nat → Int} (n : Nat) (h : ∀ u, u < n → f u = g u) : sT f n = sT g n := by
  induction n with
  | zero => rfl
  | succ n ih => rw [sT, sT, ih fun u hu => h u (by omega), h n (by omega)]
theorem sT_add (f g : Nat → Int) (n : Nat) : sT (fun u => f u + g u) n = sT f n + sT g n := by
  induction n with
  | zero => rfl
  | succ n ih => simp only [sT]; rw [ih]; omega
theorem sT_one (n : Nat) : sT (fun _ => 1) n = n := by
  induction n with
  | zero => rfl
  | succ n ih => rw [sT, ih]; omega
theorem sT_zero (n : Nat) : sT (fun _ => 0) n = 0 := by
  induction n with
  | zero => rfl
  | succ n ih => rw [sT, ih]; omega
theorem sT_sel (p : Nat → Bool) (n : Nat) : sT (fun u => if p u = true then 1 else 0) n = ((selTo p n).length : Int) := by
  induction n with
  | zero => rfl
  | succ n ih =>
    rw [sT, ih, selTo, List.length_append]
    by_cases e : p n = true
    · rw [if_pos e, if_pos e]; simp
    · rw [if_neg e, if_neg e]; simp
theorem exS_sT (f : Nat → Int) (n : Nat) : exS f n = sT f n - n := by
  induction n with
  | zero => rfl
  | succ n ih => rw [exS, sT, ih]; omega
theorem sT_tcov {S : List Int} (hS : Sp S) (C : List Int) {r : Int} (hr : 0 ≤ r) (k : Nat) : sT (fun u => tcov S C r (u : Int) k) (nW S).toNat = (k : Int) * sizeN S r := by
  induction k with
  | zero =>
    have e : sT (fun u => tcov S C r (u : Int) 0) (nW S).toNat = sT (fun _ => 0) (nW S).toNat := sT_congr _ fun u _ => rfl
    rw [e, sT_zero]; simp
  | succ k ih =>
    have e : sT (fun u => tcov S C r (u : Int) (k + 1)) (nW S).toNat = sT (fun u => tcov S C r (u : Int) k + if ballB S (gi C k) r u = true then 1 else 0) (nW S).toNat := by
      refine sT_congr _ fun u hu => ?_
      rw [tcov_ball S C r u k hu]
      have h3 : cntIn (ballW S (gi C k) r) u (ballW S (gi C k) r).length = if u < (nW S).toNat ∧ ballB S (gi C k) r u = true then 1 else 0 := cntIn_sel _ _ _
      rw [h3]
      by_cases e : ballB S (gi C k) r u = true
      · rw [if_pos ⟨hu, e⟩, if_pos e]
      · rw [if_neg (fun g => e g.2), if_neg e]
    have h4 : ((selTo (ballB S (gi C k) r) (nW S).toNat).length : Int) = sizeN S r := ballW_size hS (gi C k) hr
    rw [e, sT_add, ih, sT_sel, h4]
    push_cast
    rw [Int.add_mul, Int.one_mul]
theorem cov0_iff (f : Nat → Int) (n : Nat) (hn : 1 ≤ n) (k : Nat) (h : ∀ u, u < k → 0 ≤ f u ∧ (f u).toNat < n) : gi (covTo f n k) 0 = 0 ↔ zTo f k = false := by
  induction k with
  | zero => simp [covTo, zTo, gi_rep0]
  | succ k ih =>
    obtain ⟨h1, h2⟩ := h k (by omega)
    have hb := covTo_bd f n k 0
    have ih' := ih fun u hu => h u (by omega)
    have hl := covTo_len f n k
    rw [covTo, zTo, Bool.or_eq_false_iff, ← ih', decide_eq_false_iff_not]
    unfold bump
    rw [gi_set _ _ _ _ (by rw [hl]; exact h2)]
    by_cases e : f k = 0
    · rw [e]; simp; omega
    · rw [if_neg (by omega)]
      exact ⟨fun g => ⟨g, e⟩, fun g => g.1⟩
/-- what holds of the counts of a code that covers -/
theorem fk_all {S C : List Int} {r : Int} (h : eCov S C r = 0) : (vCov S C r).length = C.length + 1 ∧ wsT (fun _ => 1) (vCov S C r) (C.length + 1) = nW S ∧ wsT (fun k => (k : Int)) (vCov S C r) (C.length + 1) = vSize S r * C.length ∧ (eExc S C r = 0 ↔ gi (vCov S C r) 0 = 0) ∧ (eExc S C r = 0 → vExc S C r = vSize S r * C.length - nW S) := by
  obtain ⟨hz, r0, r8⟩ := eCov_zero h
  obtain ⟨hS, _, _⟩ := eCode_zero hz
  have N := nW_bd hS
  have hv : vCov S C r = covTo (tAt S C r) (C.length + 1) (nW S).toNat := by unfold vCov; rw [if_pos h]
  have e0 : eBall S 0 r = 0 := by
    unfold eBall
    have : eWords S [0] = 0 := by
      unfold eWords
      rw [if_pos ((isSp_iff S).2 hS), if_pos ((okW_iff _ _ _).2 fun i hi => ?_)]
      have : i = 0 := by simpa using hi
      subst this; exact ⟨Int.le_refl _, by show (0 : Int) < nW S; omega⟩
    rw [if_pos this, if_pos ⟨r0, r8⟩]
  have hsz : vSize S r = sizeN S r := by unfold vSize; rw [if_pos e0]
  have hf : ∀ u, u < (nW S).toNat → 0 ≤ tAt S C r u ∧ (tAt S C r u).toNat < C.length + 1 := fun u _ => by have := tAt_bd S C r u; omega
  have hsum : sT (tAt S C r) (nW S).toNat = (C.length : Int) * sizeN S r := sT_tcov hS C r0 C.length
  have hc0 := cov0_iff (tAt S C r) (C.length + 1) (by omega) (nW S).toNat hf
  rw [hv, hsz]
  refine ⟨covTo_len _ _ _, ?_, ?_, ?_, ?_⟩
  · rw [wsT_cov _ _ _ _ hf, sT_one]; omega
  · rw [wsT_cov _ _ _ _ hf, sT_congr (g := tAt S C r) _ fun u hu => Int.toNat_of_nonneg (hf u hu).1, hsum, Int.mul_comm]
  · rw [hc0]
    unfold eExc
    rw [if_pos h]
    cases zTo (tAt S C r) (nW S).toNat <;> simp
  · intro hx
    have hzt : zTo (tAt S C r) (nW S).toNat = false := by
      unfold eExc at hx
      rw [if_pos h] at hx
      cases e : zTo (tAt S C r) (nW S).toNat with
      | false => rfl
      | true => rw [e] at hx; simp at hx
    unfold vExc
    rw [if_pos ⟨h, hzt⟩, exS_sT, hsum, Int.mul_comm]
    omega

end Cv
end Go.Proofs.Ytlhapanfegjafaa

namespace Go.Proofs.Ytlhapanfegjafaa
set_option linter.unusedVariables false
set_option linter.unusedSimpArgs false
namespace Cv

theorem wsT_id_bd {L : List Int} {m : Int} (h : ∀ j, 0 ≤ gi L j ∧ gi L j ≤ m) (k : Nat) (hk : k ≤ 1026) : 0 ≤ wsT (fun k => (k : Int)) L k ∧ wsT (fun k => (k : Int)) L k ≤ k * (1026 * m) := by
  have hm : 0 ≤ m := by have := h 0; omega
  induction k with
  | zero => simp [wsT]
  | succ k ih =>
    obtain ⟨i1, i2⟩ := ih (by omega)
    obtain ⟨g1, g2⟩ := h k
    have a1 : 0 ≤ (k : Int) * gi L k := Int.mul_nonneg (by omega) g1
    have a2 : (k : Int) * gi L k ≤ 1026 * m := Int.mul_le_mul (by omega) g2 g1 (by omega)
    rw [wsT]
    have e : ((k + 1 : Nat) : Int) * (1026 * m) = k * (1026 * m) + 1026 * m := by push_cast; rw [Int.add_mul, Int.one_mul]
    rw [e]
    exact ⟨by show 0 ≤ _ + (k : Int) * gi L k; omega, by show _ + (k : Int) * gi L k ≤ _; omega⟩

/-- the bounds of what is added up -/
theorem fk_bd {S C : List Int} {r : Int} (h : eCov S C r = 0) : C.length ≤ 1024 ∧ (∀ j, 0 ≤ gi (vCov S C r) j ∧ gi (vCov S C r) j ≤ 1024) ∧ (∀ k, k ≤ C.length + 1 → 0 ≤ wsT (fun k => (k : Int)) (vCov S C r) k ∧ wsT (fun k => (k : Int)) (vCov S C r) k ≤ 2000000000) ∧ (∀ k, k < C.length + 1 → 0 ≤ (k : Int) * gi (vCov S C r) k ∧ (k : Int) * gi (vCov S C r) k ≤ 2000000000) ∧ eSp S = 0 ∧ vCount S = nW S ∧ eBall S 0 r = 0 := by
  obtain ⟨hz, r0, r8⟩ := eCov_zero h
  obtain ⟨hS, _, _⟩ := eCode_zero hz
  have N := nW_bd hS
  have hlen := vCov_len S C r
  have hl2 := (fk_all h).1
  have hv : vCov S C r = covTo (tAt S C r) (C.length + 1) (nW S).toNat := by unfold vCov; rw [if_pos h]
  have hb : ∀ j, 0 ≤ gi (vCov S C r) j ∧ gi (vCov S C r) j ≤ 1024 := fun j => by
    have := covTo_bd (tAt S C r) (C.length + 1) (nW S).toNat j
    rw [hv]; omega
  refine ⟨by omega, hb, fun k hk => ?_, fun k hk => ?_, ?_, ?_, ?_⟩
  · obtain ⟨a, b⟩ := wsT_id_bd hb k (by omega)
    refine ⟨a, ?_⟩
    have : (k : Int) * (1026 * 1024) ≤ 1026 * (1026 * 1024) := Int.mul_le_mul (by omega) (Int.le_refl _) (by omega) (by omega)
    omega
  · obtain ⟨g1, g2⟩ := hb k
    have a1 : 0 ≤ (k : Int) * gi (vCov S C r) k := Int.mul_nonneg (by omega) g1
    have a2 : (k : Int) * gi (vCov S C r) k ≤ 1026 * 1024 := Int.mul_le_mul (by omega) g2 g1 (by omega)
    omega
  · have := (isSp_iff S).2 hS
    simp [eSp, this]
  · have := (isSp_iff S).2 hS
    simp [vCount, this]
  · unfold eBall
    have : eWords S [0] = 0 := by
      unfold eWords
      rw [if_pos ((isSp_iff S).2 hS), if_pos ((okW_iff _ _ _).2 fun i hi => ?_)]
      have : i = 0 := by simpa using hi
      subst this; exact ⟨Int.le_refl _, by show (0 : Int) < nW S; omega⟩
    rw [if_pos this, if_pos ⟨r0, r8⟩]
theorem vSize_bd2 {S C : List Int} {r : Int} (h : eCov S C r = 0) : 0 ≤ vSize S r * C.length ∧ vSize S r * C.length ≤ 2000000000 := by
  obtain ⟨a, _, b, _⟩ := fk_all h
  obtain ⟨_, _, c, _⟩ := fk_bd h
  have := c (C.length + 1) (Nat.le_refl _)
  rw [fk_all h |>.2.2.1] at this
  exact this
theorem vCov_bad {S C : List Int} {r : Int} (h : eCov S C r ≠ 0) : vCov S C r = [] := by unfold vCov; rw [if_neg h]
end Cv
end Go.Proofs.Ytlhapanfegjafaa

namespace Go.Proofs.Ytlhapanfegjafaa
set_option linter.unusedVariables false
set_option linter.unusedSimpArgs false
namespace Cv

/-- how many words of a list cover a word -/
def cvN (S : List Int) (r : Int) (X : List Int) (u : Nat) : Nat := (X.filter fun x => ballB S x r u).length
theorem cvN_app (S : List Int) (r : Int) (X Y : List Int) (u : Nat) : cvN S r (X ++ Y) u = cvN S r X u + cvN S r Y u := by unfold cvN; rw [List.filter_append, List.length_append]
theorem cvN_cons (S : List Int) (r x : Int) (Y : List Int) (u : Nat) : cvN S r (x :: Y) u = (if ballB S x r u = true then 1 else 0) + cvN S r Y u := by
  unfold cvN
  rw [List.filter_cons]
  by_cases h : ballB S x r u = true
  · rw [if_pos h, if_pos h, List.length_cons]; omega
  · rw [if_neg h, if_neg h]; omega
theorem cvN_pos {S : List Int} {r x : Int} {X : List Int} {u : Nat} (hx : x ∈ X) (h : ballB S x r u = true) : 1 ≤ cvN S r X u :=
  List.length_pos_of_mem (List.mem_filter.2 ⟨hx, h⟩)
theorem tcov_cvN (S X : List Int) (r : Int) (u : Nat) : ∀ k, k ≤ X.length → tcov S X r (u : Int) k = (cvN S r (X.take k) u : Int) := by
  intro k
  induction k with
  | zero => intro _; simp [tcov, cnt, cvN]
  | succ k ih =>
    intro hk
    have h1 := ih (by omega)
    unfold tcov at h1 ⊢
    rw [cnt, h1, take_snoc X k (by omega), cvN_app, cvN_cons]
    have e : ballB S (gi X k) r u = decide (dist S (gi X k) (u : Int) ≤ r) := by unfold ballB; rw [dist_comm]
    rw [e]
    by_cases h : dist S (gi X k) (u : Int) ≤ r
    · simp [h, cvN]
    · simp [h, cvN]
theorem tAt_cvN (S X : List Int) (r : Int) (u : Nat) : tAt S X r u = (cvN S r X u : Int) := by
  unfold tAt
  rw [tcov_cvN S X r u X.length (Nat.le_refl _), List.take_length]
theorem mem_selTo {p : Nat → Bool} {n : Nat} {y : Int} : y ∈ selTo p n ↔ ∃ u : Nat, u < n ∧ p u = true ∧ y = (u : Int) := by
  induction n with
  | zero => simp [selTo]
  | succ n ih =>
    rw [selTo, List.mem_append, ih]
    constructor
    · rintro (⟨u, h1, h2, h3⟩ | h)
      · exact ⟨u, by omega, h2, h3⟩
      · by_cases e : p n = true
        · rw [if_pos e] at h; exact ⟨n, by omega, e, by simpa using h⟩
        · rw [if_neg e] at h; cases h
    · rintro ⟨u, h1, h2, h3⟩
      by_cases e : u = n
      · subst e; exact .inr (by rw [if_pos h2]; simpa using h3)
      · exact .inl ⟨u, by omega, h2, h3⟩
theorem needB_iff (T S : List Int) (x r : Int) : needB T S x r = true ↔ ∃ u : Nat, u < (nW S).toNat ∧ ballB S x r u = true ∧ gi T u = 1 := by
  unfold needB
  rw [oneTo_iff]
  constructor
  · rintro ⟨j, hj, h⟩
    have hm : gi (ballW S x r) j ∈ ballW S x r := gi_mem hj
    obtain ⟨u, h1, h2, h3⟩ := mem_selTo.1 hm
    rw [h3, Int.toNat_natCast] at h
    exact ⟨u, h1, h2, h⟩
  · rintro ⟨u, h1, h2, h3⟩
    have hm : (u : Int) ∈ ballW S x r := mem_selTo.2 ⟨u, h1, h2, rfl⟩
    obtain ⟨j, hj, e⟩ := mem_gi hm
    exact ⟨j, hj, by rw [e, Int.toNat_natCast]; exact h3⟩

/-- what is kept of a code and what is not yet asked -/
def lnX (S C : List Int) (r : Int) (k : Nat) : List Int := lnTo S C r k ++ C.drop k
theorem drop_gi (C : List Int) (k : Nat) (h : k < C.length) : C.drop k = gi C k :: C.drop (k + 1) := by rw [List.drop_eq_getElem_cons h, gi_lt C k h]
theorem lnX_cv (S C : List Int) (r : Int) (k : Nat) (hk : k < C.length) (u : Nat) : cvN S r (lnX S C r k) u = cvN S r (lnX S C r (k + 1)) u + (if needB (lnT S C r k) S (gi C k) r = true then 0 else if ballB S (gi C k) r u = true then 1 else 0) := by
  unfold lnX
  rw [drop_gi C k hk, lnTo]
  by_cases h : needB (lnT S C r k) S (gi C k) r = true
  · rw [if_pos h, if_pos h, cvN_app, cvN_cons, cvN_app, cvN_app, cvN_cons]
    simp [cvN]; omega
  · rw [if_neg h, if_neg h, cvN_app, cvN_cons, cvN_app]; omega
theorem lnT_cv (S C : List Int) (r : Int) (k : Nat) (hk : k ≤ C.length) (u : Nat) (hu : u < (nW S).toNat) : gi (lnT S C r k) u = (cvN S r (lnX S C r k) u : Int) := by
  induction k with
  | zero => rw [lnT, gi_timesA _ _ _ _ hu, tAt_cvN]; rfl
  | succ k ih =>
    have h1 := ih (by omega)
    have h2 := lnX_cv S C r k (by omega) u
    rw [lnT]
    by_cases h : needB (lnT S C r k) S (gi C k) r = true
    · rw [if_pos h] at h2 ⊢; rw [h1]; omega
    · rw [if_neg h] at h2 ⊢
      rw [gi_decL _ _ _ (by rw [lnT_len]; exact hu), h1]
      have h3 : cntIn (ballW S (gi C k) r) u (ballW S (gi C k) r).length = if u < (nW S).toNat ∧ ballB S (gi C k) r u = true then 1 else 0 := cntIn_sel _ _ _
      rw [h3]
      by_cases e : ballB S (gi C k) r u = true
      · rw [if_pos e] at h2; rw [if_pos ⟨hu, e⟩]; omega
      · rw [if_neg e] at h2; rw [if_neg (fun g => e g.2)]; omega
theorem lnX_le (S C : List Int) (r : Int) (u k : Nat) : ∀ d, k + d ≤ C.length → cvN S r (lnX S C r (k + d)) u ≤ cvN S r (lnX S C r k) u := by
  intro d
  induction d with
  | zero => intro _; exact Nat.le_refl _
  | succ d ih =>
    intro h
    have := ih (by omega)
    have h2 := lnX_cv S C r (k + d) (by omega) u
    rw [show k + (d + 1) = k + d + 1 from rfl]
    omega
theorem lnX_zero (S C : List Int) (r : Int) (u : Nat) (hu : u < (nW S).toNat) (k : Nat) (hk : k ≤ C.length) : cvN S r (lnX S C r k) u = 0 ↔ cvN S r C u = 0 := by
  induction k with
  | zero => exact Iff.rfl
  | succ k ih =>
    rw [← ih (by omega)]
    have h2 := lnX_cv S C r k (by omega) u
    have h3 := lnT_cv S C r k (by omega) u hu
    by_cases h : needB (lnT S C r k) S (gi C k) r = true
    · rw [if_pos h] at h2; omega
    · rw [if_neg h] at h2
      by_cases e : ballB S (gi C k) r u = true
      · rw [if_pos e] at h2
        have h4 : gi (lnT S C r k) u ≠ 1 := fun g => h ((needB_iff _ _ _ _).2 ⟨u, hu, e, g⟩)
        omega
      · rw [if_neg e] at h2; omega
theorem lnX_end (S C : List Int) (r : Int) : lnX S C r C.length = lnTo S C r C.length := by unfold lnX; rw [List.drop_length, List.append_nil]
theorem lnTo_in (S C : List Int) (r : Int) (k : Nat) {x : Int} (h : x ∈ lnTo S C r k) : ∃ j, j < k ∧ gi C j = x ∧ needB (lnT S C r j) S (gi C j) r = true := by
  induction k with
  | zero => simp [lnTo] at h
  | succ k ih =>
    rw [lnTo] at h
    split at h
    · rename_i hb
      rcases List.mem_append.1 h with h | h
      · obtain ⟨j, h1, h2⟩ := ih h; exact ⟨j, by omega, h2⟩
      · exact ⟨k, by omega, (by simpa using h : x = gi C k).symm, hb⟩
    · obtain ⟨j, h1, h2⟩ := ih h; exact ⟨j, by omega, h2⟩
theorem lnTo_put (S C : List Int) (r : Int) (j : Nat) (hb : needB (lnT S C r j) S (gi C j) r = true) (k : Nat) (hk : j < k) : gi C j ∈ lnTo S C r k := by
  induction k with
  | zero => omega
  | succ k ih =>
    rw [lnTo]
    by_cases e : j = k
    · subst e; rw [if_pos hb]; simp
    · have := ih (by omega)
      split
      · exact List.mem_append.2 (.inl this)
      · exact this
theorem lnTo_sub (S C : List Int) (r : Int) (k : Nat) (hk : k ≤ C.length) : (lnTo S C r k).Sublist (C.take k) := by
  induction k with
  | zero => simp [lnTo]
  | succ k ih =>
    rw [lnTo, take_snoc C k (by omega)]
    split
    · exact (ih (by omega)).append (List.Sublist.refl _)
    · exact (ih (by omega)).trans (List.sublist_append_left _ _)
/-- a word of the lean code has a word that it alone covers -/
theorem ln_alone (S C : List Int) (r : Int) {x : Int} (h : x ∈ lnTo S C r C.length) : ∃ u : Nat, u < (nW S).toNat ∧ ballB S x r u = true ∧ cvN S r (lnTo S C r C.length) u = 1 := by
  obtain ⟨j, hj, rfl, hb⟩ := lnTo_in S C r _ h
  obtain ⟨u, hu, e, h1⟩ := (needB_iff _ _ _ _).1 hb
  rw [lnT_cv S C r j (by omega) u hu] at h1
  have h2 := lnX_le S C r u j (C.length - j) (by omega)
  rw [Nat.add_sub_cancel' (by omega), lnX_end] at h2
  have h3 := cvN_pos h e
  exact ⟨u, hu, e, by omega⟩
theorem needTo_all (S L : List Int) (r : Int) (h : ∀ x, x ∈ L → needB (timesL S L r) S x r = true) (k : Nat) (hk : k ≤ L.length) : needTo S L r k = L.take k := by
  induction k with
  | zero => rfl
  | succ k ih => rw [needTo, if_pos (h _ (gi_mem (by omega))), ih (by omega), take_snoc L k (by omega)]
theorem needTo_in (S L : List Int) (r : Int) (k : Nat) {x : Int} (h : x ∈ needTo S L r k) : ∃ j, j < k ∧ gi L j = x ∧ needB (timesL S L r) S (gi L j) r = true := by
  induction k with
  | zero => simp [needTo] at h
  | succ k ih =>
    rw [needTo] at h
    split at h
    · rename_i hb
      rcases List.mem_append.1 h with h | h
      · obtain ⟨j, h1, h2⟩ := ih h; exact ⟨j, by omega, h2⟩
      · exact ⟨k, by omega, (by simpa using h : x = gi L k).symm, hb⟩
    · obtain ⟨j, h1, h2⟩ := ih h; exact ⟨j, by omega, h2⟩
theorem selL_congrV {p q : Nat → Bool} (n : Nat) (h : ∀ u, u < n → p u = q u) : selL p n = selL q n := by
  unfold selL
  rw [List.filter_congr fun u hu => h u (List.mem_range.1 hu)]
/-- what holds of a code and its lean code -/
theorem fl_all {S C : List Int} {r : Int} (h : eCov S C r = 0) : eCov S (vLean S C r) r = 0 ∧ vUnc S (vLean S C r) r = vUnc S C r ∧ vNeed S (vLean S C r) r = vLean S C r ∧ (∀ x, x ∈ vNeed S C r → x ∈ vLean S C r) ∧ vCovS S C r = decide ((vUnc S C r).length = 0) := by
  obtain ⟨hz, r0, r8⟩ := eCov_zero h
  obtain ⟨hS, hc1, hc2⟩ := eCode_zero hz
  have isS := (isSp_iff S).2 hS
  have hL : vLean S C r = lnTo S C r C.length := by unfold vLean; rw [if_pos h]
  have hsub := lnTo_sub S C r C.length (Nat.le_refl _)
  rw [List.take_length] at hsub
  have hasc : Asc (lnTo S C r C.length) := List.Pairwise.sublist hsub (asc_code hz)
  have hcd : eCode S (lnTo S C r C.length) = 0 := by
    unfold eCode
    rw [if_pos isS, if_pos ((codeB_iff _ _).2 ⟨fun i hi => ?_, fun i h0 hi => asc_lt hasc (by omega) hi⟩)]
    obtain ⟨j, hj, e⟩ := mem_gi (hsub.subset (gi_mem hi))
    rw [← e]; exact hc1 j hj
  have hcv : eCov S (lnTo S C r C.length) r = 0 := by unfold eCov; rw [if_pos hcd, if_pos ⟨r0, r8⟩]
  rw [hL]
  refine ⟨hcv, ?_, ?_, ?_, ?_⟩
  · unfold vUnc
    rw [if_pos hcv, if_pos h]
    refine selL_congrV _ fun u hu => ?_
    unfold uncP
    rw [tAt_cvN, tAt_cvN]
    have := lnX_zero S C r u hu C.length (Nat.le_refl _)
    rw [lnX_end] at this
    rw [Bool.eq_iff_iff, beq_iff_eq, beq_iff_eq]
    omega
  · unfold vNeed
    rw [if_pos hcv, needTo_all S _ r (fun x hx => ?_) _ (Nat.le_refl _), List.take_length]
    obtain ⟨u, hu, e, h1⟩ := ln_alone S C r hx
    exact (needB_iff _ _ _ _).2 ⟨u, hu, e, by rw [gi_timesA _ _ _ _ hu, tAt_cvN, h1]; rfl⟩
  · intro x hx
    unfold vNeed at hx
    rw [if_pos h] at hx
    obtain ⟨j, hj, rfl, hb⟩ := needTo_in S C r _ hx
    obtain ⟨u, hu, e, h1⟩ := (needB_iff _ _ _ _).1 hb
    rw [gi_timesA _ _ _ _ hu, tAt_cvN] at h1
    refine lnTo_put S C r j ((needB_iff _ _ _ _).2 ⟨u, hu, e, ?_⟩) _ hj
    rw [lnT_cv S C r j (by omega) u hu]
    have h2 := lnX_le S C r u 0 j (by omega)
    rw [Nat.zero_add] at h2
    have h3 : cvN S r (lnX S C r 0) u = cvN S r C u := rfl
    have h4 : 1 ≤ cvN S r (lnX S C r j) u := by
      refine cvN_pos (x := gi C j) ?_ e
      unfold lnX
      rw [drop_gi C j hj]; simp
    omega
  · unfold vCovS vUnc
    rw [if_pos h, if_pos h]

theorem farB_ge (f : Nat → Int) (k j : Nat) (h : j ≤ k) : f j ≤ (farB f k).2 := by
  induction k with
  | zero => obtain rfl : j = 0 := by omega
            exact Int.le_refl _
  | succ k ih =>
    simp only [farB]
    by_cases e : j = k + 1
    · subst e; split
      · exact Int.le_refl _
      · omega
    · have := ih (by omega)
      split
      · show f j ≤ f (k + 1); omega
      · exact this
theorem unc_far {S C : List Int} {r : Int} {u : Nat} (hC : 0 < C.length) : uncP S C r u = decide (r < toW S C (u : Int)) := by
  unfold uncP
  rw [Bool.eq_iff_iff, beq_iff_eq, decide_eq_true_eq]
  show tcov S C r (u : Int) C.length = 0 ↔ _
  unfold tcov
  rw [cnt_zero]
  obtain ⟨j, hj, e⟩ := minTo_at (fun k => dist S (gi C k) (u : Int)) (C.length - 1)
  have e2 : toW S C (u : Int) = minTo (fun k => dist S (gi C k) (u : Int)) (C.length - 1) := rfl
  constructor
  · intro h
    have := h j (by omega)
    rw [e2, ← e]
    simpa using this
  · intro h k hk
    have := minTo_le (fun k => dist S (gi C k) (u : Int)) (C.length - 1) k (by omega)
    rw [e2] at h
    simp only [decide_eq_false_iff_not]
    show ¬ dist S (gi C k) (u : Int) ≤ r
    have h3 : minTo (fun k => dist S (gi C k) (u : Int)) (C.length - 1) ≤ dist S (gi C k) (u : Int) := this
    omega
/-- what holds of a code's radius -/
theorem fr_all {S C : List Int} (h : eFull S C = 0) : eCov S C (vRadius S C) = 0 ∧ vCovS S C (vRadius S C) = true ∧ 0 ≤ vRadius S C ∧ vRadius S C ≤ 8 ∧ (0 < vRadius S C → eCov S C (vRadius S C - 1) = 0 ∧ vCovS S C (vRadius S C - 1) = false) := by
  obtain ⟨hz, hC⟩ := eFull_zero h
  obtain ⟨hS, _, _⟩ := eCode_zero hz
  have N := nW_bd hS
  have hr : vRadius S C = (farW S C).2 := by unfold vRadius; rw [if_pos h]
  have hb := (farB_bd (fun (u : Nat) => toW S C (u : Int)) ((nW S).toNat - 1) 0 S.length (fun j _ => toW_bd S C j))
  have h8 := hS.hi
  have hR0 : 0 ≤ vRadius S C := by rw [hr]; exact hb.2.1
  have hR8 : vRadius S C ≤ 8 := by rw [hr]; have : (farW S C).2 ≤ S.length := hb.2.2; omega
  have e0 : eCov S C (vRadius S C) = 0 := by unfold eCov; rw [if_pos hz, if_pos ⟨hR0, hR8⟩]
  refine ⟨e0, ?_, hR0, hR8, fun hp => ?_⟩
  · unfold vCovS
    rw [if_pos e0, decide_eq_true_eq]
    unfold selL
    rw [List.length_map, List.length_eq_zero_iff, List.filter_eq_nil_iff]
    intro u hu
    have hu := List.mem_range.1 hu
    rw [unc_far hC, decide_eq_true_eq]
    have : toW S C (u : Int) ≤ (farW S C).2 := farB_ge (fun (u : Nat) => toW S C (u : Int)) ((nW S).toNat - 1) u (by omega)
    omega
  · have e1 : eCov S C (vRadius S C - 1) = 0 := by unfold eCov; rw [if_pos hz, if_pos ⟨by omega, by omega⟩]
    refine ⟨e1, ?_⟩
    unfold vCovS
    rw [if_pos e1, decide_eq_false_iff_not]
    unfold selL
    rw [List.length_map, List.length_eq_zero_iff, List.filter_eq_nil_iff]
    intro g
    have hf := farB_at (fun (u : Nat) => toW S C (u : Int)) ((nW S).toNat - 1)
    have hb1 := hb.1
    have hm := g (farB (fun (u : Nat) => toW S C (u : Int)) ((nW S).toNat - 1)).1.toNat (List.mem_range.2 (by omega))
    rw [unc_far hC, decide_eq_true_eq] at hm
    have e3 : toW S C (((farB (fun (u : Nat) => toW S C (u : Int)) ((nW S).toNat - 1)).1.toNat : Nat) : Int) = (farW S C).2 := hf
    rw [e3, ← hr] at hm
    omega

end Cv
end Go.Proofs.Ytlhapanfegjafaa

namespace Go.Proofs.Ytlhapanfegjafaa
open Go.RowKit Cv
set_option linter.unusedVariables false
set_option linter.unusedSimpArgs false

theorem grRun_all {F : Nat → Nat → Bool} {N : Nat} (hF : Arnd F N) : ∀ n c L, GrI F N c L → uc c N < n → (∀ u, c u = true → ∃ x, x ∈ L ∧ F x.toNat u = true) → (∀ x, x ∈ grRun F N n c L → 0 ≤ x ∧ x < N) ∧ (grRun F N n c L).Nodup ∧ ∀ u, u < N → ∃ x, x ∈ grRun F N n c L ∧ F x.toNat u = true
  | 0, c, L, _, h, _ => by omega
  | n + 1, c, L, g, h, hc => by
    cases hd : grDone c N with
    | true =>
      rw [grRun_done hd]
      refine ⟨g.wd, g.nd, fun u hu => hc u ?_⟩
      unfold grDone at hd
      rw [decide_eq_true_eq] at hd
      exact hd u hu
    | false =>
      rw [grRun_step hd]
      refine grRun_all hF n _ _ (gri_step hF g hd).2 (by have := gr_less hF hd; omega) fun u hu => ?_
      simp only [grC, Bool.or_eq_true] at hu
      rcases hu with hu | hu
      · obtain ⟨x, h1, h2⟩ := hc u hu
        exact ⟨x, List.mem_append.2 (.inl h1), h2⟩
      · exact ⟨_, List.mem_append.2 (.inr (List.mem_singleton.2 rfl)), by rw [Int.toNat_natCast]; exact hu⟩
theorem sT_ge (f : Nat → Int) (n : Nat) (h : ∀ u, u < n → 1 ≤ f u) : (n : Int) ≤ sT f n := by
  induction n with
  | zero => exact Int.le_refl _
  | succ n ih =>
    have := ih fun u hu => h u (by omega)
    have := h n (by omega)
    rw [sT]; push_cast; omega
/-- what holds of a greedy code -/
theorem fg_all {S : List Int} {r : Int} (h : eGr S r = 0) : eCov S (vGr S r) r = 0 ∧ vCovS S (vGr S r) r = true ∧ eNum S r 0 8 = 0 ∧ vBB S r ≤ (vGr S r).length := by
  obtain ⟨hS, r0, r8⟩ := eGr_zero h
  have N := nW_bd hS
  have isS := (isSp_iff S).2 hS
  have hv : vGr S r = sorted (grL (bF S r) (nW S).toNat) := by unfold vGr; rw [if_pos h]
  have hA := bF_arnd hS r0
  obtain ⟨hw, hnd, hcv⟩ := grRun_all hA ((nW S).toNat + 1) (fun _ => false) [] (gri_0 _ _ _) (by have := uc_le (fun _ => false) (nW S).toNat; omega) (fun u hu => by cases hu)
  have hperm := sorted_perm (grL (bF S r) (nW S).toNat)
  have hm : ∀ x, x ∈ vGr S r ↔ x ∈ grL (bF S r) (nW S).toNat := fun x => by rw [hv]; exact hperm.mem_iff
  have hasc : Asc (vGr S r) := by rw [hv]; exact asc_sorted hnd
  have hwd : ∀ x, x ∈ vGr S r → 0 ≤ x ∧ x < nW S := fun x hx => by have := hw x ((hm x).1 hx); omega
  have hcd : eCode S (vGr S r) = 0 := by
    unfold eCode
    rw [if_pos isS, if_pos ((codeB_iff _ _).2 ⟨fun i hi => hwd _ (gi_mem hi), fun i h0 hi => asc_lt hasc (by omega) hi⟩)]
  have hec : eCov S (vGr S r) r = 0 := by unfold eCov; rw [if_pos hcd, if_pos ⟨r0, r8⟩]
  have hone : ∀ u, u < (nW S).toNat → 1 ≤ tAt S (vGr S r) r u := fun u hu => by
    obtain ⟨x, hx, hf⟩ := hcv u hu
    have hx0 := hw x hx
    rw [bF_in, decide_eq_true_eq, Int.toNat_of_nonneg hx0.1] at hf
    rw [tAt_cvN]
    have : 1 ≤ cvN S r (vGr S r) u := cvN_pos ((hm x).2 hx) (by unfold ballB; rw [decide_eq_true_eq]; exact hf.2)
    omega
  have he : eNum S r 0 8 = 0 := eNum_ok isS r0 r8
  refine ⟨hec, ?_, he, ?_⟩
  · unfold vCovS
    rw [if_pos hec, decide_eq_true_eq]
    unfold selL
    rw [List.length_map, List.length_eq_zero_iff, List.filter_eq_nil_iff]
    intro u hu
    have := hone u (List.mem_range.1 hu)
    unfold uncP
    rw [beq_iff_eq]
    omega
  · have hz := size_bd hS r r0 r8
    have hs : sT (tAt S (vGr S r) r) (nW S).toNat = ((vGr S r).length : Int) * sizeN S r := sT_tcov hS (vGr S r) r0 (vGr S r).length
    have hg := sT_ge _ _ hone
    rw [hs] at hg
    unfold vBB
    rw [if_pos he]
    have h2 : (nW S + sizeN S r - 1) / sizeN S r < (vGr S r).length + 1 := by
      refine Int.ediv_lt_of_lt_mul (by omega) ?_
      rw [Int.add_mul, Int.one_mul]
      omega
    omega

end Go.Proofs.Ytlhapanfegjafaa

namespace Go.Proofs.Ytlhapanfegjafaa
open Go.RowKit Cv
set_option linter.unusedVariables false
set_option linter.unusedSimpArgs false

theorem wsT_one_bd {L : List Int} {m : Int} (h : ∀ j, 0 ≤ gi L j ∧ gi L j ≤ m) (k : Nat) : 0 ≤ wsT (fun _ => 1) L k ∧ wsT (fun _ => 1) L k ≤ k * m := by
  induction k with
  | zero => simp [wsT]
  | succ k ih =>
    have := h k
    rw [wsT, Int.one_mul]
    push_cast
    rw [Int.add_mul, Int.one_mul]
    omega
/-- the sum of a list of small numbers -/
theorem sum_any (a : Option Addr) (L : List Int) (c : Nat) (m : Int) (hm : 0 ≤ m ∧ m ≤ 1048576) (hb : ∀ j, 0 ≤ gi L j ∧ gi L j ≤ m) (w : World) (hn : L.length ≤ 1048576) (h : Ints w a L) :
    Calls Try.prog 21 #[.slice a L.length c] w fun e w' => e = .returned (.int .i64 (wsT (fun _ => 1) L L.length)) ∧ Below w.heap.size w w' := by
  have HW := Lib.hid fun k => wsT_one_bd hb k
  have HB := Lib.hid hb
  obtain ⟨m0, m1⟩ := hm
  clear hb
  have hz : wsT (fun _ => 1) L 0 = 0 := rfl
  have HZ := Lib.hid hz
  clear hz
  go_enter Try.func21, Try.ntmps21
  go_wp2_with fail
  go_loop [3, 4] (fun s i => ∃ k : Nat, k ≤ L.length ∧ i = .int .i64 (k : Int) ∧ s = .int .i64 (wsT (fun _ => 1) L k)) (fun _ i => L.length - (intOf i).toNat)
  case atStart => exact ⟨0, Nat.zero_le _, rfl, by rw [HZ.out]⟩
  case round =>
    obtain ⟨k, hk, rfl, rfl⟩ := hrel
    by_cases hlt : k < L.length
    · have hlI : (k : Int) < (L.length : Int) := by omega
      obtain ⟨b, o, rfl, hbl, hc⟩ := h.at hlt
      have hck := hc k hlt
      obtain ⟨s0, s1⟩ := HW.out k
      obtain ⟨t0, t1⟩ := HB.out k
      have HS : Hid (wsT (fun _ => 1) L (k + 1) = wsT (fun _ => 1) L k + gi L k) := Lib.hid (by rw [wsT, Int.one_mul])
      have hkm : (k : Int) * m ≤ 1048576 * 1048576 := Int.mul_le_mul (by omega) m1 m0 (by omega)
      obtain ⟨s, hs⟩ : ∃ s, s = wsT (fun _ => 1) L k := ⟨_, rfl⟩
      obtain ⟨y, hy⟩ : ∃ y, y = gi L k := ⟨_, rfl⟩
      rw [← hs, ← hy] at HS
      rw [← hs] at s0 s1 ⊢
      rw [← hy] at hck t0 t1
      have e1 : IntKind.i64.wrap (s + y) = s + y := IntWalk.i64_in _ ⟨by omega, by omega⟩
      clear hc hs hy hkm s1
      go_wp2_with fail
      go_round
      case rel => exact ⟨k + 1, by omega, by go_num, by rw [HS.out]⟩
      case measure => simp [intOf]; omega
    · have hlI : ¬ (k : Int) < (L.length : Int) := by omega
      have hkL : k = L.length := by omega
      go_wp2_with fail
      go_ret
      exact ⟨rfl, Below.refl _ _⟩

end Go.Proofs.Ytlhapanfegjafaa
