/-
  Texts put together: MathK, MathPf, MathPh. By an AI agent.
-/
import Derived.Test.YtcnnijeokefboabMathP
import Derived.Test.YtcnnijeokefboabPkHamT
namespace Go.Proofs.Ytcnnijeokefboab
set_option linter.unusedVariables false
set_option linter.unusedSimpArgs false
namespace Cv

/-- the sum of a list's first k numbers, each with its weight -/
def wsT (g : Nat → Int) (L : List Int) : Nat → Int
  | 0 => 0
  | k + 1 => wsT g L k + g k * gi L k
/-- the sum of the first values -/
def sT (f : Nat → Int) : Nat → Int
  | 0 => 0
  | k + 1 => sT f k + f k
theorem wsT_bump (g : Nat → Int) (L : List Int) (v : Int) (h0 : 0 ≤ v) (hv : v.toNat < L.length) (n : Nat) : wsT g (bump L v) n = wsT g L n + if v.toNat < n then g v.toNat else 0 := by
  induction n with
  | zero => simp [wsT]
  | succ n ih =>
    rw [wsT, wsT, ih]
    have e : gi (bump L v) n = gi L n + if n = v.toNat then 1 else 0 := by
      unfold bump
      rw [gi_set _ _ _ _ hv]
      by_cases e : n = v.toNat
      · subst e; rw [if_pos rfl, if_pos rfl]
      · rw [if_neg e, if_neg e]; omega
    rw [e, Int.mul_add]
    by_cases h1 : n = v.toNat
    · subst h1; rw [if_neg (by omega), if_pos rfl, if_pos (by omega)]; omega
    · rw [if_neg h1, Int.mul_zero]
      by_cases h2 : v.toNat < n
      · rw [if_pos h2, if_pos (by omega)]; omega
      · rw [if_neg h2, if_neg (by omega)]; omega
theorem wsT_rep (g : Nat → Int) (m n : Nat) : wsT g (List.replicate m 0) n = 0 := by
  induction n with
  | zero => rfl
  | succ n ih => rw [wsT, ih, gi_rep0]; simp
theorem wsT_cov (g f : Nat → Int) (n : Nat) (k : Nat) (h : ∀ u, u < k → 0 ≤ f u ∧ (f u).toNat < n) : wsT g (covTo f n k) n = sT (fun u => g (f u).toNat) k := by
  induction k with
  | zero => rw [covTo, wsT_rep]; rfl
  | succ k ih =>
    obtain ⟨h1, h2⟩ := h k (by omega)
    rw [covTo, wsT_bump g _ _ h1 (by rw [covTo_len]; exact h2), ih fun u hu => h u (by omega), if_pos h2]
    rfl
theorem sT_congr {f g : Nat → Int} (n : Nat) (h : ∀ u, u < n → f u = g u) : sT f n = sT g n := by
  induction n with
  | zero => rfl
  | succ n ih => rw [sT, sT, ih fun u hu => h u (by omega), h n (by omega)]
theorem sT_add (f g : Nat → Int) (n : Nat) : sT (fun u => f u + g u) n = sT f n + sT g n := by
  induction n with
  | zero => rfl
  | succ n ih => simp only [sT]; rw [ih]; omega
theorem sT_one (n : Nat) : sT (fun _ => 1) n = n := by
  induction n with
  | zero => rfl
  | succ n ih => rw [sT, ih]; omega
theorem sT_zero (n : Nat) : sT (fun _ => 0) n = 0 := by
  induction n with
  | zero => rfl
  | succ n ih => rw [sT, ih]; omega
theorem sT_sel (p : Nat → Bool) (n : Nat) : sT (fun u => if p u = true then 1 else 0) n = ((selTo p n).length : Int) := by
  induction n with
  | zero => rfl
  | succ n ih =>
    rw [sT, ih, selTo, List.length_append]
    by_cases e : p n = true
    · rw [if_pos e, if_pos e]; simp
    · rw [if_neg e, if_neg e]; simp
theorem exS_sT (f : Nat → Int) (n : Nat) : exS f n = sT f n - n := by
  induction n with
  | zero => rfl
  | succ n ih => rw [exS, sT, ih]; omega
theorem sT_tcov {S : List Int} (hS : Sp S) (C : List Int) {r : Int} (hr : 0 ≤ r) (k : Nat) : sT (fun u => tcov S C r (u : Int) k) (nW S).toNat = (k : Int) * sizeN S r := by
  induction k with
  | zero =>
    have e : sT (fun u => tcov S C r (u : Int) 0) (nW S).toNat = sT (fun _ => 0) (nW S).toNat := sT_congr _ fun u _ => rfl
    rw [e, sT_zero]; simp
  | succ k ih =>
    have e : sT (fun u => tcov S C r (u : Int) (k + 1)) (nW S).toNat = sT (fun u => tcov S C r (u : Int) k + if ballB S (gi C k) r u = true then 1 else 0) (nW S).toNat := by
      refine sT_congr _ fun u hu => ?_
      rw [tcov_ball S C r u k hu]
      have h3 : cntIn (ballW S (gi C k) r) u (ballW S (gi C k) r).length = if u < (nW S).toNat ∧ ballB S (gi C k) r u = true then 1 else 0 := cntIn_sel _ _ _
      rw [h3]
      by_cases e : ballB S (gi C k) r u = true
      · rw [if_pos ⟨hu, e⟩, if_pos e]
      · rw [if_neg (fun g => e g.2), if_neg e]
    have h4 : ((selTo (ballB S (gi C k) r) (nW S).toNat).length : Int) = sizeN S r := ballW_size hS (gi C k) hr
    rw [e, sT_add, ih, sT_sel, h4]
    push_cast
    rw [Int.add_mul, Int.one_mul]
theorem cov0_iff (f : Nat → Int) (n : Nat) (hn : 1 ≤ n) (k : Nat) (h : ∀ u, u < k → 0 ≤ f u ∧ (f u).toNat < n) : gi (covTo f n k) 0 = 0 ↔ zTo f k = false := by
  induction k with
  | zero => simp [covTo, zTo, gi_rep0]
  | succ k ih =>
    obtain ⟨h1, h2⟩ := h k (by omega)
    have hb := covTo_bd f n k 0
    have ih' := ih fun u hu => h u (by omega)
    have hl := covTo_len f n k
    rw [covTo, zTo, Bool.or_eq_false_iff, ← ih', decide_eq_false_iff_not]
    unfold bump
    rw [gi_set _ _ _ _ (by rw [hl]; exact h2)]
    by_cases e : f k = 0
    · rw [e]; simp; omega
    · rw [if_neg (by omega)]
      exact ⟨fun g => ⟨g, e⟩, fun g => g.1⟩
/-- what holds of the counts of a code that covers -/
theorem fk_all {S C : List Int} {r : Int} (h : eCov S C r = 0) : (vCov S C r).length = C.length + 1 ∧ wsT (fun _ => 1) (vCov S C r) (C.length + 1) = nW S ∧ wsT (fun k => (k : Int)) (vCov S C r) (C.length + 1) = vSize S r * C.length ∧ (eExc S C r = 0 ↔ gi (vCov S C r) 0 = 0) ∧ (eExc S C r = 0 → vExc S C r = vSize S r * C.length - nW S) := by
  obtain ⟨hz, r0, r8⟩ := eCov_zero h
  obtain ⟨hS, _, _⟩ := eCode_zero hz
  have N := nW_bd hS
  have hv : vCov S C r = covTo (tAt S C r) (C.length + 1) (nW S).toNat := by unfold vCov; rw [if_pos h]
  have e0 : eBall S 0 r = 0 := by
    unfold eBall
    have : eWords S [0] = 0 := by
      unfold eWords
      rw [if_pos ((isSp_iff S).2 hS), if_pos ((okW_iff _ _ _).2 fun i hi => ?_)]
      have : i = 0 := by simpa using hi
      subst this; exact ⟨Int.le_refl _, by show (0 : Int) < nW S; omega⟩
    rw [if_pos this, if_pos ⟨r0, r8⟩]
  have hsz : vSize S r = sizeN S r := by unfold vSize; rw [if_pos e0]
  have hf : ∀ u, u < (nW S).toNat → 0 ≤ tAt S C r u ∧ (tAt S C r u).toNat < C.length + 1 := fun u _ => by have := tAt_bd S C r u; omega
  have hsum : sT (tAt S C r) (nW S).toNat = (C.length : Int) * sizeN S r := sT_tcov hS C r0 C.length
  have hc0 := cov0_iff (tAt S C r) (C.length + 1) (by omega) (nW S).toNat hf
  rw [hv, hsz]
  refine ⟨covTo_len _ _ _, ?_, ?_, ?_, ?_⟩
  · rw [wsT_cov _ _ _ _ hf, sT_one]; omega
  · rw [wsT_cov _ _ _ _ hf, sT_congr (g := tAt S C r) _ fun u hu => Int.toNat_of_nonneg (hf u hu).1, hsum, Int.mul_comm]
  · rw [hc0]
    unfold eExc
    rw [if_pos h]
    cases zTo (tAt S C r) (nW S).toNat <;> simp
  · intro hx
    have hzt : zTo (tAt S C r) (nW S).toNat = false := by
      unfold eExc at hx
      rw [if_pos h] at hx
      cases e : zTo (tAt S C r) (nW S).toNat with
      | false => rfl
      | true => rw [e] at hx; simp at hx
    unfold vExc
    rw [if_pos ⟨h, hzt⟩, exS_sT, hsum, Int.mul_comm]
    omega

end Cv
end Go.Proofs.Ytcnnijeokefboab

namespace Go.Proofs.Ytcnnijeokefboab
set_option linter.unusedVariables false
set_option linter.unusedSimpArgs false
namespace Cv

theorem pf_per {S C : List Int} {r : Int} (h : eCov S C r = 0) (hp : vPer S C r = true) : eExc S C r = 0 ∧ vExc S C r = 0 ∧ ePr S C = 0 ∧ vPr S C ≤ r := by
  obtain ⟨hz, r0, r8⟩ := eCov_zero h
  have hb : perB S C r = true := by unfold vPer at hp; rw [if_pos h] at hp; exact hp
  have h1 : ∀ u, u < (nW S).toNat → tAt S C r u = 1 := by unfold perB at hb; exact of_decide_eq_true hb
  have hS := (eCode_zero hz).1
  have N := nW_bd hS
  have z0 : zTo (tAt S C r) (nW S).toNat = false := zTo_none fun u hu => by rw [h1 u hu]; omega
  obtain ⟨e1, e2⟩ := exc_ok h z0
  have e3 : vExc S C r = 0 := by
    rw [e2, exS_sT, sT_congr (g := fun _ => 1) _ fun u hu => h1 u hu, sT_one]; omega
  have key : ∃ k, k < S.length + 1 ∧ perB S C (k : Int) = true ∧ (k : Int) ≤ r := by
    by_cases g : r ≤ (S.length : Int)
    · exact ⟨r.toNat, by omega, by rw [Int.toNat_of_nonneg r0]; exact hb, by omega⟩
    · exact ⟨S.length, by omega, by rw [← per_full (r := r) (by omega)]; exact hb, by omega⟩
  obtain ⟨k, hk, hkp, hkr⟩ := key
  have hlt : prI S C (S.length + 1) < S.length + 1 := fstI_ex ⟨k, hk, hkp⟩
  have hle : prI S C (S.length + 1) ≤ k := by
    rcases Nat.lt_or_ge k (prI S C (S.length + 1)) with g | g
    · have := (fstI_lt hlt).2 k g
      rw [hkp] at this; cases this
    · exact g
  have e4 : ePr S C = 0 := by unfold ePr; rw [if_pos hz, if_pos hlt]
  refine ⟨e1, e3, e4, ?_⟩
  unfold vPr
  rw [if_pos e4]
  omega
theorem pf_dec {S C : List Int} {r x : Int} (h : eDec S C r x = 0) : vDec S C r x ∈ C ∧ eWords S [vDec S C r x, x] = 0 ∧ vDist S (vDec S C r x) x ≤ r ∧ (-9223372036854775808 ≤ vDec S C r x ∧ vDec S C r x ≤ 9223372036854775807) := by
  have hd := h
  unfold eDec at h
  by_cases ht : eTimes S C x r = 0
  · rw [if_pos ht] at h
    obtain ⟨hc, x0, x1⟩ := eTimes_zero ht
    obtain ⟨hz, r0, r8⟩ := eCov_zero hc
    obtain ⟨hS, hw, _⟩ := eCode_zero hz
    have N := nW_bd hS
    by_cases hp : perB S C r = true
    · have hlt := dec_lt hS r0 hp ⟨x0, x1⟩
      have hv : vDec S C r x = gi C (decI S C r x) := by unfold vDec; rw [if_pos hd]
      have hb := hw _ hlt
      have ew : eWords S [vDec S C r x, x] = 0 := by
        unfold eWords
        rw [if_pos ((isSp_iff S).2 hS), if_pos ((okW_iff _ _ _).2 fun i hi => ?_)]
        have : i = 0 ∨ i = 1 := by simp at hi; omega
        rcases this with rfl | rfl
        · show 0 ≤ vDec S C r x ∧ vDec S C r x < nW S; rw [hv]; exact hb
        · exact ⟨x0, x1⟩
      refine ⟨by rw [hv]; exact gi_mem hlt, ew, ?_, by rw [hv]; omega⟩
      unfold vDist
      rw [if_pos ew, hv]
      have := (fstI_lt hlt).1
      exact of_decide_eq_true this
    · rw [if_neg hp] at h; omega
  · rw [if_neg ht] at h; exact absurd h ht
theorem pf_dec0 {S C : List Int} {r x : Int} (h : eDec S C r x ≠ 0) : vDec S C r x = 0 := by unfold vDec; rw [if_neg h]
end Cv
end Go.Proofs.Ytcnnijeokefboab

namespace Go.Proofs.Ytcnnijeokefboab
open Go.RowKit Cv
set_option linter.unusedVariables false
set_option linter.unusedSimpArgs false
set_option maxRecDepth 100000

theorem ham_per {q : Int} {m : Nat} (h : goodQM q m) : eCov (hS q (colL q m).length) (selL (hamP q m) (nW (hS q (colL q m).length)).toNat) 1 = 0 ∧ perB (hS q (colL q m).length) (selL (hamP q m) (nW (hS q (colL q m).length)).toNat) 1 = true := by
  rcases h with ⟨rfl, rfl⟩ | ⟨rfl, rfl⟩ | ⟨rfl, rfl⟩
  · exact ⟨by decide +kernel, by decide +kernel⟩
  · exact ⟨by decide +kernel, by decide +kernel⟩
  · exact ⟨by decide +kernel, by decide +kernel⟩
theorem eCol_both {q m : Int} (h : eCol 2 q m = 0) : eCol 1 q m = 0 := by
  unfold eCol at h ⊢
  by_cases g : (2 ≤ q ∧ q ≤ 3) ∧ 2 ≤ m ∧ m ≤ 3
  · rw [if_pos g] at h
    rw [if_pos ⟨g.1, by omega, g.2.2⟩]; exact h
  · rw [if_neg g] at h; omega
theorem pf_ham {q m : Int} (h : eCol 2 q m = 0) : eCov (vHamS q m) (vHamC q m) 1 = 0 ∧ vPer (vHamS q m) (vHamC q m) 1 = true ∧ eCol 1 q m = 0 ∧ (vCol 1 q m).length = (vHamS q m).length := by
  obtain ⟨e1, e2⟩ := vHam_ok h
  have hg := eHam_zero h
  obtain ⟨p1, p2⟩ := ham_per hg
  have c1 := eCol_both h
  refine ⟨by rw [e1, e2]; exact p1, ?_, c1, ?_⟩
  · unfold vPer; rw [e1, e2, if_pos p1]; exact p2
  · unfold vCol; rw [if_pos c1, e1, hS_len]
end Go.Proofs.Ytcnnijeokefboab
