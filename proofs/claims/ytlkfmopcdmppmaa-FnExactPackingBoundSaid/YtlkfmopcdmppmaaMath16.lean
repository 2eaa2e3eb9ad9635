/-
  What the functions of chapter 4 compute, in plain numbers: errors, bounds, codes apart. By an AI agent.
-/
import Derived.Test.YtlkfmopcdmppmaaMath4
import Derived.Test.YtlkfmopcdmppmaaMath5
import Derived.Test.YtlkfmopcdmppmaaMath10
import Derived.Test.YtlkfmopcdmppmaaMath13
namespace Go.Proofs.Ytlkfmopcdmppmaa
namespace Cv

/-- the error of a space and a number that is to be in lo .. hi -/
def eNum (S : List Int) (x lo hi : Int) : Int := if isSp S = true then (if lo ≤ x ∧ x ≤ hi then 0 else 2) else 1
theorem eNum_inv {S : List Int} {x lo hi : Int} (h : isSp S = false) : eNum S x lo hi = 1 := by simp [eNum, h]
theorem eNum_ok {S : List Int} {x lo hi : Int} (h : isSp S = true) (h1 : lo ≤ x) (h2 : x ≤ hi) : eNum S x lo hi = 0 := by unfold eNum; rw [if_pos h, if_pos ⟨h1, h2⟩]
theorem eNum_out {S : List Int} {x lo hi : Int} (h : isSp S = true) (h1 : ¬ (lo ≤ x ∧ x ≤ hi)) : eNum S x lo hi = 2 := by unfold eNum; rw [if_pos h, if_neg h1]
theorem eNum_zero {S : List Int} {x lo hi : Int} (h : eNum S x lo hi = 0) : Sp S ∧ lo ≤ x ∧ x ≤ hi := by
  unfold eNum at h
  split at h
  · rename_i hs
    split at h
    · rename_i hx; exact ⟨(isSp_iff S).1 hs, hx.1, hx.2⟩
    · simp at h
  · simp at h
/-- the error of a ball of the word 0 is one of a space and a number -/
theorem eBall_num (S : List Int) (r : Int) : eBall S 0 r = eNum S r 0 8 := by
  by_cases hs : isSp S = true
  · rw [eBall_sp ((isSp_iff S).1 hs)]; unfold eNum; rw [if_pos hs]
  · have hs2 : isSp S = false := by simpa using hs
    rw [eBall_not hs2, eNum_inv hs2]
/-- the error of a space, a code and a distance -/
def eAp (S C : List Int) (d : Int) : Int := orI (eCode S C) (eNum S d 1 9)
theorem eAp_zero {S C : List Int} {d : Int} (h : eAp S C d = 0) : eCode S C = 0 ∧ 1 ≤ d ∧ d ≤ 9 := by
  unfold eAp orI at h
  split at h
  · rename_i h0; obtain ⟨_, a, b⟩ := eNum_zero h; exact ⟨h0, a, b⟩
  · rename_i h0; exact absurd h h0
theorem eAp_bad {S C : List Int} {d : Int} (h : eCode S C ≠ 0) : eAp S C d = eCode S C := by unfold eAp orI; rw [if_neg h]
theorem eAp_ok {S C : List Int} {d : Int} (h : eCode S C = 0) (h1 : 1 ≤ d) (h2 : d ≤ 9) : eAp S C d = 0 := by
  unfold eAp orI; rw [if_pos h]; exact eNum_ok ((isSp_iff S).2 (eCode_zero h).1) h1 h2
theorem eAp_out {S C : List Int} {d : Int} (h : eCode S C = 0) (h1 : ¬ (1 ≤ d ∧ d ≤ 9)) : eAp S C d = 2 := by
  unfold eAp orI; rw [if_pos h]; exact eNum_out ((isSp_iff S).2 (eCode_zero h).1) h1
theorem eCode_nil {S : List Int} (h : isSp S = true) : eCode S [] = 0 := by
  refine eCode_ok h ?_
  simp [codeB, okW, ascB]
/-- the code without words -/
theorem eAp_nil (S : List Int) (d : Int) : eAp S [] d = eNum S d 1 9 := by
  by_cases hs : isSp S = true
  · unfold eAp orI; rw [if_pos (eCode_nil hs)]
  · have hs2 : isSp S = false := by simpa using hs
    unfold eAp orI; rw [eCode_inv hs2, eNum_inv hs2]; rfl
/-- balls have words -/
theorem sumB_pos (f : Nat → Int) (h0 : f 0 = 1) (h : ∀ k, 0 ≤ f k) (k : Nat) : 1 ≤ sumB f (k + 1) := by
  induction k with
  | zero => simp [sumB, h0]
  | succ k ih => rw [sumB]; have := h (k + 1); omega
theorem coef_at0 (S : List Int) (i : Nat) : coef S i 0 = 1 := by
  induction i with
  | zero => rfl
  | succ i ih => rw [coef, mulF, ih]
theorem size_bd {S : List Int} (h : Sp S) (r : Int) (hr0 : 0 ≤ r) (hr8 : r ≤ 8) : 1 ≤ sizeN S r ∧ sizeN S r ≤ 589824 := by
  have hc := fun k => coef_le S S.length h.bd h.hi k
  have e := sizeN_B S r hr0 (r.toNat + 1) (.inr (by omega))
  rw [← e]
  refine ⟨sumB_pos _ (coef_at0 S _) (fun k => (hc k).1) _, ?_⟩
  have b := (sumB_bd (coef S S.length) 65536 hc (r.toNat + 1)).2
  have : ((r.toNat + 1 : Nat) : Int) * 65536 ≤ 9 * 65536 := Int.mul_le_mul_of_nonneg_right (by omega) (by omega)
  omega

def vBB (S : List Int) (r : Int) : Int := if eNum S r 0 8 = 0 then (nW S + sizeN S r - 1) / sizeN S r else 0
def vPack (S : List Int) (d : Int) : Int := if eNum S d 1 9 = 0 then nW S / sizeN S ((d - 1) / 2) else 0

/-- whether the first k words of a code are at a distance of at least d from x -/
def farTo (S C : List Int) (x d : Int) : Nat → Bool
  | 0 => true
  | k + 1 => farTo S C x d k && decide (d ≤ dist S (gi C k) x)
/-- whether the first k words of a code are apart by d -/
def apTo (S C : List Int) (d : Int) : Nat → Bool
  | 0 => true
  | k + 1 => apTo S C d k && farTo S C (gi C k) d k
theorem farTo_iff (S C : List Int) (x d : Int) (k : Nat) : farTo S C x d k = true ↔ ∀ j, j < k → d ≤ dist S (gi C j) x := by
  induction k with
  | zero => simp [farTo]
  | succ k ih =>
    rw [farTo, Bool.and_eq_true, ih, decide_eq_true_eq]
    constructor
    · rintro ⟨h1, h2⟩ j hj
      by_cases e : j = k
      · rw [e]; exact h2
      · exact h1 j (by omega)
    · exact fun h => ⟨fun j hj => h j (by omega), h k (by omega)⟩
theorem farTo_no {S C : List Int} {x d : Int} {j k : Nat} (hj : j < k) (h : dist S (gi C j) x < d) : farTo S C x d k = false := by
  cases e : farTo S C x d k with
  | false => rfl
  | true => have := (farTo_iff S C x d k).1 e j hj; omega
theorem apTo_iff (S C : List Int) (d : Int) (k : Nat) : apTo S C d k = true ↔ ∀ i j, j < i → i < k → d ≤ dist S (gi C j) (gi C i) := by
  induction k with
  | zero => simp [apTo]
  | succ k ih =>
    rw [apTo, Bool.and_eq_true, ih, farTo_iff]
    constructor
    · rintro ⟨h1, h2⟩ i j hj hi
      by_cases e : i = k
      · subst e; exact h2 j hj
      · exact h1 i j hj (by omega)
    · exact fun h => ⟨fun i j hj hi => h i j hj (by omega), fun j hj => h k j hj (by omega)⟩
theorem apTo_no {S C : List Int} {d : Int} {i k : Nat} (hi : i < k) (h : farTo S C (gi C i) d i = false) : apTo S C d k = false := by
  cases e : apTo S C d k with
  | false => rfl
  | true =>
    have h1 := (apTo_iff S C d k).1 e
    have : farTo S C (gi C i) d i = true := (farTo_iff S C _ d i).2 fun j hj => h1 i j hj hi
    rw [h] at this; cases this
/-- the least distance is at least d just where all are -/
theorem lstRow_ge (S C : List Int) (i : Nat) (m d : Int) (k : Nat) : d ≤ lstRow S C i m k ↔ d ≤ m ∧ ∀ j, j < k → d ≤ dist S (gi C i) (gi C j) := by
  induction k with
  | zero => simp [lstRow]
  | succ k ih =>
    rw [lstRow, Int.le_min, ih]
    constructor
    · rintro ⟨⟨h0, h1⟩, h2⟩
      refine ⟨h0, fun j hj => ?_⟩
      by_cases e : j = k
      · rw [e]; exact h2
      · exact h1 j (by omega)
    · exact fun h => ⟨⟨h.1, fun j hj => h.2 j (by omega)⟩, h.2 k (by omega)⟩
theorem lstAll_ge (S C : List Int) (m d : Int) (k : Nat) : d ≤ lstAll S C m k ↔ d ≤ m ∧ ∀ i j, j < i → i < k → d ≤ dist S (gi C i) (gi C j) := by
  induction k with
  | zero => simp [lstAll]
  | succ k ih =>
    rw [lstAll, lstRow_ge, ih]
    constructor
    · rintro ⟨⟨h0, h1⟩, h2⟩
      refine ⟨h0, fun i j hj hi => ?_⟩
      by_cases e : i = k
      · subst e; exact h2 j hj
      · exact h1 i j hj (by omega)
    · exact fun h => ⟨⟨h.1, fun i j hj hi => h.2 i j hj (by omega)⟩, fun j hj => h.2 k j hj (by omega)⟩
theorem apart_least (S C : List Int) (d : Int) (h2 : 2 ≤ C.length) : decide (d ≤ lstAll S C S.length C.length) = apTo S C d C.length := by
  rw [Bool.eq_iff_iff, decide_eq_true_eq, lstAll_ge, apTo_iff]
  constructor
  · rintro ⟨_, h⟩ i j hj hi; rw [dist_comm]; exact h i j hj hi
  · intro h
    have h0 := h 1 0 (by omega) (by omega)
    have h1 := (dist_bd S (gi C 0) (gi C 1)).2
    exact ⟨by omega, fun i j hj hi => by rw [dist_comm]; exact h i j hj hi⟩
theorem apart_few (S C : List Int) (d : Int) (h2 : C.length < 2) : apTo S C d C.length = true := by
  rw [apTo_iff]; intro i j hj hi; omega
def vApart (S C : List Int) (d : Int) : Bool := if eAp S C d = 0 then apTo S C d C.length else false

end Cv
end Go.Proofs.Ytlkfmopcdmppmaa
