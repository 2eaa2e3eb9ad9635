/-
  Least distances and counts of distances, as plain lists of numbers. By an AI agent.
-/
import Derived.Test.YtlkfmopcdmppmaaMath3
namespace Go.Proofs.Ytlkfmopcdmppmaa
set_option linter.unusedVariables false
set_option linter.unusedSimpArgs false
namespace Cv

theorem dist_bd (S : List Int) (u x : Int) : 0 ≤ dist S u x ∧ dist S u x ≤ S.length := by
  have h := distFrom_bd S u x 0
  rwa [distFrom_zero] at h

def lstRow (S C : List Int) (i : Nat) (m : Int) : Nat → Int
  | 0 => m
  | k + 1 => min (lstRow S C i m k) (dist S (gi C i) (gi C k))
def lstAll (S C : List Int) (m : Int) : Nat → Int
  | 0 => m
  | i + 1 => lstRow S C i (lstAll S C m i) i
theorem lstRow_min (S C : List Int) (i : Nat) (a b : Int) (k : Nat) : lstRow S C i (min a b) k = min a (lstRow S C i b k) := by
  induction k with
  | zero => rfl
  | succ k ih => simp only [lstRow, ih]; omega
theorem lstAll_min (S C : List Int) (a b : Int) (n : Nat) : lstAll S C (min a b) n = min a (lstAll S C b n) := by
  induction n with
  | zero => rfl
  | succ n ih => simp only [lstAll, ih, lstRow_min]
theorem lstRow_le (S C : List Int) (i : Nat) (m : Int) (k : Nat) : lstRow S C i m k ≤ m := by
  induction k with
  | zero => exact Int.le_refl _
  | succ k ih => simp only [lstRow]; omega
theorem lstAll_le (S C : List Int) (m : Int) (n j : Nat) (h : j ≤ n) : lstAll S C m n ≤ lstAll S C m j := by
  induction n with
  | zero => have : j = 0 := by omega
            subst this; exact Int.le_refl _
  | succ n ih =>
    by_cases e : j = n + 1
    · subst e; exact Int.le_refl _
    · have := ih (by omega)
      have h2 := lstRow_le S C n (lstAll S C m n) n
      simp only [lstAll]; omega
/-- where the search starts does not matter -/
theorem lstAll_start (S C : List Int) (hS : S.length ≤ 8) (hC : 2 ≤ C.length) : lstAll S C 8 C.length = lstAll S C S.length C.length := by
  have e : lstAll S C S.length C.length = min (S.length : Int) (lstAll S C 8 C.length) := by
    rw [← lstAll_min]; congr 1; omega
  have h := lstAll_le S C 8 C.length 2 hC
  have h2 : lstAll S C 8 2 = min 8 (dist S (gi C 1) (gi C 0)) := rfl
  have h3 := (dist_bd S (gi C 1) (gi C 0)).2
  rw [h2] at h
  rw [e]; omega
def eLeast (S C : List Int) : Int := if eCode S C = 0 then (if C.length < 2 then 5 else 0) else eCode S C
def vLeast (S C : List Int) : Int := if eCode S C = 0 then (if C.length < 2 then 0 else lstAll S C S.length C.length) else 0

/-- one more at one place -/
def bump (L : List Int) (d : Int) : List Int := L.set d.toNat (gi L d.toNat + 1)
theorem bump_len (L : List Int) (d : Int) : (bump L d).length = L.length := by simp [bump]
def dcRow (S C : List Int) (i : Nat) (L : List Int) : Nat → List Int
  | 0 => L
  | k + 1 => bump (dcRow S C i L k) (dist S (gi C i) (gi C k))
def dcAll (S C : List Int) : Nat → List Int
  | 0 => List.replicate (S.length + 1) 0
  | i + 1 => dcRow S C i (dcAll S C i) C.length
theorem dcRow_len (S C : List Int) (i : Nat) (L : List Int) (k : Nat) : (dcRow S C i L k).length = L.length := by
  induction k with
  | zero => rfl
  | succ k ih => simp only [dcRow, bump_len, ih]
theorem dcAll_len (S C : List Int) (i : Nat) : (dcAll S C i).length = S.length + 1 := by
  induction i with
  | zero => simp [dcAll]
  | succ i ih => simp only [dcAll, dcRow_len, ih]
theorem bump_bd (L : List Int) (d m : Int) (h : ∀ j, 0 ≤ gi L j ∧ gi L j ≤ m) (j : Nat) : 0 ≤ gi (bump L d) j ∧ gi (bump L d) j ≤ m + 1 := by
  have h1 := h j
  have h2 := h d.toNat
  by_cases hl : d.toNat < L.length
  · rw [bump, gi_set _ _ _ _ hl]; split <;> omega
  · rw [bump, List.set_eq_of_length_le (by omega)]; omega
theorem dcRow_bd (S C : List Int) (i : Nat) (L : List Int) (m : Int) (h : ∀ j, 0 ≤ gi L j ∧ gi L j ≤ m) (k j : Nat) : 0 ≤ gi (dcRow S C i L k) j ∧ gi (dcRow S C i L k) j ≤ m + k := by
  induction k generalizing j with
  | zero => have := h j; simp only [dcRow]; omega
  | succ k ih =>
    have := bump_bd _ (dist S (gi C i) (gi C k)) (m + k) ih j
    simp only [dcRow]; omega
theorem gi_rep0 (n j : Nat) : gi (List.replicate n 0) j = 0 := by
  by_cases h : j < n
  · simp [gi, List.getD, h]
  · simp [gi, List.getD, h]
theorem dcAll_bd (S C : List Int) (i j : Nat) : 0 ≤ gi (dcAll S C i) j ∧ gi (dcAll S C i) j ≤ (i : Int) * (C.length : Int) := by
  induction i generalizing j with
  | zero => simp only [dcAll, gi_rep0]; omega
  | succ i ih =>
    have := dcRow_bd S C i _ _ ih C.length j
    simp only [dcAll]
    have e : ((i + 1 : Nat) : Int) * (C.length : Int) = (i : Int) * (C.length : Int) + (C.length : Int) := by
      rw [show ((i + 1 : Nat) : Int) = (i : Int) + 1 from rfl, Int.add_mul, Int.one_mul]
    omega
/-- no count is out of reach -/
theorem dc_small (S C : List Int) (i k j : Nat) (hC : C.length ≤ 1024) (hi : i < C.length) (hk : k ≤ C.length) : 0 ≤ gi (dcRow S C i (dcAll S C i) k) j ∧ gi (dcRow S C i (dcAll S C i) k) j ≤ 1048576 := by
  have h := dcRow_bd S C i _ _ (fun j => dcAll_bd S C i j) k j
  have h2 : i * C.length ≤ 1023 * 1024 := Nat.mul_le_mul (by omega) hC
  have h3 : ((i * C.length : Nat) : Int) ≤ ((1023 * 1024 : Nat) : Int) := Int.ofNat_le.2 h2
  rw [Int.natCast_mul] at h3
  omega
def vCounts (S C : List Int) : List Int := if eCode S C = 0 then dcAll S C C.length else []
theorem vCounts_len (S C : List Int) : (vCounts S C).length ≤ S.length + 1 := by
  unfold vCounts
  split
  · rw [dcAll_len]; omega
  · simp

end Cv
end Go.Proofs.Ytlkfmopcdmppmaa
