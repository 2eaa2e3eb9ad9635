/-
  Codes, as plain lists of numbers. By an AI agent.
-/
import Derived.Test.YtlkfmopcdmppmaaMath2
namespace Go.Proofs.Ytlkfmopcdmppmaa
set_option linter.unusedVariables false
set_option linter.unusedSimpArgs false
namespace Cv

/-- whether the first k numbers of a list ascend -/
def ascB (C : List Int) : Nat → Bool
  | 0 => true
  | k + 1 => ascB C k && (decide (k = 0) || decide (gi C (k - 1) < gi C k))
theorem ascB_iff (C : List Int) (k : Nat) : ascB C k = true ↔ ∀ i, 0 < i → i < k → gi C (i - 1) < gi C i := by
  induction k with
  | zero => simp [ascB]
  | succ k ih =>
    simp only [ascB, Bool.and_eq_true, Bool.or_eq_true, decide_eq_true_eq, ih]
    constructor
    · rintro ⟨h, a⟩ i h0 hi
      by_cases e : i = k
      · subst e
        rcases a with a | a
        · omega
        · exact a
      · exact h i h0 (by omega)
    · intro h
      refine ⟨fun i h0 hi => h i h0 (by omega), ?_⟩
      by_cases e : k = 0
      · exact .inl e
      · exact .inr (h k (by omega) (by omega))
/-- whether a list is a code -/
def codeB (S C : List Int) : Bool := okW S C C.length && ascB C C.length
theorem codeB_iff (S C : List Int) : codeB S C = true ↔ (∀ i, i < C.length → 0 ≤ gi C i ∧ gi C i < nW S) ∧ ∀ i, 0 < i → i < C.length → gi C (i - 1) < gi C i := by
  simp only [codeB, Bool.and_eq_true, okW_iff, ascB_iff]
theorem codeB_bad {S C : List Int} {k : Nat} (hk : k < C.length) (h : ¬ (0 ≤ gi C k ∧ gi C k < nW S)) : codeB S C = false := by
  rw [← Bool.not_eq_true, codeB_iff]; exact fun a => h (a.1 k hk)
theorem codeB_desc {S C : List Int} {k : Nat} (h0 : 0 < k) (hk : k < C.length) (h : ¬ gi C (k - 1) < gi C k) : codeB S C = false := by
  rw [← Bool.not_eq_true, codeB_iff]; exact fun a => h (a.2 k h0 hk)
theorem codeB_ok {S C : List Int} (h1 : ∀ i, i < C.length → 0 ≤ gi C i ∧ gi C i < nW S) (h2 : ∀ i, 0 < i → i < C.length → gi C (i - 1) < gi C i) : codeB S C = true := (codeB_iff S C).2 ⟨h1, h2⟩

/-- the error of a space and a code -/
def eCode (S C : List Int) : Int := if isSp S = true then (if codeB S C = true then 0 else 2) else 1
theorem eCode_inv {S C : List Int} (h : isSp S = false) : eCode S C = 1 := by simp [eCode, h]
theorem eCode_bad {S C : List Int} (h : isSp S = true) (hb : codeB S C = false) : eCode S C = 2 := by simp [eCode, h, hb]
theorem eCode_ok {S C : List Int} (h : isSp S = true) (hb : codeB S C = true) : eCode S C = 0 := by simp [eCode, h, hb]
theorem eCode_zero {S C : List Int} (h : eCode S C = 0) : Sp S ∧ (∀ i, i < C.length → 0 ≤ gi C i ∧ gi C i < nW S) ∧ ∀ i, 0 < i → i < C.length → gi C (i - 1) < gi C i := by
  by_cases h1 : isSp S = true
  · by_cases h2 : codeB S C = true
    · exact ⟨(isSp_iff S).1 h1, (codeB_iff S C).1 h2⟩
    · simp [eCode, h1, h2] at h
  · simp [eCode, h1] at h
/-- a code has no more words than the space -/
theorem code_ge {S C : List Int} (h1 : ∀ i, i < C.length → 0 ≤ gi C i ∧ gi C i < nW S) (h2 : ∀ i, 0 < i → i < C.length → gi C (i - 1) < gi C i) (i : Nat) (hi : i < C.length) : (i : Int) ≤ gi C i := by
  induction i with
  | zero => exact (h1 0 hi).1
  | succ i ih =>
    have a := ih (by omega)
    have b := h2 (i + 1) (by omega) hi
    rw [Nat.add_sub_cancel] at b
    omega
theorem code_len {S C : List Int} (hS : Sp S) (h1 : ∀ i, i < C.length → 0 ≤ gi C i ∧ gi C i < nW S) (h2 : ∀ i, 0 < i → i < C.length → gi C (i - 1) < gi C i) : C.length ≤ 1024 := by
  rcases Nat.eq_zero_or_pos C.length with h | h
  · omega
  · have a := code_ge h1 h2 (C.length - 1) (by omega)
    have b := (h1 (C.length - 1) (by omega)).2
    have c := (nW_bd hS).2
    omega

def vIsCode (S C : List Int) : Bool := isSp S && codeB S C

/-- words that are not in a code: how many words of the code lie below k, and the others -/
def oppAt (C : List Int) : Nat → Nat
  | 0 => 0
  | k + 1 => if oppAt C k < C.length ∧ gi C (oppAt C k) = (k : Int) then oppAt C k + 1 else oppAt C k
def oppOut (C : List Int) : Nat → List Int
  | 0 => []
  | k + 1 => if oppAt C k < C.length ∧ gi C (oppAt C k) = (k : Int) then oppOut C k else oppOut C k ++ [(k : Int)]
theorem oppAt_le (C : List Int) (k : Nat) : oppAt C k ≤ k ∧ oppAt C k ≤ C.length := by
  induction k with
  | zero => simp [oppAt]
  | succ k ih => simp only [oppAt]; split <;> omega
theorem oppOut_len (C : List Int) (k : Nat) : (oppOut C k).length ≤ k := by
  induction k with
  | zero => simp [oppOut]
  | succ k ih =>
    simp only [oppOut]
    split
    · omega
    · rw [List.length_append, List.length_singleton]; omega
def vOppC (S C : List Int) : List Int := if eCode S C = 0 then oppOut C (nW S).toNat else []
theorem vOppC_len (S C : List Int) : (vOppC S C).length ≤ 1024 := by
  unfold vOppC
  split
  · rename_i h
    have := oppOut_len C (nW S).toNat
    have := (nW_bd (eCode_zero h).1)
    omega
  · simp

end Cv
end Go.Proofs.Ytlkfmopcdmppmaa
