/-
  What the functions of the first chapter give, as plain functions on lists of numbers. By an AI agent.
-/
import Derived.Test.YtlkfmopcdmppmaaMath
namespace Go.Proofs.Ytlkfmopcdmppmaa
set_option linter.unusedVariables false
set_option linter.unusedSimpArgs false
namespace Cv

def eSp (S : List Int) : Int := if isSp S = true then 0 else 1
def vCount (S : List Int) : Int := if isSp S = true then nW S else 0
def vDigits (S : List Int) (x : Int) : List Int := if eWords S [x] = 0 then digs S x else []
def vDist (S : List Int) (u x : Int) : Int := if eWords S [u, x] = 0 then dist S u x else 0
def vWeight (S : List Int) (x : Int) : Int := if eWords S [x] = 0 then dist S 0 x else 0
def vSum (S : List Int) (u x : Int) : Int := if eWords S [u, x] = 0 then sumW S u x else 0
def vOpp (S : List Int) (x : Int) : Int := if eWords S [x] = 0 then oppW S x else 0

theorem gi1 (a : Int) : gi [a] 0 = a := rfl
theorem gi20 (a b : Int) : gi [a, b] 0 = a := rfl
theorem gi21 (a b : Int) : gi [a, b] 1 = b := rfl
theorem eWords1 {S : List Int} {x : Int} (h : eWords S [x] = 0) : Sp S ∧ 0 ≤ x ∧ x < nW S := by
  obtain ⟨a, b⟩ := eWords_zero h
  exact ⟨a, b 0 (by simp)⟩
theorem eWords2 {S : List Int} {u x : Int} (h : eWords S [u, x] = 0) : Sp S ∧ (0 ≤ u ∧ u < nW S) ∧ 0 ≤ x ∧ x < nW S := by
  obtain ⟨a, b⟩ := eWords_zero h
  exact ⟨a, b 0 (by simp), b 1 (by simp)⟩
theorem eWords_0x (S : List Int) (x : Int) : eWords S [0, x] = eWords S [x] := by
  by_cases h : isSp S = true
  · have hN := (nW_bd ((isSp_iff S).1 h)).1
    have hN0 : decide (0 < nW S) = true := by simp; omega
    simp only [eWords, h, if_true, List.length_cons, List.length_nil, okW, Nat.zero_add, Nat.reduceAdd, gi1, gi20, gi21, hN0]
    have h0 : 0 < nW S := by omega
    by_cases a : 0 ≤ x <;> by_cases b : x < nW S <;> simp [a, b, h0]
  · have h' : isSp S = false := by simpa using h
    rw [eWords_inv h', eWords_inv h']
theorem vDigits_length (S : List Int) (x : Int) : (vDigits S x).length ≤ 8 := by
  unfold vDigits
  split
  · rename_i h
    rw [digs_length]; exact (eWords1 h).1.hi
  · simp

/-- whether the first k numbers of a list are digits -/
def okD (S D : List Int) : Nat → Bool
  | 0 => true
  | k + 1 => okD S D k && decide (0 ≤ gi D k) && decide (gi D k < gi S k)
theorem okD_iff (S D : List Int) (k : Nat) : okD S D k = true ↔ ∀ i, i < k → 0 ≤ gi D i ∧ gi D i < gi S i := by
  induction k with
  | zero => simp [okD]
  | succ k ih =>
    simp only [okD, Bool.and_eq_true, decide_eq_true_eq, ih]
    constructor
    · rintro ⟨⟨h, a⟩, b⟩ i hi
      by_cases e : i = k
      · subst e; exact ⟨a, b⟩
      · exact h i (by omega)
    · intro h
      exact ⟨⟨fun i hi => h i (by omega), (h k (by omega)).1⟩, (h k (by omega)).2⟩
/-- whether a list has one digit for each place -/
def dgB (S D : List Int) : Bool := decide (D.length = S.length) && okD S D S.length
theorem dgB_len {S D : List Int} (h : D.length ≠ S.length) : dgB S D = false := by simp [dgB, h]
theorem dgB_bad {S D : List Int} {k : Nat} (hk : k < S.length) (h : ¬ (0 ≤ gi D k ∧ gi D k < gi S k)) : dgB S D = false := by
  have : ¬ okD S D S.length = true := fun ho => h ((okD_iff S D _).1 ho k hk)
  simp [dgB, this]
theorem dgB_ok {S D : List Int} (h : D.length = S.length) (ha : ∀ i, i < S.length → 0 ≤ gi D i ∧ gi D i < gi S i) : dgB S D = true := by
  simp [dgB, h, (okD_iff S D _).2 ha]
theorem dgB_true {S D : List Int} (h : dgB S D = true) : D.length = S.length ∧ ∀ i, i < S.length → 0 ≤ gi D i ∧ gi D i < gi S i := by
  simp only [dgB, Bool.and_eq_true, decide_eq_true_eq, okD_iff] at h; exact h
def eWordOf (S D : List Int) : Int := if isSp S = true then (if dgB S D = true then 0 else 2) else 1
def vWordOf (S D : List Int) : Int := if isSp S = true ∧ dgB S D = true then wordTo S D S.length else 0

/-- the word with another digit at a place -/
def chgW (S : List Int) (x : Int) (i : Nat) (d : Int) : Int := wordTo S ((digs S x).set i d) S.length
def chgB (S : List Int) (i d : Int) : Bool := decide (0 ≤ i) && decide (i < S.length) && decide (0 ≤ d) && decide (d < gi S i.toNat)
def eChange (S : List Int) (x i d : Int) : Int := if eWords S [x] = 0 then (if chgB S i d = true then 0 else 2) else eWords S [x]
def vChange (S : List Int) (x i d : Int) : Int := if eWords S [x] = 0 ∧ chgB S i d = true then chgW S x i.toNat d else 0
theorem chgB_iff (S : List Int) (i d : Int) : chgB S i d = true ↔ (0 ≤ i ∧ i < S.length) ∧ 0 ≤ d ∧ d < gi S i.toNat := by
  simp [chgB, and_assoc]

end Cv
end Go.Proofs.Ytlkfmopcdmppmaa
