/-
  What the functions of the first chapter give, as plain functions on lists of numbers. By an AI agent.
-/
import Derived.Test.YtdgbofjohinniaaMath
namespace Go.Proofs.Ytdgbofjohinniaa
set_option linter.unusedVariables false
set_option linter.unusedSimpArgs false
namespace Cv

def eSp (S : List Int) : Int := if isSp S = true then 0 else 1
def vCount (S : List Int) : Int := if isSp S = true then nW S else 0
def vDigits (S : List Int) (x : Int) : List Int := if eWords S [x] = 0 then digs S x else []
def vDist (S : List Int) (u x : Int) : Int := if eWords S [u, x] = 0 then dist S u x else 0
def vWeight (S : List Int) (x : Int) : Int := if eWords S [x] = 0 then dist S 0 x else 0
def vSum (S : List Int) (u x : Int) : Int := if eWords S [u, x] = 0 then sumW S u x else 0
def vOpp (S : List Int) (x : Int) : Int := if eWords S [x] = 0 then oppW S x else 0

theorem gi1 (a : Int) : gi [a] 0 = a := rfl
theorem gi20 (a b : Int) : gi [a, b] 0 = a := rfl
theorem gi21 (a b : Int) : gi [a, b] 1 = b := rfl
theorem eWords1 {S : List Int} {x : Int} (h : eWords S [x] = 0) : Sp S ∧ 0 ≤ x ∧ x < nW S := by
  obtain ⟨a, b⟩ := eWords_zero h
  exact ⟨a, b 0 (by simp)⟩
theorem eWords2 {S : List Int} {u x : Int} (h : eWords S [u, x] = 0) : Sp S ∧ (0 ≤ u ∧ u < nW S) ∧ 0 ≤ x ∧ x < nW S := by
  obtain ⟨a, b⟩ := eWords_zero h
  exact ⟨a, b 0 (by simp), b 1 (by simp)⟩
theorem eWords_0x (S : List Int) (x : Int) : eWords S [0, x] = eWords S [x] := by
  by_cases h : isSp S = true
  · have hN := (nW_bd ((isSp_iff S).1 h)).1
    have hN0 : decide (0 < nW S) = true := by simp; omega
    simp only [eWords, h, if_true, List.length_cons, List.length_nil, okW, Nat.zero_add, Nat.reduceAdd, gi1, gi20, gi21, hN0]
    have h0 : 0 < nW S := by omega
    by_cases a : 0 ≤ x <;> by_cases b : x < nW S <;> simp [a, b, h0]
  · have h' : isSp S = false := by simpa using h
    rw [eWords_inv h', eWords_inv h']
theorem vDigits_length (S : List Int) (x : Int) : (vDigits S x).length ≤ 8 := by
  unfold vDigits
  split
  · rename_i h
    rw [digs_length]; exact (eWords1 h).1.hi
  · simp

end Cv
end Go.Proofs.Ytdgbofjohinniaa
