/-
  Plain facts on excess and on the numbers of words by how often they are covered. By an AI agent.
-/
import Derived.Test.YtlkfmopcdmppmaaMath9
namespace Go.Proofs.Ytlkfmopcdmppmaa
set_option linter.unusedVariables false
set_option linter.unusedSimpArgs false
namespace Cv

/-- how often word u is covered -/
def tAt (S C : List Int) (r : Int) (u : Nat) : Int := tcov S C r u C.length
theorem tAt_bd (S C : List Int) (r : Int) (u : Nat) : 0 ≤ tAt S C r u ∧ tAt S C r u ≤ C.length := tcov_bd S C r u C.length
theorem gi_timesA (S C : List Int) (r : Int) (u : Nat) (h : u < (nW S).toNat) : gi (timesL S C r) u = tAt S C r u := gi_timesL S C r u h
/-- the sum of f u - 1 over the first k -/
def exS (f : Nat → Int) : Nat → Int
  | 0 => 0
  | k + 1 => exS f k + (f k - 1)
theorem exS_bd (f : Nat → Int) (b : Int) (hb : 0 ≤ b) (h : ∀ u, 0 ≤ f u ∧ f u ≤ b) (k : Nat) : -(k : Int) ≤ exS f k ∧ exS f k ≤ k * b := by
  induction k with
  | zero => simp [exS]
  | succ k ih =>
    have := h k
    have e : ((k + 1 : Nat) : Int) * b = (k : Int) * b + b := by rw [Int.natCast_add, Int.add_mul]; simp
    rw [exS]; omega
/-- is one of the first k not covered? -/
def zTo (f : Nat → Int) : Nat → Bool
  | 0 => false
  | k + 1 => zTo f k || decide (f k = 0)
theorem zTo_iff (f : Nat → Int) (k : Nat) : zTo f k = true ↔ ∃ u, u < k ∧ f u = 0 := by
  induction k with
  | zero => simp [zTo]
  | succ k ih =>
    simp only [zTo, Bool.or_eq_true, ih, decide_eq_true_eq]
    constructor
    · rintro (⟨u, h1, h2⟩ | h)
      · exact ⟨u, by omega, h2⟩
      · exact ⟨k, by omega, h⟩
    · rintro ⟨u, h1, h2⟩
      by_cases e : u = k
      · subst e; exact .inr h2
      · exact .inl ⟨u, by omega, h2⟩
theorem zTo_at {f : Nat → Int} {k n : Nat} (hk : k < n) (h : f k = 0) : zTo f n = true := (zTo_iff f n).2 ⟨k, hk, h⟩
theorem zTo_none {f : Nat → Int} {n : Nat} (h : ∀ u, u < n → f u ≠ 0) : zTo f n = false := by
  cases e : zTo f n with
  | false => rfl
  | true => obtain ⟨u, h1, h2⟩ := (zTo_iff f n).1 e; exact absurd h2 (h u h1)
def eExc (S C : List Int) (r : Int) : Int := if eCov S C r = 0 then (if zTo (tAt S C r) (nW S).toNat = true then 5 else 0) else eCov S C r
def vExc (S C : List Int) (r : Int) : Int := if eCov S C r = 0 ∧ zTo (tAt S C r) (nW S).toNat = false then exS (tAt S C r) (nW S).toNat else 0
theorem exc_bad {S C : List Int} {r : Int} (h : eCov S C r ≠ 0) : eExc S C r = eCov S C r ∧ vExc S C r = 0 := ⟨by unfold eExc; rw [if_neg h], by unfold vExc; rw [if_neg (fun g => h g.1)]⟩
theorem exc_zero {S C : List Int} {r : Int} (h : eCov S C r = 0) (hz : zTo (tAt S C r) (nW S).toNat = true) : eExc S C r = 5 ∧ vExc S C r = 0 := ⟨by unfold eExc; rw [if_pos h, if_pos hz], by unfold vExc; rw [if_neg (fun g => by rw [hz] at g; cases g.2)]⟩
theorem exc_ok {S C : List Int} {r : Int} (h : eCov S C r = 0) (hz : zTo (tAt S C r) (nW S).toNat = false) : eExc S C r = 0 ∧ vExc S C r = exS (tAt S C r) (nW S).toNat := ⟨by unfold eExc; rw [if_pos h, if_neg (by simp [hz])], by unfold vExc; rw [if_pos ⟨h, hz⟩]⟩
/-- numbers of words by how often they are covered, of the first k -/
def covTo (f : Nat → Int) (n : Nat) : Nat → List Int
  | 0 => List.replicate n 0
  | k + 1 => bump (covTo f n k) (f k)
theorem covTo_len (f : Nat → Int) (n k : Nat) : (covTo f n k).length = n := by
  induction k with
  | zero => simp [covTo]
  | succ k ih => rw [covTo, bump_len, ih]
theorem covTo_bd (f : Nat → Int) (n k j : Nat) : 0 ≤ gi (covTo f n k) j ∧ gi (covTo f n k) j ≤ k := by
  induction k generalizing j with
  | zero => simp [covTo, gi_rep0]
  | succ k ih =>
    have := bump_bd (covTo f n k) (f k) k ih j
    rw [covTo]; omega
def vCov (S C : List Int) (r : Int) : List Int := if eCov S C r = 0 then covTo (tAt S C r) (C.length + 1) (nW S).toNat else []
theorem vCov_len (S C : List Int) (r : Int) : (vCov S C r).length ≤ 1025 := by
  unfold vCov
  split
  · rename_i h
    obtain ⟨a, b, c⟩ := eCode_zero (eCov_zero h).1
    have := code_len a b c
    rw [covTo_len]; omega
  · simp

end Cv
end Go.Proofs.Ytlkfmopcdmppmaa
