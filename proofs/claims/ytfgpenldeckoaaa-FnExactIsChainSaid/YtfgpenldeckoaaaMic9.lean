/-
  Chains of codes, plain. By an AI agent.
-/
import Derived.Test.YtfgpenldeckoaaaMathB
import Derived.Test.YtfgpenldeckoaaaCode2
import Derived.Test.YtfgpenldeckoaaaRwc
namespace Go.Proofs.Ytfgpenldeckoaaa
open Go.RowKit Cv

def alC (S : List Int) (R : List (List Int)) : Nat → Bool
  | 0 => true
  | k + 1 => alC S R k && codeB S (rr R k)
def sbB (A B : List Int) : Nat → Bool
  | 0 => true
  | i + 1 => sbB A B i && decide (gi A i ∈ B)
def chB (R : List (List Int)) : Nat → Bool
  | 0 => true
  | k + 1 => chB R k && sbB (rr R k) (rr R (k + 1)) (rr R k).length
theorem alC_stop {S : List Int} {R : List (List Int)} {k : Nat} (h : alC S R k = false) (n : Nat) (hk : k ≤ n) : alC S R n = false := by
  induction n with
  | zero => rw [show k = 0 from by omega] at h; exact h
  | succ n ih =>
    by_cases e : k = n + 1
    · subst e; exact h
    · simp [alC, ih (by omega)]
theorem sbB_stop {A B : List Int} {k : Nat} (h : sbB A B k = false) (n : Nat) (hk : k ≤ n) : sbB A B n = false := by
  induction n with
  | zero => rw [show k = 0 from by omega] at h; exact h
  | succ n ih =>
    by_cases e : k = n + 1
    · subst e; exact h
    · simp [sbB, ih (by omega)]
theorem chB_stop {R : List (List Int)} {k : Nat} (h : chB R k = false) (n : Nat) (hk : k ≤ n) : chB R n = false := by
  induction n with
  | zero => rw [show k = 0 from by omega] at h; exact h
  | succ n ih =>
    by_cases e : k = n + 1
    · subst e; exact h
    · simp [chB, ih (by omega)]
def eIc (S : List Int) (R : List (List Int)) : Int := if isSp S = true then (if R.length ≤ 10 then (if alC S R R.length = true then 0 else 2) else 2) else 1
def vIc (S : List Int) (R : List (List Int)) : Bool := if eIc S R = 0 then chB R (R.length - 1) else false
theorem eIc_1 {S : List Int} {R : List (List Int)} (h : isSp S = false) : eIc S R = 1 ∧ vIc S R = false := by
  have e : eIc S R = 1 := by unfold eIc; simp [h]
  exact ⟨e, by unfold vIc; rw [e]; rfl⟩
theorem eIc_n {S : List Int} {R : List (List Int)} (h : isSp S = true) (hn : ¬ R.length ≤ 10) : eIc S R = 2 ∧ vIc S R = false := by
  have e : eIc S R = 2 := by unfold eIc; simp [h]; omega
  exact ⟨e, by unfold vIc; rw [e]; rfl⟩
theorem eIc_c {S : List Int} {R : List (List Int)} (h : isSp S = true) (hn : R.length ≤ 10) (hc : alC S R R.length = false) : eIc S R = 2 ∧ vIc S R = false := by
  have e : eIc S R = 2 := by unfold eIc; simp [h, hn, hc]
  exact ⟨e, by unfold vIc; rw [e]; rfl⟩
theorem eIc_0 {S : List Int} {R : List (List Int)} (h : isSp S = true) (hn : R.length ≤ 10) (hc : alC S R R.length = true) : eIc S R = 0 ∧ vIc S R = chB R (R.length - 1) := by
  have e : eIc S R = 0 := by unfold eIc; simp [h, hn, hc]
  exact ⟨e, by unfold vIc; rw [e]; rfl⟩

end Go.Proofs.Ytfgpenldeckoaaa
