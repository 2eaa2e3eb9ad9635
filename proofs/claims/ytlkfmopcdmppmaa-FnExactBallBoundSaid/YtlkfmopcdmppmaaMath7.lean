/-
  Plain facts on the walk over digits: what it carries along. By an AI agent.
-/
import Derived.Test.YtlkfmopcdmppmaaMath6
namespace Go.Proofs.Ytlkfmopcdmppmaa
set_option linter.unusedVariables false
set_option linter.unusedSimpArgs false
namespace Cv

/-- a word with its distance from x, within r -/
abbrev WP (S : List Int) (x r : Int) := { p : Int × Int // (0 ≤ p.1 ∧ p.1 < nW S) ∧ p.2 = dist S p.1 x ∧ p.2 ≤ r }

/-- what the walk knows of its first digits -/
structure WayB (S : List Int) (x r : Int) (k : Nat) (st far : Int) : Prop where
  lo : 0 ≤ st
  hi : st < prodTo S (S.length - k)
  f0 : 0 ≤ far
  f1 : far ≤ (S.length - k : Nat)
  fr : far ≤ r
  on : ∀ u, u ∈ allL S k st → far + dT S x u k = dist S u x
theorem way_start (S : List Int) (x r : Int) (hr : 0 ≤ r) : WayB S x r S.length 0 0 :=
  ⟨by omega, by simp [prodTo], by omega, by omega, hr, fun u _ => by rw [dT_all]; omega⟩
theorem way_end {S : List Int} {x r st far : Int} (h : WayB S x r 0 st far) : (0 ≤ st ∧ st < nW S) ∧ far = dist S st x ∧ far ≤ r := by
  refine ⟨⟨h.lo, by have := h.hi; simpa [nW] using this⟩, ?_, h.fr⟩
  have := h.on st (by simp [allL])
  rw [← this]; simp [dT, cntTop]
theorem way_step {S : List Int} (hb : ∀ i, i < S.length → 2 ≤ gi S i ∧ gi S i ≤ 4) {x r st far : Int} {k : Nat} (hk : k + 1 ≤ S.length) (h : WayB S x r (k + 1) st far) (d : Nat) (hd : (d : Int) < gi S (S.length - 1 - k)) (hn : far + cost S x k d ≤ r) :
    WayB S x r k (st * gi S (S.length - 1 - k) + d) (far + cost S x k d) := by
  have hq := hb (S.length - 1 - k) (by omega)
  have hlo := h.lo
  have hhi := h.hi
  have hc : 0 ≤ cost S x k d ∧ cost S x k d ≤ 1 := by unfold cost; split <;> omega
  have e : S.length - k = (S.length - (k + 1)) + 1 := by omega
  have e2 : S.length - 1 - k = S.length - (k + 1) := by omega
  have h1 := h.f0
  have h2 := h.f1
  refine ⟨?_, ?_, by omega, by omega, hn, fun u hu => ?_⟩
  · have := Int.mul_nonneg hlo (show 0 ≤ gi S (S.length - 1 - k) by omega)
    omega
  · rw [e, prodTo, ← e2]
    have h3 : (st + 1) * gi S (S.length - 1 - k) ≤ prodTo S (S.length - (k + 1)) * gi S (S.length - 1 - k) := Int.mul_le_mul_of_nonneg_right (by omega) (by omega)
    rw [← e2] at h3
    rw [Int.add_mul, Int.one_mul] at h3
    rw [e2] at h3 hd ⊢
    omega
  · have hin : u ∈ allL S (k + 1) st := by
      rw [allL]
      exact List.mem_flatMap.2 ⟨d, List.mem_range.2 (by omega), hu⟩
    have := h.on u hin
    rw [dT_step, dig_allL S hb k (by omega) st d hd u hu] at this
    omega
theorem walkD_yes {S : List Int} {x r : Int} {k : Nat} {st far : Int} {d : Nat} (h : far + cost S x k d ≤ r) : walkD S x r k st far d = walkL S x r k (st * gi S (S.length - 1 - k) + d) (far + cost S x k d) := by unfold walkD; rw [if_pos h]
theorem walkD_no {S : List Int} {x r : Int} {k : Nat} {st far : Int} {d : Nat} (h : ¬ far + cost S x k d ≤ r) : walkD S x r k st far d = [] := by unfold walkD; rw [if_neg h]
/-- what the first j rounds of the walk yield -/
def walkU (S : List Int) (x r : Int) (k : Nat) (st far : Int) (j : Nat) : List (Int × Int) := (List.range j).flatMap (walkD S x r k st far)
theorem walkU_succ (S : List Int) (x r : Int) (k : Nat) (st far : Int) (j : Nat) : walkU S x r k st far (j + 1) = walkU S x r k st far j ++ walkD S x r k st far j := by
  unfold walkU; rw [List.range_succ, List.flatMap_append]; simp
theorem walkU_all (S : List Int) (x r : Int) (k : Nat) (st far : Int) (q : Nat) (hq : gi S (S.length - 1 - k) = (q : Int)) : walkU S x r k st far q = walkL S x r (k + 1) st far := by
  rw [walkL_succ, hq]; rfl
theorem walkU_len (S : List Int) (x r : Int) (k : Nat) (st far : Int) (q j : Nat) (hq : gi S (S.length - 1 - k) = (q : Int)) (hj : j ≤ q) : (walkU S x r k st far j).length ≤ (walkL S x r (k + 1) st far).length := by
  obtain ⟨m, rfl⟩ : ∃ m, q = j + m := ⟨q - j, by omega⟩
  rw [← walkU_all S x r k st far _ hq]
  unfold walkU
  rw [List.range_add, List.flatMap_append, List.length_append]
  omega
theorem cost_eq {S : List Int} {x : Int} {k : Nat} {d : Int} (h : d = dig S x (S.length - 1 - k)) : cost S x k d = 0 := by unfold cost; rw [if_pos h]
theorem cost_ne {S : List Int} {x : Int} {k : Nat} {d : Int} (h : d ≠ dig S x (S.length - 1 - k)) : cost S x k d = 1 := by unfold cost; rw [if_neg h]

end Cv
end Go.Proofs.Ytlkfmopcdmppmaa
