/-
  The contracts of the program's balls, coveredWords, wholeSet. By an AI agent.
-/
import Derived.Test.YtodbdcanhefcaaaBalls
namespace Go.Proofs.Ytodbdcanhefcaaa
open Go.RowKit Go.Shelf Cv
set_option linter.unusedVariables false
set_option linter.unusedSimpArgs false
set_option maxRecDepth 100000

attribute [local go_sem] Oper.semAt_some

/-- the words of all sets of a list together -/
def unionL (ps : List (Nat → Bool)) : Nat → Bool := fun u => ps.any (fun p => p u)
theorem unionL_snoc (ps : List (Nat → Bool)) (p : Nat → Bool) : unionL (ps ++ [p]) = fun u => unionL ps u || p u := by
  funext u; simp [unionL]
/-- the words that a code covers -/
def covN (S C : List Int) (r : Int) : Nat → Bool := unionL (C.map (ballN S r))

theorem ballN_in (S : List Int) (r c : Int) (u : Nat) : ballN S r c u = decide (u < (nW S).toNat ∧ dist S u c ≤ r) := by
  unfold ballN inL ballW
  rw [Bool.eq_iff_iff, decide_eq_true_eq, decide_eq_true_eq, selTo_eq, List.mem_map]
  constructor
  · rintro ⟨i, hi, e⟩
    have hi' : i = u := by have : (i : Int) = (u : Int) := e; omega
    subst hi'
    rw [List.mem_filter, List.mem_range] at hi
    exact ⟨hi.1, by simpa [ballB] using hi.2⟩
  · rintro ⟨h1, h2⟩
    exact ⟨u, by rw [List.mem_filter, List.mem_range]; exact ⟨h1, by simpa [ballB] using h2⟩, rfl⟩
theorem covN_in (S C : List Int) (r : Int) (u : Nat) : covN S C r u = decide (u < (nW S).toNat ∧ ∃ c ∈ C, dist S u c ≤ r) := by
  unfold covN unionL
  rw [Bool.eq_iff_iff, decide_eq_true_eq, List.any_eq_true]
  constructor
  · rintro ⟨p, hp, h⟩
    obtain ⟨c, hc, rfl⟩ := List.mem_map.1 hp
    rw [ballN_in, decide_eq_true_eq] at h
    exact ⟨h.1, c, hc, h.2⟩
  · rintro ⟨h1, c, hc, h2⟩
    exact ⟨_, List.mem_map.2 ⟨c, hc, rfl⟩, by rw [ballN_in, decide_eq_true_eq]; exact ⟨h1, h2⟩⟩
/-- the set of all words -/
def allN (S : List Int) : Nat → Bool := fun u => decide (u < (nW S).toNat)
theorem covN_whole {S : List Int} (h : Sp S) : covN S [0] 8 = allN S := by
  funext u
  rw [covN_in, allN, Bool.eq_iff_iff, decide_eq_true_eq, decide_eq_true_eq]
  exact ⟨fun g => g.1, fun g => ⟨g, 0, by simp, by have := (dist_bd S u 0).2; have := h.hi; omega⟩⟩

theorem zero_code : ∀ i, i < ([0] : List Int).length → 0 ≤ gi [0] i ∧ gi [0] i ≤ 9223372036854775807 := fun i hi => by
  have e : i = 0 := by simpa using hi
  subst e
  exact ⟨Int.le_refl 0, by decide⟩
end Go.Proofs.Ytodbdcanhefcaaa
