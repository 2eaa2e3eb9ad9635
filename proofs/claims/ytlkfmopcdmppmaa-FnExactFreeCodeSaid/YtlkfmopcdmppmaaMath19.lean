/-
  Free codes, as plain lists. By an AI agent.
-/
import Derived.Test.YtlkfmopcdmppmaaMath
namespace Go.Proofs.Ytlkfmopcdmppmaa
set_option linter.unusedVariables false
set_option linter.unusedSimpArgs false
namespace Cv

/-- the first k numbers are places below n, ascending -/
def plTo (n : Int) (P : List Int) : Nat → Bool
  | 0 => true
  | k + 1 => plTo n P k && decide (0 ≤ gi P k) && decide (gi P k < n) && (decide (k = 0) || decide (gi P (k - 1) < gi P k))
theorem plTo_iff (n : Int) (P : List Int) (k : Nat) : plTo n P k = true ↔ ∀ i, i < k → (0 ≤ gi P i ∧ gi P i < n) ∧ (0 < i → gi P (i - 1) < gi P i) := by
  induction k with
  | zero => simp [plTo]
  | succ k ih =>
    simp only [plTo, Bool.and_eq_true, Bool.or_eq_true, decide_eq_true_eq, ih]
    constructor
    · rintro ⟨⟨⟨h1, h2⟩, h3⟩, h4⟩ i hi
      by_cases e : i = k
      · subst e; exact ⟨⟨h2, h3⟩, fun h0 => by rcases h4 with h4 | h4 <;> omega⟩
      · exact h1 i (by omega)
    · intro h
      have hk := h k (by omega)
      refine ⟨⟨⟨fun i hi => h i (by omega), hk.1.1⟩, hk.1.2⟩, ?_⟩
      by_cases e : k = 0
      · exact .inl e
      · exact .inr (hk.2 (by omega))
theorem plTo_bad {n : Int} {P : List Int} {k m : Nat} (hk : k < m) (h : ¬ (0 ≤ gi P k ∧ gi P k < n)) : plTo n P m = false := by
  cases e : plTo n P m with
  | false => rfl
  | true => exact absurd ((plTo_iff n P m).1 e k hk).1 h
theorem plTo_desc {n : Int} {P : List Int} {k m : Nat} (hk : k < m) (h0 : 0 < k) (h : ¬ gi P (k - 1) < gi P k) : plTo n P m = false := by
  cases e : plTo n P m with
  | false => rfl
  | true => exact absurd (((plTo_iff n P m).1 e k hk).2 h0) h
/-- all numbers of a list are in 0 .. n - 1 -/
def insTo (n : Int) (P : List Int) : Bool := decide (∀ j, j < P.length → 0 ≤ gi P j ∧ gi P j < n)
theorem pl_split (n : Int) (P : List Int) : plTo n P P.length = (ascB P P.length && insTo n P) := by
  rw [Bool.eq_iff_iff, Bool.and_eq_true, plTo_iff, ascB_iff, insTo, decide_eq_true_eq]
  exact ⟨fun h => ⟨fun i h0 hi => (h i hi).2 h0, fun j hj => (h j hj).1⟩, fun h i hi => ⟨h.2 i hi, fun h0 => h.1 i h0 hi⟩⟩
def eFree (S P : List Int) : Int := if isSp S = true then (if plTo S.length P P.length = true then 0 else 2) else 1
theorem eFree_inv {S P : List Int} (h : isSp S = false) : eFree S P = 1 := by simp [eFree, h]
theorem eFree_bad {S P : List Int} (h : isSp S = true) (hp : plTo S.length P P.length = false) : eFree S P = 2 := by unfold eFree; rw [if_pos h, hp]; rfl
theorem eFree_ok {S P : List Int} (h : isSp S = true) (hp : plTo S.length P P.length = true) : eFree S P = 0 := by unfold eFree; rw [if_pos h, if_pos hp]
/-- the digits of a word at the first k places are 0 -/
def frTo (S P : List Int) (u : Int) : Nat → Bool
  | 0 => true
  | k + 1 => frTo S P u k && decide (dig S u (gi P k).toNat = 0)
theorem frTo_no {S P : List Int} {u : Int} {j k : Nat} (hj : j < k) (h : ¬ dig S u (gi P j).toNat = 0) : frTo S P u k = false := by
  induction k with
  | zero => omega
  | succ k ih =>
    rw [frTo]
    by_cases e : j = k
    · subst e; simp [h]
    · rw [ih (by omega)]; rfl
def freeL (S P : List Int) (n : Nat) : List Int := selL (fun u => frTo S P u P.length) n
def vFree (S P : List Int) : List Int := if eFree S P = 0 then freeL S P (nW S).toNat else []
theorem eFree_zero {S P : List Int} (h : eFree S P = 0) : Sp S ∧ plTo S.length P P.length = true := by
  unfold eFree at h
  split at h
  · rename_i hs
    split at h
    · rename_i hp; exact ⟨(isSp_iff S).1 hs, hp⟩
    · simp at h
  · simp at h
theorem pl_len {n : Int} {P : List Int} (h : plTo n P P.length = true) (hn : 0 ≤ n) : (P.length : Int) ≤ n := by
  have h1 := (plTo_iff n P _).1 h
  have : ∀ i, i < P.length → (i : Int) ≤ gi P i := fun i => by
    induction i with
    | zero => intro hi; exact (h1 0 hi).1.1
    | succ i ih =>
      intro hi
      have := (h1 (i + 1) hi).2 (by omega)
      have := ih (by omega)
      rw [Nat.add_sub_cancel] at *
      omega
  by_cases e : P.length = 0
  · omega
  · have a := this (P.length - 1) (by omega)
    have b := (h1 (P.length - 1) (by omega)).1.2
    omega
theorem vFree_len (S P : List Int) : (vFree S P).length ≤ 1024 := by
  unfold vFree
  split
  · rename_i h
    have := nW_bd (eFree_zero h).1
    have := selL_len (fun u => frTo S P u P.length) (nW S).toNat
    unfold freeL; omega
  · simp

end Cv
end Go.Proofs.Ytlkfmopcdmppmaa
