/-
  Which words a code does not cover, and which words are far from all of its words: plain facts. By an AI agent.
-/
import Derived.Test.YtlkfmopcdmppmaaMath15
import Derived.Test.YtlkfmopcdmppmaaMath16
namespace Go.Proofs.Ytlkfmopcdmppmaa
set_option linter.unusedVariables false
namespace Cv

theorem cnt_zero (p : Nat → Bool) (n : Nat) : cnt p n = 0 ↔ ∀ j, j < n → p j = false := by
  induction n with
  | zero => simp [cnt]
  | succ n ih =>
    have hb := cnt_bd p n
    rw [cnt_at]
    constructor
    · intro h j hj
      by_cases e : p n = true
      · rw [if_pos e] at h; omega
      · rw [if_neg e] at h
        by_cases e2 : j = n
        · subst e2; simpa using e
        · exact ih.1 (by omega) j (by omega)
    · intro h
      rw [if_neg (by rw [h n (by omega)]; simp), ih.2 fun j hj => h j (by omega)]; rfl
theorem tcov_zero (S C : List Int) (r x : Int) (k : Nat) (hk : k ≤ C.length) : tcov S C r x k = 0 ↔ ∀ j, j < k → ¬ dist S x (gi C j) ≤ r := by
  induction k with
  | zero => simp [tcov, cnt]
  | succ k ih =>
    have hb := tcov_bd S C r x k
    by_cases h : dist S x (gi C k) ≤ r
    · rw [tcov_yes _ _ _ _ _ h]
      constructor
      · intro g; omega
      · intro g; exact absurd h (g k (by omega))
    · rw [tcov_no _ _ _ _ _ h, ih (by omega)]
      constructor
      · intro g j hj
        by_cases e : j = k
        · subst e; exact h
        · exact g j (by omega)
      · exact fun g j hj => g j (by omega)
theorem uncP_in (S C : List Int) (r : Int) (u : Nat) : uncP S C r u = decide (¬ ∃ c ∈ C, dist S u c ≤ r) := by
  unfold uncP tAt
  rw [Bool.eq_iff_iff, beq_iff_eq, decide_eq_true_eq, tcov_zero _ _ _ _ _ (Nat.le_refl _)]
  constructor
  · rintro h ⟨c, hc, hd⟩
    obtain ⟨i, hi, e⟩ := mem_gi hc
    exact h i hi (by rw [e]; exact hd)
  · exact fun h j hj hd => h ⟨gi C j, gi_mem hj, hd⟩
/-- whether some word of the first k is in no way near a code -/
theorem farTo_unc (S C : List Int) (u : Nat) (d : Int) : farTo S C u d C.length = uncP S C (d - 1) u := by
  rw [uncP_in, Bool.eq_iff_iff, farTo_iff, decide_eq_true_eq]
  constructor
  · rintro h ⟨c, hc, hd⟩
    obtain ⟨i, hi, e⟩ := mem_gi hc
    have := h i hi
    rw [e, dist_comm] at this
    omega
  · intro h j hj
    have : ¬ dist S u (gi C j) ≤ d - 1 := fun g => h ⟨gi C j, gi_mem hj, g⟩
    rw [dist_comm]; omega
theorem selL_nil (p : Nat → Bool) (n : Nat) : (selL p n).length = 0 ↔ ∀ u, u < n → p u = false := by
  rw [List.length_eq_zero_iff]
  constructor
  · intro h u hu
    cases e : p u with
    | false => rfl
    | true =>
      have : ((u : Nat) : Int) ∈ selL p n := (mem_selL p n u).2 ⟨u, hu, e, rfl⟩
      rw [h] at this; simp at this
  · intro h
    apply List.eq_nil_iff_forall_not_mem.2
    intro x hx
    obtain ⟨i, hi, hp, _⟩ := (mem_selL p n x).1 hx
    rw [h i hi] at hp; cases hp
/-- whether the first k words hold one that can be put to a code -/
def growTo (S C : List Int) (d : Int) : Nat → Bool
  | 0 => false
  | k + 1 => growTo S C d k || (!(inL C k) && farTo S C k d C.length)
theorem growTo_iff (S C : List Int) (d : Int) (k : Nat) : growTo S C d k = true ↔ ∃ u, u < k ∧ inL C u = false ∧ farTo S C u d C.length = true := by
  induction k with
  | zero => simp [growTo]
  | succ k ih =>
    rw [growTo, Bool.or_eq_true, ih, Bool.and_eq_true, Bool.not_eq_true']
    constructor
    · rintro (⟨u, h1, h2⟩ | ⟨h1, h2⟩)
      · exact ⟨u, by omega, h2⟩
      · exact ⟨k, by omega, h1, h2⟩
    · rintro ⟨u, h1, h2, h3⟩
      by_cases e : u = k
      · subst e; exact .inr ⟨h2, h3⟩
      · exact .inl ⟨u, by omega, h2, h3⟩
theorem dist_self (S : List Int) (u : Int) : dist S u u = 0 := by
  unfold dist
  rw [cnt_zero]
  intro j _; simp
/-- a code can grow where it leaves words uncovered -/
theorem growTo_unc (S C : List Int) (d : Int) (hd : 1 ≤ d) (n : Nat) : growTo S C d n = !decide ((selL (uncP S C (d - 1)) n).length = 0) := by
  rw [Bool.eq_iff_iff, growTo_iff, Bool.not_eq_true', decide_eq_false_iff_not, selL_nil]
  constructor
  · rintro ⟨u, h1, h2, h3⟩ h
    rw [farTo_unc, h u h1] at h3; cases h3
  · intro h
    have : ∃ u, u < n ∧ uncP S C (d - 1) u = true := by
      apply Classical.byContradiction
      intro g
      exact h fun u hu => by
        cases e : uncP S C (d - 1) u with
        | false => rfl
        | true => exact absurd ⟨u, hu, e⟩ g
    obtain ⟨u, h1, h2⟩ := this
    refine ⟨u, h1, ?_, by rw [farTo_unc]; exact h2⟩
    rw [uncP_in, decide_eq_true_eq] at h2
    unfold inL
    rw [decide_eq_false_iff_not]
    exact fun hc => h2 ⟨(u : Int), hc, by rw [dist_self]; omega⟩
def vGrow (S C : List Int) (d : Int) : Bool := if eAp S C d = 0 then growTo S C d (nW S).toNat else false

/-- the greedy code apart by d, of the first k words -/
def gaTo (S : List Int) (d : Int) : Nat → List Int
  | 0 => []
  | k + 1 => gaTo S d k ++ if farTo S (gaTo S d k) k d (gaTo S d k).length then [(k : Int)] else []
theorem gaTo_len (S : List Int) (d : Int) (k : Nat) : (gaTo S d k).length ≤ k := by
  induction k with
  | zero => simp [gaTo]
  | succ k ih => rw [gaTo, List.length_append]; split <;> simp <;> omega
theorem gaTo_yes {S : List Int} {d : Int} {k : Nat} (h : farTo S (gaTo S d k) k d (gaTo S d k).length = true) : gaTo S d (k + 1) = gaTo S d k ++ [(k : Int)] := by rw [gaTo, if_pos h]
theorem gaTo_no {S : List Int} {d : Int} {k : Nat} (h : farTo S (gaTo S d k) k d (gaTo S d k).length = false) : gaTo S d (k + 1) = gaTo S d k := by rw [gaTo, h]; simp
theorem gaTo_bd (S : List Int) (d : Int) (k : Nat) : ∀ x, x ∈ gaTo S d k → 0 ≤ x ∧ x < k := by
  induction k with
  | zero => simp [gaTo]
  | succ k ih =>
    intro x hx
    rw [gaTo, List.mem_append] at hx
    rcases hx with hx | hx
    · have := ih x hx; omega
    · split at hx
      · have : x = (k : Int) := by simpa using hx
        omega
      · simp at hx
def vGrA (S : List Int) (d : Int) : List Int := if eNum S d 1 9 = 0 then gaTo S d (nW S).toNat else []
theorem vGrA_len (S : List Int) (d : Int) : (vGrA S d).length ≤ 1024 := by
  unfold vGrA
  split
  · rename_i h
    have := nW_bd (eNum_zero h).1
    have := gaTo_len S d (nW S).toNat
    omega
  · simp

end Cv
end Go.Proofs.Ytlkfmopcdmppmaa
