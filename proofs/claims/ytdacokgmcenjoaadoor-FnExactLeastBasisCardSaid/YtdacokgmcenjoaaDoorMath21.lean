/-
  Plain facts on a sorted list without its repeated numbers. By an AI agent.
-/
import Derived.Test.YtdacokgmcenjoaaDoorMath
namespace Go.Proofs.YtdacokgmcenjoaaDoor
set_option linter.unusedVariables false
set_option linter.unusedSimpArgs false
namespace Cv

/-- the first k numbers of a list, each one that is its neighbour's left out -/
def cmpT (L : List Int) : Nat → List Int
  | 0 => []
  | k + 1 => if k = 0 ∨ gi L k ≠ gi L (k - 1) then cmpT L k ++ [gi L k] else cmpT L k
theorem cmpT_len (L : List Int) (k : Nat) : (cmpT L k).length ≤ k := by
  induction k with
  | zero => simp [cmpT]
  | succ k ih =>
    rw [cmpT]
    split
    · rw [List.length_append]; simp; omega
    · omega
theorem mem_cmpT (L : List Int) (k : Nat) (y : Int) : y ∈ cmpT L k ↔ ∃ i, i < k ∧ y = gi L i := by
  induction k with
  | zero => simp [cmpT]
  | succ k ih =>
    rw [cmpT]
    split
    · rw [List.mem_append, ih, List.mem_singleton]
      constructor
      · rintro (⟨i, hi, e⟩ | e)
        · exact ⟨i, by omega, e⟩
        · exact ⟨k, by omega, e⟩
      · rintro ⟨i, hi, e⟩
        by_cases e2 : i = k
        · subst e2; exact .inr e
        · exact .inl ⟨i, by omega, e⟩
    · rename_i h
      rw [ih]
      constructor
      · rintro ⟨i, hi, e⟩; exact ⟨i, by omega, e⟩
      · rintro ⟨i, hi, e⟩
        by_cases e2 : i = k
        · have h1 : k ≠ 0 := fun g => h (.inl g)
          have h2 : gi L k = gi L (k - 1) := Classical.byContradiction fun g => h (.inr g)
          subst e2; exact ⟨i - 1, by omega, by rw [e, h2]⟩
        · exact ⟨i, by omega, e⟩
/-- neighbours rise or stay, so all behind do -/
theorem up_le {L : List Int} (h : L.Pairwise (· ≤ ·)) {i j : Nat} (hij : i ≤ j) (hj : j < L.length) : gi L i ≤ gi L j := by
  by_cases e : i = j
  · subst e; exact Int.le_refl _
  · rw [gi_lt L i (by omega), gi_lt L j hj]
    exact List.pairwise_iff_getElem.1 h i j (by omega) hj (by omega)
theorem asc_cmpT {L : List Int} (h : L.Pairwise (· ≤ ·)) (k : Nat) (hk : k ≤ L.length) : Asc (cmpT L k) := by
  induction k with
  | zero => exact asc_nil
  | succ k ih =>
    rw [cmpT]
    split
    · rename_i g
      refine List.pairwise_append.2 ⟨ih (by omega), List.pairwise_singleton _ _, fun a ha b hb => ?_⟩
      rw [List.mem_singleton] at hb
      subst hb
      obtain ⟨i, hi, e⟩ := (mem_cmpT L k a).1 ha
      subst e
      rcases g with g | g
      · omega
      · have h1 := up_le h (show i ≤ k - 1 by omega) (by omega)
        have h2 := up_le h (show k - 1 ≤ k by omega) (by omega)
        omega
    · exact ih (by omega)
/-- sorting and leaving out what is there twice is putting each number to its place -/
theorem cmp_put (L : List Int) (f : Nat → Int) (hf : ∀ i, i < L.length → gi L i = f i) : cmpT (sorted L) L.length = putTo [] f L.length := by
  refine asc_ext (asc_cmpT (sorted_le L) _ (by rw [sorted_len]; exact Nat.le_refl _)) (asc_putTo asc_nil _ _) fun y => ?_
  rw [mem_cmpT, mem_putTo]
  constructor
  · rintro ⟨i, hi, rfl⟩
    have hm := (mem_sorted L _).1 (gi_mem (L := sorted L) (i := i) (by rw [sorted_len]; exact hi))
    obtain ⟨j, hj, e⟩ := mem_gi hm
    exact .inr ⟨j, hj, by rw [← hf j hj, e]⟩
  · rintro (h | ⟨i, hi, rfl⟩)
    · simp at h
    · have hm := (mem_sorted L (f i)).2 (by rw [← hf i hi]; exact gi_mem hi)
      obtain ⟨j, hj, e⟩ := mem_gi hm
      exact ⟨j, by rw [sorted_len] at hj; exact hj, e.symm⟩

theorem cmpT_take (L : List Int) (k : Nat) (hk : k ≤ L.length) (h : ∀ i, 0 < i → i < k → gi L i ≠ gi L (i - 1)) : cmpT L k = L.take k := by
  induction k with
  | zero => simp [cmpT]
  | succ k ih =>
    rw [cmpT, ih (by omega) fun i h1 h2 => h i h1 (by omega), take_snoc L k (by omega), if_pos]
    by_cases e : k = 0
    · exact .inl e
    · exact .inr (h k (by omega) (by omega))
/-- the state of the second loop: i numbers stand, m are read -/
def CmpI (L R : List Int) (i m : Nat) : Prop := R.length = L.length ∧ i < m ∧ R.take i = cmpT L m ∧ ∀ t, m - 1 ≤ t → gi R t = gi L t
theorem cmpI_start {L : List Int} {k : Nat} (h1 : 1 ≤ k) (hk : k < L.length) (h : ∀ i, 0 < i → i < k → gi L i ≠ gi L (i - 1)) (he : gi L k = gi L (k - 1)) : CmpI L L k (k + 1) := by
  refine ⟨rfl, by omega, ?_, fun t _ => rfl⟩
  rw [cmpT, if_neg (by rintro (g | g); omega; exact g he), cmpT_take L k (by omega) h]
theorem cmpI_skip {L R : List Int} {i m : Nat} (h : CmpI L R i m) (he : gi L m = gi L (m - 1)) : CmpI L R i (m + 1) := by
  obtain ⟨h1, h2, h3, h4⟩ := h
  refine ⟨h1, by omega, ?_, fun t ht => h4 t (by omega)⟩
  rw [cmpT, if_neg (by rintro (g | g); omega; exact g he), h3]
theorem cmpI_keep {L R : List Int} {i m : Nat} (h : CmpI L R i m) (hm : m < L.length) (he : gi L m ≠ gi L (m - 1)) : CmpI L (R.set i (gi L m)) (i + 1) (m + 1) := by
  obtain ⟨h1, h2, h3, h4⟩ := h
  refine ⟨by rw [List.length_set]; exact h1, by omega, ?_, fun t ht => ?_⟩
  · rw [cmpT, if_pos (.inr he), ← h3, take_snoc _ i (by rw [List.length_set]; omega), gi_set R i _ i (by omega), if_pos rfl, List.take_set_of_le (Nat.le_refl _)]
  · rw [gi_set R i _ t (by omega), if_neg (by omega)]; exact h4 t (by omega)
theorem cmpI_end {L R : List Int} {i : Nat} (h : CmpI L R i L.length) : R.take i = cmpT L L.length ∧ i < L.length := ⟨h.2.2.1, h.2.1⟩

end Cv
end Go.Proofs.YtdacokgmcenjoaaDoor
