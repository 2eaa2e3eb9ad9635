/-
  Ascending lists, and a number put into one, as plain lists. By an AI agent.
-/
import Derived.Test.YtlkfmopcdmppmaaMath3
namespace Go.Proofs.Ytlkfmopcdmppmaa
set_option linter.unusedVariables false
set_option linter.unusedSimpArgs false
namespace Cv

/-- a strictly ascending list -/
def Asc (L : List Int) : Prop := L.Pairwise (· < ·)
theorem asc_nil : Asc [] := List.Pairwise.nil
/-- ascending lists of the same numbers are one list -/
theorem asc_ext : ∀ {L M : List Int}, Asc L → Asc M → (∀ x, x ∈ L ↔ x ∈ M) → L = M
  | [], [], _, _, _ => rfl
  | [], b :: M, _, _, h => by have := (h b).2 (by simp); simp at this
  | a :: L, [], _, _, h => by have := (h a).1 (by simp); simp at this
  | a :: L, b :: M, hL, hM, h => by
    obtain ⟨h1, h2⟩ := List.pairwise_cons.1 hL
    obtain ⟨h3, h4⟩ := List.pairwise_cons.1 hM
    have e : a = b := by
      have ha := (h a).1 (by simp)
      have hb := (h b).2 (by simp)
      simp only [List.mem_cons] at ha hb
      rcases ha with ha | ha
      · exact ha
      · rcases hb with hb | hb
        · exact hb.symm
        · have := h3 a ha; have := h1 b hb; omega
    subst e
    congr 1
    refine asc_ext h2 h4 fun x => ?_
    have hx := h x
    simp only [List.mem_cons] at hx
    constructor
    · intro m
      rcases hx.1 (.inr m) with e | e
      · subst e; have := h1 x m; omega
      · exact e
    · intro m
      rcases hx.2 (.inr m) with e | e
      · subst e; have := h3 x m; omega
      · exact e
theorem asc_lt {L : List Int} (h : Asc L) {i j : Nat} (hij : i < j) (hj : j < L.length) : gi L i < gi L j := by
  rw [gi_lt L i (by omega), gi_lt L j hj]
  exact List.pairwise_iff_getElem.1 h i j (by omega) hj hij
theorem asc_of {L : List Int} (h : ∀ i, 0 < i → i < L.length → gi L (i - 1) < gi L i) : Asc L := by
  have key : ∀ d i, i + d + 1 < L.length → gi L i < gi L (i + d + 1) := by
    intro d
    induction d with
    | zero => intro i hi; have := h (i + 1) (by omega) (by omega); simpa using this
    | succ d ih =>
      intro i hi
      have a := ih i (by omega)
      have b := h (i + (d + 1) + 1) (by omega) hi
      have e : i + (d + 1) + 1 - 1 = i + d + 1 := by omega
      rw [e] at b; omega
  refine List.pairwise_iff_getElem.2 fun i j hi hj hij => ?_
  rw [← gi_lt L i hi, ← gi_lt L j hj]
  have := key (j - i - 1) i (by omega)
  have e : i + (j - i - 1) + 1 = j := by omega
  rwa [e] at this
theorem asc_code {S C : List Int} (h : eCode S C = 0) : Asc C := asc_of (eCode_zero h).2.2
theorem gi_mem {L : List Int} {i : Nat} (h : i < L.length) : gi L i ∈ L := by rw [gi_lt L i h]; exact List.getElem_mem h
theorem mem_gi {L : List Int} {x : Int} (h : x ∈ L) : ∃ i, i < L.length ∧ gi L i = x := by
  obtain ⟨i, hi, e⟩ := List.getElem_of_mem h
  exact ⟨i, hi, by rw [gi_lt L i hi]; exact e⟩

/-- where a number is put: behind the last one that is not greater, among the first n -/
def putAt (L : List Int) (x : Int) : Nat → Nat
  | 0 => 0
  | n + 1 => if x < gi L n then putAt L x n else n + 1
theorem putAt_le (L : List Int) (x : Int) (n : Nat) : putAt L x n ≤ n := by
  induction n with
  | zero => exact Nat.le_refl _
  | succ n ih => rw [putAt]; split <;> omega
theorem putAt_gt {L : List Int} {x : Int} {n : Nat} (h : x < gi L n) : putAt L x (n + 1) = putAt L x n := by rw [putAt, if_pos h]
theorem putAt_here {L : List Int} {x : Int} {n : Nat} (h : ¬ x < gi L n) : putAt L x (n + 1) = n + 1 := by rw [putAt, if_neg h]
theorem putAt_behind (L : List Int) (x : Int) (n : Nat) : ∀ j, putAt L x n ≤ j → j < n → x < gi L j := by
  induction n with
  | zero => intro j _ h; omega
  | succ n ih =>
    intro j h1 h2
    by_cases h : x < gi L n
    · rw [putAt_gt h] at h1
      by_cases e : j = n
      · subst e; exact h
      · exact ih j h1 (by omega)
    · rw [putAt_here h] at h1; omega
theorem putAt_ahead (L : List Int) (x : Int) (n : Nat) : 0 < putAt L x n → gi L (putAt L x n - 1) ≤ x := by
  induction n with
  | zero => intro h; simp [putAt] at h
  | succ n ih =>
    by_cases h : x < gi L n
    · rw [putAt_gt h]; exact ih
    · rw [putAt_here h]; intro _; simp; omega
/-- a list with one number more -/
def putL (L : List Int) (x : Int) : List Int :=
  if 0 < putAt L x L.length ∧ gi L (putAt L x L.length - 1) = x then L
  else L.take (putAt L x L.length) ++ [x] ++ L.drop (putAt L x L.length)
theorem putL_len (L : List Int) (x : Int) : L.length ≤ (putL L x).length ∧ (putL L x).length ≤ L.length + 1 := by
  have := putAt_le L x L.length
  unfold putL
  split
  · omega
  · simp; omega
theorem mem_putL (L : List Int) (x y : Int) : y ∈ putL L x ↔ y ∈ L ∨ y = x := by
  have hle := putAt_le L x L.length
  unfold putL
  split
  · rename_i h
    refine ⟨.inl, fun h' => ?_⟩
    rcases h' with h' | h'
    · exact h'
    · rw [h', ← h.2]; exact gi_mem (by omega)
  · have e : y ∈ L ↔ y ∈ L.take (putAt L x L.length) ∨ y ∈ L.drop (putAt L x L.length) := by
      rw [← List.mem_append, List.take_append_drop]
    rw [e]
    simp only [List.mem_append, List.mem_cons, List.not_mem_nil, or_false]
    constructor
    · rintro ((h | h) | h)
      · exact .inl (.inl h)
      · exact .inr h
      · exact .inl (.inr h)
    · rintro ((h | h) | h)
      · exact .inl (.inl h)
      · exact .inr h
      · exact .inl (.inr h)
theorem asc_putL {L : List Int} (h : Asc L) (x : Int) : Asc (putL L x) := by
  have hle := putAt_le L x L.length
  have hb := putAt_behind L x L.length
  have ha := putAt_ahead L x L.length
  unfold putL
  generalize putAt L x L.length = k at hle hb ha ⊢
  split
  · exact h
  · rename_i hn
    have hx : ∀ j, j < k → gi L j < x := by
      intro j hj
      have h1 := ha (by omega)
      have h2 : gi L (k - 1) ≠ x := fun e => hn ⟨by omega, e⟩
      by_cases e : j = k - 1
      · subst e; omega
      · have := asc_lt h (i := j) (j := k - 1) (by omega) (by omega); omega
    have p : (L.take k ++ L.drop k).Pairwise (· < ·) := by rw [List.take_append_drop]; exact h
    obtain ⟨p1, p2, p3⟩ := List.pairwise_append.1 p
    have q1 : ∀ a ∈ L.take k, a < x := by
      intro a hm
      obtain ⟨j, hj, e⟩ := mem_gi hm
      rw [List.length_take] at hj
      rw [gi_take L k j (by omega)] at e
      have := hx j (by omega); omega
    have q2 : ∀ b ∈ L.drop k, x < b := by
      intro b hm
      obtain ⟨j, hj, e⟩ := mem_gi hm
      rw [List.length_drop] at hj
      have e2 : gi (L.drop k) j = gi L (k + j) := by simp [gi]
      rw [e2] at e
      have := hb (k + j) (by omega) (by omega); omega
    refine List.pairwise_append.2 ⟨List.pairwise_append.2 ⟨p1, List.pairwise_singleton _ _, ?_⟩, p2, ?_⟩
    · intro a hm b hb'
      simp only [List.mem_cons, List.not_mem_nil, or_false] at hb'
      subst hb'; exact q1 a hm
    · intro a hm b hb'
      rcases List.mem_append.1 hm with hm | hm
      · exact p3 a hm b hb'
      · simp only [List.mem_cons, List.not_mem_nil, or_false] at hm
        subst hm; exact q2 b hb'
/-- numbers put into a list, one after the other -/
def putTo (L : List Int) (f : Nat → Int) : Nat → List Int
  | 0 => L
  | k + 1 => putL (putTo L f k) (f k)
theorem putTo_len (L : List Int) (f : Nat → Int) (k : Nat) : (putTo L f k).length ≤ L.length + k := by
  induction k with
  | zero => exact Nat.le_refl _
  | succ k ih => rw [putTo]; have := (putL_len (putTo L f k) (f k)).2; omega
theorem asc_putTo {L : List Int} (h : Asc L) (f : Nat → Int) (k : Nat) : Asc (putTo L f k) := by
  induction k with
  | zero => exact h
  | succ k ih => exact asc_putL ih _
theorem mem_putTo (L : List Int) (f : Nat → Int) (k : Nat) (y : Int) : y ∈ putTo L f k ↔ y ∈ L ∨ ∃ i, i < k ∧ y = f i := by
  induction k with
  | zero => simp [putTo]
  | succ k ih =>
    rw [putTo, mem_putL, ih]
    constructor
    · rintro ((h | ⟨i, hi, e⟩) | h)
      · exact .inl h
      · exact .inr ⟨i, by omega, e⟩
      · exact .inr ⟨k, by omega, h⟩
    · rintro (h | ⟨i, hi, e⟩)
      · exact .inl (.inl h)
      · by_cases e2 : i = k
        · subst e2; exact .inr e
        · exact .inl (.inr ⟨i, by omega, e⟩)

/-- the numbers below n that have p, ascending -/
def selL (p : Nat → Bool) (n : Nat) : List Int := ((List.range n).filter p).map fun (i : Nat) => (i : Int)
theorem selL_len (p : Nat → Bool) (n : Nat) : (selL p n).length ≤ n := by
  unfold selL
  rw [List.length_map]
  have := List.length_filter_le p (List.range n)
  simpa using this
theorem mem_selL (p : Nat → Bool) (n : Nat) (x : Int) : x ∈ selL p n ↔ ∃ i, i < n ∧ p i = true ∧ (i : Int) = x := by
  simp only [selL, List.mem_map, List.mem_filter, List.mem_range]
  constructor
  · rintro ⟨i, ⟨h1, h2⟩, e⟩; exact ⟨i, h1, h2, e⟩
  · rintro ⟨i, h1, h2, e⟩; exact ⟨i, ⟨h1, h2⟩, e⟩
theorem asc_selL (p : Nat → Bool) (n : Nat) : Asc (selL p n) := by
  have h : ((List.range n).filter p).Pairwise (· < ·) := List.Pairwise.filter p List.pairwise_lt_range
  exact List.Pairwise.map _ (fun a b h => by omega) h
theorem selL_succ (p : Nat → Bool) (n : Nat) : selL p (n + 1) = selL p n ++ if p n = true then [(n : Int)] else [] := by
  unfold selL
  rw [List.range_succ, List.filter_append, List.map_append]
  congr 1
  by_cases h : p n = true
  · simp [h]
  · simp [h]
theorem selL_congr {p q : Nat → Bool} {n : Nat} (h : ∀ i, i < n → p i = q i) : selL p n = selL q n := by
  unfold selL
  congr 1
  exact List.filter_congr fun i hi => h i (List.mem_range.1 hi)
/-- whether a number is in a list -/
def inL (C : List Int) (u : Nat) : Bool := decide ((u : Int) ∈ C)

end Cv
end Go.Proofs.Ytlkfmopcdmppmaa
