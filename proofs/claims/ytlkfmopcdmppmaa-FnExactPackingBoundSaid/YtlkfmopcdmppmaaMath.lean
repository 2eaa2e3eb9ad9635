/-
  Plain facts on lists of numbers and on words of a space: no Go, no program. Written by an AI agent.
-/
import Derived.Below
namespace Go.Proofs.Ytlkfmopcdmppmaa
set_option linter.unusedVariables false
set_option linter.unusedSimpArgs false
namespace Cv

/-- element i of a list, 0 where there is none -/
def gi (S : List Int) (i : Nat) : Int := S.getD i 0

theorem gi_lt (S : List Int) (i : Nat) (h : i < S.length) : gi S i = S[i] := by simp [gi, h]
theorem gi_map (S : List Int) (i : Nat) (h : i < S.length) : (S.map (Value.int .i64))[i]? = some (.int .i64 (gi S i)) := by simp [gi, h]
theorem ext_gi {S T : List Int} (hl : S.length = T.length) (h : ∀ i, i < S.length → gi S i = gi T i) : S = T := by
  apply List.ext_getElem hl
  intro i h1 h2
  have := h i h1
  rwa [gi_lt S i h1, gi_lt T i h2] at this

theorem gi_set (S : List Int) (k : Nat) (x : Int) (j : Nat) (hk : k < S.length) : gi (S.set k x) j = if j = k then x else gi S j := by
  simp only [gi, List.getD_eq_getElem?_getD, List.getElem?_set]
  by_cases e : k = j
  · subst e; simp [hk]
  · rw [if_neg e, if_neg (fun h => e h.symm)]
theorem gi_append_lt (S T : List Int) (j : Nat) (h : j < S.length) : gi (S ++ T) j = gi S j := by
  simp only [gi, List.getD_eq_getElem?_getD, List.getElem?_append_left h]
theorem gi_append_ge (S T : List Int) (j : Nat) (h : S.length ≤ j) : gi (S ++ T) j = gi T (j - S.length) := by
  simp only [gi, List.getD_eq_getElem?_getD, List.getElem?_append_right h]
theorem gi_out (S : List Int) (j : Nat) (h : S.length ≤ j) : gi S j = 0 := by simp [gi, h]
theorem take_snoc (S : List Int) (k : Nat) (h : k < S.length) : S.take (k + 1) = S.take k ++ [gi S k] := by
  rw [List.take_succ_eq_append_getElem h, gi_lt S k h]
theorem gi_take (S : List Int) (k j : Nat) (h : j < k) : gi (S.take k) j = gi S j := by simp [gi, h]

/-- the marks k, k + 1, .. -/
def marks (k : Int) (n : Nat) : List Int := (List.range n).map fun (i : Nat) => k + (i : Int)
theorem marks_length (k : Int) (n : Nat) : (marks k n).length = n := by simp [marks]
theorem gi_marks (k : Int) (n i : Nat) (h : i < n) : gi (marks k n) i = k + i := by
  rw [gi_lt _ _ (by simpa [marks_length] using h)]; simp [marks]

/-- the product of the first k sizes -/
def prodTo (S : List Int) : Nat → Int
  | 0 => 1
  | k + 1 => prodTo S k * gi S k

/-- all of the first k sizes are in 2..4 -/
def okTo (S : List Int) : Nat → Bool
  | 0 => true
  | k + 1 => okTo S k && decide (2 ≤ gi S k) && decide (gi S k ≤ 4)

/-- whether a list is that of the sizes of a space -/
def isSp (S : List Int) : Bool := decide (1 ≤ S.length) && decide (S.length ≤ 8) && okTo S S.length && decide (prodTo S S.length ≤ 1024)

theorem okTo_iff (S : List Int) (k : Nat) : okTo S k = true ↔ ∀ i, i < k → 2 ≤ gi S i ∧ gi S i ≤ 4 := by
  induction k with
  | zero => simp [okTo]
  | succ k ih =>
    simp only [okTo, Bool.and_eq_true, decide_eq_true_eq, ih]
    constructor
    · rintro ⟨⟨h, a⟩, b⟩ i hi
      by_cases e : i = k
      · subst e; exact ⟨a, b⟩
      · exact h i (by omega)
    · intro h
      exact ⟨⟨fun i hi => h i (by omega), (h k (by omega)).1⟩, (h k (by omega)).2⟩

theorem prodTo_bd (S : List Int) (k : Nat) (h : ∀ i, i < k → 2 ≤ gi S i ∧ gi S i ≤ 4) : 1 ≤ prodTo S k ∧ prodTo S k ≤ 4 ^ k := by
  induction k with
  | zero => simp [prodTo]
  | succ k ih =>
    obtain ⟨a, b⟩ := ih fun i hi => h i (by omega)
    obtain ⟨c, d⟩ := h k (by omega)
    constructor
    · have : 1 * 1 ≤ prodTo S k * gi S k := Int.mul_le_mul a (by omega) (by omega) (by omega)
      simpa [prodTo] using this
    · have : prodTo S k * gi S k ≤ 4 ^ k * 4 := Int.mul_le_mul b d (by omega) (by omega)
      simpa [prodTo, Int.pow_succ] using this

/-- a space: what 'isSp' says -/
structure Sp (S : List Int) : Prop where
  lo : 1 ≤ S.length
  hi : S.length ≤ 8
  bd : ∀ i, i < S.length → 2 ≤ gi S i ∧ gi S i ≤ 4
  pr : prodTo S S.length ≤ 1024

theorem isSp_iff (S : List Int) : isSp S = true ↔ Sp S := by
  simp only [isSp, Bool.and_eq_true, decide_eq_true_eq, okTo_iff]
  exact ⟨fun ⟨⟨⟨a, b⟩, c⟩, d⟩ => ⟨a, b, c, d⟩, fun h => ⟨⟨⟨h.lo, h.hi⟩, h.bd⟩, h.pr⟩⟩

theorem isSp_len {S : List Int} (h : ¬ (1 ≤ S.length ∧ S.length ≤ 8)) : isSp S = false := by
  rw [← Bool.not_eq_true, isSp_iff]; exact fun s => h ⟨s.lo, s.hi⟩
theorem isSp_at {S : List Int} {k : Nat} (hk : k < S.length) (h : ¬ (2 ≤ gi S k ∧ gi S k ≤ 4)) : isSp S = false := by
  rw [← Bool.not_eq_true, isSp_iff]; exact fun s => h (s.bd k hk)
theorem isSp_prod {S : List Int} (h1 : 1 ≤ S.length) (h2 : S.length ≤ 8) (h : ∀ i, i < S.length → 2 ≤ gi S i ∧ gi S i ≤ 4) : isSp S = decide (prodTo S S.length ≤ 1024) := by
  simp [isSp, h1, h2, (okTo_iff S S.length).2 h]
theorem prodTo_le (S : List Int) (k : Nat) (h : ∀ i, i < k → 2 ≤ gi S i ∧ gi S i ≤ 4) (hk : k ≤ 8) : 1 ≤ prodTo S k ∧ prodTo S k ≤ 65536 := by
  obtain ⟨a, b⟩ := prodTo_bd S k h
  refine ⟨a, Int.le_trans b ?_⟩
  have : (4 : Int) ^ k ≤ 4 ^ 8 := by
    have h4 : (4 : Nat) ^ k ≤ 4 ^ 8 := Nat.pow_le_pow_right (by omega) hk
    exact_mod_cast h4
  simpa using this

theorem prodTo_pos (S : List Int) (k : Nat) (h : ∀ i, i < k → 2 ≤ gi S i ∧ gi S i ≤ 4) : 1 ≤ prodTo S k := (prodTo_bd S k h).1

theorem prodTo_mono (S : List Int) (n k : Nat) (h : ∀ i, i < n → 2 ≤ gi S i ∧ gi S i ≤ 4) (hk : k ≤ n) : prodTo S k ≤ prodTo S n := by
  induction n with
  | zero => have : k = 0 := by omega
            subst this; exact Int.le_refl _
  | succ n ih =>
    by_cases e : k = n + 1
    · subst e; exact Int.le_refl _
    · have h1 := ih (fun i hi => h i (by omega)) (by omega)
      have h2 := prodTo_pos S n (fun i hi => h i (by omega))
      obtain ⟨c, _⟩ := h n (by omega)
      have h3 : prodTo S n * 1 ≤ prodTo S n * gi S n := Int.mul_le_mul_of_nonneg_left (by omega) (by omega)
      simp only [prodTo]
      omega

/-- the rests of a word as its digits are taken from behind: 'quo S w j' is what is left when the places from j on have been taken -/
def quoTop (S : List Int) (w : Int) : Nat → Int
  | 0 => w
  | k + 1 => quoTop S w k / gi S (S.length - 1 - k)

/-- the digit of a word at place i -/
def dig (S : List Int) (w : Int) (i : Nat) : Int := quoTop S w (S.length - 1 - i) % gi S i
/-- the digits of a word -/
def digs (S : List Int) (w : Int) : List Int := (List.range S.length).map (dig S w)

theorem digs_length (S : List Int) (w : Int) : (digs S w).length = S.length := by simp [digs]
theorem gi_digs (S : List Int) (w : Int) (i : Nat) (h : i < S.length) : gi (digs S w) i = dig S w i := by
  rw [gi_lt _ _ (by simpa [digs_length] using h)]; simp [digs]

/-- the word of the first k digits of a list -/
def wordTo (S D : List Int) : Nat → Int
  | 0 => 0
  | k + 1 => wordTo S D k * gi S k + gi D k

theorem quoTop_nonneg (S : List Int) (w : Int) (h : ∀ i, i < S.length → 2 ≤ gi S i ∧ gi S i ≤ 4) (hw : 0 ≤ w) (k : Nat) (hk : k ≤ S.length) : 0 ≤ quoTop S w k := by
  induction k with
  | zero => exact hw
  | succ k ih => exact Int.ediv_nonneg (ih (by omega)) (by have := (h (S.length - 1 - k) (by omega)).1; omega)

theorem quoTop_le (S : List Int) (w : Int) (h : ∀ i, i < S.length → 2 ≤ gi S i ∧ gi S i ≤ 4) (hw : 0 ≤ w) (k : Nat) (hk : k ≤ S.length) : quoTop S w k ≤ w := by
  induction k with
  | zero => exact Int.le_refl _
  | succ k ih =>
    have h1 := ih (by omega)
    have h2 := quoTop_nonneg S w h hw k (by omega)
    have h3 := (h (S.length - 1 - k) (by omega)).1
    have h4 : quoTop S w k / gi S (S.length - 1 - k) ≤ quoTop S w k := Int.ediv_le_self _ h2
    simp only [quoTop]; omega

theorem dig_bd (S : List Int) (w : Int) (h : ∀ i, i < S.length → 2 ≤ gi S i ∧ gi S i ≤ 4) (i : Nat) (hi : i < S.length) : 0 ≤ dig S w i ∧ dig S w i < gi S i := by
  have := (h i hi).1
  exact ⟨Int.emod_nonneg _ (by omega), Int.emod_lt_of_pos _ (by omega)⟩

theorem wordTo_bd (S D : List Int) (k : Nat) (hS : ∀ i, i < k → 2 ≤ gi S i ∧ gi S i ≤ 4) (hD : ∀ i, i < k → 0 ≤ gi D i ∧ gi D i < gi S i) : 0 ≤ wordTo S D k ∧ wordTo S D k < prodTo S k := by
  induction k with
  | zero => simp [wordTo, prodTo]
  | succ k ih =>
    obtain ⟨a, b⟩ := ih (fun i hi => hS i (by omega)) (fun i hi => hD i (by omega))
    obtain ⟨c, d⟩ := hD k (by omega)
    obtain ⟨e, f⟩ := hS k (by omega)
    constructor
    · have : 0 ≤ wordTo S D k * gi S k := Int.mul_nonneg a (by omega)
      simp only [wordTo]; omega
    · have h1 : (wordTo S D k + 1) * gi S k ≤ prodTo S k * gi S k := Int.mul_le_mul_of_nonneg_right (by omega) (by omega)
      rw [Int.add_mul, Int.one_mul] at h1
      simp only [wordTo, prodTo]; omega

/-- words come back from their digits -/
theorem wordTo_digs_aux (S : List Int) (w : Int) (h : ∀ i, i < S.length → 2 ≤ gi S i ∧ gi S i ≤ 4) (hw : 0 ≤ w) (k : Nat) (hk : k ≤ S.length) (hq : quoTop S w S.length = 0) :
    wordTo S (digs S w) k = quoTop S w (S.length - k) := by
  induction k with
  | zero => simp [wordTo, hq]
  | succ k ih =>
    have h1 := ih (by omega)
    have e : S.length - k = (S.length - (k + 1)) + 1 := by omega
    have e2 : S.length - 1 - (S.length - (k + 1)) = k := by omega
    have e3 : S.length - 1 - k = S.length - (k + 1) := by omega
    rw [wordTo, h1, gi_digs S w k (by omega), dig, e3]
    rw [e, quoTop, e2]
    have := Int.mul_ediv_add_emod (quoTop S w (S.length - (k + 1))) (gi S k)
    rw [Int.mul_comm] at this
    exact this

theorem quoTop_lt (S : List Int) (w : Int) (h : ∀ i, i < S.length → 2 ≤ gi S i ∧ gi S i ≤ 4) (hw : 0 ≤ w) (hN : w < prodTo S S.length) (k : Nat) (hk : k ≤ S.length) : quoTop S w k < prodTo S (S.length - k) := by
  induction k with
  | zero => simpa [quoTop] using hN
  | succ k ih =>
    have h1 := ih (by omega)
    have e : S.length - k = (S.length - (k + 1)) + 1 := by omega
    have e2 : S.length - 1 - k = S.length - (k + 1) := by omega
    rw [e, prodTo] at h1
    have h3 := (h (S.length - (k + 1)) (by omega)).1
    simp only [quoTop, e2]
    exact Int.ediv_lt_of_lt_mul (by omega) h1

theorem wordTo_digs (S : List Int) (w : Int) (hS : Sp S) (hw : 0 ≤ w) (hN : w < prodTo S S.length) : wordTo S (digs S w) S.length = w := by
  have h0 := quoTop_lt S w hS.bd hw hN S.length (Nat.le_refl _)
  have h1 := quoTop_nonneg S w hS.bd hw S.length (Nat.le_refl _)
  simp only [Nat.sub_self, prodTo] at h0
  have := wordTo_digs_aux S w hS.bd hw S.length (Nat.le_refl _) (by omega)
  simpa [quoTop] using this

/-- how many of the first k indices p holds of -/
def cnt (p : Nat → Bool) : Nat → Int
  | 0 => 0
  | k + 1 => cnt p k + if p k then 1 else 0
/-- how many of the last k indices below n p holds of -/
def cntTop (p : Nat → Bool) (n : Nat) : Nat → Int
  | 0 => 0
  | k + 1 => cntTop p n k + if p (n - 1 - k) then 1 else 0

theorem cnt_top (p : Nat → Bool) (n k : Nat) (hk : k ≤ n) : cnt p n = cnt p (n - k) + cntTop p n k := by
  induction k with
  | zero => simp [cntTop]
  | succ k ih =>
    rw [ih (by omega)]
    have e : n - k = (n - (k + 1)) + 1 := by omega
    have e2 : n - 1 - k = n - (k + 1) := by omega
    rw [e, cnt, cntTop, e2]; omega
theorem cntTop_all (p : Nat → Bool) (n : Nat) : cntTop p n n = cnt p n := by rw [cnt_top p n n (Nat.le_refl _)]; simp [cnt]
theorem cnt_bd (p : Nat → Bool) (n : Nat) : 0 ≤ cnt p n ∧ cnt p n ≤ n := by
  induction n with
  | zero => simp [cnt]
  | succ n ih => simp only [cnt]; split <;> omega
theorem cntTop_bd (p : Nat → Bool) (n k : Nat) : 0 ≤ cntTop p n k ∧ cntTop p n k ≤ k := by
  induction k with
  | zero => simp [cntTop]
  | succ k ih => simp only [cntTop]; split <;> omega
theorem cnt_congr (p q : Nat → Bool) (n : Nat) (h : ∀ i, i < n → p i = q i) : cnt p n = cnt q n := by
  induction n with
  | zero => rfl
  | succ n ih => rw [cnt, cnt, ih fun i hi => h i (by omega), h n (by omega)]

/-- the distance of two words -/
def dist (S : List Int) (u w : Int) : Int := cnt (fun i => dig S u i != dig S w i) S.length

/-- what is left of a word when the places from m on have been taken -/
def quo (S : List Int) (x : Int) (m : Nat) : Int := quoTop S x (S.length - m)
theorem quo_all (S : List Int) (x : Int) : quo S x S.length = x := by simp [quo, quoTop]
theorem quo_step (S : List Int) (x : Int) (j : Nat) (h : j < S.length) : quo S x j = quo S x (j + 1) / gi S j := by
  have e : S.length - j = (S.length - (j + 1)) + 1 := by omega
  have e2 : S.length - 1 - (S.length - (j + 1)) = j := by omega
  rw [quo, e, quoTop, e2]; rfl
theorem dig_quo (S : List Int) (x : Int) (j : Nat) (h : j < S.length) : dig S x j = quo S x (j + 1) % gi S j := by
  have e : S.length - 1 - j = S.length - (j + 1) := by omega
  rw [dig, e]; rfl
theorem quo_bd (S : List Int) (x : Int) (h : ∀ i, i < S.length → 2 ≤ gi S i ∧ gi S i ≤ 4) (hx : 0 ≤ x) (m : Nat) : 0 ≤ quo S x m ∧ quo S x m ≤ x :=
  ⟨quoTop_nonneg S x h hx _ (by omega), quoTop_le S x h hx _ (by omega)⟩

/-- the number of places from m on at which the digits of two words are different -/
def distFrom (S : List Int) (u x : Int) (m : Nat) : Int := cntTop (fun i => dig S u i != dig S x i) S.length (S.length - m)
theorem distFrom_all (S : List Int) (u x : Int) : distFrom S u x S.length = 0 := by simp [distFrom, cntTop]
theorem distFrom_zero (S : List Int) (u x : Int) : distFrom S u x 0 = dist S u x := by simp only [distFrom, Nat.sub_zero]; exact cntTop_all _ _
theorem distFrom_step (S : List Int) (u x : Int) (j : Nat) (h : j < S.length) : distFrom S u x j = distFrom S u x (j + 1) + if dig S u j != dig S x j then 1 else 0 := by
  have e : S.length - j = (S.length - (j + 1)) + 1 := by omega
  have e2 : S.length - 1 - (S.length - (j + 1)) = j := by omega
  simp only [distFrom, e, cntTop, e2]
theorem distFrom_bd (S : List Int) (u x : Int) (m : Nat) : 0 ≤ distFrom S u x m ∧ distFrom S u x m ≤ S.length := by
  have := cntTop_bd (fun i => dig S u i != dig S x i) S.length (S.length - m)
  unfold distFrom; omega
/-- the number of the first k places at which two lists are different -/
def diffTo (A B : List Int) (k : Nat) : Int := cnt (fun i => gi A i != gi B i) k
theorem diff_digs (S : List Int) (u x : Int) : diffTo (digs S u) (digs S x) S.length = dist S u x :=
  cnt_congr _ _ _ fun i hi => by simp only [gi_digs S _ i hi]
theorem diffTo_bd (A B : List Int) (k : Nat) : 0 ≤ diffTo A B k ∧ diffTo A B k ≤ k := cnt_bd _ _

/-- the number of the words -/
def nW (S : List Int) : Int := prodTo S S.length
/-- whether the first k numbers of a list are words -/
def okW (S T : List Int) : Nat → Bool
  | 0 => true
  | k + 1 => okW S T k && decide (0 ≤ gi T k) && decide (gi T k < nW S)
theorem okW_iff (S T : List Int) (k : Nat) : okW S T k = true ↔ ∀ i, i < k → 0 ≤ gi T i ∧ gi T i < nW S := by
  induction k with
  | zero => simp [okW]
  | succ k ih =>
    simp only [okW, Bool.and_eq_true, decide_eq_true_eq, ih]
    constructor
    · rintro ⟨⟨h, a⟩, b⟩ i hi
      by_cases e : i = k
      · subst e; exact ⟨a, b⟩
      · exact h i (by omega)
    · intro h
      exact ⟨⟨fun i hi => h i (by omega), (h k (by omega)).1⟩, (h k (by omega)).2⟩

/-- the error of a space and of numbers that should be words of it -/
def eWords (S T : List Int) : Int := if isSp S = true then (if okW S T T.length = true then 0 else 2) else 1
theorem eWords_inv {S T : List Int} (h : isSp S = false) : eWords S T = 1 := by simp [eWords, h]
theorem eWords_bad {S T : List Int} (h : isSp S = true) {k : Nat} (hk : k < T.length) (hb : ¬ (0 ≤ gi T k ∧ gi T k < nW S)) : eWords S T = 2 := by
  have : ¬ okW S T T.length = true := fun ho => hb ((okW_iff S T _).1 ho k hk)
  simp only [eWords, h, if_true, if_neg this]
theorem eWords_ok {S T : List Int} (h : isSp S = true) (ha : ∀ i, i < T.length → 0 ≤ gi T i ∧ gi T i < nW S) : eWords S T = 0 := by
  simp only [eWords, h, if_true, (okW_iff S T _).2 ha]
theorem eWords_zero {S T : List Int} (h : eWords S T = 0) : Sp S ∧ ∀ i, i < T.length → 0 ≤ gi T i ∧ gi T i < nW S := by
  by_cases h1 : isSp S = true
  · by_cases h2 : okW S T T.length = true
    · exact ⟨(isSp_iff S).1 h1, (okW_iff S T _).1 h2⟩
    · simp [eWords, h1, h2] at h
  · simp [eWords, h1] at h
theorem nW_bd {S : List Int} (h : Sp S) : 1 ≤ nW S ∧ nW S ≤ 1024 := ⟨prodTo_pos S _ h.bd, h.pr⟩

/-- the word of the sum of digits -/
def sumD (S A B : List Int) : List Int := (List.range S.length).map fun i => (gi A i + gi B i) % gi S i
theorem sumD_length (S A B : List Int) : (sumD S A B).length = S.length := by simp [sumD]
theorem gi_sumD (S A B : List Int) (i : Nat) (h : i < S.length) : gi (sumD S A B) i = (gi A i + gi B i) % gi S i := by
  rw [gi_lt _ _ (by rw [sumD_length]; exact h)]; simp [sumD]
def sumW (S : List Int) (u x : Int) : Int := wordTo S (sumD S (digs S u) (digs S x)) S.length

/-- the digits of the opposite word -/
def oppD (S A : List Int) : List Int := (List.range S.length).map fun i => (gi S i - gi A i) % gi S i
theorem oppD_length (S A : List Int) : (oppD S A).length = S.length := by simp [oppD]
theorem gi_oppD (S A : List Int) (i : Nat) (h : i < S.length) : gi (oppD S A) i = (gi S i - gi A i) % gi S i := by
  rw [gi_lt _ _ (by rw [oppD_length]; exact h)]; simp [oppD]
def oppW (S : List Int) (x : Int) : Int := wordTo S (oppD S (digs S x)) S.length

end Cv
end Go.Proofs.Ytlkfmopcdmppmaa
