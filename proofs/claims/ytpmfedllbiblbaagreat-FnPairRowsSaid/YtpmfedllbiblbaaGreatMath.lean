/-
  Plain facts on lists of numbers, on words of a space, on codes, covers, sums and bounds: no Go, no program. Written by an AI agent.
-/
import Derived.Below

namespace Go.Proofs.YtpmfedllbiblbaaGreat
set_option linter.unusedVariables false
set_option linter.unusedSimpArgs false
namespace Cv

/-- element i of a list, 0 where there is none -/
def gi (S : List Int) (i : Nat) : Int := S.getD i 0

theorem gi_lt (S : List Int) (i : Nat) (h : i < S.length) : gi S i = S[i] := by simp [gi, h]
theorem gi_map (S : List Int) (i : Nat) (h : i < S.length) : (S.map (Value.int .i64))[i]? = some (.int .i64 (gi S i)) := by simp [gi, h]
theorem ext_gi {S T : List Int} (hl : S.length = T.length) (h : ∀ i, i < S.length → gi S i = gi T i) : S = T := by
  apply List.ext_getElem hl
  intro i h1 h2
  have := h i h1
  rwa [gi_lt S i h1, gi_lt T i h2] at this

theorem gi_set (S : List Int) (k : Nat) (x : Int) (j : Nat) (hk : k < S.length) : gi (S.set k x) j = if j = k then x else gi S j := by
  simp only [gi, List.getD_eq_getElem?_getD, List.getElem?_set]
  by_cases e : k = j
  · subst e; simp [hk]
  · rw [if_neg e, if_neg (fun h => e h.symm)]
theorem gi_append_lt (S T : List Int) (j : Nat) (h : j < S.length) : gi (S ++ T) j = gi S j := by
  simp only [gi, List.getD_eq_getElem?_getD, List.getElem?_append_left h]
theorem gi_append_ge (S T : List Int) (j : Nat) (h : S.length ≤ j) : gi (S ++ T) j = gi T (j - S.length) := by
  simp only [gi, List.getD_eq_getElem?_getD, List.getElem?_append_right h]
theorem gi_out (S : List Int) (j : Nat) (h : S.length ≤ j) : gi S j = 0 := by simp [gi, h]
theorem take_snoc (S : List Int) (k : Nat) (h : k < S.length) : S.take (k + 1) = S.take k ++ [gi S k] := by
  rw [List.take_succ_eq_append_getElem h, gi_lt S k h]
theorem gi_take (S : List Int) (k j : Nat) (h : j < k) : gi (S.take k) j = gi S j := by simp [gi, h]

/-- the marks k, k + 1, .. -/
def marks (k : Int) (n : Nat) : List Int := (List.range n).map fun (i : Nat) => k + (i : Int)
theorem marks_length (k : Int) (n : Nat) : (marks k n).length = n := by simp [marks]
theorem gi_marks (k : Int) (n i : Nat) (h : i < n) : gi (marks k n) i = k + i := by
  rw [gi_lt _ _ (by simpa [marks_length] using h)]; simp [marks]

/-- the product of the first k sizes -/
def prodTo (S : List Int) : Nat → Int
  | 0 => 1
  | k + 1 => prodTo S k * gi S k

/-- all of the first k sizes are in 2..4 -/
def okTo (S : List Int) : Nat → Bool
  | 0 => true
  | k + 1 => okTo S k && decide (2 ≤ gi S k) && decide (gi S k ≤ 4)

/-- whether a list is that of the sizes of a space -/
def isSp (S : List Int) : Bool := decide (1 ≤ S.length) && decide (S.length ≤ 8) && okTo S S.length && decide (prodTo S S.length ≤ 1024)

theorem okTo_iff (S : List Int) (k : Nat) : okTo S k = true ↔ ∀ i, i < k → 2 ≤ gi S i ∧ gi S i ≤ 4 := by
  induction k with
  | zero => simp [okTo]
  | succ k ih =>
    simp only [okTo, Bool.and_eq_true, decide_eq_true_eq, ih]
    constructor
    · rintro ⟨⟨h, a⟩, b⟩ i hi
      by_cases e : i = k
      · subst e; exact ⟨a, b⟩
      · exact h i (by omega)
    · intro h
      exact ⟨⟨fun i hi => h i (by omega), (h k (by omega)).1⟩, (h k (by omega)).2⟩

theorem prodTo_bd (S : List Int) (k : Nat) (h : ∀ i, i < k → 2 ≤ gi S i ∧ gi S i ≤ 4) : 1 ≤ prodTo S k ∧ prodTo S k ≤ 4 ^ k := by
  induction k with
  | zero => simp [prodTo]
  | succ k ih =>
    obtain ⟨a, b⟩ := ih fun i hi => h i (by omega)
    obtain ⟨c, d⟩ := h k (by omega)
    constructor
    · have : 1 * 1 ≤ prodTo S k * gi S k := Int.mul_le_mul a (by omega) (by omega) (by omega)
      simpa [prodTo] using this
    · have : prodTo S k * gi S k ≤ 4 ^ k * 4 := Int.mul_le_mul b d (by omega) (by omega)
      simpa [prodTo, Int.pow_succ] using this

/-- a space: what 'isSp' says -/
structure Sp (S : List Int) : Prop where
  lo : 1 ≤ S.length
  hi : S.length ≤ 8
  bd : ∀ i, i < S.length → 2 ≤ gi S i ∧ gi S i ≤ 4
  pr : prodTo S S.length ≤ 1024

theorem isSp_iff (S : List Int) : isSp S = true ↔ Sp S := by
  simp only [isSp, Bool.and_eq_true, decide_eq_true_eq, okTo_iff]
  exact ⟨fun ⟨⟨⟨a, b⟩, c⟩, d⟩ => ⟨a, b, c, d⟩, fun h => ⟨⟨⟨h.lo, h.hi⟩, h.bd⟩, h.pr⟩⟩

theorem isSp_len {S : List Int} (h : ¬ (1 ≤ S.length ∧ S.length ≤ 8)) : isSp S = false := by
  rw [← Bool.not_eq_true, isSp_iff]; exact fun s => h ⟨s.lo, s.hi⟩
theorem isSp_at {S : List Int} {k : Nat} (hk : k < S.length) (h : ¬ (2 ≤ gi S k ∧ gi S k ≤ 4)) : isSp S = false := by
  rw [← Bool.not_eq_true, isSp_iff]; exact fun s => h (s.bd k hk)
theorem isSp_prod {S : List Int} (h1 : 1 ≤ S.length) (h2 : S.length ≤ 8) (h : ∀ i, i < S.length → 2 ≤ gi S i ∧ gi S i ≤ 4) : isSp S = decide (prodTo S S.length ≤ 1024) := by
  simp [isSp, h1, h2, (okTo_iff S S.length).2 h]
theorem prodTo_le (S : List Int) (k : Nat) (h : ∀ i, i < k → 2 ≤ gi S i ∧ gi S i ≤ 4) (hk : k ≤ 8) : 1 ≤ prodTo S k ∧ prodTo S k ≤ 65536 := by
  obtain ⟨a, b⟩ := prodTo_bd S k h
  refine ⟨a, Int.le_trans b ?_⟩
  have : (4 : Int) ^ k ≤ 4 ^ 8 := by
    have h4 : (4 : Nat) ^ k ≤ 4 ^ 8 := Nat.pow_le_pow_right (by omega) hk
    exact_mod_cast h4
  simpa using this

theorem prodTo_pos (S : List Int) (k : Nat) (h : ∀ i, i < k → 2 ≤ gi S i ∧ gi S i ≤ 4) : 1 ≤ prodTo S k := (prodTo_bd S k h).1

theorem prodTo_mono (S : List Int) (n k : Nat) (h : ∀ i, i < n → 2 ≤ gi S i ∧ gi S i ≤ 4) (hk : k ≤ n) : prodTo S k ≤ prodTo S n := by
  induction n with
  | zero => have : k = 0 := by omega
            subst this; exact Int.le_refl _
  | succ n ih =>
    by_cases e : k = n + 1
    · subst e; exact Int.le_refl _
    · have h1 := ih (fun i hi => h i (by omega)) (by omega)
      have h2 := prodTo_pos S n (fun i hi => h i (by omega))
      obtain ⟨c, _⟩ := h n (by omega)
      have h3 : prodTo S n * 1 ≤ prodTo S n * gi S n := Int.mul_le_mul_of_nonneg_left (by omega) (by omega)
      simp only [prodTo]
      omega

/-- the rests of a word as its digits are taken from behind: 'quo S w j' is what is left when the places from j on have been taken -/
def quoTop (S : List Int) (w : Int) : Nat → Int
  | 0 => w
  | k + 1 => quoTop S w k / gi S (S.length - 1 - k)

/-- the digit of a word at place i -/
def dig (S : List Int) (w : Int) (i : Nat) : Int := quoTop S w (S.length - 1 - i) % gi S i
/-- the digits of a word -/
def digs (S : List Int) (w : Int) : List Int := (List.range S.length).map (dig S w)

theorem digs_length (S : List Int) (w : Int) : (digs S w).length = S.length := by simp [digs]
theorem gi_digs (S : List Int) (w : Int) (i : Nat) (h : i < S.length) : gi (digs S w) i = dig S w i := by
  rw [gi_lt _ _ (by simpa [digs_length] using h)]; simp [digs]

/-- the word of the first k digits of a list -/
def wordTo (S D : List Int) : Nat → Int
  | 0 => 0
  | k + 1 => wordTo S D k * gi S k + gi D k

theorem quoTop_nonneg (S : List Int) (w : Int) (h : ∀ i, i < S.length → 2 ≤ gi S i ∧ gi S i ≤ 4) (hw : 0 ≤ w) (k : Nat) (hk : k ≤ S.length) : 0 ≤ quoTop S w k := by
  induction k with
  | zero => exact hw
  | succ k ih => exact Int.ediv_nonneg (ih (by omega)) (by have := (h (S.length - 1 - k) (by omega)).1; omega)

theorem quoTop_le (S : List Int) (w : Int) (h : ∀ i, i < S.length → 2 ≤ gi S i ∧ gi S i ≤ 4) (hw : 0 ≤ w) (k : Nat) (hk : k ≤ S.length) : quoTop S w k ≤ w := by
  induction k with
  | zero => exact Int.le_refl _
  | succ k ih =>
    have h1 := ih (by omega)
    have h2 := quoTop_nonneg S w h hw k (by omega)
    have h3 := (h (S.length - 1 - k) (by omega)).1
    have h4 : quoTop S w k / gi S (S.length - 1 - k) ≤ quoTop S w k := Int.ediv_le_self _ h2
    simp only [quoTop]; omega

theorem dig_bd (S : List Int) (w : Int) (h : ∀ i, i < S.length → 2 ≤ gi S i ∧ gi S i ≤ 4) (i : Nat) (hi : i < S.length) : 0 ≤ dig S w i ∧ dig S w i < gi S i := by
  have := (h i hi).1
  exact ⟨Int.emod_nonneg _ (by omega), Int.emod_lt_of_pos _ (by omega)⟩

theorem wordTo_bd (S D : List Int) (k : Nat) (hS : ∀ i, i < k → 2 ≤ gi S i ∧ gi S i ≤ 4) (hD : ∀ i, i < k → 0 ≤ gi D i ∧ gi D i < gi S i) : 0 ≤ wordTo S D k ∧ wordTo S D k < prodTo S k := by
  induction k with
  | zero => simp [wordTo, prodTo]
  | succ k ih =>
    obtain ⟨a, b⟩ := ih (fun i hi => hS i (by omega)) (fun i hi => hD i (by omega))
    obtain ⟨c, d⟩ := hD k (by omega)
    obtain ⟨e, f⟩ := hS k (by omega)
    constructor
    · have : 0 ≤ wordTo S D k * gi S k := Int.mul_nonneg a (by omega)
      simp only [wordTo]; omega
    · have h1 : (wordTo S D k + 1) * gi S k ≤ prodTo S k * gi S k := Int.mul_le_mul_of_nonneg_right (by omega) (by omega)
      rw [Int.add_mul, Int.one_mul] at h1
      simp only [wordTo, prodTo]; omega

/-- words come back from their digits -/
theorem wordTo_digs_aux (S : List Int) (w : Int) (h : ∀ i, i < S.length → 2 ≤ gi S i ∧ gi S i ≤ 4) (hw : 0 ≤ w) (k : Nat) (hk : k ≤ S.length) (hq : quoTop S w S.length = 0) :
    wordTo S (digs S w) k = quoTop S w (S.length - k) := by
  induction k with
  | zero => simp [wordTo, hq]
  | succ k ih =>
    have h1 := ih (by omega)
    have e : S.length - k = (S.length - (k + 1)) + 1 := by omega
    have e2 : S.length - 1 - (S.length - (k + 1)) = k := by omega
    have e3 : S.length - 1 - k = S.length - (k + 1) := by omega
    rw [wordTo, h1, gi_digs S w k (by omega), dig, e3]
    rw [e, quoTop, e2]
    have := Int.mul_ediv_add_emod (quoTop S w (S.length - (k + 1))) (gi S k)
    rw [Int.mul_comm] at this
    exact this

theorem quoTop_lt (S : List Int) (w : Int) (h : ∀ i, i < S.length → 2 ≤ gi S i ∧ gi S i ≤ 4) (hw : 0 ≤ w) (hN : w < prodTo S S.length) (k : Nat) (hk : k ≤ S.length) : quoTop S w k < prodTo S (S.length - k) := by
  induction k with
  | zero => simpa [quoTop] using hN
  | succ k ih =>
    have h1 := ih (by omega)
    have e : S.length - k = (S.length - (k + 1)) + 1 := by omega
    have e2 : S.length - 1 - k = S.length - (k + 1) := by omega
    rw [e, prodTo] at h1
    have h3 := (h (S.length - (k + 1)) (by omega)).1
    simp only [quoTop, e2]
    exact Int.ediv_lt_of_lt_mul (by omega) h1

theorem wordTo_digs (S : List Int) (w : Int) (hS : Sp S) (hw : 0 ≤ w) (hN : w < prodTo S S.length) : wordTo S (digs S w) S.length = w := by
  have h0 := quoTop_lt S w hS.bd hw hN S.length (Nat.le_refl _)
  have h1 := quoTop_nonneg S w hS.bd hw S.length (Nat.le_refl _)
  simp only [Nat.sub_self, prodTo] at h0
  have := wordTo_digs_aux S w hS.bd hw S.length (Nat.le_refl _) (by omega)
  simpa [quoTop] using this

/-- how many of the first k indices p holds of -/
def cnt (p : Nat → Bool) : Nat → Int
  | 0 => 0
  | k + 1 => cnt p k + if p k then 1 else 0
/-- how many of the last k indices below n p holds of -/
def cntTop (p : Nat → Bool) (n : Nat) : Nat → Int
  | 0 => 0
  | k + 1 => cntTop p n k + if p (n - 1 - k) then 1 else 0

theorem cnt_top (p : Nat → Bool) (n k : Nat) (hk : k ≤ n) : cnt p n = cnt p (n - k) + cntTop p n k := by
  induction k with
  | zero => simp [cntTop]
  | succ k ih =>
    rw [ih (by omega)]
    have e : n - k = (n - (k + 1)) + 1 := by omega
    have e2 : n - 1 - k = n - (k + 1) := by omega
    rw [e, cnt, cntTop, e2]; omega
theorem cntTop_all (p : Nat → Bool) (n : Nat) : cntTop p n n = cnt p n := by rw [cnt_top p n n (Nat.le_refl _)]; simp [cnt]
theorem cnt_bd (p : Nat → Bool) (n : Nat) : 0 ≤ cnt p n ∧ cnt p n ≤ n := by
  induction n with
  | zero => simp [cnt]
  | succ n ih => simp only [cnt]; split <;> omega
theorem cntTop_bd (p : Nat → Bool) (n k : Nat) : 0 ≤ cntTop p n k ∧ cntTop p n k ≤ k := by
  induction k with
  | zero => simp [cntTop]
  | succ k ih => simp only [cntTop]; split <;> omega
theorem cnt_congr (p q : Nat → Bool) (n : Nat) (h : ∀ i, i < n → p i = q i) : cnt p n = cnt q n := by
  induction n with
  | zero => rfl
  | succ n ih => rw [cnt, cnt, ih fun i hi => h i (by omega), h n (by omega)]

/-- the distance of two words -/
def dist (S : List Int) (u w : Int) : Int := cnt (fun i => dig S u i != dig S w i) S.length

/-- what is left of a word when the places from m on have been taken -/
def quo (S : List Int) (x : Int) (m : Nat) : Int := quoTop S x (S.length - m)
theorem quo_all (S : List Int) (x : Int) : quo S x S.length = x := by simp [quo, quoTop]
theorem quo_step (S : List Int) (x : Int) (j : Nat) (h : j < S.length) : quo S x j = quo S x (j + 1) / gi S j := by
  have e : S.length - j = (S.length - (j + 1)) + 1 := by omega
  have e2 : S.length - 1 - (S.length - (j + 1)) = j := by omega
  rw [quo, e, quoTop, e2]; rfl
theorem dig_quo (S : List Int) (x : Int) (j : Nat) (h : j < S.length) : dig S x j = quo S x (j + 1) % gi S j := by
  have e : S.length - 1 - j = S.length - (j + 1) := by omega
  rw [dig, e]; rfl
theorem quo_bd (S : List Int) (x : Int) (h : ∀ i, i < S.length → 2 ≤ gi S i ∧ gi S i ≤ 4) (hx : 0 ≤ x) (m : Nat) : 0 ≤ quo S x m ∧ quo S x m ≤ x :=
  ⟨quoTop_nonneg S x h hx _ (by omega), quoTop_le S x h hx _ (by omega)⟩

/-- the number of places from m on at which the digits of two words are different -/
def distFrom (S : List Int) (u x : Int) (m : Nat) : Int := cntTop (fun i => dig S u i != dig S x i) S.length (S.length - m)
theorem distFrom_all (S : List Int) (u x : Int) : distFrom S u x S.length = 0 := by simp [distFrom, cntTop]
theorem distFrom_zero (S : List Int) (u x : Int) : distFrom S u x 0 = dist S u x := by simp only [distFrom, Nat.sub_zero]; exact cntTop_all _ _
theorem distFrom_step (S : List Int) (u x : Int) (j : Nat) (h : j < S.length) : distFrom S u x j = distFrom S u x (j + 1) + if dig S u j != dig S x j then 1 else 0 := by
  have e : S.length - j = (S.length - (j + 1)) + 1 := by omega
  have e2 : S.length - 1 - (S.length - (j + 1)) = j := by omega
  simp only [distFrom, e, cntTop, e2]
theorem distFrom_bd (S : List Int) (u x : Int) (m : Nat) : 0 ≤ distFrom S u x m ∧ distFrom S u x m ≤ S.length := by
  have := cntTop_bd (fun i => dig S u i != dig S x i) S.length (S.length - m)
  unfold distFrom; omega
/-- the number of the first k places at which two lists are different -/
def diffTo (A B : List Int) (k : Nat) : Int := cnt (fun i => gi A i != gi B i) k
theorem diff_digs (S : List Int) (u x : Int) : diffTo (digs S u) (digs S x) S.length = dist S u x :=
  cnt_congr _ _ _ fun i hi => by simp only [gi_digs S _ i hi]
theorem diffTo_bd (A B : List Int) (k : Nat) : 0 ≤ diffTo A B k ∧ diffTo A B k ≤ k := cnt_bd _ _

/-- the number of the words -/
def nW (S : List Int) : Int := prodTo S S.length
/-- whether the first k numbers of a list are words -/
def okW (S T : List Int) : Nat → Bool
  | 0 => true
  | k + 1 => okW S T k && decide (0 ≤ gi T k) && decide (gi T k < nW S)
theorem okW_iff (S T : List Int) (k : Nat) : okW S T k = true ↔ ∀ i, i < k → 0 ≤ gi T i ∧ gi T i < nW S := by
  induction k with
  | zero => simp [okW]
  | succ k ih =>
    simp only [okW, Bool.and_eq_true, decide_eq_true_eq, ih]
    constructor
    · rintro ⟨⟨h, a⟩, b⟩ i hi
      by_cases e : i = k
      · subst e; exact ⟨a, b⟩
      · exact h i (by omega)
    · intro h
      exact ⟨⟨fun i hi => h i (by omega), (h k (by omega)).1⟩, (h k (by omega)).2⟩

/-- the error of a space and of numbers that should be words of it -/
def eWords (S T : List Int) : Int := if isSp S = true then (if okW S T T.length = true then 0 else 2) else 1
theorem eWords_inv {S T : List Int} (h : isSp S = false) : eWords S T = 1 := by simp [eWords, h]
theorem eWords_bad {S T : List Int} (h : isSp S = true) {k : Nat} (hk : k < T.length) (hb : ¬ (0 ≤ gi T k ∧ gi T k < nW S)) : eWords S T = 2 := by
  have : ¬ okW S T T.length = true := fun ho => hb ((okW_iff S T _).1 ho k hk)
  simp only [eWords, h, if_true, if_neg this]
theorem eWords_ok {S T : List Int} (h : isSp S = true) (ha : ∀ i, i < T.length → 0 ≤ gi T i ∧ gi T i < nW S) : eWords S T = 0 := by
  simp only [eWords, h, if_true, (okW_iff S T _).2 ha]
theorem eWords_zero {S T : List Int} (h : eWords S T = 0) : Sp S ∧ ∀ i, i < T.length → 0 ≤ gi T i ∧ gi T i < nW S := by
  by_cases h1 : isSp S = true
  · by_cases h2 : okW S T T.length = true
    · exact ⟨(isSp_iff S).1 h1, (okW_iff S T _).1 h2⟩
    · simp [eWords, h1, h2] at h
  · simp [eWords, h1] at h
theorem nW_bd {S : List Int} (h : Sp S) : 1 ≤ nW S ∧ nW S ≤ 1024 := ⟨prodTo_pos S _ h.bd, h.pr⟩

/-- the word of the sum of digits -/
def sumD (S A B : List Int) : List Int := (List.range S.length).map fun i => (gi A i + gi B i) % gi S i
theorem sumD_length (S A B : List Int) : (sumD S A B).length = S.length := by simp [sumD]
theorem gi_sumD (S A B : List Int) (i : Nat) (h : i < S.length) : gi (sumD S A B) i = (gi A i + gi B i) % gi S i := by
  rw [gi_lt _ _ (by rw [sumD_length]; exact h)]; simp [sumD]
def sumW (S : List Int) (u x : Int) : Int := wordTo S (sumD S (digs S u) (digs S x)) S.length

/-- the digits of the opposite word -/
def oppD (S A : List Int) : List Int := (List.range S.length).map fun i => (gi S i - gi A i) % gi S i
theorem oppD_length (S A : List Int) : (oppD S A).length = S.length := by simp [oppD]
theorem gi_oppD (S A : List Int) (i : Nat) (h : i < S.length) : gi (oppD S A) i = (gi S i - gi A i) % gi S i := by
  rw [gi_lt _ _ (by rw [oppD_length]; exact h)]; simp [oppD]
def oppW (S : List Int) (x : Int) : Int := wordTo S (oppD S (digs S x)) S.length

end Cv
end Go.Proofs.YtpmfedllbiblbaaGreat

namespace Go.Proofs.YtpmfedllbiblbaaGreat
set_option linter.unusedVariables false
set_option linter.unusedSimpArgs false
namespace Cv

def eSp (S : List Int) : Int := if isSp S = true then 0 else 1
def vCount (S : List Int) : Int := if isSp S = true then nW S else 0
def vDigits (S : List Int) (x : Int) : List Int := if eWords S [x] = 0 then digs S x else []
def vDist (S : List Int) (u x : Int) : Int := if eWords S [u, x] = 0 then dist S u x else 0
def vWeight (S : List Int) (x : Int) : Int := if eWords S [x] = 0 then dist S 0 x else 0
def vSum (S : List Int) (u x : Int) : Int := if eWords S [u, x] = 0 then sumW S u x else 0
def vOpp (S : List Int) (x : Int) : Int := if eWords S [x] = 0 then oppW S x else 0

theorem gi1 (a : Int) : gi [a] 0 = a := rfl
theorem gi20 (a b : Int) : gi [a, b] 0 = a := rfl
theorem gi21 (a b : Int) : gi [a, b] 1 = b := rfl
theorem eWords1 {S : List Int} {x : Int} (h : eWords S [x] = 0) : Sp S ∧ 0 ≤ x ∧ x < nW S := by
  obtain ⟨a, b⟩ := eWords_zero h
  exact ⟨a, b 0 (by simp)⟩
theorem eWords2 {S : List Int} {u x : Int} (h : eWords S [u, x] = 0) : Sp S ∧ (0 ≤ u ∧ u < nW S) ∧ 0 ≤ x ∧ x < nW S := by
  obtain ⟨a, b⟩ := eWords_zero h
  exact ⟨a, b 0 (by simp), b 1 (by simp)⟩
theorem eWords_0x (S : List Int) (x : Int) : eWords S [0, x] = eWords S [x] := by
  by_cases h : isSp S = true
  · have hN := (nW_bd ((isSp_iff S).1 h)).1
    have hN0 : decide (0 < nW S) = true := by simp; omega
    simp only [eWords, h, if_true, List.length_cons, List.length_nil, okW, Nat.zero_add, Nat.reduceAdd, gi1, gi20, gi21, hN0]
    have h0 : 0 < nW S := by omega
    by_cases a : 0 ≤ x <;> by_cases b : x < nW S <;> simp [a, b, h0]
  · have h' : isSp S = false := by simpa using h
    rw [eWords_inv h', eWords_inv h']
theorem vDigits_length (S : List Int) (x : Int) : (vDigits S x).length ≤ 8 := by
  unfold vDigits
  split
  · rename_i h
    rw [digs_length]; exact (eWords1 h).1.hi
  · simp

/-- whether the first k numbers of a list are digits -/
def okD (S D : List Int) : Nat → Bool
  | 0 => true
  | k + 1 => okD S D k && decide (0 ≤ gi D k) && decide (gi D k < gi S k)
theorem okD_iff (S D : List Int) (k : Nat) : okD S D k = true ↔ ∀ i, i < k → 0 ≤ gi D i ∧ gi D i < gi S i := by
  induction k with
  | zero => simp [okD]
  | succ k ih =>
    simp only [okD, Bool.and_eq_true, decide_eq_true_eq, ih]
    constructor
    · rintro ⟨⟨h, a⟩, b⟩ i hi
      by_cases e : i = k
      · subst e; exact ⟨a, b⟩
      · exact h i (by omega)
    · intro h
      exact ⟨⟨fun i hi => h i (by omega), (h k (by omega)).1⟩, (h k (by omega)).2⟩
/-- whether a list has one digit for each place -/
def dgB (S D : List Int) : Bool := decide (D.length = S.length) && okD S D S.length
theorem dgB_len {S D : List Int} (h : D.length ≠ S.length) : dgB S D = false := by simp [dgB, h]
theorem dgB_bad {S D : List Int} {k : Nat} (hk : k < S.length) (h : ¬ (0 ≤ gi D k ∧ gi D k < gi S k)) : dgB S D = false := by
  have : ¬ okD S D S.length = true := fun ho => h ((okD_iff S D _).1 ho k hk)
  simp [dgB, this]
theorem dgB_ok {S D : List Int} (h : D.length = S.length) (ha : ∀ i, i < S.length → 0 ≤ gi D i ∧ gi D i < gi S i) : dgB S D = true := by
  simp [dgB, h, (okD_iff S D _).2 ha]
theorem dgB_true {S D : List Int} (h : dgB S D = true) : D.length = S.length ∧ ∀ i, i < S.length → 0 ≤ gi D i ∧ gi D i < gi S i := by
  simp only [dgB, Bool.and_eq_true, decide_eq_true_eq, okD_iff] at h; exact h
def eWordOf (S D : List Int) : Int := if isSp S = true then (if dgB S D = true then 0 else 2) else 1
def vWordOf (S D : List Int) : Int := if isSp S = true ∧ dgB S D = true then wordTo S D S.length else 0

/-- the word with another digit at a place -/
def chgW (S : List Int) (x : Int) (i : Nat) (d : Int) : Int := wordTo S ((digs S x).set i d) S.length
def chgB (S : List Int) (i d : Int) : Bool := decide (0 ≤ i) && decide (i < S.length) && decide (0 ≤ d) && decide (d < gi S i.toNat)
def eChange (S : List Int) (x i d : Int) : Int := if eWords S [x] = 0 then (if chgB S i d = true then 0 else 2) else eWords S [x]
def vChange (S : List Int) (x i d : Int) : Int := if eWords S [x] = 0 ∧ chgB S i d = true then chgW S x i.toNat d else 0
theorem chgB_iff (S : List Int) (i d : Int) : chgB S i d = true ↔ (0 ≤ i ∧ i < S.length) ∧ 0 ≤ d ∧ d < gi S i.toNat := by
  simp [chgB, and_assoc]

end Cv
end Go.Proofs.YtpmfedllbiblbaaGreat

namespace Go.Proofs.YtpmfedllbiblbaaGreat
set_option linter.unusedVariables false
set_option linter.unusedSimpArgs false
namespace Cv

/-- whether the first k numbers of a list ascend -/
def ascB (C : List Int) : Nat → Bool
  | 0 => true
  | k + 1 => ascB C k && (decide (k = 0) || decide (gi C (k - 1) < gi C k))
theorem ascB_iff (C : List Int) (k : Nat) : ascB C k = true ↔ ∀ i, 0 < i → i < k → gi C (i - 1) < gi C i := by
  induction k with
  | zero => simp [ascB]
  | succ k ih =>
    simp only [ascB, Bool.and_eq_true, Bool.or_eq_true, decide_eq_true_eq, ih]
    constructor
    · rintro ⟨h, a⟩ i h0 hi
      by_cases e : i = k
      · subst e
        rcases a with a | a
        · omega
        · exact a
      · exact h i h0 (by omega)
    · intro h
      refine ⟨fun i h0 hi => h i h0 (by omega), ?_⟩
      by_cases e : k = 0
      · exact .inl e
      · exact .inr (h k (by omega) (by omega))
/-- whether a list is a code -/
def codeB (S C : List Int) : Bool := okW S C C.length && ascB C C.length
theorem codeB_iff (S C : List Int) : codeB S C = true ↔ (∀ i, i < C.length → 0 ≤ gi C i ∧ gi C i < nW S) ∧ ∀ i, 0 < i → i < C.length → gi C (i - 1) < gi C i := by
  simp only [codeB, Bool.and_eq_true, okW_iff, ascB_iff]
theorem codeB_bad {S C : List Int} {k : Nat} (hk : k < C.length) (h : ¬ (0 ≤ gi C k ∧ gi C k < nW S)) : codeB S C = false := by
  rw [← Bool.not_eq_true, codeB_iff]; exact fun a => h (a.1 k hk)
theorem codeB_desc {S C : List Int} {k : Nat} (h0 : 0 < k) (hk : k < C.length) (h : ¬ gi C (k - 1) < gi C k) : codeB S C = false := by
  rw [← Bool.not_eq_true, codeB_iff]; exact fun a => h (a.2 k h0 hk)
theorem codeB_ok {S C : List Int} (h1 : ∀ i, i < C.length → 0 ≤ gi C i ∧ gi C i < nW S) (h2 : ∀ i, 0 < i → i < C.length → gi C (i - 1) < gi C i) : codeB S C = true := (codeB_iff S C).2 ⟨h1, h2⟩

/-- the error of a space and a code -/
def eCode (S C : List Int) : Int := if isSp S = true then (if codeB S C = true then 0 else 2) else 1
theorem eCode_inv {S C : List Int} (h : isSp S = false) : eCode S C = 1 := by simp [eCode, h]
theorem eCode_bad {S C : List Int} (h : isSp S = true) (hb : codeB S C = false) : eCode S C = 2 := by simp [eCode, h, hb]
theorem eCode_ok {S C : List Int} (h : isSp S = true) (hb : codeB S C = true) : eCode S C = 0 := by simp [eCode, h, hb]
theorem eCode_zero {S C : List Int} (h : eCode S C = 0) : Sp S ∧ (∀ i, i < C.length → 0 ≤ gi C i ∧ gi C i < nW S) ∧ ∀ i, 0 < i → i < C.length → gi C (i - 1) < gi C i := by
  by_cases h1 : isSp S = true
  · by_cases h2 : codeB S C = true
    · exact ⟨(isSp_iff S).1 h1, (codeB_iff S C).1 h2⟩
    · simp [eCode, h1, h2] at h
  · simp [eCode, h1] at h
/-- a code has no more words than the space -/
theorem code_ge {S C : List Int} (h1 : ∀ i, i < C.length → 0 ≤ gi C i ∧ gi C i < nW S) (h2 : ∀ i, 0 < i → i < C.length → gi C (i - 1) < gi C i) (i : Nat) (hi : i < C.length) : (i : Int) ≤ gi C i := by
  induction i with
  | zero => exact (h1 0 hi).1
  | succ i ih =>
    have a := ih (by omega)
    have b := h2 (i + 1) (by omega) hi
    rw [Nat.add_sub_cancel] at b
    omega
theorem code_len {S C : List Int} (hS : Sp S) (h1 : ∀ i, i < C.length → 0 ≤ gi C i ∧ gi C i < nW S) (h2 : ∀ i, 0 < i → i < C.length → gi C (i - 1) < gi C i) : C.length ≤ 1024 := by
  rcases Nat.eq_zero_or_pos C.length with h | h
  · omega
  · have a := code_ge h1 h2 (C.length - 1) (by omega)
    have b := (h1 (C.length - 1) (by omega)).2
    have c := (nW_bd hS).2
    omega

def vIsCode (S C : List Int) : Bool := isSp S && codeB S C

/-- words that are not in a code: how many words of the code lie below k, and the others -/
def oppAt (C : List Int) : Nat → Nat
  | 0 => 0
  | k + 1 => if oppAt C k < C.length ∧ gi C (oppAt C k) = (k : Int) then oppAt C k + 1 else oppAt C k
def oppOut (C : List Int) : Nat → List Int
  | 0 => []
  | k + 1 => if oppAt C k < C.length ∧ gi C (oppAt C k) = (k : Int) then oppOut C k else oppOut C k ++ [(k : Int)]
theorem oppAt_le (C : List Int) (k : Nat) : oppAt C k ≤ k ∧ oppAt C k ≤ C.length := by
  induction k with
  | zero => simp [oppAt]
  | succ k ih => simp only [oppAt]; split <;> omega
theorem oppOut_len (C : List Int) (k : Nat) : (oppOut C k).length ≤ k := by
  induction k with
  | zero => simp [oppOut]
  | succ k ih =>
    simp only [oppOut]
    split
    · omega
    · rw [List.length_append, List.length_singleton]; omega
def vOppC (S C : List Int) : List Int := if eCode S C = 0 then oppOut C (nW S).toNat else []
theorem vOppC_len (S C : List Int) : (vOppC S C).length ≤ 1024 := by
  unfold vOppC
  split
  · rename_i h
    have := oppOut_len C (nW S).toNat
    have := (nW_bd (eCode_zero h).1)
    omega
  · simp

end Cv
end Go.Proofs.YtpmfedllbiblbaaGreat

namespace Go.Proofs.YtpmfedllbiblbaaGreat
set_option linter.unusedVariables false
set_option linter.unusedSimpArgs false
namespace Cv

theorem dist_bd (S : List Int) (u x : Int) : 0 ≤ dist S u x ∧ dist S u x ≤ S.length := by
  have h := distFrom_bd S u x 0
  rwa [distFrom_zero] at h

def lstRow (S C : List Int) (i : Nat) (m : Int) : Nat → Int
  | 0 => m
  | k + 1 => min (lstRow S C i m k) (dist S (gi C i) (gi C k))
def lstAll (S C : List Int) (m : Int) : Nat → Int
  | 0 => m
  | i + 1 => lstRow S C i (lstAll S C m i) i
theorem lstRow_min (S C : List Int) (i : Nat) (a b : Int) (k : Nat) : lstRow S C i (min a b) k = min a (lstRow S C i b k) := by
  induction k with
  | zero => rfl
  | succ k ih => simp only [lstRow, ih]; omega
theorem lstAll_min (S C : List Int) (a b : Int) (n : Nat) : lstAll S C (min a b) n = min a (lstAll S C b n) := by
  induction n with
  | zero => rfl
  | succ n ih => simp only [lstAll, ih, lstRow_min]
theorem lstRow_le (S C : List Int) (i : Nat) (m : Int) (k : Nat) : lstRow S C i m k ≤ m := by
  induction k with
  | zero => exact Int.le_refl _
  | succ k ih => simp only [lstRow]; omega
theorem lstAll_le (S C : List Int) (m : Int) (n j : Nat) (h : j ≤ n) : lstAll S C m n ≤ lstAll S C m j := by
  induction n with
  | zero => have : j = 0 := by omega
            subst this; exact Int.le_refl _
  | succ n ih =>
    by_cases e : j = n + 1
    · subst e; exact Int.le_refl _
    · have := ih (by omega)
      have h2 := lstRow_le S C n (lstAll S C m n) n
      simp only [lstAll]; omega
/-- where the search starts does not matter -/
theorem lstAll_start (S C : List Int) (hS : S.length ≤ 8) (hC : 2 ≤ C.length) : lstAll S C 8 C.length = lstAll S C S.length C.length := by
  have e : lstAll S C S.length C.length = min (S.length : Int) (lstAll S C 8 C.length) := by
    rw [← lstAll_min]; congr 1; omega
  have h := lstAll_le S C 8 C.length 2 hC
  have h2 : lstAll S C 8 2 = min 8 (dist S (gi C 1) (gi C 0)) := rfl
  have h3 := (dist_bd S (gi C 1) (gi C 0)).2
  rw [h2] at h
  rw [e]; omega
def eLeast (S C : List Int) : Int := if eCode S C = 0 then (if C.length < 2 then 5 else 0) else eCode S C
def vLeast (S C : List Int) : Int := if eCode S C = 0 then (if C.length < 2 then 0 else lstAll S C S.length C.length) else 0

/-- one more at one place -/
def bump (L : List Int) (d : Int) : List Int := L.set d.toNat (gi L d.toNat + 1)
theorem bump_len (L : List Int) (d : Int) : (bump L d).length = L.length := by simp [bump]
def dcRow (S C : List Int) (i : Nat) (L : List Int) : Nat → List Int
  | 0 => L
  | k + 1 => bump (dcRow S C i L k) (dist S (gi C i) (gi C k))
def dcAll (S C : List Int) : Nat → List Int
  | 0 => List.replicate (S.length + 1) 0
  | i + 1 => dcRow S C i (dcAll S C i) C.length
theorem dcRow_len (S C : List Int) (i : Nat) (L : List Int) (k : Nat) : (dcRow S C i L k).length = L.length := by
  induction k with
  | zero => rfl
  | succ k ih => simp only [dcRow, bump_len, ih]
theorem dcAll_len (S C : List Int) (i : Nat) : (dcAll S C i).length = S.length + 1 := by
  induction i with
  | zero => simp [dcAll]
  | succ i ih => simp only [dcAll, dcRow_len, ih]
theorem bump_bd (L : List Int) (d m : Int) (h : ∀ j, 0 ≤ gi L j ∧ gi L j ≤ m) (j : Nat) : 0 ≤ gi (bump L d) j ∧ gi (bump L d) j ≤ m + 1 := by
  have h1 := h j
  have h2 := h d.toNat
  by_cases hl : d.toNat < L.length
  · rw [bump, gi_set _ _ _ _ hl]; split <;> omega
  · rw [bump, List.set_eq_of_length_le (by omega)]; omega
theorem dcRow_bd (S C : List Int) (i : Nat) (L : List Int) (m : Int) (h : ∀ j, 0 ≤ gi L j ∧ gi L j ≤ m) (k j : Nat) : 0 ≤ gi (dcRow S C i L k) j ∧ gi (dcRow S C i L k) j ≤ m + k := by
  induction k generalizing j with
  | zero => have := h j; simp only [dcRow]; omega
  | succ k ih =>
    have := bump_bd _ (dist S (gi C i) (gi C k)) (m + k) ih j
    simp only [dcRow]; omega
theorem gi_rep0 (n j : Nat) : gi (List.replicate n 0) j = 0 := by
  by_cases h : j < n
  · simp [gi, List.getD, h]
  · simp [gi, List.getD, h]
theorem dcAll_bd (S C : List Int) (i j : Nat) : 0 ≤ gi (dcAll S C i) j ∧ gi (dcAll S C i) j ≤ (i : Int) * (C.length : Int) := by
  induction i generalizing j with
  | zero => simp only [dcAll, gi_rep0]; omega
  | succ i ih =>
    have := dcRow_bd S C i _ _ ih C.length j
    simp only [dcAll]
    have e : ((i + 1 : Nat) : Int) * (C.length : Int) = (i : Int) * (C.length : Int) + (C.length : Int) := by
      rw [show ((i + 1 : Nat) : Int) = (i : Int) + 1 from rfl, Int.add_mul, Int.one_mul]
    omega
/-- no count is out of reach -/
theorem dc_small (S C : List Int) (i k j : Nat) (hC : C.length ≤ 1024) (hi : i < C.length) (hk : k ≤ C.length) : 0 ≤ gi (dcRow S C i (dcAll S C i) k) j ∧ gi (dcRow S C i (dcAll S C i) k) j ≤ 1048576 := by
  have h := dcRow_bd S C i _ _ (fun j => dcAll_bd S C i j) k j
  have h2 : i * C.length ≤ 1023 * 1024 := Nat.mul_le_mul (by omega) hC
  have h3 : ((i * C.length : Nat) : Int) ≤ ((1023 * 1024 : Nat) : Int) := Int.ofNat_le.2 h2
  rw [Int.natCast_mul] at h3
  omega
def vCounts (S C : List Int) : List Int := if eCode S C = 0 then dcAll S C C.length else []
theorem vCounts_len (S C : List Int) : (vCounts S C).length ≤ S.length + 1 := by
  unfold vCounts
  split
  · rw [dcAll_len]; omega
  · simp

end Cv
end Go.Proofs.YtpmfedllbiblbaaGreat

namespace Go.Proofs.YtpmfedllbiblbaaGreat
set_option linter.unusedVariables false
set_option linter.unusedSimpArgs false
namespace Cv

/-- the least one of f 0 .. f k -/
def minTo (f : Nat → Int) : Nat → Int
  | 0 => f 0
  | k + 1 => min (minTo f k) (f (k + 1))
theorem minTo_le (f : Nat → Int) (k j : Nat) (h : j ≤ k) : minTo f k ≤ f j := by
  induction k with
  | zero => obtain rfl : j = 0 := by omega
            exact Int.le_refl _
  | succ k ih =>
    show min _ _ ≤ _
    by_cases e : j = k + 1
    · subst e; exact Int.min_le_right _ _
    · exact Int.le_trans (Int.min_le_left _ _) (ih (by omega))
theorem minTo_congr (f g : Nat → Int) (k : Nat) (h : ∀ j, j ≤ k → f j = g j) : minTo f k = minTo g k := by
  induction k with
  | zero => exact h 0 (Nat.le_refl _)
  | succ k ih => show min _ _ = min _ _; rw [ih fun j hj => h j (by omega), h (k + 1) (Nat.le_refl _)]
theorem minTo_bd (f : Nat → Int) (k : Nat) (a b : Int) (h : ∀ j, j ≤ k → a ≤ f j ∧ f j ≤ b) : a ≤ minTo f k ∧ minTo f k ≤ b := by
  induction k with
  | zero => exact h 0 (Nat.le_refl _)
  | succ k ih =>
    have h1 := ih fun j hj => h j (by omega)
    have h2 := h (k + 1) (Nat.le_refl _)
    show a ≤ min _ _ ∧ min _ _ ≤ b
    omega

theorem cnt_comm (p q : Nat → Bool) (n : Nat) (h : ∀ i, i < n → p i = q i) : cnt p n = cnt q n := cnt_congr p q n h
theorem dist_comm (S : List Int) (u x : Int) : dist S u x = dist S x u := by
  unfold dist
  exact cnt_congr _ _ _ fun i _ => by rw [bne_comm]

/-- the least distance of a word from a code with words -/
def toW (S C : List Int) (x : Int) : Int := minTo (fun k => dist S (gi C k) x) (C.length - 1)
theorem toW_bd (S C : List Int) (x : Int) : 0 ≤ toW S C x ∧ toW S C x ≤ S.length := minTo_bd _ _ _ _ fun j _ => dist_bd S _ _

/-- the first one of 0 .. k with the greatest value, and this value -/
def farB (f : Nat → Int) : Nat → Int × Int
  | 0 => (0, f 0)
  | k + 1 => if (farB f k).2 < f (k + 1) then (((k + 1 : Nat) : Int), f (k + 1)) else farB f k
theorem farB_bd (f : Nat → Int) (k : Nat) (a b : Int) (h : ∀ j, j ≤ k → a ≤ f j ∧ f j ≤ b) : (0 ≤ (farB f k).1 ∧ (farB f k).1 ≤ k) ∧ a ≤ (farB f k).2 ∧ (farB f k).2 ≤ b := by
  induction k with
  | zero => exact ⟨⟨Int.le_refl _, Int.le_refl _⟩, h 0 (Nat.le_refl _)⟩
  | succ k ih =>
    have h1 := ih fun j hj => h j (by omega)
    have h2 := h (k + 1) (Nat.le_refl _)
    show (0 ≤ (if _ then _ else _ : Int × Int).1 ∧ _) ∧ _
    simp only [farB]
    split <;> simp <;> omega
def farW (S C : List Int) : Int × Int := farB (fun (u : Nat) => toW S C (u : Int)) ((nW S).toNat - 1)

/-- the error of a space, a code and a radius -/
def eCov (S C : List Int) (r : Int) : Int := if eCode S C = 0 then (if 0 ≤ r ∧ r ≤ 8 then 0 else 2) else eCode S C
theorem eCov_zero {S C : List Int} {r : Int} (h : eCov S C r = 0) : eCode S C = 0 ∧ 0 ≤ r ∧ r ≤ 8 := by
  unfold eCov at h
  split at h
  · split at h
    · exact ⟨‹_›, ‹_›⟩
    · omega
  · omega
theorem eCov_bad {S C : List Int} {r : Int} (h : eCode S C ≠ 0) : eCov S C r = eCode S C := by unfold eCov; rw [if_neg h]
theorem eCov_r {S C : List Int} {r : Int} (h : eCode S C = 0) (hr : ¬ (0 ≤ r ∧ r ≤ 8)) : eCov S C r = 2 := by unfold eCov; rw [if_pos h, if_neg hr]
theorem eCov_ok {S C : List Int} {r : Int} (h : eCode S C = 0) (h1 : 0 ≤ r) (h2 : r ≤ 8) : eCov S C r = 0 := by unfold eCov; rw [if_pos h, if_pos ⟨h1, h2⟩]
/-- the error of a space, a word and a radius -/
def eBall (S : List Int) (x r : Int) : Int := if eWords S [x] = 0 then (if 0 ≤ r ∧ r ≤ 8 then 0 else 2) else eWords S [x]
theorem eBall_zero {S : List Int} {x r : Int} (h : eBall S x r = 0) : eWords S [x] = 0 ∧ 0 ≤ r ∧ r ≤ 8 := by
  unfold eBall at h
  split at h
  · split at h
    · exact ⟨‹_›, ‹_›⟩
    · omega
  · omega
def orI (a b : Int) : Int := if a = 0 then b else a
/-- the error of a code and words -/
def eCW (S C T : List Int) : Int := orI (eCode S C) (eWords S T)
def eCov2 (S C T : List Int) (r : Int) : Int := orI (eCW S C T) (eBall S 0 r)
def eSome (S C T : List Int) : Int := if eCW S C T = 0 ∧ C.length = 0 then 5 else eCW S C T
theorem eWords_or (S T : List Int) : eWords S T = 0 ∨ eWords S T = 1 ∨ eWords S T = 2 := by unfold eWords; split <;> (try split) <;> simp
theorem eCode_or (S T : List Int) : eCode S T = 0 ∨ eCode S T = 1 ∨ eCode S T = 2 := by unfold eCode; split <;> (try split) <;> simp
theorem eWords_nil {S : List Int} (h : Sp S) : eWords S [] = 0 := eWords_ok ((isSp_iff S).2 h) fun i hi => by simp at hi
theorem eWords_0 {S : List Int} (h : Sp S) : eWords S [0] = 0 := eWords_ok ((isSp_iff S).2 h) fun i hi => by
  have := nW_bd h
  match i, hi with
  | 0, _ => rw [gi1]; omega
theorem eWords_w {S : List Int} (h : Sp S) (x : Int) : eWords S [x] = if 0 ≤ x ∧ x < nW S then 0 else 2 := by
  have hs := (isSp_iff S).2 h
  split
  · exact eWords_ok hs fun i hi => by
      match i, hi with
      | 0, _ => rw [gi1]; assumption
  · exact eWords_bad hs (k := 0) (by simp) (by rw [gi1]; assumption)
theorem eBall_sp {S : List Int} (h : Sp S) (r : Int) : eBall S 0 r = if 0 ≤ r ∧ r ≤ 8 then 0 else 2 := by unfold eBall; rw [if_pos (eWords_0 h)]
theorem eBall_not {S : List Int} (h : isSp S = false) (x r : Int) : eBall S x r = 1 := by unfold eBall; rw [eWords_inv h]; simp
theorem eCW_nil (S C : List Int) : eCW S C [] = eCode S C := by
  unfold eCW orI
  split
  · rename_i h; rw [h]; exact eWords_nil (eCode_zero h).1
  · rfl
theorem eCov2_nil (S C : List Int) (r : Int) : eCov2 S C [] r = eCov S C r := by
  unfold eCov2 eCov orI
  rw [eCW_nil]
  split
  · rename_i h; rw [eBall_sp (eCode_zero h).1]
  · rfl
/-- the error of a code, a radius and a word -/
def eTimes (S C : List Int) (x r : Int) : Int := if eCov S C r = 0 then (if 0 ≤ x ∧ x < nW S then 0 else 2) else eCov S C r
theorem eTimes_eq (S C : List Int) (x r : Int) : eCov2 S C [x] r = eTimes S C x r := by
  unfold eCov2 eTimes eCov eCW orI
  by_cases h : eCode S C = 0
  · have hS := (eCode_zero h).1
    rw [if_pos h, if_pos h, eBall_sp hS, eWords_w hS]
    repeat' split
    all_goals first | rfl | omega
  · rw [if_neg h, if_neg h, if_neg h, if_neg h]
theorem eTimes_zero {S C : List Int} {x r : Int} (h : eTimes S C x r = 0) : eCov S C r = 0 ∧ 0 ≤ x ∧ x < nW S := by
  unfold eTimes at h
  split at h
  · split at h
    · exact ⟨‹_›, ‹_›⟩
    · omega
  · omega
/-- the error of a code that should have words -/
def eFull (S C : List Int) : Int := if eCode S C = 0 ∧ C.length = 0 then 5 else eCode S C
theorem eSome_nil (S C : List Int) : eSome S C [] = eFull S C := by unfold eSome eFull; rw [eCW_nil]
theorem eFull_zero {S C : List Int} (h : eFull S C = 0) : eCode S C = 0 ∧ 0 < C.length := by
  unfold eFull at h
  split at h
  · omega
  · rename_i h2
    exact ⟨h, by have := h2; simp only [h, true_and] at this; omega⟩
/-- the error of a code that should have words, and a word -/
def eTo (S C : List Int) (x : Int) : Int := eSome S C [x]

/-- how often a code covers a word -/
def tcov (S C : List Int) (r x : Int) : Nat → Int := cnt fun k => decide (dist S (gi C k) x ≤ r)
theorem tcov_bd (S C : List Int) (r x : Int) (k : Nat) : 0 ≤ tcov S C r x k ∧ tcov S C r x k ≤ k := cnt_bd _ _
def vTimes (S C : List Int) (x r : Int) : Int := if eTimes S C x r = 0 then tcov S C r x C.length else 0
def vTo (S C : List Int) (x : Int) : Int := if eTo S C x = 0 then toW S C x else 0
def vRadius (S C : List Int) : Int := if eFull S C = 0 then (farW S C).2 else 0
def vFarthest (S C : List Int) : Int := if eFull S C = 0 then (farW S C).1 else 0

/-- the words of a code with a distance from a word -/
def nearOut (S C : List Int) (x m : Int) : Nat → List Int
  | 0 => []
  | k + 1 => nearOut S C x m k ++ if dist S (gi C k) x = m then [gi C k] else []
theorem nearOut_len (S C : List Int) (x m : Int) (k : Nat) : (nearOut S C x m k).length ≤ k := by
  induction k with
  | zero => simp [nearOut]
  | succ k ih => simp only [nearOut, List.length_append]; split <;> simp <;> omega
theorem nearOut_none (S C : List Int) (x m : Int) (k : Nat) (h : ∀ j, j < k → m < dist S (gi C j) x) : nearOut S C x m k = [] := by
  induction k with
  | zero => rfl
  | succ k ih =>
    simp only [nearOut]
    rw [ih fun j hj => h j (by omega), if_neg (by have := h k (by omega); omega)]; rfl
def eNear (S C : List Int) (x : Int) : Int := eCW S C [x]
def vNear (S C : List Int) (x : Int) : List Int := if eNear S C x = 0 then nearOut S C x (toW S C x) C.length else []
theorem eCW_zero {S C T : List Int} (h : eCW S C T = 0) : eCode S C = 0 ∧ eWords S T = 0 := by
  unfold eCW orI at h
  split at h
  · exact ⟨‹_›, h⟩
  · omega
theorem vNear_len (S C : List Int) (x : Int) : (vNear S C x).length ≤ 1024 := by
  unfold vNear
  split
  · rename_i h
    obtain ⟨a, b, c⟩ := eCode_zero (eCW_zero h).1
    have := code_len a b c
    have := nearOut_len S C x (toW S C x) C.length
    omega
  · simp
/-- the least one of the first k, and 8 -/
def min8 (f : Nat → Int) : Nat → Int
  | 0 => 8
  | k + 1 => min (min8 f k) (f k)
theorem min8_le (f : Nat → Int) (k j : Nat) (h : j < k) : min8 f k ≤ f j := by
  induction k with
  | zero => omega
  | succ k ih =>
    show min _ _ ≤ _
    by_cases e : j = k
    · subst e; exact Int.min_le_right _ _
    · exact Int.le_trans (Int.min_le_left _ _) (ih (by omega))
theorem min8_to (f : Nat → Int) (k : Nat) (h : ∀ j, j ≤ k → f j ≤ 8) : min8 f (k + 1) = minTo f k := by
  induction k with
  | zero => show min 8 (f 0) = f 0; have := h 0 (Nat.le_refl _); omega
  | succ k ih => show min (min8 f (k + 1)) (f (k + 1)) = min (minTo f k) (f (k + 1)); rw [ih fun j hj => h j (by omega)]
theorem min8_bd (f : Nat → Int) (k : Nat) (h : ∀ j, j < k → 0 ≤ f j) : 0 ≤ min8 f k ∧ min8 f k ≤ 8 := by
  induction k with
  | zero => simp [min8]
  | succ k ih =>
    have := ih fun j hj => h j (by omega)
    have := h k (by omega)
    show 0 ≤ min _ _ ∧ min _ _ ≤ 8
    omega

theorem minTo_pred (f : Nat → Int) (k : Nat) (h : 1 ≤ k) : min (minTo f (k - 1)) (f k) = minTo f k := by
  obtain ⟨m, rfl⟩ : ∃ m, k = m + 1 := ⟨k - 1, by omega⟩
  rfl
theorem minTo_if (f : Nat → Int) (k : Nat) (h : 1 ≤ k) : (if f k < minTo f (k - 1) then f k else minTo f (k - 1)) = minTo f k := by
  rw [← minTo_pred f k h]
  split <;> omega
/-- the distances of a word from the words of a list -/
def dFrom (S T : List Int) (x : Int) : List Int := T.map fun t => dist S x t
theorem dFrom_len (S T : List Int) (x : Int) : (dFrom S T x).length = T.length := by simp [dFrom]
theorem gi_dFrom (S T : List Int) (x : Int) (k : Nat) (h : k < T.length) : gi (dFrom S T x) k = dist S x (gi T k) := by simp [dFrom, gi, h]
theorem dFrom_min (S C : List Int) (x : Int) (h : 1 ≤ C.length) : minTo (gi (dFrom S C x)) ((dFrom S C x).length - 1) = toW S C x := by
  rw [dFrom_len]
  exact minTo_congr _ _ _ fun j hj => by rw [gi_dFrom _ _ _ _ (by omega), dist_comm]
/-- the numbers 0 .. n - 1 -/
def upto (n : Nat) : List Int := (List.range n).map fun (i : Nat) => (i : Int)
theorem upto_len (n : Nat) : (upto n).length = n := by simp [upto]
theorem gi_upto (n i : Nat) (h : i < n) : gi (upto n) i = i := by simp [upto, gi, h]

/-- the first one of the first k with the greatest value, and this value; -1 ahead of the first -/
def farP (f : Nat → Int) : Nat → Int × Int
  | 0 => (0, -1)
  | k + 1 => if (farP f k).2 < f k then ((k : Int), f k) else farP f k
theorem farP_yes (f : Nat → Int) (k : Nat) (h : (farP f k).2 < f k) : farP f (k + 1) = ((k : Int), f k) := by rw [farP, if_pos h]
theorem farP_no (f : Nat → Int) (k : Nat) (h : ¬ (farP f k).2 < f k) : farP f (k + 1) = farP f k := by rw [farP, if_neg h]
theorem farP_B (f : Nat → Int) (h0 : 0 ≤ f 0) (k : Nat) : farP f (k + 1) = farB f k := by
  induction k with
  | zero => rw [farP_yes f 0 (by show (-1 : Int) < f 0; omega)]; rfl
  | succ k ih => rw [farP, ih]; rfl
/-- the distance of word u from a code -/
def toF (S C : List Int) (u : Nat) : Int := toW S C (u : Int)
theorem toF_bd (S C : List Int) (u : Nat) : 0 ≤ toF S C u ∧ toF S C u ≤ S.length := toW_bd S C u
theorem farP_W (S C : List Int) (h : 1 ≤ nW S) : farP (toF S C) (nW S).toNat = farW S C := by
  obtain ⟨m, hm⟩ : ∃ m, (nW S).toNat = m + 1 := ⟨(nW S).toNat - 1, by omega⟩
  unfold farW
  rw [hm, farP_B _ (toF_bd S C 0).1]; rfl
theorem farB_toF (S C : List Int) (k : Nat) : farB (toF S C) k = farB (fun (u : Nat) => toW S C (u : Int)) k := rfl
theorem min8_yes (f : Nat → Int) (k : Nat) (h : f k < min8 f k) : min8 f (k + 1) = f k := by show min _ _ = _; omega
theorem min8_no (f : Nat → Int) (k : Nat) (h : ¬ f k < min8 f k) : min8 f (k + 1) = min8 f k := by show min _ _ = _; omega
/-- the distance of word x from the word at k of a code -/
def dAt (S C : List Int) (x : Int) (k : Nat) : Int := dist S x (gi C k)
theorem dAt_bd (S C : List Int) (x : Int) (k : Nat) : 0 ≤ dAt S C x k ∧ dAt S C x k ≤ S.length := dist_bd S _ _
theorem near_lt (S C : List Int) (x : Int) (k : Nat) (h : dAt S C x k < min8 (dAt S C x) k) : nearOut S C x (min8 (dAt S C x) (k + 1)) (k + 1) = [gi C k] := by
  rw [min8_yes _ _ h, nearOut, nearOut_none S C x _ k fun j hj => by
    have h1 := min8_le (dAt S C x) k j hj
    rw [dist_comm S (gi C j) x]; unfold dAt at h h1 ⊢; omega]
  rw [if_pos (show dist S (gi C k) x = dAt S C x k from dist_comm S _ _)]; rfl
theorem near_eq (S C : List Int) (x : Int) (k : Nat) (h : dAt S C x k = min8 (dAt S C x) k) : nearOut S C x (min8 (dAt S C x) (k + 1)) (k + 1) = nearOut S C x (min8 (dAt S C x) k) k ++ [gi C k] := by
  rw [min8_no _ _ (by omega), nearOut, if_pos (by rw [dist_comm]; exact h)]
theorem near_gt (S C : List Int) (x : Int) (k : Nat) (h : min8 (dAt S C x) k < dAt S C x k) : nearOut S C x (min8 (dAt S C x) (k + 1)) (k + 1) = nearOut S C x (min8 (dAt S C x) k) k := by
  rw [min8_no _ _ (by omega), nearOut, if_neg (by rw [dist_comm]; unfold dAt at h ⊢; omega), List.append_nil]
theorem near_end (S C : List Int) (x : Int) (hS : S.length ≤ 8) : nearOut S C x (min8 (dAt S C x) C.length) C.length = nearOut S C x (toW S C x) C.length := by
  cases hC : C.length with
  | zero => rfl
  | succ m =>
    have e : min8 (dAt S C x) (m + 1) = toW S C x := by
      rw [min8_to _ _ fun j _ => by have := (dAt_bd S C x j).2; omega]
      unfold toW
      rw [hC]
      exact minTo_congr _ _ _ fun j _ => dist_comm S _ _
    rw [e]
theorem cnt_at (p : Nat → Bool) (k : Nat) : cnt p (k + 1) = cnt p k + if p k then 1 else 0 := rfl
theorem tcov_yes (S C : List Int) (r x : Int) (k : Nat) (h : dist S x (gi C k) ≤ r) : tcov S C r x (k + 1) = tcov S C r x k + 1 := by
  unfold tcov; rw [cnt_at, if_pos (by rw [dist_comm]; simpa using h)]
theorem tcov_no (S C : List Int) (r x : Int) (k : Nat) (h : ¬ dist S x (gi C k) ≤ r) : tcov S C r x (k + 1) = tcov S C r x k := by
  unfold tcov; rw [cnt_at, if_neg (by rw [dist_comm]; simpa using h), Int.add_zero]

theorem eTo_bad {S C : List Int} {x : Int} (h : eCode S C ≠ 0) : eTo S C x = eCode S C := by
  unfold eTo eSome eCW orI
  rw [if_neg h, if_neg (fun g => h g.1)]
theorem eCW_at {S C : List Int} (h : eCode S C = 0) (x : Int) : eCW S C [x] = if 0 ≤ x ∧ x < nW S then 0 else 2 := by
  unfold eCW orI; rw [if_pos h, eWords_w (eCode_zero h).1]
theorem eTo_out {S C : List Int} {x : Int} (h : eCode S C = 0) (hx : ¬ (0 ≤ x ∧ x < nW S)) : eTo S C x = 2 := by
  unfold eTo eSome; rw [eCW_at h, if_neg hx]; simp
theorem eTo_nil {S C : List Int} {x : Int} (h : eCode S C = 0) (hx : 0 ≤ x ∧ x < nW S) (hl : C.length = 0) : eTo S C x = 5 := by
  unfold eTo eSome; rw [eCW_at h, if_pos hx]; simp [hl]
theorem eTo_ok {S C : List Int} {x : Int} (h : eCode S C = 0) (hx : 0 ≤ x ∧ x < nW S) (hl : C.length ≠ 0) : eTo S C x = 0 := by
  unfold eTo eSome; rw [eCW_at h, if_pos hx]; simp only [true_and]; rw [if_neg hl]
theorem eTo_zero {S C : List Int} {x : Int} (h : eTo S C x = 0) : eCode S C = 0 ∧ (0 ≤ x ∧ x < nW S) ∧ 0 < C.length := by
  by_cases h1 : eCode S C = 0
  · by_cases h2 : 0 ≤ x ∧ x < nW S
    · by_cases h3 : C.length = 0
      · rw [eTo_nil h1 h2 h3] at h; omega
      · exact ⟨h1, h2, by omega⟩
    · rw [eTo_out h1 h2] at h; omega
  · rw [eTo_bad h1] at h; omega
theorem eFull_bad {S C : List Int} (h : eCode S C ≠ 0) : eFull S C = eCode S C := by unfold eFull; rw [if_neg (fun g => h g.1)]
theorem eFull_nil {S C : List Int} (h : eCode S C = 0) (hl : C.length = 0) : eFull S C = 5 := by unfold eFull; rw [if_pos ⟨h, hl⟩]
theorem eFull_ok {S C : List Int} (h : eCode S C = 0) (hl : C.length ≠ 0) : eFull S C = 0 := by unfold eFull; rw [if_neg (fun g => hl g.2)]; exact h
theorem eNear_bad {S C : List Int} {x : Int} (h : eCode S C ≠ 0) : eNear S C x = eCode S C := by unfold eNear eCW orI; rw [if_neg h]
theorem eNear_out {S C : List Int} {x : Int} (h : eCode S C = 0) (hx : ¬ (0 ≤ x ∧ x < nW S)) : eNear S C x = 2 := by unfold eNear; rw [eCW_at h, if_neg hx]
theorem eNear_ok {S C : List Int} {x : Int} (h : eCode S C = 0) (hx : 0 ≤ x ∧ x < nW S) : eNear S C x = 0 := by unfold eNear; rw [eCW_at h, if_pos hx]
theorem eNear_zero {S C : List Int} {x : Int} (h : eNear S C x = 0) : eCode S C = 0 ∧ (0 ≤ x ∧ x < nW S) := by
  by_cases h1 : eCode S C = 0
  · by_cases h2 : 0 ≤ x ∧ x < nW S
    · exact ⟨h1, h2⟩
    · rw [eNear_out h1 h2] at h; omega
  · rw [eNear_bad h1] at h; omega

end Cv
end Go.Proofs.YtpmfedllbiblbaaGreat

namespace Go.Proofs.YtpmfedllbiblbaaGreat
set_option linter.unusedVariables false
set_option linter.unusedSimpArgs false
namespace Cv

/-- the product of the last k sizes -/
def restP (S : List Int) : Nat → Int
  | 0 => 1
  | k + 1 => restP S k * gi S (S.length - 1 - k)
theorem restP_pos (S : List Int) (h : ∀ i, i < S.length → 2 ≤ gi S i ∧ gi S i ≤ 4) (k : Nat) (hk : k ≤ S.length) : 1 ≤ restP S k := by
  induction k with
  | zero => simp [restP]
  | succ k ih =>
    have h1 := ih (by omega)
    have h2 := (h (S.length - 1 - k) (by omega)).1
    show 1 ≤ restP S k * gi S (S.length - 1 - k)
    have := Int.mul_le_mul h1 (show 1 ≤ gi S (S.length - 1 - k) by omega) (by omega) (by omega)
    omega
theorem prod_rest (S : List Int) (k : Nat) (hk : k ≤ S.length) : prodTo S S.length = prodTo S (S.length - k) * restP S k := by
  induction k with
  | zero => simp [restP]
  | succ k ih =>
    rw [ih (by omega)]
    have e : S.length - k = (S.length - (k + 1)) + 1 := by omega
    have e2 : S.length - 1 - k = S.length - (k + 1) := by omega
    rw [e, prodTo, restP, e2, Int.mul_assoc, Int.mul_comm (gi S _) (restP S k)]
theorem restP_all (S : List Int) : restP S S.length = nW S := by
  have := prod_rest S S.length (Nat.le_refl _)
  simpa [prodTo, nW] using this.symm
theorem quoTop_rest (S : List Int) (h : ∀ i, i < S.length → 2 ≤ gi S i ∧ gi S i ≤ 4) (u : Int) (k : Nat) (hk : k ≤ S.length) : quoTop S u k = u / restP S k := by
  induction k with
  | zero => simp [quoTop, restP]
  | succ k ih =>
    have := restP_pos S h k (by omega)
    rw [quoTop, ih (by omega), restP, Int.ediv_ediv_of_nonneg (by omega)]

/-- the last k digits: how many are different -/
def dT (S : List Int) (x u : Int) (k : Nat) : Int := cntTop (fun i => dig S u i != dig S x i) S.length k
theorem dT_bd (S : List Int) (x u : Int) (k : Nat) : 0 ≤ dT S x u k ∧ dT S x u k ≤ k := cntTop_bd _ _ _
theorem dT_all (S : List Int) (x u : Int) : dT S x u S.length = dist S u x := cntTop_all _ _

/-- the words that go on from st with k digits more -/
def allL (S : List Int) : Nat → Int → List Int
  | 0, st => [st]
  | k + 1, st => (List.range (gi S (S.length - 1 - k)).toNat).flatMap fun (d : Nat) => allL S k (st * gi S (S.length - 1 - k) + d)
theorem flat_range (q R : Nat) (f : Nat → Int) : ((List.range q).flatMap fun d => (List.range R).map fun t => f (d * R + t)) = (List.range (q * R)).map f := by
  induction q with
  | zero => simp
  | succ q ih =>
    rw [List.range_succ, List.flatMap_append, ih, Nat.add_mul, Nat.one_mul, List.range_add, List.map_append]
    simp
theorem allL_eq (S : List Int) (h : ∀ i, i < S.length → 2 ≤ gi S i ∧ gi S i ≤ 4) (k : Nat) (hk : k ≤ S.length) (st : Int) :
    allL S k st = (List.range (restP S k).toNat).map fun (t : Nat) => st * restP S k + t := by
  induction k generalizing st with
  | zero => simp [allL, restP]
  | succ k ih =>
    have hp := restP_pos S h k (by omega)
    have hq := h (S.length - 1 - k) (by omega)
    have e : (restP S (k + 1)).toNat = (gi S (S.length - 1 - k)).toNat * (restP S k).toNat := by
      rw [restP, Int.mul_comm, Int.toNat_mul (by omega) (by omega)]
    have e2 : ((restP S k).toNat : Int) = restP S k := Int.toNat_of_nonneg (by omega)
    rw [e, ← flat_range, allL]
    congr 1
    funext d
    rw [ih (by omega)]
    congr 1
    funext t
    rw [restP, Int.natCast_add, Int.natCast_mul, e2, Int.add_mul, ← Int.mul_assoc, Int.mul_right_comm, Int.add_assoc]

theorem mem_allL (S : List Int) (h : ∀ i, i < S.length → 2 ≤ gi S i ∧ gi S i ≤ 4) (k : Nat) (hk : k ≤ S.length) (st u : Int) (hu : u ∈ allL S k st) : quoTop S u k = st := by
  rw [allL_eq S h k hk] at hu
  obtain ⟨t, ht, rfl⟩ := List.mem_map.1 hu
  have hp := restP_pos S h k hk
  rw [List.mem_range] at ht
  rw [quoTop_rest S h _ k hk, Int.add_comm, Int.add_mul_ediv_right _ _ (by omega), Int.ediv_eq_zero_of_lt (by omega) (by omega)]
  omega
theorem dig_allL (S : List Int) (h : ∀ i, i < S.length → 2 ≤ gi S i ∧ gi S i ≤ 4) (k : Nat) (hk : k < S.length) (st : Int) (d : Nat) (hd : (d : Int) < gi S (S.length - 1 - k)) (u : Int) (hu : u ∈ allL S k (st * gi S (S.length - 1 - k) + d)) : dig S u (S.length - 1 - k) = d := by
  have := mem_allL S h k (by omega) _ u hu
  have e : S.length - 1 - (S.length - 1 - k) = k := by omega
  rw [dig, e, this, Int.add_comm, Int.add_mul_emod_self_right, Int.emod_eq_of_lt (by omega) hd]

/-- what the digit d costs at the place that has k places behind it -/
def cost (S : List Int) (x : Int) (k : Nat) (d : Int) : Int := if d = dig S x (S.length - 1 - k) then 0 else 1
/-- the walk: what it yields, from the first digits on -/
def walkL (S : List Int) (x r : Int) : Nat → Int → Int → List (Int × Int)
  | 0, st, far => [(st, far)]
  | k + 1, st, far => (List.range (gi S (S.length - 1 - k)).toNat).flatMap fun (d : Nat) =>
      if far + cost S x k d ≤ r then walkL S x r k (st * gi S (S.length - 1 - k) + d) (far + cost S x k d) else []
/-- what one round of the walk yields -/
def walkD (S : List Int) (x r : Int) (k : Nat) (st far : Int) (d : Nat) : List (Int × Int) :=
  if far + cost S x k d ≤ r then walkL S x r k (st * gi S (S.length - 1 - k) + d) (far + cost S x k d) else []
theorem walkL_succ (S : List Int) (x r : Int) (k : Nat) (st far : Int) : walkL S x r (k + 1) st far = (List.range (gi S (S.length - 1 - k)).toNat).flatMap (walkD S x r k st far) := rfl
def keep (S : List Int) (x r : Int) (k : Nat) (far u : Int) : Option (Int × Int) := if far + dT S x u k ≤ r then some (u, far + dT S x u k) else none

theorem dT_step (S : List Int) (x u : Int) (k : Nat) : dT S x u (k + 1) = dT S x u k + cost S x k (dig S u (S.length - 1 - k)) := by
  unfold dT cost
  rw [cntTop]
  by_cases e : dig S u (S.length - 1 - k) = dig S x (S.length - 1 - k) <;> simp [e]

theorem fm_congr {A B : Type} {f g : A → Option B} {l : List A} (h : ∀ u ∈ l, f u = g u) : l.filterMap f = l.filterMap g := by
  induction l with
  | nil => rfl
  | cons a l ih =>
    have h1 := h a (by simp)
    have h2 := ih fun u hu => h u (by simp [hu])
    simp only [List.filterMap_cons, h1, h2]
theorem walkL_eq (S : List Int) (h : ∀ i, i < S.length → 2 ≤ gi S i ∧ gi S i ≤ 4) (x r : Int) (k : Nat) (hk : k ≤ S.length) (st far : Int) (hf : far ≤ r) :
    walkL S x r k st far = (allL S k st).filterMap (keep S x r k far) := by
  induction k generalizing st far with
  | zero => simp [walkL, allL, keep, dT, cntTop, hf]
  | succ k ih =>
    rw [walkL, allL, List.filterMap_flatMap]
    rw [List.flatMap_def, List.flatMap_def]
    congr 1
    apply List.map_congr_left
    intro d hd
    have hq := h (S.length - 1 - k) (by omega)
    rw [List.mem_range] at hd
    have hd' : (d : Int) < gi S (S.length - 1 - k) := by omega
    have hk1 : ∀ u ∈ allL S k (st * gi S (S.length - 1 - k) + d), keep S x r (k + 1) far u = keep S x r k (far + cost S x k d) u := by
      intro u hu
      unfold keep
      rw [dT_step, dig_allL S h k (by omega) st d hd' u hu]
      have e : far + (dT S x u k + cost S x k d) = far + cost S x k d + dT S x u k := by omega
      rw [e]
    rw [fm_congr hk1]
    split
    · rename_i hc
      exact ih (by omega) _ _ hc
    · rename_i hc
      symm
      rw [List.filterMap_eq_nil_iff]
      intro u hu
      unfold keep
      rw [if_neg (by have := (dT_bd S x u k).1; omega)]

/-- the words of a ball with their distances, ascending -/
def ballP (S : List Int) (x r : Int) : List (Int × Int) := (List.range (nW S).toNat).filterMap fun (u : Nat) => if dist S u x ≤ r then some ((u : Int), dist S u x) else none
theorem walk_ball (S : List Int) (h : ∀ i, i < S.length → 2 ≤ gi S i ∧ gi S i ≤ 4) (x r : Int) (hr : 0 ≤ r) : walkL S x r S.length 0 0 = ballP S x r := by
  rw [walkL_eq S h x r S.length (Nat.le_refl _) 0 0 hr, allL_eq S h _ (Nat.le_refl _), List.filterMap_map, restP_all]
  unfold ballP
  congr 1
  funext t
  simp [keep, dT_all]

theorem ballP_map (S : List Int) (x r : Int) : (ballP S x r).map Prod.fst = ((List.range (nW S).toNat).filter fun (u : Nat) => decide (dist S u x ≤ r)).map Int.ofNat := by
  unfold ballP
  induction (List.range (nW S).toNat) with
  | nil => rfl
  | cons u l ih =>
    by_cases e : dist S u x ≤ r
    · simp only [List.filterMap_cons, List.filter_cons, e, if_true, decide_true, List.map_cons, ih]; rfl
    · simp only [List.filterMap_cons, List.filter_cons, e, if_false, decide_false, ih]; simp

theorem walkL_len (S : List Int) (h : ∀ i, i < S.length → 2 ≤ gi S i ∧ gi S i ≤ 4) (x r : Int) (k : Nat) (hk : k ≤ S.length) (st far : Int) (hf : far ≤ r) : (walkL S x r k st far).length ≤ (restP S k).toNat := by
  rw [walkL_eq S h x r k hk st far hf, allL_eq S h k hk]
  refine Nat.le_trans (List.length_filterMap_le _ _) (by simp)

end Cv
end Go.Proofs.YtpmfedllbiblbaaGreat

namespace Go.Proofs.YtpmfedllbiblbaaGreat
set_option linter.unusedVariables false
set_option linter.unusedSimpArgs false
namespace Cv

/-- a word with its distance from x, within r -/
abbrev WP (S : List Int) (x r : Int) := { p : Int × Int // (0 ≤ p.1 ∧ p.1 < nW S) ∧ p.2 = dist S p.1 x ∧ p.2 ≤ r }

/-- what the walk knows of its first digits -/
structure WayB (S : List Int) (x r : Int) (k : Nat) (st far : Int) : Prop where
  lo : 0 ≤ st
  hi : st < prodTo S (S.length - k)
  f0 : 0 ≤ far
  f1 : far ≤ (S.length - k : Nat)
  fr : far ≤ r
  on : ∀ u, u ∈ allL S k st → far + dT S x u k = dist S u x
theorem way_start (S : List Int) (x r : Int) (hr : 0 ≤ r) : WayB S x r S.length 0 0 :=
  ⟨by omega, by simp [prodTo], by omega, by omega, hr, fun u _ => by rw [dT_all]; omega⟩
theorem way_end {S : List Int} {x r st far : Int} (h : WayB S x r 0 st far) : (0 ≤ st ∧ st < nW S) ∧ far = dist S st x ∧ far ≤ r := by
  refine ⟨⟨h.lo, by have := h.hi; simpa [nW] using this⟩, ?_, h.fr⟩
  have := h.on st (by simp [allL])
  rw [← this]; simp [dT, cntTop]
theorem way_step {S : List Int} (hb : ∀ i, i < S.length → 2 ≤ gi S i ∧ gi S i ≤ 4) {x r st far : Int} {k : Nat} (hk : k + 1 ≤ S.length) (h : WayB S x r (k + 1) st far) (d : Nat) (hd : (d : Int) < gi S (S.length - 1 - k)) (hn : far + cost S x k d ≤ r) :
    WayB S x r k (st * gi S (S.length - 1 - k) + d) (far + cost S x k d) := by
  have hq := hb (S.length - 1 - k) (by omega)
  have hlo := h.lo
  have hhi := h.hi
  have hc : 0 ≤ cost S x k d ∧ cost S x k d ≤ 1 := by unfold cost; split <;> omega
  have e : S.length - k = (S.length - (k + 1)) + 1 := by omega
  have e2 : S.length - 1 - k = S.length - (k + 1) := by omega
  have h1 := h.f0
  have h2 := h.f1
  refine ⟨?_, ?_, by omega, by omega, hn, fun u hu => ?_⟩
  · have := Int.mul_nonneg hlo (show 0 ≤ gi S (S.length - 1 - k) by omega)
    omega
  · rw [e, prodTo, ← e2]
    have h3 : (st + 1) * gi S (S.length - 1 - k) ≤ prodTo S (S.length - (k + 1)) * gi S (S.length - 1 - k) := Int.mul_le_mul_of_nonneg_right (by omega) (by omega)
    rw [← e2] at h3
    rw [Int.add_mul, Int.one_mul] at h3
    rw [e2] at h3 hd ⊢
    omega
  · have hin : u ∈ allL S (k + 1) st := by
      rw [allL]
      exact List.mem_flatMap.2 ⟨d, List.mem_range.2 (by omega), hu⟩
    have := h.on u hin
    rw [dT_step, dig_allL S hb k (by omega) st d hd u hu] at this
    omega
theorem walkD_yes {S : List Int} {x r : Int} {k : Nat} {st far : Int} {d : Nat} (h : far + cost S x k d ≤ r) : walkD S x r k st far d = walkL S x r k (st * gi S (S.length - 1 - k) + d) (far + cost S x k d) := by unfold walkD; rw [if_pos h]
theorem walkD_no {S : List Int} {x r : Int} {k : Nat} {st far : Int} {d : Nat} (h : ¬ far + cost S x k d ≤ r) : walkD S x r k st far d = [] := by unfold walkD; rw [if_neg h]
/-- what the first j rounds of the walk yield -/
def walkU (S : List Int) (x r : Int) (k : Nat) (st far : Int) (j : Nat) : List (Int × Int) := (List.range j).flatMap (walkD S x r k st far)
theorem walkU_succ (S : List Int) (x r : Int) (k : Nat) (st far : Int) (j : Nat) : walkU S x r k st far (j + 1) = walkU S x r k st far j ++ walkD S x r k st far j := by
  unfold walkU; rw [List.range_succ, List.flatMap_append]; simp
theorem walkU_all (S : List Int) (x r : Int) (k : Nat) (st far : Int) (q : Nat) (hq : gi S (S.length - 1 - k) = (q : Int)) : walkU S x r k st far q = walkL S x r (k + 1) st far := by
  rw [walkL_succ, hq]; rfl
theorem walkU_len (S : List Int) (x r : Int) (k : Nat) (st far : Int) (q j : Nat) (hq : gi S (S.length - 1 - k) = (q : Int)) (hj : j ≤ q) : (walkU S x r k st far j).length ≤ (walkL S x r (k + 1) st far).length := by
  obtain ⟨m, rfl⟩ : ∃ m, q = j + m := ⟨q - j, by omega⟩
  rw [← walkU_all S x r k st far _ hq]
  unfold walkU
  rw [List.range_add, List.flatMap_append, List.length_append]
  omega
theorem cost_eq {S : List Int} {x : Int} {k : Nat} {d : Int} (h : d = dig S x (S.length - 1 - k)) : cost S x k d = 0 := by unfold cost; rw [if_pos h]
theorem cost_ne {S : List Int} {x : Int} {k : Nat} {d : Int} (h : d ≠ dig S x (S.length - 1 - k)) : cost S x k d = 1 := by unfold cost; rw [if_neg h]

end Cv
end Go.Proofs.YtpmfedllbiblbaaGreat

namespace Go.Proofs.YtpmfedllbiblbaaGreat
set_option linter.unusedVariables false
set_option linter.unusedSimpArgs false
namespace Cv

/-- those of 0 .. n - 1 that p holds of -/
def selTo (p : Nat → Bool) : Nat → List Int
  | 0 => []
  | k + 1 => selTo p k ++ if p k then [(k : Int)] else []
theorem selTo_yes {p : Nat → Bool} {k : Nat} (h : p k = true) : selTo p (k + 1) = selTo p k ++ [(k : Int)] := by rw [selTo, if_pos h]
theorem selTo_no {p : Nat → Bool} {k : Nat} (h : p k = false) : selTo p (k + 1) = selTo p k := by rw [selTo, if_neg (by simp [h]), List.append_nil]
theorem selTo_len (p : Nat → Bool) (n : Nat) : (selTo p n).length ≤ n := by
  induction n with
  | zero => simp [selTo]
  | succ n ih => rw [selTo, List.length_append]; split <;> simp <;> omega
theorem selTo_eq (p : Nat → Bool) (n : Nat) : selTo p n = ((List.range n).filter p).map Int.ofNat := by
  induction n with
  | zero => rfl
  | succ n ih =>
    rw [selTo, ih, List.range_succ, List.filter_append, List.map_append]
    congr 1
    by_cases h : p n = true
    · simp [h]
    · simp [h]
/-- the words of a ball, of a sphere -/
def ballB (S : List Int) (x r : Int) (u : Nat) : Bool := decide (dist S u x ≤ r)
def sphB (S : List Int) (x r : Int) (u : Nat) : Bool := decide (dist S u x = r)
def ballW (S : List Int) (x r : Int) : List Int := selTo (ballB S x r) (nW S).toNat
def sphW (S : List Int) (x r : Int) : List Int := selTo (sphB S x r) (nW S).toNat
theorem ballW_P (S : List Int) (x r : Int) : (ballP S x r).map Prod.fst = ballW S x r := by rw [ballP_map, ballW, selTo_eq]; rfl
theorem sphW_P (S : List Int) (x r : Int) : ((ballP S x r).filter fun p => decide (p.2 = r)).map Prod.fst = sphW S x r := by
  rw [sphW, selTo_eq, ballP]
  induction (List.range (nW S).toNat) with
  | nil => rfl
  | cons u l ih =>
    by_cases e : dist S u x = r
    · simp only [List.filterMap_cons, List.filter_cons, sphB, e, Int.le_refl, if_true, decide_true, List.map_cons, ih]; rfl
    · by_cases e2 : dist S u x ≤ r
      · simp only [List.filterMap_cons, List.filter_cons, sphB, e, e2, if_true, decide_false]; exact ih
      · simp only [List.filterMap_cons, List.filter_cons, sphB, e, e2, if_false, decide_false, ih]; simp [sphB]
theorem ballW_len {S : List Int} (h : Sp S) (x r : Int) : (ballW S x r).length ≤ 1024 := by
  have := selTo_len (ballB S x r) (nW S).toNat
  have := (nW_bd h).2
  unfold ballW; omega
theorem sphW_len {S : List Int} (h : Sp S) (x r : Int) : (sphW S x r).length ≤ 1024 := by
  have := selTo_len (sphB S x r) (nW S).toNat
  have := (nW_bd h).2
  unfold sphW; omega
def vBall (S : List Int) (x r : Int) : List Int := if eBall S x r = 0 then ballW S x r else []
def vSph (S : List Int) (x r : Int) : List Int := if eBall S x r = 0 then sphW S x r else []
theorem vBall_len (S : List Int) (x r : Int) : (vBall S x r).length ≤ 1024 := by
  unfold vBall; split
  · rename_i h; exact ballW_len (eWords1 (eBall_zero h).1).1 x r
  · simp
theorem vSph_len (S : List Int) (x r : Int) : (vSph S x r).length ≤ 1024 := by
  unfold vSph; split
  · rename_i h; exact sphW_len (eWords1 (eBall_zero h).1).1 x r
  · simp

end Cv
end Go.Proofs.YtpmfedllbiblbaaGreat

namespace Go.Proofs.YtpmfedllbiblbaaGreat
set_option linter.unusedVariables false
set_option linter.unusedSimpArgs false
namespace Cv

theorem selTo_bd (p : Nat → Bool) (n t : Nat) (ht : t < (selTo p n).length) : 0 ≤ gi (selTo p n) t ∧ gi (selTo p n) t < n := by
  induction n with
  | zero => simp [selTo] at ht
  | succ n ih =>
    by_cases h : p n = true
    · rw [selTo_yes h] at ht ⊢
      rw [List.length_append] at ht
      by_cases e : t < (selTo p n).length
      · rw [gi_append_lt _ _ _ e]; have := ih e; omega
      · have e2 : t = (selTo p n).length := by simp at ht; omega
        subst e2
        rw [gi_append_ge _ _ _ (Nat.le_refl _)]; simp [gi]; omega
    · have h' : p n = false := by simpa using h
      rw [selTo_no h'] at ht ⊢
      have := ih ht; omega
/-- how many of the first j of a list are u -/
def cntIn (L : List Int) (u : Int) (j : Nat) : Int := cnt (fun t => decide (gi L t = u)) j
theorem cntIn_bd (L : List Int) (u : Int) (j : Nat) : 0 ≤ cntIn L u j ∧ cntIn L u j ≤ j := cnt_bd _ _
theorem cntIn_yes {L : List Int} {u : Int} {j : Nat} (h : gi L j = u) : cntIn L u (j + 1) = cntIn L u j + 1 := by
  unfold cntIn; rw [cnt_at, if_pos (by simpa using h)]
theorem cntIn_no {L : List Int} {u : Int} {j : Nat} (h : ¬ gi L j = u) : cntIn L u (j + 1) = cntIn L u j := by
  unfold cntIn; rw [cnt_at, if_neg (by simpa using h), Int.add_zero]
theorem cntIn_app (L M : List Int) (u : Int) (j : Nat) (h : j ≤ L.length) : cntIn (L ++ M) u j = cntIn L u j := cnt_congr _ _ _ fun i hi => by rw [gi_append_lt _ _ _ (by omega)]
theorem cntIn_sel (p : Nat → Bool) (n u : Nat) : cntIn (selTo p n) u (selTo p n).length = if u < n ∧ p u = true then 1 else 0 := by
  induction n with
  | zero => simp [selTo, cntIn, cnt]
  | succ n ih =>
    by_cases h : p n = true
    · rw [selTo_yes h, List.length_append]
      show cntIn _ _ ((selTo p n).length + 1) = _
      by_cases e : n = u
      · subst e
        rw [cntIn_yes (by rw [gi_append_ge _ _ _ (Nat.le_refl _)]; simp [gi]), cntIn_app _ _ _ _ (Nat.le_refl _), ih, if_neg (by omega), if_pos ⟨by omega, h⟩]; rfl
      · rw [cntIn_no (by rw [gi_append_ge _ _ _ (Nat.le_refl _)]; simp [gi]; omega), cntIn_app _ _ _ _ (Nat.le_refl _), ih]
        have e2 : (u < n ∧ p u = true) ↔ (u < n + 1 ∧ p u = true) := ⟨fun a => ⟨by omega, a.2⟩, fun a => ⟨by omega, a.2⟩⟩
        simp only [e2]
    · have h' : p n = false := by simpa using h
      rw [selTo_no h', ih]
      have e2 : (u < n ∧ p u = true) ↔ (u < n + 1 ∧ p u = true) := ⟨fun a => ⟨by omega, a.2⟩, fun a => ⟨by have : u ≠ n := fun e => (by rw [e, h'] at a; exact absurd a.2 (by simp)); omega, a.2⟩⟩
      simp only [e2]
/-- how often each word is covered -/
def timesL (S C : List Int) (r : Int) : List Int := (List.range (nW S).toNat).map fun (u : Nat) => tcov S C r u C.length
theorem timesL_len (S C : List Int) (r : Int) : (timesL S C r).length = (nW S).toNat := by simp [timesL]
theorem gi_timesL (S C : List Int) (r : Int) (u : Nat) (h : u < (nW S).toNat) : gi (timesL S C r) u = tcov S C r u C.length := by simp [timesL, gi, h]
theorem tcov_ball (S C : List Int) (r : Int) (u k : Nat) (hu : u < (nW S).toNat) : tcov S C r u (k + 1) = tcov S C r u k + cntIn (ballW S (gi C k) r) u (ballW S (gi C k) r).length := by
  unfold ballW
  rw [cntIn_sel]
  by_cases h : dist S u (gi C k) ≤ r
  · rw [tcov_yes _ _ _ _ _ h, if_pos ⟨hu, by simpa [ballB] using h⟩]
  · rw [tcov_no _ _ _ _ _ h, if_neg (fun g => h (by simpa [ballB] using g.2)), Int.add_zero]

end Cv
end Go.Proofs.YtpmfedllbiblbaaGreat

namespace Go.Proofs.YtpmfedllbiblbaaGreat
set_option linter.unusedVariables false
set_option linter.unusedSimpArgs false
namespace Cv

/-- one factor 1 + (q - 1) x more -/
def mulF (q : Int) (f : Nat → Int) : Nat → Int
  | 0 => f 0
  | m + 1 => f (m + 1) + (q - 1) * f m
theorem mulF_comm (p q : Int) (f : Nat → Int) (m : Nat) : mulF p (mulF q f) m = mulF q (mulF p f) m := by
  match m with
  | 0 => rfl
  | 1 => simp only [mulF]; rw [Int.add_assoc, Int.add_assoc, Int.add_comm ((q - 1) * f 0)]
  | m + 2 =>
    simp only [mulF]
    rw [Int.mul_add, Int.mul_add, ← Int.mul_assoc, ← Int.mul_assoc, Int.mul_comm (q - 1) (p - 1)]
    omega
theorem mulF_congr (q : Int) {f g : Nat → Int} (h : ∀ m, f m = g m) (m : Nat) : mulF q f m = mulF q g m := by
  match m with
  | 0 => exact h 0
  | m + 1 => simp only [mulF]; rw [h, h]
/-- the sum of f 0 .. f m -/
def sumF (f : Nat → Int) : Nat → Int
  | 0 => f 0
  | m + 1 => sumF f m + f (m + 1)
theorem sumF_mul (q : Int) (f : Nat → Int) (m : Nat) : sumF (mulF q f) m = mulF q (sumF f) m := by
  induction m with
  | zero => rfl
  | succ m ih =>
    rw [sumF, ih]
    match m with
    | 0 => simp only [mulF, sumF]; omega
    | m + 1 => simp only [mulF, sumF]; rw [Int.mul_add]; omega
theorem sumF_congr {f g : Nat → Int} (h : ∀ m, f m = g m) (m : Nat) : sumF f m = sumF g m := by
  induction m with
  | zero => exact h 0
  | succ m ih => rw [sumF, sumF, ih, h]
def one0 : Nat → Int
  | 0 => 1
  | _ + 1 => 0
theorem sumF_one (m : Nat) : sumF one0 m = 1 := by
  induction m with
  | zero => rfl
  | succ m ih => rw [sumF, ih]; rfl
/-- the coefficients of the first i factors -/
def coef (S : List Int) : Nat → Nat → Int
  | 0 => one0
  | i + 1 => mulF (gi S i) (coef S i)
/-- the coefficients of the last k factors, put to f -/
def coefL (S : List Int) (f : Nat → Int) : Nat → Nat → Int
  | 0 => f
  | k + 1 => mulF (gi S (S.length - 1 - k)) (coefL S f k)
theorem coefL_congr (S : List Int) {f g : Nat → Int} (h : ∀ m, f m = g m) (k m : Nat) : coefL S f k m = coefL S g k m := by
  induction k generalizing m with
  | zero => exact h m
  | succ k ih => exact mulF_congr _ ih m
theorem coefL_mul (S : List Int) (q : Int) (f : Nat → Int) (k m : Nat) : coefL S (mulF q f) k m = mulF q (coefL S f k) m := by
  induction k generalizing m with
  | zero => rfl
  | succ k ih => rw [coefL, mulF_congr _ ih m, mulF_comm]; rfl
theorem coefL_sum (S : List Int) (f : Nat → Int) (k m : Nat) : sumF (coefL S f k) m = coefL S (sumF f) k m := by
  induction k generalizing m with
  | zero => rfl
  | succ k ih => rw [coefL, sumF_mul, mulF_congr _ ih m]; rfl
/-- the first i factors and the last n - i ones are all of them -/
theorem coef_all (S : List Int) (i : Nat) (hi : i ≤ S.length) (m : Nat) : coefL S (coef S i) (S.length - i) m = coefL S one0 S.length m := by
  induction i generalizing m with
  | zero => rfl
  | succ i ih =>
    have h := ih (by omega) m
    have e : S.length - i = (S.length - (i + 1)) + 1 := by omega
    have e2 : S.length - 1 - (S.length - (i + 1)) = i := by omega
    rw [← h, e, coefL, e2, ← coefL_mul]; rfl
theorem coef_L (S : List Int) (m : Nat) : coef S S.length m = coefL S one0 S.length m := by
  have := coef_all S S.length (Nat.le_refl _) m
  rwa [Nat.sub_self] at this

/-- how many words the walk yields: by what is left of the radius -/
theorem flat_len (q x : Nat) (hx : x < q) (g : Nat → List (Int × Int)) (a b : Nat) (ha : (g x).length = a) (hb : ∀ d, d ≠ x → (g d).length = b) : ((List.range q).flatMap g).length = a + (q - 1) * b := by
  have key : ∀ n, n ≤ q → ((List.range n).flatMap g).length = (if x < n then a + (n - 1) * b else n * b) := by
    intro n
    induction n with
    | zero => intro _; simp
    | succ n ih =>
      intro hn
      rw [List.range_succ, List.flatMap_append, List.length_append, ih (by omega)]
      simp only [List.flatMap_cons, List.flatMap_nil, List.append_nil]
      by_cases e : n = x
      · subst e
        rw [if_neg (by omega), if_pos (by omega), ha, Nat.add_sub_cancel]; omega
      · rw [hb n e]
        by_cases h : x < n
        · rw [if_pos h, if_pos (by omega), Nat.add_sub_cancel]
          obtain ⟨n', rfl⟩ : ∃ n', n = n' + 1 := ⟨n - 1, by omega⟩
          rw [Nat.add_sub_cancel, Nat.add_mul]; omega
        · rw [if_neg h, if_neg (by omega), Nat.add_mul]; omega
  rw [key q (Nat.le_refl _), if_pos hx]
theorem walk_count (S : List Int) (h : ∀ i, i < S.length → 2 ≤ gi S i ∧ gi S i ≤ 4) (x : Int) (r : Int) (k : Nat) (hk : k ≤ S.length) (st far : Int) (m : Nat) (hm : far + m = r) :
    ((walkL S x r k st far).length : Int) = coefL S (fun _ => 1) k m := by
  induction k generalizing st far m with
  | zero => simp [walkL, coefL]
  | succ k ih =>
    have hq := h (S.length - 1 - k) (by omega)
    obtain ⟨d1, d2⟩ := dig_bd S x h (S.length - 1 - k) (by omega)
    obtain ⟨e, he⟩ : ∃ e : Nat, dig S x (S.length - 1 - k) = (e : Int) := ⟨(dig S x (S.length - 1 - k)).toNat, by omega⟩
    obtain ⟨q, hqn⟩ : ∃ q : Nat, gi S (S.length - 1 - k) = (q : Int) := ⟨(gi S (S.length - 1 - k)).toNat, by omega⟩
    have heq : e < q := by omega
    rw [walkL_succ, hqn]
    have hsame : (walkD S x r k st far e).length = ((coefL S (fun _ => 1) k m).toNat) := by
      have c0 : cost S x k (e : Int) = 0 := cost_eq he.symm
      rw [walkD_yes (by rw [c0]; omega), c0]
      have := ih (by omega) (st * gi S (S.length - 1 - k) + (e : Int)) (far + 0) m (by omega)
      omega
    match m with
    | 0 =>
      have hoth : ∀ d : Nat, d ≠ e → (walkD S x r k st far d).length = 0 := fun d hd => by
        have c1 : cost S x k (d : Int) = 1 := cost_ne (by rw [he]; omega)
        rw [walkD_no (by rw [c1]; omega)]; rfl
      have hz := ih (by omega) 0 far 0 (by omega)
      show (((List.range ((q : Int)).toNat).flatMap (walkD S x r k st far)).length : Int) = _
      rw [Int.toNat_natCast, flat_len q e heq _ _ _ hsame hoth]
      simp only [coefL, mulF]
      omega
    | m + 1 =>
      have hoth : ∀ d : Nat, d ≠ e → (walkD S x r k st far d).length = (coefL S (fun _ => 1) k m).toNat := fun d hd => by
        have c1 : cost S x k (d : Int) = 1 := cost_ne (by rw [he]; omega)
        rw [walkD_yes (by rw [c1]; omega), c1]
        have := ih (by omega) (st * gi S (S.length - 1 - k) + (d : Int)) (far + 1) m (by omega)
        omega
      have hz := ih (by omega) 0 far (m + 1) (by omega)
      have hz2 := ih (by omega) 0 (far + 1) m (by omega)
      show (((List.range ((q : Int)).toNat).flatMap (walkD S x r k st far)).length : Int) = _
      rw [Int.toNat_natCast, flat_len q e heq _ _ _ hsame hoth]
      simp only [coefL, mulF, hqn]
      have e1 : ((q - 1 : Nat) : Int) = (q : Int) - 1 := by omega
      rw [Int.natCast_add, Int.natCast_mul, e1, Int.toNat_of_nonneg (by omega), Int.toNat_of_nonneg (by omega)]
/-- the number of words of a ball is the sum of the coefficients up to r -/
theorem ball_count (S : List Int) (h : ∀ i, i < S.length → 2 ≤ gi S i ∧ gi S i ≤ 4) (x : Int) (r : Nat) : ((ballP S x r).length : Int) = sumF (coef S S.length) r := by
  rw [← walk_ball S h x r (by omega), walk_count S h x r S.length (Nat.le_refl _) 0 0 r (by omega), sumF_congr (coef_L S) r, coefL_sum]
  exact coefL_congr S (fun m => (sumF_one m).symm) _ _

theorem coef_zero (S : List Int) (i k : Nat) (h : i < k) : coef S i k = 0 := by
  induction i generalizing k with
  | zero => obtain ⟨k, rfl⟩ : ∃ j, k = j + 1 := ⟨k - 1, by omega⟩
            rfl
  | succ i ih =>
    obtain ⟨k, rfl⟩ : ∃ j, k = j + 1 := ⟨k - 1, by omega⟩
    simp only [coef, mulF]
    rw [ih (k + 1) (by omega), ih k (by omega)]; simp
theorem coef_bd (S : List Int) (i : Nat) (h : ∀ j, j < i → 2 ≤ gi S j ∧ gi S j ≤ 4) (k : Nat) : 0 ≤ coef S i k ∧ coef S i k ≤ 4 ^ i := by
  induction i generalizing k with
  | zero => match k with
            | 0 => simp [coef, one0]
            | k + 1 => simp [coef, one0]
  | succ i ih =>
    have hq := h i (by omega)
    have h4 : (4 : Int) ^ (i + 1) = 4 ^ i * 4 := by rw [Int.pow_succ]
    match k with
    | 0 => simp only [coef, mulF]; have := ih (fun j hj => h j (by omega)) 0; omega
    | k + 1 =>
      simp only [coef, mulF]
      have h1 := ih (fun j hj => h j (by omega)) (k + 1)
      have h2 := ih (fun j hj => h j (by omega)) k
      have h3 : 0 ≤ (gi S i - 1) * coef S i k := Int.mul_nonneg (by omega) h2.1
      have h5 : (gi S i - 1) * coef S i k ≤ 3 * coef S i k := Int.mul_le_mul_of_nonneg_right (by omega) h2.1
      omega
theorem coef_le (S : List Int) (i : Nat) (h : ∀ j, j < i → 2 ≤ gi S j ∧ gi S j ≤ 4) (hi : i ≤ 8) (k : Nat) : 0 ≤ coef S i k ∧ coef S i k ≤ 65536 := by
  have := coef_bd S i h k
  have h2 : (4 : Int) ^ i ≤ 65536 := by
    have : i = 0 ∨ i = 1 ∨ i = 2 ∨ i = 3 ∨ i = 4 ∨ i = 5 ∨ i = 6 ∨ i = 7 ∨ i = 8 := by omega
    rcases this with rfl | rfl | rfl | rfl | rfl | rfl | rfl | rfl | rfl <;> decide
  omega
/-- the sum of the first k -/
def sumB (f : Nat → Int) : Nat → Int
  | 0 => 0
  | k + 1 => sumB f k + f k
theorem sumB_F (f : Nat → Int) (m : Nat) : sumB f (m + 1) = sumF f m := by
  induction m with
  | zero => simp [sumB, sumF]
  | succ m ih => rw [sumB, ih]; rfl
theorem sumB_zero (f : Nat → Int) (n m : Nat) (h : ∀ k, n ≤ k → f k = 0) (hm : n ≤ m) : sumB f m = sumB f n := by
  induction m with
  | zero => obtain rfl : n = 0 := by omega
            rfl
  | succ m ih =>
    by_cases e : n = m + 1
    · rw [e]
    · rw [sumB, ih (by omega), h m (by omega), Int.add_zero]
theorem sumB_bd (f : Nat → Int) (b : Int) (h : ∀ k, 0 ≤ f k ∧ f k ≤ b) (k : Nat) : 0 ≤ sumB f k ∧ sumB f k ≤ k * b := by
  induction k with
  | zero => simp [sumB]
  | succ k ih =>
    have := h k
    rw [sumB]
    have e : ((k + 1 : Nat) : Int) * b = (k : Int) * b + b := by rw [Int.natCast_add, Int.add_mul]; simp
    omega
/-- the number of words of a ball -/
def sizeN (S : List Int) (r : Int) : Int := sumF (coef S S.length) r.toNat
theorem sizeN_B (S : List Int) (r : Int) (hr : 0 ≤ r) (k : Nat) (hk : k = S.length + 1 ∧ (k : Int) ≤ r + 1 ∨ (k : Int) = r + 1) : sumB (coef S S.length) k = sizeN S r := by
  unfold sizeN
  rw [← sumB_F]
  rcases hk with ⟨rfl, h⟩ | h
  · exact (sumB_zero _ _ _ (fun j hj => coef_zero S S.length j (by omega)) (by omega)).symm
  · rw [show k = r.toNat + 1 by omega]
def vSize (S : List Int) (r : Int) : Int := if eBall S 0 r = 0 then sizeN S r else 0
/-- a row's step -/
theorem coef_step (S : List Int) (i j : Nat) : coef S (i + 1) (j + 1) = coef S i (j + 1) + coef S i j * (gi S i - 1) := by
  show coef S i (j + 1) + (gi S i - 1) * coef S i j = _
  rw [Int.mul_comm]

end Cv
end Go.Proofs.YtpmfedllbiblbaaGreat

namespace Go.Proofs.YtpmfedllbiblbaaGreat
set_option linter.unusedVariables false
set_option linter.unusedSimpArgs false
namespace Cv

/-- how often word u is covered -/
def tAt (S C : List Int) (r : Int) (u : Nat) : Int := tcov S C r u C.length
theorem tAt_bd (S C : List Int) (r : Int) (u : Nat) : 0 ≤ tAt S C r u ∧ tAt S C r u ≤ C.length := tcov_bd S C r u C.length
theorem gi_timesA (S C : List Int) (r : Int) (u : Nat) (h : u < (nW S).toNat) : gi (timesL S C r) u = tAt S C r u := gi_timesL S C r u h
/-- the sum of f u - 1 over the first k -/
def exS (f : Nat → Int) : Nat → Int
  | 0 => 0
  | k + 1 => exS f k + (f k - 1)
theorem exS_bd (f : Nat → Int) (b : Int) (hb : 0 ≤ b) (h : ∀ u, 0 ≤ f u ∧ f u ≤ b) (k : Nat) : -(k : Int) ≤ exS f k ∧ exS f k ≤ k * b := by
  induction k with
  | zero => simp [exS]
  | succ k ih =>
    have := h k
    have e : ((k + 1 : Nat) : Int) * b = (k : Int) * b + b := by rw [Int.natCast_add, Int.add_mul]; simp
    rw [exS]; omega
/-- is one of the first k not covered? -/
def zTo (f : Nat → Int) : Nat → Bool
  | 0 => false
  | k + 1 => zTo f k || decide (f k = 0)
theorem zTo_iff (f : Nat → Int) (k : Nat) : zTo f k = true ↔ ∃ u, u < k ∧ f u = 0 := by
  induction k with
  | zero => simp [zTo]
  | succ k ih =>
    simp only [zTo, Bool.or_eq_true, ih, decide_eq_true_eq]
    constructor
    · rintro (⟨u, h1, h2⟩ | h)
      · exact ⟨u, by omega, h2⟩
      · exact ⟨k, by omega, h⟩
    · rintro ⟨u, h1, h2⟩
      by_cases e : u = k
      · subst e; exact .inr h2
      · exact .inl ⟨u, by omega, h2⟩
theorem zTo_at {f : Nat → Int} {k n : Nat} (hk : k < n) (h : f k = 0) : zTo f n = true := (zTo_iff f n).2 ⟨k, hk, h⟩
theorem zTo_none {f : Nat → Int} {n : Nat} (h : ∀ u, u < n → f u ≠ 0) : zTo f n = false := by
  cases e : zTo f n with
  | false => rfl
  | true => obtain ⟨u, h1, h2⟩ := (zTo_iff f n).1 e; exact absurd h2 (h u h1)
def eExc (S C : List Int) (r : Int) : Int := if eCov S C r = 0 then (if zTo (tAt S C r) (nW S).toNat = true then 5 else 0) else eCov S C r
def vExc (S C : List Int) (r : Int) : Int := if eCov S C r = 0 ∧ zTo (tAt S C r) (nW S).toNat = false then exS (tAt S C r) (nW S).toNat else 0
theorem exc_bad {S C : List Int} {r : Int} (h : eCov S C r ≠ 0) : eExc S C r = eCov S C r ∧ vExc S C r = 0 := ⟨by unfold eExc; rw [if_neg h], by unfold vExc; rw [if_neg (fun g => h g.1)]⟩
theorem exc_zero {S C : List Int} {r : Int} (h : eCov S C r = 0) (hz : zTo (tAt S C r) (nW S).toNat = true) : eExc S C r = 5 ∧ vExc S C r = 0 := ⟨by unfold eExc; rw [if_pos h, if_pos hz], by unfold vExc; rw [if_neg (fun g => by rw [hz] at g; cases g.2)]⟩
theorem exc_ok {S C : List Int} {r : Int} (h : eCov S C r = 0) (hz : zTo (tAt S C r) (nW S).toNat = false) : eExc S C r = 0 ∧ vExc S C r = exS (tAt S C r) (nW S).toNat := ⟨by unfold eExc; rw [if_pos h, if_neg (by simp [hz])], by unfold vExc; rw [if_pos ⟨h, hz⟩]⟩
/-- numbers of words by how often they are covered, of the first k -/
def covTo (f : Nat → Int) (n : Nat) : Nat → List Int
  | 0 => List.replicate n 0
  | k + 1 => bump (covTo f n k) (f k)
theorem covTo_len (f : Nat → Int) (n k : Nat) : (covTo f n k).length = n := by
  induction k with
  | zero => simp [covTo]
  | succ k ih => rw [covTo, bump_len, ih]
theorem covTo_bd (f : Nat → Int) (n k j : Nat) : 0 ≤ gi (covTo f n k) j ∧ gi (covTo f n k) j ≤ k := by
  induction k generalizing j with
  | zero => simp [covTo, gi_rep0]
  | succ k ih =>
    have := bump_bd (covTo f n k) (f k) k ih j
    rw [covTo]; omega
def vCov (S C : List Int) (r : Int) : List Int := if eCov S C r = 0 then covTo (tAt S C r) (C.length + 1) (nW S).toNat else []
theorem vCov_len (S C : List Int) (r : Int) : (vCov S C r).length ≤ 1025 := by
  unfold vCov
  split
  · rename_i h
    obtain ⟨a, b, c⟩ := eCode_zero (eCov_zero h).1
    have := code_len a b c
    rw [covTo_len]; omega
  · simp

end Cv
end Go.Proofs.YtpmfedllbiblbaaGreat

namespace Go.Proofs.YtpmfedllbiblbaaGreat
set_option linter.unusedVariables false
set_option linter.unusedSimpArgs false
namespace Cv

/-- a strictly ascending list -/
def Asc (L : List Int) : Prop := L.Pairwise (· < ·)
theorem asc_nil : Asc [] := List.Pairwise.nil
/-- ascending lists of the same numbers are one list -/
theorem asc_ext : ∀ {L M : List Int}, Asc L → Asc M → (∀ x, x ∈ L ↔ x ∈ M) → L = M
  | [], [], _, _, _ => rfl
  | [], b :: M, _, _, h => by have := (h b).2 (by simp); simp at this
  | a :: L, [], _, _, h => by have := (h a).1 (by simp); simp at this
  | a :: L, b :: M, hL, hM, h => by
    obtain ⟨h1, h2⟩ := List.pairwise_cons.1 hL
    obtain ⟨h3, h4⟩ := List.pairwise_cons.1 hM
    have e : a = b := by
      have ha := (h a).1 (by simp)
      have hb := (h b).2 (by simp)
      simp only [List.mem_cons] at ha hb
      rcases ha with ha | ha
      · exact ha
      · rcases hb with hb | hb
        · exact hb.symm
        · have := h3 a ha; have := h1 b hb; omega
    subst e
    congr 1
    refine asc_ext h2 h4 fun x => ?_
    have hx := h x
    simp only [List.mem_cons] at hx
    constructor
    · intro m
      rcases hx.1 (.inr m) with e | e
      · subst e; have := h1 x m; omega
      · exact e
    · intro m
      rcases hx.2 (.inr m) with e | e
      · subst e; have := h3 x m; omega
      · exact e
theorem asc_lt {L : List Int} (h : Asc L) {i j : Nat} (hij : i < j) (hj : j < L.length) : gi L i < gi L j := by
  rw [gi_lt L i (by omega), gi_lt L j hj]
  exact List.pairwise_iff_getElem.1 h i j (by omega) hj hij
theorem asc_of {L : List Int} (h : ∀ i, 0 < i → i < L.length → gi L (i - 1) < gi L i) : Asc L := by
  have key : ∀ d i, i + d + 1 < L.length → gi L i < gi L (i + d + 1) := by
    intro d
    induction d with
    | zero => intro i hi; have := h (i + 1) (by omega) (by omega); simpa using this
    | succ d ih =>
      intro i hi
      have a := ih i (by omega)
      have b := h (i + (d + 1) + 1) (by omega) hi
      have e : i + (d + 1) + 1 - 1 = i + d + 1 := by omega
      rw [e] at b; omega
  refine List.pairwise_iff_getElem.2 fun i j hi hj hij => ?_
  rw [← gi_lt L i hi, ← gi_lt L j hj]
  have := key (j - i - 1) i (by omega)
  have e : i + (j - i - 1) + 1 = j := by omega
  rwa [e] at this
theorem asc_code {S C : List Int} (h : eCode S C = 0) : Asc C := asc_of (eCode_zero h).2.2
theorem gi_mem {L : List Int} {i : Nat} (h : i < L.length) : gi L i ∈ L := by rw [gi_lt L i h]; exact List.getElem_mem h
theorem mem_gi {L : List Int} {x : Int} (h : x ∈ L) : ∃ i, i < L.length ∧ gi L i = x := by
  obtain ⟨i, hi, e⟩ := List.getElem_of_mem h
  exact ⟨i, hi, by rw [gi_lt L i hi]; exact e⟩

/-- where a number is put: behind the last one that is not greater, among the first n -/
def putAt (L : List Int) (x : Int) : Nat → Nat
  | 0 => 0
  | n + 1 => if x < gi L n then putAt L x n else n + 1
theorem putAt_le (L : List Int) (x : Int) (n : Nat) : putAt L x n ≤ n := by
  induction n with
  | zero => exact Nat.le_refl _
  | succ n ih => rw [putAt]; split <;> omega
theorem putAt_gt {L : List Int} {x : Int} {n : Nat} (h : x < gi L n) : putAt L x (n + 1) = putAt L x n := by rw [putAt, if_pos h]
theorem putAt_here {L : List Int} {x : Int} {n : Nat} (h : ¬ x < gi L n) : putAt L x (n + 1) = n + 1 := by rw [putAt, if_neg h]
theorem putAt_behind (L : List Int) (x : Int) (n : Nat) : ∀ j, putAt L x n ≤ j → j < n → x < gi L j := by
  induction n with
  | zero => intro j _ h; omega
  | succ n ih =>
    intro j h1 h2
    by_cases h : x < gi L n
    · rw [putAt_gt h] at h1
      by_cases e : j = n
      · subst e; exact h
      · exact ih j h1 (by omega)
    · rw [putAt_here h] at h1; omega
theorem putAt_ahead (L : List Int) (x : Int) (n : Nat) : 0 < putAt L x n → gi L (putAt L x n - 1) ≤ x := by
  induction n with
  | zero => intro h; simp [putAt] at h
  | succ n ih =>
    by_cases h : x < gi L n
    · rw [putAt_gt h]; exact ih
    · rw [putAt_here h]; intro _; simp; omega
/-- a list with one number more -/
def putL (L : List Int) (x : Int) : List Int :=
  if 0 < putAt L x L.length ∧ gi L (putAt L x L.length - 1) = x then L
  else L.take (putAt L x L.length) ++ [x] ++ L.drop (putAt L x L.length)
theorem putL_len (L : List Int) (x : Int) : L.length ≤ (putL L x).length ∧ (putL L x).length ≤ L.length + 1 := by
  have := putAt_le L x L.length
  unfold putL
  split
  · omega
  · simp; omega
theorem mem_putL (L : List Int) (x y : Int) : y ∈ putL L x ↔ y ∈ L ∨ y = x := by
  have hle := putAt_le L x L.length
  unfold putL
  split
  · rename_i h
    refine ⟨.inl, fun h' => ?_⟩
    rcases h' with h' | h'
    · exact h'
    · rw [h', ← h.2]; exact gi_mem (by omega)
  · have e : y ∈ L ↔ y ∈ L.take (putAt L x L.length) ∨ y ∈ L.drop (putAt L x L.length) := by
      rw [← List.mem_append, List.take_append_drop]
    rw [e]
    simp only [List.mem_append, List.mem_cons, List.not_mem_nil, or_false]
    constructor
    · rintro ((h | h) | h)
      · exact .inl (.inl h)
      · exact .inr h
      · exact .inl (.inr h)
    · rintro ((h | h) | h)
      · exact .inl (.inl h)
      · exact .inr h
      · exact .inl (.inr h)
theorem asc_putL {L : List Int} (h : Asc L) (x : Int) : Asc (putL L x) := by
  have hle := putAt_le L x L.length
  have hb := putAt_behind L x L.length
  have ha := putAt_ahead L x L.length
  unfold putL
  generalize putAt L x L.length = k at hle hb ha ⊢
  split
  · exact h
  · rename_i hn
    have hx : ∀ j, j < k → gi L j < x := by
      intro j hj
      have h1 := ha (by omega)
      have h2 : gi L (k - 1) ≠ x := fun e => hn ⟨by omega, e⟩
      by_cases e : j = k - 1
      · subst e; omega
      · have := asc_lt h (i := j) (j := k - 1) (by omega) (by omega); omega
    have p : (L.take k ++ L.drop k).Pairwise (· < ·) := by rw [List.take_append_drop]; exact h
    obtain ⟨p1, p2, p3⟩ := List.pairwise_append.1 p
    have q1 : ∀ a ∈ L.take k, a < x := by
      intro a hm
      obtain ⟨j, hj, e⟩ := mem_gi hm
      rw [List.length_take] at hj
      rw [gi_take L k j (by omega)] at e
      have := hx j (by omega); omega
    have q2 : ∀ b ∈ L.drop k, x < b := by
      intro b hm
      obtain ⟨j, hj, e⟩ := mem_gi hm
      rw [List.length_drop] at hj
      have e2 : gi (L.drop k) j = gi L (k + j) := by simp [gi]
      rw [e2] at e
      have := hb (k + j) (by omega) (by omega); omega
    refine List.pairwise_append.2 ⟨List.pairwise_append.2 ⟨p1, List.pairwise_singleton _ _, ?_⟩, p2, ?_⟩
    · intro a hm b hb'
      simp only [List.mem_cons, List.not_mem_nil, or_false] at hb'
      subst hb'; exact q1 a hm
    · intro a hm b hb'
      rcases List.mem_append.1 hm with hm | hm
      · exact p3 a hm b hb'
      · simp only [List.mem_cons, List.not_mem_nil, or_false] at hm
        subst hm; exact q2 b hb'
/-- numbers put into a list, one after the other -/
def putTo (L : List Int) (f : Nat → Int) : Nat → List Int
  | 0 => L
  | k + 1 => putL (putTo L f k) (f k)
theorem putTo_len (L : List Int) (f : Nat → Int) (k : Nat) : (putTo L f k).length ≤ L.length + k := by
  induction k with
  | zero => exact Nat.le_refl _
  | succ k ih => rw [putTo]; have := (putL_len (putTo L f k) (f k)).2; omega
theorem asc_putTo {L : List Int} (h : Asc L) (f : Nat → Int) (k : Nat) : Asc (putTo L f k) := by
  induction k with
  | zero => exact h
  | succ k ih => exact asc_putL ih _
theorem mem_putTo (L : List Int) (f : Nat → Int) (k : Nat) (y : Int) : y ∈ putTo L f k ↔ y ∈ L ∨ ∃ i, i < k ∧ y = f i := by
  induction k with
  | zero => simp [putTo]
  | succ k ih =>
    rw [putTo, mem_putL, ih]
    constructor
    · rintro ((h | ⟨i, hi, e⟩) | h)
      · exact .inl h
      · exact .inr ⟨i, by omega, e⟩
      · exact .inr ⟨k, by omega, h⟩
    · rintro (h | ⟨i, hi, e⟩)
      · exact .inl (.inl h)
      · by_cases e2 : i = k
        · subst e2; exact .inr e
        · exact .inl (.inr ⟨i, by omega, e⟩)

/-- the numbers below n that have p, ascending -/
def selL (p : Nat → Bool) (n : Nat) : List Int := ((List.range n).filter p).map fun (i : Nat) => (i : Int)
theorem selL_len (p : Nat → Bool) (n : Nat) : (selL p n).length ≤ n := by
  unfold selL
  rw [List.length_map]
  have := List.length_filter_le p (List.range n)
  simpa using this
theorem mem_selL (p : Nat → Bool) (n : Nat) (x : Int) : x ∈ selL p n ↔ ∃ i, i < n ∧ p i = true ∧ (i : Int) = x := by
  simp only [selL, List.mem_map, List.mem_filter, List.mem_range]
  constructor
  · rintro ⟨i, ⟨h1, h2⟩, e⟩; exact ⟨i, h1, h2, e⟩
  · rintro ⟨i, h1, h2, e⟩; exact ⟨i, ⟨h1, h2⟩, e⟩
theorem asc_selL (p : Nat → Bool) (n : Nat) : Asc (selL p n) := by
  have h : ((List.range n).filter p).Pairwise (· < ·) := List.Pairwise.filter p List.pairwise_lt_range
  exact List.Pairwise.map _ (fun a b h => by omega) h
theorem selL_succ (p : Nat → Bool) (n : Nat) : selL p (n + 1) = selL p n ++ if p n = true then [(n : Int)] else [] := by
  unfold selL
  rw [List.range_succ, List.filter_append, List.map_append]
  congr 1
  by_cases h : p n = true
  · simp [h]
  · simp [h]
theorem selL_congr {p q : Nat → Bool} {n : Nat} (h : ∀ i, i < n → p i = q i) : selL p n = selL q n := by
  unfold selL
  congr 1
  exact List.filter_congr fun i hi => h i (List.mem_range.1 hi)
/-- whether a number is in a list -/
def inL (C : List Int) (u : Nat) : Bool := decide ((u : Int) ∈ C)

end Cv
end Go.Proofs.YtpmfedllbiblbaaGreat

namespace Go.Proofs.YtpmfedllbiblbaaGreat
set_option linter.unusedVariables false
set_option linter.unusedSimpArgs false
namespace Cv

/-- the error of a space and two codes of it -/
def eTwo (S C D : List Int) : Int := if eCode S C = 0 then eCode S D else eCode S C
theorem eTwo_zero {S C D : List Int} (h : eTwo S C D = 0) : eCode S C = 0 ∧ eCode S D = 0 := by
  unfold eTwo at h
  split at h
  · rename_i h1; exact ⟨h1, h⟩
  · rename_i h1; exact absurd h h1
theorem eTwo_ok {S C D : List Int} (h : eCode S C = 0) : eTwo S C D = eCode S D := by unfold eTwo; rw [if_pos h]
theorem eTwo_bad {S C D : List Int} (h : eCode S C ≠ 0) : eTwo S C D = eCode S C := by unfold eTwo; rw [if_neg h]
/-- the words of one of two codes -/
def togL (S C D : List Int) : List Int := selL (fun u => inL C u || inL D u) (nW S).toNat
def vTog (S C D : List Int) : List Int := if eTwo S C D = 0 then togL S C D else []
theorem togL_put {S C D : List Int} (h : eTwo S C D = 0) : putTo C (gi D) D.length = togL S C D := by
  obtain ⟨h1, h2⟩ := eTwo_zero h
  obtain ⟨hs, c1, c2⟩ := eCode_zero h1
  obtain ⟨_, d1, d2⟩ := eCode_zero h2
  refine asc_ext (asc_putTo (asc_code h1) _ _) (asc_selL _ _) fun y => ?_
  rw [mem_putTo]
  unfold togL
  rw [mem_selL]
  simp only [inL, Bool.or_eq_true, decide_eq_true_eq]
  constructor
  · rintro (hm | ⟨i, hi, e⟩)
    · obtain ⟨j, hj, e⟩ := mem_gi hm
      have b := c1 j hj
      rw [e] at b
      exact ⟨y.toNat, by omega, .inl (by rw [Int.toNat_of_nonneg b.1]; exact hm), by omega⟩
    · have b := d1 i hi
      rw [← e] at b
      exact ⟨y.toNat, by omega, .inr (by rw [Int.toNat_of_nonneg b.1, e]; exact gi_mem hi), by omega⟩
  · rintro ⟨i, hi, hm | hm, e⟩
    · exact .inl (e ▸ hm)
    · obtain ⟨j, hj, e2⟩ := mem_gi hm
      exact .inr ⟨j, hj, by rw [e2, e]⟩
theorem vTog_len (S C D : List Int) : (vTog S C D).length ≤ 1024 := by
  unfold vTog
  split
  · rename_i h
    have := selL_len (fun u => inL C u || inL D u) (nW S).toNat
    have := nW_bd (eCode_zero (eTwo_zero h).1).1
    unfold togL; omega
  · simp

/-- the words among the first k of a code that are in another one -/
def comTo (C D : List Int) : Nat → List Int
  | 0 => []
  | k + 1 => comTo C D k ++ if gi C k ∈ D then [gi C k] else []
theorem comTo_len (C D : List Int) (k : Nat) : (comTo C D k).length ≤ k := by
  induction k with
  | zero => simp [comTo]
  | succ k ih => rw [comTo]; split <;> simp <;> omega
theorem comTo_filter (C D : List Int) (k : Nat) (hk : k ≤ C.length) : comTo C D k = (C.take k).filter fun x => decide (x ∈ D) := by
  induction k with
  | zero => simp [comTo]
  | succ k ih =>
    rw [comTo, ih (by omega), take_snoc C k (by omega), List.filter_append]
    congr 1
    by_cases h : gi C k ∈ D <;> simp [h]
def vCom (S C D : List Int) : List Int := if eTwo S C D = 0 then comTo C D C.length else []
theorem vCom_filter {S C D : List Int} (h : eTwo S C D = 0) : vCom S C D = C.filter fun x => decide (x ∈ D) := by
  unfold vCom
  rw [if_pos h, comTo_filter C D _ (Nat.le_refl _), List.take_length]
theorem code_len0 {S C : List Int} (h : eCode S C = 0) : C.length ≤ 1024 := by
  obtain ⟨hs, c1, c2⟩ := eCode_zero h
  have := nW_bd hs
  by_cases e : C.length = 0
  · omega
  · have := code_ge c1 c2 (C.length - 1) (by omega)
    have := c1 (C.length - 1) (by omega)
    omega
theorem vCom_len (S C D : List Int) : (vCom S C D).length ≤ 1024 := by
  unfold vCom
  split
  · rename_i h
    have := comTo_len C D C.length
    have := code_len0 (eTwo_zero h).1
    omega
  · simp

/-- the error of two spaces and a code of each -/
def eDs (S C X O : List Int) : Int :=
  if isSp S = true ∧ isSp X = true then (if eCode S C = 0 then (if eCode X O = 0 then (if isSp (S ++ X) = true then 0 else 3) else eCode X O) else eCode S C) else 1
theorem eDs_inv {S C X O : List Int} (h : ¬ (isSp S = true ∧ isSp X = true)) : eDs S C X O = 1 := by unfold eDs; rw [if_neg h]
theorem eDs_c1 {S C X O : List Int} (h1 : isSp S = true) (h2 : isSp X = true) (h : eCode S C ≠ 0) : eDs S C X O = eCode S C := by unfold eDs; rw [if_pos ⟨h1, h2⟩, if_neg h]
theorem eDs_c2 {S C X O : List Int} (h1 : isSp S = true) (h2 : isSp X = true) (h3 : eCode S C = 0) (h : eCode X O ≠ 0) : eDs S C X O = eCode X O := by unfold eDs; rw [if_pos ⟨h1, h2⟩, if_pos h3, if_neg h]
theorem eDs_big {S C X O : List Int} (h1 : isSp S = true) (h2 : isSp X = true) (h3 : eCode S C = 0) (h4 : eCode X O = 0) (h : isSp (S ++ X) = false) : eDs S C X O = 3 := by unfold eDs; rw [if_pos ⟨h1, h2⟩, if_pos h3, if_pos h4, if_neg (by simp [h])]
theorem eDs_ok {S C X O : List Int} (h1 : isSp S = true) (h2 : isSp X = true) (h3 : eCode S C = 0) (h4 : eCode X O = 0) (h : isSp (S ++ X) = true) : eDs S C X O = 0 := by unfold eDs; rw [if_pos ⟨h1, h2⟩, if_pos h3, if_pos h4, if_pos h]
theorem eCode_sp {S C : List Int} (h : isSp S = true) (hc : eCode S C ≠ 0) : eCode S C = 2 := by
  unfold eCode at hc ⊢
  rw [if_pos h] at hc ⊢
  split
  · rename_i h2; rw [if_pos h2] at hc; exact absurd rfl hc
  · rfl
theorem eDs_zero {S C X O : List Int} (h : eDs S C X O = 0) : isSp S = true ∧ isSp X = true ∧ eCode S C = 0 ∧ eCode X O = 0 ∧ isSp (S ++ X) = true := by
  unfold eDs at h
  split at h
  · rename_i h1
    split at h
    · rename_i h2
      split at h
      · rename_i h3
        split at h
        · rename_i h4; exact ⟨h1.1, h1.2, h2, h3, h4⟩
        · simp at h
      · rename_i h3; exact absurd h h3
    · rename_i h2; exact absurd h h2
  · simp at h
/-- the words of the sums of the first k words of a code -/
def dsTo (C O : List Int) (n : Int) : Nat → List Int
  | 0 => []
  | k + 1 => dsTo C O n k ++ O.map fun y => gi C k * n + y
theorem dsTo_len (C O : List Int) (n : Int) (k : Nat) : (dsTo C O n k).length = k * O.length := by
  induction k with
  | zero => simp [dsTo]
  | succ k ih => rw [dsTo, List.length_append, ih, List.length_map, Nat.succ_mul]
/-- .. and of the next one with the first j words of the other code -/
def dsIn (C O : List Int) (n : Int) (k j : Nat) : List Int := dsTo C O n k ++ (O.take j).map fun y => gi C k * n + y
theorem dsIn_zero (C O : List Int) (n : Int) (k : Nat) : dsIn C O n k 0 = dsTo C O n k := by simp [dsIn]
theorem dsIn_succ (C O : List Int) (n : Int) (k j : Nat) (h : j < O.length) : dsIn C O n k (j + 1) = dsIn C O n k j ++ [gi C k * n + gi O j] := by
  unfold dsIn
  rw [take_snoc O j h, List.map_append, List.append_assoc]; rfl
theorem dsIn_all (C O : List Int) (n : Int) (k : Nat) : dsIn C O n k O.length = dsTo C O n (k + 1) := by
  unfold dsIn; rw [List.take_length]; rfl
theorem dsIn_len (C O : List Int) (n : Int) (k j : Nat) (hk : k < 1024) (ho : O.length ≤ 1024) (hj : j ≤ O.length) : (dsIn C O n k j).length ≤ 1048576 := by
  unfold dsIn
  rw [List.length_append, dsTo_len, List.length_map, List.length_take]
  have : k * O.length ≤ 1023 * 1024 := Nat.mul_le_mul (by omega) ho
  omega
def vDsS (S C X O : List Int) : List Int := if eDs S C X O = 0 then S ++ X else []
def vDsC (S C X O : List Int) : List Int := if eDs S C X O = 0 then dsTo C O (nW X) C.length else []
theorem vDsS_len (S C X O : List Int) : (vDsS S C X O).length ≤ 8 := by
  unfold vDsS
  split
  · rename_i h
    exact ((isSp_iff _).1 (eDs_zero h).2.2.2.2).hi
  · simp
theorem vDsC_len (S C X O : List Int) : (vDsC S C X O).length ≤ 1048576 := by
  unfold vDsC
  split
  · rename_i h
    obtain ⟨_, _, h3, h4, _⟩ := eDs_zero h
    rw [dsTo_len]
    exact Nat.mul_le_mul (code_len0 h3) (code_len0 h4)
  · simp

end Cv
end Go.Proofs.YtpmfedllbiblbaaGreat

namespace Go.Proofs.YtpmfedllbiblbaaGreat
set_option linter.unusedVariables false
set_option linter.unusedSimpArgs false
namespace Cv

theorem wordTo_inj {S D E : List Int} (n : Nat) (hS : ∀ i, i < n → 2 ≤ gi S i ∧ gi S i ≤ 4) (hD : ∀ i, i < n → 0 ≤ gi D i ∧ gi D i < gi S i) (hE : ∀ i, i < n → 0 ≤ gi E i ∧ gi E i < gi S i)
    (h : wordTo S D n = wordTo S E n) : ∀ i, i < n → gi D i = gi E i := by
  induction n with
  | zero => intro i hi; omega
  | succ n ih =>
    simp only [wordTo] at h
    have s := hS n (by omega)
    have d := hD n (by omega)
    have e := hE n (by omega)
    have h1 : gi D n = gi E n := by
      have a : (wordTo S D n * gi S n + gi D n) % gi S n = gi D n := by
        rw [Int.add_comm, Int.add_mul_emod_self_right]; exact Int.emod_eq_of_lt d.1 d.2
      have b : (wordTo S E n * gi S n + gi E n) % gi S n = gi E n := by
        rw [Int.add_comm, Int.add_mul_emod_self_right]; exact Int.emod_eq_of_lt e.1 e.2
      rw [← a, h, b]
    have h2 : wordTo S D n = wordTo S E n := by
      have : wordTo S D n * gi S n = wordTo S E n * gi S n := by omega
      exact Int.eq_of_mul_eq_mul_right (by omega) this
    intro i hi
    by_cases e2 : i = n
    · subst e2; exact h1
    · exact ih (fun i hi => hS i (by omega)) (fun i hi => hD i (by omega)) (fun i hi => hE i (by omega)) h2 i (by omega)
theorem sumW_inj {S : List Int} (hS : Sp S) {u v x : Int} (hu : 0 ≤ u ∧ u < nW S) (hv : 0 ≤ v ∧ v < nW S) (h : sumW S u x = sumW S v x) : u = v := by
  have key : ∀ i, i < S.length → gi (sumD S (digs S u) (digs S x)) i = gi (sumD S (digs S v) (digs S x)) i := by
    refine wordTo_inj S.length hS.bd ?_ ?_ h
    all_goals
      intro i hi
      have s := hS.bd i hi
      rw [gi_sumD _ _ _ _ hi]
      exact ⟨Int.emod_nonneg _ (by omega), Int.emod_lt_of_pos _ (by omega)⟩
  have hd : digs S u = digs S v := by
    refine ext_gi (by rw [digs_length, digs_length]) fun i hi => ?_
    rw [digs_length] at hi
    have k := key i hi
    rw [gi_sumD _ _ _ _ hi, gi_sumD _ _ _ _ hi] at k
    have s := hS.bd i hi
    have a := dig_bd S u hS.bd i hi
    have b := dig_bd S v hS.bd i hi
    rw [← gi_digs S u i hi] at a
    rw [← gi_digs S v i hi] at b
    have e1 : ((gi (digs S u) i + gi (digs S x) i) - (gi (digs S v) i + gi (digs S x) i)) % gi S i = 0 := Int.emod_eq_emod_iff_emod_sub_eq_zero.1 k
    have e2 : (gi (digs S u) i - gi (digs S v) i) % gi S i = 0 := by
      have : (gi (digs S u) i + gi (digs S x) i) - (gi (digs S v) i + gi (digs S x) i) = gi (digs S u) i - gi (digs S v) i := by omega
      rwa [this] at e1
    obtain ⟨m, hm⟩ := Int.dvd_of_emod_eq_zero e2
    have hm0 : m = 0 := by
      rcases Int.lt_trichotomy m 0 with h0 | h0 | h0
      · have : gi S i * m ≤ gi S i * (-1) := Int.mul_le_mul_of_nonneg_left (by omega) (by omega)
        omega
      · exact h0
      · have : gi S i * 1 ≤ gi S i * m := Int.mul_le_mul_of_nonneg_left (by omega) (by omega)
        omega
    rw [hm0] at hm; omega
  rw [← wordTo_digs S u hS hu.1 hu.2, ← wordTo_digs S v hS hv.1 hv.2, hd]

/-- a list in its order -/
def sorted (L : List Int) : List Int := L.mergeSort fun x y => decide (x ≤ y)
theorem sorted_perm (L : List Int) : (sorted L).Perm L := List.mergeSort_perm _ _
theorem sorted_len (L : List Int) : (sorted L).length = L.length := (sorted_perm L).length_eq
theorem mem_sorted (L : List Int) (x : Int) : x ∈ sorted L ↔ x ∈ L := (sorted_perm L).mem_iff
theorem sorted_le (L : List Int) : (sorted L).Pairwise (fun x y => x ≤ y) := by
  have h := List.pairwise_mergeSort (le := fun x y : Int => decide (x ≤ y)) (fun a b c h1 h2 => by simp at h1 h2 ⊢; omega) (fun a b => by simp; omega) L
  exact h.imp fun h => by simpa using h
theorem asc_sorted {L : List Int} (h : L.Nodup) : Asc (sorted L) := by
  have n : (sorted L).Nodup := (sorted_perm L).symm.nodup h
  have := List.Pairwise.and (sorted_le L) n
  exact this.imp fun ⟨a, b⟩ => by omega
/-- the list of the sums of all words of a code with x -/
def sumsL (S C : List Int) (x : Int) : List Int := C.map fun u => sumW S u x
theorem sums_put {S C : List Int} (h : eCode S C = 0) (x : Int) : sorted (sumsL S C x) = putTo [] (fun i => sumW S (gi C i) x) C.length := by
  obtain ⟨hs, c1, c2⟩ := eCode_zero h
  have hasc := asc_code h
  refine asc_ext (asc_sorted ?_) (asc_putTo asc_nil _ _) fun y => ?_
  · unfold sumsL
    refine List.Pairwise.map _ (fun a b hab => hab) ?_
    refine List.Pairwise.imp_of_mem ?_ hasc
    intro a b ha hb hab e
    obtain ⟨i, hi, rfl⟩ := mem_gi ha
    obtain ⟨j, hj, rfl⟩ := mem_gi hb
    have := sumW_inj hs (c1 i hi) (c1 j hj) e
    omega
  · rw [mem_sorted, mem_putTo]
    unfold sumsL
    rw [List.mem_map]
    constructor
    · rintro ⟨u, hu, e⟩
      obtain ⟨i, hi, rfl⟩ := mem_gi hu
      exact .inr ⟨i, hi, e.symm⟩
    · rintro (h | ⟨i, hi, e⟩)
      · simp at h
      · exact ⟨gi C i, gi_mem hi, e.symm⟩
/-- the error of a space, a code and a word -/
def eShift (S C : List Int) (x : Int) : Int := orI (eCode S C) (eWords S [x])
def vShift (S C : List Int) (x : Int) : List Int := if eShift S C x = 0 then sorted (sumsL S C x) else []
theorem eShift_zero {S C : List Int} {x : Int} (h : eShift S C x = 0) : eCode S C = 0 ∧ eWords S [x] = 0 := by
  unfold eShift orI at h
  split at h
  · rename_i h1; exact ⟨h1, h⟩
  · rename_i h1; exact absurd h h1
theorem eShift_w {S C : List Int} {x : Int} (h : eWords S [x] = 0) : eShift S C x = eCode S C := by
  unfold eShift orI
  split
  · rename_i h1; rw [h, h1]
  · rfl
theorem eShift_bad {S C : List Int} {x : Int} (h : eWords S [x] ≠ 0) : eShift S C x = eWords S [x] := by
  unfold eShift orI
  split
  · rfl
  · rename_i h1
    by_cases hs : isSp S = true
    · rw [eCode_sp hs h1]
      unfold eWords at h ⊢
      rw [if_pos hs] at h ⊢
      split
      · rename_i h2; rw [if_pos h2] at h; exact absurd rfl h
      · rfl
    · have hs2 : isSp S = false := by simpa using hs
      rw [eCode_inv hs2, eWords_inv hs2]
theorem vShift_len (S C : List Int) (x : Int) : (vShift S C x).length ≤ 1024 := by
  unfold vShift
  split
  · rename_i h
    rw [sorted_len]
    unfold sumsL
    rw [List.length_map]
    exact code_len0 (eShift_zero h).1
  · simp

end Cv
end Go.Proofs.YtpmfedllbiblbaaGreat

namespace Go.Proofs.YtpmfedllbiblbaaGreat
set_option linter.unusedVariables false
set_option linter.unusedSimpArgs false
namespace Cv

/-- the first k words that are not covered -/
def uncP (S C : List Int) (r : Int) : Nat → Bool := fun u => tAt S C r u == 0
def vUnc (S C : List Int) (r : Int) : List Int := if eCov S C r = 0 then selL (uncP S C r) (nW S).toNat else []
theorem vUnc_len (S C : List Int) (r : Int) : (vUnc S C r).length ≤ 1024 := by
  unfold vUnc
  split
  · rename_i h
    obtain ⟨hz, _, _⟩ := eCov_zero h
    have := nW_bd (eCode_zero hz).1
    have := selL_len (uncP S C r) (nW S).toNat
    omega
  · simp
/-- whether a code covers the space -/
def vCovS (S C : List Int) (r : Int) : Bool := if eCov S C r = 0 then decide ((selL (uncP S C r) (nW S).toNat).length = 0) else false

end Cv
end Go.Proofs.YtpmfedllbiblbaaGreat

namespace Go.Proofs.YtpmfedllbiblbaaGreat
namespace Cv

/-- the error of a space and a number that is to be in lo .. hi -/
def eNum (S : List Int) (x lo hi : Int) : Int := if isSp S = true then (if lo ≤ x ∧ x ≤ hi then 0 else 2) else 1
theorem eNum_inv {S : List Int} {x lo hi : Int} (h : isSp S = false) : eNum S x lo hi = 1 := by simp [eNum, h]
theorem eNum_ok {S : List Int} {x lo hi : Int} (h : isSp S = true) (h1 : lo ≤ x) (h2 : x ≤ hi) : eNum S x lo hi = 0 := by unfold eNum; rw [if_pos h, if_pos ⟨h1, h2⟩]
theorem eNum_out {S : List Int} {x lo hi : Int} (h : isSp S = true) (h1 : ¬ (lo ≤ x ∧ x ≤ hi)) : eNum S x lo hi = 2 := by unfold eNum; rw [if_pos h, if_neg h1]
theorem eNum_zero {S : List Int} {x lo hi : Int} (h : eNum S x lo hi = 0) : Sp S ∧ lo ≤ x ∧ x ≤ hi := by
  unfold eNum at h
  split at h
  · rename_i hs
    split at h
    · rename_i hx; exact ⟨(isSp_iff S).1 hs, hx.1, hx.2⟩
    · simp at h
  · simp at h
/-- the error of a ball of the word 0 is one of a space and a number -/
theorem eBall_num (S : List Int) (r : Int) : eBall S 0 r = eNum S r 0 8 := by
  by_cases hs : isSp S = true
  · rw [eBall_sp ((isSp_iff S).1 hs)]; unfold eNum; rw [if_pos hs]
  · have hs2 : isSp S = false := by simpa using hs
    rw [eBall_not hs2, eNum_inv hs2]
/-- the error of a space, a code and a distance -/
def eAp (S C : List Int) (d : Int) : Int := orI (eCode S C) (eNum S d 1 9)
theorem eAp_zero {S C : List Int} {d : Int} (h : eAp S C d = 0) : eCode S C = 0 ∧ 1 ≤ d ∧ d ≤ 9 := by
  unfold eAp orI at h
  split at h
  · rename_i h0; obtain ⟨_, a, b⟩ := eNum_zero h; exact ⟨h0, a, b⟩
  · rename_i h0; exact absurd h h0
theorem eAp_bad {S C : List Int} {d : Int} (h : eCode S C ≠ 0) : eAp S C d = eCode S C := by unfold eAp orI; rw [if_neg h]
theorem eAp_ok {S C : List Int} {d : Int} (h : eCode S C = 0) (h1 : 1 ≤ d) (h2 : d ≤ 9) : eAp S C d = 0 := by
  unfold eAp orI; rw [if_pos h]; exact eNum_ok ((isSp_iff S).2 (eCode_zero h).1) h1 h2
theorem eAp_out {S C : List Int} {d : Int} (h : eCode S C = 0) (h1 : ¬ (1 ≤ d ∧ d ≤ 9)) : eAp S C d = 2 := by
  unfold eAp orI; rw [if_pos h]; exact eNum_out ((isSp_iff S).2 (eCode_zero h).1) h1
theorem eCode_nil {S : List Int} (h : isSp S = true) : eCode S [] = 0 := by
  refine eCode_ok h ?_
  simp [codeB, okW, ascB]
/-- the code without words -/
theorem eAp_nil (S : List Int) (d : Int) : eAp S [] d = eNum S d 1 9 := by
  by_cases hs : isSp S = true
  · unfold eAp orI; rw [if_pos (eCode_nil hs)]
  · have hs2 : isSp S = false := by simpa using hs
    unfold eAp orI; rw [eCode_inv hs2, eNum_inv hs2]; rfl
/-- balls have words -/
theorem sumB_pos (f : Nat → Int) (h0 : f 0 = 1) (h : ∀ k, 0 ≤ f k) (k : Nat) : 1 ≤ sumB f (k + 1) := by
  induction k with
  | zero => simp [sumB, h0]
  | succ k ih => rw [sumB]; have := h (k + 1); omega
theorem coef_at0 (S : List Int) (i : Nat) : coef S i 0 = 1 := by
  induction i with
  | zero => rfl
  | succ i ih => rw [coef, mulF, ih]
theorem size_bd {S : List Int} (h : Sp S) (r : Int) (hr0 : 0 ≤ r) (hr8 : r ≤ 8) : 1 ≤ sizeN S r ∧ sizeN S r ≤ 589824 := by
  have hc := fun k => coef_le S S.length h.bd h.hi k
  have e := sizeN_B S r hr0 (r.toNat + 1) (.inr (by omega))
  rw [← e]
  refine ⟨sumB_pos _ (coef_at0 S _) (fun k => (hc k).1) _, ?_⟩
  have b := (sumB_bd (coef S S.length) 65536 hc (r.toNat + 1)).2
  have : ((r.toNat + 1 : Nat) : Int) * 65536 ≤ 9 * 65536 := Int.mul_le_mul_of_nonneg_right (by omega) (by omega)
  omega

def vBB (S : List Int) (r : Int) : Int := if eNum S r 0 8 = 0 then (nW S + sizeN S r - 1) / sizeN S r else 0
def vPack (S : List Int) (d : Int) : Int := if eNum S d 1 9 = 0 then nW S / sizeN S ((d - 1) / 2) else 0

/-- whether the first k words of a code are at a distance of at least d from x -/
def farTo (S C : List Int) (x d : Int) : Nat → Bool
  | 0 => true
  | k + 1 => farTo S C x d k && decide (d ≤ dist S (gi C k) x)
/-- whether the first k words of a code are apart by d -/
def apTo (S C : List Int) (d : Int) : Nat → Bool
  | 0 => true
  | k + 1 => apTo S C d k && farTo S C (gi C k) d k
theorem farTo_iff (S C : List Int) (x d : Int) (k : Nat) : farTo S C x d k = true ↔ ∀ j, j < k → d ≤ dist S (gi C j) x := by
  induction k with
  | zero => simp [farTo]
  | succ k ih =>
    rw [farTo, Bool.and_eq_true, ih, decide_eq_true_eq]
    constructor
    · rintro ⟨h1, h2⟩ j hj
      by_cases e : j = k
      · rw [e]; exact h2
      · exact h1 j (by omega)
    · exact fun h => ⟨fun j hj => h j (by omega), h k (by omega)⟩
theorem farTo_no {S C : List Int} {x d : Int} {j k : Nat} (hj : j < k) (h : dist S (gi C j) x < d) : farTo S C x d k = false := by
  cases e : farTo S C x d k with
  | false => rfl
  | true => have := (farTo_iff S C x d k).1 e j hj; omega
theorem apTo_iff (S C : List Int) (d : Int) (k : Nat) : apTo S C d k = true ↔ ∀ i j, j < i → i < k → d ≤ dist S (gi C j) (gi C i) := by
  induction k with
  | zero => simp [apTo]
  | succ k ih =>
    rw [apTo, Bool.and_eq_true, ih, farTo_iff]
    constructor
    · rintro ⟨h1, h2⟩ i j hj hi
      by_cases e : i = k
      · subst e; exact h2 j hj
      · exact h1 i j hj (by omega)
    · exact fun h => ⟨fun i j hj hi => h i j hj (by omega), fun j hj => h k j hj (by omega)⟩
theorem apTo_no {S C : List Int} {d : Int} {i k : Nat} (hi : i < k) (h : farTo S C (gi C i) d i = false) : apTo S C d k = false := by
  cases e : apTo S C d k with
  | false => rfl
  | true =>
    have h1 := (apTo_iff S C d k).1 e
    have : farTo S C (gi C i) d i = true := (farTo_iff S C _ d i).2 fun j hj => h1 i j hj hi
    rw [h] at this; cases this
/-- the least distance is at least d just where all are -/
theorem lstRow_ge (S C : List Int) (i : Nat) (m d : Int) (k : Nat) : d ≤ lstRow S C i m k ↔ d ≤ m ∧ ∀ j, j < k → d ≤ dist S (gi C i) (gi C j) := by
  induction k with
  | zero => simp [lstRow]
  | succ k ih =>
    rw [lstRow, Int.le_min, ih]
    constructor
    · rintro ⟨⟨h0, h1⟩, h2⟩
      refine ⟨h0, fun j hj => ?_⟩
      by_cases e : j = k
      · rw [e]; exact h2
      · exact h1 j (by omega)
    · exact fun h => ⟨⟨h.1, fun j hj => h.2 j (by omega)⟩, h.2 k (by omega)⟩
theorem lstAll_ge (S C : List Int) (m d : Int) (k : Nat) : d ≤ lstAll S C m k ↔ d ≤ m ∧ ∀ i j, j < i → i < k → d ≤ dist S (gi C i) (gi C j) := by
  induction k with
  | zero => simp [lstAll]
  | succ k ih =>
    rw [lstAll, lstRow_ge, ih]
    constructor
    · rintro ⟨⟨h0, h1⟩, h2⟩
      refine ⟨h0, fun i j hj hi => ?_⟩
      by_cases e : i = k
      · subst e; exact h2 j hj
      · exact h1 i j hj (by omega)
    · exact fun h => ⟨⟨h.1, fun i j hj hi => h.2 i j hj (by omega)⟩, fun j hj => h.2 k j hj (by omega)⟩
theorem apart_least (S C : List Int) (d : Int) (h2 : 2 ≤ C.length) : decide (d ≤ lstAll S C S.length C.length) = apTo S C d C.length := by
  rw [Bool.eq_iff_iff, decide_eq_true_eq, lstAll_ge, apTo_iff]
  constructor
  · rintro ⟨_, h⟩ i j hj hi; rw [dist_comm]; exact h i j hj hi
  · intro h
    have h0 := h 1 0 (by omega) (by omega)
    have h1 := (dist_bd S (gi C 0) (gi C 1)).2
    exact ⟨by omega, fun i j hj hi => by rw [dist_comm]; exact h i j hj hi⟩
theorem apart_few (S C : List Int) (d : Int) (h2 : C.length < 2) : apTo S C d C.length = true := by
  rw [apTo_iff]; intro i j hj hi; omega
def vApart (S C : List Int) (d : Int) : Bool := if eAp S C d = 0 then apTo S C d C.length else false

end Cv
end Go.Proofs.YtpmfedllbiblbaaGreat

namespace Go.Proofs.YtpmfedllbiblbaaGreat
set_option linter.unusedVariables false
namespace Cv

theorem cnt_zero (p : Nat → Bool) (n : Nat) : cnt p n = 0 ↔ ∀ j, j < n → p j = false := by
  induction n with
  | zero => simp [cnt]
  | succ n ih =>
    have hb := cnt_bd p n
    rw [cnt_at]
    constructor
    · intro h j hj
      by_cases e : p n = true
      · rw [if_pos e] at h; omega
      · rw [if_neg e] at h
        by_cases e2 : j = n
        · subst e2; simpa using e
        · exact ih.1 (by omega) j (by omega)
    · intro h
      rw [if_neg (by rw [h n (by omega)]; simp), ih.2 fun j hj => h j (by omega)]; rfl
theorem tcov_zero (S C : List Int) (r x : Int) (k : Nat) (hk : k ≤ C.length) : tcov S C r x k = 0 ↔ ∀ j, j < k → ¬ dist S x (gi C j) ≤ r := by
  induction k with
  | zero => simp [tcov, cnt]
  | succ k ih =>
    have hb := tcov_bd S C r x k
    by_cases h : dist S x (gi C k) ≤ r
    · rw [tcov_yes _ _ _ _ _ h]
      constructor
      · intro g; omega
      · intro g; exact absurd h (g k (by omega))
    · rw [tcov_no _ _ _ _ _ h, ih (by omega)]
      constructor
      · intro g j hj
        by_cases e : j = k
        · subst e; exact h
        · exact g j (by omega)
      · exact fun g j hj => g j (by omega)
theorem uncP_in (S C : List Int) (r : Int) (u : Nat) : uncP S C r u = decide (¬ ∃ c ∈ C, dist S u c ≤ r) := by
  unfold uncP tAt
  rw [Bool.eq_iff_iff, beq_iff_eq, decide_eq_true_eq, tcov_zero _ _ _ _ _ (Nat.le_refl _)]
  constructor
  · rintro h ⟨c, hc, hd⟩
    obtain ⟨i, hi, e⟩ := mem_gi hc
    exact h i hi (by rw [e]; exact hd)
  · exact fun h j hj hd => h ⟨gi C j, gi_mem hj, hd⟩
/-- whether some word of the first k is in no way near a code -/
theorem farTo_unc (S C : List Int) (u : Nat) (d : Int) : farTo S C u d C.length = uncP S C (d - 1) u := by
  rw [uncP_in, Bool.eq_iff_iff, farTo_iff, decide_eq_true_eq]
  constructor
  · rintro h ⟨c, hc, hd⟩
    obtain ⟨i, hi, e⟩ := mem_gi hc
    have := h i hi
    rw [e, dist_comm] at this
    omega
  · intro h j hj
    have : ¬ dist S u (gi C j) ≤ d - 1 := fun g => h ⟨gi C j, gi_mem hj, g⟩
    rw [dist_comm]; omega
theorem selL_nil (p : Nat → Bool) (n : Nat) : (selL p n).length = 0 ↔ ∀ u, u < n → p u = false := by
  rw [List.length_eq_zero_iff]
  constructor
  · intro h u hu
    cases e : p u with
    | false => rfl
    | true =>
      have : ((u : Nat) : Int) ∈ selL p n := (mem_selL p n u).2 ⟨u, hu, e, rfl⟩
      rw [h] at this; simp at this
  · intro h
    apply List.eq_nil_iff_forall_not_mem.2
    intro x hx
    obtain ⟨i, hi, hp, _⟩ := (mem_selL p n x).1 hx
    rw [h i hi] at hp; cases hp
/-- whether the first k words hold one that can be put to a code -/
def growTo (S C : List Int) (d : Int) : Nat → Bool
  | 0 => false
  | k + 1 => growTo S C d k || (!(inL C k) && farTo S C k d C.length)
theorem growTo_iff (S C : List Int) (d : Int) (k : Nat) : growTo S C d k = true ↔ ∃ u, u < k ∧ inL C u = false ∧ farTo S C u d C.length = true := by
  induction k with
  | zero => simp [growTo]
  | succ k ih =>
    rw [growTo, Bool.or_eq_true, ih, Bool.and_eq_true, Bool.not_eq_true']
    constructor
    · rintro (⟨u, h1, h2⟩ | ⟨h1, h2⟩)
      · exact ⟨u, by omega, h2⟩
      · exact ⟨k, by omega, h1, h2⟩
    · rintro ⟨u, h1, h2, h3⟩
      by_cases e : u = k
      · subst e; exact .inr ⟨h2, h3⟩
      · exact .inl ⟨u, by omega, h2, h3⟩
theorem dist_self (S : List Int) (u : Int) : dist S u u = 0 := by
  unfold dist
  rw [cnt_zero]
  intro j _; simp
/-- a code can grow where it leaves words uncovered -/
theorem growTo_unc (S C : List Int) (d : Int) (hd : 1 ≤ d) (n : Nat) : growTo S C d n = !decide ((selL (uncP S C (d - 1)) n).length = 0) := by
  rw [Bool.eq_iff_iff, growTo_iff, Bool.not_eq_true', decide_eq_false_iff_not, selL_nil]
  constructor
  · rintro ⟨u, h1, h2, h3⟩ h
    rw [farTo_unc, h u h1] at h3; cases h3
  · intro h
    have : ∃ u, u < n ∧ uncP S C (d - 1) u = true := by
      apply Classical.byContradiction
      intro g
      exact h fun u hu => by
        cases e : uncP S C (d - 1) u with
        | false => rfl
        | true => exact absurd ⟨u, hu, e⟩ g
    obtain ⟨u, h1, h2⟩ := this
    refine ⟨u, h1, ?_, by rw [farTo_unc]; exact h2⟩
    rw [uncP_in, decide_eq_true_eq] at h2
    unfold inL
    rw [decide_eq_false_iff_not]
    exact fun hc => h2 ⟨(u : Int), hc, by rw [dist_self]; omega⟩
def vGrow (S C : List Int) (d : Int) : Bool := if eAp S C d = 0 then growTo S C d (nW S).toNat else false

/-- the greedy code apart by d, of the first k words -/
def gaTo (S : List Int) (d : Int) : Nat → List Int
  | 0 => []
  | k + 1 => gaTo S d k ++ if farTo S (gaTo S d k) k d (gaTo S d k).length then [(k : Int)] else []
theorem gaTo_len (S : List Int) (d : Int) (k : Nat) : (gaTo S d k).length ≤ k := by
  induction k with
  | zero => simp [gaTo]
  | succ k ih => rw [gaTo, List.length_append]; split <;> simp <;> omega
theorem gaTo_yes {S : List Int} {d : Int} {k : Nat} (h : farTo S (gaTo S d k) k d (gaTo S d k).length = true) : gaTo S d (k + 1) = gaTo S d k ++ [(k : Int)] := by rw [gaTo, if_pos h]
theorem gaTo_no {S : List Int} {d : Int} {k : Nat} (h : farTo S (gaTo S d k) k d (gaTo S d k).length = false) : gaTo S d (k + 1) = gaTo S d k := by rw [gaTo, h]; simp
theorem gaTo_bd (S : List Int) (d : Int) (k : Nat) : ∀ x, x ∈ gaTo S d k → 0 ≤ x ∧ x < k := by
  induction k with
  | zero => simp [gaTo]
  | succ k ih =>
    intro x hx
    rw [gaTo, List.mem_append] at hx
    rcases hx with hx | hx
    · have := ih x hx; omega
    · split at hx
      · have : x = (k : Int) := by simpa using hx
        omega
      · simp at hx
def vGrA (S : List Int) (d : Int) : List Int := if eNum S d 1 9 = 0 then gaTo S d (nW S).toNat else []
theorem vGrA_len (S : List Int) (d : Int) : (vGrA S d).length ≤ 1024 := by
  unfold vGrA
  split
  · rename_i h
    have := nW_bd (eNum_zero h).1
    have := gaTo_len S d (nW S).toNat
    omega
  · simp

end Cv
end Go.Proofs.YtpmfedllbiblbaaGreat

namespace Go.Proofs.YtpmfedllbiblbaaGreat
set_option linter.unusedVariables false
set_option linter.unusedSimpArgs false
namespace Cv

theorem perm_asc_eq : ∀ {L M : List Int}, L.Perm M → L.Pairwise (· ≤ ·) → M.Pairwise (· ≤ ·) → L = M
  | [], M, h, _, _ => h.nil_eq
  | a :: L, [], h, _, _ => by have := h.length_eq; simp at this
  | a :: L, b :: M, h, h1, h2 => by
    have h1' := List.pairwise_cons.1 h1
    have h2' := List.pairwise_cons.1 h2
    have hab : a = b := by
      have ha : a ∈ b :: M := h.mem_iff.1 (by simp)
      have hb : b ∈ a :: L := h.mem_iff.2 (by simp)
      rcases List.mem_cons.1 ha with e | ha
      · exact e
      · rcases List.mem_cons.1 hb with e | hb
        · exact e.symm
        · have := h1'.1 b hb; have := h2'.1 a ha; omega
    subst hab
    rw [perm_asc_eq (List.Perm.cons_inv h) h1'.2 h2'.2]
theorem sorted_asc (L : List Int) : (sorted L).Pairwise (· ≤ ·) := sorted_le L
def Desc (L : List Int) : Prop := L.Pairwise (· ≥ ·)
theorem desc_sorted {D S : List Int} (h : D.Perm S) (hd : Desc D) : D.reverse = sorted S := by
  refine perm_asc_eq (D.reverse_perm.trans (h.trans (sorted_perm S).symm)) ?_ (sorted_asc S)
  rw [List.pairwise_reverse]
  exact hd
theorem gi_reverse (D : List Int) (j : Nat) (h : j < D.length) : gi D.reverse j = gi D (D.length - 1 - j) := by
  rw [gi_lt _ _ (by simpa using h), gi_lt _ _ (by omega), List.getElem_reverse]

/-- between two steps of putting x to the list L -/
structure InsI (L : List Int) (x : Int) (T : List Int) (at' : Nat) : Prop where
  len : T.length = L.length + 1
  le : at' ≤ L.length
  lo : ∀ j, j < at' → gi T j = gi L j
  hi : ∀ j, at' ≤ j → j < L.length → gi T (j + 1) = gi L j ∧ gi L j < x
theorem insI_start (L : List Int) (x : Int) : InsI L x (L ++ [x]) L.length :=
  ⟨by simp, Nat.le_refl _, fun j hj => gi_append_lt _ _ _ hj, fun j h1 h2 => by omega⟩
theorem insI_step {L T : List Int} {x : Int} {a : Nat} (h : InsI L x T (a + 1)) (hx : gi T a < x) : InsI L x (T.set (a + 1) (gi T a)) a := by
  have h1 := h.lo a (by omega)
  have h0 := h.le
  refine ⟨by simpa using h.len, by omega, fun j hj => ?_, fun j h2 h3 => ?_⟩
  · rw [gi_set _ _ _ _ (by rw [h.len]; omega), if_neg (by omega)]; exact h.lo j (by omega)
  · rw [gi_set _ _ _ _ (by rw [h.len]; omega)]
    by_cases e : j = a
    · subst e; rw [if_pos rfl]; exact ⟨h1, by omega⟩
    · rw [if_neg (by omega)]; exact h.hi j (by omega) h3
theorem insI_end {L T : List Int} {x : Int} {a : Nat} (h : InsI L x T a) : T.set a x = L.take a ++ x :: L.drop a := by
  have h0 := h.le
  refine ext_gi (by simp [h.len]; omega) fun i hi => ?_
  rw [List.length_set, h.len] at hi
  rw [gi_set _ _ _ _ (by rw [h.len]; omega)]
  by_cases e : i = a
  · subst e; rw [if_pos rfl, gi_append_ge _ _ _ (by simp; omega)]; simp [gi, h0]
  · rw [if_neg e]
    by_cases e2 : i < a
    · rw [h.lo i e2, gi_append_lt _ _ _ (by simp; omega), gi_take _ _ _ e2]
    · obtain ⟨j, rfl⟩ : ∃ j, i = j + 1 := ⟨i - 1, by omega⟩
      rw [(h.hi j (by omega) (by omega)).1, gi_append_ge _ _ _ (by simp; omega)]
      have e3 : j + 1 - (L.take a).length = (j - a) + 1 := by simp; omega
      rw [e3]
      show gi L j = gi (x :: L.drop a) ((j - a) + 1)
      have e4 : gi (x :: L.drop a) ((j - a) + 1) = gi (L.drop a) (j - a) := by simp [gi]
      rw [e4, gi_lt L j (by omega), gi_lt _ _ (by simp; omega), List.getElem_drop]
      congr 1; omega
theorem ins_perm (L : List Int) (x : Int) (a : Nat) : (L.take a ++ x :: L.drop a).Perm (L ++ [x]) := by
  have h : (L.take a ++ x :: L.drop a).Perm (x :: (L.take a ++ L.drop a)) := List.perm_middle
  rw [List.take_append_drop] at h
  exact h.trans (by simpa using (List.perm_append_comm (l₁ := [x]) (l₂ := L)))
theorem ins_desc {L T : List Int} {x : Int} {a : Nat} (h : InsI L x T a) (hL : Desc L) (he : a = 0 ∨ ¬ gi L (a - 1) < x) : Desc (L.take a ++ x :: L.drop a) := by
  have h0 := h.le
  unfold Desc at *
  have hta : ∀ y ∈ L.take a, x ≤ y := fun y hy => by
    obtain ⟨j, hj, e⟩ := mem_gi hy
    have hja : j < a := by simp at hj; omega
    rw [gi_take _ _ _ hja] at e
    have h1 : ¬ gi L (a - 1) < x := by rcases he with he | he; · omega
                                       · exact he
    by_cases e2 : j = a - 1
    · subst e2; omega
    · have := List.pairwise_iff_getElem.1 hL j (a - 1) (by omega) (by omega) (by omega)
      rw [gi_lt L j (by omega)] at e
      rw [gi_lt L (a - 1) (by omega)] at h1
      have h2 : L[a - 1] ≤ L[j] := this
      omega
  have hdr : ∀ y ∈ L.drop a, y < x := fun y hy => by
    obtain ⟨j, hj, e⟩ := mem_gi hy
    have hj2 : j < L.length - a := by simpa using hj
    have h1 := (h.hi (a + j) (by omega) (by omega)).2
    have : gi (L.drop a) j = gi L (a + j) := by rw [gi_lt _ _ hj, gi_lt L (a + j) (by omega), List.getElem_drop]
    omega
  refine List.pairwise_append.2 ⟨hL.sublist (List.take_sublist _ _), List.pairwise_cons.2 ⟨fun y hy => by have := hdr y hy; omega, hL.sublist (List.drop_sublist _ _)⟩, fun y hy z hz => ?_⟩
  have h1 := hta y hy
  rcases List.mem_cons.1 hz with rfl | hz
  · exact h1
  · have := hdr z hz; show z ≤ y; omega

/-- products -/
theorem prodTo_app (L : List Int) (y : Int) : prodTo (L ++ [y]) (L.length + 1) = prodTo L L.length * y := by
  rw [prodTo]
  have e : gi (L ++ [y]) L.length = y := by rw [gi_append_ge _ _ _ (Nat.le_refl _)]; simp [gi]
  rw [e]
  congr 1
  have : ∀ k, k ≤ L.length → prodTo (L ++ [y]) k = prodTo L k := fun k => by
    induction k with
    | zero => intro _; rfl
    | succ k ih => intro hk; rw [prodTo, prodTo, ih (by omega), gi_append_lt _ _ _ (by omega)]
  exact this _ (Nat.le_refl _)
theorem prodTo_foldl (L : List Int) : prodTo L L.length = L.foldl (· * ·) 1 := by
  induction h : L.length generalizing L with
  | zero => obtain rfl := List.eq_nil_of_length_eq_zero h; rfl
  | succ n ih =>
    have hne : L ≠ [] := by intro e; simp [e] at h
    obtain ⟨M, y, rfl⟩ : ∃ M y, L = M ++ [y] := ⟨L.dropLast, L.getLast hne, (List.dropLast_concat_getLast hne).symm⟩
    have hM : M.length = n := by simpa using h
    rw [← hM, prodTo_app, List.foldl_append, hM, ih M hM]; rfl
theorem prod_perm {L M : List Int} (h : L.Perm M) : prodTo L L.length = prodTo M M.length := by
  rw [prodTo_foldl, prodTo_foldl]
  have key : ∀ {A B : List Int}, A.Perm B → ∀ c : Int, A.foldl (· * ·) c = B.foldl (· * ·) c := by
    intro A B hp
    induction hp with
    | nil => intro c; rfl
    | cons x _ ih => intro c; exact ih _
    | swap x y l => intro c; show l.foldl _ (c * y * x) = l.foldl _ (c * x * y); rw [Int.mul_assoc, Int.mul_comm y x, ← Int.mul_assoc]
    | trans _ _ ih1 ih2 => intro c; rw [ih1, ih2]
  exact key h 1
theorem prodTo_take (L : List Int) (k : Nat) (h : k ≤ L.length) : prodTo (L.take k) (L.take k).length = prodTo L k := by
  have hl : (L.take k).length = k := by simp [h]
  rw [hl]
  have : ∀ j, j ≤ k → prodTo (L.take k) j = prodTo L j := fun j => by
    induction j with
    | zero => intro _; rfl
    | succ j ih => intro hj; rw [prodTo, prodTo, ih (by omega), gi_take _ _ _ (by omega)]
  exact this k (Nat.le_refl _)

/-- the product of all but the k greatest sizes -/
def overN (S : List Int) (k : Int) : Int := prodTo (sorted S) (S.length - k.toNat)
theorem sorted_bd {S : List Int} (h : ∀ i, i < S.length → 2 ≤ gi S i ∧ gi S i ≤ 4) (i : Nat) (hi : i < S.length) : 2 ≤ gi (sorted S) i ∧ gi (sorted S) i ≤ 4 := by
  have hl := sorted_len S
  have hm : gi (sorted S) i ∈ sorted S := gi_mem (by omega)
  obtain ⟨j, hj, e⟩ := mem_gi ((sorted_perm S).mem_iff.1 hm)
  rw [← e]; exact h j hj
theorem over_step {S : List Int} (h : ∀ i, i < S.length → 2 ≤ gi S i ∧ gi S i ≤ 4) (k : Nat) (hk : k < S.length) : overN S k / gi (sorted S) (S.length - 1 - k) = overN S ((k + 1 : Nat) : Int) := by
  unfold overN
  simp only [Int.toNat_natCast]
  have e : S.length - k = (S.length - (k + 1)) + 1 := by omega
  have e2 : S.length - 1 - k = S.length - (k + 1) := by omega
  rw [e, e2, prodTo]
  exact Int.mul_ediv_cancel _ (by have := (sorted_bd h (S.length - (k + 1)) (by omega)).1; omega)
theorem over_zero (S : List Int) : overN S 0 = nW S := by
  unfold overN nW
  have := prod_perm (sorted_perm S)
  rw [sorted_len] at this
  simpa using this
theorem over_all (S : List Int) (k : Int) (h : S.length ≤ k.toNat) : overN S k = 1 := by
  unfold overN; rw [show S.length - k.toNat = 0 by omega]; rfl
theorem over_bd {S : List Int} (h : Sp S) (k : Int) : 1 ≤ overN S k ∧ overN S k ≤ 65536 := by
  have hb : ∀ i, i < (sorted S).length → 2 ≤ gi (sorted S) i ∧ gi (sorted S) i ≤ 4 := fun i hi => sorted_bd h.bd i (by rw [sorted_len] at hi; exact hi)
  have hl := sorted_len S
  have hh := h.hi
  exact ⟨prodTo_pos _ _ (fun i hi => hb i (by omega)), (prodTo_le _ _ (fun i hi => hb i (by omega)) (by omega)).2⟩
def vFreeB (S : List Int) (r : Int) : Int := if eNum S r 0 8 = 0 then overN S r else 0
def vPlaceB (S : List Int) (d : Int) : Int := if eNum S d 1 9 = 0 then overN S (d - 1) else 0

end Cv
end Go.Proofs.YtpmfedllbiblbaaGreat
