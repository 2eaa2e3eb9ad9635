/-
  Plain facts on lists of numbers, on words of a space, on codes, covers, sums and bounds: no Go, no program. Written by an AI agent.
-/
import Derived.Below
namespace Go.Proofs.Ytamebfbddoeflaa
set_option linter.unusedVariables false
set_option linter.unusedSimpArgs false
namespace Cv

/-- element i of a list, 0 where there is none -/
def gi (S : List Int) (i : Nat) : Int := S.getD i 0

theorem gi_lt (S : List Int) (i : Nat) (h : i < S.length) : gi S i = S[i] := by simp [gi, h]
theorem gi_map (S : List Int) (i : Nat) (h : i < S.length) : (S.map (Value.int .i64))[i]? = some (.int .i64 (gi S i)) := by simp [gi, h]
theorem ext_gi {S T : List Int} (hl : S.length = T.length) (h : ∀ i, i < S.length → gi S i = gi T i) : S = T := by
  apply List.ext_getElem hl
  intro i h1 h2
  have := h i h1
  rwa [gi_lt S i h1, gi_lt T i h2] at this

theorem gi_set (S : List Int) (k : Nat) (x : Int) (j : Nat) (hk : k < S.length) : gi (S.set k x) j = if j = k then x else gi S j := by
  simp only [gi, List.getD_eq_getElem?_getD, List.getElem?_set]
  by_cases e : k = j
  · subst e; simp [hk]
  · rw [if_neg e, if_neg (fun h => e h.symm)]
theorem gi_append_lt (S T : List Int) (j : Nat) (h : j < S.length) : gi (S ++ T) j = gi S j := by
  simp only [gi, List.getD_eq_getElem?_getD, List.getElem?_append_left h]
theorem gi_append_ge (S T : List Int) (j : Nat) (h : S.length ≤ j) : gi (S ++ T) j = gi T (j - S.length) := by
  simp only [gi, List.getD_eq_getElem?_getD, List.getElem?_append_right h]
theorem take_snoc (S : List Int) (k : Nat) (h : k < S.length) : S.take (k + 1) = S.take k ++ [gi S k] := by
  rw [List.take_succ_eq_append_getElem h, gi_lt S k h]
theorem gi_take (S : List Int) (k j : Nat) (h : j < k) : gi (S.take k) j = gi S j := by simp [gi, h]

/-- the marks k, k + 1, .. -/
def marks (k : Int) (n : Nat) : List Int := (List.range n).map fun (i : Nat) => k + (i : Int)
/-- the product of the first k sizes -/
def prodTo (S : List Int) : Nat → Int
  | 0 => 1
  | k + 1 => prodTo S k * gi S k

/-- all of the first k sizes are in 2..4 -/
def okTo (S : List Int) : Nat → Bool
  | 0 => true
  | k + 1 => okTo S k && decide (2 ≤ gi S k) && decide (gi S k ≤ 4)

/-- whether a list is that of the sizes of a space -/
def isSp (S : List Int) : Bool := decide (1 ≤ S.length) && decide (S.length ≤ 8) && okTo S S.length && decide (prodTo S S.length ≤ 1024)

theorem okTo_iff (S : List Int) (k : Nat) : okTo S k = true ↔ ∀ i, i < k → 2 ≤ gi S i ∧ gi S i ≤ 4 := by
  induction k with
  | zero => simp [okTo]
  | succ k ih =>
    simp only [okTo, Bool.and_eq_true, decide_eq_true_eq, ih]
    constructor
    · rintro ⟨⟨h, a⟩, b⟩ i hi
      by_cases e : i = k
      · subst e; exact ⟨a, b⟩
      · exact h i (by omega)
    · intro h
      exact ⟨⟨fun i hi => h i (by omega), (h k (by omega)).1⟩, (h k (by omega)).2⟩

theorem prodTo_bd (S : List Int) (k : Nat) (h : ∀ i, i < k → 2 ≤ gi S i ∧ gi S i ≤ 4) : 1 ≤ prodTo S k ∧ prodTo S k ≤ 4 ^ k := by
  induction k with
  | zero => simp [prodTo]
  | succ k ih =>
    obtain ⟨a, b⟩ := ih fun i hi => h i (by omega)
    obtain ⟨c, d⟩ := h k (by omega)
    constructor
    · have : 1 * 1 ≤ prodTo S k * gi S k := Int.mul_le_mul a (by omega) (by omega) (by omega)
      simpa [prodTo] using this
    · have : prodTo S k * gi S k ≤ 4 ^ k * 4 := Int.mul_le_mul b d (by omega) (by omega)
      simpa [prodTo, Int.pow_succ] using this

/-- a space: what 'isSp' says -/
structure Sp (S : List Int) : Prop where
  lo : 1 ≤ S.length
  hi : S.length ≤ 8
  bd : ∀ i, i < S.length → 2 ≤ gi S i ∧ gi S i ≤ 4
  pr : prodTo S S.length ≤ 1024

theorem isSp_iff (S : List Int) : isSp S = true ↔ Sp S := by
  simp only [isSp, Bool.and_eq_true, decide_eq_true_eq, okTo_iff]
  exact ⟨fun ⟨⟨⟨a, b⟩, c⟩, d⟩ => ⟨a, b, c, d⟩, fun h => ⟨⟨⟨h.lo, h.hi⟩, h.bd⟩, h.pr⟩⟩

theorem isSp_len {S : List Int} (h : ¬ (1 ≤ S.length ∧ S.length ≤ 8)) : isSp S = false := by
  rw [← Bool.not_eq_true, isSp_iff]; exact fun s => h ⟨s.lo, s.hi⟩
theorem isSp_at {S : List Int} {k : Nat} (hk : k < S.length) (h : ¬ (2 ≤ gi S k ∧ gi S k ≤ 4)) : isSp S = false := by
  rw [← Bool.not_eq_true, isSp_iff]; exact fun s => h (s.bd k hk)
theorem isSp_prod {S : List Int} (h1 : 1 ≤ S.length) (h2 : S.length ≤ 8) (h : ∀ i, i < S.length → 2 ≤ gi S i ∧ gi S i ≤ 4) : isSp S = decide (prodTo S S.length ≤ 1024) := by
  simp [isSp, h1, h2, (okTo_iff S S.length).2 h]
theorem prodTo_le (S : List Int) (k : Nat) (h : ∀ i, i < k → 2 ≤ gi S i ∧ gi S i ≤ 4) (hk : k ≤ 8) : 1 ≤ prodTo S k ∧ prodTo S k ≤ 65536 := by
  obtain ⟨a, b⟩ := prodTo_bd S k h
  refine ⟨a, Int.le_trans b ?_⟩
  have : (4 : Int) ^ k ≤ 4 ^ 8 := by
    have h4 : (4 : Nat) ^ k ≤ 4 ^ 8 := Nat.pow_le_pow_right (by omega) hk
    exact_mod_cast h4
  simpa using this

theorem prodTo_pos (S : List Int) (k : Nat) (h : ∀ i, i < k → 2 ≤ gi S i ∧ gi S i ≤ 4) : 1 ≤ prodTo S k := (prodTo_bd S k h).1

theorem prodTo_mono (S : List Int) (n k : Nat) (h : ∀ i, i < n → 2 ≤ gi S i ∧ gi S i ≤ 4) (hk : k ≤ n) : prodTo S k ≤ prodTo S n := by
  induction n with
  | zero => have : k = 0 := by omega
            subst this; exact Int.le_refl _
  | succ n ih =>
    by_cases e : k = n + 1
    · subst e; exact Int.le_refl _
    · have h1 := ih (fun i hi => h i (by omega)) (by omega)
      have h2 := prodTo_pos S n (fun i hi => h i (by omega))
      obtain ⟨c, _⟩ := h n (by omega)
      have h3 : prodTo S n * 1 ≤ prodTo S n * gi S n := Int.mul_le_mul_of_nonneg_left (by omega) (by omega)
      simp only [prodTo]
      omega

/-- the rests of a word as its digits are taken from behind: 'quo S w j' is what is left when the places from j on have been taken -/
def quoTop (S : List Int) (w : Int) : Nat → Int
  | 0 => w
  | k + 1 => quoTop S w k / gi S (S.length - 1 - k)

/-- the digit of a word at place i -/
def dig (S : List Int) (w : Int) (i : Nat) : Int := quoTop S w (S.length - 1 - i) % gi S i
/-- the digits of a word -/
def digs (S : List Int) (w : Int) : List Int := (List.range S.length).map (dig S w)

theorem digs_length (S : List Int) (w : Int) : (digs S w).length = S.length := by simp [digs]
theorem gi_digs (S : List Int) (w : Int) (i : Nat) (h : i < S.length) : gi (digs S w) i = dig S w i := by
  rw [gi_lt _ _ (by simpa [digs_length] using h)]; simp [digs]

/-- the word of the first k digits of a list -/
def wordTo (S D : List Int) : Nat → Int
  | 0 => 0
  | k + 1 => wordTo S D k * gi S k + gi D k

theorem quoTop_nonneg (S : List Int) (w : Int) (h : ∀ i, i < S.length → 2 ≤ gi S i ∧ gi S i ≤ 4) (hw : 0 ≤ w) (k : Nat) (hk : k ≤ S.length) : 0 ≤ quoTop S w k := by
  induction k with
  | zero => exact hw
  | succ k ih => exact Int.ediv_nonneg (ih (by omega)) (by have := (h (S.length - 1 - k) (by omega)).1; omega)

theorem quoTop_le (S : List Int) (w : Int) (h : ∀ i, i < S.length → 2 ≤ gi S i ∧ gi S i ≤ 4) (hw : 0 ≤ w) (k : Nat) (hk : k ≤ S.length) : quoTop S w k ≤ w := by
  induction k with
  | zero => exact Int.le_refl _
  | succ k ih =>
    have h1 := ih (by omega)
    have h2 := quoTop_nonneg S w h hw k (by omega)
    have h3 := (h (S.length - 1 - k) (by omega)).1
    have h4 : quoTop S w k / gi S (S.length - 1 - k) ≤ quoTop S w k := Int.ediv_le_self _ h2
    simp only [quoTop]; omega

theorem dig_bd (S : List Int) (w : Int) (h : ∀ i, i < S.length → 2 ≤ gi S i ∧ gi S i ≤ 4) (i : Nat) (hi : i < S.length) : 0 ≤ dig S w i ∧ dig S w i < gi S i := by
  have := (h i hi).1
  exact ⟨Int.emod_nonneg _ (by omega), Int.emod_lt_of_pos _ (by omega)⟩

theorem wordTo_bd (S D : List Int) (k : Nat) (hS : ∀ i, i < k → 2 ≤ gi S i ∧ gi S i ≤ 4) (hD : ∀ i, i < k → 0 ≤ gi D i ∧ gi D i < gi S i) : 0 ≤ wordTo S D k ∧ wordTo S D k < prodTo S k := by
  induction k with
  | zero => simp [wordTo, prodTo]
  | succ k ih =>
    obtain ⟨a, b⟩ := ih (fun i hi => hS i (by omega)) (fun i hi => hD i (by omega))
    obtain ⟨c, d⟩ := hD k (by omega)
    obtain ⟨e, f⟩ := hS k (by omega)
    constructor
    · have : 0 ≤ wordTo S D k * gi S k := Int.mul_nonneg a (by omega)
      simp only [wordTo]; omega
    · have h1 : (wordTo S D k + 1) * gi S k ≤ prodTo S k * gi S k := Int.mul_le_mul_of_nonneg_right (by omega) (by omega)
      rw [Int.add_mul, Int.one_mul] at h1
      simp only [wordTo, prodTo]; omega

/-- words come back from their digits -/
theorem wordTo_digs_aux (S : List Int) (w : Int) (h : ∀ i, i < S.length → 2 ≤ gi S i ∧ gi S i ≤ 4) (hw : 0 ≤ w) (k : Nat) (hk : k ≤ S.length) (hq : quoTop S w S.length = 0) :
    wordTo S (digs S w) k = quoTop S w (S.length - k) := by
  induction k with
  | zero => simp [wordTo, hq]
  | succ k ih =>
    have h1 := ih (by omega)
    have e : S.length - k = (S.length - (k + 1)) + 1 := by omega
    have e2 : S.length - 1 - (S.length - (k + 1)) = k := by omega
    have e3 : S.length - 1 - k = S.length - (k + 1) := by omega
    rw [wordTo, h1, gi_digs S w k (by omega), dig, e3]
    rw [e, quoTop, e2]
    have := Int.mul_ediv_add_emod (quoTop S w (S.length - (k + 1))) (gi S k)
    rw [Int.mul_comm] at this
    exact this

theorem quoTop_lt (S : List Int) (w : Int) (h : ∀ i, i < S.length → 2 ≤ gi S i ∧ gi S i ≤ 4) (hw : 0 ≤ w) (hN : w < prodTo S S.length) (k : Nat) (hk : k ≤ S.length) : quoTop S w k < prodTo S (S.length - k) := by
  induction k with
  | zero => simpa [quoTop] using hN
  | succ k ih =>
    have h1 := ih (by omega)
    have e : S.length - k = (S.length - (k + 1)) + 1 := by omega
    have e2 : S.length - 1 - k = S.length - (k + 1) := by omega
    rw [e, prodTo] at h1
    have h3 := (h (S.length - (k + 1)) (by omega)).1
    simp only [quoTop, e2]
    exact Int.ediv_lt_of_lt_mul (by omega) h1

theorem wordTo_digs (S : List Int) (w : Int) (hS : Sp S) (hw : 0 ≤ w) (hN : w < prodTo S S.length) : wordTo S (digs S w) S.length = w := by
  have h0 := quoTop_lt S w hS.bd hw hN S.length (Nat.le_refl _)
  have h1 := quoTop_nonneg S w hS.bd hw S.length (Nat.le_refl _)
  simp only [Nat.sub_self, prodTo] at h0
  have := wordTo_digs_aux S w hS.bd hw S.length (Nat.le_refl _) (by omega)
  simpa [quoTop] using this

/-- how many of the first k indices p holds of -/
def cnt (p : Nat → Bool) : Nat → Int
  | 0 => 0
  | k + 1 => cnt p k + if p k then 1 else 0
/-- how many of the last k indices below n p holds of -/
def cntTop (p : Nat → Bool) (n : Nat) : Nat → Int
  | 0 => 0
  | k + 1 => cntTop p n k + if p (n - 1 - k) then 1 else 0

theorem cnt_top (p : Nat → Bool) (n k : Nat) (hk : k ≤ n) : cnt p n = cnt p (n - k) + cntTop p n k := by
  induction k with
  | zero => simp [cntTop]
  | succ k ih =>
    rw [ih (by omega)]
    have e : n - k = (n - (k + 1)) + 1 := by omega
    have e2 : n - 1 - k = n - (k + 1) := by omega
    rw [e, cnt, cntTop, e2]; omega
theorem cntTop_all (p : Nat → Bool) (n : Nat) : cntTop p n n = cnt p n := by rw [cnt_top p n n (Nat.le_refl _)]; simp [cnt]
theorem cnt_bd (p : Nat → Bool) (n : Nat) : 0 ≤ cnt p n ∧ cnt p n ≤ n := by
  induction n with
  | zero => simp [cnt]
  | succ n ih => simp only [cnt]; split <;> omega
theorem cntTop_bd (p : Nat → Bool) (n k : Nat) : 0 ≤ cntTop p n k ∧ cntTop p n k ≤ k := by
  induction k with
  | zero => simp [cntTop]
  | succ k ih => simp only [cntTop]; split <;> omega
theorem cnt_congr (p q : Nat → Bool) (n : Nat) (h : ∀ i, i < n → p i = q i) : cnt p n = cnt q n := by
  induction n with
  | zero => rfl
  | succ n ih => rw [cnt, cnt, ih fun i hi => h i (by omega), h n (by omega)]

/-- the distance of two words -/
def dist (S : List Int) (u w : Int) : Int := cnt (fun i => dig S u i != dig S w i) S.length

/-- what is left of a word when the places from m on have been taken -/
def quo (S : List Int) (x : Int) (m : Nat) : Int := quoTop S x (S.length - m)
theorem quo_all (S : List Int) (x : Int) : quo S x S.length = x := by simp [quo, quoTop]
theorem quo_step (S : List Int) (x : Int) (j : Nat) (h : j < S.length) : quo S x j = quo S x (j + 1) / gi S j := by
  have e : S.length - j = (S.length - (j + 1)) + 1 := by omega
  have e2 : S.length - 1 - (S.length - (j + 1)) = j := by omega
  rw [quo, e, quoTop, e2]; rfl
theorem dig_quo (S : List Int) (x : Int) (j : Nat) (h : j < S.length) : dig S x j = quo S x (j + 1) % gi S j := by
  have e : S.length - 1 - j = S.length - (j + 1) := by omega
  rw [dig, e]; rfl
theorem quo_bd (S : List Int) (x : Int) (h : ∀ i, i < S.length → 2 ≤ gi S i ∧ gi S i ≤ 4) (hx : 0 ≤ x) (m : Nat) : 0 ≤ quo S x m ∧ quo S x m ≤ x :=
  ⟨quoTop_nonneg S x h hx _ (by omega), quoTop_le S x h hx _ (by omega)⟩

/-- the number of places from m on at which the digits of two words are different -/
def distFrom (S : List Int) (u x : Int) (m : Nat) : Int := cntTop (fun i => dig S u i != dig S x i) S.length (S.length - m)
theorem distFrom_zero (S : List Int) (u x : Int) : distFrom S u x 0 = dist S u x := by simp only [distFrom, Nat.sub_zero]; exact cntTop_all _ _
theorem distFrom_bd (S : List Int) (u x : Int) (m : Nat) : 0 ≤ distFrom S u x m ∧ distFrom S u x m ≤ S.length := by
  have := cntTop_bd (fun i => dig S u i != dig S x i) S.length (S.length - m)
  unfold distFrom; omega
/-- the number of the first k places at which two lists are different -/
def diffTo (A B : List Int) (k : Nat) : Int := cnt (fun i => gi A i != gi B i) k
/-- the number of the words -/
def nW (S : List Int) : Int := prodTo S S.length
/-- whether the first k numbers of a list are words -/
def okW (S T : List Int) : Nat → Bool
  | 0 => true
  | k + 1 => okW S T k && decide (0 ≤ gi T k) && decide (gi T k < nW S)
theorem okW_iff (S T : List Int) (k : Nat) : okW S T k = true ↔ ∀ i, i < k → 0 ≤ gi T i ∧ gi T i < nW S := by
  induction k with
  | zero => simp [okW]
  | succ k ih =>
    simp only [okW, Bool.and_eq_true, decide_eq_true_eq, ih]
    constructor
    · rintro ⟨⟨h, a⟩, b⟩ i hi
      by_cases e : i = k
      · subst e; exact ⟨a, b⟩
      · exact h i (by omega)
    · intro h
      exact ⟨⟨fun i hi => h i (by omega), (h k (by omega)).1⟩, (h k (by omega)).2⟩

/-- the error of a space and of numbers that should be words of it -/
def eWords (S T : List Int) : Int := if isSp S = true then (if okW S T T.length = true then 0 else 2) else 1
theorem eWords_inv {S T : List Int} (h : isSp S = false) : eWords S T = 1 := by simp [eWords, h]
theorem eWords_bad {S T : List Int} (h : isSp S = true) {k : Nat} (hk : k < T.length) (hb : ¬ (0 ≤ gi T k ∧ gi T k < nW S)) : eWords S T = 2 := by
  have : ¬ okW S T T.length = true := fun ho => hb ((okW_iff S T _).1 ho k hk)
  simp only [eWords, h, if_true, if_neg this]
theorem eWords_ok {S T : List Int} (h : isSp S = true) (ha : ∀ i, i < T.length → 0 ≤ gi T i ∧ gi T i < nW S) : eWords S T = 0 := by
  simp only [eWords, h, if_true, (okW_iff S T _).2 ha]
theorem eWords_zero {S T : List Int} (h : eWords S T = 0) : Sp S ∧ ∀ i, i < T.length → 0 ≤ gi T i ∧ gi T i < nW S := by
  by_cases h1 : isSp S = true
  · by_cases h2 : okW S T T.length = true
    · exact ⟨(isSp_iff S).1 h1, (okW_iff S T _).1 h2⟩
    · simp [eWords, h1, h2] at h
  · simp [eWords, h1] at h
theorem nW_bd {S : List Int} (h : Sp S) : 1 ≤ nW S ∧ nW S ≤ 1024 := ⟨prodTo_pos S _ h.bd, h.pr⟩

/-- the word of the sum of digits -/
def sumD (S A B : List Int) : List Int := (List.range S.length).map fun i => (gi A i + gi B i) % gi S i
theorem sumD_length (S A B : List Int) : (sumD S A B).length = S.length := by simp [sumD]
theorem gi_sumD (S A B : List Int) (i : Nat) (h : i < S.length) : gi (sumD S A B) i = (gi A i + gi B i) % gi S i := by
  rw [gi_lt _ _ (by rw [sumD_length]; exact h)]; simp [sumD]
def sumW (S : List Int) (u x : Int) : Int := wordTo S (sumD S (digs S u) (digs S x)) S.length

/-- the digits of the opposite word -/
def oppD (S A : List Int) : List Int := (List.range S.length).map fun i => (gi S i - gi A i) % gi S i
def oppW (S : List Int) (x : Int) : Int := wordTo S (oppD S (digs S x)) S.length

end Cv
end Go.Proofs.Ytamebfbddoeflaa

namespace Go.Proofs.Ytamebfbddoeflaa
set_option linter.unusedVariables false
set_option linter.unusedSimpArgs false
namespace Cv

def eSp (S : List Int) : Int := if isSp S = true then 0 else 1
def vCount (S : List Int) : Int := if isSp S = true then nW S else 0
def vDigits (S : List Int) (x : Int) : List Int := if eWords S [x] = 0 then digs S x else []
def vDist (S : List Int) (u x : Int) : Int := if eWords S [u, x] = 0 then dist S u x else 0
def vWeight (S : List Int) (x : Int) : Int := if eWords S [x] = 0 then dist S 0 x else 0
def vSum (S : List Int) (u x : Int) : Int := if eWords S [u, x] = 0 then sumW S u x else 0
def vOpp (S : List Int) (x : Int) : Int := if eWords S [x] = 0 then oppW S x else 0

theorem gi1 (a : Int) : gi [a] 0 = a := rfl
/-- whether the first k numbers of a list are digits -/
def okD (S D : List Int) : Nat → Bool
  | 0 => true
  | k + 1 => okD S D k && decide (0 ≤ gi D k) && decide (gi D k < gi S k)
/-- whether a list has one digit for each place -/
def dgB (S D : List Int) : Bool := decide (D.length = S.length) && okD S D S.length
def eWordOf (S D : List Int) : Int := if isSp S = true then (if dgB S D = true then 0 else 2) else 1
def vWordOf (S D : List Int) : Int := if isSp S = true ∧ dgB S D = true then wordTo S D S.length else 0

/-- the word with another digit at a place -/
def chgW (S : List Int) (x : Int) (i : Nat) (d : Int) : Int := wordTo S ((digs S x).set i d) S.length
def chgB (S : List Int) (i d : Int) : Bool := decide (0 ≤ i) && decide (i < S.length) && decide (0 ≤ d) && decide (d < gi S i.toNat)
def eChange (S : List Int) (x i d : Int) : Int := if eWords S [x] = 0 then (if chgB S i d = true then 0 else 2) else eWords S [x]
def vChange (S : List Int) (x i d : Int) : Int := if eWords S [x] = 0 ∧ chgB S i d = true then chgW S x i.toNat d else 0
end Cv
end Go.Proofs.Ytamebfbddoeflaa

namespace Go.Proofs.Ytamebfbddoeflaa
set_option linter.unusedVariables false
set_option linter.unusedSimpArgs false
namespace Cv

/-- whether the first k numbers of a list ascend -/
def ascB (C : List Int) : Nat → Bool
  | 0 => true
  | k + 1 => ascB C k && (decide (k = 0) || decide (gi C (k - 1) < gi C k))
theorem ascB_iff (C : List Int) (k : Nat) : ascB C k = true ↔ ∀ i, 0 < i → i < k → gi C (i - 1) < gi C i := by
  induction k with
  | zero => simp [ascB]
  | succ k ih =>
    simp only [ascB, Bool.and_eq_true, Bool.or_eq_true, decide_eq_true_eq, ih]
    constructor
    · rintro ⟨h, a⟩ i h0 hi
      by_cases e : i = k
      · subst e
        rcases a with a | a
        · omega
        · exact a
      · exact h i h0 (by omega)
    · intro h
      refine ⟨fun i h0 hi => h i h0 (by omega), ?_⟩
      by_cases e : k = 0
      · exact .inl e
      · exact .inr (h k (by omega) (by omega))
/-- whether a list is a code -/
def codeB (S C : List Int) : Bool := okW S C C.length && ascB C C.length
theorem codeB_iff (S C : List Int) : codeB S C = true ↔ (∀ i, i < C.length → 0 ≤ gi C i ∧ gi C i < nW S) ∧ ∀ i, 0 < i → i < C.length → gi C (i - 1) < gi C i := by
  simp only [codeB, Bool.and_eq_true, okW_iff, ascB_iff]
theorem codeB_bad {S C : List Int} {k : Nat} (hk : k < C.length) (h : ¬ (0 ≤ gi C k ∧ gi C k < nW S)) : codeB S C = false := by
  rw [← Bool.not_eq_true, codeB_iff]; exact fun a => h (a.1 k hk)
theorem codeB_desc {S C : List Int} {k : Nat} (h0 : 0 < k) (hk : k < C.length) (h : ¬ gi C (k - 1) < gi C k) : codeB S C = false := by
  rw [← Bool.not_eq_true, codeB_iff]; exact fun a => h (a.2 k h0 hk)
theorem codeB_ok {S C : List Int} (h1 : ∀ i, i < C.length → 0 ≤ gi C i ∧ gi C i < nW S) (h2 : ∀ i, 0 < i → i < C.length → gi C (i - 1) < gi C i) : codeB S C = true := (codeB_iff S C).2 ⟨h1, h2⟩

/-- the error of a space and a code -/
def eCode (S C : List Int) : Int := if isSp S = true then (if codeB S C = true then 0 else 2) else 1
theorem eCode_inv {S C : List Int} (h : isSp S = false) : eCode S C = 1 := by simp [eCode, h]
theorem eCode_bad {S C : List Int} (h : isSp S = true) (hb : codeB S C = false) : eCode S C = 2 := by simp [eCode, h, hb]
theorem eCode_ok {S C : List Int} (h : isSp S = true) (hb : codeB S C = true) : eCode S C = 0 := by simp [eCode, h, hb]
theorem eCode_zero {S C : List Int} (h : eCode S C = 0) : Sp S ∧ (∀ i, i < C.length → 0 ≤ gi C i ∧ gi C i < nW S) ∧ ∀ i, 0 < i → i < C.length → gi C (i - 1) < gi C i := by
  by_cases h1 : isSp S = true
  · by_cases h2 : codeB S C = true
    · exact ⟨(isSp_iff S).1 h1, (codeB_iff S C).1 h2⟩
    · simp [eCode, h1, h2] at h
  · simp [eCode, h1] at h
/-- a code has no more words than the space -/
theorem code_ge {S C : List Int} (h1 : ∀ i, i < C.length → 0 ≤ gi C i ∧ gi C i < nW S) (h2 : ∀ i, 0 < i → i < C.length → gi C (i - 1) < gi C i) (i : Nat) (hi : i < C.length) : (i : Int) ≤ gi C i := by
  induction i with
  | zero => exact (h1 0 hi).1
  | succ i ih =>
    have a := ih (by omega)
    have b := h2 (i + 1) (by omega) hi
    rw [Nat.add_sub_cancel] at b
    omega
theorem code_len {S C : List Int} (hS : Sp S) (h1 : ∀ i, i < C.length → 0 ≤ gi C i ∧ gi C i < nW S) (h2 : ∀ i, 0 < i → i < C.length → gi C (i - 1) < gi C i) : C.length ≤ 1024 := by
  rcases Nat.eq_zero_or_pos C.length with h | h
  · omega
  · have a := code_ge h1 h2 (C.length - 1) (by omega)
    have b := (h1 (C.length - 1) (by omega)).2
    have c := (nW_bd hS).2
    omega

def vIsCode (S C : List Int) : Bool := isSp S && codeB S C

/-- words that are not in a code: how many words of the code lie below k, and the others -/
def oppAt (C : List Int) : Nat → Nat
  | 0 => 0
  | k + 1 => if oppAt C k < C.length ∧ gi C (oppAt C k) = (k : Int) then oppAt C k + 1 else oppAt C k
def oppOut (C : List Int) : Nat → List Int
  | 0 => []
  | k + 1 => if oppAt C k < C.length ∧ gi C (oppAt C k) = (k : Int) then oppOut C k else oppOut C k ++ [(k : Int)]
def vOppC (S C : List Int) : List Int := if eCode S C = 0 then oppOut C (nW S).toNat else []
end Cv
end Go.Proofs.Ytamebfbddoeflaa

namespace Go.Proofs.Ytamebfbddoeflaa
set_option linter.unusedVariables false
set_option linter.unusedSimpArgs false
namespace Cv

theorem dist_bd (S : List Int) (u x : Int) : 0 ≤ dist S u x ∧ dist S u x ≤ S.length := by
  have h := distFrom_bd S u x 0
  rwa [distFrom_zero] at h

def lstRow (S C : List Int) (i : Nat) (m : Int) : Nat → Int
  | 0 => m
  | k + 1 => min (lstRow S C i m k) (dist S (gi C i) (gi C k))
def lstAll (S C : List Int) (m : Int) : Nat → Int
  | 0 => m
  | i + 1 => lstRow S C i (lstAll S C m i) i
def eLeast (S C : List Int) : Int := if eCode S C = 0 then (if C.length < 2 then 5 else 0) else eCode S C
def vLeast (S C : List Int) : Int := if eCode S C = 0 then (if C.length < 2 then 0 else lstAll S C S.length C.length) else 0

/-- one more at one place -/
def bump (L : List Int) (d : Int) : List Int := L.set d.toNat (gi L d.toNat + 1)
def dcRow (S C : List Int) (i : Nat) (L : List Int) : Nat → List Int
  | 0 => L
  | k + 1 => bump (dcRow S C i L k) (dist S (gi C i) (gi C k))
def dcAll (S C : List Int) : Nat → List Int
  | 0 => List.replicate (S.length + 1) 0
  | i + 1 => dcRow S C i (dcAll S C i) C.length
def vCounts (S C : List Int) : List Int := if eCode S C = 0 then dcAll S C C.length else []
end Cv
end Go.Proofs.Ytamebfbddoeflaa

namespace Go.Proofs.Ytamebfbddoeflaa
set_option linter.unusedVariables false
set_option linter.unusedSimpArgs false
namespace Cv

/-- the least one of f 0 .. f k -/
def minTo (f : Nat → Int) : Nat → Int
  | 0 => f 0
  | k + 1 => min (minTo f k) (f (k + 1))
theorem dist_comm (S : List Int) (u x : Int) : dist S u x = dist S x u := by
  unfold dist
  exact cnt_congr _ _ _ fun i _ => by rw [bne_comm]

/-- the least distance of a word from a code with words -/
def toW (S C : List Int) (x : Int) : Int := minTo (fun k => dist S (gi C k) x) (C.length - 1)
/-- the first one of 0 .. k with the greatest value, and this value -/
def farB (f : Nat → Int) : Nat → Int × Int
  | 0 => (0, f 0)
  | k + 1 => if (farB f k).2 < f (k + 1) then (((k + 1 : Nat) : Int), f (k + 1)) else farB f k
def farW (S C : List Int) : Int × Int := farB (fun (u : Nat) => toW S C (u : Int)) ((nW S).toNat - 1)

/-- the error of a space, a code and a radius -/
def eCov (S C : List Int) (r : Int) : Int := if eCode S C = 0 then (if 0 ≤ r ∧ r ≤ 8 then 0 else 2) else eCode S C
theorem eCov_zero {S C : List Int} {r : Int} (h : eCov S C r = 0) : eCode S C = 0 ∧ 0 ≤ r ∧ r ≤ 8 := by
  unfold eCov at h
  split at h
  · split at h
    · exact ⟨‹_›, ‹_›⟩
    · omega
  · omega
/-- the error of a space, a word and a radius -/
def eBall (S : List Int) (x r : Int) : Int := if eWords S [x] = 0 then (if 0 ≤ r ∧ r ≤ 8 then 0 else 2) else eWords S [x]
def orI (a b : Int) : Int := if a = 0 then b else a
/-- the error of a code and words -/
def eCW (S C T : List Int) : Int := orI (eCode S C) (eWords S T)
def eCov2 (S C T : List Int) (r : Int) : Int := orI (eCW S C T) (eBall S 0 r)
def eSome (S C T : List Int) : Int := if eCW S C T = 0 ∧ C.length = 0 then 5 else eCW S C T
theorem eWords_nil {S : List Int} (h : Sp S) : eWords S [] = 0 := eWords_ok ((isSp_iff S).2 h) fun i hi => by simp at hi
theorem eWords_0 {S : List Int} (h : Sp S) : eWords S [0] = 0 := eWords_ok ((isSp_iff S).2 h) fun i hi => by
  have := nW_bd h
  match i, hi with
  | 0, _ => rw [gi1]; omega
theorem eBall_sp {S : List Int} (h : Sp S) (r : Int) : eBall S 0 r = if 0 ≤ r ∧ r ≤ 8 then 0 else 2 := by unfold eBall; rw [if_pos (eWords_0 h)]
theorem eCW_nil (S C : List Int) : eCW S C [] = eCode S C := by
  unfold eCW orI
  split
  · rename_i h; rw [h]; exact eWords_nil (eCode_zero h).1
  · rfl
theorem eCov2_nil (S C : List Int) (r : Int) : eCov2 S C [] r = eCov S C r := by
  unfold eCov2 eCov orI
  rw [eCW_nil]
  split
  · rename_i h; rw [eBall_sp (eCode_zero h).1]
  · rfl
/-- the error of a code, a radius and a word -/
def eTimes (S C : List Int) (x r : Int) : Int := if eCov S C r = 0 then (if 0 ≤ x ∧ x < nW S then 0 else 2) else eCov S C r
/-- the error of a code that should have words -/
def eFull (S C : List Int) : Int := if eCode S C = 0 ∧ C.length = 0 then 5 else eCode S C
/-- the error of a code that should have words, and a word -/
def eTo (S C : List Int) (x : Int) : Int := eSome S C [x]

/-- how often a code covers a word -/
def tcov (S C : List Int) (r x : Int) : Nat → Int := cnt fun k => decide (dist S (gi C k) x ≤ r)
theorem tcov_bd (S C : List Int) (r x : Int) (k : Nat) : 0 ≤ tcov S C r x k ∧ tcov S C r x k ≤ k := cnt_bd _ _
def vTimes (S C : List Int) (x r : Int) : Int := if eTimes S C x r = 0 then tcov S C r x C.length else 0
def vTo (S C : List Int) (x : Int) : Int := if eTo S C x = 0 then toW S C x else 0
def vRadius (S C : List Int) : Int := if eFull S C = 0 then (farW S C).2 else 0
def vFarthest (S C : List Int) : Int := if eFull S C = 0 then (farW S C).1 else 0

/-- the words of a code with a distance from a word -/
def nearOut (S C : List Int) (x m : Int) : Nat → List Int
  | 0 => []
  | k + 1 => nearOut S C x m k ++ if dist S (gi C k) x = m then [gi C k] else []
def eNear (S C : List Int) (x : Int) : Int := eCW S C [x]
def vNear (S C : List Int) (x : Int) : List Int := if eNear S C x = 0 then nearOut S C x (toW S C x) C.length else []
/-- the least one of the first k, and 8 -/
def min8 (f : Nat → Int) : Nat → Int
  | 0 => 8
  | k + 1 => min (min8 f k) (f k)
/-- the distances of a word from the words of a list -/
def dFrom (S T : List Int) (x : Int) : List Int := T.map fun t => dist S x t
/-- the numbers 0 .. n - 1 -/
def upto (n : Nat) : List Int := (List.range n).map fun (i : Nat) => (i : Int)
theorem upto_len (n : Nat) : (upto n).length = n := by simp [upto]
theorem gi_upto (n i : Nat) (h : i < n) : gi (upto n) i = i := by simp [upto, gi, h]

/-- the first one of the first k with the greatest value, and this value; -1 ahead of the first -/
def farP (f : Nat → Int) : Nat → Int × Int
  | 0 => (0, -1)
  | k + 1 => if (farP f k).2 < f k then ((k : Int), f k) else farP f k
/-- the distance of word u from a code -/
def toF (S C : List Int) (u : Nat) : Int := toW S C (u : Int)
/-- the distance of word x from the word at k of a code -/
def dAt (S C : List Int) (x : Int) (k : Nat) : Int := dist S x (gi C k)
theorem cnt_at (p : Nat → Bool) (k : Nat) : cnt p (k + 1) = cnt p k + if p k then 1 else 0 := rfl
theorem tcov_yes (S C : List Int) (r x : Int) (k : Nat) (h : dist S x (gi C k) ≤ r) : tcov S C r x (k + 1) = tcov S C r x k + 1 := by
  unfold tcov; rw [cnt_at, if_pos (by rw [dist_comm]; simpa using h)]
theorem tcov_no (S C : List Int) (r x : Int) (k : Nat) (h : ¬ dist S x (gi C k) ≤ r) : tcov S C r x (k + 1) = tcov S C r x k := by
  unfold tcov; rw [cnt_at, if_neg (by rw [dist_comm]; simpa using h), Int.add_zero]

end Cv
end Go.Proofs.Ytamebfbddoeflaa

namespace Go.Proofs.Ytamebfbddoeflaa
set_option linter.unusedVariables false
set_option linter.unusedSimpArgs false
namespace Cv

/-- the product of the last k sizes -/
def restP (S : List Int) : Nat → Int
  | 0 => 1
  | k + 1 => restP S k * gi S (S.length - 1 - k)
theorem restP_pos (S : List Int) (h : ∀ i, i < S.length → 2 ≤ gi S i ∧ gi S i ≤ 4) (k : Nat) (hk : k ≤ S.length) : 1 ≤ restP S k := by
  induction k with
  | zero => simp [restP]
  | succ k ih =>
    have h1 := ih (by omega)
    have h2 := (h (S.length - 1 - k) (by omega)).1
    show 1 ≤ restP S k * gi S (S.length - 1 - k)
    have := Int.mul_le_mul h1 (show 1 ≤ gi S (S.length - 1 - k) by omega) (by omega) (by omega)
    omega
theorem prod_rest (S : List Int) (k : Nat) (hk : k ≤ S.length) : prodTo S S.length = prodTo S (S.length - k) * restP S k := by
  induction k with
  | zero => simp [restP]
  | succ k ih =>
    rw [ih (by omega)]
    have e : S.length - k = (S.length - (k + 1)) + 1 := by omega
    have e2 : S.length - 1 - k = S.length - (k + 1) := by omega
    rw [e, prodTo, restP, e2, Int.mul_assoc, Int.mul_comm (gi S _) (restP S k)]
theorem restP_all (S : List Int) : restP S S.length = nW S := by
  have := prod_rest S S.length (Nat.le_refl _)
  simpa [prodTo, nW] using this.symm
theorem quoTop_rest (S : List Int) (h : ∀ i, i < S.length → 2 ≤ gi S i ∧ gi S i ≤ 4) (u : Int) (k : Nat) (hk : k ≤ S.length) : quoTop S u k = u / restP S k := by
  induction k with
  | zero => simp [quoTop, restP]
  | succ k ih =>
    have := restP_pos S h k (by omega)
    rw [quoTop, ih (by omega), restP, Int.ediv_ediv_of_nonneg (by omega)]

/-- the last k digits: how many are different -/
def dT (S : List Int) (x u : Int) (k : Nat) : Int := cntTop (fun i => dig S u i != dig S x i) S.length k
theorem dT_bd (S : List Int) (x u : Int) (k : Nat) : 0 ≤ dT S x u k ∧ dT S x u k ≤ k := cntTop_bd _ _ _
theorem dT_all (S : List Int) (x u : Int) : dT S x u S.length = dist S u x := cntTop_all _ _

/-- the words that go on from st with k digits more -/
def allL (S : List Int) : Nat → Int → List Int
  | 0, st => [st]
  | k + 1, st => (List.range (gi S (S.length - 1 - k)).toNat).flatMap fun (d : Nat) => allL S k (st * gi S (S.length - 1 - k) + d)
theorem flat_range (q R : Nat) (f : Nat → Int) : ((List.range q).flatMap fun d => (List.range R).map fun t => f (d * R + t)) = (List.range (q * R)).map f := by
  induction q with
  | zero => simp
  | succ q ih =>
    rw [List.range_succ, List.flatMap_append, ih, Nat.add_mul, Nat.one_mul, List.range_add, List.map_append]
    simp
theorem allL_eq (S : List Int) (h : ∀ i, i < S.length → 2 ≤ gi S i ∧ gi S i ≤ 4) (k : Nat) (hk : k ≤ S.length) (st : Int) :
    allL S k st = (List.range (restP S k).toNat).map fun (t : Nat) => st * restP S k + t := by
  induction k generalizing st with
  | zero => simp [allL, restP]
  | succ k ih =>
    have hp := restP_pos S h k (by omega)
    have hq := h (S.length - 1 - k) (by omega)
    have e : (restP S (k + 1)).toNat = (gi S (S.length - 1 - k)).toNat * (restP S k).toNat := by
      rw [restP, Int.mul_comm, Int.toNat_mul (by omega) (by omega)]
    have e2 : ((restP S k).toNat : Int) = restP S k := Int.toNat_of_nonneg (by omega)
    rw [e, ← flat_range, allL]
    congr 1
    funext d
    rw [ih (by omega)]
    congr 1
    funext t
    rw [restP, Int.natCast_add, Int.natCast_mul, e2, Int.add_mul, ← Int.mul_assoc, Int.mul_right_comm, Int.add_assoc]

theorem mem_allL (S : List Int) (h : ∀ i, i < S.length → 2 ≤ gi S i ∧ gi S i ≤ 4) (k : Nat) (hk : k ≤ S.length) (st u : Int) (hu : u ∈ allL S k st) : quoTop S u k = st := by
  rw [allL_eq S h k hk] at hu
  obtain ⟨t, ht, rfl⟩ := List.mem_map.1 hu
  have hp := restP_pos S h k hk
  rw [List.mem_range] at ht
  rw [quoTop_rest S h _ k hk, Int.add_comm, Int.add_mul_ediv_right _ _ (by omega), Int.ediv_eq_zero_of_lt (by omega) (by omega)]
  omega
theorem dig_allL (S : List Int) (h : ∀ i, i < S.length → 2 ≤ gi S i ∧ gi S i ≤ 4) (k : Nat) (hk : k < S.length) (st : Int) (d : Nat) (hd : (d : Int) < gi S (S.length - 1 - k)) (u : Int) (hu : u ∈ allL S k (st * gi S (S.length - 1 - k) + d)) : dig S u (S.length - 1 - k) = d := by
  have := mem_allL S h k (by omega) _ u hu
  have e : S.length - 1 - (S.length - 1 - k) = k := by omega
  rw [dig, e, this, Int.add_comm, Int.add_mul_emod_self_right, Int.emod_eq_of_lt (by omega) hd]

/-- what the digit d costs at the place that has k places behind it -/
def cost (S : List Int) (x : Int) (k : Nat) (d : Int) : Int := if d = dig S x (S.length - 1 - k) then 0 else 1
/-- the walk: what it yields, from the first digits on -/
def walkL (S : List Int) (x r : Int) : Nat → Int → Int → List (Int × Int)
  | 0, st, far => [(st, far)]
  | k + 1, st, far => (List.range (gi S (S.length - 1 - k)).toNat).flatMap fun (d : Nat) =>
      if far + cost S x k d ≤ r then walkL S x r k (st * gi S (S.length - 1 - k) + d) (far + cost S x k d) else []
/-- what one round of the walk yields -/
def walkD (S : List Int) (x r : Int) (k : Nat) (st far : Int) (d : Nat) : List (Int × Int) :=
  if far + cost S x k d ≤ r then walkL S x r k (st * gi S (S.length - 1 - k) + d) (far + cost S x k d) else []
theorem walkL_succ (S : List Int) (x r : Int) (k : Nat) (st far : Int) : walkL S x r (k + 1) st far = (List.range (gi S (S.length - 1 - k)).toNat).flatMap (walkD S x r k st far) := rfl
def keep (S : List Int) (x r : Int) (k : Nat) (far u : Int) : Option (Int × Int) := if far + dT S x u k ≤ r then some (u, far + dT S x u k) else none

theorem dT_step (S : List Int) (x u : Int) (k : Nat) : dT S x u (k + 1) = dT S x u k + cost S x k (dig S u (S.length - 1 - k)) := by
  unfold dT cost
  rw [cntTop]
  by_cases e : dig S u (S.length - 1 - k) = dig S x (S.length - 1 - k) <;> simp [e]

theorem fm_congr {A B : Type} {f g : A → Option B} {l : List A} (h : ∀ u ∈ l, f u = g u) : l.filterMap f = l.filterMap g := by
  induction l with
  | nil => rfl
  | cons a l ih =>
    have h1 := h a (by simp)
    have h2 := ih fun u hu => h u (by simp [hu])
    simp only [List.filterMap_cons, h1, h2]
theorem walkL_eq (S : List Int) (h : ∀ i, i < S.length → 2 ≤ gi S i ∧ gi S i ≤ 4) (x r : Int) (k : Nat) (hk : k ≤ S.length) (st far : Int) (hf : far ≤ r) :
    walkL S x r k st far = (allL S k st).filterMap (keep S x r k far) := by
  induction k generalizing st far with
  | zero => simp [walkL, allL, keep, dT, cntTop, hf]
  | succ k ih =>
    rw [walkL, allL, List.filterMap_flatMap]
    rw [List.flatMap_def, List.flatMap_def]
    congr 1
    apply List.map_congr_left
    intro d hd
    have hq := h (S.length - 1 - k) (by omega)
    rw [List.mem_range] at hd
    have hd' : (d : Int) < gi S (S.length - 1 - k) := by omega
    have hk1 : ∀ u ∈ allL S k (st * gi S (S.length - 1 - k) + d), keep S x r (k + 1) far u = keep S x r k (far + cost S x k d) u := by
      intro u hu
      unfold keep
      rw [dT_step, dig_allL S h k (by omega) st d hd' u hu]
      have e : far + (dT S x u k + cost S x k d) = far + cost S x k d + dT S x u k := by omega
      rw [e]
    rw [fm_congr hk1]
    split
    · rename_i hc
      exact ih (by omega) _ _ hc
    · rename_i hc
      symm
      rw [List.filterMap_eq_nil_iff]
      intro u hu
      unfold keep
      rw [if_neg (by have := (dT_bd S x u k).1; omega)]

/-- the words of a ball with their distances, ascending -/
def ballP (S : List Int) (x r : Int) : List (Int × Int) := (List.range (nW S).toNat).filterMap fun (u : Nat) => if dist S u x ≤ r then some ((u : Int), dist S u x) else none
theorem walk_ball (S : List Int) (h : ∀ i, i < S.length → 2 ≤ gi S i ∧ gi S i ≤ 4) (x r : Int) (hr : 0 ≤ r) : walkL S x r S.length 0 0 = ballP S x r := by
  rw [walkL_eq S h x r S.length (Nat.le_refl _) 0 0 hr, allL_eq S h _ (Nat.le_refl _), List.filterMap_map, restP_all]
  unfold ballP
  congr 1
  funext t
  simp [keep, dT_all]

theorem ballP_map (S : List Int) (x r : Int) : (ballP S x r).map Prod.fst = ((List.range (nW S).toNat).filter fun (u : Nat) => decide (dist S u x ≤ r)).map Int.ofNat := by
  unfold ballP
  induction (List.range (nW S).toNat) with
  | nil => rfl
  | cons u l ih =>
    by_cases e : dist S u x ≤ r
    · simp only [List.filterMap_cons, List.filter_cons, e, if_true, decide_true, List.map_cons, ih]; rfl
    · simp only [List.filterMap_cons, List.filter_cons, e, if_false, decide_false, ih]; simp

end Cv
end Go.Proofs.Ytamebfbddoeflaa

namespace Go.Proofs.Ytamebfbddoeflaa
set_option linter.unusedVariables false
set_option linter.unusedSimpArgs false
namespace Cv

/-- a word with its distance from x, within r -/
abbrev WP (S : List Int) (x r : Int) := { p : Int × Int // (0 ≤ p.1 ∧ p.1 < nW S) ∧ p.2 = dist S p.1 x ∧ p.2 ≤ r }

/-- what the walk knows of its first digits -/
structure WayB (S : List Int) (x r : Int) (k : Nat) (st far : Int) : Prop where
  lo : 0 ≤ st
  hi : st < prodTo S (S.length - k)
  f0 : 0 ≤ far
  f1 : far ≤ (S.length - k : Nat)
  fr : far ≤ r
  on : ∀ u, u ∈ allL S k st → far + dT S x u k = dist S u x
theorem way_start (S : List Int) (x r : Int) (hr : 0 ≤ r) : WayB S x r S.length 0 0 :=
  ⟨by omega, by simp [prodTo], by omega, by omega, hr, fun u _ => by rw [dT_all]; omega⟩
theorem way_end {S : List Int} {x r st far : Int} (h : WayB S x r 0 st far) : (0 ≤ st ∧ st < nW S) ∧ far = dist S st x ∧ far ≤ r := by
  refine ⟨⟨h.lo, by have := h.hi; simpa [nW] using this⟩, ?_, h.fr⟩
  have := h.on st (by simp [allL])
  rw [← this]; simp [dT, cntTop]
theorem way_step {S : List Int} (hb : ∀ i, i < S.length → 2 ≤ gi S i ∧ gi S i ≤ 4) {x r st far : Int} {k : Nat} (hk : k + 1 ≤ S.length) (h : WayB S x r (k + 1) st far) (d : Nat) (hd : (d : Int) < gi S (S.length - 1 - k)) (hn : far + cost S x k d ≤ r) :
    WayB S x r k (st * gi S (S.length - 1 - k) + d) (far + cost S x k d) := by
  have hq := hb (S.length - 1 - k) (by omega)
  have hlo := h.lo
  have hhi := h.hi
  have hc : 0 ≤ cost S x k d ∧ cost S x k d ≤ 1 := by unfold cost; split <;> omega
  have e : S.length - k = (S.length - (k + 1)) + 1 := by omega
  have e2 : S.length - 1 - k = S.length - (k + 1) := by omega
  have h1 := h.f0
  have h2 := h.f1
  refine ⟨?_, ?_, by omega, by omega, hn, fun u hu => ?_⟩
  · have := Int.mul_nonneg hlo (show 0 ≤ gi S (S.length - 1 - k) by omega)
    omega
  · rw [e, prodTo, ← e2]
    have h3 : (st + 1) * gi S (S.length - 1 - k) ≤ prodTo S (S.length - (k + 1)) * gi S (S.length - 1 - k) := Int.mul_le_mul_of_nonneg_right (by omega) (by omega)
    rw [← e2] at h3
    rw [Int.add_mul, Int.one_mul] at h3
    rw [e2] at h3 hd ⊢
    omega
  · have hin : u ∈ allL S (k + 1) st := by
      rw [allL]
      exact List.mem_flatMap.2 ⟨d, List.mem_range.2 (by omega), hu⟩
    have := h.on u hin
    rw [dT_step, dig_allL S hb k (by omega) st d hd u hu] at this
    omega
theorem walkD_yes {S : List Int} {x r : Int} {k : Nat} {st far : Int} {d : Nat} (h : far + cost S x k d ≤ r) : walkD S x r k st far d = walkL S x r k (st * gi S (S.length - 1 - k) + d) (far + cost S x k d) := by unfold walkD; rw [if_pos h]
theorem walkD_no {S : List Int} {x r : Int} {k : Nat} {st far : Int} {d : Nat} (h : ¬ far + cost S x k d ≤ r) : walkD S x r k st far d = [] := by unfold walkD; rw [if_neg h]
/-- what the first j rounds of the walk yield -/
def walkU (S : List Int) (x r : Int) (k : Nat) (st far : Int) (j : Nat) : List (Int × Int) := (List.range j).flatMap (walkD S x r k st far)
theorem walkU_succ (S : List Int) (x r : Int) (k : Nat) (st far : Int) (j : Nat) : walkU S x r k st far (j + 1) = walkU S x r k st far j ++ walkD S x r k st far j := by
  unfold walkU; rw [List.range_succ, List.flatMap_append]; simp
theorem walkU_all (S : List Int) (x r : Int) (k : Nat) (st far : Int) (q : Nat) (hq : gi S (S.length - 1 - k) = (q : Int)) : walkU S x r k st far q = walkL S x r (k + 1) st far := by
  rw [walkL_succ, hq]; rfl
theorem walkU_len (S : List Int) (x r : Int) (k : Nat) (st far : Int) (q j : Nat) (hq : gi S (S.length - 1 - k) = (q : Int)) (hj : j ≤ q) : (walkU S x r k st far j).length ≤ (walkL S x r (k + 1) st far).length := by
  obtain ⟨m, rfl⟩ : ∃ m, q = j + m := ⟨q - j, by omega⟩
  rw [← walkU_all S x r k st far _ hq]
  unfold walkU
  rw [List.range_add, List.flatMap_append, List.length_append]
  omega
theorem cost_eq {S : List Int} {x : Int} {k : Nat} {d : Int} (h : d = dig S x (S.length - 1 - k)) : cost S x k d = 0 := by unfold cost; rw [if_pos h]
theorem cost_ne {S : List Int} {x : Int} {k : Nat} {d : Int} (h : d ≠ dig S x (S.length - 1 - k)) : cost S x k d = 1 := by unfold cost; rw [if_neg h]

end Cv
end Go.Proofs.Ytamebfbddoeflaa

namespace Go.Proofs.Ytamebfbddoeflaa
set_option linter.unusedVariables false
set_option linter.unusedSimpArgs false
namespace Cv

/-- those of 0 .. n - 1 that p holds of -/
def selTo (p : Nat → Bool) : Nat → List Int
  | 0 => []
  | k + 1 => selTo p k ++ if p k then [(k : Int)] else []
theorem selTo_yes {p : Nat → Bool} {k : Nat} (h : p k = true) : selTo p (k + 1) = selTo p k ++ [(k : Int)] := by rw [selTo, if_pos h]
theorem selTo_no {p : Nat → Bool} {k : Nat} (h : p k = false) : selTo p (k + 1) = selTo p k := by rw [selTo, if_neg (by simp [h]), List.append_nil]
theorem selTo_eq (p : Nat → Bool) (n : Nat) : selTo p n = ((List.range n).filter p).map Int.ofNat := by
  induction n with
  | zero => rfl
  | succ n ih =>
    rw [selTo, ih, List.range_succ, List.filter_append, List.map_append]
    congr 1
    by_cases h : p n = true
    · simp [h]
    · simp [h]
/-- the words of a ball, of a sphere -/
def ballB (S : List Int) (x r : Int) (u : Nat) : Bool := decide (dist S u x ≤ r)
def sphB (S : List Int) (x r : Int) (u : Nat) : Bool := decide (dist S u x = r)
def ballW (S : List Int) (x r : Int) : List Int := selTo (ballB S x r) (nW S).toNat
def sphW (S : List Int) (x r : Int) : List Int := selTo (sphB S x r) (nW S).toNat
theorem ballW_P (S : List Int) (x r : Int) : (ballP S x r).map Prod.fst = ballW S x r := by rw [ballP_map, ballW, selTo_eq]; rfl
def vBall (S : List Int) (x r : Int) : List Int := if eBall S x r = 0 then ballW S x r else []
def vSph (S : List Int) (x r : Int) : List Int := if eBall S x r = 0 then sphW S x r else []
end Cv
end Go.Proofs.Ytamebfbddoeflaa

namespace Go.Proofs.Ytamebfbddoeflaa
set_option linter.unusedVariables false
set_option linter.unusedSimpArgs false
namespace Cv

theorem selTo_bd (p : Nat → Bool) (n t : Nat) (ht : t < (selTo p n).length) : 0 ≤ gi (selTo p n) t ∧ gi (selTo p n) t < n := by
  induction n with
  | zero => simp [selTo] at ht
  | succ n ih =>
    by_cases h : p n = true
    · rw [selTo_yes h] at ht ⊢
      rw [List.length_append] at ht
      by_cases e : t < (selTo p n).length
      · rw [gi_append_lt _ _ _ e]; have := ih e; omega
      · have e2 : t = (selTo p n).length := by simp at ht; omega
        subst e2
        rw [gi_append_ge _ _ _ (Nat.le_refl _)]; simp [gi]; omega
    · have h' : p n = false := by simpa using h
      rw [selTo_no h'] at ht ⊢
      have := ih ht; omega
/-- how many of the first j of a list are u -/
def cntIn (L : List Int) (u : Int) (j : Nat) : Int := cnt (fun t => decide (gi L t = u)) j
/-- how often each word is covered -/
def timesL (S C : List Int) (r : Int) : List Int := (List.range (nW S).toNat).map fun (u : Nat) => tcov S C r u C.length
end Cv
end Go.Proofs.Ytamebfbddoeflaa

namespace Go.Proofs.Ytamebfbddoeflaa
set_option linter.unusedVariables false
set_option linter.unusedSimpArgs false
namespace Cv

/-- one factor 1 + (q - 1) x more -/
def mulF (q : Int) (f : Nat → Int) : Nat → Int
  | 0 => f 0
  | m + 1 => f (m + 1) + (q - 1) * f m
/-- the sum of f 0 .. f m -/
def sumF (f : Nat → Int) : Nat → Int
  | 0 => f 0
  | m + 1 => sumF f m + f (m + 1)
def one0 : Nat → Int
  | 0 => 1
  | _ + 1 => 0
/-- the coefficients of the first i factors -/
def coef (S : List Int) : Nat → Nat → Int
  | 0 => one0
  | i + 1 => mulF (gi S i) (coef S i)
/-- the coefficients of the last k factors, put to f -/
def coefL (S : List Int) (f : Nat → Int) : Nat → Nat → Int
  | 0 => f
  | k + 1 => mulF (gi S (S.length - 1 - k)) (coefL S f k)
/-- the sum of the first k -/
def sumB (f : Nat → Int) : Nat → Int
  | 0 => 0
  | k + 1 => sumB f k + f k
/-- the number of words of a ball -/
def sizeN (S : List Int) (r : Int) : Int := sumF (coef S S.length) r.toNat
def vSize (S : List Int) (r : Int) : Int := if eBall S 0 r = 0 then sizeN S r else 0
end Cv
end Go.Proofs.Ytamebfbddoeflaa

namespace Go.Proofs.Ytamebfbddoeflaa
set_option linter.unusedVariables false
set_option linter.unusedSimpArgs false
namespace Cv

/-- how often word u is covered -/
def tAt (S C : List Int) (r : Int) (u : Nat) : Int := tcov S C r u C.length
/-- the sum of f u - 1 over the first k -/
def exS (f : Nat → Int) : Nat → Int
  | 0 => 0
  | k + 1 => exS f k + (f k - 1)
/-- is one of the first k not covered? -/
def zTo (f : Nat → Int) : Nat → Bool
  | 0 => false
  | k + 1 => zTo f k || decide (f k = 0)
def eExc (S C : List Int) (r : Int) : Int := if eCov S C r = 0 then (if zTo (tAt S C r) (nW S).toNat = true then 5 else 0) else eCov S C r
def vExc (S C : List Int) (r : Int) : Int := if eCov S C r = 0 ∧ zTo (tAt S C r) (nW S).toNat = false then exS (tAt S C r) (nW S).toNat else 0
/-- numbers of words by how often they are covered, of the first k -/
def covTo (f : Nat → Int) (n : Nat) : Nat → List Int
  | 0 => List.replicate n 0
  | k + 1 => bump (covTo f n k) (f k)
def vCov (S C : List Int) (r : Int) : List Int := if eCov S C r = 0 then covTo (tAt S C r) (C.length + 1) (nW S).toNat else []
end Cv
end Go.Proofs.Ytamebfbddoeflaa

namespace Go.Proofs.Ytamebfbddoeflaa
set_option linter.unusedVariables false
set_option linter.unusedSimpArgs false
namespace Cv

/-- a strictly ascending list -/
def Asc (L : List Int) : Prop := L.Pairwise (· < ·)
theorem asc_lt {L : List Int} (h : Asc L) {i j : Nat} (hij : i < j) (hj : j < L.length) : gi L i < gi L j := by
  rw [gi_lt L i (by omega), gi_lt L j hj]
  exact List.pairwise_iff_getElem.1 h i j (by omega) hj hij
theorem asc_of {L : List Int} (h : ∀ i, 0 < i → i < L.length → gi L (i - 1) < gi L i) : Asc L := by
  have key : ∀ d i, i + d + 1 < L.length → gi L i < gi L (i + d + 1) := by
    intro d
    induction d with
    | zero => intro i hi; have := h (i + 1) (by omega) (by omega); simpa using this
    | succ d ih =>
      intro i hi
      have a := ih i (by omega)
      have b := h (i + (d + 1) + 1) (by omega) hi
      have e : i + (d + 1) + 1 - 1 = i + d + 1 := by omega
      rw [e] at b; omega
  refine List.pairwise_iff_getElem.2 fun i j hi hj hij => ?_
  rw [← gi_lt L i hi, ← gi_lt L j hj]
  have := key (j - i - 1) i (by omega)
  have e : i + (j - i - 1) + 1 = j := by omega
  rwa [e] at this
theorem asc_code {S C : List Int} (h : eCode S C = 0) : Asc C := asc_of (eCode_zero h).2.2
theorem gi_mem {L : List Int} {i : Nat} (h : i < L.length) : gi L i ∈ L := by rw [gi_lt L i h]; exact List.getElem_mem h
theorem mem_gi {L : List Int} {x : Int} (h : x ∈ L) : ∃ i, i < L.length ∧ gi L i = x := by
  obtain ⟨i, hi, e⟩ := List.getElem_of_mem h
  exact ⟨i, hi, by rw [gi_lt L i hi]; exact e⟩

/-- where a number is put: behind the last one that is not greater, among the first n -/
def putAt (L : List Int) (x : Int) : Nat → Nat
  | 0 => 0
  | n + 1 => if x < gi L n then putAt L x n else n + 1
theorem putAt_le (L : List Int) (x : Int) (n : Nat) : putAt L x n ≤ n := by
  induction n with
  | zero => exact Nat.le_refl _
  | succ n ih => rw [putAt]; split <;> omega
theorem putAt_gt {L : List Int} {x : Int} {n : Nat} (h : x < gi L n) : putAt L x (n + 1) = putAt L x n := by rw [putAt, if_pos h]
theorem putAt_here {L : List Int} {x : Int} {n : Nat} (h : ¬ x < gi L n) : putAt L x (n + 1) = n + 1 := by rw [putAt, if_neg h]
/-- a list with one number more -/
def putL (L : List Int) (x : Int) : List Int :=
  if 0 < putAt L x L.length ∧ gi L (putAt L x L.length - 1) = x then L
  else L.take (putAt L x L.length) ++ [x] ++ L.drop (putAt L x L.length)
theorem putL_len (L : List Int) (x : Int) : L.length ≤ (putL L x).length ∧ (putL L x).length ≤ L.length + 1 := by
  have := putAt_le L x L.length
  unfold putL
  split
  · omega
  · simp; omega
/-- numbers put into a list, one after the other -/
def putTo (L : List Int) (f : Nat → Int) : Nat → List Int
  | 0 => L
  | k + 1 => putL (putTo L f k) (f k)
/-- the numbers below n that have p, ascending -/
def selL (p : Nat → Bool) (n : Nat) : List Int := ((List.range n).filter p).map fun (i : Nat) => (i : Int)
theorem mem_selL (p : Nat → Bool) (n : Nat) (x : Int) : x ∈ selL p n ↔ ∃ i, i < n ∧ p i = true ∧ (i : Int) = x := by
  simp only [selL, List.mem_map, List.mem_filter, List.mem_range]
  constructor
  · rintro ⟨i, ⟨h1, h2⟩, e⟩; exact ⟨i, h1, h2, e⟩
  · rintro ⟨i, h1, h2, e⟩; exact ⟨i, ⟨h1, h2⟩, e⟩
theorem asc_selL (p : Nat → Bool) (n : Nat) : Asc (selL p n) := by
  have h : ((List.range n).filter p).Pairwise (· < ·) := List.Pairwise.filter p List.pairwise_lt_range
  exact List.Pairwise.map _ (fun a b h => by omega) h
/-- whether a number is in a list -/
def inL (C : List Int) (u : Nat) : Bool := decide ((u : Int) ∈ C)

end Cv
end Go.Proofs.Ytamebfbddoeflaa

namespace Go.Proofs.Ytamebfbddoeflaa
set_option linter.unusedVariables false
set_option linter.unusedSimpArgs false
namespace Cv

/-- the error of a space and two codes of it -/
def eTwo (S C D : List Int) : Int := if eCode S C = 0 then eCode S D else eCode S C
/-- the words of one of two codes -/
def togL (S C D : List Int) : List Int := selL (fun u => inL C u || inL D u) (nW S).toNat
def vTog (S C D : List Int) : List Int := if eTwo S C D = 0 then togL S C D else []
/-- the words among the first k of a code that are in another one -/
def comTo (C D : List Int) : Nat → List Int
  | 0 => []
  | k + 1 => comTo C D k ++ if gi C k ∈ D then [gi C k] else []
def vCom (S C D : List Int) : List Int := if eTwo S C D = 0 then comTo C D C.length else []
theorem code_len0 {S C : List Int} (h : eCode S C = 0) : C.length ≤ 1024 := by
  obtain ⟨hs, c1, c2⟩ := eCode_zero h
  have := nW_bd hs
  by_cases e : C.length = 0
  · omega
  · have := code_ge c1 c2 (C.length - 1) (by omega)
    have := c1 (C.length - 1) (by omega)
    omega
/-- the error of two spaces and a code of each -/
def eDs (S C X O : List Int) : Int :=
  if isSp S = true ∧ isSp X = true then (if eCode S C = 0 then (if eCode X O = 0 then (if isSp (S ++ X) = true then 0 else 3) else eCode X O) else eCode S C) else 1
/-- the words of the sums of the first k words of a code -/
def dsTo (C O : List Int) (n : Int) : Nat → List Int
  | 0 => []
  | k + 1 => dsTo C O n k ++ O.map fun y => gi C k * n + y
/-- .. and of the next one with the first j words of the other code -/
def dsIn (C O : List Int) (n : Int) (k j : Nat) : List Int := dsTo C O n k ++ (O.take j).map fun y => gi C k * n + y
def vDsS (S C X O : List Int) : List Int := if eDs S C X O = 0 then S ++ X else []
def vDsC (S C X O : List Int) : List Int := if eDs S C X O = 0 then dsTo C O (nW X) C.length else []
end Cv
end Go.Proofs.Ytamebfbddoeflaa

namespace Go.Proofs.Ytamebfbddoeflaa
set_option linter.unusedVariables false
set_option linter.unusedSimpArgs false
namespace Cv

theorem wordTo_inj {S D E : List Int} (n : Nat) (hS : ∀ i, i < n → 2 ≤ gi S i ∧ gi S i ≤ 4) (hD : ∀ i, i < n → 0 ≤ gi D i ∧ gi D i < gi S i) (hE : ∀ i, i < n → 0 ≤ gi E i ∧ gi E i < gi S i)
    (h : wordTo S D n = wordTo S E n) : ∀ i, i < n → gi D i = gi E i := by
  induction n with
  | zero => intro i hi; omega
  | succ n ih =>
    simp only [wordTo] at h
    have s := hS n (by omega)
    have d := hD n (by omega)
    have e := hE n (by omega)
    have h1 : gi D n = gi E n := by
      have a : (wordTo S D n * gi S n + gi D n) % gi S n = gi D n := by
        rw [Int.add_comm, Int.add_mul_emod_self_right]; exact Int.emod_eq_of_lt d.1 d.2
      have b : (wordTo S E n * gi S n + gi E n) % gi S n = gi E n := by
        rw [Int.add_comm, Int.add_mul_emod_self_right]; exact Int.emod_eq_of_lt e.1 e.2
      rw [← a, h, b]
    have h2 : wordTo S D n = wordTo S E n := by
      have : wordTo S D n * gi S n = wordTo S E n * gi S n := by omega
      exact Int.eq_of_mul_eq_mul_right (by omega) this
    intro i hi
    by_cases e2 : i = n
    · subst e2; exact h1
    · exact ih (fun i hi => hS i (by omega)) (fun i hi => hD i (by omega)) (fun i hi => hE i (by omega)) h2 i (by omega)
theorem sumW_inj {S : List Int} (hS : Sp S) {u v x : Int} (hu : 0 ≤ u ∧ u < nW S) (hv : 0 ≤ v ∧ v < nW S) (h : sumW S u x = sumW S v x) : u = v := by
  have key : ∀ i, i < S.length → gi (sumD S (digs S u) (digs S x)) i = gi (sumD S (digs S v) (digs S x)) i := by
    refine wordTo_inj S.length hS.bd ?_ ?_ h
    all_goals
      intro i hi
      have s := hS.bd i hi
      rw [gi_sumD _ _ _ _ hi]
      exact ⟨Int.emod_nonneg _ (by omega), Int.emod_lt_of_pos _ (by omega)⟩
  have hd : digs S u = digs S v := by
    refine ext_gi (by rw [digs_length, digs_length]) fun i hi => ?_
    rw [digs_length] at hi
    have k := key i hi
    rw [gi_sumD _ _ _ _ hi, gi_sumD _ _ _ _ hi] at k
    have s := hS.bd i hi
    have a := dig_bd S u hS.bd i hi
    have b := dig_bd S v hS.bd i hi
    rw [← gi_digs S u i hi] at a
    rw [← gi_digs S v i hi] at b
    have e1 : ((gi (digs S u) i + gi (digs S x) i) - (gi (digs S v) i + gi (digs S x) i)) % gi S i = 0 := Int.emod_eq_emod_iff_emod_sub_eq_zero.1 k
    have e2 : (gi (digs S u) i - gi (digs S v) i) % gi S i = 0 := by
      have : (gi (digs S u) i + gi (digs S x) i) - (gi (digs S v) i + gi (digs S x) i) = gi (digs S u) i - gi (digs S v) i := by omega
      rwa [this] at e1
    obtain ⟨m, hm⟩ := Int.dvd_of_emod_eq_zero e2
    have hm0 : m = 0 := by
      rcases Int.lt_trichotomy m 0 with h0 | h0 | h0
      · have : gi S i * m ≤ gi S i * (-1) := Int.mul_le_mul_of_nonneg_left (by omega) (by omega)
        omega
      · exact h0
      · have : gi S i * 1 ≤ gi S i * m := Int.mul_le_mul_of_nonneg_left (by omega) (by omega)
        omega
    rw [hm0] at hm; omega
  rw [← wordTo_digs S u hS hu.1 hu.2, ← wordTo_digs S v hS hv.1 hv.2, hd]

/-- a list in its order -/
def sorted (L : List Int) : List Int := L.mergeSort fun x y => decide (x ≤ y)
/-- the list of the sums of all words of a code with x -/
def sumsL (S C : List Int) (x : Int) : List Int := C.map fun u => sumW S u x
/-- the error of a space, a code and a word -/
def eShift (S C : List Int) (x : Int) : Int := orI (eCode S C) (eWords S [x])
def vShift (S C : List Int) (x : Int) : List Int := if eShift S C x = 0 then sorted (sumsL S C x) else []
end Cv
end Go.Proofs.Ytamebfbddoeflaa

namespace Go.Proofs.Ytamebfbddoeflaa
set_option linter.unusedVariables false
set_option linter.unusedSimpArgs false
namespace Cv

/-- the first k words that are not covered -/
def uncP (S C : List Int) (r : Int) : Nat → Bool := fun u => tAt S C r u == 0
def vUnc (S C : List Int) (r : Int) : List Int := if eCov S C r = 0 then selL (uncP S C r) (nW S).toNat else []
/-- whether a code covers the space -/
def vCovS (S C : List Int) (r : Int) : Bool := if eCov S C r = 0 then decide ((selL (uncP S C r) (nW S).toNat).length = 0) else false

end Cv
end Go.Proofs.Ytamebfbddoeflaa

namespace Go.Proofs.Ytamebfbddoeflaa
namespace Cv

/-- the error of a space and a number that is to be in lo .. hi -/
def eNum (S : List Int) (x lo hi : Int) : Int := if isSp S = true then (if lo ≤ x ∧ x ≤ hi then 0 else 2) else 1
theorem eNum_inv {S : List Int} {x lo hi : Int} (h : isSp S = false) : eNum S x lo hi = 1 := by simp [eNum, h]
theorem eNum_ok {S : List Int} {x lo hi : Int} (h : isSp S = true) (h1 : lo ≤ x) (h2 : x ≤ hi) : eNum S x lo hi = 0 := by unfold eNum; rw [if_pos h, if_pos ⟨h1, h2⟩]
theorem eNum_out {S : List Int} {x lo hi : Int} (h : isSp S = true) (h1 : ¬ (lo ≤ x ∧ x ≤ hi)) : eNum S x lo hi = 2 := by unfold eNum; rw [if_pos h, if_neg h1]
theorem eNum_zero {S : List Int} {x lo hi : Int} (h : eNum S x lo hi = 0) : Sp S ∧ lo ≤ x ∧ x ≤ hi := by
  unfold eNum at h
  split at h
  · rename_i hs
    split at h
    · rename_i hx; exact ⟨(isSp_iff S).1 hs, hx.1, hx.2⟩
    · simp at h
  · simp at h
/-- the error of a space, a code and a distance -/
def eAp (S C : List Int) (d : Int) : Int := orI (eCode S C) (eNum S d 1 9)
def vBB (S : List Int) (r : Int) : Int := if eNum S r 0 8 = 0 then (nW S + sizeN S r - 1) / sizeN S r else 0
def vPack (S : List Int) (d : Int) : Int := if eNum S d 1 9 = 0 then nW S / sizeN S ((d - 1) / 2) else 0

/-- whether the first k words of a code are at a distance of at least d from x -/
def farTo (S C : List Int) (x d : Int) : Nat → Bool
  | 0 => true
  | k + 1 => farTo S C x d k && decide (d ≤ dist S (gi C k) x)
/-- whether the first k words of a code are apart by d -/
def apTo (S C : List Int) (d : Int) : Nat → Bool
  | 0 => true
  | k + 1 => apTo S C d k && farTo S C (gi C k) d k
def vApart (S C : List Int) (d : Int) : Bool := if eAp S C d = 0 then apTo S C d C.length else false

end Cv
end Go.Proofs.Ytamebfbddoeflaa

namespace Go.Proofs.Ytamebfbddoeflaa
set_option linter.unusedVariables false
namespace Cv

theorem tcov_zero (S C : List Int) (r x : Int) (k : Nat) (hk : k ≤ C.length) : tcov S C r x k = 0 ↔ ∀ j, j < k → ¬ dist S x (gi C j) ≤ r := by
  induction k with
  | zero => simp [tcov, cnt]
  | succ k ih =>
    have hb := tcov_bd S C r x k
    by_cases h : dist S x (gi C k) ≤ r
    · rw [tcov_yes _ _ _ _ _ h]
      constructor
      · intro g; omega
      · intro g; exact absurd h (g k (by omega))
    · rw [tcov_no _ _ _ _ _ h, ih (by omega)]
      constructor
      · intro g j hj
        by_cases e : j = k
        · subst e; exact h
        · exact g j (by omega)
      · exact fun g j hj => g j (by omega)
theorem uncP_in (S C : List Int) (r : Int) (u : Nat) : uncP S C r u = decide (¬ ∃ c ∈ C, dist S u c ≤ r) := by
  unfold uncP tAt
  rw [Bool.eq_iff_iff, beq_iff_eq, decide_eq_true_eq, tcov_zero _ _ _ _ _ (Nat.le_refl _)]
  constructor
  · rintro h ⟨c, hc, hd⟩
    obtain ⟨i, hi, e⟩ := mem_gi hc
    exact h i hi (by rw [e]; exact hd)
  · exact fun h j hj hd => h ⟨gi C j, gi_mem hj, hd⟩
theorem selL_nil (p : Nat → Bool) (n : Nat) : (selL p n).length = 0 ↔ ∀ u, u < n → p u = false := by
  rw [List.length_eq_zero_iff]
  constructor
  · intro h u hu
    cases e : p u with
    | false => rfl
    | true =>
      have : ((u : Nat) : Int) ∈ selL p n := (mem_selL p n u).2 ⟨u, hu, e, rfl⟩
      rw [h] at this; simp at this
  · intro h
    apply List.eq_nil_iff_forall_not_mem.2
    intro x hx
    obtain ⟨i, hi, hp, _⟩ := (mem_selL p n x).1 hx
    rw [h i hi] at hp; cases hp
/-- whether the first k words hold one that can be put to a code -/
def growTo (S C : List Int) (d : Int) : Nat → Bool
  | 0 => false
  | k + 1 => growTo S C d k || (!(inL C k) && farTo S C k d C.length)
def vGrow (S C : List Int) (d : Int) : Bool := if eAp S C d = 0 then growTo S C d (nW S).toNat else false

/-- the greedy code apart by d, of the first k words -/
def gaTo (S : List Int) (d : Int) : Nat → List Int
  | 0 => []
  | k + 1 => gaTo S d k ++ if farTo S (gaTo S d k) k d (gaTo S d k).length then [(k : Int)] else []
def vGrA (S : List Int) (d : Int) : List Int := if eNum S d 1 9 = 0 then gaTo S d (nW S).toNat else []
end Cv
end Go.Proofs.Ytamebfbddoeflaa

namespace Go.Proofs.Ytamebfbddoeflaa
set_option linter.unusedVariables false
set_option linter.unusedSimpArgs false
namespace Cv

def Desc (L : List Int) : Prop := L.Pairwise (· ≥ ·)
/-- between two steps of putting x to the list L -/
structure InsI (L : List Int) (x : Int) (T : List Int) (at' : Nat) : Prop where
  len : T.length = L.length + 1
  le : at' ≤ L.length
  lo : ∀ j, j < at' → gi T j = gi L j
  hi : ∀ j, at' ≤ j → j < L.length → gi T (j + 1) = gi L j ∧ gi L j < x
/-- the product of all but the k greatest sizes -/
def overN (S : List Int) (k : Int) : Int := prodTo (sorted S) (S.length - k.toNat)
def vFreeB (S : List Int) (r : Int) : Int := if eNum S r 0 8 = 0 then overN S r else 0
def vPlaceB (S : List Int) (d : Int) : Int := if eNum S d 1 9 = 0 then overN S (d - 1) else 0

end Cv
end Go.Proofs.Ytamebfbddoeflaa
