/-
  Plain facts on the number of words of a ball: coefficients of a product. By an AI agent.
-/
import Derived.Test.YtlkfmopcdmppmaaMath9
namespace Go.Proofs.Ytlkfmopcdmppmaa
set_option linter.unusedVariables false
set_option linter.unusedSimpArgs false
namespace Cv

/-- one factor 1 + (q - 1) x more -/
def mulF (q : Int) (f : Nat → Int) : Nat → Int
  | 0 => f 0
  | m + 1 => f (m + 1) + (q - 1) * f m
theorem mulF_comm (p q : Int) (f : Nat → Int) (m : Nat) : mulF p (mulF q f) m = mulF q (mulF p f) m := by
  match m with
  | 0 => rfl
  | 1 => simp only [mulF]; rw [Int.add_assoc, Int.add_assoc, Int.add_comm ((q - 1) * f 0)]
  | m + 2 =>
    simp only [mulF]
    rw [Int.mul_add, Int.mul_add, ← Int.mul_assoc, ← Int.mul_assoc, Int.mul_comm (q - 1) (p - 1)]
    omega
theorem mulF_congr (q : Int) {f g : Nat → Int} (h : ∀ m, f m = g m) (m : Nat) : mulF q f m = mulF q g m := by
  match m with
  | 0 => exact h 0
  | m + 1 => simp only [mulF]; rw [h, h]
/-- the sum of f 0 .. f m -/
def sumF (f : Nat → Int) : Nat → Int
  | 0 => f 0
  | m + 1 => sumF f m + f (m + 1)
theorem sumF_mul (q : Int) (f : Nat → Int) (m : Nat) : sumF (mulF q f) m = mulF q (sumF f) m := by
  induction m with
  | zero => rfl
  | succ m ih =>
    rw [sumF, ih]
    match m with
    | 0 => simp only [mulF, sumF]; omega
    | m + 1 => simp only [mulF, sumF]; rw [Int.mul_add]; omega
theorem sumF_congr {f g : Nat → Int} (h : ∀ m, f m = g m) (m : Nat) : sumF f m = sumF g m := by
  induction m with
  | zero => exact h 0
  | succ m ih => rw [sumF, sumF, ih, h]
def one0 : Nat → Int
  | 0 => 1
  | _ + 1 => 0
theorem sumF_one (m : Nat) : sumF one0 m = 1 := by
  induction m with
  | zero => rfl
  | succ m ih => rw [sumF, ih]; rfl
/-- the coefficients of the first i factors -/
def coef (S : List Int) : Nat → Nat → Int
  | 0 => one0
  | i + 1 => mulF (gi S i) (coef S i)
/-- the coefficients of the last k factors, put to f -/
def coefL (S : List Int) (f : Nat → Int) : Nat → Nat → Int
  | 0 => f
  | k + 1 => mulF (gi S (S.length - 1 - k)) (coefL S f k)
theorem coefL_congr (S : List Int) {f g : Nat → Int} (h : ∀ m, f m = g m) (k m : Nat) : coefL S f k m = coefL S g k m := by
  induction k generalizing m with
  | zero => exact h m
  | succ k ih => exact mulF_congr _ ih m
theorem coefL_mul (S : List Int) (q : Int) (f : Nat → Int) (k m : Nat) : coefL S (mulF q f) k m = mulF q (coefL S f k) m := by
  induction k generalizing m with
  | zero => rfl
  | succ k ih => rw [coefL, mulF_congr _ ih m, mulF_comm]; rfl
theorem coefL_sum (S : List Int) (f : Nat → Int) (k m : Nat) : sumF (coefL S f k) m = coefL S (sumF f) k m := by
  induction k generalizing m with
  | zero => rfl
  | succ k ih => rw [coefL, sumF_mul, mulF_congr _ ih m]; rfl
/-- the first i factors and the last n - i ones are all of them -/
theorem coef_all (S : List Int) (i : Nat) (hi : i ≤ S.length) (m : Nat) : coefL S (coef S i) (S.length - i) m = coefL S one0 S.length m := by
  induction i generalizing m with
  | zero => rfl
  | succ i ih =>
    have h := ih (by omega) m
    have e : S.length - i = (S.length - (i + 1)) + 1 := by omega
    have e2 : S.length - 1 - (S.length - (i + 1)) = i := by omega
    rw [← h, e, coefL, e2, ← coefL_mul]; rfl
theorem coef_L (S : List Int) (m : Nat) : coef S S.length m = coefL S one0 S.length m := by
  have := coef_all S S.length (Nat.le_refl _) m
  rwa [Nat.sub_self] at this

/-- how many words the walk yields: by what is left of the radius -/
theorem flat_len (q x : Nat) (hx : x < q) (g : Nat → List (Int × Int)) (a b : Nat) (ha : (g x).length = a) (hb : ∀ d, d ≠ x → (g d).length = b) : ((List.range q).flatMap g).length = a + (q - 1) * b := by
  have key : ∀ n, n ≤ q → ((List.range n).flatMap g).length = (if x < n then a + (n - 1) * b else n * b) := by
    intro n
    induction n with
    | zero => intro _; simp
    | succ n ih =>
      intro hn
      rw [List.range_succ, List.flatMap_append, List.length_append, ih (by omega)]
      simp only [List.flatMap_cons, List.flatMap_nil, List.append_nil]
      by_cases e : n = x
      · subst e
        rw [if_neg (by omega), if_pos (by omega), ha, Nat.add_sub_cancel]; omega
      · rw [hb n e]
        by_cases h : x < n
        · rw [if_pos h, if_pos (by omega), Nat.add_sub_cancel]
          obtain ⟨n', rfl⟩ : ∃ n', n = n' + 1 := ⟨n - 1, by omega⟩
          rw [Nat.add_sub_cancel, Nat.add_mul]; omega
        · rw [if_neg h, if_neg (by omega), Nat.add_mul]; omega
  rw [key q (Nat.le_refl _), if_pos hx]
theorem walk_count (S : List Int) (h : ∀ i, i < S.length → 2 ≤ gi S i ∧ gi S i ≤ 4) (x : Int) (r : Int) (k : Nat) (hk : k ≤ S.length) (st far : Int) (m : Nat) (hm : far + m = r) :
    ((walkL S x r k st far).length : Int) = coefL S (fun _ => 1) k m := by
  induction k generalizing st far m with
  | zero => simp [walkL, coefL]
  | succ k ih =>
    have hq := h (S.length - 1 - k) (by omega)
    obtain ⟨d1, d2⟩ := dig_bd S x h (S.length - 1 - k) (by omega)
    obtain ⟨e, he⟩ : ∃ e : Nat, dig S x (S.length - 1 - k) = (e : Int) := ⟨(dig S x (S.length - 1 - k)).toNat, by omega⟩
    obtain ⟨q, hqn⟩ : ∃ q : Nat, gi S (S.length - 1 - k) = (q : Int) := ⟨(gi S (S.length - 1 - k)).toNat, by omega⟩
    have heq : e < q := by omega
    rw [walkL_succ, hqn]
    have hsame : (walkD S x r k st far e).length = ((coefL S (fun _ => 1) k m).toNat) := by
      have c0 : cost S x k (e : Int) = 0 := cost_eq he.symm
      rw [walkD_yes (by rw [c0]; omega), c0]
      have := ih (by omega) (st * gi S (S.length - 1 - k) + (e : Int)) (far + 0) m (by omega)
      omega
    match m with
    | 0 =>
      have hoth : ∀ d : Nat, d ≠ e → (walkD S x r k st far d).length = 0 := fun d hd => by
        have c1 : cost S x k (d : Int) = 1 := cost_ne (by rw [he]; omega)
        rw [walkD_no (by rw [c1]; omega)]; rfl
      have hz := ih (by omega) 0 far 0 (by omega)
      show (((List.range ((q : Int)).toNat).flatMap (walkD S x r k st far)).length : Int) = _
      rw [Int.toNat_natCast, flat_len q e heq _ _ _ hsame hoth]
      simp only [coefL, mulF]
      omega
    | m + 1 =>
      have hoth : ∀ d : Nat, d ≠ e → (walkD S x r k st far d).length = (coefL S (fun _ => 1) k m).toNat := fun d hd => by
        have c1 : cost S x k (d : Int) = 1 := cost_ne (by rw [he]; omega)
        rw [walkD_yes (by rw [c1]; omega), c1]
        have := ih (by omega) (st * gi S (S.length - 1 - k) + (d : Int)) (far + 1) m (by omega)
        omega
      have hz := ih (by omega) 0 far (m + 1) (by omega)
      have hz2 := ih (by omega) 0 (far + 1) m (by omega)
      show (((List.range ((q : Int)).toNat).flatMap (walkD S x r k st far)).length : Int) = _
      rw [Int.toNat_natCast, flat_len q e heq _ _ _ hsame hoth]
      simp only [coefL, mulF, hqn]
      have e1 : ((q - 1 : Nat) : Int) = (q : Int) - 1 := by omega
      rw [Int.natCast_add, Int.natCast_mul, e1, Int.toNat_of_nonneg (by omega), Int.toNat_of_nonneg (by omega)]
/-- the number of words of a ball is the sum of the coefficients up to r -/
theorem ball_count (S : List Int) (h : ∀ i, i < S.length → 2 ≤ gi S i ∧ gi S i ≤ 4) (x : Int) (r : Nat) : ((ballP S x r).length : Int) = sumF (coef S S.length) r := by
  rw [← walk_ball S h x r (by omega), walk_count S h x r S.length (Nat.le_refl _) 0 0 r (by omega), sumF_congr (coef_L S) r, coefL_sum]
  exact coefL_congr S (fun m => (sumF_one m).symm) _ _

theorem coef_zero (S : List Int) (i k : Nat) (h : i < k) : coef S i k = 0 := by
  induction i generalizing k with
  | zero => obtain ⟨k, rfl⟩ : ∃ j, k = j + 1 := ⟨k - 1, by omega⟩
            rfl
  | succ i ih =>
    obtain ⟨k, rfl⟩ : ∃ j, k = j + 1 := ⟨k - 1, by omega⟩
    simp only [coef, mulF]
    rw [ih (k + 1) (by omega), ih k (by omega)]; simp
theorem coef_bd (S : List Int) (i : Nat) (h : ∀ j, j < i → 2 ≤ gi S j ∧ gi S j ≤ 4) (k : Nat) : 0 ≤ coef S i k ∧ coef S i k ≤ 4 ^ i := by
  induction i generalizing k with
  | zero => match k with
            | 0 => simp [coef, one0]
            | k + 1 => simp [coef, one0]
  | succ i ih =>
    have hq := h i (by omega)
    have h4 : (4 : Int) ^ (i + 1) = 4 ^ i * 4 := by rw [Int.pow_succ]
    match k with
    | 0 => simp only [coef, mulF]; have := ih (fun j hj => h j (by omega)) 0; omega
    | k + 1 =>
      simp only [coef, mulF]
      have h1 := ih (fun j hj => h j (by omega)) (k + 1)
      have h2 := ih (fun j hj => h j (by omega)) k
      have h3 : 0 ≤ (gi S i - 1) * coef S i k := Int.mul_nonneg (by omega) h2.1
      have h5 : (gi S i - 1) * coef S i k ≤ 3 * coef S i k := Int.mul_le_mul_of_nonneg_right (by omega) h2.1
      omega
theorem coef_le (S : List Int) (i : Nat) (h : ∀ j, j < i → 2 ≤ gi S j ∧ gi S j ≤ 4) (hi : i ≤ 8) (k : Nat) : 0 ≤ coef S i k ∧ coef S i k ≤ 65536 := by
  have := coef_bd S i h k
  have h2 : (4 : Int) ^ i ≤ 65536 := by
    have : i = 0 ∨ i = 1 ∨ i = 2 ∨ i = 3 ∨ i = 4 ∨ i = 5 ∨ i = 6 ∨ i = 7 ∨ i = 8 := by omega
    rcases this with rfl | rfl | rfl | rfl | rfl | rfl | rfl | rfl | rfl <;> decide
  omega
/-- the sum of the first k -/
def sumB (f : Nat → Int) : Nat → Int
  | 0 => 0
  | k + 1 => sumB f k + f k
theorem sumB_F (f : Nat → Int) (m : Nat) : sumB f (m + 1) = sumF f m := by
  induction m with
  | zero => simp [sumB, sumF]
  | succ m ih => rw [sumB, ih]; rfl
theorem sumB_zero (f : Nat → Int) (n m : Nat) (h : ∀ k, n ≤ k → f k = 0) (hm : n ≤ m) : sumB f m = sumB f n := by
  induction m with
  | zero => obtain rfl : n = 0 := by omega
            rfl
  | succ m ih =>
    by_cases e : n = m + 1
    · rw [e]
    · rw [sumB, ih (by omega), h m (by omega), Int.add_zero]
theorem sumB_bd (f : Nat → Int) (b : Int) (h : ∀ k, 0 ≤ f k ∧ f k ≤ b) (k : Nat) : 0 ≤ sumB f k ∧ sumB f k ≤ k * b := by
  induction k with
  | zero => simp [sumB]
  | succ k ih =>
    have := h k
    rw [sumB]
    have e : ((k + 1 : Nat) : Int) * b = (k : Int) * b + b := by rw [Int.natCast_add, Int.add_mul]; simp
    omega
/-- the number of words of a ball -/
def sizeN (S : List Int) (r : Int) : Int := sumF (coef S S.length) r.toNat
theorem sizeN_B (S : List Int) (r : Int) (hr : 0 ≤ r) (k : Nat) (hk : k = S.length + 1 ∧ (k : Int) ≤ r + 1 ∨ (k : Int) = r + 1) : sumB (coef S S.length) k = sizeN S r := by
  unfold sizeN
  rw [← sumB_F]
  rcases hk with ⟨rfl, h⟩ | h
  · exact (sumB_zero _ _ _ (fun j hj => coef_zero S S.length j (by omega)) (by omega)).symm
  · rw [show k = r.toNat + 1 by omega]
def vSize (S : List Int) (r : Int) : Int := if eBall S 0 r = 0 then sizeN S r else 0
/-- a row's step -/
theorem coef_step (S : List Int) (i j : Nat) : coef S (i + 1) (j + 1) = coef S i (j + 1) + coef S i j * (gi S i - 1) := by
  show coef S i (j + 1) + (gi S i - 1) * coef S i j = _
  rw [Int.mul_comm]

end Cv
end Go.Proofs.Ytlkfmopcdmppmaa
