/-
  Plain facts on least distances, farthest words and words covered. By an AI agent.
-/
import Derived.Test.YtlkfmopcdmppmaaMath4
namespace Go.Proofs.Ytlkfmopcdmppmaa
set_option linter.unusedVariables false
set_option linter.unusedSimpArgs false
namespace Cv

/-- the least one of f 0 .. f k -/
def minTo (f : Nat → Int) : Nat → Int
  | 0 => f 0
  | k + 1 => min (minTo f k) (f (k + 1))
theorem minTo_le (f : Nat → Int) (k j : Nat) (h : j ≤ k) : minTo f k ≤ f j := by
  induction k with
  | zero => obtain rfl : j = 0 := by omega
            exact Int.le_refl _
  | succ k ih =>
    show min _ _ ≤ _
    by_cases e : j = k + 1
    · subst e; exact Int.min_le_right _ _
    · exact Int.le_trans (Int.min_le_left _ _) (ih (by omega))
theorem minTo_congr (f g : Nat → Int) (k : Nat) (h : ∀ j, j ≤ k → f j = g j) : minTo f k = minTo g k := by
  induction k with
  | zero => exact h 0 (Nat.le_refl _)
  | succ k ih => show min _ _ = min _ _; rw [ih fun j hj => h j (by omega), h (k + 1) (Nat.le_refl _)]
theorem minTo_bd (f : Nat → Int) (k : Nat) (a b : Int) (h : ∀ j, j ≤ k → a ≤ f j ∧ f j ≤ b) : a ≤ minTo f k ∧ minTo f k ≤ b := by
  induction k with
  | zero => exact h 0 (Nat.le_refl _)
  | succ k ih =>
    have h1 := ih fun j hj => h j (by omega)
    have h2 := h (k + 1) (Nat.le_refl _)
    show a ≤ min _ _ ∧ min _ _ ≤ b
    omega

theorem cnt_comm (p q : Nat → Bool) (n : Nat) (h : ∀ i, i < n → p i = q i) : cnt p n = cnt q n := cnt_congr p q n h
theorem dist_comm (S : List Int) (u x : Int) : dist S u x = dist S x u := by
  unfold dist
  exact cnt_congr _ _ _ fun i _ => by rw [bne_comm]

/-- the least distance of a word from a code with words -/
def toW (S C : List Int) (x : Int) : Int := minTo (fun k => dist S (gi C k) x) (C.length - 1)
theorem toW_bd (S C : List Int) (x : Int) : 0 ≤ toW S C x ∧ toW S C x ≤ S.length := minTo_bd _ _ _ _ fun j _ => dist_bd S _ _

/-- the first one of 0 .. k with the greatest value, and this value -/
def farB (f : Nat → Int) : Nat → Int × Int
  | 0 => (0, f 0)
  | k + 1 => if (farB f k).2 < f (k + 1) then (((k + 1 : Nat) : Int), f (k + 1)) else farB f k
theorem farB_bd (f : Nat → Int) (k : Nat) (a b : Int) (h : ∀ j, j ≤ k → a ≤ f j ∧ f j ≤ b) : (0 ≤ (farB f k).1 ∧ (farB f k).1 ≤ k) ∧ a ≤ (farB f k).2 ∧ (farB f k).2 ≤ b := by
  induction k with
  | zero => exact ⟨⟨Int.le_refl _, Int.le_refl _⟩, h 0 (Nat.le_refl _)⟩
  | succ k ih =>
    have h1 := ih fun j hj => h j (by omega)
    have h2 := h (k + 1) (Nat.le_refl _)
    show (0 ≤ (if _ then _ else _ : Int × Int).1 ∧ _) ∧ _
    simp only [farB]
    split <;> simp <;> omega
def farW (S C : List Int) : Int × Int := farB (fun (u : Nat) => toW S C (u : Int)) ((nW S).toNat - 1)

/-- the error of a space, a code and a radius -/
def eCov (S C : List Int) (r : Int) : Int := if eCode S C = 0 then (if 0 ≤ r ∧ r ≤ 8 then 0 else 2) else eCode S C
theorem eCov_zero {S C : List Int} {r : Int} (h : eCov S C r = 0) : eCode S C = 0 ∧ 0 ≤ r ∧ r ≤ 8 := by
  unfold eCov at h
  split at h
  · split at h
    · exact ⟨‹_›, ‹_›⟩
    · omega
  · omega
theorem eCov_bad {S C : List Int} {r : Int} (h : eCode S C ≠ 0) : eCov S C r = eCode S C := by unfold eCov; rw [if_neg h]
theorem eCov_r {S C : List Int} {r : Int} (h : eCode S C = 0) (hr : ¬ (0 ≤ r ∧ r ≤ 8)) : eCov S C r = 2 := by unfold eCov; rw [if_pos h, if_neg hr]
theorem eCov_ok {S C : List Int} {r : Int} (h : eCode S C = 0) (h1 : 0 ≤ r) (h2 : r ≤ 8) : eCov S C r = 0 := by unfold eCov; rw [if_pos h, if_pos ⟨h1, h2⟩]
/-- the error of a space, a word and a radius -/
def eBall (S : List Int) (x r : Int) : Int := if eWords S [x] = 0 then (if 0 ≤ r ∧ r ≤ 8 then 0 else 2) else eWords S [x]
theorem eBall_zero {S : List Int} {x r : Int} (h : eBall S x r = 0) : eWords S [x] = 0 ∧ 0 ≤ r ∧ r ≤ 8 := by
  unfold eBall at h
  split at h
  · split at h
    · exact ⟨‹_›, ‹_›⟩
    · omega
  · omega
def orI (a b : Int) : Int := if a = 0 then b else a
/-- the error of a code and words -/
def eCW (S C T : List Int) : Int := orI (eCode S C) (eWords S T)
def eCov2 (S C T : List Int) (r : Int) : Int := orI (eCW S C T) (eBall S 0 r)
def eSome (S C T : List Int) : Int := if eCW S C T = 0 ∧ C.length = 0 then 5 else eCW S C T
theorem eWords_or (S T : List Int) : eWords S T = 0 ∨ eWords S T = 1 ∨ eWords S T = 2 := by unfold eWords; split <;> (try split) <;> simp
theorem eCode_or (S T : List Int) : eCode S T = 0 ∨ eCode S T = 1 ∨ eCode S T = 2 := by unfold eCode; split <;> (try split) <;> simp
theorem eWords_nil {S : List Int} (h : Sp S) : eWords S [] = 0 := eWords_ok ((isSp_iff S).2 h) fun i hi => by simp at hi
theorem eWords_0 {S : List Int} (h : Sp S) : eWords S [0] = 0 := eWords_ok ((isSp_iff S).2 h) fun i hi => by
  have := nW_bd h
  match i, hi with
  | 0, _ => rw [gi1]; omega
theorem eWords_w {S : List Int} (h : Sp S) (x : Int) : eWords S [x] = if 0 ≤ x ∧ x < nW S then 0 else 2 := by
  have hs := (isSp_iff S).2 h
  split
  · exact eWords_ok hs fun i hi => by
      match i, hi with
      | 0, _ => rw [gi1]; assumption
  · exact eWords_bad hs (k := 0) (by simp) (by rw [gi1]; assumption)
theorem eBall_sp {S : List Int} (h : Sp S) (r : Int) : eBall S 0 r = if 0 ≤ r ∧ r ≤ 8 then 0 else 2 := by unfold eBall; rw [if_pos (eWords_0 h)]
theorem eBall_not {S : List Int} (h : isSp S = false) (x r : Int) : eBall S x r = 1 := by unfold eBall; rw [eWords_inv h]; simp
theorem eCW_nil (S C : List Int) : eCW S C [] = eCode S C := by
  unfold eCW orI
  split
  · rename_i h; rw [h]; exact eWords_nil (eCode_zero h).1
  · rfl
theorem eCov2_nil (S C : List Int) (r : Int) : eCov2 S C [] r = eCov S C r := by
  unfold eCov2 eCov orI
  rw [eCW_nil]
  split
  · rename_i h; rw [eBall_sp (eCode_zero h).1]
  · rfl
/-- the error of a code, a radius and a word -/
def eTimes (S C : List Int) (x r : Int) : Int := if eCov S C r = 0 then (if 0 ≤ x ∧ x < nW S then 0 else 2) else eCov S C r
theorem eTimes_eq (S C : List Int) (x r : Int) : eCov2 S C [x] r = eTimes S C x r := by
  unfold eCov2 eTimes eCov eCW orI
  by_cases h : eCode S C = 0
  · have hS := (eCode_zero h).1
    rw [if_pos h, if_pos h, eBall_sp hS, eWords_w hS]
    repeat' split
    all_goals first | rfl | omega
  · rw [if_neg h, if_neg h, if_neg h, if_neg h]
theorem eTimes_zero {S C : List Int} {x r : Int} (h : eTimes S C x r = 0) : eCov S C r = 0 ∧ 0 ≤ x ∧ x < nW S := by
  unfold eTimes at h
  split at h
  · split at h
    · exact ⟨‹_›, ‹_›⟩
    · omega
  · omega
/-- the error of a code that should have words -/
def eFull (S C : List Int) : Int := if eCode S C = 0 ∧ C.length = 0 then 5 else eCode S C
theorem eSome_nil (S C : List Int) : eSome S C [] = eFull S C := by unfold eSome eFull; rw [eCW_nil]
theorem eFull_zero {S C : List Int} (h : eFull S C = 0) : eCode S C = 0 ∧ 0 < C.length := by
  unfold eFull at h
  split at h
  · omega
  · rename_i h2
    exact ⟨h, by have := h2; simp only [h, true_and] at this; omega⟩
/-- the error of a code that should have words, and a word -/
def eTo (S C : List Int) (x : Int) : Int := eSome S C [x]

/-- how often a code covers a word -/
def tcov (S C : List Int) (r x : Int) : Nat → Int := cnt fun k => decide (dist S (gi C k) x ≤ r)
theorem tcov_bd (S C : List Int) (r x : Int) (k : Nat) : 0 ≤ tcov S C r x k ∧ tcov S C r x k ≤ k := cnt_bd _ _
def vTimes (S C : List Int) (x r : Int) : Int := if eTimes S C x r = 0 then tcov S C r x C.length else 0
def vTo (S C : List Int) (x : Int) : Int := if eTo S C x = 0 then toW S C x else 0
def vRadius (S C : List Int) : Int := if eFull S C = 0 then (farW S C).2 else 0
def vFarthest (S C : List Int) : Int := if eFull S C = 0 then (farW S C).1 else 0

/-- the words of a code with a distance from a word -/
def nearOut (S C : List Int) (x m : Int) : Nat → List Int
  | 0 => []
  | k + 1 => nearOut S C x m k ++ if dist S (gi C k) x = m then [gi C k] else []
theorem nearOut_len (S C : List Int) (x m : Int) (k : Nat) : (nearOut S C x m k).length ≤ k := by
  induction k with
  | zero => simp [nearOut]
  | succ k ih => simp only [nearOut, List.length_append]; split <;> simp <;> omega
theorem nearOut_none (S C : List Int) (x m : Int) (k : Nat) (h : ∀ j, j < k → m < dist S (gi C j) x) : nearOut S C x m k = [] := by
  induction k with
  | zero => rfl
  | succ k ih =>
    simp only [nearOut]
    rw [ih fun j hj => h j (by omega), if_neg (by have := h k (by omega); omega)]; rfl
def eNear (S C : List Int) (x : Int) : Int := eCW S C [x]
def vNear (S C : List Int) (x : Int) : List Int := if eNear S C x = 0 then nearOut S C x (toW S C x) C.length else []
theorem eCW_zero {S C T : List Int} (h : eCW S C T = 0) : eCode S C = 0 ∧ eWords S T = 0 := by
  unfold eCW orI at h
  split at h
  · exact ⟨‹_›, h⟩
  · omega
theorem vNear_len (S C : List Int) (x : Int) : (vNear S C x).length ≤ 1024 := by
  unfold vNear
  split
  · rename_i h
    obtain ⟨a, b, c⟩ := eCode_zero (eCW_zero h).1
    have := code_len a b c
    have := nearOut_len S C x (toW S C x) C.length
    omega
  · simp
/-- the least one of the first k, and 8 -/
def min8 (f : Nat → Int) : Nat → Int
  | 0 => 8
  | k + 1 => min (min8 f k) (f k)
theorem min8_le (f : Nat → Int) (k j : Nat) (h : j < k) : min8 f k ≤ f j := by
  induction k with
  | zero => omega
  | succ k ih =>
    show min _ _ ≤ _
    by_cases e : j = k
    · subst e; exact Int.min_le_right _ _
    · exact Int.le_trans (Int.min_le_left _ _) (ih (by omega))
theorem min8_to (f : Nat → Int) (k : Nat) (h : ∀ j, j ≤ k → f j ≤ 8) : min8 f (k + 1) = minTo f k := by
  induction k with
  | zero => show min 8 (f 0) = f 0; have := h 0 (Nat.le_refl _); omega
  | succ k ih => show min (min8 f (k + 1)) (f (k + 1)) = min (minTo f k) (f (k + 1)); rw [ih fun j hj => h j (by omega)]
theorem min8_bd (f : Nat → Int) (k : Nat) (h : ∀ j, j < k → 0 ≤ f j) : 0 ≤ min8 f k ∧ min8 f k ≤ 8 := by
  induction k with
  | zero => simp [min8]
  | succ k ih =>
    have := ih fun j hj => h j (by omega)
    have := h k (by omega)
    show 0 ≤ min _ _ ∧ min _ _ ≤ 8
    omega

theorem minTo_pred (f : Nat → Int) (k : Nat) (h : 1 ≤ k) : min (minTo f (k - 1)) (f k) = minTo f k := by
  obtain ⟨m, rfl⟩ : ∃ m, k = m + 1 := ⟨k - 1, by omega⟩
  rfl
theorem minTo_if (f : Nat → Int) (k : Nat) (h : 1 ≤ k) : (if f k < minTo f (k - 1) then f k else minTo f (k - 1)) = minTo f k := by
  rw [← minTo_pred f k h]
  split <;> omega
/-- the distances of a word from the words of a list -/
def dFrom (S T : List Int) (x : Int) : List Int := T.map fun t => dist S x t
theorem dFrom_len (S T : List Int) (x : Int) : (dFrom S T x).length = T.length := by simp [dFrom]
theorem gi_dFrom (S T : List Int) (x : Int) (k : Nat) (h : k < T.length) : gi (dFrom S T x) k = dist S x (gi T k) := by simp [dFrom, gi, h]
theorem dFrom_min (S C : List Int) (x : Int) (h : 1 ≤ C.length) : minTo (gi (dFrom S C x)) ((dFrom S C x).length - 1) = toW S C x := by
  rw [dFrom_len]
  exact minTo_congr _ _ _ fun j hj => by rw [gi_dFrom _ _ _ _ (by omega), dist_comm]
/-- the numbers 0 .. n - 1 -/
def upto (n : Nat) : List Int := (List.range n).map fun (i : Nat) => (i : Int)
theorem upto_len (n : Nat) : (upto n).length = n := by simp [upto]
theorem gi_upto (n i : Nat) (h : i < n) : gi (upto n) i = i := by simp [upto, gi, h]

/-- the first one of the first k with the greatest value, and this value; -1 ahead of the first -/
def farP (f : Nat → Int) : Nat → Int × Int
  | 0 => (0, -1)
  | k + 1 => if (farP f k).2 < f k then ((k : Int), f k) else farP f k
theorem farP_yes (f : Nat → Int) (k : Nat) (h : (farP f k).2 < f k) : farP f (k + 1) = ((k : Int), f k) := by rw [farP, if_pos h]
theorem farP_no (f : Nat → Int) (k : Nat) (h : ¬ (farP f k).2 < f k) : farP f (k + 1) = farP f k := by rw [farP, if_neg h]
theorem farP_B (f : Nat → Int) (h0 : 0 ≤ f 0) (k : Nat) : farP f (k + 1) = farB f k := by
  induction k with
  | zero => rw [farP_yes f 0 (by show (-1 : Int) < f 0; omega)]; rfl
  | succ k ih => rw [farP, ih]; rfl
/-- the distance of word u from a code -/
def toF (S C : List Int) (u : Nat) : Int := toW S C (u : Int)
theorem toF_bd (S C : List Int) (u : Nat) : 0 ≤ toF S C u ∧ toF S C u ≤ S.length := toW_bd S C u
theorem farP_W (S C : List Int) (h : 1 ≤ nW S) : farP (toF S C) (nW S).toNat = farW S C := by
  obtain ⟨m, hm⟩ : ∃ m, (nW S).toNat = m + 1 := ⟨(nW S).toNat - 1, by omega⟩
  unfold farW
  rw [hm, farP_B _ (toF_bd S C 0).1]; rfl
theorem farB_toF (S C : List Int) (k : Nat) : farB (toF S C) k = farB (fun (u : Nat) => toW S C (u : Int)) k := rfl
theorem min8_yes (f : Nat → Int) (k : Nat) (h : f k < min8 f k) : min8 f (k + 1) = f k := by show min _ _ = _; omega
theorem min8_no (f : Nat → Int) (k : Nat) (h : ¬ f k < min8 f k) : min8 f (k + 1) = min8 f k := by show min _ _ = _; omega
/-- the distance of word x from the word at k of a code -/
def dAt (S C : List Int) (x : Int) (k : Nat) : Int := dist S x (gi C k)
theorem dAt_bd (S C : List Int) (x : Int) (k : Nat) : 0 ≤ dAt S C x k ∧ dAt S C x k ≤ S.length := dist_bd S _ _
theorem near_lt (S C : List Int) (x : Int) (k : Nat) (h : dAt S C x k < min8 (dAt S C x) k) : nearOut S C x (min8 (dAt S C x) (k + 1)) (k + 1) = [gi C k] := by
  rw [min8_yes _ _ h, nearOut, nearOut_none S C x _ k fun j hj => by
    have h1 := min8_le (dAt S C x) k j hj
    rw [dist_comm S (gi C j) x]; unfold dAt at h h1 ⊢; omega]
  rw [if_pos (show dist S (gi C k) x = dAt S C x k from dist_comm S _ _)]; rfl
theorem near_eq (S C : List Int) (x : Int) (k : Nat) (h : dAt S C x k = min8 (dAt S C x) k) : nearOut S C x (min8 (dAt S C x) (k + 1)) (k + 1) = nearOut S C x (min8 (dAt S C x) k) k ++ [gi C k] := by
  rw [min8_no _ _ (by omega), nearOut, if_pos (by rw [dist_comm]; exact h)]
theorem near_gt (S C : List Int) (x : Int) (k : Nat) (h : min8 (dAt S C x) k < dAt S C x k) : nearOut S C x (min8 (dAt S C x) (k + 1)) (k + 1) = nearOut S C x (min8 (dAt S C x) k) k := by
  rw [min8_no _ _ (by omega), nearOut, if_neg (by rw [dist_comm]; unfold dAt at h ⊢; omega), List.append_nil]
theorem near_end (S C : List Int) (x : Int) (hS : S.length ≤ 8) : nearOut S C x (min8 (dAt S C x) C.length) C.length = nearOut S C x (toW S C x) C.length := by
  cases hC : C.length with
  | zero => rfl
  | succ m =>
    have e : min8 (dAt S C x) (m + 1) = toW S C x := by
      rw [min8_to _ _ fun j _ => by have := (dAt_bd S C x j).2; omega]
      unfold toW
      rw [hC]
      exact minTo_congr _ _ _ fun j _ => dist_comm S _ _
    rw [e]
theorem cnt_at (p : Nat → Bool) (k : Nat) : cnt p (k + 1) = cnt p k + if p k then 1 else 0 := rfl
theorem tcov_yes (S C : List Int) (r x : Int) (k : Nat) (h : dist S x (gi C k) ≤ r) : tcov S C r x (k + 1) = tcov S C r x k + 1 := by
  unfold tcov; rw [cnt_at, if_pos (by rw [dist_comm]; simpa using h)]
theorem tcov_no (S C : List Int) (r x : Int) (k : Nat) (h : ¬ dist S x (gi C k) ≤ r) : tcov S C r x (k + 1) = tcov S C r x k := by
  unfold tcov; rw [cnt_at, if_neg (by rw [dist_comm]; simpa using h), Int.add_zero]

theorem eTo_bad {S C : List Int} {x : Int} (h : eCode S C ≠ 0) : eTo S C x = eCode S C := by
  unfold eTo eSome eCW orI
  rw [if_neg h, if_neg (fun g => h g.1)]
theorem eCW_at {S C : List Int} (h : eCode S C = 0) (x : Int) : eCW S C [x] = if 0 ≤ x ∧ x < nW S then 0 else 2 := by
  unfold eCW orI; rw [if_pos h, eWords_w (eCode_zero h).1]
theorem eTo_out {S C : List Int} {x : Int} (h : eCode S C = 0) (hx : ¬ (0 ≤ x ∧ x < nW S)) : eTo S C x = 2 := by
  unfold eTo eSome; rw [eCW_at h, if_neg hx]; simp
theorem eTo_nil {S C : List Int} {x : Int} (h : eCode S C = 0) (hx : 0 ≤ x ∧ x < nW S) (hl : C.length = 0) : eTo S C x = 5 := by
  unfold eTo eSome; rw [eCW_at h, if_pos hx]; simp [hl]
theorem eTo_ok {S C : List Int} {x : Int} (h : eCode S C = 0) (hx : 0 ≤ x ∧ x < nW S) (hl : C.length ≠ 0) : eTo S C x = 0 := by
  unfold eTo eSome; rw [eCW_at h, if_pos hx]; simp only [true_and]; rw [if_neg hl]
theorem eTo_zero {S C : List Int} {x : Int} (h : eTo S C x = 0) : eCode S C = 0 ∧ (0 ≤ x ∧ x < nW S) ∧ 0 < C.length := by
  by_cases h1 : eCode S C = 0
  · by_cases h2 : 0 ≤ x ∧ x < nW S
    · by_cases h3 : C.length = 0
      · rw [eTo_nil h1 h2 h3] at h; omega
      · exact ⟨h1, h2, by omega⟩
    · rw [eTo_out h1 h2] at h; omega
  · rw [eTo_bad h1] at h; omega
theorem eFull_bad {S C : List Int} (h : eCode S C ≠ 0) : eFull S C = eCode S C := by unfold eFull; rw [if_neg (fun g => h g.1)]
theorem eFull_nil {S C : List Int} (h : eCode S C = 0) (hl : C.length = 0) : eFull S C = 5 := by unfold eFull; rw [if_pos ⟨h, hl⟩]
theorem eFull_ok {S C : List Int} (h : eCode S C = 0) (hl : C.length ≠ 0) : eFull S C = 0 := by unfold eFull; rw [if_neg (fun g => hl g.2)]; exact h
theorem eNear_bad {S C : List Int} {x : Int} (h : eCode S C ≠ 0) : eNear S C x = eCode S C := by unfold eNear eCW orI; rw [if_neg h]
theorem eNear_out {S C : List Int} {x : Int} (h : eCode S C = 0) (hx : ¬ (0 ≤ x ∧ x < nW S)) : eNear S C x = 2 := by unfold eNear; rw [eCW_at h, if_neg hx]
theorem eNear_ok {S C : List Int} {x : Int} (h : eCode S C = 0) (hx : 0 ≤ x ∧ x < nW S) : eNear S C x = 0 := by unfold eNear; rw [eCW_at h, if_pos hx]
theorem eNear_zero {S C : List Int} {x : Int} (h : eNear S C x = 0) : eCode S C = 0 ∧ (0 ≤ x ∧ x < nW S) := by
  by_cases h1 : eCode S C = 0
  · by_cases h2 : 0 ≤ x ∧ x < nW S
    · exact ⟨h1, h2⟩
    · rw [eNear_out h1 h2] at h; omega
  · rw [eNear_bad h1] at h; omega

end Cv
end Go.Proofs.Ytlkfmopcdmppmaa
