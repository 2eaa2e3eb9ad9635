/-
  The counts of weights of a linear code and of its dual code; the rows and sums of the model; tables of numbers. By an AI agent.
-/
import Derived.Test.YtcnnijeokefboaaGreatDoorMathB
import Derived.Test.YtcnnijeokefboaaGreatDoorMath
namespace Go.Proofs.YtcnnijeokefboaaGreatDoor
open Cv
set_option linter.unusedVariables false
set_option linter.unusedSimpArgs false

/-! ### sums -/
def sm (f : Nat → Int) : Nat → Int
  | 0 => 0
  | n + 1 => sm f n + f n
theorem sm_congr {f g : Nat → Int} {n : Nat} (h : ∀ p, p < n → f p = g p) : sm f n = sm g n := by
  induction n with
  | zero => rfl
  | succ n ih => rw [sm, sm, ih (fun p hp => h p (by omega)), h n (by omega)]
theorem sm_split (f : Nat → Int) (a b : Nat) : sm f (a + b) = sm f a + sm (fun d => f (a + d)) b := by
  induction b with
  | zero => simp [sm]
  | succ b ih => rw [← Nat.add_assoc, sm, ih, sm]; omega
theorem sm_mul (f : Nat → Int) (q n : Nat) : sm f (n * q) = sm (fun p => sm (fun d => f (p * q + d)) q) n := by
  induction n with
  | zero => simp [sm]
  | succ n ih => rw [Nat.succ_mul, sm_split, ih, sm]
theorem sm_add (f g : Nat → Int) (n : Nat) : sm (fun p => f p + g p) n = sm f n + sm g n := by
  induction n with
  | zero => rfl
  | succ n ih => rw [sm, sm, sm, ih]; omega
theorem sm_c (c : Int) (f : Nat → Int) (n : Nat) : sm (fun p => c * f p) n = c * sm f n := by
  induction n with
  | zero => simp [sm]
  | succ n ih => rw [sm, sm, ih, Int.mul_add]
theorem sm_0 (n : Nat) : sm (fun _ => 0) n = 0 := by
  induction n with
  | zero => rfl
  | succ n ih => rw [sm, ih]; rfl
def ls (f : Int → Int) : List Int → Int
  | [] => 0
  | x :: l => f x + ls f l
theorem ls_perm {f : Int → Int} {l m : List Int} (h : l.Perm m) : ls f l = ls f m := by
  induction h with
  | nil => rfl
  | cons x _ ih => rw [ls, ls, ih]
  | swap x y l => simp only [ls]; omega
  | trans _ _ i1 i2 => rw [i1, i2]
theorem ls_map (f g : Int → Int) (l : List Int) : ls f (l.map g) = ls (fun x => f (g x)) l := by
  induction l with
  | nil => rfl
  | cons x l ih => rw [List.map_cons, ls, ls, ih]
theorem ls_congr {f g : Int → Int} {l : List Int} (h : ∀ x, x ∈ l → f x = g x) : ls f l = ls g l := by
  induction l with
  | nil => rfl
  | cons x l ih => rw [ls, ls, h x (by simp), ih (fun y hy => h y (by simp [hy]))]
theorem ls_add (f g : Int → Int) (l : List Int) : ls (fun x => f x + g x) l = ls f l + ls g l := by
  induction l with
  | nil => rfl
  | cons x l ih => rw [ls, ls, ls, ih]; omega
theorem ls_const (c : Int) (l : List Int) : ls (fun _ => c) l = c * l.length := by
  induction l with
  | nil => simp [ls]
  | cons x l ih => rw [ls, ih, List.length_cons, Int.natCast_add, Int.mul_add]; simp; omega
theorem ls_sm (F : Int → Nat → Int) (n : Nat) (l : List Int) : ls (fun x => sm (F x) n) l = sm (fun w => ls (fun x => F x w) l) n := by
  induction l with
  | nil => simp only [ls]; rw [sm_0]
  | cons x l ih => simp only [ls]; rw [ih, sm_add]
theorem ls_c (c : Int) (f : Int → Int) (l : List Int) : ls (fun x => c * f x) l = c * ls f l := by
  induction l with
  | nil => simp [ls]
  | cons x l ih => rw [ls, ls, ih, Int.mul_add]

/-! ### one place more -/
/-- the products' sum and the weight of a word of i places, place by place -/
def prP (a : Nat → Int) (q : Nat) : Nat → Nat → Int
  | 0, _ => 0
  | i + 1, p => prP a q i (p / q) + a i * ((p % q : Nat) : Int)
def wtP (q : Nat) : Nat → Nat → Nat
  | 0, _ => 0
  | i + 1, p => wtP q i (p / q) + if p % q = 0 then 0 else 1
def psi (q : Nat) (t : Int) : Int := if t % (q : Int) = 0 then (q : Int) - 1 else -1
def Gk (a : Nat → Int) (q i k : Nat) : Int := sm (fun p => if wtP q i p = k then psi q (prP a q i p) else 0) (q ^ i)
/-- a row times 1 + a x -/
def mX (a : Int) (f : Nat → Int) : Nat → Int
  | 0 => f 0
  | k + 1 => f (k + 1) + a * f k
def kr (b : Nat → Int) : Nat → Nat → Int
  | 0 => fun k => if k = 0 then 1 else 0
  | i + 1 => mX (b i) (kr b i)
def byOf (q : Nat) (a : Nat → Int) (i : Nat) : Int := if a i = 0 then (q : Int) - 1 else -1
theorem psi_by2 {a : Int} (ha : 0 ≤ a ∧ a < 2) (t : Int) : psi 2 (t + a * 1) = (if a = 0 then 1 else -1) * psi 2 t := by
  have : a = 0 ∨ a = 1 := by omega
  unfold psi
  rcases this with rfl | rfl
  · simp
  · by_cases h : t % 2 = 0
    · have h2 : ¬ (t + 1) % 2 = 0 := by omega
      simp [h, h2]
    · have h2 : (t + 1) % 2 = 0 := by omega
      simp [h, h2]
theorem psi_by3 {a : Int} (ha : 0 ≤ a ∧ a < 3) (t : Int) : psi 3 (t + a * 1) + psi 3 (t + a * 2) = (if a = 0 then 2 else -1) * psi 3 t := by
  have : a = 0 ∨ a = 1 ∨ a = 2 := by omega
  have h3 : t % 3 = 0 ∨ t % 3 = 1 ∨ t % 3 = 2 := by omega
  unfold psi
  rcases this with rfl | rfl | rfl
  · rcases h3 with h | h | h <;> simp [h]
  · rcases h3 with h | h | h
    · have h1 : (t + 1) % 3 = 1 := by omega
      have h2 : (t + 2) % 3 = 2 := by omega
      simp [h, h1, h2]
    · have h1 : (t + 1) % 3 = 2 := by omega
      have h2 : (t + 2) % 3 = 0 := by omega
      simp [h, h1, h2]
    · have h1 : (t + 1) % 3 = 0 := by omega
      have h2 : (t + 2) % 3 = 1 := by omega
      simp [h, h1, h2]
  · rcases h3 with h | h | h
    · have h1 : (t + 2) % 3 = 2 := by omega
      have h2 : (t + 4) % 3 = 1 := by omega
      simp [h, h1, h2]
    · have h1 : (t + 2) % 3 = 0 := by omega
      have h2 : (t + 4) % 3 = 2 := by omega
      simp [h, h1, h2]
    · have h1 : (t + 2) % 3 = 1 := by omega
      have h2 : (t + 4) % 3 = 0 := by omega
      simp [h, h1, h2]
theorem div_at {q p d : Nat} (hq : 0 < q) (h : d < q) : (p * q + d) / q = p ∧ (p * q + d) % q = d := by
  rw [Nat.mul_comm]
  exact ⟨by rw [Nat.mul_add_div hq, Nat.div_eq_of_lt h, Nat.add_zero], by rw [Nat.mul_add_mod, Nat.mod_eq_of_lt h]⟩
theorem Gk_step {q : Nat} (hq : q = 2 ∨ q = 3) {a : Nat → Int} {i : Nat} (ha : 0 ≤ a i ∧ a i < q) : Gk a q (i + 1) = mX (byOf q a i) (Gk a q i) := by
  funext k
  have hq0 : 0 < q := by omega
  have e : Gk a q (i + 1) k = sm (fun p => sm (fun d => if wtP q i p + (if d = 0 then 0 else 1) = k then psi q (prP a q i p + a i * (d : Nat)) else 0) q) (q ^ i) := by
    unfold Gk
    rw [Nat.pow_succ, sm_mul]
    refine sm_congr fun p _ => sm_congr fun d hd => ?_
    obtain ⟨h1, h2⟩ := div_at (p := p) hq0 hd
    simp only [wtP, prP, h1, h2]
  rw [e]
  cases k with
  | zero =>
    show _ = Gk a q i 0
    refine sm_congr fun p _ => ?_
    rcases hq with rfl | rfl <;> simp [sm]
  | succ k =>
    show _ = Gk a q i (k + 1) + byOf q a i * Gk a q i k
    unfold Gk
    rw [← sm_c, ← sm_add]
    refine sm_congr fun p _ => ?_
    rcases hq with rfl | rfl
    · have h := psi_by2 ha (prP a 2 i p)
      simp only [sm, byOf]
      by_cases e1 : wtP 2 i p = k + 1
      · have e2 : ¬ wtP 2 i p = k := by omega
        simp [e1]
      · by_cases e2 : wtP 2 i p = k
        · simp [e2] at h ⊢; exact h
        · simp [e1, e2]
    · have h := psi_by3 ha (prP a 3 i p)
      simp only [sm, byOf]
      by_cases e1 : wtP 3 i p = k + 1
      · have e2 : ¬ wtP 3 i p = k := by omega
        simp [e1]
      · by_cases e2 : wtP 3 i p = k
        · simp [e2] at h ⊢; exact h
        · simp [e1, e2]
theorem mX_c (b c : Int) (f : Nat → Int) : mX b (fun k => c * f k) = fun k => c * mX b f k := by
  funext k
  cases k with
  | zero => rfl
  | succ k => simp only [mX]; rw [Int.mul_add, Int.mul_left_comm]
theorem Gk_kr {q : Nat} (hq : q = 2 ∨ q = 3) {a : Nat → Int} (i : Nat) (ha : ∀ j, j < i → 0 ≤ a j ∧ a j < q) : Gk a q i = fun k => ((q : Int) - 1) * kr (byOf q a) i k := by
  induction i with
  | zero =>
    funext k
    cases k with
    | zero => simp [Gk, sm, wtP, prP, kr, psi]
    | succ k => simp [Gk, sm, wtP, prP, kr, psi]
  | succ i ih => rw [Gk_step hq (ha i (by omega)), ih (fun j hj => ha j (by omega)), mX_c]; rfl

/-! ### the places' order doesn't matter -/
theorem mX_comm (a b : Int) (f : Nat → Int) : mX a (mX b f) = mX b (mX a f) := by
  funext k
  cases k with
  | zero => rfl
  | succ k =>
    cases k with
    | zero => simp only [mX]; omega
    | succ k =>
      simp only [mX]
      rw [Int.mul_add, Int.mul_add, Int.mul_left_comm a b]; omega
def itX (a : Int) : Nat → (Nat → Int) → (Nat → Int)
  | 0, f => f
  | n + 1, f => mX a (itX a n f)
theorem itX_comm (a b : Int) (n : Nat) (f : Nat → Int) : mX b (itX a n f) = itX a n (mX b f) := by
  induction n with
  | zero => rfl
  | succ n ih => rw [itX, itX, mX_comm, ih]
def negs (b : Nat → Int) : Nat → Nat
  | 0 => 0
  | n + 1 => negs b n + if b n = -1 then 1 else 0
theorem negs_le (b : Nat → Int) (n : Nat) : negs b n ≤ n := by
  induction n with
  | zero => exact Nat.le_refl _
  | succ n ih => rw [negs]; split <;> omega
theorem kr_norm {q : Int} {b : Nat → Int} (n : Nat) (hb : ∀ i, i < n → b i = -1 ∨ b i = q) (hq : q ≠ -1) : kr b n = itX (-1) (negs b n) (itX q (n - negs b n) (kr b 0)) := by
  induction n with
  | zero => rfl
  | succ n ih =>
    have hl := negs_le b n
    rw [show kr b (n + 1) = mX (b n) (kr b n) from rfl, ih (fun i hi => hb i (by omega)), negs]
    rcases hb n (by omega) with h | h
    · rw [h, if_pos rfl, show n + 1 - (negs b n + 1) = n - negs b n by omega]; rfl
    · rw [if_neg (by rw [h]; exact hq), h, itX_comm, Nat.add_zero, show n + 1 - negs b n = (n - negs b n) + 1 by omega]; rfl
/-- the row of a word's weight: the places that differ from 0 first -/
def byW (q : Int) (w i : Nat) : Int := if i < w then -1 else q
theorem negs_byW {q : Int} (hq : q ≠ -1) (w n : Nat) : negs (byW q w) n = min w n := by
  induction n with
  | zero => simp [negs]
  | succ n ih =>
    rw [negs, ih]
    unfold byW
    by_cases h : n < w
    · rw [if_pos h, if_pos rfl]; omega
    · rw [if_neg h, if_neg hq]; omega
theorem kr_byW {q : Int} (hq : q ≠ -1) {b : Nat → Int} (n : Nat) (hb : ∀ i, i < n → b i = -1 ∨ b i = q) : kr b n = kr (byW q (negs b n)) n := by
  rw [kr_norm n hb hq, kr_norm (b := byW q (negs b n)) n (fun i _ => by unfold byW; split <;> simp) hq, negs_byW hq, Nat.min_eq_left (negs_le b n)]
  rfl

/-! ### the words of a plain space -/
theorem prP_w {S : List Int} (hP : Pl S) {q : Nat} (hq : gi S 0 = (q : Int)) (c : Int) (w : Nat) (k : Nat) (hk : k ≤ S.length) : ∃ p : Nat, quoTop S (w : Int) (S.length - k) = (p : Int) ∧ prP (dig S c) q k p = prTo S c (w : Int) k := by
  have hq2 := q_bd hP
  induction k with
  | zero => 
    have := quoTop_nonneg S (w : Int) hP.sp.bd (by omega) S.length (Nat.le_refl _)
    exact ⟨(quoTop S (w : Int) S.length).toNat, by rw [Nat.sub_zero]; omega, rfl⟩
  | succ k ih =>
    obtain ⟨p, h1, h2⟩ := ih (by omega)
    have h0 := quoTop_nonneg S (w : Int) hP.sp.bd (by omega) (S.length - (k + 1)) (by omega)
    obtain ⟨r, hr⟩ : ∃ r : Nat, quoTop S (w : Int) (S.length - (k + 1)) = (r : Int) := ⟨(quoTop S (w : Int) (S.length - (k + 1))).toNat, by omega⟩
    have h3 := qt_step hP (w : Int) (S.length - (k + 1)) (by omega)
    rw [show S.length - (k + 1) + 1 = S.length - k by omega, h1, hr, hq] at h3
    have h4 : p = r / q := by
      have : (p : Int) = ((r / q : Nat) : Int) := by rw [h3]; simp
      omega
    have h5 : dig S (w : Int) k = ((r % q : Nat) : Int) := by
      rw [dig_lv hP _ _ (by omega)]
      unfold lv
      rw [show S.length - 1 - k = S.length - (k + 1) by omega, hr, hq]; simp
    exact ⟨r, hr, by rw [prP, prTo, ← h4, h2, h5]⟩
theorem wtP_w {S : List Int} (hP : Pl S) {q : Nat} (hq : gi S 0 = (q : Int)) (w : Nat) (k : Nat) (hk : k ≤ S.length) : ∃ p : Nat, quoTop S (w : Int) (S.length - k) = (p : Int) ∧ (wtP q k p : Int) = cnt (fun i => dig S 0 i != dig S (w : Int) i) k := by
  have hq2 := q_bd hP
  induction k with
  | zero => 
    have := quoTop_nonneg S (w : Int) hP.sp.bd (by omega) S.length (Nat.le_refl _)
    exact ⟨(quoTop S (w : Int) S.length).toNat, by rw [Nat.sub_zero]; omega, rfl⟩
  | succ k ih =>
    obtain ⟨p, h1, h2⟩ := ih (by omega)
    have h0 := quoTop_nonneg S (w : Int) hP.sp.bd (by omega) (S.length - (k + 1)) (by omega)
    obtain ⟨r, hr⟩ : ∃ r : Nat, quoTop S (w : Int) (S.length - (k + 1)) = (r : Int) := ⟨(quoTop S (w : Int) (S.length - (k + 1))).toNat, by omega⟩
    have h3 := qt_step hP (w : Int) (S.length - (k + 1)) (by omega)
    rw [show S.length - (k + 1) + 1 = S.length - k by omega, h1, hr, hq] at h3
    have h4 : p = r / q := by
      have : (p : Int) = ((r / q : Nat) : Int) := by rw [h3]; simp
      omega
    have h5 : dig S (w : Int) k = ((r % q : Nat) : Int) := by
      rw [dig_lv hP _ _ (by omega)]
      unfold lv
      rw [show S.length - 1 - k = S.length - (k + 1) by omega, hr, hq]; simp
    refine ⟨r, hr, ?_⟩
    rw [wtP, cnt, ← h4, Int.natCast_add, h2, dig_0, h5]
    by_cases e : r % q = 0
    · rw [if_pos e, e]; simp
    · rw [if_neg e, if_pos (by simp; omega)]; rfl

theorem nW_pow {S : List Int} (hP : Pl S) {q : Nat} (hq : gi S 0 = (q : Int)) : (nW S).toNat = q ^ S.length := by
  have : ∀ k, k ≤ S.length → prodTo S k = ((q ^ k : Nat) : Int) := by
    intro k hk
    induction k with
    | zero => rfl
    | succ k ih => rw [prodTo, ih (by omega), hP.same k (by omega), hq, Nat.pow_succ]; simp
  unfold nW
  rw [this _ (Nat.le_refl _), Int.toNat_natCast]
theorem psi_mod (q : Nat) (t : Int) : psi q (t % (q : Int)) = psi q t := by unfold psi; rw [Int.emod_emod_of_dvd _ (Int.dvd_refl _)]
/-- over all words of a weight -/
def Ek (S : List Int) (q : Nat) (c : Int) (k : Nat) : Int := sm (fun w => if dist S 0 (w : Int) = (k : Int) then psi q (prW S c (w : Int)) else 0) (nW S).toNat
theorem Ek_G {S : List Int} (hP : Pl S) {q : Nat} (hq : gi S 0 = (q : Int)) (c : Int) (k : Nat) : Ek S q c k = Gk (dig S c) q S.length k := by
  unfold Ek Gk
  rw [nW_pow hP hq]
  refine sm_congr fun w _ => ?_
  obtain ⟨p, h1, h2⟩ := prP_w hP hq c w S.length (Nat.le_refl _)
  obtain ⟨p', h3, h4⟩ := wtP_w hP hq w S.length (Nat.le_refl _)
  rw [Nat.sub_self] at h1 h3
  have e1 : p = w := by have : (w : Int) = (p : Int) := h1; omega
  have e2 : p' = w := by have : (w : Int) = (p' : Int) := h3; omega
  subst e1
  subst e2
  have h5 : dist S 0 (p' : Int) = (wtP q S.length p' : Int) := h4.symm
  rw [h5, h2]
  unfold prW
  rw [hq, psi_mod]
  by_cases e : wtP q S.length p' = k
  · rw [if_pos e, if_pos (by omega)]
  · rw [if_neg e, if_neg (by omega)]
theorem negs_dig {S : List Int} (hP : Pl S) {q : Nat} (hq : gi S 0 = (q : Int)) (c : Int) (n : Nat) : (negs (byOf q (dig S c)) n : Int) = cnt (fun i => dig S 0 i != dig S c i) n := by
  have hq2 := q_bd hP
  induction n with
  | zero => rfl
  | succ n ih =>
    rw [negs, cnt, Int.natCast_add, ih, dig_0]
    unfold byOf
    by_cases e : dig S c n = 0
    · rw [if_pos e, if_neg (by omega), if_neg (by simp [e])]; rfl
    · rw [if_neg e, if_pos rfl, if_pos (by simp; omega)]; rfl
theorem Ek_row {S : List Int} (hP : Pl S) {q : Nat} (hq : gi S 0 = (q : Int)) (c : Int) (k : Nat) : Ek S q c k = ((q : Int) - 1) * kr (byW ((q : Int) - 1) (dist S 0 c).toNat) S.length k := by
  have hq2 := q_bd hP
  have hq3 : q = 2 ∨ q = 3 := by omega
  rw [Ek_G hP hq, Gk_kr hq3 S.length (fun j hj => by have := dig_bd S c hP.sp.bd j hj; rw [hP.same j hj, hq] at this; exact this)]
  have hn := negs_dig hP hq c S.length
  rw [kr_byW (q := (q : Int) - 1) (by omega) S.length (fun i _ => by unfold byOf; split <;> simp)]
  have : negs (byOf q (dig S c)) S.length = (dist S 0 c).toNat := by
    have : dist S 0 c = (negs (byOf q (dig S c)) S.length : Int) := hn.symm
    omega
  rw [this]

/-! ### over all words of the code -/
theorem shL_perm {S C : List Int} (hP : Pl S) (g : Gp S C) {x : Int} (hx : x ∈ C) : (shL S C x).Perm C := by
  have h1 := nd_shL hP.sp g x
  have hs : ∀ y, y ∈ shL S C x → y ∈ C := fun y hy => by
    obtain ⟨u, hu, rfl⟩ := (mem_shL S C x y).1 hy
    exact g.sum u x hu hx
  exact (List.perm_ext_iff_of_nodup h1 g.nd).2 fun y => ⟨hs y, fun hy => nd_full h1 g.nd hs (by rw [shL_len]; exact Nat.le_refl _) y hy⟩
theorem psi_2 (x t : Int) (ht : t % 2 ≠ 0) : psi 2 x + psi 2 (x + t) = 0 := by
  unfold psi
  by_cases h : x % 2 = 0
  · have h2 : ¬ (x + t) % 2 = 0 := by omega
    simp [h, h2]
  · have h2 : (x + t) % 2 = 0 := by omega
    simp [h, h2]
theorem psi_3 (x t : Int) (ht : t % 3 ≠ 0) : psi 3 x + (psi 3 (x + t) + psi 3 (x + t + t)) = 0 := by
  unfold psi
  have h3 : x % 3 = 0 ∨ x % 3 ≠ 0 ∧ (x + t) % 3 = 0 ∨ x % 3 ≠ 0 ∧ (x + t) % 3 ≠ 0 := by omega
  rcases h3 with h | ⟨h, h1⟩ | ⟨h, h1⟩
  · have h1 : ¬ (x + t) % 3 = 0 := by omega
    have h2 : ¬ (x + t + t) % 3 = 0 := by omega
    simp [h, h1, h2]
  · have h2 : ¬ (x + t + t) % 3 = 0 := by omega
    simp [h, h1, h2]
  · have h2 : (x + t + t) % 3 = 0 := by
      have hx : x % 3 = 1 ∨ x % 3 = 2 := by omega
      have hy : t % 3 = 1 ∨ t % 3 = 2 := by omega
      rcases hx with hx | hx <;> rcases hy with hy | hy <;> omega
    simp [h, h1, h2]
theorem ls_shift {S C : List Int} (hP : Pl S) (g : Gp S C) {q : Nat} (hq : gi S 0 = (q : Int)) (w : Int) {x : Int} (hx : x ∈ C) (s : Int) : ls (fun c => psi q (prW S c w + s)) C = ls (fun c => psi q (prW S c w + prW S x w + s)) C := by
  rw [← ls_perm (shL_perm hP g hx), shL, ls_map]
  refine ls_congr fun c hc => ?_
  rw [prW_sum hP, hq, ← psi_mod q ((prW S c w + prW S x w) % (q : Int) + s), Int.emod_add_emod, psi_mod]
theorem ls_psi {S C : List Int} (hP : Pl S) (g : Gp S C) {q : Nat} (hq : gi S 0 = (q : Int)) (w : Int) : ls (fun c => psi q (prW S c w)) C = if upB S C w C.length = true then ((q : Int) - 1) * C.length else 0 := by
  have hq2 := q_bd hP
  by_cases h : upB S C w C.length = true
  · rw [if_pos h, ← ls_const]
    refine ls_congr fun c hc => ?_
    rw [(upB_all S C w).1 h c hc]
    simp [psi]
  · rw [if_neg h]
    have hx : ∃ x, x ∈ C ∧ prW S x w ≠ 0 := by
      apply Classical.byContradiction
      intro hn
      exact h ((upB_all S C w).2 fun u hu => by
        apply Classical.byContradiction
        intro h0
        exact hn ⟨u, hu, h0⟩)
    obtain ⟨x, hx, h0⟩ := hx
    obtain ⟨t, ht⟩ : ∃ t, t = prW S x w := ⟨_, rfl⟩
    have htq : t % (q : Int) = t := by rw [ht]; unfold prW; rw [hq, Int.emod_emod_of_dvd _ (Int.dvd_refl _)]
    have e0 := ls_shift hP g hq w hx 0
    have e1 := ls_shift hP g hq w hx t
    simp only [Int.add_zero] at e0
    rw [← ht] at e0 e1 h0
    have hq3 : q = 2 ∨ q = 3 := by omega
    rcases hq3 with rfl | rfl
    · have hs : ls (fun c => psi 2 (prW S c w) + psi 2 (prW S c w + t)) C = ls (fun _ => 0) C := ls_congr fun c _ => psi_2 _ _ (by rw [show ((2 : Nat) : Int) = 2 from rfl] at htq; omega)
      rw [ls_add, ls_const, ← e0] at hs
      omega
    · have hs : ls (fun c => psi 3 (prW S c w) + (psi 3 (prW S c w + t) + psi 3 (prW S c w + t + t))) C = ls (fun _ => 0) C := ls_congr fun c _ => psi_3 _ _ (by rw [show ((3 : Nat) : Int) = 3 from rfl] at htq; omega)
      rw [ls_add, ls_add, ls_const, ← e1, ← e0] at hs
      omega
/-- how many words of the dual code have a weight -/
def dcN (S C : List Int) (k : Nat) : Int := sm (fun w => if dist S 0 (w : Int) = (k : Int) ∧ upB S C (w : Int) C.length = true then 1 else 0) (nW S).toNat
theorem dual_counts {S C : List Int} (hP : Pl S) (g : Gp S C) (k : Nat) : ls (fun c => kr (byW (gi S 0 - 1) (dist S 0 c).toNat) S.length k) C = C.length * dcN S C k := by
  have hq2 := q_bd hP
  obtain ⟨q, hq⟩ : ∃ q : Nat, gi S 0 = (q : Int) := ⟨(gi S 0).toNat, by omega⟩
  have h1 : ls (fun c => Ek S q c k) C = ((q : Int) - 1) * ls (fun c => kr (byW (gi S 0 - 1) (dist S 0 c).toNat) S.length k) C := by
    rw [← ls_c]
    exact ls_congr fun c _ => by rw [Ek_row hP hq, hq]
  have h2 : ls (fun c => Ek S q c k) C = ((q : Int) - 1) * (C.length * dcN S C k) := by
    unfold Ek dcN
    rw [ls_sm, ← Int.mul_assoc, ← sm_c]
    refine sm_congr fun w _ => ?_
    by_cases e : dist S 0 (w : Int) = (k : Int)
    · simp only [e, if_true, true_and]
      rw [ls_psi hP g hq]
      split <;> simp
    · simp only [e, if_false, false_and]
      rw [ls_const]; simp
  rw [h1] at h2
  exact Int.eq_of_mul_eq_mul_left (by omega) h2

end Go.Proofs.YtcnnijeokefboaaGreatDoor

namespace Go.Proofs.YtcnnijeokefboaaGreatDoor
open Cv
set_option linter.unusedVariables false
set_option linter.unusedSimpArgs false

theorem duL_len {S : List Int} (hS : Sp S) (C : List Int) : (duL S C).length ≤ 1024 := by
  have N := nW_bd hS
  have := selL_len (fun w => upB S C (w : Int) C.length) (nW S).toNat
  unfold duL; omega
theorem duL_wd {S C : List Int} (hS : Sp S) {x : Int} (hx : x ∈ duL S C) : 0 ≤ x ∧ x < nW S := by
  have N := nW_bd hS
  obtain ⟨i, hi, _, rfl⟩ := (mem_selL _ _ _).1 hx
  omega
theorem duL_bd {S C : List Int} (hS : Sp S) {x : Int} (hx : x ∈ duL S C) : 0 ≤ x ∧ x ≤ 9223372036854775807 := by
  have N := nW_bd hS
  have := duL_wd hS hx
  omega
theorem duL_ne {S C : List Int} (hP : Pl S) : duL S C ≠ [] := fun h => by
  have N := nW_bd hP.sp
  have : (0 : Int) ∈ duL S C := (mem_selL _ _ _).2 ⟨0, by omega, (upB_all S C _).2 fun u _ => by rw [prW_comm]; exact prW_0 S u, rfl⟩
  rw [h] at this; simp at this
/-- the counts of the dual code's weights -/
def dcL (S C : List Int) : List Int := wcTo S (duL S C) (duL S C).length
def vDc (S C : List Int) : List Int := if eLin S C = 0 then dcL S C else []
theorem dcL_len (S C : List Int) : (dcL S C).length = S.length + 1 := by simp [dcL, wcTo]
theorem vDc_len (S C : List Int) : (vDc S C).length ≤ 1048576 := by
  unfold vDc
  split
  · rename_i h
    have hs := (eCode_zero (eLin_zero h).1).1
    rw [dcL_len]; have := hs.hi; omega
  · simp
theorem ls_append (f : Int → Int) (l m : List Int) : ls f (l ++ m) = ls f l + ls f m := by
  induction l with
  | nil => simp [ls]
  | cons x l ih => rw [List.cons_append, ls, ls, ih]; omega
theorem cnt_ls (f : Int → Bool) (L : List Int) : cnt (fun i => f (gi L i)) L.length = ls (fun x => if f x = true then 1 else 0) L := by
  have : ∀ n, n ≤ L.length → cnt (fun i => f (gi L i)) n = ls (fun x => if f x = true then 1 else 0) (L.take n) := by
    intro n hn
    induction n with
    | zero => simp [cnt, ls]
    | succ n ih =>
      rw [cnt, ih (by omega), List.take_succ_eq_append_getElem (by omega), ls_append, ← gi_lt L n (by omega)]
      simp [ls]
  rw [this _ (Nat.le_refl _), List.take_length]
theorem ls_sel (g : Int → Int) (p : Nat → Bool) (n : Nat) : ls g (selL p n) = sm (fun w => if p w = true then g (w : Int) else 0) n := by
  induction n with
  | zero => rfl
  | succ n ih =>
    rw [selL_succ, ls_append, ih, sm]
    by_cases e : p n = true
    · rw [if_pos e, if_pos e]; simp [ls]
    · rw [if_neg e, if_neg e]; simp [ls]
/-- how many words of a code have a weight -/
def cw (S C : List Int) (w : Nat) : Int := cnt (fun i => decide (dist S 0 (gi C i) = (w : Int))) C.length
theorem gi_wc (S C : List Int) {w : Nat} (hw : w < S.length + 1) : gi (wcTo S C C.length) w = cw S C w := by simp [gi, wcTo, cw, hw]
theorem cw_ls (S C : List Int) (w : Nat) : cw S C w = ls (fun c => if dist S 0 c = (w : Int) then 1 else 0) C := by
  unfold cw
  rw [cnt_ls (fun c => decide (dist S 0 c = (w : Int)))]
  exact ls_congr fun c _ => by simp
theorem cw_bd (S C : List Int) (hl : C.length ≤ 1024) (w : Nat) : 0 ≤ cw S C w ∧ cw S C w ≤ 1024 := by
  have := cnt_bd (fun i => decide (dist S 0 (gi C i) = (w : Int))) C.length
  unfold cw; omega
theorem dc_at (S C : List Int) {k : Nat} (hk : k < S.length + 1) : gi (dcL S C) k = dcN S C k := by
  unfold dcL
  rw [gi_wc S _ hk, cw_ls]
  unfold duL dcN
  rw [ls_sel]
  refine sm_congr fun w _ => ?_
  by_cases e : upB S C (w : Int) C.length = true
  · simp only [e, if_true, and_true]
  · rw [if_neg e, if_neg (fun h => e h.2)]

/-! ### rows -/
theorem kr_zero (b : Nat → Int) (i k : Nat) (h : i < k) : kr b i k = 0 := by
  induction i generalizing k with
  | zero => show (if k = 0 then (1 : Int) else 0) = 0; rw [if_neg (by omega)]
  | succ i ih =>
    obtain ⟨m, rfl⟩ : ∃ m, k = m + 1 := ⟨k - 1, by omega⟩
    show kr b i (m + 1) + b i * kr b i m = 0
    rw [ih _ (by omega), ih _ (by omega)]; simp
theorem kr_step (b : Nat → Int) (i k : Nat) : kr b (i + 1) (k + 1) = kr b i (k + 1) + b i * kr b i k := rfl
theorem kr_step0 (b : Nat → Int) (i : Nat) : kr b (i + 1) 0 = kr b i 0 := rfl
def p3 : Nat → Int
  | 0 => 1
  | n + 1 => 3 * p3 n
theorem kr_bd {b : Nat → Int} (hb : ∀ i, b i = -1 ∨ b i = 1 ∨ b i = 2) (i k : Nat) : -(p3 i) ≤ kr b i k ∧ kr b i k ≤ p3 i := by
  induction i generalizing k with
  | zero =>
    show -(1 : Int) ≤ (if k = 0 then (1 : Int) else 0) ∧ (if k = 0 then (1 : Int) else 0) ≤ 1
    split <;> omega
  | succ i ih =>
    rw [p3]
    cases k with
    | zero => rw [kr_step0]; have := ih 0; omega
    | succ k =>
      rw [kr_step]
      have h1 := ih (k + 1)
      have h2 := ih k
      rcases hb i with h | h | h <;> rw [h] <;> omega
theorem p3_bd {i : Nat} (hi : i ≤ 8) : 1 ≤ p3 i ∧ p3 i ≤ 6561 := by
  have : i = 0 ∨ i = 1 ∨ i = 2 ∨ i = 3 ∨ i = 4 ∨ i = 5 ∨ i = 6 ∨ i = 7 ∨ i = 8 := by omega
  rcases this with rfl | rfl | rfl | rfl | rfl | rfl | rfl | rfl | rfl <;> decide
theorem mul_bd {c x B : Int} (hc : 0 ≤ c) (hc2 : c ≤ 1024) (h1 : -B ≤ x) (h2 : x ≤ B) (hB : 0 ≤ B) : -(1024 * B) ≤ c * x ∧ c * x ≤ 1024 * B := by
  have h3 : c * B ≤ 1024 * B := Int.mul_le_mul_of_nonneg_right hc2 hB
  have h4 : c * x ≤ c * B := Int.mul_le_mul_of_nonneg_left h2 hc
  have h5 : c * (-B) ≤ c * x := Int.mul_le_mul_of_nonneg_left h1 hc
  rw [Int.mul_neg] at h5
  omega
theorem byW_or {q : Int} (hq : q = 2 ∨ q = 3) (w i : Nat) : byW (q - 1) w i = -1 ∨ byW (q - 1) w i = 1 ∨ byW (q - 1) w i = 2 := by unfold byW; split <;> omega
/-- the model's row -/
def rwF (S C : List Int) (w i k : Nat) : Int := cw S C w * kr (byW (gi S 0 - 1) w) i k
theorem rwF_bd {S : List Int} (hP : Pl S) {C : List Int} (hl : C.length ≤ 1024) (w : Nat) {i : Nat} (hi : i ≤ 8) (k : Nat) : -6718464 ≤ rwF S C w i k ∧ rwF S C w i k ≤ 6718464 := by
  have h1 := cw_bd S C hl w
  have h2 := kr_bd (byW_or hP.q w) i k
  have h3 := p3_bd hi
  have := mul_bd h1.1 h1.2 (x := kr (byW (gi S 0 - 1) w) i k) (B := 6561) (by omega) (by omega) (by omega)
  unfold rwF; omega
theorem rwF_0 (S C : List Int) (w k : Nat) : rwF S C w 0 k = if k = 0 then cw S C w else 0 := by
  unfold rwF kr; split <;> simp
theorem rwF_step (S C : List Int) (w i k : Nat) : rwF S C w (i + 1) (k + 1) = rwF S C w i (k + 1) + byW (gi S 0 - 1) w i * rwF S C w i k := by
  unfold rwF; rw [kr_step, Int.mul_add, Int.mul_left_comm]
theorem rwF_step0 (S C : List Int) (w i : Nat) : rwF S C w (i + 1) 0 = rwF S C w i 0 := by unfold rwF; rw [kr_step0]
theorem rwF_zero (S C : List Int) (w i k : Nat) (h : i < k) : rwF S C w i k = 0 := by unfold rwF; rw [kr_zero _ _ _ h]; simp
/-- the rows summed up -/
def ouF (S C : List Int) (m k : Nat) : Int := sm (fun w => rwF S C w S.length k) m
theorem ouF_bd {S : List Int} (hP : Pl S) {C : List Int} (hl : C.length ≤ 1024) (m k : Nat) : -(m * 6718464 : Int) ≤ ouF S C m k ∧ ouF S C m k ≤ m * 6718464 := by
  have hh := hP.sp.hi
  induction m with
  | zero => simp [ouF, sm]
  | succ m ih =>
    have h := rwF_bd hP hl m hh k
    unfold ouF at ih ⊢
    rw [sm]
    omega
theorem sm_delta (g : Nat → Int) (d n : Nat) : sm (fun w => (if (d : Int) = (w : Int) then 1 else 0) * g w) n = if d < n then g d else 0 := by
  induction n with
  | zero => simp [sm]
  | succ n ih =>
    rw [sm, ih]
    by_cases e : d = n
    · subst e; simp
    · rw [if_neg (show ¬ (d : Int) = (n : Int) by omega)]
      by_cases h : d < n
      · rw [if_pos h, if_pos (by omega)]; simp
      · rw [if_neg h, if_neg (by omega)]; simp
theorem ouF_all {S C : List Int} (hP : Pl S) (g : Gp S C) (k : Nat) : ouF S C (S.length + 1) k = C.length * dcN S C k := by
  rw [← dual_counts hP g k]
  have h1 : ls (fun c => kr (byW (gi S 0 - 1) (dist S 0 c).toNat) S.length k) C = ls (fun c => sm (fun w => (if dist S 0 c = (w : Int) then 1 else 0) * kr (byW (gi S 0 - 1) w) S.length k) (S.length + 1)) C := ls_congr fun c _ => by
    have hd := dist_bd S 0 c
    obtain ⟨d, hd2⟩ : ∃ d : Nat, dist S 0 c = (d : Int) := ⟨(dist S 0 c).toNat, by omega⟩
    rw [hd2, sm_delta (fun w => kr (byW (gi S 0 - 1) w) S.length k), if_pos (by omega)]; simp
  rw [h1, ls_sm (fun c w => (if dist S 0 c = (w : Int) then 1 else 0) * kr (byW (gi S 0 - 1) w) S.length k)]
  unfold ouF rwF
  refine sm_congr fun w _ => ?_
  rw [cw_ls, Int.mul_comm, ← ls_c]
  exact ls_congr fun c _ => Int.mul_comm _ _
theorem dc_quo {S C : List Int} (hP : Pl S) (g : Gp S C) (k : Nat) : Int.tdiv (ouF S C (S.length + 1) k) (C.length : Int) = dcN S C k := by
  have := List.length_pos_of_mem g.zero
  rw [ouF_all hP g, Int.mul_tdiv_cancel_left _ (by omega)]

end Go.Proofs.YtcnnijeokefboaaGreatDoor

namespace Go.Proofs.YtcnnijeokefboaaGreatDoor
open Cv
set_option linter.unusedVariables false
set_option linter.unusedSimpArgs false

/-- a table of numbers -/
def tbN (g : Nat → Int) (N : Nat) : List Int := (List.range N).map g
theorem tbN_len (g : Nat → Int) (N : Nat) : (tbN g N).length = N := by simp [tbN]
theorem gi_tbN (g : Nat → Int) {N k : Nat} (h : k < N) : gi (tbN g N) k = g k := by simp [gi, tbN, h]
theorem tbN_set (g : Nat → Int) (N k : Nat) (x : Int) : (tbN g N).set k x = tbN (fun u => if u = k then x else g u) N := by
  apply List.ext_getElem (by simp [tbN])
  intro i h1 h2
  simp only [tbN, List.getElem_set, List.getElem_map, List.getElem_range]
  by_cases e : k = i
  · subst e; simp
  · rw [if_neg e, if_neg (fun h => e h.symm)]
theorem tbN_congr {g g' : Nat → Int} {N : Nat} (h : ∀ u, u < N → g u = g' u) : tbN g N = tbN g' N := by
  unfold tbN
  exact List.map_congr_left (fun u hu => h u (List.mem_range.1 hu))
theorem tbN_0 (N : Nat) : List.replicate N (0 : Int) = tbN (fun _ => 0) N := by
  simp [tbN, List.map_const']
theorem tbN_eq {L : List Int} {g : Nat → Int} {N : Nat} (hl : L.length = N) (h : ∀ k, k < N → gi L k = g k) : tbN g N = L := ext_gi (by rw [tbN_len, hl]) fun i hi => by
  rw [tbN_len] at hi
  rw [gi_tbN _ hi, h i hi]

end Go.Proofs.YtcnnijeokefboaaGreatDoor
