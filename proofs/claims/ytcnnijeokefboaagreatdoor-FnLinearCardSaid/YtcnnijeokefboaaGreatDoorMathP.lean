/-
  Plain facts on perfect codes: sums over all words, lists of sets that part a space. By an AI agent.
-/
import Derived.Test.YtcnnijeokefboaaGreatDoorMathB
import Derived.Test.YtcnnijeokefboaaGreatDoorMath
namespace Go.Proofs.YtcnnijeokefboaaGreatDoor
open Cv
set_option linter.unusedVariables false
set_option linter.unusedSimpArgs false

/-- the sum of the first values -/
def sP (f : Nat → Int) : Nat → Int
  | 0 => 0
  | n + 1 => sP f n + f n
theorem sP_congr {f g : Nat → Int} {n : Nat} (h : ∀ u, u < n → f u = g u) : sP f n = sP g n := by
  induction n with
  | zero => rfl
  | succ n ih => rw [sP, sP, ih fun u hu => h u (by omega), h n (by omega)]
theorem sP_add (f g : Nat → Int) (n : Nat) : sP (fun u => f u + g u) n = sP f n + sP g n := by
  induction n with
  | zero => rfl
  | succ n ih => rw [sP, sP, sP, ih]; omega
theorem sP_ind (p : Nat → Bool) (n : Nat) : sP (fun u => if p u = true then 1 else 0) n = ((selTo p n).length : Int) := by
  induction n with
  | zero => rfl
  | succ n ih =>
    rw [sP, ih]
    by_cases h : p n = true
    · rw [selTo_yes h, if_pos h, List.length_append]; simp
    · rw [selTo_no (by simpa using h), if_neg h]; simp
theorem sP_0 (n : Nat) : sP (fun _ => 0) n = 0 := by
  induction n with
  | zero => rfl
  | succ n ih => rw [sP, ih]; rfl
theorem sP_lo {f : Nat → Int} {n : Nat} (h : ∀ u, u < n → 1 ≤ f u) : (n : Int) ≤ sP f n := by
  induction n with
  | zero => simp [sP]
  | succ n ih => have := ih fun u hu => h u (by omega); have := h n (by omega); rw [sP]; omega
theorem sP_hi {f : Nat → Int} {n : Nat} (h : ∀ u, u < n → f u ≤ 1) : sP f n ≤ (n : Int) := by
  induction n with
  | zero => simp [sP]
  | succ n ih => have := ih fun u hu => h u (by omega); have := h n (by omega); rw [sP]; omega
theorem sP_one {f : Nat → Int} {n : Nat} (h : ∀ u, u < n → 1 ≤ f u) (e : sP f n = (n : Int)) : ∀ u, u < n → f u = 1 := by
  induction n with
  | zero => intro u hu; omega
  | succ n ih =>
    have h1 := sP_lo (f := f) (n := n) fun u hu => h u (by omega)
    have h2 := h n (by omega)
    rw [sP] at e
    intro u hu
    by_cases c : u = n
    · subst c; omega
    · exact ih (fun u hu => h u (by omega)) (by omega) u (by omega)
theorem sP_one2 {f : Nat → Int} {n : Nat} (h : ∀ u, u < n → f u ≤ 1) (e : sP f n = (n : Int)) : ∀ u, u < n → f u = 1 := by
  induction n with
  | zero => intro u hu; omega
  | succ n ih =>
    have h1 := sP_hi (f := f) (n := n) fun u hu => h u (by omega)
    have h2 := h n (by omega)
    rw [sP] at e
    intro u hu
    by_cases c : u = n
    · subst c; omega
    · exact ih (fun u hu => h u (by omega)) (by omega) u (by omega)
theorem sP_ones {f : Nat → Int} {n : Nat} (h : ∀ u, u < n → f u = 1) : sP f n = (n : Int) := by
  induction n with
  | zero => rfl
  | succ n ih => rw [sP, ih fun u hu => h u (by omega), h n (by omega)]; simp
theorem cnt_pos {p : Nat → Bool} {n : Nat} : 1 ≤ cnt p n ↔ ∃ k, k < n ∧ p k = true := by
  induction n with
  | zero => simp [cnt]
  | succ n ih =>
    have hb := cnt_bd p n
    rw [cnt]
    by_cases h : p n = true
    · rw [if_pos h]; exact ⟨fun _ => ⟨n, by omega, h⟩, fun _ => by omega⟩
    · rw [if_neg h, Int.add_zero, ih]
      exact ⟨fun ⟨k, a, b⟩ => ⟨k, by omega, b⟩, fun ⟨k, a, b⟩ => ⟨k, by
        rcases Nat.lt_or_ge k n with g | g
        · exact g
        · have : k = n := by omega
          subst this; exact absurd b h, b⟩⟩

/-- how often sets of one size hold words, all together -/
theorem parts_sum {F : Nat → Nat → Bool} {n K : Nat} {z : Int} (hz : ∀ k, k < K → ((selTo (F k) n).length : Int) = z) : sP (fun u => cnt (fun k => F k u) K) n = K * z := by
  induction K with
  | zero => simp only [cnt]; rw [sP_0]; simp
  | succ K ih =>
    have e : sP (fun u => cnt (fun k => F k u) (K + 1)) n = sP (fun u => cnt (fun k => F k u) K + if F K u = true then 1 else 0) n := sP_congr fun u hu => rfl
    rw [e, sP_add, ih fun k hk => hz k (by omega), sP_ind, hz K (by omega), show ((K + 1 : Nat) : Int) = (K : Int) + 1 by simp, Int.add_mul]; simp
theorem parts_iff {F : Nat → Nat → Bool} {n K : Nat} {z : Int} (hz : ∀ k, k < K → ((selTo (F k) n).length : Int) = z) : (∀ u, u < n → cnt (fun k => F k u) K = 1) ↔ ((K : Int) * z = n ∧ ∀ u, u < n → ∃ k, k < K ∧ F k u = true) := by
  rw [← parts_sum hz]
  constructor
  · intro h
    exact ⟨sP_ones h, fun u hu => cnt_pos.1 (by rw [h u hu]; exact Int.le_refl _)⟩
  · rintro ⟨e, h⟩
    exact sP_one (fun u hu => cnt_pos.2 (h u hu)) e
theorem parts_iff2 {F : Nat → Nat → Bool} {n K : Nat} {z : Int} (hz : ∀ k, k < K → ((selTo (F k) n).length : Int) = z) : ((∀ u, u < n → cnt (fun k => F k u) K ≤ 1) ∧ (K : Int) * z = n) ↔ ((K : Int) * z = n ∧ ∀ u, u < n → ∃ k, k < K ∧ F k u = true) := by
  rw [← parts_iff hz]
  constructor
  · rintro ⟨h, e⟩
    rw [← parts_sum hz] at e
    exact sP_one2 h e
  · intro h
    exact ⟨fun u hu => by rw [h u hu]; exact Int.le_refl _, by rw [← parts_sum hz]; exact sP_ones h⟩

/-- whether each word is covered once -/
def perB (S C : List Int) (r : Int) : Bool := decide (∀ u, u < (nW S).toNat → tAt S C r u = 1)
theorem ballW_size {S : List Int} (hS : Sp S) (x : Int) {r : Int} (hr : 0 ≤ r) : ((ballW S x r).length : Int) = sizeN S r := by
  have e := ball_count S hS.bd x r.toNat
  rw [Int.toNat_of_nonneg hr] at e
  rw [show sizeN S r = sumF (coef S S.length) r.toNat from rfl, ← e, ← List.length_map (f := Prod.fst), ballW_P]
theorem per_iff {S : List Int} (hS : Sp S) (C : List Int) {r : Int} (hr : 0 ≤ r) : perB S C r = true ↔ ((C.length : Int) * sizeN S r = nW S ∧ ∀ u : Nat, u < (nW S).toNat → ∃ k, k < C.length ∧ dist S (u : Int) (gi C k) ≤ r) := by
  have hN := nW_bd hS
  have h := parts_iff (F := fun k u => decide (dist S (gi C k) (u : Int) ≤ r)) (n := (nW S).toNat) (K := C.length) (z := sizeN S r) fun k hk => by
    rw [← ballW_size hS (gi C k) hr, ballW]
    have e : (fun (u : Nat) => decide (dist S (gi C k) (u : Int) ≤ r)) = ballB S (gi C k) r := by
      funext u; simp [ballB, dist_comm S (gi C k)]
    rw [e]
  unfold perB
  rw [decide_eq_true_eq]
  refine Iff.trans h ?_
  rw [show (((nW S).toNat : Nat) : Int) = nW S by omega]
  simp only [decide_eq_true_eq, dist_comm S (gi C _)]
def vPer (S C : List Int) (r : Int) : Bool := if eCov S C r = 0 then perB S C r else false

/-- the first number below n for which p holds, n if there is none -/
def fstI (p : Nat → Bool) : Nat → Nat
  | 0 => 0
  | n + 1 => if fstI p n < n then fstI p n else if p n = true then n else n + 1
theorem fstI_le (p : Nat → Bool) (n : Nat) : fstI p n ≤ n := by
  induction n with
  | zero => simp [fstI]
  | succ n ih => rw [fstI]; repeat' split
                 all_goals omega
theorem fstI_none {p : Nat → Bool} {n : Nat} (h : ∀ k, k < n → p k = false) : fstI p n = n := by
  induction n with
  | zero => rfl
  | succ n ih => rw [fstI, ih fun k hk => h k (by omega), if_neg (by omega), if_neg (by rw [h n (by omega)]; simp)]
theorem fstI_at {p : Nat → Bool} {n k : Nat} (hk : k < n) (h : p k = true) (h0 : ∀ j, j < k → p j = false) : fstI p n = k := by
  induction n with
  | zero => omega
  | succ n ih =>
    rw [fstI]
    by_cases e : k = n
    · subst e; rw [fstI_none h0, if_neg (by omega), if_pos h]
    · rw [ih (by omega), if_pos (by omega)]
theorem fstI_lt {p : Nat → Bool} {n : Nat} (h : fstI p n < n) : p (fstI p n) = true ∧ ∀ j, j < fstI p n → p j = false := by
  induction n with
  | zero => omega
  | succ n ih =>
    rw [fstI] at h ⊢
    by_cases e : fstI p n < n
    · rw [if_pos e]; exact ih e
    · have e2 : fstI p n = n := by have := fstI_le p n; omega
      rw [if_neg e] at h ⊢
      by_cases c : p n = true
      · rw [if_pos c]
        refine ⟨c, fun j hj => ?_⟩
        by_cases g : p j = true
        · exfalso
          have hm : ∀ (m : Nat), j < m → fstI p m < m := by
            intro m
            induction m with
            | zero => intro h; omega
            | succ m ihm =>
              intro hj
              rw [fstI]
              by_cases q : fstI p m < m
              · rw [if_pos q]; omega
              · by_cases q2 : j < m
                · exact absurd (ihm q2) q
                · have : j = m := by omega
                  subst this; rw [if_neg q, if_pos g]; omega
          have := hm n hj
          omega
        · simpa using g
      · rw [if_neg c] at h; omega
theorem fstI_ex {p : Nat → Bool} {n : Nat} (h : ∃ k, k < n ∧ p k = true) : fstI p n < n := by
  induction n with
  | zero => obtain ⟨k, hk, _⟩ := h; omega
  | succ n ih =>
    obtain ⟨k, hk, hp⟩ := h
    rw [fstI]
    by_cases e : fstI p n < n
    · rw [if_pos e]; omega
    · rw [if_neg e]
      by_cases c : k < n
      · exact absurd (ih ⟨k, c, hp⟩) e
      · have : k = n := by omega
        subst this; rw [if_pos hp]; omega
theorem fstI_cut {p : Nat → Bool} {a n : Nat} (ha : a < n) (h : ∀ k, a ≤ k → p k = p a) : (fstI p n < n ↔ fstI p (a + 1) < a + 1) ∧ (fstI p n < n → fstI p n = fstI p (a + 1)) := by
  have key : ∀ k, k < n → p k = true → (∀ j, j < k → p j = false) → k < a + 1 := by
    intro k hk hp h0
    rcases Nat.lt_or_ge k (a + 1) with g | g
    · exact g
    · exfalso
      have h1 := h0 a (by omega)
      rw [h k (by omega), h1] at hp; cases hp
  constructor
  · constructor
    · intro g
      obtain ⟨x, y⟩ := fstI_lt g
      exact fstI_ex ⟨_, key _ g x y, x⟩
    · intro g
      obtain ⟨x, y⟩ := fstI_lt g
      exact fstI_ex ⟨_, by omega, x⟩
  · intro g
    obtain ⟨x, y⟩ := fstI_lt g
    exact (fstI_at (key _ g x y) x y).symm
/-- the ball of a word with a radius of all places has all words -/
theorem per_full {S C : List Int} {r : Int} (hr : (S.length : Int) ≤ r) : perB S C r = perB S C S.length := by
  have e : ∀ u : Nat, tAt S C r u = tAt S C S.length u := fun u =>
    cnt_congr _ _ _ fun k hk => by have := dist_bd S (gi C k) (u : Int); rw [decide_eq_true (by omega), decide_eq_true (by omega)]
  unfold perB
  simp only [e]
def prI (S C : List Int) (n : Nat) : Nat := fstI (fun r => perB S C (r : Int)) n
theorem pr_more {S : List Int} (hs : S.length ≤ 8) (C : List Int) : (prI S C 9 < 9 ↔ prI S C (S.length + 1) < S.length + 1) ∧ (prI S C 9 < 9 → prI S C 9 = prI S C (S.length + 1)) :=
  fstI_cut (p := fun r => perB S C (r : Int)) (a := S.length) (n := 9) (by omega) fun k hk => per_full (by omega)
def ePr (S C : List Int) : Int := if eCode S C = 0 then (if prI S C (S.length + 1) < S.length + 1 then 0 else 4) else eCode S C
def vPr (S C : List Int) : Int := if ePr S C = 0 then (prI S C (S.length + 1) : Int) else 0
/-- the first word of a code near to a word -/
def decI (S C : List Int) (r x : Int) : Nat := fstI (fun k => decide (dist S (gi C k) x ≤ r)) C.length
theorem dec_lt {S C : List Int} {r : Int} (hS : Sp S) (hr : 0 ≤ r) (h : perB S C r = true) {x : Int} (hx : 0 ≤ x ∧ x < nW S) : decI S C r x < C.length := by
  have h1 := ((per_iff hS C hr).1 h).2 x.toNat (by omega)
  rw [show ((x.toNat : Nat) : Int) = x by omega] at h1
  obtain ⟨k, hk, hd⟩ := h1
  exact fstI_ex ⟨k, hk, by rw [dist_comm]; simpa using hd⟩
def eDec (S C : List Int) (r x : Int) : Int := if eTimes S C x r = 0 then (if perB S C r = true then 0 else 5) else eTimes S C x r
def vDec (S C : List Int) (r x : Int) : Int := if eDec S C r x = 0 then gi C (decI S C r x) else 0
end Go.Proofs.YtcnnijeokefboaaGreatDoor
