/-
  Texts put together: MathP, MathK, MathL. By an AI agent.
-/
import Derived.Test.YtpmfedllbiblbaaGreatMathB
import Derived.Test.YtpmfedllbiblbaaGreatMath
namespace Go.Proofs.YtpmfedllbiblbaaGreat
open Cv
set_option linter.unusedVariables false
set_option linter.unusedSimpArgs false

/-- the sum of the first values -/
def sP (f : Nat → Int) : Nat → Int
  | 0 => 0
  | n + 1 => sP f n + f n
theorem sP_congr {f g : Nat → Int} {n : Nat} (h : ∀ u, u < n → f u = g u) : sP f n = sP g n := by
  induction n with
  | zero => rfl
  | succ n ih => rw [sP, sP, ih fun u hu => h u (by omega), h n (by omega)]
theorem sP_add (f g : Nat → Int) (n : Nat) : sP (fun u => f u + g u) n = sP f n + sP g n := by
  induction n with
  | zero => rfl
  | succ n ih => rw [sP, sP, sP, ih]; omega
theorem sP_ind (p : Nat → Bool) (n : Nat) : sP (fun u => if p u = true then 1 else 0) n = ((selTo p n).length : Int) := by
  induction n with
  | zero => rfl
  | succ n ih =>
    rw [sP, ih]
    by_cases h : p n = true
    · rw [selTo_yes h, if_pos h, List.length_append]; simp
    · rw [selTo_no (by simpa using h), if_neg h]; simp
theorem sP_0 (n : Nat) : sP (fun _ => 0) n = 0 := by
  induction n with
  | zero => rfl
  | succ n ih => rw [sP, ih]; rfl
theorem sP_lo {f : Nat → Int} {n : Nat} (h : ∀ u, u < n → 1 ≤ f u) : (n : Int) ≤ sP f n := by
  induction n with
  | zero => simp [sP]
  | succ n ih => have := ih fun u hu => h u (by omega); have := h n (by omega); rw [sP]; omega
theorem sP_hi {f : Nat → Int} {n : Nat} (h : ∀ u, u < n → f u ≤ 1) : sP f n ≤ (n : Int) := by
  induction n with
  | zero => simp [sP]
  | succ n ih => have := ih fun u hu => h u (by omega); have := h n (by omega); rw [sP]; omega
theorem sP_one {f : Nat → Int} {n : Nat} (h : ∀ u, u < n → 1 ≤ f u) (e : sP f n = (n : Int)) : ∀ u, u < n → f u = 1 := by
  induction n with
  | zero => intro u hu; omega
  | succ n ih =>
    have h1 := sP_lo (f := f) (n := n) fun u hu => h u (by omega)
    have h2 := h n (by omega)
    rw [sP] at e
    intro u hu
    by_cases c : u = n
    · subst c; omega
    · exact ih (fun u hu => h u (by omega)) (by omega) u (by omega)
theorem sP_one2 {f : Nat → Int} {n : Nat} (h : ∀ u, u < n → f u ≤ 1) (e : sP f n = (n : Int)) : ∀ u, u < n → f u = 1 := by
  induction n with
  | zero => intro u hu; omega
  | succ n ih =>
    have h1 := sP_hi (f := f) (n := n) fun u hu => h u (by omega)
    have h2 := h n (by omega)
    rw [sP] at e
    intro u hu
    by_cases c : u = n
    · subst c; omega
    · exact ih (fun u hu => h u (by omega)) (by omega) u (by omega)
theorem sP_ones {f : Nat → Int} {n : Nat} (h : ∀ u, u < n → f u = 1) : sP f n = (n : Int) := by
  induction n with
  | zero => rfl
  | succ n ih => rw [sP, ih fun u hu => h u (by omega), h n (by omega)]; simp
theorem cnt_pos {p : Nat → Bool} {n : Nat} : 1 ≤ cnt p n ↔ ∃ k, k < n ∧ p k = true := by
  induction n with
  | zero => simp [cnt]
  | succ n ih =>
    have hb := cnt_bd p n
    rw [cnt]
    by_cases h : p n = true
    · rw [if_pos h]; exact ⟨fun _ => ⟨n, by omega, h⟩, fun _ => by omega⟩
    · rw [if_neg h, Int.add_zero, ih]
      exact ⟨fun ⟨k, a, b⟩ => ⟨k, by omega, b⟩, fun ⟨k, a, b⟩ => ⟨k, by
        rcases Nat.lt_or_ge k n with g | g
        · exact g
        · have : k = n := by omega
          subst this; exact absurd b h, b⟩⟩

/-- how often sets of one size hold words, all together -/
theorem parts_sum {F : Nat → Nat → Bool} {n K : Nat} {z : Int} (hz : ∀ k, k < K → ((selTo (F k) n).length : Int) = z) : sP (fun u => cnt (fun k => F k u) K) n = K * z := by
  induction K with
  | zero => simp only [cnt]; rw [sP_0]; simp
  | succ K ih =>
    have e : sP (fun u => cnt (fun k => F k u) (K + 1)) n = sP (fun u => cnt (fun k => F k u) K + if F K u = true then 1 else 0) n := sP_congr fun u hu => rfl
    rw [e, sP_add, ih fun k hk => hz k (by omega), sP_ind, hz K (by omega), show ((K + 1 : Nat) : Int) = (K : Int) + 1 by simp, Int.add_mul]; simp
theorem parts_iff {F : Nat → Nat → Bool} {n K : Nat} {z : Int} (hz : ∀ k, k < K → ((selTo (F k) n).length : Int) = z) : (∀ u, u < n → cnt (fun k => F k u) K = 1) ↔ ((K : Int) * z = n ∧ ∀ u, u < n → ∃ k, k < K ∧ F k u = true) := by
  rw [← parts_sum hz]
  constructor
  · intro h
    exact ⟨sP_ones h, fun u hu => cnt_pos.1 (by rw [h u hu]; exact Int.le_refl _)⟩
  · rintro ⟨e, h⟩
    exact sP_one (fun u hu => cnt_pos.2 (h u hu)) e
theorem parts_iff2 {F : Nat → Nat → Bool} {n K : Nat} {z : Int} (hz : ∀ k, k < K → ((selTo (F k) n).length : Int) = z) : ((∀ u, u < n → cnt (fun k => F k u) K ≤ 1) ∧ (K : Int) * z = n) ↔ ((K : Int) * z = n ∧ ∀ u, u < n → ∃ k, k < K ∧ F k u = true) := by
  rw [← parts_iff hz]
  constructor
  · rintro ⟨h, e⟩
    rw [← parts_sum hz] at e
    exact sP_one2 h e
  · intro h
    exact ⟨fun u hu => by rw [h u hu]; exact Int.le_refl _, by rw [← parts_sum hz]; exact sP_ones h⟩

/-- whether each word is covered once -/
def perB (S C : List Int) (r : Int) : Bool := decide (∀ u, u < (nW S).toNat → tAt S C r u = 1)
theorem ballW_size {S : List Int} (hS : Sp S) (x : Int) {r : Int} (hr : 0 ≤ r) : ((ballW S x r).length : Int) = sizeN S r := by
  have e := ball_count S hS.bd x r.toNat
  rw [Int.toNat_of_nonneg hr] at e
  rw [show sizeN S r = sumF (coef S S.length) r.toNat from rfl, ← e, ← List.length_map (f := Prod.fst), ballW_P]
theorem per_iff {S : List Int} (hS : Sp S) (C : List Int) {r : Int} (hr : 0 ≤ r) : perB S C r = true ↔ ((C.length : Int) * sizeN S r = nW S ∧ ∀ u : Nat, u < (nW S).toNat → ∃ k, k < C.length ∧ dist S (u : Int) (gi C k) ≤ r) := by
  have hN := nW_bd hS
  have h := parts_iff (F := fun k u => decide (dist S (gi C k) (u : Int) ≤ r)) (n := (nW S).toNat) (K := C.length) (z := sizeN S r) fun k hk => by
    rw [← ballW_size hS (gi C k) hr, ballW]
    have e : (fun (u : Nat) => decide (dist S (gi C k) (u : Int) ≤ r)) = ballB S (gi C k) r := by
      funext u; simp [ballB, dist_comm S (gi C k)]
    rw [e]
  unfold perB
  rw [decide_eq_true_eq]
  refine Iff.trans h ?_
  rw [show (((nW S).toNat : Nat) : Int) = nW S by omega]
  simp only [decide_eq_true_eq, dist_comm S (gi C _)]
def vPer (S C : List Int) (r : Int) : Bool := if eCov S C r = 0 then perB S C r else false

/-- the first number below n for which p holds, n if there is none -/
def fstI (p : Nat → Bool) : Nat → Nat
  | 0 => 0
  | n + 1 => if fstI p n < n then fstI p n else if p n = true then n else n + 1
theorem fstI_le (p : Nat → Bool) (n : Nat) : fstI p n ≤ n := by
  induction n with
  | zero => simp [fstI]
  | succ n ih => rw [fstI]; repeat' split
                 all_goals omega
theorem fstI_none {p : Nat → Bool} {n : Nat} (h : ∀ k, k < n → p k = false) : fstI p n = n := by
  induction n with
  | zero => rfl
  | succ n ih => rw [fstI, ih fun k hk => h k (by omega), if_neg (by omega), if_neg (by rw [h n (by omega)]; simp)]
theorem fstI_at {p : Nat → Bool} {n k : Nat} (hk : k < n) (h : p k = true) (h0 : ∀ j, j < k → p j = false) : fstI p n = k := by
  induction n with
  | zero => omega
  | succ n ih =>
    rw [fstI]
    by_cases e : k = n
    · subst e; rw [fstI_none h0, if_neg (by omega), if_pos h]
    · rw [ih (by omega), if_pos (by omega)]
theorem fstI_lt {p : Nat → Bool} {n : Nat} (h : fstI p n < n) : p (fstI p n) = true ∧ ∀ j, j < fstI p n → p j = false := by
  induction n with
  | zero => omega
  | succ n ih =>
    rw [fstI] at h ⊢
    by_cases e : fstI p n < n
    · rw [if_pos e]; exact ih e
    · have e2 : fstI p n = n := by have := fstI_le p n; omega
      rw [if_neg e] at h ⊢
      by_cases c : p n = true
      · rw [if_pos c]
        refine ⟨c, fun j hj => ?_⟩
        by_cases g : p j = true
        · exfalso
          have hm : ∀ (m : Nat), j < m → fstI p m < m := by
            intro m
            induction m with
            | zero => intro h; omega
            | succ m ihm =>
              intro hj
              rw [fstI]
              by_cases q : fstI p m < m
              · rw [if_pos q]; omega
              · by_cases q2 : j < m
                · exact absurd (ihm q2) q
                · have : j = m := by omega
                  subst this; rw [if_neg q, if_pos g]; omega
          have := hm n hj
          omega
        · simpa using g
      · rw [if_neg c] at h; omega
theorem fstI_ex {p : Nat → Bool} {n : Nat} (h : ∃ k, k < n ∧ p k = true) : fstI p n < n := by
  induction n with
  | zero => obtain ⟨k, hk, _⟩ := h; omega
  | succ n ih =>
    obtain ⟨k, hk, hp⟩ := h
    rw [fstI]
    by_cases e : fstI p n < n
    · rw [if_pos e]; omega
    · rw [if_neg e]
      by_cases c : k < n
      · exact absurd (ih ⟨k, c, hp⟩) e
      · have : k = n := by omega
        subst this; rw [if_pos hp]; omega
theorem fstI_cut {p : Nat → Bool} {a n : Nat} (ha : a < n) (h : ∀ k, a ≤ k → p k = p a) : (fstI p n < n ↔ fstI p (a + 1) < a + 1) ∧ (fstI p n < n → fstI p n = fstI p (a + 1)) := by
  have key : ∀ k, k < n → p k = true → (∀ j, j < k → p j = false) → k < a + 1 := by
    intro k hk hp h0
    rcases Nat.lt_or_ge k (a + 1) with g | g
    · exact g
    · exfalso
      have h1 := h0 a (by omega)
      rw [h k (by omega), h1] at hp; cases hp
  constructor
  · constructor
    · intro g
      obtain ⟨x, y⟩ := fstI_lt g
      exact fstI_ex ⟨_, key _ g x y, x⟩
    · intro g
      obtain ⟨x, y⟩ := fstI_lt g
      exact fstI_ex ⟨_, by omega, x⟩
  · intro g
    obtain ⟨x, y⟩ := fstI_lt g
    exact (fstI_at (key _ g x y) x y).symm
/-- the ball of a word with a radius of all places has all words -/
theorem per_full {S C : List Int} {r : Int} (hr : (S.length : Int) ≤ r) : perB S C r = perB S C S.length := by
  have e : ∀ u : Nat, tAt S C r u = tAt S C S.length u := fun u =>
    cnt_congr _ _ _ fun k hk => by have := dist_bd S (gi C k) (u : Int); rw [decide_eq_true (by omega), decide_eq_true (by omega)]
  unfold perB
  simp only [e]
def prI (S C : List Int) (n : Nat) : Nat := fstI (fun r => perB S C (r : Int)) n
theorem pr_more {S : List Int} (hs : S.length ≤ 8) (C : List Int) : (prI S C 9 < 9 ↔ prI S C (S.length + 1) < S.length + 1) ∧ (prI S C 9 < 9 → prI S C 9 = prI S C (S.length + 1)) :=
  fstI_cut (p := fun r => perB S C (r : Int)) (a := S.length) (n := 9) (by omega) fun k hk => per_full (by omega)
def ePr (S C : List Int) : Int := if eCode S C = 0 then (if prI S C (S.length + 1) < S.length + 1 then 0 else 4) else eCode S C
def vPr (S C : List Int) : Int := if ePr S C = 0 then (prI S C (S.length + 1) : Int) else 0
/-- the first word of a code near to a word -/
def decI (S C : List Int) (r x : Int) : Nat := fstI (fun k => decide (dist S (gi C k) x ≤ r)) C.length
theorem dec_lt {S C : List Int} {r : Int} (hS : Sp S) (hr : 0 ≤ r) (h : perB S C r = true) {x : Int} (hx : 0 ≤ x ∧ x < nW S) : decI S C r x < C.length := by
  have h1 := ((per_iff hS C hr).1 h).2 x.toNat (by omega)
  rw [show ((x.toNat : Nat) : Int) = x by omega] at h1
  obtain ⟨k, hk, hd⟩ := h1
  exact fstI_ex ⟨k, hk, by rw [dist_comm]; simpa using hd⟩
def eDec (S C : List Int) (r x : Int) : Int := if eTimes S C x r = 0 then (if perB S C r = true then 0 else 5) else eTimes S C x r
def vDec (S C : List Int) (r x : Int) : Int := if eDec S C r x = 0 then gi C (decI S C r x) else 0
end Go.Proofs.YtpmfedllbiblbaaGreat

namespace Go.Proofs.YtpmfedllbiblbaaGreat
set_option linter.unusedVariables false
set_option linter.unusedSimpArgs false
namespace Cv

/-- the sum of a list's first k numbers, each with its weight -/
def wsT (g : Nat → Int) (L : List Int) : Nat → Int
  | 0 => 0
  | k + 1 => wsT g L k + g k * gi L k
/-- the sum of the first values -/
def sT (f : Nat → Int) : Nat → Int
  | 0 => 0
  | k + 1 => sT f k + f k
theorem wsT_bump (g : Nat → Int) (L : List Int) (v : Int) (h0 : 0 ≤ v) (hv : v.toNat < L.length) (n : Nat) : wsT g (bump L v) n = wsT g L n + if v.toNat < n then g v.toNat else 0 := by
  induction n with
  | zero => simp [wsT]
  | succ n ih =>
    rw [wsT, wsT, ih]
    have e : gi (bump L v) n = gi L n + if n = v.toNat then 1 else 0 := by
      unfold bump
      rw [gi_set _ _ _ _ hv]
      by_cases e : n = v.toNat
      · subst e; rw [if_pos rfl, if_pos rfl]
      · rw [if_neg e, if_neg e]; omega
    rw [e, Int.mul_add]
    by_cases h1 : n = v.toNat
    · subst h1; rw [if_neg (by omega), if_pos rfl, if_pos (by omega)]; omega
    · rw [if_neg h1, Int.mul_zero]
      by_cases h2 : v.toNat < n
      · rw [if_pos h2, if_pos (by omega)]; omega
      · rw [if_neg h2, if_neg (by omega)]; omega
theorem wsT_rep (g : Nat → Int) (m n : Nat) : wsT g (List.replicate m 0) n = 0 := by
  induction n with
  | zero => rfl
  | succ n ih => rw [wsT, ih, gi_rep0]; simp
theorem wsT_cov (g f : Nat → Int) (n : Nat) (k : Nat) (h : ∀ u, u < k → 0 ≤ f u ∧ (f u).toNat < n) : wsT g (covTo f n k) n = sT (fun u => g (f u).toNat) k := by
  induction k with
  | zero => rw [covTo, wsT_rep]; rfl
  | succ k ih =>
    obtain ⟨h1, h2⟩ := h k (by omega)
    rw [covTo, wsT_bump g _ _ h1 (by rw [covTo_len]; exact h2), ih fun u hu => h u (by omega), if_pos h2]
    rfl
theorem sT_congr {f g : Nat → Int} (n : Nat) (h : ∀ u, u < n → f u = g u) : sT f n = sT g n := by
  induction n with
  | zero => rfl
  | succ n ih => rw [sT, sT, ih fun u hu => h u (by omega), h n (by omega)]
theorem sT_add (f g : Nat → Int) (n : Nat) : sT (fun u => f u + g u) n = sT f n + sT g n := by
  induction n with
  | zero => rfl
  | succ n ih => simp only [sT]; rw [ih]; omega
theorem sT_one (n : Nat) : sT (fun _ => 1) n = n := by
  induction n with
  | zero => rfl
  | succ n ih => rw [sT, ih]; omega
theorem sT_zero (n : Nat) : sT (fun _ => 0) n = 0 := by
  induction n with
  | zero => rfl
  | succ n ih => rw [sT, ih]; omega
theorem sT_sel (p : Nat → Bool) (n : Nat) : sT (fun u => if p u = true then 1 else 0) n = ((selTo p n).length : Int) := by
  induction n with
  | zero => rfl
  | succ n ih =>
    rw [sT, ih, selTo, List.length_append]
    by_cases e : p n = true
    · rw [if_pos e, if_pos e]; simp
    · rw [if_neg e, if_neg e]; simp
theorem exS_sT (f : Nat → Int) (n : Nat) : exS f n = sT f n - n := by
  induction n with
  | zero => rfl
  | succ n ih => rw [exS, sT, ih]; omega
theorem sT_tcov {S : List Int} (hS : Sp S) (C : List Int) {r : Int} (hr : 0 ≤ r) (k : Nat) : sT (fun u => tcov S C r (u : Int) k) (nW S).toNat = (k : Int) * sizeN S r := by
  induction k with
  | zero =>
    have e : sT (fun u => tcov S C r (u : Int) 0) (nW S).toNat = sT (fun _ => 0) (nW S).toNat := sT_congr _ fun u _ => rfl
    rw [e, sT_zero]; simp
  | succ k ih =>
    have e : sT (fun u => tcov S C r (u : Int) (k + 1)) (nW S).toNat = sT (fun u => tcov S C r (u : Int) k + if ballB S (gi C k) r u = true then 1 else 0) (nW S).toNat := by
      refine sT_congr _ fun u hu => ?_
      rw [tcov_ball S C r u k hu]
      have h3 : cntIn (ballW S (gi C k) r) u (ballW S (gi C k) r).length = if u < (nW S).toNat ∧ ballB S (gi C k) r u = true then 1 else 0 := cntIn_sel _ _ _
      rw [h3]
      by_cases e : ballB S (gi C k) r u = true
      · rw [if_pos ⟨hu, e⟩, if_pos e]
      · rw [if_neg (fun g => e g.2), if_neg e]
    have h4 : ((selTo (ballB S (gi C k) r) (nW S).toNat).length : Int) = sizeN S r := ballW_size hS (gi C k) hr
    rw [e, sT_add, ih, sT_sel, h4]
    push_cast
    rw [Int.add_mul, Int.one_mul]
theorem cov0_iff (f : Nat → Int) (n : Nat) (hn : 1 ≤ n) (k : Nat) (h : ∀ u, u < k → 0 ≤ f u ∧ (f u).toNat < n) : gi (covTo f n k) 0 = 0 ↔ zTo f k = false := by
  induction k with
  | zero => simp [covTo, zTo, gi_rep0]
  | succ k ih =>
    obtain ⟨h1, h2⟩ := h k (by omega)
    have hb := covTo_bd f n k 0
    have ih' := ih fun u hu => h u (by omega)
    have hl := covTo_len f n k
    rw [covTo, zTo, Bool.or_eq_false_iff, ← ih', decide_eq_false_iff_not]
    unfold bump
    rw [gi_set _ _ _ _ (by rw [hl]; exact h2)]
    by_cases e : f k = 0
    · rw [e]; simp; omega
    · rw [if_neg (by omega)]
      exact ⟨fun g => ⟨g, e⟩, fun g => g.1⟩
/-- what holds of the counts of a code that covers -/
theorem fk_all {S C : List Int} {r : Int} (h : eCov S C r = 0) : (vCov S C r).length = C.length + 1 ∧ wsT (fun _ => 1) (vCov S C r) (C.length + 1) = nW S ∧ wsT (fun k => (k : Int)) (vCov S C r) (C.length + 1) = vSize S r * C.length ∧ (eExc S C r = 0 ↔ gi (vCov S C r) 0 = 0) ∧ (eExc S C r = 0 → vExc S C r = vSize S r * C.length - nW S) := by
  obtain ⟨hz, r0, r8⟩ := eCov_zero h
  obtain ⟨hS, _, _⟩ := eCode_zero hz
  have N := nW_bd hS
  have hv : vCov S C r = covTo (tAt S C r) (C.length + 1) (nW S).toNat := by unfold vCov; rw [if_pos h]
  have e0 : eBall S 0 r = 0 := by
    unfold eBall
    have : eWords S [0] = 0 := by
      unfold eWords
      rw [if_pos ((isSp_iff S).2 hS), if_pos ((okW_iff _ _ _).2 fun i hi => ?_)]
      have : i = 0 := by simpa using hi
      subst this; exact ⟨Int.le_refl _, by show (0 : Int) < nW S; omega⟩
    rw [if_pos this, if_pos ⟨r0, r8⟩]
  have hsz : vSize S r = sizeN S r := by unfold vSize; rw [if_pos e0]
  have hf : ∀ u, u < (nW S).toNat → 0 ≤ tAt S C r u ∧ (tAt S C r u).toNat < C.length + 1 := fun u _ => by have := tAt_bd S C r u; omega
  have hsum : sT (tAt S C r) (nW S).toNat = (C.length : Int) * sizeN S r := sT_tcov hS C r0 C.length
  have hc0 := cov0_iff (tAt S C r) (C.length + 1) (by omega) (nW S).toNat hf
  rw [hv, hsz]
  refine ⟨covTo_len _ _ _, ?_, ?_, ?_, ?_⟩
  · rw [wsT_cov _ _ _ _ hf, sT_one]; omega
  · rw [wsT_cov _ _ _ _ hf, sT_congr (g := tAt S C r) _ fun u hu => Int.toNat_of_nonneg (hf u hu).1, hsum, Int.mul_comm]
  · rw [hc0]
    unfold eExc
    rw [if_pos h]
    cases zTo (tAt S C r) (nW S).toNat <;> simp
  · intro hx
    have hzt : zTo (tAt S C r) (nW S).toNat = false := by
      unfold eExc at hx
      rw [if_pos h] at hx
      cases e : zTo (tAt S C r) (nW S).toNat with
      | false => rfl
      | true => rw [e] at hx; simp at hx
    unfold vExc
    rw [if_pos ⟨h, hzt⟩, exS_sT, hsum, Int.mul_comm]
    omega

end Cv
end Go.Proofs.YtpmfedllbiblbaaGreat

namespace Go.Proofs.YtpmfedllbiblbaaGreat
set_option linter.unusedVariables false
set_option linter.unusedSimpArgs false
namespace Cv

/-- v numbers, of which p are picked and d drawn, h hits: a lottery -/
structure Lot (v p d h : Int) : Prop where
  v1 : 1 ≤ v
  v2 : v ≤ 12
  p1 : 1 ≤ p
  p2 : p ≤ v
  d1 : 1 ≤ d
  d2 : d ≤ v
  h1 : 1 ≤ h
  h2 : h ≤ p
  h3 : h ≤ d
def lotB (v p d h : Int) : Bool := decide (1 ≤ v ∧ v ≤ 12 ∧ 1 ≤ p ∧ p ≤ v ∧ 1 ≤ d ∧ d ≤ v ∧ 1 ≤ h ∧ h ≤ p ∧ h ≤ d)
theorem lot_iff (v p d h : Int) : lotB v p d h = true ↔ Lot v p d h := by
  unfold lotB
  rw [decide_eq_true_iff]
  constructor
  · rintro ⟨a, b, c, d, e, f, g, i, j⟩; exact ⟨a, b, c, d, e, f, g, i, j⟩
  · rintro ⟨a, b, c, d, e, f, g, i, j⟩; exact ⟨a, b, c, d, e, f, g, i, j⟩
theorem lot_not {v p d h : Int} (n : ¬ Lot v p d h) : lotB v p d h = false := by rw [← Bool.not_eq_true, lot_iff]; exact n
def eLot (v p d h : Int) : Int := if lotB v p d h = true then 0 else 1

/-- how many numbers a set has -/
def pc (m : Nat) : Nat := bsum m 12
theorem pc64 {m : Nat} (h : m < 4096) : bsum m 64 = pc m := bsum_more m 12 h 52
theorem pc_drop0 : ∀ a, a < 64 → ∀ b, b < 64 → 0 < 64 * a + b → pc ((64 * a + b) &&& (64 * a + b - 1)) + 1 = pc (64 * a + b) := by decide +kernel
theorem pc_drop (m : Nat) (h : m < 4096) (h0 : 0 < m) : pc (m &&& (m - 1)) + 1 = pc m := by
  have := pc_drop0 (m / 64) (by omega) (m % 64) (by omega)
  rw [Nat.div_add_mod] at this
  exact this h0
theorem pc_top0 : ∀ i, i < 12 → ∀ a, a < 64 → ∀ b, b < 64 → 64 * a + b < 2 ^ i → pc (2 ^ i + (64 * a + b)) = pc (64 * a + b) + 1 := by decide +kernel
theorem pc_top (i : Nat) (hi : i < 12) (m : Nat) (hm : m < 2 ^ i) : pc (2 ^ i + m) = pc m + 1 := by
  have hl : 2 ^ i ≤ 2 ^ 12 := Nat.pow_le_pow_right (by omega) (by omega)
  have := pc_top0 i hi (m / 64) (by omega) (m % 64) (by omega)
  rw [Nat.div_add_mod] at this
  exact this hm
theorem pc_le (i : Nat) : i < 13 → ∀ m, m < 2 ^ i → pc m ≤ i := by
  induction i with
  | zero => intro _ m hm; rw [show m = 0 by omega]; exact Nat.le_refl _
  | succ i ih =>
    intro hi m hm
    by_cases h : m < 2 ^ i
    · have := ih (by omega) m h; omega
    · rw [Nat.pow_succ] at hm
      have := pc_top i (by omega) (m - 2 ^ i) (by omega)
      rw [show 2 ^ i + (m - 2 ^ i) = m by omega] at this
      have := ih (by omega) (m - 2 ^ i) (by omega)
      omega
theorem and_pred {m : Nat} (h : 0 < m) : m &&& (m - 1) < m := by have : m &&& (m - 1) ≤ m - 1 := Nat.and_le_right; omega

/-- how many of the first n numbers tell a set of k numbers -/
def cb (k : Nat) : Nat → Nat
  | 0 => 0
  | n + 1 => cb k n + if pc n = k then 1 else 0
theorem cb_shift {i : Nat} (hi : i < 12) (k : Nat) : ∀ r, r ≤ 2 ^ i → cb (k + 1) (2 ^ i + r) = cb (k + 1) (2 ^ i) + cb k r := by
  intro r
  induction r with
  | zero => intro _; rfl
  | succ r ih =>
    intro hr
    rw [← Nat.add_assoc, cb, ih (by omega), cb, pc_top i hi r (by omega)]
    by_cases h : pc r = k
    · rw [if_pos (by omega), if_pos h]; omega
    · rw [if_neg (by omega), if_neg h]; rfl
theorem cb_zero {i : Nat} (hi : i < 12) : ∀ r, r ≤ 2 ^ i → cb 0 (2 ^ i + r) = cb 0 (2 ^ i) := by
  intro r
  induction r with
  | zero => intro _; rfl
  | succ r ih =>
    intro hr
    rw [← Nat.add_assoc, cb, ih (by omega), pc_top i hi r (by omega), if_neg (by omega)]; rfl
theorem cb_mono (k : Nat) {a b : Nat} (h : a ≤ b) : cb k a ≤ cb k b := by
  induction b with
  | zero => rw [show a = 0 by omega]; exact Nat.le_refl _
  | succ b ih =>
    by_cases e : a = b + 1
    · rw [e]; exact Nat.le_refl _
    · rw [cb]; have := ih (by omega); omega

/-- how many ways there are to choose k of n things -/
def chTo (n : Nat) : Nat → Nat
  | 0 => 1
  | i + 1 => chTo n i * (n - i) / (i + 1)
def ch (n k : Nat) : Nat := if k ≤ n then chTo n k else 0
theorem ch_pascal : ∀ n, n < 13 → ∀ k, k < 13 → ch (n + 1) (k + 1) = ch n (k + 1) + ch n k := by decide +kernel
theorem ch_zero (n : Nat) : ch n 0 = 1 := by unfold ch; rw [if_pos (Nat.zero_le _)]; rfl
theorem chTo_le : ∀ n, n < 14 → ∀ i, i < 15 → chTo n i ≤ 1716 ∧ chTo n i * (n - i) ≤ 100000 := by decide +kernel
theorem ch_le {n k : Nat} (hn : n < 14) (hk : k < 15) : ch n k ≤ 1716 := by
  unfold ch
  split
  · exact (chTo_le n hn k hk).1
  · omega
theorem ch_mono {n k : Nat} (hn : n < 13) (hk : k < 13) : ch n (k + 1) ≤ ch (n + 1) (k + 1) := by rw [ch_pascal n hn k hk]; omega
theorem ch_mono' {k : Nat} (hk : k < 13) {b : Nat} : ∀ a, a ≤ b → b < 14 → ch a (k + 1) ≤ ch b (k + 1) := by
  induction b with
  | zero => intro a h _; rw [show a = 0 by omega]; exact Nat.le_refl _
  | succ b ih =>
    intro a h hb
    by_cases e : a = b + 1
    · rw [e]; exact Nat.le_refl _
    · exact Nat.le_trans (ih a (by omega) (by omega)) (ch_mono (by omega) hk)
theorem cb_ch : ∀ i, i < 13 → ∀ k, k < 13 → cb k (2 ^ i) = ch i k := by
  intro i
  induction i with
  | zero =>
    intro _ k _
    show cb k 0 + (if pc 0 = k then 1 else 0) = _
    rw [show pc 0 = 0 from rfl, show cb k 0 = 0 from rfl]
    unfold ch
    by_cases h : k = 0
    · subst h; rfl
    · rw [if_neg (by omega), if_neg (by omega)]
  | succ i ih =>
    intro hi k hk
    rw [Nat.pow_succ, Nat.mul_two]
    cases k with
    | zero => rw [cb_zero (by omega) _ (Nat.le_refl _), ih (by omega) 0 (by omega), ch_zero, ch_zero]
    | succ k => rw [cb_shift (by omega) k _ (Nat.le_refl _), ih (by omega) _ hk, ih (by omega) k (by omega), ch_pascal i (by omega) k (by omega)]

/-- all sets of k of v numbers, ascending -/
def isK (k : Nat) (m : Nat) : Bool := decide (pc m = k)
def setsL (v k : Nat) : List Int := selL (isK k) (2 ^ v)
theorem selK_len (k n : Nat) : (selL (isK k) n).length = cb k n := by
  induction n with
  | zero => rfl
  | succ n ih =>
    rw [selL_succ, List.length_append, ih, cb]
    unfold isK
    by_cases h : pc n = k
    · rw [if_pos (by simpa using h), if_pos h]; rfl
    · rw [if_neg (by simpa using h), if_neg h]; rfl
theorem setsL_len {v k : Nat} (hv : v < 13) (hk : k < 13) : (setsL v k).length = ch v k := by unfold setsL; rw [selK_len, cb_ch v hv k hk]

theorem gi_sel (p : Nat → Bool) {m n : Nat} (hm : m < n) (hp : p m = true) : gi (selL p n) (selL p m).length = m ∧ (selL p m).length < (selL p n).length := by
  induction n with
  | zero => omega
  | succ n ih =>
    rw [selL_succ]
    by_cases e : m = n
    · subst e
      rw [if_pos hp]
      refine ⟨?_, by simp⟩
      simp [gi, List.getD]
    · obtain ⟨h1, h2⟩ := ih (by omega)
      refine ⟨?_, by rw [List.length_append]; omega⟩
      rw [← h1]
      simp only [gi, List.getD]
      rw [List.getElem?_append_left h2]
theorem sel_at (p : Nat → Bool) {n r : Nat} (h : r < (selL p n).length) : ∃ m, m < n ∧ p m = true ∧ gi (selL p n) r = m ∧ (selL p m).length = r := by
  induction n with
  | zero => simp [selL] at h
  | succ n ih =>
    rw [selL_succ] at h ⊢
    by_cases e : r < (selL p n).length
    · obtain ⟨m, h1, h2, h3, h4⟩ := ih e
      refine ⟨m, by omega, h2, ?_, h4⟩
      rw [← h3]
      simp only [gi, List.getD]
      rw [List.getElem?_append_left e]
    · cases hp : p n with
      | false => rw [hp] at h; simp at h; omega
      | true =>
        rw [hp] at h; simp at h
        refine ⟨n, by omega, hp, ?_, by omega⟩
        rw [show r = (selL p n).length by omega, if_pos rfl]
        simp [gi, List.getD]

/-- the top bit of what is left of a set -/
theorem top_bit {m : Nat} : ∀ j, 0 < m % 2 ^ j → ∃ i, i < j ∧ m % 2 ^ j = 2 ^ i + m % 2 ^ i := by
  intro j
  induction j with
  | zero => intro h; simp [Nat.mod_one] at h
  | succ j ih =>
    intro h
    have e : m % 2 ^ (j + 1) = m % 2 ^ j + 2 ^ j * (m / 2 ^ j % 2) := Nat.mod_pow_succ
    rcases Nat.mod_two_eq_zero_or_one (m / 2 ^ j) with h0 | h0
    · rw [e, h0, Nat.mul_zero, Nat.add_zero] at h ⊢
      obtain ⟨i, h1, h2⟩ := ih h
      exact ⟨i, by omega, h2⟩
    · exact ⟨j, by omega, by rw [e, h0]; omega⟩

/-- one bit more of a set: how many numbers it has and how many sets are behind -/
theorem rk_step {m i : Nat} (hi : i < 12) :
    (m / 2 ^ i % 2 = 0 → m % 2 ^ (i + 1) = m % 2 ^ i) ∧
    (m / 2 ^ i % 2 = 1 → pc (m % 2 ^ (i + 1)) = pc (m % 2 ^ i) + 1 ∧ cb (pc (m % 2 ^ (i + 1))) (m % 2 ^ (i + 1)) = ch i (pc (m % 2 ^ i) + 1) + cb (pc (m % 2 ^ i)) (m % 2 ^ i)) := by
  have e : m % 2 ^ (i + 1) = m % 2 ^ i + 2 ^ i * (m / 2 ^ i % 2) := Nat.mod_pow_succ
  have hlt : m % 2 ^ i < 2 ^ i := Nat.mod_lt _ (Nat.two_pow_pos i)
  constructor
  · intro h; rw [e, h]; omega
  · intro h
    rw [h, Nat.mul_one, Nat.add_comm (m % 2 ^ i)] at e
    have hp := pc_top i hi _ hlt
    have hl := pc_le i (by omega) _ hlt
    rw [e, hp]
    refine ⟨rfl, ?_⟩
    rw [cb_shift hi _ _ (Nat.le_of_lt hlt), cb_ch i (by omega) _ (by omega)]

/-- the greatest number of a set with a rank -/
theorem of_rank {m j k : Nat} (hj : j ≤ 12) (hk : pc (m % 2 ^ j) = k + 1) : ∃ i, i < j ∧ m % 2 ^ j = 2 ^ i + m % 2 ^ i ∧ pc (m % 2 ^ i) = k ∧ k ≤ i ∧ k < 12 ∧
    cb (k + 1) (m % 2 ^ j) = ch i (k + 1) + cb k (m % 2 ^ i) ∧ cb (k + 1) (m % 2 ^ j) < ch (i + 1) (k + 1) := by
  have h0 : 0 < m % 2 ^ j := by
    rcases Nat.eq_zero_or_pos (m % 2 ^ j) with h | h
    · rw [h] at hk; simp [pc, bsum] at hk
    · exact h
  obtain ⟨i, h1, h2⟩ := top_bit j h0
  have hlt : m % 2 ^ i < 2 ^ i := Nat.mod_lt _ (Nat.two_pow_pos i)
  have hp := pc_top i (by omega) _ hlt
  rw [← h2, hk] at hp
  have hpk : pc (m % 2 ^ i) = k := by omega
  have hl := pc_le i (by omega) _ hlt
  have hs := cb_shift (i := i) (by omega) k _ (Nat.le_of_lt hlt)
  rw [← h2, cb_ch i (by omega) _ (by omega)] at hs
  refine ⟨i, h1, h2, hpk, by omega, by omega, hs, ?_⟩
  rw [hs, ch_pascal i (by omega) k (by omega)]
  have h3 : cb k (m % 2 ^ i) < cb k (2 ^ i) := by
    refine Nat.lt_of_lt_of_le ?_ (cb_mono k (show m % 2 ^ i + 1 ≤ 2 ^ i by omega))
    rw [cb, if_pos hpk]; omega
  rw [cb_ch i (by omega) k (by omega)] at h3
  omega

/-- whether a number is in a set -/
def bitN (m k : Nat) : Bool := decide (m / 2 ^ k % 2 = 1)
def memL (m : Nat) : List Int := selL (bitN m) 12
theorem bitN_hi {m v k : Nat} (h : m < 2 ^ v) (hk : v ≤ k) : bitN m k = false := by
  unfold bitN
  have : m / 2 ^ k = 0 := Nat.div_eq_of_lt (Nat.lt_of_lt_of_le h (Nat.pow_le_pow_right (by omega) hk))
  rw [this]; rfl
theorem sel_more {m v : Nat} (h : m < 2 ^ v) (k : Nat) : selL (bitN m) (v + k) = selL (bitN m) v := by
  induction k with
  | zero => rfl
  | succ k ih => rw [← Nat.add_assoc, selL_succ, ih, bitN_hi h (by omega), if_neg (by decide), List.append_nil]
theorem memL_of {m v : Nat} (h : m < 2 ^ v) (hv : v ≤ 12) : selL (bitN m) v = memL m := by
  unfold memL
  have := sel_more h (12 - v)
  rw [show v + (12 - v) = 12 by omega] at this
  exact this.symm
theorem pow_le12 {v : Nat} (h : v ≤ 12) : 2 ^ v ≤ 4096 := Nat.pow_le_pow_right (n := 2) (by omega) h

/-- how many sets v numbers have -/
def tw (v : Int) : Int := 2 ^ v.toNat
theorem tw_nat (v : Int) : tw v = ((2 ^ v.toNat : Nat) : Int) := by unfold tw; simp
theorem tw_bd {v : Int} (h : 1 ≤ v ∧ v ≤ 12) : 2 ≤ tw v ∧ tw v ≤ 4096 := by
  rw [tw_nat]
  have h1 : 2 ^ v.toNat ≤ 4096 := pow_le12 (by omega)
  have h2 : 2 ^ 1 ≤ 2 ^ v.toNat := Nat.pow_le_pow_right (by omega) (by omega)
  omega
/-- a set of k of v numbers, told as a number -/
def setB (v k x : Int) : Bool := decide (0 ≤ x ∧ x < tw v) && decide ((pc x.toNat : Int) = k)
theorem setB_iff (v k x : Int) : setB v k x = true ↔ (0 ≤ x ∧ x < tw v) ∧ (pc x.toNat : Int) = k := by
  unfold setB
  rw [Bool.and_eq_true, decide_eq_true_iff, decide_eq_true_iff]
theorem setB_out {v k x : Int} (h : ¬ (0 ≤ x ∧ x < tw v)) : setB v k x = false := by rw [← Bool.not_eq_true, setB_iff]; exact fun g => h g.1
theorem setB_in {v k x : Int} (h : 0 ≤ x ∧ x < tw v) : setB v k x = decide ((pc x.toNat : Int) = k) := by unfold setB; rw [decide_eq_true h]; rfl
theorem setB_isK {v : Int} {k m : Nat} (h : (m : Int) < tw v) : setB v (k : Int) (m : Int) = isK k m := by
  rw [setB_in ⟨by omega, h⟩]; unfold isK
  rw [Bool.eq_iff_iff, decide_eq_true_iff, decide_eq_true_iff, Int.toNat_natCast]
  omega

end Cv
end Go.Proofs.YtpmfedllbiblbaaGreat
