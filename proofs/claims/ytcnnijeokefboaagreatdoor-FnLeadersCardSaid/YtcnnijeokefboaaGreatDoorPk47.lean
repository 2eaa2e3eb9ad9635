/-
  Texts put together: MathP, MathK, SumW, Lws. By an AI agent.
-/
import Derived.Test.YtcnnijeokefboaaGreatDoorMathB
import Derived.Test.YtcnnijeokefboaaGreatDoorMath
import Derived.Test.YtcnnijeokefboaaGreatDoorHelp
namespace Go.Proofs.YtcnnijeokefboaaGreatDoor
open Cv
set_option linter.unusedVariables false
set_option linter.unusedSimpArgs false

/-- the sum of the first values -/
def sP (f : Nat → Int) : Nat → Int
  | 0 => 0
  | n + 1 => sP f n + f n
theorem sP_congr {f g : Nat → Int} {n : Nat} (h : ∀ u, u < n → f u = g u) : sP f n = sP g n := by
  induction n with
  | zero => rfl
  | succ n ih => rw [sP, sP, ih fun u hu => h u (by omega), h n (by omega)]
theorem sP_add (f g : Nat → Int) (n : Nat) : sP (fun u => f u + g u) n = sP f n + sP g n := by
  induction n with
  | zero => rfl
  | succ n ih => rw [sP, sP, sP, ih]; omega
theorem sP_ind (p : Nat → Bool) (n : Nat) : sP (fun u => if p u = true then 1 else 0) n = ((selTo p n).length : Int) := by
  induction n with
  | zero => rfl
  | succ n ih =>
    rw [sP, ih]
    by_cases h : p n = true
    · rw [selTo_yes h, if_pos h, List.length_append]; simp
    · rw [selTo_no (by simpa using h), if_neg h]; simp
theorem sP_0 (n : Nat) : sP (fun _ => 0) n = 0 := by
  induction n with
  | zero => rfl
  | succ n ih => rw [sP, ih]; rfl
theorem sP_lo {f : Nat → Int} {n : Nat} (h : ∀ u, u < n → 1 ≤ f u) : (n : Int) ≤ sP f n := by
  induction n with
  | zero => simp [sP]
  | succ n ih => have := ih fun u hu => h u (by omega); have := h n (by omega); rw [sP]; omega
theorem sP_hi {f : Nat → Int} {n : Nat} (h : ∀ u, u < n → f u ≤ 1) : sP f n ≤ (n : Int) := by
  induction n with
  | zero => simp [sP]
  | succ n ih => have := ih fun u hu => h u (by omega); have := h n (by omega); rw [sP]; omega
theorem sP_one {f : Nat → Int} {n : Nat} (h : ∀ u, u < n → 1 ≤ f u) (e : sP f n = (n : Int)) : ∀ u, u < n → f u = 1 := by
  induction n with
  | zero => intro u hu; omega
  | succ n ih =>
    have h1 := sP_lo (f := f) (n := n) fun u hu => h u (by omega)
    have h2 := h n (by omega)
    rw [sP] at e
    intro u hu
    by_cases c : u = n
    · subst c; omega
    · exact ih (fun u hu => h u (by omega)) (by omega) u (by omega)
theorem sP_one2 {f : Nat → Int} {n : Nat} (h : ∀ u, u < n → f u ≤ 1) (e : sP f n = (n : Int)) : ∀ u, u < n → f u = 1 := by
  induction n with
  | zero => intro u hu; omega
  | succ n ih =>
    have h1 := sP_hi (f := f) (n := n) fun u hu => h u (by omega)
    have h2 := h n (by omega)
    rw [sP] at e
    intro u hu
    by_cases c : u = n
    · subst c; omega
    · exact ih (fun u hu => h u (by omega)) (by omega) u (by omega)
theorem sP_ones {f : Nat → Int} {n : Nat} (h : ∀ u, u < n → f u = 1) : sP f n = (n : Int) := by
  induction n with
  | zero => rfl
  | succ n ih => rw [sP, ih fun u hu => h u (by omega), h n (by omega)]; simp
theorem cnt_pos {p : Nat → Bool} {n : Nat} : 1 ≤ cnt p n ↔ ∃ k, k < n ∧ p k = true := by
  induction n with
  | zero => simp [cnt]
  | succ n ih =>
    have hb := cnt_bd p n
    rw [cnt]
    by_cases h : p n = true
    · rw [if_pos h]; exact ⟨fun _ => ⟨n, by omega, h⟩, fun _ => by omega⟩
    · rw [if_neg h, Int.add_zero, ih]
      exact ⟨fun ⟨k, a, b⟩ => ⟨k, by omega, b⟩, fun ⟨k, a, b⟩ => ⟨k, by
        rcases Nat.lt_or_ge k n with g | g
        · exact g
        · have : k = n := by omega
          subst this; exact absurd b h, b⟩⟩

/-- how often sets of one size hold words, all together -/
theorem parts_sum {F : Nat → Nat → Bool} {n K : Nat} {z : Int} (hz : ∀ k, k < K → ((selTo (F k) n).length : Int) = z) : sP (fun u => cnt (fun k => F k u) K) n = K * z := by
  induction K with
  | zero => simp only [cnt]; rw [sP_0]; simp
  | succ K ih =>
    have e : sP (fun u => cnt (fun k => F k u) (K + 1)) n = sP (fun u => cnt (fun k => F k u) K + if F K u = true then 1 else 0) n := sP_congr fun u hu => rfl
    rw [e, sP_add, ih fun k hk => hz k (by omega), sP_ind, hz K (by omega), show ((K + 1 : Nat) : Int) = (K : Int) + 1 by simp, Int.add_mul]; simp
theorem parts_iff {F : Nat → Nat → Bool} {n K : Nat} {z : Int} (hz : ∀ k, k < K → ((selTo (F k) n).length : Int) = z) : (∀ u, u < n → cnt (fun k => F k u) K = 1) ↔ ((K : Int) * z = n ∧ ∀ u, u < n → ∃ k, k < K ∧ F k u = true) := by
  rw [← parts_sum hz]
  constructor
  · intro h
    exact ⟨sP_ones h, fun u hu => cnt_pos.1 (by rw [h u hu]; exact Int.le_refl _)⟩
  · rintro ⟨e, h⟩
    exact sP_one (fun u hu => cnt_pos.2 (h u hu)) e
theorem parts_iff2 {F : Nat → Nat → Bool} {n K : Nat} {z : Int} (hz : ∀ k, k < K → ((selTo (F k) n).length : Int) = z) : ((∀ u, u < n → cnt (fun k => F k u) K ≤ 1) ∧ (K : Int) * z = n) ↔ ((K : Int) * z = n ∧ ∀ u, u < n → ∃ k, k < K ∧ F k u = true) := by
  rw [← parts_iff hz]
  constructor
  · rintro ⟨h, e⟩
    rw [← parts_sum hz] at e
    exact sP_one2 h e
  · intro h
    exact ⟨fun u hu => by rw [h u hu]; exact Int.le_refl _, by rw [← parts_sum hz]; exact sP_ones h⟩

/-- whether each word is covered once -/
def perB (S C : List Int) (r : Int) : Bool := decide (∀ u, u < (nW S).toNat → tAt S C r u = 1)
theorem ballW_size {S : List Int} (hS : Sp S) (x : Int) {r : Int} (hr : 0 ≤ r) : ((ballW S x r).length : Int) = sizeN S r := by
  have e := ball_count S hS.bd x r.toNat
  rw [Int.toNat_of_nonneg hr] at e
  rw [show sizeN S r = sumF (coef S S.length) r.toNat from rfl, ← e, ← List.length_map (f := Prod.fst), ballW_P]
theorem per_iff {S : List Int} (hS : Sp S) (C : List Int) {r : Int} (hr : 0 ≤ r) : perB S C r = true ↔ ((C.length : Int) * sizeN S r = nW S ∧ ∀ u : Nat, u < (nW S).toNat → ∃ k, k < C.length ∧ dist S (u : Int) (gi C k) ≤ r) := by
  have hN := nW_bd hS
  have h := parts_iff (F := fun k u => decide (dist S (gi C k) (u : Int) ≤ r)) (n := (nW S).toNat) (K := C.length) (z := sizeN S r) fun k hk => by
    rw [← ballW_size hS (gi C k) hr, ballW]
    have e : (fun (u : Nat) => decide (dist S (gi C k) (u : Int) ≤ r)) = ballB S (gi C k) r := by
      funext u; simp [ballB, dist_comm S (gi C k)]
    rw [e]
  unfold perB
  rw [decide_eq_true_eq]
  refine Iff.trans h ?_
  rw [show (((nW S).toNat : Nat) : Int) = nW S by omega]
  simp only [decide_eq_true_eq, dist_comm S (gi C _)]
def vPer (S C : List Int) (r : Int) : Bool := if eCov S C r = 0 then perB S C r else false

/-- the first number below n for which p holds, n if there is none -/
def fstI (p : Nat → Bool) : Nat → Nat
  | 0 => 0
  | n + 1 => if fstI p n < n then fstI p n else if p n = true then n else n + 1
theorem fstI_le (p : Nat → Bool) (n : Nat) : fstI p n ≤ n := by
  induction n with
  | zero => simp [fstI]
  | succ n ih => rw [fstI]; repeat' split
                 all_goals omega
theorem fstI_none {p : Nat → Bool} {n : Nat} (h : ∀ k, k < n → p k = false) : fstI p n = n := by
  induction n with
  | zero => rfl
  | succ n ih => rw [fstI, ih fun k hk => h k (by omega), if_neg (by omega), if_neg (by rw [h n (by omega)]; simp)]
theorem fstI_at {p : Nat → Bool} {n k : Nat} (hk : k < n) (h : p k = true) (h0 : ∀ j, j < k → p j = false) : fstI p n = k := by
  induction n with
  | zero => omega
  | succ n ih =>
    rw [fstI]
    by_cases e : k = n
    · subst e; rw [fstI_none h0, if_neg (by omega), if_pos h]
    · rw [ih (by omega), if_pos (by omega)]
theorem fstI_lt {p : Nat → Bool} {n : Nat} (h : fstI p n < n) : p (fstI p n) = true ∧ ∀ j, j < fstI p n → p j = false := by
  induction n with
  | zero => omega
  | succ n ih =>
    rw [fstI] at h ⊢
    by_cases e : fstI p n < n
    · rw [if_pos e]; exact ih e
    · have e2 : fstI p n = n := by have := fstI_le p n; omega
      rw [if_neg e] at h ⊢
      by_cases c : p n = true
      · rw [if_pos c]
        refine ⟨c, fun j hj => ?_⟩
        by_cases g : p j = true
        · exfalso
          have hm : ∀ (m : Nat), j < m → fstI p m < m := by
            intro m
            induction m with
            | zero => intro h; omega
            | succ m ihm =>
              intro hj
              rw [fstI]
              by_cases q : fstI p m < m
              · rw [if_pos q]; omega
              · by_cases q2 : j < m
                · exact absurd (ihm q2) q
                · have : j = m := by omega
                  subst this; rw [if_neg q, if_pos g]; omega
          have := hm n hj
          omega
        · simpa using g
      · rw [if_neg c] at h; omega
theorem fstI_ex {p : Nat → Bool} {n : Nat} (h : ∃ k, k < n ∧ p k = true) : fstI p n < n := by
  induction n with
  | zero => obtain ⟨k, hk, _⟩ := h; omega
  | succ n ih =>
    obtain ⟨k, hk, hp⟩ := h
    rw [fstI]
    by_cases e : fstI p n < n
    · rw [if_pos e]; omega
    · rw [if_neg e]
      by_cases c : k < n
      · exact absurd (ih ⟨k, c, hp⟩) e
      · have : k = n := by omega
        subst this; rw [if_pos hp]; omega
theorem fstI_cut {p : Nat → Bool} {a n : Nat} (ha : a < n) (h : ∀ k, a ≤ k → p k = p a) : (fstI p n < n ↔ fstI p (a + 1) < a + 1) ∧ (fstI p n < n → fstI p n = fstI p (a + 1)) := by
  have key : ∀ k, k < n → p k = true → (∀ j, j < k → p j = false) → k < a + 1 := by
    intro k hk hp h0
    rcases Nat.lt_or_ge k (a + 1) with g | g
    · exact g
    · exfalso
      have h1 := h0 a (by omega)
      rw [h k (by omega), h1] at hp; cases hp
  constructor
  · constructor
    · intro g
      obtain ⟨x, y⟩ := fstI_lt g
      exact fstI_ex ⟨_, key _ g x y, x⟩
    · intro g
      obtain ⟨x, y⟩ := fstI_lt g
      exact fstI_ex ⟨_, by omega, x⟩
  · intro g
    obtain ⟨x, y⟩ := fstI_lt g
    exact (fstI_at (key _ g x y) x y).symm
/-- the ball of a word with a radius of all places has all words -/
theorem per_full {S C : List Int} {r : Int} (hr : (S.length : Int) ≤ r) : perB S C r = perB S C S.length := by
  have e : ∀ u : Nat, tAt S C r u = tAt S C S.length u := fun u =>
    cnt_congr _ _ _ fun k hk => by have := dist_bd S (gi C k) (u : Int); rw [decide_eq_true (by omega), decide_eq_true (by omega)]
  unfold perB
  simp only [e]
def prI (S C : List Int) (n : Nat) : Nat := fstI (fun r => perB S C (r : Int)) n
theorem pr_more {S : List Int} (hs : S.length ≤ 8) (C : List Int) : (prI S C 9 < 9 ↔ prI S C (S.length + 1) < S.length + 1) ∧ (prI S C 9 < 9 → prI S C 9 = prI S C (S.length + 1)) :=
  fstI_cut (p := fun r => perB S C (r : Int)) (a := S.length) (n := 9) (by omega) fun k hk => per_full (by omega)
def ePr (S C : List Int) : Int := if eCode S C = 0 then (if prI S C (S.length + 1) < S.length + 1 then 0 else 4) else eCode S C
def vPr (S C : List Int) : Int := if ePr S C = 0 then (prI S C (S.length + 1) : Int) else 0
/-- the first word of a code near to a word -/
def decI (S C : List Int) (r x : Int) : Nat := fstI (fun k => decide (dist S (gi C k) x ≤ r)) C.length
theorem dec_lt {S C : List Int} {r : Int} (hS : Sp S) (hr : 0 ≤ r) (h : perB S C r = true) {x : Int} (hx : 0 ≤ x ∧ x < nW S) : decI S C r x < C.length := by
  have h1 := ((per_iff hS C hr).1 h).2 x.toNat (by omega)
  rw [show ((x.toNat : Nat) : Int) = x by omega] at h1
  obtain ⟨k, hk, hd⟩ := h1
  exact fstI_ex ⟨k, hk, by rw [dist_comm]; simpa using hd⟩
def eDec (S C : List Int) (r x : Int) : Int := if eTimes S C x r = 0 then (if perB S C r = true then 0 else 5) else eTimes S C x r
def vDec (S C : List Int) (r x : Int) : Int := if eDec S C r x = 0 then gi C (decI S C r x) else 0
end Go.Proofs.YtcnnijeokefboaaGreatDoor

namespace Go.Proofs.YtcnnijeokefboaaGreatDoor
set_option linter.unusedVariables false
set_option linter.unusedSimpArgs false
namespace Cv

/-- the sum of a list's first k numbers, each with its weight -/
def wsT (g : Nat → Int) (L : List Int) : Nat → Int
  | 0 => 0
  | k + 1 => wsT g L k + g k * gi L k
/-- the sum of the first values -/
def sT (f : Nat → Int) : Nat → Int
  | 0 => 0
  | k + 1 => sT f k + f k
theorem wsT_bump (g : Nat → Int) (L : List Int) (v : Int) (h0 : 0 ≤ v) (hv : v.toNat < L.length) (n : Nat) : wsT g (bump L v) n = wsT g L n + if v.toNat < n then g v.toNat else 0 := by
  induction n with
  | zero => simp [wsT]
  | succ n ih =>
    rw [wsT, wsT, ih]
    have e : gi (bump L v) n = gi L n + if n = v.toNat then 1 else 0 := by
      unfold bump
      rw [gi_set _ _ _ _ hv]
      by_cases e : n = v.toNat
      · subst e; rw [if_pos rfl, if_pos rfl]
      · rw [if_neg e, if_neg e]; omega
    rw [e, Int.mul_add]
    by_cases h1 : n = v.toNat
    · subst h1; rw [if_neg (by omega), if_pos rfl, if_pos (by omega)]; omega
    · rw [if_neg h1, Int.mul_zero]
      by_cases h2 : v.toNat < n
      · rw [if_pos h2, if_pos (by omega)]; omega
      · rw [if_neg h2, if_neg (by omega)]; omega
theorem wsT_rep (g : Nat → Int) (m n : Nat) : wsT g (List.replicate m 0) n = 0 := by
  induction n with
  | zero => rfl
  | succ n ih => rw [wsT, ih, gi_rep0]; simp
theorem wsT_cov (g f : Nat → Int) (n : Nat) (k : Nat) (h : ∀ u, u < k → 0 ≤ f u ∧ (f u).toNat < n) : wsT g (covTo f n k) n = sT (fun u => g (f u).toNat) k := by
  induction k with
  | zero => rw [covTo, wsT_rep]; rfl
  | succ k ih =>
    obtain ⟨h1, h2⟩ := h k (by omega)
    rw [covTo, wsT_bump g _ _ h1 (by rw [covTo_len]; exact h2), ih fun u hu => h u (by omega), if_pos h2]
    rfl
theorem sT_congr {f g : Nat → Int} (n : Nat) (h : ∀ u, u < n → f u = g u) : sT f n = sT g n := by
  induction n with
  | zero => rfl
  | succ n ih => rw [sT, sT, ih fun u hu => h u (by omega), h n (by omega)]
theorem sT_add (f g : Nat → Int) (n : Nat) : sT (fun u => f u + g u) n = sT f n + sT g n := by
  induction n with
  | zero => rfl
  | succ n ih => simp only [sT]; rw [ih]; omega
theorem sT_one (n : Nat) : sT (fun _ => 1) n = n := by
  induction n with
  | zero => rfl
  | succ n ih => rw [sT, ih]; omega
theorem sT_zero (n : Nat) : sT (fun _ => 0) n = 0 := by
  induction n with
  | zero => rfl
  | succ n ih => rw [sT, ih]; omega
theorem sT_sel (p : Nat → Bool) (n : Nat) : sT (fun u => if p u = true then 1 else 0) n = ((selTo p n).length : Int) := by
  induction n with
  | zero => rfl
  | succ n ih =>
    rw [sT, ih, selTo, List.length_append]
    by_cases e : p n = true
    · rw [if_pos e, if_pos e]; simp
    · rw [if_neg e, if_neg e]; simp
theorem exS_sT (f : Nat → Int) (n : Nat) : exS f n = sT f n - n := by
  induction n with
  | zero => rfl
  | succ n ih => rw [exS, sT, ih]; omega
theorem sT_tcov {S : List Int} (hS : Sp S) (C : List Int) {r : Int} (hr : 0 ≤ r) (k : Nat) : sT (fun u => tcov S C r (u : Int) k) (nW S).toNat = (k : Int) * sizeN S r := by
  induction k with
  | zero =>
    have e : sT (fun u => tcov S C r (u : Int) 0) (nW S).toNat = sT (fun _ => 0) (nW S).toNat := sT_congr _ fun u _ => rfl
    rw [e, sT_zero]; simp
  | succ k ih =>
    have e : sT (fun u => tcov S C r (u : Int) (k + 1)) (nW S).toNat = sT (fun u => tcov S C r (u : Int) k + if ballB S (gi C k) r u = true then 1 else 0) (nW S).toNat := by
      refine sT_congr _ fun u hu => ?_
      rw [tcov_ball S C r u k hu]
      have h3 : cntIn (ballW S (gi C k) r) u (ballW S (gi C k) r).length = if u < (nW S).toNat ∧ ballB S (gi C k) r u = true then 1 else 0 := cntIn_sel _ _ _
      rw [h3]
      by_cases e : ballB S (gi C k) r u = true
      · rw [if_pos ⟨hu, e⟩, if_pos e]
      · rw [if_neg (fun g => e g.2), if_neg e]
    have h4 : ((selTo (ballB S (gi C k) r) (nW S).toNat).length : Int) = sizeN S r := ballW_size hS (gi C k) hr
    rw [e, sT_add, ih, sT_sel, h4]
    push_cast
    rw [Int.add_mul, Int.one_mul]
theorem cov0_iff (f : Nat → Int) (n : Nat) (hn : 1 ≤ n) (k : Nat) (h : ∀ u, u < k → 0 ≤ f u ∧ (f u).toNat < n) : gi (covTo f n k) 0 = 0 ↔ zTo f k = false := by
  induction k with
  | zero => simp [covTo, zTo, gi_rep0]
  | succ k ih =>
    obtain ⟨h1, h2⟩ := h k (by omega)
    have hb := covTo_bd f n k 0
    have ih' := ih fun u hu => h u (by omega)
    have hl := covTo_len f n k
    rw [covTo, zTo, Bool.or_eq_false_iff, ← ih', decide_eq_false_iff_not]
    unfold bump
    rw [gi_set _ _ _ _ (by rw [hl]; exact h2)]
    by_cases e : f k = 0
    · rw [e]; simp; omega
    · rw [if_neg (by omega)]
      exact ⟨fun g => ⟨g, e⟩, fun g => g.1⟩
/-- what holds of the counts of a code that covers -/
theorem fk_all {S C : List Int} {r : Int} (h : eCov S C r = 0) : (vCov S C r).length = C.length + 1 ∧ wsT (fun _ => 1) (vCov S C r) (C.length + 1) = nW S ∧ wsT (fun k => (k : Int)) (vCov S C r) (C.length + 1) = vSize S r * C.length ∧ (eExc S C r = 0 ↔ gi (vCov S C r) 0 = 0) ∧ (eExc S C r = 0 → vExc S C r = vSize S r * C.length - nW S) := by
  obtain ⟨hz, r0, r8⟩ := eCov_zero h
  obtain ⟨hS, _, _⟩ := eCode_zero hz
  have N := nW_bd hS
  have hv : vCov S C r = covTo (tAt S C r) (C.length + 1) (nW S).toNat := by unfold vCov; rw [if_pos h]
  have e0 : eBall S 0 r = 0 := by
    unfold eBall
    have : eWords S [0] = 0 := by
      unfold eWords
      rw [if_pos ((isSp_iff S).2 hS), if_pos ((okW_iff _ _ _).2 fun i hi => ?_)]
      have : i = 0 := by simpa using hi
      subst this; exact ⟨Int.le_refl _, by show (0 : Int) < nW S; omega⟩
    rw [if_pos this, if_pos ⟨r0, r8⟩]
  have hsz : vSize S r = sizeN S r := by unfold vSize; rw [if_pos e0]
  have hf : ∀ u, u < (nW S).toNat → 0 ≤ tAt S C r u ∧ (tAt S C r u).toNat < C.length + 1 := fun u _ => by have := tAt_bd S C r u; omega
  have hsum : sT (tAt S C r) (nW S).toNat = (C.length : Int) * sizeN S r := sT_tcov hS C r0 C.length
  have hc0 := cov0_iff (tAt S C r) (C.length + 1) (by omega) (nW S).toNat hf
  rw [hv, hsz]
  refine ⟨covTo_len _ _ _, ?_, ?_, ?_, ?_⟩
  · rw [wsT_cov _ _ _ _ hf, sT_one]; omega
  · rw [wsT_cov _ _ _ _ hf, sT_congr (g := tAt S C r) _ fun u hu => Int.toNat_of_nonneg (hf u hu).1, hsum, Int.mul_comm]
  · rw [hc0]
    unfold eExc
    rw [if_pos h]
    cases zTo (tAt S C r) (nW S).toNat <;> simp
  · intro hx
    have hzt : zTo (tAt S C r) (nW S).toNat = false := by
      unfold eExc at hx
      rw [if_pos h] at hx
      cases e : zTo (tAt S C r) (nW S).toNat with
      | false => rfl
      | true => rw [e] at hx; simp at hx
    unfold vExc
    rw [if_pos ⟨h, hzt⟩, exS_sT, hsum, Int.mul_comm]
    omega

end Cv
end Go.Proofs.YtcnnijeokefboaaGreatDoor

namespace Go.Proofs.YtcnnijeokefboaaGreatDoor
open Go.RowKit Cv
set_option linter.unusedVariables false
set_option linter.unusedSimpArgs false

theorem wsT_one_bd {L : List Int} {m : Int} (h : ∀ j, 0 ≤ gi L j ∧ gi L j ≤ m) (k : Nat) : 0 ≤ wsT (fun _ => 1) L k ∧ wsT (fun _ => 1) L k ≤ k * m := by
  induction k with
  | zero => simp [wsT]
  | succ k ih =>
    have := h k
    rw [wsT, Int.one_mul]
    push_cast
    rw [Int.add_mul, Int.one_mul]
    omega
/-- the sum of a list of small numbers -/
theorem sum_any (a : Option Addr) (L : List Int) (c : Nat) (m : Int) (hm : 0 ≤ m ∧ m ≤ 1048576) (hb : ∀ j, 0 ≤ gi L j ∧ gi L j ≤ m) (w : World) (hn : L.length ≤ 1048576) (h : Ints w a L) :
    Calls Tryz.prog 22 #[.slice a L.length c] w fun e w' => e = .returned (.int .i64 (wsT (fun _ => 1) L L.length)) ∧ Below w.heap.size w w' := by
  have HW := Lib.hid fun k => wsT_one_bd hb k
  have HB := Lib.hid hb
  obtain ⟨m0, m1⟩ := hm
  clear hb
  have hz : wsT (fun _ => 1) L 0 = 0 := rfl
  have HZ := Lib.hid hz
  clear hz
  go_enter Tryz.func22, Tryz.ntmps22
  go_wp2_with fail
  go_loop [3, 4] (fun s i => ∃ k : Nat, k ≤ L.length ∧ i = .int .i64 (k : Int) ∧ s = .int .i64 (wsT (fun _ => 1) L k)) (fun _ i => L.length - (intOf i).toNat)
  case atStart => exact ⟨0, Nat.zero_le _, rfl, by rw [HZ.out]⟩
  case round =>
    obtain ⟨k, hk, rfl, rfl⟩ := hrel
    by_cases hlt : k < L.length
    · have hlI : (k : Int) < (L.length : Int) := by omega
      obtain ⟨b, o, rfl, hbl, hc⟩ := h.at hlt
      have hck := hc k hlt
      obtain ⟨s0, s1⟩ := HW.out k
      obtain ⟨t0, t1⟩ := HB.out k
      have HS : Hid (wsT (fun _ => 1) L (k + 1) = wsT (fun _ => 1) L k + gi L k) := Lib.hid (by rw [wsT, Int.one_mul])
      have hkm : (k : Int) * m ≤ 1048576 * 1048576 := Int.mul_le_mul (by omega) m1 m0 (by omega)
      obtain ⟨s, hs⟩ : ∃ s, s = wsT (fun _ => 1) L k := ⟨_, rfl⟩
      obtain ⟨y, hy⟩ : ∃ y, y = gi L k := ⟨_, rfl⟩
      rw [← hs, ← hy] at HS
      rw [← hs] at s0 s1 ⊢
      rw [← hy] at hck t0 t1
      have e1 : IntKind.i64.wrap (s + y) = s + y := IntWalk.i64_in _ ⟨by omega, by omega⟩
      clear hc hs hy hkm s1
      go_wp2_with fail
      go_round
      case rel => exact ⟨k + 1, by omega, by go_num, by rw [HS.out]⟩
      case measure => simp [intOf]; omega
    · have hlI : ¬ (k : Int) < (L.length : Int) := by omega
      have hkL : k = L.length := by omega
      go_wp2_with fail
      go_ret
      exact ⟨rfl, Below.refl _ _⟩

end Go.Proofs.YtcnnijeokefboaaGreatDoor

namespace Go.Proofs.YtcnnijeokefboaaGreatDoor
open Go.RowKit Cv
set_option linter.unusedVariables false
set_option linter.unusedSimpArgs false
set_option maxRecDepth 100000

theorem big_any (a : Option Addr) (n cap : Nat) (w : World) :
    Calls Tryz.prog 5 #[.slice a n cap] w fun e w' => e = .returned (.bool (decide (4096 < n))) ∧ Below w.heap.size w w' := by
  have e1 : decide ((4096 : Int) < (n : Int)) = decide (4096 < n) := by
    by_cases h : 4096 < n
    · rw [decide_eq_true h, decide_eq_true (by omega)]
    · rw [decide_eq_false h, decide_eq_false (by omega)]
  by_cases h : 4096 < n
  · have i1 : (4096 : Int) < (n : Int) := by omega
    rw [decide_eq_true h]
    clear e1 h
    go_enter Tryz.func5, Tryz.ntmps5
    go_wp2_with fail
    go_ret
    exact ⟨rfl, Below.refl _ _⟩
  · have i1 : ¬ (4096 : Int) < (n : Int) := by omega
    rw [decide_eq_false h]
    clear e1 h
    go_enter Tryz.func5, Tryz.ntmps5
    go_wp2_with fail
    go_ret
    exact ⟨rfl, Below.refl _ _⟩

theorem likeInts_same (a a' : Option Addr) (S : List Int) (c c' : Nat) (w : World) (hn : S.length ≤ 4294967296) (h : Ints w a S) (h' : Ints w a' S) :
    Calls Tryz.prog 11 #[.slice a S.length c, .slice a' S.length c'] w fun e w' => e = .returned (.bool true) ∧ Below w.heap.size w w' := by
  go_enter Tryz.func11, Tryz.ntmps11
  go_wp2
  go_loopw [5] (fun i wr => ∃ k : Nat, k ≤ S.length ∧ i = .int .i64 k ∧ Below w.heap.size w wr) (fun i _ => S.length - (intOf i).toNat)
  case atStart => exact ⟨0, Nat.zero_le _, rfl, Below.refl _ _⟩
  case round =>
    obtain ⟨k, hk, rfl, hbel⟩ := hrel
    by_cases hlt : k < S.length
    · obtain ⟨b, o, rfl, hb, hc⟩ := h.at hlt
      obtain ⟨b', o', rfl, hb', hc'⟩ := h'.at hlt
      have hck : wr.cell? ⟨b, o + k, none⟩ = some (.int .i64 (gi S k)) := (hbel.cell (p := ⟨b, o + k, none⟩) hb).trans (hc k hlt)
      have hck' : wr.cell? ⟨b', o' + k, none⟩ = some (.int .i64 (gi S k)) := (hbel.cell (p := ⟨b', o' + k, none⟩) hb').trans (hc' k hlt)
      clear hc hc'
      go_wp2
      go_quiet (fail)
      go_wp2
      go_roundw
      case rel => exact ⟨k + 1, by omega, by go_num, below_drewN hbel _⟩
      case measure => simp [intOf]; omega
    · go_wp2
      go_ret
      exact ⟨rfl, hbel⟩

/-- is x among the first k numbers of S -/
def hasTo (S : List Int) (x : Int) : Nat → Bool
  | 0 => false
  | k + 1 => hasTo S x k || gi S k == x
theorem hasTo_iff (S : List Int) (x : Int) : ∀ k, hasTo S x k = true ↔ ∃ j, j < k ∧ gi S j = x := by
  intro k
  induction k with
  | zero => simp [hasTo]
  | succ k ih =>
    simp only [hasTo, Bool.or_eq_true, ih, beq_iff_eq]
    constructor
    · rintro (⟨j, hj, e⟩ | e)
      · exact ⟨j, by omega, e⟩
      · exact ⟨k, by omega, e⟩
    · rintro ⟨j, hj, e⟩
      by_cases h : j = k
      · subst h; exact .inr e
      · exact .inl ⟨j, by omega, e⟩
theorem hasTo_mono {S : List Int} {x : Int} {k n : Nat} (h : k ≤ n) (hk : hasTo S x k = true) : hasTo S x n = true := by
  obtain ⟨j, hj, e⟩ := (hasTo_iff S x k).1 hk
  exact (hasTo_iff S x n).2 ⟨j, by omega, e⟩
theorem hasInt_any (a : Option Addr) (S : List Int) (c : Nat) (x : Int) (w : World) (hn : S.length ≤ 4294967296) (h : Ints w a S) :
    Calls Tryz.prog 19 #[.slice a S.length c, .int .i64 x] w fun e w' => e = .returned (.bool (hasTo S x S.length)) ∧ Below w.heap.size w w' := by
  obtain ⟨V, hV⟩ : ∃ V, V = hasTo S x S.length := ⟨_, rfl⟩
  rw [← hV]
  have HV := Lib.hid hV
  clear hV
  go_enter Tryz.func19, Tryz.ntmps19
  go_wp2
  go_loopw [5] (fun i wr => ∃ k : Nat, k ≤ S.length ∧ i = .int .i64 k ∧ Hid (hasTo S x k = false) ∧ Below w.heap.size w wr) (fun i _ => S.length - (intOf i).toNat)
  case atStart => exact ⟨0, Nat.zero_le _, rfl, Lib.hid rfl, Below.refl _ _⟩
  case round =>
    obtain ⟨k, hk, rfl, HK, hbel⟩ := hrel
    by_cases hlt : k < S.length
    · obtain ⟨b, o, rfl, hb, hc⟩ := h.at hlt
      have hck : wr.cell? ⟨b, o + k, none⟩ = some (.int .i64 (gi S k)) := (hbel.cell (p := ⟨b, o + k, none⟩) hb).trans (hc k hlt)
      clear hc
      by_cases he : gi S k = x
      · have hbe : (gi S k == x) = true := by simpa using he
        have hVt : Hid (V = true) := Lib.hid (by rw [HV.out]; exact (hasTo_iff S x _).2 ⟨k, hlt, he⟩)
        clear he
        go_wp2
        go_ret
        exact ⟨by rw [hVt.out]; rfl, hbel⟩
      · have hbe : (gi S k == x) = false := by simpa using he
        have HK' : Hid (hasTo S x (k + 1) = false) := Lib.hid (by show (hasTo S x k || gi S k == x) = false; rw [HK.out, hbe]; rfl)
        clear he
        go_wp2
        go_roundw
        case rel => exact ⟨k + 1, by omega, by go_num, HK', hbel⟩
        case measure => simp [intOf]; omega
    · have hVf : Hid (V = false) := Lib.hid (by rw [HV.out, show S.length = k by omega]; exact HK.out)
      go_wp2
      go_ret
      exact ⟨by rw [hVf.out]; rfl, hbel⟩

end Go.Proofs.YtcnnijeokefboaaGreatDoor
