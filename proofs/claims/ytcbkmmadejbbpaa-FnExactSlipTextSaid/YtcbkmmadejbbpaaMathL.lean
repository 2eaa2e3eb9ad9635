/-
  Plain facts on lotteries: sets of numbers told by sums, how many they are, their ranks. By an AI agent.
-/
import Derived.Test.YtcbkmmadejbbpaaMathB
namespace Go.Proofs.Ytcbkmmadejbbpaa
set_option linter.unusedVariables false
set_option linter.unusedSimpArgs false
namespace Cv

/-- v numbers, of which p are picked and d drawn, h hits: a lottery -/
structure Lot (v p d h : Int) : Prop where
  v1 : 1 ≤ v
  v2 : v ≤ 12
  p1 : 1 ≤ p
  p2 : p ≤ v
  d1 : 1 ≤ d
  d2 : d ≤ v
  h1 : 1 ≤ h
  h2 : h ≤ p
  h3 : h ≤ d
def lotB (v p d h : Int) : Bool := decide (1 ≤ v ∧ v ≤ 12 ∧ 1 ≤ p ∧ p ≤ v ∧ 1 ≤ d ∧ d ≤ v ∧ 1 ≤ h ∧ h ≤ p ∧ h ≤ d)
theorem lot_iff (v p d h : Int) : lotB v p d h = true ↔ Lot v p d h := by
  unfold lotB
  rw [decide_eq_true_iff]
  constructor
  · rintro ⟨a, b, c, d, e, f, g, i, j⟩; exact ⟨a, b, c, d, e, f, g, i, j⟩
  · rintro ⟨a, b, c, d, e, f, g, i, j⟩; exact ⟨a, b, c, d, e, f, g, i, j⟩
theorem lot_not {v p d h : Int} (n : ¬ Lot v p d h) : lotB v p d h = false := by rw [← Bool.not_eq_true, lot_iff]; exact n
def eLot (v p d h : Int) : Int := if lotB v p d h = true then 0 else 1

/-- how many numbers a set has -/
def pc (m : Nat) : Nat := bsum m 12
theorem pc64 {m : Nat} (h : m < 4096) : bsum m 64 = pc m := bsum_more m 12 h 52
theorem pc_drop0 : ∀ a, a < 64 → ∀ b, b < 64 → 0 < 64 * a + b → pc ((64 * a + b) &&& (64 * a + b - 1)) + 1 = pc (64 * a + b) := by decide +kernel
theorem pc_drop (m : Nat) (h : m < 4096) (h0 : 0 < m) : pc (m &&& (m - 1)) + 1 = pc m := by
  have := pc_drop0 (m / 64) (by omega) (m % 64) (by omega)
  rw [Nat.div_add_mod] at this
  exact this h0
theorem pc_top0 : ∀ i, i < 12 → ∀ a, a < 64 → ∀ b, b < 64 → 64 * a + b < 2 ^ i → pc (2 ^ i + (64 * a + b)) = pc (64 * a + b) + 1 := by decide +kernel
theorem pc_top (i : Nat) (hi : i < 12) (m : Nat) (hm : m < 2 ^ i) : pc (2 ^ i + m) = pc m + 1 := by
  have hl : 2 ^ i ≤ 2 ^ 12 := Nat.pow_le_pow_right (by omega) (by omega)
  have := pc_top0 i hi (m / 64) (by omega) (m % 64) (by omega)
  rw [Nat.div_add_mod] at this
  exact this hm
theorem pc_le (i : Nat) : i < 13 → ∀ m, m < 2 ^ i → pc m ≤ i := by
  induction i with
  | zero => intro _ m hm; rw [show m = 0 by omega]; exact Nat.le_refl _
  | succ i ih =>
    intro hi m hm
    by_cases h : m < 2 ^ i
    · have := ih (by omega) m h; omega
    · rw [Nat.pow_succ] at hm
      have := pc_top i (by omega) (m - 2 ^ i) (by omega)
      rw [show 2 ^ i + (m - 2 ^ i) = m by omega] at this
      have := ih (by omega) (m - 2 ^ i) (by omega)
      omega
theorem and_pred {m : Nat} (h : 0 < m) : m &&& (m - 1) < m := by have : m &&& (m - 1) ≤ m - 1 := Nat.and_le_right; omega

/-- how many of the first n numbers tell a set of k numbers -/
def cb (k : Nat) : Nat → Nat
  | 0 => 0
  | n + 1 => cb k n + if pc n = k then 1 else 0
theorem cb_shift {i : Nat} (hi : i < 12) (k : Nat) : ∀ r, r ≤ 2 ^ i → cb (k + 1) (2 ^ i + r) = cb (k + 1) (2 ^ i) + cb k r := by
  intro r
  induction r with
  | zero => intro _; rfl
  | succ r ih =>
    intro hr
    rw [← Nat.add_assoc, cb, ih (by omega), cb, pc_top i hi r (by omega)]
    by_cases h : pc r = k
    · rw [if_pos (by omega), if_pos h]; omega
    · rw [if_neg (by omega), if_neg h]; rfl
theorem cb_zero {i : Nat} (hi : i < 12) : ∀ r, r ≤ 2 ^ i → cb 0 (2 ^ i + r) = cb 0 (2 ^ i) := by
  intro r
  induction r with
  | zero => intro _; rfl
  | succ r ih =>
    intro hr
    rw [← Nat.add_assoc, cb, ih (by omega), pc_top i hi r (by omega), if_neg (by omega)]; rfl
theorem cb_mono (k : Nat) {a b : Nat} (h : a ≤ b) : cb k a ≤ cb k b := by
  induction b with
  | zero => rw [show a = 0 by omega]; exact Nat.le_refl _
  | succ b ih =>
    by_cases e : a = b + 1
    · rw [e]; exact Nat.le_refl _
    · rw [cb]; have := ih (by omega); omega

/-- how many ways there are to choose k of n things -/
def chTo (n : Nat) : Nat → Nat
  | 0 => 1
  | i + 1 => chTo n i * (n - i) / (i + 1)
def ch (n k : Nat) : Nat := if k ≤ n then chTo n k else 0
theorem ch_pascal : ∀ n, n < 13 → ∀ k, k < 13 → ch (n + 1) (k + 1) = ch n (k + 1) + ch n k := by decide +kernel
theorem ch_zero (n : Nat) : ch n 0 = 1 := by unfold ch; rw [if_pos (Nat.zero_le _)]; rfl
theorem chTo_le : ∀ n, n < 14 → ∀ i, i < 15 → chTo n i ≤ 1716 ∧ chTo n i * (n - i) ≤ 100000 := by decide +kernel
theorem ch_le {n k : Nat} (hn : n < 14) (hk : k < 15) : ch n k ≤ 1716 := by
  unfold ch
  split
  · exact (chTo_le n hn k hk).1
  · omega
theorem ch_mono {n k : Nat} (hn : n < 13) (hk : k < 13) : ch n (k + 1) ≤ ch (n + 1) (k + 1) := by rw [ch_pascal n hn k hk]; omega
theorem ch_mono' {k : Nat} (hk : k < 13) {b : Nat} : ∀ a, a ≤ b → b < 14 → ch a (k + 1) ≤ ch b (k + 1) := by
  induction b with
  | zero => intro a h _; rw [show a = 0 by omega]; exact Nat.le_refl _
  | succ b ih =>
    intro a h hb
    by_cases e : a = b + 1
    · rw [e]; exact Nat.le_refl _
    · exact Nat.le_trans (ih a (by omega) (by omega)) (ch_mono (by omega) hk)
theorem cb_ch : ∀ i, i < 13 → ∀ k, k < 13 → cb k (2 ^ i) = ch i k := by
  intro i
  induction i with
  | zero =>
    intro _ k _
    show cb k 0 + (if pc 0 = k then 1 else 0) = _
    rw [show pc 0 = 0 from rfl, show cb k 0 = 0 from rfl]
    unfold ch
    by_cases h : k = 0
    · subst h; rfl
    · rw [if_neg (by omega), if_neg (by omega)]
  | succ i ih =>
    intro hi k hk
    rw [Nat.pow_succ, Nat.mul_two]
    cases k with
    | zero => rw [cb_zero (by omega) _ (Nat.le_refl _), ih (by omega) 0 (by omega), ch_zero, ch_zero]
    | succ k => rw [cb_shift (by omega) k _ (Nat.le_refl _), ih (by omega) _ hk, ih (by omega) k (by omega), ch_pascal i (by omega) k (by omega)]

/-- all sets of k of v numbers, ascending -/
def isK (k : Nat) (m : Nat) : Bool := decide (pc m = k)
def setsL (v k : Nat) : List Int := selL (isK k) (2 ^ v)
theorem selK_len (k n : Nat) : (selL (isK k) n).length = cb k n := by
  induction n with
  | zero => rfl
  | succ n ih =>
    rw [selL_succ, List.length_append, ih, cb]
    unfold isK
    by_cases h : pc n = k
    · rw [if_pos (by simpa using h), if_pos h]; rfl
    · rw [if_neg (by simpa using h), if_neg h]; rfl
theorem setsL_len {v k : Nat} (hv : v < 13) (hk : k < 13) : (setsL v k).length = ch v k := by unfold setsL; rw [selK_len, cb_ch v hv k hk]

theorem gi_sel (p : Nat → Bool) {m n : Nat} (hm : m < n) (hp : p m = true) : gi (selL p n) (selL p m).length = m ∧ (selL p m).length < (selL p n).length := by
  induction n with
  | zero => omega
  | succ n ih =>
    rw [selL_succ]
    by_cases e : m = n
    · subst e
      rw [if_pos hp]
      refine ⟨?_, by simp⟩
      simp [gi, List.getD]
    · obtain ⟨h1, h2⟩ := ih (by omega)
      refine ⟨?_, by rw [List.length_append]; omega⟩
      rw [← h1]
      simp only [gi, List.getD]
      rw [List.getElem?_append_left h2]
theorem sel_at (p : Nat → Bool) {n r : Nat} (h : r < (selL p n).length) : ∃ m, m < n ∧ p m = true ∧ gi (selL p n) r = m ∧ (selL p m).length = r := by
  induction n with
  | zero => simp [selL] at h
  | succ n ih =>
    rw [selL_succ] at h ⊢
    by_cases e : r < (selL p n).length
    · obtain ⟨m, h1, h2, h3, h4⟩ := ih e
      refine ⟨m, by omega, h2, ?_, h4⟩
      rw [← h3]
      simp only [gi, List.getD]
      rw [List.getElem?_append_left e]
    · cases hp : p n with
      | false => rw [hp] at h; simp at h; omega
      | true =>
        rw [hp] at h; simp at h
        refine ⟨n, by omega, hp, ?_, by omega⟩
        rw [show r = (selL p n).length by omega, if_pos rfl]
        simp [gi, List.getD]

/-- the top bit of what is left of a set -/
theorem top_bit {m : Nat} : ∀ j, 0 < m % 2 ^ j → ∃ i, i < j ∧ m % 2 ^ j = 2 ^ i + m % 2 ^ i := by
  intro j
  induction j with
  | zero => intro h; simp [Nat.mod_one] at h
  | succ j ih =>
    intro h
    have e : m % 2 ^ (j + 1) = m % 2 ^ j + 2 ^ j * (m / 2 ^ j % 2) := Nat.mod_pow_succ
    rcases Nat.mod_two_eq_zero_or_one (m / 2 ^ j) with h0 | h0
    · rw [e, h0, Nat.mul_zero, Nat.add_zero] at h ⊢
      obtain ⟨i, h1, h2⟩ := ih h
      exact ⟨i, by omega, h2⟩
    · exact ⟨j, by omega, by rw [e, h0]; omega⟩

/-- one bit more of a set: how many numbers it has and how many sets are behind -/
theorem rk_step {m i : Nat} (hi : i < 12) :
    (m / 2 ^ i % 2 = 0 → m % 2 ^ (i + 1) = m % 2 ^ i) ∧
    (m / 2 ^ i % 2 = 1 → pc (m % 2 ^ (i + 1)) = pc (m % 2 ^ i) + 1 ∧ cb (pc (m % 2 ^ (i + 1))) (m % 2 ^ (i + 1)) = ch i (pc (m % 2 ^ i) + 1) + cb (pc (m % 2 ^ i)) (m % 2 ^ i)) := by
  have e : m % 2 ^ (i + 1) = m % 2 ^ i + 2 ^ i * (m / 2 ^ i % 2) := Nat.mod_pow_succ
  have hlt : m % 2 ^ i < 2 ^ i := Nat.mod_lt _ (Nat.two_pow_pos i)
  constructor
  · intro h; rw [e, h]; omega
  · intro h
    rw [h, Nat.mul_one, Nat.add_comm (m % 2 ^ i)] at e
    have hp := pc_top i hi _ hlt
    have hl := pc_le i (by omega) _ hlt
    rw [e, hp]
    refine ⟨rfl, ?_⟩
    rw [cb_shift hi _ _ (Nat.le_of_lt hlt), cb_ch i (by omega) _ (by omega)]

/-- the greatest number of a set with a rank -/
theorem of_rank {m j k : Nat} (hj : j ≤ 12) (hk : pc (m % 2 ^ j) = k + 1) : ∃ i, i < j ∧ m % 2 ^ j = 2 ^ i + m % 2 ^ i ∧ pc (m % 2 ^ i) = k ∧ k ≤ i ∧ k < 12 ∧
    cb (k + 1) (m % 2 ^ j) = ch i (k + 1) + cb k (m % 2 ^ i) ∧ cb (k + 1) (m % 2 ^ j) < ch (i + 1) (k + 1) := by
  have h0 : 0 < m % 2 ^ j := by
    rcases Nat.eq_zero_or_pos (m % 2 ^ j) with h | h
    · rw [h] at hk; simp [pc, bsum] at hk
    · exact h
  obtain ⟨i, h1, h2⟩ := top_bit j h0
  have hlt : m % 2 ^ i < 2 ^ i := Nat.mod_lt _ (Nat.two_pow_pos i)
  have hp := pc_top i (by omega) _ hlt
  rw [← h2, hk] at hp
  have hpk : pc (m % 2 ^ i) = k := by omega
  have hl := pc_le i (by omega) _ hlt
  have hs := cb_shift (i := i) (by omega) k _ (Nat.le_of_lt hlt)
  rw [← h2, cb_ch i (by omega) _ (by omega)] at hs
  refine ⟨i, h1, h2, hpk, by omega, by omega, hs, ?_⟩
  rw [hs, ch_pascal i (by omega) k (by omega)]
  have h3 : cb k (m % 2 ^ i) < cb k (2 ^ i) := by
    refine Nat.lt_of_lt_of_le ?_ (cb_mono k (show m % 2 ^ i + 1 ≤ 2 ^ i by omega))
    rw [cb, if_pos hpk]; omega
  rw [cb_ch i (by omega) k (by omega)] at h3
  omega

/-- whether a number is in a set -/
def bitN (m k : Nat) : Bool := decide (m / 2 ^ k % 2 = 1)
def memL (m : Nat) : List Int := selL (bitN m) 12
theorem bitN_hi {m v k : Nat} (h : m < 2 ^ v) (hk : v ≤ k) : bitN m k = false := by
  unfold bitN
  have : m / 2 ^ k = 0 := Nat.div_eq_of_lt (Nat.lt_of_lt_of_le h (Nat.pow_le_pow_right (by omega) hk))
  rw [this]; rfl
theorem sel_more {m v : Nat} (h : m < 2 ^ v) (k : Nat) : selL (bitN m) (v + k) = selL (bitN m) v := by
  induction k with
  | zero => rfl
  | succ k ih => rw [← Nat.add_assoc, selL_succ, ih, bitN_hi h (by omega), if_neg (by decide), List.append_nil]
theorem memL_of {m v : Nat} (h : m < 2 ^ v) (hv : v ≤ 12) : selL (bitN m) v = memL m := by
  unfold memL
  have := sel_more h (12 - v)
  rw [show v + (12 - v) = 12 by omega] at this
  exact this.symm
theorem pow_le12 {v : Nat} (h : v ≤ 12) : 2 ^ v ≤ 4096 := Nat.pow_le_pow_right (n := 2) (by omega) h

/-- how many sets v numbers have -/
def tw (v : Int) : Int := 2 ^ v.toNat
theorem tw_nat (v : Int) : tw v = ((2 ^ v.toNat : Nat) : Int) := by unfold tw; simp
theorem tw_bd {v : Int} (h : 1 ≤ v ∧ v ≤ 12) : 2 ≤ tw v ∧ tw v ≤ 4096 := by
  rw [tw_nat]
  have h1 : 2 ^ v.toNat ≤ 4096 := pow_le12 (by omega)
  have h2 : 2 ^ 1 ≤ 2 ^ v.toNat := Nat.pow_le_pow_right (by omega) (by omega)
  omega
/-- a set of k of v numbers, told as a number -/
def setB (v k x : Int) : Bool := decide (0 ≤ x ∧ x < tw v) && decide ((pc x.toNat : Int) = k)
theorem setB_iff (v k x : Int) : setB v k x = true ↔ (0 ≤ x ∧ x < tw v) ∧ (pc x.toNat : Int) = k := by
  unfold setB
  rw [Bool.and_eq_true, decide_eq_true_iff, decide_eq_true_iff]
theorem setB_out {v k x : Int} (h : ¬ (0 ≤ x ∧ x < tw v)) : setB v k x = false := by rw [← Bool.not_eq_true, setB_iff]; exact fun g => h g.1
theorem setB_in {v k x : Int} (h : 0 ≤ x ∧ x < tw v) : setB v k x = decide ((pc x.toNat : Int) = k) := by unfold setB; rw [decide_eq_true h]; rfl
theorem setB_isK {v : Int} {k m : Nat} (h : (m : Int) < tw v) : setB v (k : Int) (m : Int) = isK k m := by
  rw [setB_in ⟨by omega, h⟩]; unfold isK
  rw [Bool.eq_iff_iff, decide_eq_true_iff, decide_eq_true_iff, Int.toNat_natCast]
  omega

end Cv
end Go.Proofs.Ytcbkmmadejbbpaa
