/-
  Texts put together: Pop, Bits, OnesA. By an AI agent.
-/
import Derived.Test.YtamebfbddoeflaaPkMathB
import Derived.Test.YtamebfbddoeflaaPkMath
import Derived.WalkKit
import Derived.Test.YtamebfbddoeflaaPkHelp
namespace Go.Proofs.Ytamebfbddoeflaa
set_option linter.unusedVariables false
set_option linter.unusedSimpArgs false
namespace Cv

/-- a function of bytes, of the first n bytes of a number -/
def mapB (f : Nat → Nat) : Nat → Nat → Nat
  | 0, _ => 0
  | n + 1, x => f (x % 256) + 256 * mapB f n (x / 256)
/-- n times the byte m -/
def repB (m : Nat) : Nat → Nat
  | 0 => 0
  | n + 1 => m + 256 * repB m n
theorem map_low (f : Nat → Nat) (hf : ∀ r, r < 256 → f r < 256) (n x : Nat) : mapB f (n + 1) x % 256 = f (x % 256) ∧ mapB f (n + 1) x / 256 = mapB f n (x / 256) := by
  have h := hf (x % 256) (Nat.mod_lt _ (by omega))
  rw [mapB]
  exact ⟨by omega, by omega⟩
theorem map_map (f g : Nat → Nat) (hf : ∀ r, r < 256 → f r < 256) (n : Nat) : ∀ x, mapB g n (mapB f n x) = mapB (fun r => g (f r)) n x := by
  induction n with
  | zero => intro x; rfl
  | succ n ih =>
    intro x
    obtain ⟨h1, h2⟩ := map_low f hf n x
    rw [mapB, h1, h2, ih]; rfl
def t1 (r : Nat) : Nat := (r / 2 &&& 85) + (r &&& 85)
def t2 (r : Nat) : Nat := (r / 4 &&& 51) + (r &&& 51)
def t3 (r : Nat) : Nat := (r / 16 + r) &&& 15
end Cv
end Go.Proofs.Ytamebfbddoeflaa

namespace Go.Proofs.Ytamebfbddoeflaa
set_option linter.unusedVariables false
set_option linter.unusedSimpArgs false
namespace Cv

/-- the number with the bits p (64 k + 0) .. p (64 k + n - 1) -/
def ofB (p : Nat → Bool) (k : Nat) : Nat → Nat
  | 0 => 0
  | b + 1 => ofB p k b + if p (64 * k + b) then 2 ^ b else 0
theorem ofB_lt (p : Nat → Bool) (k n : Nat) : ofB p k n < 2 ^ n := by
  induction n with
  | zero => simp [ofB]
  | succ n ih =>
    rw [ofB, Nat.pow_succ]
    split <;> omega
theorem ofB_bit (p : Nat → Bool) (k n b : Nat) : (ofB p k n).testBit b = (decide (b < n) && p (64 * k + b)) := by
  induction n with
  | zero => simp [ofB]
  | succ n ih =>
    have hlt := ofB_lt p k n
    rw [ofB]
    by_cases hp : p (64 * k + n) = true
    · rw [if_pos hp, Nat.add_comm]
      by_cases e : b = n
      · subst e
        rw [Nat.testBit_two_pow_add_eq, Nat.testBit_lt_two_pow hlt]; simp [hp]
      · by_cases h : b < n
        · rw [Nat.testBit_two_pow_add_gt h, ih]; simp [h]; omega
        · have h2 : 2 ^ n + ofB p k n < 2 ^ b := by
            have : 2 ^ (n + 1) ≤ 2 ^ b := Nat.pow_le_pow_right (by omega) (by omega)
            rw [Nat.pow_succ] at this; omega
          rw [Nat.testBit_lt_two_pow h2]; simp; omega
    · rw [if_neg hp, Nat.add_zero, ih]
      by_cases e : b = n
      · subst e; simp [hp]
      · by_cases h : b < n
        · simp [h]; omega
        · simp [h]; omega
def partN (p : Nat → Bool) (k : Nat) : Nat := ofB p k 64
theorem partN_lt (p : Nat → Bool) (k : Nat) : partN p k < 18446744073709551616 := ofB_lt p k 64
theorem partN_bit (p : Nat → Bool) (k b : Nat) (hb : b < 64) : (partN p k).testBit b = p (64 * k + b) := by unfold partN; rw [ofB_bit]; simp [hb]
theorem partN_hi (p : Nat → Bool) (k b : Nat) (hb : ¬ b < 64) : (partN p k).testBit b = false := by unfold partN; rw [ofB_bit]; simp [hb]
theorem partN_ext (p q : Nat → Bool) (k : Nat) (h : ∀ b, b < 64 → p (64 * k + b) = q (64 * k + b)) : partN p k = partN q k := Nat.eq_of_testBit_eq fun b => by
  by_cases hb : b < 64
  · rw [partN_bit _ _ _ hb, partN_bit _ _ _ hb, h b hb]
  · rw [partN_hi _ _ _ hb, partN_hi _ _ _ hb]
theorem partN_inj {p q : Nat → Bool} {k : Nat} (h : partN p k = partN q k) (b : Nat) (hb : b < 64) : p (64 * k + b) = q (64 * k + b) := by
  rw [← partN_bit p k b hb, ← partN_bit q k b hb, h]
theorem bv_nat (n : Nat) (h : n < 18446744073709551616) : (BitVec.ofInt 64 (n : Int)).toNat = n := by
  rw [BitVec.ofInt_natCast, BitVec.toNat_ofNat]; exact Nat.mod_eq_of_lt h
theorem wrap_nat (n : Nat) (h : n < 18446744073709551616) : IntKind.u64.wrap (n : Int) = (n : Int) := by
  unfold IntKind.wrap
  simp [IntKind.signed, IntKind.bits]
  omega
/-- '|' of two parts -/
theorem part_or (p q : Nat → Bool) (k : Nat) : IntKind.u64.wrap (((BitVec.ofInt 64 (partN p k : Int)) ||| (BitVec.ofInt 64 (partN q k : Int))).toNat : Int) = (partN (fun u => p u || q u) k : Int) := by
  have e : ((BitVec.ofInt 64 (partN p k : Int)) ||| (BitVec.ofInt 64 (partN q k : Int))).toNat = partN (fun u => p u || q u) k := by
    rw [BitVec.toNat_or, bv_nat _ (partN_lt p k), bv_nat _ (partN_lt q k)]
    refine Nat.eq_of_testBit_eq fun b => ?_
    rw [Nat.testBit_or]
    by_cases hb : b < 64
    · rw [partN_bit _ _ _ hb, partN_bit _ _ _ hb, partN_bit _ _ _ hb]
    · rw [partN_hi _ _ _ hb, partN_hi _ _ _ hb, partN_hi _ _ _ hb]; rfl
  rw [e, wrap_nat _ (partN_lt _ k)]
/-- the set with the word u more -/
def putB (p : Nat → Bool) (u : Nat) : Nat → Bool := fun v => p v || decide (v = u)
/-- '1 << (u % 64)' -/
theorem part_one (u : Nat) : IntKind.u64.wrap (1 * 2 ^ (u % 64)) = (partN (fun v => decide (v = u)) (u / 64) : Int) := by
  have e : partN (fun v => decide (v = u)) (u / 64) = 2 ^ (u % 64) := by
    refine Nat.eq_of_testBit_eq fun b => ?_
    rw [Nat.testBit_two_pow]
    by_cases hb : b < 64
    · rw [partN_bit _ _ _ hb]
      have : (64 * (u / 64) + b = u) ↔ (u % 64 = b) := by omega
      simp only [this]
    · rw [partN_hi _ _ _ hb]; simp; omega
  rw [e, Int.one_mul]
  have h : (2 : Nat) ^ (u % 64) < 18446744073709551616 := by
    have h1 : (2 : Nat) ^ (u % 64) < 2 ^ 64 := Nat.pow_lt_pow_right (by omega) (by omega)
    simpa using h1
  have := wrap_nat _ h
  rw [← this]; push_cast; rfl
theorem part_put_other (p : Nat → Bool) (u k : Nat) (h : k ≠ u / 64) : partN (putB p u) k = partN p k := partN_ext _ _ _ fun b hb => by
  have : 64 * k + b ≠ u := by omega
  simp [putB, this]
/-- the parts of a set -/
def partsL (p : Nat → Bool) : List Int := (List.range 16).map fun k => (partN p k : Int)
theorem partsL_len (p : Nat → Bool) : (partsL p).length = 16 := by simp [partsL]
theorem gi_partsL (p : Nat → Bool) (k : Nat) (h : k < 16) : gi (partsL p) k = partN p k := by simp [partsL, gi, h]
theorem partsL_ext {p q : Nat → Bool} (h : ∀ u, u < 1024 → p u = q u) : partsL p = partsL q := by
  unfold partsL
  apply List.map_congr_left
  intro k hk
  rw [List.mem_range] at hk
  rw [partN_ext p q k fun b hb => h _ (by omega)]
theorem partsL_inj {p q : Nat → Bool} (h : partsL p = partsL q) (u : Nat) (hu : u < 1024) : p u = q u := by
  have h1 : gi (partsL p) (u / 64) = gi (partsL q) (u / 64) := by rw [h]
  rw [gi_partsL _ _ (by omega), gi_partsL _ _ (by omega)] at h1
  have h2 := partN_inj (p := p) (q := q) (k := u / 64) (by omega) (u % 64) (by omega)
  have e : 64 * (u / 64) + u % 64 = u := by omega
  rwa [e] at h2

end Cv
end Go.Proofs.Ytamebfbddoeflaa

namespace Go.Proofs.Ytamebfbddoeflaa
open Go.RowKit Cv
set_option linter.unusedVariables false
set_option linter.unusedSimpArgs false
set_option maxRecDepth 100000

theorem bits_u (a b : Nat) (ha : a < 18446744073709551616) (hb : b < 18446744073709551616) : bits .and .u64 (a : Int) (b : Int) = ((a &&& b : Nat) : Int) := by
  have h : a &&& b ≤ a := Nat.and_le_left
  show IntKind.u64.wrap (((BitVec.ofInt 64 (a : Int) &&& BitVec.ofInt 64 (b : Int)).toNat : Nat) : Int) = _
  rw [BitVec.toNat_and, bv_nat a (by omega), bv_nat b (by omega), wrap_nat _ (by omega)]
end Go.Proofs.Ytamebfbddoeflaa
