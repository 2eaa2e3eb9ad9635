/-
  Texts put together: Pop, Bits, OnesA, Src. By an AI agent.
-/
import Derived.Test.YtpmfedllbiblbaaGreatPkMathB
import Derived.Test.YtpmfedllbiblbaaGreatPkMath
import Derived.WalkKit
import Derived.Test.YtpmfedllbiblbaaGreatPkHelp
import Derived.Test.YtpmfedllbiblbaaGreatPkAppend
import Derived.StillTailTactics
namespace Go.Proofs.YtpmfedllbiblbaaGreat
set_option linter.unusedVariables false
set_option linter.unusedSimpArgs false
namespace Cv

theorem land_split (a c r s : Nat) (hr : r < 256) (hs : s < 256) : (r + 256 * a) &&& (s + 256 * c) = (r &&& s) + 256 * (a &&& c) := by
  have e : ∀ x y : Nat, x < 256 → x + 256 * y = 2 ^ 8 * y + x := fun x y _ => by omega
  have hrs : r &&& s < 256 := Nat.lt_of_le_of_lt Nat.and_le_left hr
  rw [e r a hr, e s c hs, e _ _ hrs]
  refine Nat.eq_of_testBit_eq fun b => ?_
  rw [Nat.testBit_and, Nat.testBit_two_pow_mul_add _ hr, Nat.testBit_two_pow_mul_add _ hs, Nat.testBit_two_pow_mul_add _ hrs]
  split
  · rw [Nat.testBit_and]
  · rw [Nat.testBit_and]
/-- a function of bytes, of the first n bytes of a number -/
def mapB (f : Nat → Nat) : Nat → Nat → Nat
  | 0, _ => 0
  | n + 1, x => f (x % 256) + 256 * mapB f n (x / 256)
/-- n times the byte m -/
def repB (m : Nat) : Nat → Nat
  | 0 => 0
  | n + 1 => m + 256 * repB m n
theorem rep_and (m : Nat) (hm : m < 256) (n : Nat) : ∀ x, x &&& repB m n = mapB (fun r => r &&& m) n x := by
  induction n with
  | zero => intro x; simp [repB, mapB]
  | succ n ih =>
    intro x
    rw [repB, mapB, ← ih]
    have h := land_split (x / 256) (repB m n) (x % 256) m (Nat.mod_lt _ (by omega)) hm
    rw [show x % 256 + 256 * (x / 256) = x by omega] at h
    exact h
theorem map_low (f : Nat → Nat) (hf : ∀ r, r < 256 → f r < 256) (n x : Nat) : mapB f (n + 1) x % 256 = f (x % 256) ∧ mapB f (n + 1) x / 256 = mapB f n (x / 256) := by
  have h := hf (x % 256) (Nat.mod_lt _ (by omega))
  rw [mapB]
  exact ⟨by omega, by omega⟩
theorem map_map (f g : Nat → Nat) (hf : ∀ r, r < 256 → f r < 256) (n : Nat) : ∀ x, mapB g n (mapB f n x) = mapB (fun r => g (f r)) n x := by
  induction n with
  | zero => intro x; rfl
  | succ n ih =>
    intro x
    obtain ⟨h1, h2⟩ := map_low f hf n x
    rw [mapB, h1, h2, ih]; rfl
theorem map_add (f g : Nat → Nat) (n : Nat) : ∀ x, mapB f n x + mapB g n x = mapB (fun r => f r + g r) n x := by
  induction n with
  | zero => intro x; rfl
  | succ n ih => intro x; rw [mapB, mapB, mapB, ← ih]; omega
theorem map_congr {f g : Nat → Nat} (h : ∀ r, r < 256 → f r = g r) (n : Nat) : ∀ x, mapB f n x = mapB g n x := by
  induction n with
  | zero => intro x; rfl
  | succ n ih => intro x; rw [mapB, mapB, ih, h _ (Nat.mod_lt _ (by omega))]
theorem map_bd (f : Nat → Nat) (hf : ∀ r, r < 256 → f r < 256) (n : Nat) : ∀ x, mapB f n x < 256 ^ n := by
  induction n with
  | zero => intro x; simp [mapB]
  | succ n ih =>
    intro x
    have := hf (x % 256) (Nat.mod_lt _ (by omega))
    have := ih (x / 256)
    rw [mapB, Nat.pow_succ]; omega
/-- a shift whose bits from the next byte the mask strikes -/
theorem shift_and (d m : Nat) (hd : 256 % d = 0) (hd0 : 0 < d) (hm : m < 256) (hk : ∀ r, r < 256 → ∀ c, c < d → (r / d + 256 / d * c) &&& m = r / d &&& m) (hk2 : ∀ r, r < 256 → ∀ c, c < d → r / d + 256 / d * c < 256) (n : Nat) : ∀ x, x / d &&& repB m n = mapB (fun r => r / d &&& m) n x := by
  obtain ⟨e, he⟩ : ∃ e, 256 = d * e := ⟨256 / d, by have := Nat.div_add_mod 256 d; omega⟩
  have hde : 256 / d = e := by rw [he]; exact Nat.mul_div_cancel_left _ hd0
  induction n with
  | zero => intro x; simp [repB, mapB]
  | succ n ih =>
    intro x
    have hr := Nat.mod_lt x (show 0 < 256 by omega)
    have hc := Nat.mod_lt (x / 256) hd0
    have h1 : x / d = (x % 256 / d + e * (x / 256 % d)) + 256 * (x / 256 / d) := by
      have h2 : x = x % 256 + d * (e * (x / 256)) := by rw [← Nat.mul_assoc, ← he]; omega
      have h3 : x / d = x % 256 / d + e * (x / 256) := by
        conv => lhs; rw [h2]
        exact Nat.add_mul_div_left _ _ hd0
      have h4 : x / 256 = d * (x / 256 / d) + x / 256 % d := (Nat.div_add_mod _ _).symm
      have h5 : e * (x / 256) = e * (x / 256 % d) + 256 * (x / 256 / d) := by
        conv => lhs; rw [h4]
        rw [Nat.mul_add, ← Nat.mul_assoc, Nat.mul_comm e d, ← he]; omega
      omega
    have hb := hk2 _ hr _ hc
    have hk' := hk _ hr _ hc
    rw [hde] at hb hk'
    rw [repB, mapB, ← ih, h1, land_split _ _ _ _ hb hm, hk']

def t1 (r : Nat) : Nat := (r / 2 &&& 85) + (r &&& 85)
def t2 (r : Nat) : Nat := (r / 4 &&& 51) + (r &&& 51)
def t3 (r : Nat) : Nat := (r / 16 + r) &&& 15
theorem t1_bd : ∀ r, r < 256 → t1 r < 256 := by decide +kernel
theorem t21_bd : ∀ r, r < 256 → t2 (t1 r) ≤ 68 ∧ t2 (t1 r) % 16 ≤ 4 := by decide +kernel
theorem t321 : ∀ r, r < 256 → t3 (t2 (t1 r)) = bsum r 8 := by decide +kernel
theorem bsum8_le : ∀ r, r < 256 → bsum r 8 ≤ 8 := by decide +kernel
theorem step1 (n x : Nat) : (x / 2 &&& repB 85 n) + (x &&& repB 85 n) = mapB t1 n x := by
  rw [shift_and 2 85 (by decide) (by decide) (by decide) (by decide +kernel) (by decide +kernel), rep_and 85 (by decide), map_add]; rfl
theorem step2 (n x : Nat) : (x / 4 &&& repB 51 n) + (x &&& repB 51 n) = mapB t2 n x := by
  rw [shift_and 4 51 (by decide) (by decide) (by decide) (by decide +kernel) (by decide +kernel), rep_and 51 (by decide), map_add]; rfl
theorem and15 (x : Nat) : x &&& 15 = x % 16 := Nat.and_two_pow_sub_one_eq_mod x 4
theorem step3 (u : Nat → Nat) (hu : ∀ r, r < 256 → u r ≤ 68 ∧ u r % 16 ≤ 4) (n : Nat) : ∀ x, (mapB u n x / 16 + mapB u n x) &&& repB 15 n = mapB (fun r => t3 (u r)) n x := by
  induction n with
  | zero => intro x; simp [repB, mapB]
  | succ n ih =>
    intro x
    have h := hu (x % 256) (Nat.mod_lt _ (by omega))
    have hc : mapB u n (x / 256) % 16 ≤ 4 := by
      cases n with
      | zero => simp [mapB]
      | succ n =>
        have h2 := hu (x / 256 % 256) (Nat.mod_lt _ (by omega))
        rw [mapB]; omega
    rw [repB, mapB, mapB, ← ih]
    obtain ⟨A, hA⟩ : ∃ A, A = u (x % 256) := ⟨_, rfl⟩
    obtain ⟨Y, hY⟩ : ∃ Y, Y = mapB u n (x / 256) := ⟨_, rfl⟩
    rw [← hA] at h ⊢
    rw [← hY] at hc ⊢
    rw [show (A + 256 * Y) / 16 + (A + 256 * Y) = (A / 16 + A + 16 * (Y % 16)) + 256 * (Y / 16 + Y) by omega, land_split _ _ _ _ (by omega) (by decide)]
    unfold t3
    rw [and15, and15]; omega
theorem dv (a b : Nat) (h : a < 256) : (a + 256 * b) / 256 = b := by omega
theorem last3 (c0 c1 c2 c3 c4 c5 c6 c7 y : Nat) (h0 : c0 ≤ 8) (h1 : c1 ≤ 8) (h2 : c2 ≤ 8) (h3 : c3 ≤ 8) (h4 : c4 ≤ 8) (h5 : c5 ≤ 8) (h6 : c6 ≤ 8) (h7 : c7 ≤ 8)
    (hy : y = c0 + 256 * (c1 + 256 * (c2 + 256 * (c3 + 256 * (c4 + 256 * (c5 + 256 * (c6 + 256 * (c7 + 256 * 0)))))))) (z v u : Nat) (hz : z = y + y / 256) (hv : v = z + z / 65536) (hu : u = v + v / 4294967296) :
    u < 9223372036854775808 ∧ u % 128 = c0 + c1 + c2 + c3 + c4 + c5 + c6 + c7 := by
  have e1 : y / 256 = c1 + 256 * (c2 + 256 * (c3 + 256 * (c4 + 256 * (c5 + 256 * (c6 + 256 * (c7 + 256 * 0)))))) := by rw [hy]; exact dv _ _ (by omega)
  have e2 : z = (c0 + c1) + 256 * ((c1 + c2) + 256 * ((c2 + c3) + 256 * ((c3 + c4) + 256 * ((c4 + c5) + 256 * ((c5 + c6) + 256 * ((c6 + c7) + 256 * c7)))))) := by rw [hz, e1, hy]; clear hz e1 hy hv hu; omega
  have e3 : z / 65536 = (c2 + c3) + 256 * ((c3 + c4) + 256 * ((c4 + c5) + 256 * ((c5 + c6) + 256 * ((c6 + c7) + 256 * c7)))) := by
    rw [show (65536 : Nat) = 256 * 256 from rfl, ← Nat.div_div_eq_div_mul, e2, dv _ _ (by omega), dv _ _ (by omega)]
  have e4 : v = (c0 + c1 + c2 + c3) + 256 * ((c1 + c2 + c3 + c4) + 256 * ((c2 + c3 + c4 + c5) + 256 * ((c3 + c4 + c5 + c6) + 256 * ((c4 + c5 + c6 + c7) + 256 * ((c5 + c6 + c7) + 256 * ((c6 + c7) + 256 * c7)))))) := by rw [hv, e3, e2]; clear hz e1 hy hv hu e2 e3; omega
  have e5 : v / 4294967296 = (c4 + c5 + c6 + c7) + 256 * ((c5 + c6 + c7) + 256 * ((c6 + c7) + 256 * c7)) := by
    rw [show (4294967296 : Nat) = 256 * 256 * 256 * 256 from rfl, ← Nat.div_div_eq_div_mul, ← Nat.div_div_eq_div_mul, ← Nat.div_div_eq_div_mul, e4, dv _ _ (by omega), dv _ _ (by omega), dv _ _ (by omega), dv _ _ (by omega)]
  obtain ⟨K, hK⟩ : ∃ K, K = ((c1 + c2 + c3 + c4) + 256 * ((c2 + c3 + c4 + c5) + 256 * ((c3 + c4 + c5 + c6) + 256 * ((c4 + c5 + c6 + c7) + 256 * ((c5 + c6 + c7) + 256 * ((c6 + c7) + 256 * c7)))))) + ((c5 + c6 + c7) + 256 * ((c6 + c7) + 256 * c7)) := ⟨_, rfl⟩
  have e6 : u = (c0 + c1 + c2 + c3 + c4 + c5 + c6 + c7) + 256 * K := by rw [hu, e5, e4, hK]; clear hz e1 hy hv hu e2 e3 e4 e5 hK; omega
  have bK : K < 9007199254740992 := by rw [hK]; clear hz e1 hy hv hu e2 e3 e4 e5 e6 hK; omega
  clear hz e1 hy hv hu e2 e3 e4 e5 hK
  constructor <;> omega

theorem bsum_shift (m : Nat) (k : Nat) : bsum m (8 + k) = bsum (m % 256) 8 + bsum (m / 256) k := by
  induction k with
  | zero =>
    show bsum m 8 = bsum (m % 256) 8 + 0
    have h : ∀ j, j ≤ 8 → bsum m j = bsum (m % 256) j := by
      intro j
      induction j with
      | zero => intro _; rfl
      | succ j ih =>
        intro hj
        rw [bsum, bsum, ih (by omega)]
        have e : m / 2 ^ j % 2 = m % 256 / 2 ^ j % 2 := by
          have h1 : (m % 2 ^ 8).testBit j = m.testBit j := by rw [Nat.testBit_mod_two_pow]; simp; omega
          rw [Nat.testBit_eq_decide_div_mod_eq, Nat.testBit_eq_decide_div_mod_eq] at h1
          have a1 : m / 2 ^ j % 2 = 0 ∨ m / 2 ^ j % 2 = 1 := by omega
          have a2 : m % 2 ^ 8 / 2 ^ j % 2 = 0 ∨ m % 2 ^ 8 / 2 ^ j % 2 = 1 := by omega
          show m / 2 ^ j % 2 = m % 2 ^ 8 / 2 ^ j % 2
          rcases a1 with a1 | a1 <;> rcases a2 with a2 | a2 <;> rw [a1, a2] at h1 <;> simp at h1 <;> rw [a1, a2]
        rw [e]
    exact h 8 (Nat.le_refl _)
  | succ k ih =>
    rw [← Nat.add_assoc, bsum, ih, bsum, Nat.add_assoc]
    congr 2
    rw [show 2 ^ (8 + k) = 256 * 2 ^ k by rw [Nat.pow_add], Nat.div_div_eq_div_mul]
/-- as math/bits counts the bits of a number -/
theorem pop_64 (x : Nat) (a1 a2 a3 a4 a5 a6 : Nat) (h1 : a1 = (x / 2 &&& 6148914691236517205) + (x &&& 6148914691236517205)) (h2 : a2 = (a1 / 4 &&& 3689348814741910323) + (a1 &&& 3689348814741910323))
    (h3 : a3 = (a2 / 16 + a2) &&& 1085102592571150095) (h4 : a4 = a3 + a3 / 256) (h5 : a5 = a4 + a4 / 65536) (h6 : a6 = a5 + a5 / 4294967296) :
    a1 < 18446744073709551616 ∧ a2 / 16 + a2 < 18446744073709551616 ∧ a6 < 9223372036854775808 ∧ a6 % 128 = bsum x 64 := by
  have e1 : a1 = mapB t1 8 x := by rw [h1]; exact step1 8 x
  have e2 : a2 = mapB (fun r => t2 (t1 r)) 8 x := by rw [h2, e1, ← map_map t1 t2 t1_bd]; exact step2 8 _
  have e3 : a3 = mapB (fun r => bsum r 8) 8 x := by
    rw [h3, e2, ← map_congr (f := fun r => t3 (t2 (t1 r))) t321]
    exact step3 (fun r => t2 (t1 r)) t21_bd 8 x
  have b1 := map_bd t1 t1_bd 8 x
  rw [← e1] at b1
  have b2 : a2 ≤ 4919131752989213764 := by
    have h : ∀ n x, mapB (fun r => t2 (t1 r)) n x ≤ repB 68 n := by
      intro n
      induction n with
      | zero => intro x; simp [mapB, repB]
      | succ n ih => intro x; have := (t21_bd (x % 256) (Nat.mod_lt _ (by omega))).1; have := ih (x / 256); rw [mapB, repB]; omega
    rw [e2]; exact h 8 x
  have bb : ∀ y, bsum (y % 256) 8 ≤ 8 := fun y => bsum8_le _ (Nat.mod_lt _ (by omega))
  obtain ⟨l1, l2⟩ := last3 _ _ _ _ _ _ _ _ a3 (bb x) (bb (x / 256)) (bb (x / 256 / 256)) (bb (x / 256 / 256 / 256)) (bb (x / 256 / 256 / 256 / 256)) (bb (x / 256 / 256 / 256 / 256 / 256)) (bb (x / 256 / 256 / 256 / 256 / 256 / 256)) (bb (x / 256 / 256 / 256 / 256 / 256 / 256 / 256)) (by rw [e3]; rfl) a4 a5 a6 h4 h5 h6
  refine ⟨by simpa using b1, by omega, l1, ?_⟩
  rw [l2]
  have s : ∀ y k, bsum y (8 + k) = bsum (y % 256) 8 + bsum (y / 256) k := bsum_shift
  have f1 := s x 56
  have f2 := s (x / 256) 48
  have f3 := s (x / 256 / 256) 40
  have f4 := s (x / 256 / 256 / 256) 32
  have f5 := s (x / 256 / 256 / 256 / 256) 24
  have f6 := s (x / 256 / 256 / 256 / 256 / 256) 16
  have f7 := s (x / 256 / 256 / 256 / 256 / 256 / 256) 8
  have f8 := s (x / 256 / 256 / 256 / 256 / 256 / 256 / 256) 0
  simp only [Nat.reduceAdd] at f1 f2 f3 f4 f5 f6 f7 f8
  have f9 : bsum (x / 256 / 256 / 256 / 256 / 256 / 256 / 256 / 256) 0 = 0 := rfl
  omega

end Cv
end Go.Proofs.YtpmfedllbiblbaaGreat

namespace Go.Proofs.YtpmfedllbiblbaaGreat
set_option linter.unusedVariables false
set_option linter.unusedSimpArgs false
namespace Cv

/-- the number with the bits p (64 k + 0) .. p (64 k + n - 1) -/
def ofB (p : Nat → Bool) (k : Nat) : Nat → Nat
  | 0 => 0
  | b + 1 => ofB p k b + if p (64 * k + b) then 2 ^ b else 0
theorem ofB_lt (p : Nat → Bool) (k n : Nat) : ofB p k n < 2 ^ n := by
  induction n with
  | zero => simp [ofB]
  | succ n ih =>
    rw [ofB, Nat.pow_succ]
    split <;> omega
theorem ofB_bit (p : Nat → Bool) (k n b : Nat) : (ofB p k n).testBit b = (decide (b < n) && p (64 * k + b)) := by
  induction n with
  | zero => simp [ofB]
  | succ n ih =>
    have hlt := ofB_lt p k n
    rw [ofB]
    by_cases hp : p (64 * k + n) = true
    · rw [if_pos hp, Nat.add_comm]
      by_cases e : b = n
      · subst e
        rw [Nat.testBit_two_pow_add_eq, Nat.testBit_lt_two_pow hlt]; simp [hp]
      · by_cases h : b < n
        · rw [Nat.testBit_two_pow_add_gt h, ih]; simp [h]; omega
        · have h2 : 2 ^ n + ofB p k n < 2 ^ b := by
            have : 2 ^ (n + 1) ≤ 2 ^ b := Nat.pow_le_pow_right (by omega) (by omega)
            rw [Nat.pow_succ] at this; omega
          rw [Nat.testBit_lt_two_pow h2]; simp; omega
    · rw [if_neg hp, Nat.add_zero, ih]
      by_cases e : b = n
      · subst e; simp [hp]
      · by_cases h : b < n
        · simp [h]; omega
        · simp [h]; omega
def partN (p : Nat → Bool) (k : Nat) : Nat := ofB p k 64
theorem partN_lt (p : Nat → Bool) (k : Nat) : partN p k < 18446744073709551616 := ofB_lt p k 64
theorem partN_bit (p : Nat → Bool) (k b : Nat) (hb : b < 64) : (partN p k).testBit b = p (64 * k + b) := by unfold partN; rw [ofB_bit]; simp [hb]
theorem partN_hi (p : Nat → Bool) (k b : Nat) (hb : ¬ b < 64) : (partN p k).testBit b = false := by unfold partN; rw [ofB_bit]; simp [hb]
theorem partN_ext (p q : Nat → Bool) (k : Nat) (h : ∀ b, b < 64 → p (64 * k + b) = q (64 * k + b)) : partN p k = partN q k := Nat.eq_of_testBit_eq fun b => by
  by_cases hb : b < 64
  · rw [partN_bit _ _ _ hb, partN_bit _ _ _ hb, h b hb]
  · rw [partN_hi _ _ _ hb, partN_hi _ _ _ hb]
theorem partN_inj {p q : Nat → Bool} {k : Nat} (h : partN p k = partN q k) (b : Nat) (hb : b < 64) : p (64 * k + b) = q (64 * k + b) := by
  rw [← partN_bit p k b hb, ← partN_bit q k b hb, h]
theorem bv_nat (n : Nat) (h : n < 18446744073709551616) : (BitVec.ofInt 64 (n : Int)).toNat = n := by
  rw [BitVec.ofInt_natCast, BitVec.toNat_ofNat]; exact Nat.mod_eq_of_lt h
theorem wrap_nat (n : Nat) (h : n < 18446744073709551616) : IntKind.u64.wrap (n : Int) = (n : Int) := by
  unfold IntKind.wrap
  simp [IntKind.signed, IntKind.bits]
  omega
/-- '|' of two parts -/
theorem part_or (p q : Nat → Bool) (k : Nat) : IntKind.u64.wrap (((BitVec.ofInt 64 (partN p k : Int)) ||| (BitVec.ofInt 64 (partN q k : Int))).toNat : Int) = (partN (fun u => p u || q u) k : Int) := by
  have e : ((BitVec.ofInt 64 (partN p k : Int)) ||| (BitVec.ofInt 64 (partN q k : Int))).toNat = partN (fun u => p u || q u) k := by
    rw [BitVec.toNat_or, bv_nat _ (partN_lt p k), bv_nat _ (partN_lt q k)]
    refine Nat.eq_of_testBit_eq fun b => ?_
    rw [Nat.testBit_or]
    by_cases hb : b < 64
    · rw [partN_bit _ _ _ hb, partN_bit _ _ _ hb, partN_bit _ _ _ hb]
    · rw [partN_hi _ _ _ hb, partN_hi _ _ _ hb, partN_hi _ _ _ hb]; rfl
  rw [e, wrap_nat _ (partN_lt _ k)]
/-- '&^' of two parts -/
theorem part_andNot (p q : Nat → Bool) (k : Nat) : IntKind.u64.wrap (((BitVec.ofInt 64 (partN p k : Int)) &&& ~~~(BitVec.ofInt 64 (partN q k : Int))).toNat : Int) = (partN (fun u => p u && !q u) k : Int) := by
  have e : ((BitVec.ofInt 64 (partN p k : Int)) &&& ~~~(BitVec.ofInt 64 (partN q k : Int))).toNat = partN (fun u => p u && !q u) k := by
    refine Nat.eq_of_testBit_eq fun b => ?_
    rw [BitVec.testBit_toNat, BitVec.getLsbD_and, BitVec.getLsbD_not, ← BitVec.testBit_toNat, ← BitVec.testBit_toNat, bv_nat _ (partN_lt p k), bv_nat _ (partN_lt q k)]
    by_cases hb : b < 64
    · rw [partN_bit _ _ _ hb, partN_bit _ _ _ hb, partN_bit _ _ _ hb]; simp [hb]
    · rw [partN_hi _ _ _ hb, partN_hi _ _ _ hb, partN_hi _ _ _ hb]; simp
  rw [e, wrap_nat _ (partN_lt _ k)]
/-- the set with the word u more -/
def putB (p : Nat → Bool) (u : Nat) : Nat → Bool := fun v => p v || decide (v = u)
/-- '1 << (u % 64)' -/
theorem part_one (u : Nat) : IntKind.u64.wrap (1 * 2 ^ (u % 64)) = (partN (fun v => decide (v = u)) (u / 64) : Int) := by
  have e : partN (fun v => decide (v = u)) (u / 64) = 2 ^ (u % 64) := by
    refine Nat.eq_of_testBit_eq fun b => ?_
    rw [Nat.testBit_two_pow]
    by_cases hb : b < 64
    · rw [partN_bit _ _ _ hb]
      have : (64 * (u / 64) + b = u) ↔ (u % 64 = b) := by omega
      simp only [this]
    · rw [partN_hi _ _ _ hb]; simp; omega
  rw [e, Int.one_mul]
  have h : (2 : Nat) ^ (u % 64) < 18446744073709551616 := by
    have h1 : (2 : Nat) ^ (u % 64) < 2 ^ 64 := Nat.pow_lt_pow_right (by omega) (by omega)
    simpa using h1
  have := wrap_nat _ h
  rw [← this]; push_cast; rfl
theorem part_put_other (p : Nat → Bool) (u k : Nat) (h : k ≠ u / 64) : partN (putB p u) k = partN p k := partN_ext _ _ _ fun b hb => by
  have : 64 * k + b ≠ u := by omega
  simp [putB, this]
/-- the parts of a set -/
def partsL (p : Nat → Bool) : List Int := (List.range 16).map fun k => (partN p k : Int)
theorem partsL_len (p : Nat → Bool) : (partsL p).length = 16 := by simp [partsL]
theorem gi_partsL (p : Nat → Bool) (k : Nat) (h : k < 16) : gi (partsL p) k = partN p k := by simp [partsL, gi, h]
theorem partsL_ext {p q : Nat → Bool} (h : ∀ u, u < 1024 → p u = q u) : partsL p = partsL q := by
  unfold partsL
  apply List.map_congr_left
  intro k hk
  rw [List.mem_range] at hk
  rw [partN_ext p q k fun b hb => h _ (by omega)]
theorem partsL_inj {p q : Nat → Bool} (h : partsL p = partsL q) (u : Nat) (hu : u < 1024) : p u = q u := by
  have h1 : gi (partsL p) (u / 64) = gi (partsL q) (u / 64) := by rw [h]
  rw [gi_partsL _ _ (by omega), gi_partsL _ _ (by omega)] at h1
  have h2 := partN_inj (p := p) (q := q) (k := u / 64) (by omega) (u % 64) (by omega)
  have e : 64 * (u / 64) + u % 64 = u := by omega
  rwa [e] at h2

end Cv
end Go.Proofs.YtpmfedllbiblbaaGreat

namespace Go.Proofs.YtpmfedllbiblbaaGreat
open Go.RowKit Cv
set_option linter.unusedVariables false
set_option linter.unusedSimpArgs false
set_option maxRecDepth 100000

theorem bits_u (a b : Nat) (ha : a < 18446744073709551616) (hb : b < 18446744073709551616) : bits .and .u64 (a : Int) (b : Int) = ((a &&& b : Nat) : Int) := by
  have h : a &&& b ≤ a := Nat.and_le_left
  show IntKind.u64.wrap (((BitVec.ofInt 64 (a : Int) &&& BitVec.ofInt 64 (b : Int)).toNat : Nat) : Int) = _
  rw [BitVec.toNat_and, bv_nat a (by omega), bv_nat b (by omega), wrap_nat _ (by omega)]
theorem bits_127 (a : Nat) (ha : a < 9223372036854775808) : bits .and .i64 (a : Int) 127 = ((a % 128 : Nat) : Int) := by
  have e : a &&& 127 = a % 128 := Nat.and_two_pow_sub_one_eq_mod a 7
  show IntKind.i64.wrap (((BitVec.ofInt 64 (a : Int) &&& BitVec.ofInt 64 ((127 : Nat) : Int)).toNat : Nat) : Int) = _
  rw [BitVec.toNat_and, bv_nat a (by omega), bv_nat 127 (by omega), e, IntWalk.i64_in _ ⟨by omega, by omega⟩]

set_option maxHeartbeats 1000000 in
theorem ones_any (m : Nat) (hm : m < 18446744073709551616) (w : World) :
    Calls Tryz.prog 91 #[.int .u64 (m : Int)] w fun e w' => e = .returned (.int .i64 (bsum m 64)) ∧ w' = w := by
  obtain ⟨p1, h1⟩ : ∃ p1, p1 = m / 2 &&& 6148914691236517205 := ⟨_, rfl⟩
  obtain ⟨p2, h2⟩ : ∃ p2, p2 = m &&& 6148914691236517205 := ⟨_, rfl⟩
  obtain ⟨a1, h3⟩ : ∃ a1, a1 = p1 + p2 := ⟨_, rfl⟩
  obtain ⟨p3, h4⟩ : ∃ p3, p3 = a1 / 4 &&& 3689348814741910323 := ⟨_, rfl⟩
  obtain ⟨p4, h5⟩ : ∃ p4, p4 = a1 &&& 3689348814741910323 := ⟨_, rfl⟩
  obtain ⟨a2, h6⟩ : ∃ a2, a2 = p3 + p4 := ⟨_, rfl⟩
  obtain ⟨b3, h7⟩ : ∃ b3, b3 = a2 / 16 + a2 := ⟨_, rfl⟩
  obtain ⟨a3, h8⟩ : ∃ a3, a3 = b3 &&& 1085102592571150095 := ⟨_, rfl⟩
  obtain ⟨a4, h9⟩ : ∃ a4, a4 = a3 + a3 / 256 := ⟨_, rfl⟩
  obtain ⟨a5, h10⟩ : ∃ a5, a5 = a4 + a4 / 65536 := ⟨_, rfl⟩
  obtain ⟨a6, h11⟩ : ∃ a6, a6 = a5 + a5 / 4294967296 := ⟨_, rfl⟩
  obtain ⟨l1, l2, l3, l4⟩ := pop_64 m a1 a2 a3 a4 a5 a6 (by rw [h3, h1, h2]) (by rw [h6, h4, h5]) (by rw [h8, h7]) h9 h10 h11
  have q3 : p3 ≤ 3689348814741910323 := by rw [h4]; exact Nat.and_le_right
  have q4 : p4 ≤ 3689348814741910323 := by rw [h5]; exact Nat.and_le_right
  have F1 : bits .and .u64 ((m : Int) / 2) 6148914691236517205 = (p1 : Int) := by rw [h1]; exact bits_u (m / 2) 6148914691236517205 (by omega) (by omega)
  have F2 : bits .and .u64 (m : Int) 6148914691236517205 = (p2 : Int) := by rw [h2]; exact bits_u m 6148914691236517205 hm (by omega)
  have F3 : IntKind.u64.wrap ((p1 : Int) + (p2 : Int)) = (a1 : Int) := by rw [h3]; exact wrap_nat (p1 + p2) (by omega)
  have F4 : bits .and .u64 ((a1 : Int) / 4) 3689348814741910323 = (p3 : Int) := by rw [h4]; exact bits_u (a1 / 4) 3689348814741910323 (by omega) (by omega)
  have F5 : bits .and .u64 (a1 : Int) 3689348814741910323 = (p4 : Int) := by rw [h5]; exact bits_u a1 3689348814741910323 l1 (by omega)
  have F6 : IntKind.u64.wrap ((p3 : Int) + (p4 : Int)) = (a2 : Int) := by rw [h6]; exact wrap_nat (p3 + p4) (by omega)
  have F7 : IntKind.u64.wrap ((a2 : Int) / 16 + (a2 : Int)) = (b3 : Int) := by rw [h7]; exact wrap_nat (a2 / 16 + a2) l2
  have F8 : bits .and .u64 (b3 : Int) 1085102592571150095 = (a3 : Int) := by rw [h8]; exact bits_u b3 1085102592571150095 (by omega) (by omega)
  have F9 : IntKind.u64.wrap ((a3 : Int) + (a3 : Int) / 256) = (a4 : Int) := by rw [h9]; exact wrap_nat (a3 + a3 / 256) (by omega)
  have F10 : IntKind.u64.wrap ((a4 : Int) + (a4 : Int) / 65536) = (a5 : Int) := by rw [h10]; exact wrap_nat (a4 + a4 / 65536) (by omega)
  have F11 : IntKind.u64.wrap ((a5 : Int) + (a5 : Int) / 4294967296) = (a6 : Int) := by rw [h11]; exact wrap_nat (a5 + a5 / 4294967296) (by omega)
  have F12 : bits .and .i64 (a6 : Int) 127 = ((bsum m 64 : Nat) : Int) := by rw [← l4]; exact bits_127 a6 l3
  have F13 : IntKind.i64.wrap (a6 : Int) = (a6 : Int) := IntWalk.i64_in _ ⟨by omega, by omega⟩
  clear h1 h2 h3 h4 h5 h6 h7 h8 h9 h10 h11 l1 l2 l3 l4 q3 q4
  go_enter Tryz.func91, Tryz.ntmps91
  go_wp2
  go_ret
  exact ⟨rfl, rfl⟩

end Go.Proofs.YtpmfedllbiblbaaGreat

namespace Go.Proofs.YtpmfedllbiblbaaGreat
open Go.RowKit Cv
set_option linter.unusedVariables false
set_option linter.unusedSimpArgs false
set_option maxRecDepth 100000

/-- n bytes lie at a, in a block below B -/
def Byts (w : World) (B : Nat) (a : Option Addr) (n : Nat) : Prop :=
  n = 0 ∨ ∃ b o, a = some ⟨b, o, none⟩ ∧ b < B ∧ ∀ i, i < n → ∃ c : Int, 0 ≤ c ∧ c < 256 ∧ w.cell? ⟨b, o + i, none⟩ = some (.int .u8 c)
theorem Byts.keep {w w' : World} {B : Nat} {a : Option Addr} {n : Nat} (h : Byts w B a n) (hk : ∀ b o v, b < B → w.cell? ⟨b, o, none⟩ = some v → w'.cell? ⟨b, o, none⟩ = some v) : Byts w' B a n := by
  rcases h with h | ⟨b, o, e, hb, hc⟩
  · exact .inl h
  · refine .inr ⟨b, o, e, hb, fun i hi => ?_⟩
    obtain ⟨c, h0, h1, h2⟩ := hc i hi
    exact ⟨c, h0, h1, hk _ _ _ hb h2⟩
theorem Byts.mono {w : World} {B B' : Nat} {a : Option Addr} {n : Nat} (h : Byts w B a n) (hB : B ≤ B') : Byts w B' a n := by
  rcases h with h | ⟨b, o, e, hb, hc⟩
  · exact .inl h
  · exact .inr ⟨b, o, e, by omega, hc⟩

/-- a source in the block b, over the n bytes at a -/
structure Src (w : World) (b : Nat) (a : Option Addr) (n cap : Nat) : Prop where
  c0 : w.cell? ⟨b, 0, none⟩ = some (.slice a n cap)
  c1 : ∃ t : Nat, t ≤ n ∧ w.cell? ⟨b, 1, none⟩ = some (.int .i64 (t : Int))
  c2 : ∃ h : Nat, h < 18446744073709551616 ∧ w.cell? ⟨b, 2, none⟩ = some (.int .u64 (h : Int))
  f1 : w.frozen? ⟨b, 1, none⟩ = false
  f2 : w.frozen? ⟨b, 2, none⟩ = false
  lt : b < w.heap.size
  by' : Byts w b a n
theorem Src.below {w w' : World} {b B : Nat} {a : Option Addr} {n cap : Nat} (h : Src w b a n cap) (hb : Below B w w') (hB : b < B) : Src w' b a n cap := by
  obtain ⟨c0, ⟨t, ht, c1⟩, ⟨x, hx, c2⟩, f1, f2, lt, hy⟩ := h
  refine ⟨kept_cell hb c0 hB, ⟨t, ht, kept_cell hb c1 hB⟩, ⟨x, hx, kept_cell hb c2 hB⟩, (hb.frozen (p := ⟨b, 1, none⟩) hB).trans f1, (hb.frozen (p := ⟨b, 2, none⟩) hB).trans f2, lt_of_below hb lt, hy.keep fun c o v hc h => kept_cell hb h (by omega)⟩
theorem Src.set {w : World} {b : Nat} {a : Option Addr} {n cap : Nat} (h : Src w b a n cap) (x : Nat) (hx : x < 18446744073709551616) : Src (w.setCell ⟨b, 2, none⟩ (.int .u64 (x : Int))) b a n cap := by
  obtain ⟨c0, ⟨t, ht, c1⟩, ⟨y, hy, c2⟩, f1, f2, lt, hz⟩ := h
  refine ⟨(World.cell?_setCell_other _ ⟨b, 2, none⟩ ⟨b, 0, none⟩ _ (by simp)).trans c0, ⟨t, ht, (World.cell?_setCell_other _ ⟨b, 2, none⟩ ⟨b, 1, none⟩ _ (by simp)).trans c1⟩, ⟨x, hx, World.cell?_setCell_same' _ _ _ (by rw [c2]; rfl)⟩, by simpa using f1, by simpa using f2, by simpa using lt, hz.keep fun c o v hc h => cell_set_other h (by simp; omega)⟩

theorem Src.setT {w : World} {b : Nat} {a : Option Addr} {n cap : Nat} (h : Src w b a n cap) (x : Nat) (hx : x ≤ n) : Src (w.setCell ⟨b, 1, none⟩ (.int .i64 (x : Int))) b a n cap := by
  obtain ⟨c0, ⟨t, ht, c1⟩, ⟨y, hy, c2⟩, f1, f2, lt, hz⟩ := h
  refine ⟨(World.cell?_setCell_other _ ⟨b, 1, none⟩ ⟨b, 0, none⟩ _ (by simp)).trans c0, ⟨x, hx, World.cell?_setCell_same' _ _ _ (by rw [c1]; rfl)⟩, ⟨y, hy, (World.cell?_setCell_other _ ⟨b, 1, none⟩ ⟨b, 2, none⟩ _ (by simp)).trans c2⟩, by simpa using f1, by simpa using f2, by simpa using lt, hz.keep fun c o v hc h => cell_set_other h (by simp; omega)⟩
theorem Src.drewN {w : World} {b : Nat} {a : Option Addr} {n cap : Nat} (h : Src w b a n cap) (k : Nat) : Src (w.drewN k) b a n cap := h.below (below_drewN (Below.refl w.heap.size w) k) h.lt
theorem grown_drewN {w w' : World} {r : Option Nat} (h : w.grownBy w' r) (k : Nat) : w.grownBy (w'.drewN k) r := grown_trans h (grown_of_below (below_drewN (Below.refl _ _) k) _)
theorem emod_le {a m : Int} (ha : 0 ≤ a) (hm : 0 < m) : a % m ≤ a := by
  by_cases h : a < m
  · rw [Int.emod_eq_of_lt ha h]; exact Int.le_refl _
  · have := Int.emod_lt_of_pos a hm; omega

theorem u64_nat (z : Int) : ∃ k : Nat, k < 18446744073709551616 ∧ IntKind.u64.wrap z = (k : Int) := by
  have e : IntKind.u64.wrap z = z % 18446744073709551616 := by unfold IntKind.wrap; simp [IntKind.signed, IntKind.bits]
  have h0 := Int.emod_nonneg z (show (18446744073709551616 : Int) ≠ 0 by decide)
  have h1 := Int.emod_lt_of_pos z (show (0 : Int) < 18446744073709551616 by decide)
  exact ⟨(z % 18446744073709551616).toNat, by omega, by rw [e]; omega⟩

theorem and24 (k : Nat) (hk : k < 18446744073709551616) : ∃ x : Nat, x < 16777216 ∧ bits .and .u64 ((k : Int) / 8589934592) 16777215 = (x : Int) := by
  obtain ⟨q, hq, hq2⟩ : ∃ q : Nat, (k : Int) / 8589934592 = (q : Int) ∧ q < 18446744073709551616 := ⟨k / 8589934592, by omega, by omega⟩
  rw [hq]
  have e := bits_u q 16777215 hq2 (by omega)
  have : q &&& 16777215 ≤ 16777215 := Nat.and_le_right
  exact ⟨q &&& 16777215, by omega, e⟩

set_option maxHeartbeats 1000000 in
theorem next_any (b : Nat) (a : Option Addr) (n cap : Nat) (hn : n ≤ 4096) (m : Int) (hm : -9223372036854775808 ≤ m ∧ m ≤ 9223372036854775807) (w : World) (hs : Src w b a n cap) :
    Calls Tryz.prog 59 #[.pointer (some ⟨b, 0, none⟩), .int .i64 m] w fun e w' => ∃ x : Int, e = .returned (.int .i64 x) ∧ 0 ≤ x ∧ x < 33554432 ∧ (1 ≤ m → x < m) ∧ Src w' b a n cap ∧ w.grownBy w' (some b) := by
  by_cases h1 : m < 1
  · go_enter Tryz.func59, Tryz.ntmps59
    go_wp2_with fail
    go_ret
    exact ⟨0, rfl, by omega, by omega, fun h => by omega, hs, grown_of_below (Below.refl _ _) _⟩
  · have HS := Lib.hid hs
    obtain ⟨c0, ⟨t, ht, c1⟩, ⟨h, hh, c2⟩, f1, f2, lt, hy⟩ := hs
    obtain ⟨k1, hk1, E1⟩ := u64_nat ((h : Int) * 6364136223846793005)
    obtain ⟨k2, hk2, E2⟩ := u64_nat ((k1 : Int) + 1442695040888963407)
    obtain ⟨x, hx, E3⟩ := and24 k2 hk2
    have E4 : wrap64 (x : Int) = (x : Int) := IntWalk.wrap64_in _ ⟨by omega, by omega⟩
    have hm0 : ¬ m = 0 := by omega
    have hm1 : (m == 0) = false := by simp; omega
    have G1 := HS.out.set k2 hk2
    have hg1 : w.grownBy (w.setCell ⟨b, 2, none⟩ (.int .u64 (k2 : Int))) (some b) := grown_setCell (grown_of_below (Below.refl _ _) _) 2 _
    have HX := Lib.hid hx
    clear hh hk1 hk2 hx
    go_enter Tryz.func59, Tryz.ntmps59
    go_wp2_with fail
    obtain ⟨w1, hw1⟩ : ∃ w1, w1 = w.setCell ⟨b, 2, none⟩ (.int .u64 (k2 : Int)) := ⟨_, rfl⟩
    rw [← hw1] at G1 hg1 ⊢
    have HG1 := Lib.hid G1
    clear c0 c1 c2 f1 f2 lt hy E1 E2 E3 hw1 ht t
    obtain ⟨c0, ⟨t, ht, c1⟩, _, f1, f2, lt, hy⟩ := G1
    have ti : (0 : Int) ≤ (t : Int) := by omega
    by_cases hlt : t < n
    · rcases hy with h0 | ⟨b', o, rfl, hb', hcs⟩
      · omega
      obtain ⟨y, y0, y1, cy⟩ := hcs t hlt
      have tl : (t : Int) < (n : Int) := by omega
      have d1 : decide ((t : Int) < (n : Int)) = true := by simpa using hlt
      have hxb := HX.out
      have E5 : IntKind.i64.wrap y = y := IntWalk.i64_in _ ⟨by omega, by omega⟩
      have E6 : IntKind.i64.wrap ((x : Int) + y) = (x : Int) + y := IntWalk.i64_in _ ⟨by omega, by omega⟩
      have Hb := Lib.hid (And.intro y0 y1)
      clear hcs hxb y1
      go_quiet (fail)
      go_wp2_with fail
      go_quiet (fail)
      go_wp2_with fail
      go_ret
      have hb := Hb.out
      have hxb := HX.out
      have q1 : (0 : Int) ≤ (x : Int) + y := by omega
      have q3 := Int.emod_nonneg ((x : Int) + y) (show m ≠ 0 by omega)
      have q4 := Int.emod_lt_of_pos ((x : Int) + y) (show 0 < m by omega)
      have q5 := emod_le q1 (show 0 < m by omega)
      exact ⟨_, rfl, q3, by omega, fun _ => q4, (HG1.out.drewN _).setT (t + 1) hlt, grown_setCell (grown_drewN hg1 _) 1 _⟩
    · have d1 : decide ((t : Int) < (n : Int)) = false := by simpa using hlt
      have Hx := HX
      go_quiet (fail)
      go_wp2_with fail
      go_ret
      have hxb := HX.out
      have q1 : (0 : Int) ≤ (x : Int) := by omega
      have q3 := Int.emod_nonneg (x : Int) (show m ≠ 0 by omega)
      have q4 := Int.emod_lt_of_pos (x : Int) (show 0 < m by omega)
      have q5 := emod_le q1 (show 0 < m by omega)
      exact ⟨_, rfl, q3, by omega, fun _ => q4, HG1.out.drewN _, grown_drewN hg1 _⟩

theorem ints_at {w : World} {a : Option Addr} {L : List Int} (h : Ints w a L) {b o : Nat} (e : a = some ⟨b, o, none⟩) {k : Nat} (hk : k < L.length) : w.cell? ⟨b, o + k, none⟩ = some (.int .i64 (gi L k)) := by
  rcases h with h | ⟨b', o', e', _, hc⟩
  · omega
  · rw [e] at e'; cases e'; exact hc k hk
theorem grown_cell {w w' : World} {b c o : Nat} {v : Value} (hg : w.grownBy w' (some b)) (h : w.cell? ⟨c, o, none⟩ = some v) (hne : c ≠ b) : w'.cell? ⟨c, o, none⟩ = some v :=
  hg.cell (a := ⟨c, o, none⟩) h (by simp; omega)

set_option maxHeartbeats 1000000 in
theorem pick_any (b : Nat) (a : Option Addr) (n cap : Nat) (hn : n ≤ 4096) (g : Nat) (L : List Int) (hL : 1 ≤ L.length) (hL2 : L.length ≤ 100) (hgb : g ≠ b) (w : World) (hs : Src w b a n cap) (hI : Ints w (some ⟨g, 0, none⟩) L) :
    Calls Tryz.prog 61 #[.pointer (some ⟨b, 0, none⟩), .slice (some ⟨g, 0, none⟩) L.length L.length] w fun e w' => ∃ x : Int, e = .returned (.int .i64 x) ∧ x ∈ L ∧ Src w' b a n cap ∧ w.grownBy w' (some b) := by
  have hI0 := fun k (hk : k < L.length) => ints_at hI rfl hk
  have hnx := next_any b a n cap hn (L.length : Int) (by omega) w hs
  clear hs hI
  go_enter Tryz.func61, Tryz.ntmps61
  go_wp2_with fail
  refine hnx.mono ?_
  rintro e w1 ⟨x, rfl, h0, h1, h2, hs, hg⟩
  obtain ⟨k, rfl⟩ : ∃ k : Nat, x = k := ⟨x.toNat, by omega⟩
  have hk : k < L.length := by have := h2 (by omega); omega
  have hck := grown_cell hg (hI0 k hk) hgb
  have i1 : (k : Int) < (L.length : Int) := by omega
  have HM := Lib.hid (gi_mem hk)
  rw [Nat.zero_add] at hck
  clear hI0 hnx h1 h2
  go_wp2_with fail
  go_ret
  exact ⟨_, rfl, HM.out, hs, hg⟩

theorem pick_n (b : Nat) (a : Option Addr) (n cap : Nat) (hn : n ≤ 4096) (g : Nat) (L : List Int) (K : Nat) (hK : K = L.length) (hL : 1 ≤ K) (hL2 : K ≤ 100) (hgb : g ≠ b) (w : World) (hs : Src w b a n cap) (hI : Ints w (some ⟨g, 0, none⟩) L) :
    Calls Tryz.prog 61 #[.pointer (some ⟨b, 0, none⟩), .slice (some ⟨g, 0, none⟩) K K] w fun e w' => ∃ x : Int, e = .returned (.int .i64 x) ∧ x ∈ L ∧ Src w' b a n cap ∧ w.grownBy w' (some b) := by
  subst hK; exact pick_any b a n cap hn g L hL hL2 hgb w hs hI
theorem grown_alloc {w w' : World} {r : Option Nat} (h : w.grownBy w' r) (o : Obj) : w.grownBy (w'.alloc o) r := grown_trans h (grown_of_below ((Below.refl _ _).alloc (Nat.le_refl _) o) _)
theorem Src.alloc {w : World} {b : Nat} {a : Option Addr} {n cap : Nat} (h : Src w b a n cap) (o : Obj) : Src (w.alloc o) b a n cap := h.below ((Below.refl _ _).alloc (Nat.le_refl _) o) h.lt

set_option maxHeartbeats 1000000 in
theorem near_any (b : Nat) (a : Option Addr) (n cap : Nat) (hn : n ≤ 4096) (m : Int) (hm : -1 ≤ m ∧ m ≤ 1000000) (w : World) (hs : Src w b a n cap) :
    Calls Tryz.prog 58 #[.pointer (some ⟨b, 0, none⟩), .int .i64 m] w fun e w' => ∃ x : Int, e = .returned (.int .i64 x) ∧ (-9223372036854775808 ≤ x ∧ x ≤ 9223372036854775807) ∧ Src w' b a n cap ∧ w.grownBy w' (some b) := by
  have h14 := next_any b a n cap hn 14 (by omega) w hs
  clear hs
  go_enter Tryz.func58, Tryz.ntmps58
  go_wp2_with fail
  refine h14.mono ?_
  rintro e w1 ⟨x, rfl, h0, h1, h2, hs, hg⟩
  clear h14 h1 h2
  by_cases hx : x = 0
  · subst hx
    have I : Ints (w1.alloc (.cells #[.int .i64 (-1), .int .i64 (m + 1), .int .i64 1099511627776, .int .i64 (-4611686018427387904)] 2)) (some ⟨w1.heap.size, 0, none⟩) [-1, m + 1, 1099511627776, -4611686018427387904] := ints_new w1 _ _
    have hp := pick_n b a n cap hn w1.heap.size _ 4 rfl (by omega) (by omega) (by have := hs.lt; omega) _ (hs.alloc _) I
    clear I
    go_wp2_with fail
    refine hp.mono ?_
    rintro e w2 ⟨y, rfl, hy, hs2, hg2⟩
    clear hp
    have HY : Hid (-9223372036854775808 ≤ y ∧ y ≤ 9223372036854775807) := Lib.hid (by
      simp only [List.mem_cons, List.not_mem_nil, or_false] at hy
      omega)
    clear hy
    go_wp2_with fail
    go_ret
    exact ⟨_, rfl, HY.out, hs2, grown_trans (grown_alloc hg _) hg2⟩
  · have hxx : (x == 0) = false := by simpa using hx
    have hnx := next_any b a n cap hn (m + 1) (by omega) w1 hs
    go_wp2_with fail
    refine hnx.mono ?_
    rintro e w2 ⟨y, rfl, y0, y1, y2, hs2, hg2⟩
    have HY : Hid (-9223372036854775808 ≤ y ∧ y ≤ 9223372036854775807) := Lib.hid (by omega)
    clear hnx y0 y1 y2
    go_wp2_with fail
    go_ret
    exact ⟨_, rfl, HY.out, hs2, grown_trans hg hg2⟩

set_option maxHeartbeats 1000000 in
theorem from_any (a : Option Addr) (n cap : Nat) (hn : n ≤ 4096) (w : World) (hB : Byts w w.heap.size a n) :
    Calls Tryz.prog 57 #[.slice a n cap] w fun e w' => e = .returned (.pointer (some ⟨w.heap.size, 0, none⟩)) ∧ Src w' w.heap.size a n cap ∧ Below w.heap.size w w' := by
  have HBy := Lib.hid hB
  have E0 : IntKind.u64.wrap (n : Int) = (n : Int) := by unfold IntKind.wrap; simp [IntKind.signed, IntKind.bits]; omega
  have E1 : IntKind.u64.wrap (14111 + (n : Int)) = 14111 + (n : Int) := by unfold IntKind.wrap; simp [IntKind.signed, IntKind.bits]; omega
  clear hB
  go_enter Tryz.func57, Tryz.ntmps57
  go_wp2_with fail
  obtain ⟨b, hb⟩ : ∃ b, b = w.heap.size := ⟨_, rfl⟩
  have HSt : Hid (Src (w.alloc (.cells #[.slice a n cap, .int .i64 0, .int .u64 (14111 + (n : Int))] 113)) b a n cap) := Lib.hid (by
    subst hb
    exact ⟨by simp, ⟨0, by omega, by simp⟩, ⟨14111 + n, by omega, by simp⟩, by unfold World.frozen?; rw [heap_alloc_new]; rfl, by unfold World.frozen?; rw [heap_alloc_new]; rfl, by simp, HBy.out.keep fun c o v hc h => kept_cell ((Below.refl w.heap.size w).alloc (Nat.le_refl _) _) h hc⟩)
  have HBl : Hid (Below b w (w.alloc (.cells #[.slice a n cap, .int .i64 0, .int .u64 (14111 + (n : Int))] 113))) := Lib.hid (by subst hb; exact (Below.refl w.heap.size w).alloc (Nat.le_refl _) _)
  have HBb := Lib.hid hb
  rw [← hb]
  clear hb E0 E1
  go_loopw [4] (fun i wr => ∃ k : Nat, k ≤ n ∧ i = .int .i64 (k : Int) ∧ Src wr b a n cap ∧ Below b w wr) (fun i _ => n - (intOf i).toNat)
  case atStart => exact ⟨0, Nat.zero_le _, rfl, HSt.out, HBl.out⟩
  case round =>
    obtain ⟨k, hk, rfl, hs, B⟩ := hrel
    have HS := Lib.hid hs
    have i1 : (0 : Int) ≤ (k : Int) := by omega
    by_cases hlt : k < n
    · have i2 : (k : Int) < (n : Int) := by omega
      have i3 : (k : Int) < 4096 := by omega
      obtain ⟨c0, _, ⟨h, hh, c2⟩, f1, f2, lt, hy⟩ := hs
      rcases hy with h0 | ⟨b', o, rfl, hb', hcs⟩
      · omega
      obtain ⟨y, y0, y1, cy⟩ := hcs k hlt
      have E5 : IntKind.u64.wrap y = y := by unfold IntKind.wrap; simp [IntKind.signed, IntKind.bits]; omega
      obtain ⟨k1, hk1, E1⟩ := u64_nat ((h : Int) * 1099511628211)
      obtain ⟨k2, hk2, E2⟩ := u64_nat ((k1 : Int) + y)
      obtain ⟨k3, hk3, E3⟩ := u64_nat ((k2 : Int) + 251)
      have HK := Lib.hid hk3
      clear hh hk1 hk2 hk3 hcs y0 y1
      go_wp2_with fail
      go_still_tail 15, (by kernel_rfl)
      change wpList _ _ _ _ _ wr.drew
      go_wp2_with fail
      clear E1 E2 E3 E5
      go_roundw
      case rel => exact ⟨k + 1, hlt, by go_num, (HS.out.drewN 1).set k3 HK.out, B.drew.setCell (Nat.le_refl _) _⟩
      case measure => simp [intOf]; omega
    · have i2 : ¬ (k : Int) < (n : Int) := by omega
      go_wp2_with fail
      go_ret
      exact ⟨by rw [← HBb.out]; try rfl, by rw [← HBb.out]; exact HS.out, by rw [← HBb.out]; exact B⟩

end Go.Proofs.YtpmfedllbiblbaaGreat
