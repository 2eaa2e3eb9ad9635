/-
  Texts put together: Help, Bits, OnesA, Append. By an AI agent.
-/
import Derived.Test.YtcnnijeokefboabMem
import Derived.Test.YtcnnijeokefboabMath
import Derived.WalkKit
import Derived.Test.YtcnnijeokefboabPop
namespace Go.Proofs.Ytcnnijeokefboab
open Go.RowKit Cv
set_option linter.unusedVariables false
set_option linter.unusedSimpArgs false

theorem ret_int {k : IntKind} {a b : Int} (h : a = b) : Ending.returned (.int k a) = .returned (.int k b) := by rw [h]

/-- what szInt64S gives -/
def szOf (n : Nat) (left : Int) : Int := if left - n < 0 then -1 else left - n

end Go.Proofs.Ytcnnijeokefboab

namespace Go.Proofs.Ytcnnijeokefboab
set_option linter.unusedVariables false
set_option linter.unusedSimpArgs false
namespace Cv

/-- the number with the bits p (64 k + 0) .. p (64 k + n - 1) -/
def ofB (p : Nat → Bool) (k : Nat) : Nat → Nat
  | 0 => 0
  | b + 1 => ofB p k b + if p (64 * k + b) then 2 ^ b else 0
theorem ofB_lt (p : Nat → Bool) (k n : Nat) : ofB p k n < 2 ^ n := by
  induction n with
  | zero => simp [ofB]
  | succ n ih =>
    rw [ofB, Nat.pow_succ]
    split <;> omega
theorem ofB_bit (p : Nat → Bool) (k n b : Nat) : (ofB p k n).testBit b = (decide (b < n) && p (64 * k + b)) := by
  induction n with
  | zero => simp [ofB]
  | succ n ih =>
    have hlt := ofB_lt p k n
    rw [ofB]
    by_cases hp : p (64 * k + n) = true
    · rw [if_pos hp, Nat.add_comm]
      by_cases e : b = n
      · subst e
        rw [Nat.testBit_two_pow_add_eq, Nat.testBit_lt_two_pow hlt]; simp [hp]
      · by_cases h : b < n
        · rw [Nat.testBit_two_pow_add_gt h, ih]; simp [h]; omega
        · have h2 : 2 ^ n + ofB p k n < 2 ^ b := by
            have : 2 ^ (n + 1) ≤ 2 ^ b := Nat.pow_le_pow_right (by omega) (by omega)
            rw [Nat.pow_succ] at this; omega
          rw [Nat.testBit_lt_two_pow h2]; simp; omega
    · rw [if_neg hp, Nat.add_zero, ih]
      by_cases e : b = n
      · subst e; simp [hp]
      · by_cases h : b < n
        · simp [h]; omega
        · simp [h]; omega
def partN (p : Nat → Bool) (k : Nat) : Nat := ofB p k 64
theorem partN_lt (p : Nat → Bool) (k : Nat) : partN p k < 18446744073709551616 := ofB_lt p k 64
theorem partN_bit (p : Nat → Bool) (k b : Nat) (hb : b < 64) : (partN p k).testBit b = p (64 * k + b) := by unfold partN; rw [ofB_bit]; simp [hb]
theorem partN_hi (p : Nat → Bool) (k b : Nat) (hb : ¬ b < 64) : (partN p k).testBit b = false := by unfold partN; rw [ofB_bit]; simp [hb]
theorem partN_ext (p q : Nat → Bool) (k : Nat) (h : ∀ b, b < 64 → p (64 * k + b) = q (64 * k + b)) : partN p k = partN q k := Nat.eq_of_testBit_eq fun b => by
  by_cases hb : b < 64
  · rw [partN_bit _ _ _ hb, partN_bit _ _ _ hb, h b hb]
  · rw [partN_hi _ _ _ hb, partN_hi _ _ _ hb]
theorem partN_inj {p q : Nat → Bool} {k : Nat} (h : partN p k = partN q k) (b : Nat) (hb : b < 64) : p (64 * k + b) = q (64 * k + b) := by
  rw [← partN_bit p k b hb, ← partN_bit q k b hb, h]
theorem bv_nat (n : Nat) (h : n < 18446744073709551616) : (BitVec.ofInt 64 (n : Int)).toNat = n := by
  rw [BitVec.ofInt_natCast, BitVec.toNat_ofNat]; exact Nat.mod_eq_of_lt h
theorem wrap_nat (n : Nat) (h : n < 18446744073709551616) : IntKind.u64.wrap (n : Int) = (n : Int) := by
  unfold IntKind.wrap
  simp [IntKind.signed, IntKind.bits]
  omega
/-- '|' of two parts -/
theorem part_or (p q : Nat → Bool) (k : Nat) : IntKind.u64.wrap (((BitVec.ofInt 64 (partN p k : Int)) ||| (BitVec.ofInt 64 (partN q k : Int))).toNat : Int) = (partN (fun u => p u || q u) k : Int) := by
  have e : ((BitVec.ofInt 64 (partN p k : Int)) ||| (BitVec.ofInt 64 (partN q k : Int))).toNat = partN (fun u => p u || q u) k := by
    rw [BitVec.toNat_or, bv_nat _ (partN_lt p k), bv_nat _ (partN_lt q k)]
    refine Nat.eq_of_testBit_eq fun b => ?_
    rw [Nat.testBit_or]
    by_cases hb : b < 64
    · rw [partN_bit _ _ _ hb, partN_bit _ _ _ hb, partN_bit _ _ _ hb]
    · rw [partN_hi _ _ _ hb, partN_hi _ _ _ hb, partN_hi _ _ _ hb]; rfl
  rw [e, wrap_nat _ (partN_lt _ k)]
/-- '&^' of two parts -/
theorem part_andNot (p q : Nat → Bool) (k : Nat) : IntKind.u64.wrap (((BitVec.ofInt 64 (partN p k : Int)) &&& ~~~(BitVec.ofInt 64 (partN q k : Int))).toNat : Int) = (partN (fun u => p u && !q u) k : Int) := by
  have e : ((BitVec.ofInt 64 (partN p k : Int)) &&& ~~~(BitVec.ofInt 64 (partN q k : Int))).toNat = partN (fun u => p u && !q u) k := by
    refine Nat.eq_of_testBit_eq fun b => ?_
    rw [BitVec.testBit_toNat, BitVec.getLsbD_and, BitVec.getLsbD_not, ← BitVec.testBit_toNat, ← BitVec.testBit_toNat, bv_nat _ (partN_lt p k), bv_nat _ (partN_lt q k)]
    by_cases hb : b < 64
    · rw [partN_bit _ _ _ hb, partN_bit _ _ _ hb, partN_bit _ _ _ hb]; simp [hb]
    · rw [partN_hi _ _ _ hb, partN_hi _ _ _ hb, partN_hi _ _ _ hb]; simp
  rw [e, wrap_nat _ (partN_lt _ k)]
/-- the set with the word u more -/
def putB (p : Nat → Bool) (u : Nat) : Nat → Bool := fun v => p v || decide (v = u)
/-- '1 << (u % 64)' -/
theorem part_one (u : Nat) : IntKind.u64.wrap (1 * 2 ^ (u % 64)) = (partN (fun v => decide (v = u)) (u / 64) : Int) := by
  have e : partN (fun v => decide (v = u)) (u / 64) = 2 ^ (u % 64) := by
    refine Nat.eq_of_testBit_eq fun b => ?_
    rw [Nat.testBit_two_pow]
    by_cases hb : b < 64
    · rw [partN_bit _ _ _ hb]
      have : (64 * (u / 64) + b = u) ↔ (u % 64 = b) := by omega
      simp only [this]
    · rw [partN_hi _ _ _ hb]; simp; omega
  rw [e, Int.one_mul]
  have h : (2 : Nat) ^ (u % 64) < 18446744073709551616 := by
    have h1 : (2 : Nat) ^ (u % 64) < 2 ^ 64 := Nat.pow_lt_pow_right (by omega) (by omega)
    simpa using h1
  have := wrap_nat _ h
  rw [← this]; push_cast; rfl
theorem part_put_same (p : Nat → Bool) (u : Nat) : (fun v => p v || decide (v = u)) = putB p u := rfl
theorem part_put_other (p : Nat → Bool) (u k : Nat) (h : k ≠ u / 64) : partN (putB p u) k = partN p k := partN_ext _ _ _ fun b hb => by
  have : 64 * k + b ≠ u := by omega
  simp [putB, this]
/-- the parts of a set -/
def partsL (p : Nat → Bool) : List Int := (List.range 16).map fun k => (partN p k : Int)
theorem partsL_len (p : Nat → Bool) : (partsL p).length = 16 := by simp [partsL]
theorem gi_partsL (p : Nat → Bool) (k : Nat) (h : k < 16) : gi (partsL p) k = partN p k := by simp [partsL, gi, h]
theorem partsL_ext {p q : Nat → Bool} (h : ∀ u, u < 1024 → p u = q u) : partsL p = partsL q := by
  unfold partsL
  apply List.map_congr_left
  intro k hk
  rw [List.mem_range] at hk
  rw [partN_ext p q k fun b hb => h _ (by omega)]
theorem partsL_inj {p q : Nat → Bool} (h : partsL p = partsL q) (u : Nat) (hu : u < 1024) : p u = q u := by
  have h1 : gi (partsL p) (u / 64) = gi (partsL q) (u / 64) := by rw [h]
  rw [gi_partsL _ _ (by omega), gi_partsL _ _ (by omega)] at h1
  have h2 := partN_inj (p := p) (q := q) (k := u / 64) (by omega) (u % 64) (by omega)
  have e : 64 * (u / 64) + u % 64 = u := by omega
  rwa [e] at h2

end Cv
end Go.Proofs.Ytcnnijeokefboab

namespace Go.Proofs.Ytcnnijeokefboab
open Go.RowKit Cv
set_option linter.unusedVariables false
set_option linter.unusedSimpArgs false
set_option maxRecDepth 100000

theorem bits_u (a b : Nat) (ha : a < 18446744073709551616) (hb : b < 18446744073709551616) : bits .and .u64 (a : Int) (b : Int) = ((a &&& b : Nat) : Int) := by
  have h : a &&& b ≤ a := Nat.and_le_left
  show IntKind.u64.wrap (((BitVec.ofInt 64 (a : Int) &&& BitVec.ofInt 64 (b : Int)).toNat : Nat) : Int) = _
  rw [BitVec.toNat_and, bv_nat a (by omega), bv_nat b (by omega), wrap_nat _ (by omega)]
theorem bits_127 (a : Nat) (ha : a < 9223372036854775808) : bits .and .i64 (a : Int) 127 = ((a % 128 : Nat) : Int) := by
  have e : a &&& 127 = a % 128 := Nat.and_two_pow_sub_one_eq_mod a 7
  show IntKind.i64.wrap (((BitVec.ofInt 64 (a : Int) &&& BitVec.ofInt 64 ((127 : Nat) : Int)).toNat : Nat) : Int) = _
  rw [BitVec.toNat_and, bv_nat a (by omega), bv_nat 127 (by omega), e, IntWalk.i64_in _ ⟨by omega, by omega⟩]

end Go.Proofs.Ytcnnijeokefboab

namespace Go.Proofs.Ytcnnijeokefboab
open Go.RowKit Cv
set_option linter.unusedVariables false
set_option linter.unusedSimpArgs false

theorem own_empty (w : World) (base : Nat) (h : base ≤ w.heap.size) {n : Nat} (hn : n = w.heap.size) : OwnInts (w.alloc (.cells #[] 2)) base (.slice (some ⟨n, 0, none⟩) 0 0) [] := by
  subst hn
  exact World.ownsRow_made w #[] 0 h (by simp [maxLen]) (by simp)

theorem wpList_append_int {w : World} {ops : Array Oper} {rest : List Oper} {o : Oper} {a : Act} {Q : Exit → Act → World → Prop} (hgd : o.guard = none) (s x : Operand)
    (ho : o.op = .call { callee := .builtin .append, args := #[s, x], argTypes := #[24, 24] })
    (base : Nat) (v : Value) (L : List Int) (hs : a.eval s = v) (hown : OwnInts w base v L) (b : Nat) (y : Int) (hx : a.eval x = .slice (some ⟨b, 0, none⟩) 1 1) (hc : w.cell? ⟨b, 0, none⟩ = some (.int .i64 y))
    (hlen : L.length ≤ 1073741824) (hbase : base ≤ w.heap.size)
    (h : ∀ v' w', OwnInts w' base v' (L ++ [y]) → w.grownBy w' v.ownBlock → wpList Try.prog ops Q rest (a.put o.dst v') w') : wpList Try.prog ops Q (o :: rest) a w := by
  obtain ⟨i0, hi, hz0, hz1, hz2⟩ := info_parts infoI64
  refine wpList_append_own w hgd s x 24 ho base 2 i0 (.int .i64 0) 1 8 Try.underlying24 hi hz0 hz1 hz2 rfl (by decide) v L.length (L.map (Value.int .i64)) hs hown ⟨b, 0, none⟩ 1 1 [.int .i64 y] hx rfl ?_ ?_ (by unfold maxLen; omega) (by omega) hbase ?_
  · intro j u hj
    match j, hj with
    | 0, hj => simp at hj; subst hj; simpa [Addr.add] using hc
  · intro u hu; simp at hu; subst hu; rfl
  · intro v' w' h1 h2 _
    refine h v' w' ?_ h2
    unfold OwnInts
    rw [List.length_append, List.map_append]
    exact h1

/-- what was there stays, behind an append -/
theorem grown_below {w w' : World} {v : Value} {base n : Nat} {w0 : World} {L : List Int} (B : Below n w0 w) (hn : n ≤ w.heap.size) (hg : w.grownBy w' v.ownBlock) (hown : OwnInts w base v L) (hb : n ≤ base) : Below n w0 w' :=
  B.grown hg hn fun k hk => by have := World.ownsRow.lt hown k hk; omega

end Go.Proofs.Ytcnnijeokefboab
