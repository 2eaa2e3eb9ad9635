/-
  The contract of math/bits.OnesCount64. By an AI agent.
-/
import Derived.Test.YtlhapanfegjafaaPop
import Derived.Test.YtlhapanfegjafaaHelp
import Derived.Test.YtlhapanfegjafaaBits
namespace Go.Proofs.Ytlhapanfegjafaa
open Go.RowKit Cv
set_option linter.unusedVariables false
set_option linter.unusedSimpArgs false
set_option maxRecDepth 100000

theorem bits_u (a b : Nat) (ha : a < 18446744073709551616) (hb : b < 18446744073709551616) : bits .and .u64 (a : Int) (b : Int) = ((a &&& b : Nat) : Int) := by
  have h : a &&& b ≤ a := Nat.and_le_left
  show IntKind.u64.wrap (((BitVec.ofInt 64 (a : Int) &&& BitVec.ofInt 64 (b : Int)).toNat : Nat) : Int) = _
  rw [BitVec.toNat_and, bv_nat a (by omega), bv_nat b (by omega), wrap_nat _ (by omega)]
theorem bits_127 (a : Nat) (ha : a < 9223372036854775808) : bits .and .i64 (a : Int) 127 = ((a % 128 : Nat) : Int) := by
  have e : a &&& 127 = a % 128 := Nat.and_two_pow_sub_one_eq_mod a 7
  show IntKind.i64.wrap (((BitVec.ofInt 64 (a : Int) &&& BitVec.ofInt 64 ((127 : Nat) : Int)).toNat : Nat) : Int) = _
  rw [BitVec.toNat_and, bv_nat a (by omega), bv_nat 127 (by omega), e, IntWalk.i64_in _ ⟨by omega, by omega⟩]

set_option maxHeartbeats 1000000 in
theorem ones_any (m : Nat) (hm : m < 18446744073709551616) (w : World) :
    Calls Try.prog 95 #[.int .u64 (m : Int)] w fun e w' => e = .returned (.int .i64 (bsum m 64)) ∧ w' = w := by
  obtain ⟨p1, h1⟩ : ∃ p1, p1 = m / 2 &&& 6148914691236517205 := ⟨_, rfl⟩
  obtain ⟨p2, h2⟩ : ∃ p2, p2 = m &&& 6148914691236517205 := ⟨_, rfl⟩
  obtain ⟨a1, h3⟩ : ∃ a1, a1 = p1 + p2 := ⟨_, rfl⟩
  obtain ⟨p3, h4⟩ : ∃ p3, p3 = a1 / 4 &&& 3689348814741910323 := ⟨_, rfl⟩
  obtain ⟨p4, h5⟩ : ∃ p4, p4 = a1 &&& 3689348814741910323 := ⟨_, rfl⟩
  obtain ⟨a2, h6⟩ : ∃ a2, a2 = p3 + p4 := ⟨_, rfl⟩
  obtain ⟨b3, h7⟩ : ∃ b3, b3 = a2 / 16 + a2 := ⟨_, rfl⟩
  obtain ⟨a3, h8⟩ : ∃ a3, a3 = b3 &&& 1085102592571150095 := ⟨_, rfl⟩
  obtain ⟨a4, h9⟩ : ∃ a4, a4 = a3 + a3 / 256 := ⟨_, rfl⟩
  obtain ⟨a5, h10⟩ : ∃ a5, a5 = a4 + a4 / 65536 := ⟨_, rfl⟩
  obtain ⟨a6, h11⟩ : ∃ a6, a6 = a5 + a5 / 4294967296 := ⟨_, rfl⟩
  obtain ⟨l1, l2, l3, l4⟩ := pop_64 m a1 a2 a3 a4 a5 a6 (by rw [h3, h1, h2]) (by rw [h6, h4, h5]) (by rw [h8, h7]) h9 h10 h11
  have q3 : p3 ≤ 3689348814741910323 := by rw [h4]; exact Nat.and_le_right
  have q4 : p4 ≤ 3689348814741910323 := by rw [h5]; exact Nat.and_le_right
  have F1 : bits .and .u64 ((m : Int) / 2) 6148914691236517205 = (p1 : Int) := by rw [h1]; exact bits_u (m / 2) 6148914691236517205 (by omega) (by omega)
  have F2 : bits .and .u64 (m : Int) 6148914691236517205 = (p2 : Int) := by rw [h2]; exact bits_u m 6148914691236517205 hm (by omega)
  have F3 : IntKind.u64.wrap ((p1 : Int) + (p2 : Int)) = (a1 : Int) := by rw [h3]; exact wrap_nat (p1 + p2) (by omega)
  have F4 : bits .and .u64 ((a1 : Int) / 4) 3689348814741910323 = (p3 : Int) := by rw [h4]; exact bits_u (a1 / 4) 3689348814741910323 (by omega) (by omega)
  have F5 : bits .and .u64 (a1 : Int) 3689348814741910323 = (p4 : Int) := by rw [h5]; exact bits_u a1 3689348814741910323 l1 (by omega)
  have F6 : IntKind.u64.wrap ((p3 : Int) + (p4 : Int)) = (a2 : Int) := by rw [h6]; exact wrap_nat (p3 + p4) (by omega)
  have F7 : IntKind.u64.wrap ((a2 : Int) / 16 + (a2 : Int)) = (b3 : Int) := by rw [h7]; exact wrap_nat (a2 / 16 + a2) l2
  have F8 : bits .and .u64 (b3 : Int) 1085102592571150095 = (a3 : Int) := by rw [h8]; exact bits_u b3 1085102592571150095 (by omega) (by omega)
  have F9 : IntKind.u64.wrap ((a3 : Int) + (a3 : Int) / 256) = (a4 : Int) := by rw [h9]; exact wrap_nat (a3 + a3 / 256) (by omega)
  have F10 : IntKind.u64.wrap ((a4 : Int) + (a4 : Int) / 65536) = (a5 : Int) := by rw [h10]; exact wrap_nat (a4 + a4 / 65536) (by omega)
  have F11 : IntKind.u64.wrap ((a5 : Int) + (a5 : Int) / 4294967296) = (a6 : Int) := by rw [h11]; exact wrap_nat (a5 + a5 / 4294967296) (by omega)
  have F12 : bits .and .i64 (a6 : Int) 127 = ((bsum m 64 : Nat) : Int) := by rw [← l4]; exact bits_127 a6 l3
  have F13 : IntKind.i64.wrap (a6 : Int) = (a6 : Int) := IntWalk.i64_in _ ⟨by omega, by omega⟩
  clear h1 h2 h3 h4 h5 h6 h7 h8 h9 h10 h11 l1 l2 l3 l4 q3 q4
  go_enter Try.func95, Try.ntmps95
  go_wp2
  go_ret
  exact ⟨rfl, rfl⟩

end Go.Proofs.Ytlhapanfegjafaa
