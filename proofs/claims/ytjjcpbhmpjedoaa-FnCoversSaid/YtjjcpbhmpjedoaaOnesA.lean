/-
  The contract of math/bits.OnesCount64. By an AI agent.
-/
import Derived.Test.YtjjcpbhmpjedoaaPop
import Derived.Test.YtjjcpbhmpjedoaaHelp
import Derived.Test.YtjjcpbhmpjedoaaBits
namespace Go.Proofs.Ytjjcpbhmpjedoaa
open Go.RowKit Cv
set_option linter.unusedVariables false
set_option linter.unusedSimpArgs false
set_option maxRecDepth 100000

theorem bits_u (a b : Nat) (ha : a < 18446744073709551616) (hb : b < 18446744073709551616) : bits .and .u64 (a : Int) (b : Int) = ((a &&& b : Nat) : Int) := by
  have h : a &&& b ≤ a := Nat.and_le_left
  show IntKind.u64.wrap (((BitVec.ofInt 64 (a : Int) &&& BitVec.ofInt 64 (b : Int)).toNat : Nat) : Int) = _
  rw [BitVec.toNat_and, bv_nat a (by omega), bv_nat b (by omega), wrap_nat _ (by omega)]
theorem bits_127 (a : Nat) (ha : a < 9223372036854775808) : bits .and .i64 (a : Int) 127 = ((a % 128 : Nat) : Int) := by
  have e : a &&& 127 = a % 128 := Nat.and_two_pow_sub_one_eq_mod a 7
  show IntKind.i64.wrap (((BitVec.ofInt 64 (a : Int) &&& BitVec.ofInt 64 ((127 : Nat) : Int)).toNat : Nat) : Int) = _
  rw [BitVec.toNat_and, bv_nat a (by omega), bv_nat 127 (by omega), e, IntWalk.i64_in _ ⟨by omega, by omega⟩]

end Go.Proofs.Ytjjcpbhmpjedoaa
