/-
  The contracts of sets of numbers: how many they have, whether they are sets of a lottery, how many there are, and all of them. By an AI agent.
-/
import Derived.Test.YtcbkmmadejbbpaaLot
import Derived.Test.YtcbkmmadejbbpaaOnesA
import Derived.Test.YtcbkmmadejbbpaaAppend
namespace Go.Proofs.Ytcbkmmadejbbpaa
open Go.RowKit Cv
set_option linter.unusedVariables false
set_option linter.unusedSimpArgs false
set_option maxRecDepth 100000

theorem ret_ii {a b c d : Int} (h1 : a = b) (h2 : c = d) : Ending.returned (.tuple #[.int .i64 a, .int .i64 c]) = .returned (.tuple #[.int .i64 b, .int .i64 d]) := by rw [h1, h2]
theorem ret_bi {a b : Bool} {c d : Int} (h1 : a = b) (h2 : c = d) : Ending.returned (.tuple #[.bool a, .int .i64 c]) = .returned (.tuple #[.bool b, .int .i64 d]) := by rw [h1, h2]

theorem shl_tw {v : Int} (h : 1 ≤ v ∧ v ≤ 12) : IntKind.i64.wrap (1 * 2 ^ v.toNat) = tw v ∧ IntKind.i64.wrap (2 ^ v.toNat) = tw v := by
  rcases (show v = 1 ∨ v = 2 ∨ v = 3 ∨ v = 4 ∨ v = 5 ∨ v = 6 ∨ v = 7 ∨ v = 8 ∨ v = 9 ∨ v = 10 ∨ v = 11 ∨ v = 12 by omega) with rfl | rfl | rfl | rfl | rfl | rfl | rfl | rfl | rfl | rfl | rfl | rfl <;> exact ⟨by decide, by decide⟩
theorem shl_tw2 {v : Int} (h : 1 ≤ v ∧ v ≤ 12) : IntKind.u64.wrap v = v ∧ IntKind.i64.wrap (2 ^ min v.toNat 64) = tw v ∧ IntKind.i64.wrap (tw v - 1) = tw v - 1 ∧ wrap64 (2 ^ v.toNat) = tw v ∧ wrap64 (tw v - 1) = tw v - 1 := by
  rcases (show v = 1 ∨ v = 2 ∨ v = 3 ∨ v = 4 ∨ v = 5 ∨ v = 6 ∨ v = 7 ∨ v = 8 ∨ v = 9 ∨ v = 10 ∨ v = 11 ∨ v = 12 by omega) with rfl | rfl | rfl | rfl | rfl | rfl | rfl | rfl | rfl | rfl | rfl | rfl <;> exact ⟨by decide, by decide, by decide, by unfold wrap64; decide, by unfold wrap64; decide⟩
theorem bits_andN {a b : Nat} (ha : a < 9223372036854775808) (hb : b < 9223372036854775808) : bits .and .i64 (a : Int) (b : Int) = ((a &&& b : Nat) : Int) := by
  have h : a &&& b ≤ a := Nat.and_le_left
  show IntKind.i64.wrap (((BitVec.ofInt 64 (a : Int) &&& BitVec.ofInt 64 (b : Int)).toNat : Nat) : Int) = _
  rw [BitVec.toNat_and, bv_nat a (by omega), bv_nat b (by omega), IntWalk.i64_in _ ⟨by omega, by omega⟩]

end Go.Proofs.Ytcbkmmadejbbpaa
