/-
  The members of a set of signs. By an AI agent.
-/
import Derived.Test.YtcbkmmadejbbpaaLen8
import Derived.Test.YtcbkmmadejbbpaaMathU
namespace Go.Proofs.Ytcbkmmadejbbpaa
open Go.RowKit Cv
set_option linter.unusedVariables false
set_option linter.unusedSimpArgs false

theorem memL_sg : ∀ m : Nat, m < 16 → memL m = sgL (m : Int) := by decide
theorem membersS_any (t : Int) (h0 : 0 ≤ t) (h1 : t < 16) (w : World) :
    Calls Try.prog 92 #[.int .i64 t] w fun e w' => ∃ v, e = .returned v ∧ OwnInts w' w.heap.size v (sgL t) ∧ Below w.heap.size w w' := by
  obtain ⟨m, rfl⟩ : ∃ m : Nat, t = (m : Int) := ⟨t.toNat, by omega⟩
  rw [← memL_sg m (by omega)]
  exact membersOf_any m (by omega) w

end Go.Proofs.Ytcbkmmadejbbpaa
