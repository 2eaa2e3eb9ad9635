/-
  The contracts of the laws' helpers: sizes counted, lists and spaces copied and compared. By an AI agent.
-/
import Derived.Test.YtamebfbddoeflaaPkMem
namespace Go.Proofs.Ytamebfbddoeflaa
open Go.RowKit Cv
set_option linter.unusedVariables false
set_option linter.unusedSimpArgs false

theorem ret_int {k : IntKind} {a b : Int} (h : a = b) : Ending.returned (.int k a) = .returned (.int k b) := by rw [h]

/-- what szInt64S gives -/
def szOf (n : Nat) (left : Int) : Int := if left - n < 0 then -1 else left - n

end Go.Proofs.Ytamebfbddoeflaa
