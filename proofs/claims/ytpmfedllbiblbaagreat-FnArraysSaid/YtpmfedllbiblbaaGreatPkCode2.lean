/-
  The contracts of codes: the model's test, and IsCode. By an AI agent.
-/
import Derived.Test.YtpmfedllbiblbaaGreatPkCode
import Derived.Test.YtpmfedllbiblbaaGreatPkFam
namespace Go.Proofs.YtpmfedllbiblbaaGreat
open Go.RowKit Cv
set_option linter.unusedVariables false
set_option linter.unusedSimpArgs false
set_option maxRecDepth 100000

theorem ret_bi {a b : Bool} {c d : Int} (h1 : a = b) (h2 : c = d) : Ending.returned (.tuple #[.bool a, .int .i64 c]) = .returned (.tuple #[.bool b, .int .i64 d]) := by rw [h1, h2]

end Go.Proofs.YtpmfedllbiblbaaGreat
