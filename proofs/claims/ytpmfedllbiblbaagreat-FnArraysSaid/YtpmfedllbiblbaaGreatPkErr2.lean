/-
  The contracts of what tells the errors of chapter 2, the rest. By an AI agent.
-/
import Derived.Test.YtpmfedllbiblbaaGreatPkErr
namespace Go.Proofs.YtpmfedllbiblbaaGreat
open Go.RowKit Cv
set_option linter.unusedVariables false
set_option linter.unusedSimpArgs false
set_option maxRecDepth 100000

end Go.Proofs.YtpmfedllbiblbaaGreat
