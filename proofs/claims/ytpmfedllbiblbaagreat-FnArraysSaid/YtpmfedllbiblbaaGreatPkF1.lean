/-
  The contracts of the functions of the first chapter that check words and hand on. By an AI agent.
-/
import Derived.Test.YtpmfedllbiblbaaGreatPkSums2
import Derived.Test.YtpmfedllbiblbaaGreatPkMath
namespace Go.Proofs.YtpmfedllbiblbaaGreat
open Go.RowKit Cv
set_option linter.unusedVariables false
set_option linter.unusedSimpArgs false
set_option maxRecDepth 100000

end Go.Proofs.YtpmfedllbiblbaaGreat
