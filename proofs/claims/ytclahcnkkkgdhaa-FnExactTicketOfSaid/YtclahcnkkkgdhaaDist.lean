/-
  The contracts of distances and sums of words. By an AI agent.
-/
import Derived.Test.YtclahcnkkkgdhaaDigits
namespace Go.Proofs.Ytclahcnkkkgdhaa
open Go.RowKit Cv
set_option linter.unusedVariables false
set_option linter.unusedSimpArgs false
set_option maxRecDepth 100000

end Go.Proofs.Ytclahcnkkkgdhaa
