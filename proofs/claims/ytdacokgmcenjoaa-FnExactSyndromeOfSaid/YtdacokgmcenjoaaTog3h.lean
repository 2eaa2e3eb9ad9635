/-
  The model's search in a list. By an AI agent.
-/
import Derived.Test.YtdacokgmcenjoaaSpace
namespace Go.Proofs.Ytdacokgmcenjoaa
open Go.RowKit Cv
set_option linter.unusedVariables false
set_option linter.unusedSimpArgs false
set_option maxRecDepth 100000

end Go.Proofs.Ytdacokgmcenjoaa
