/-
  The contract of the model of CodesInCommon. By an AI agent.
-/
import Derived.Test.YtgaelpcghljihaaTog3h
import Derived.Test.YtgaelpcghljihaaTog2
namespace Go.Proofs.Ytgaelpcghljihaa
open Go.RowKit Cv
set_option linter.unusedVariables false
set_option linter.unusedSimpArgs false
set_option maxRecDepth 100000

end Go.Proofs.Ytgaelpcghljihaa
