/-
  The contract of the program's plainError. By an AI agent.
-/
import Derived.Test.YtdacokgmcenjoaaDoorMathB
import Derived.Test.YtdacokgmcenjoaaDoorIsPl
import Derived.Test.YtdacokgmcenjoaaDoorErr
import Derived.Test.YtdacokgmcenjoaaDoorWords
import Derived.Deep.RegionHeld3
namespace Go.Proofs.YtdacokgmcenjoaaDoor
open Go.RowKit Cv
set_option linter.unusedVariables false
set_option linter.unusedSimpArgs false
set_option maxRecDepth 100000

end Go.Proofs.YtdacokgmcenjoaaDoor
