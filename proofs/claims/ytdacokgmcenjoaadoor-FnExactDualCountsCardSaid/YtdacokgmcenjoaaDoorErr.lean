/-
  The contracts of what tells the errors of chapter 2. By an AI agent.
-/
import Derived.Test.YtdacokgmcenjoaaDoorMath
import Derived.Test.YtdacokgmcenjoaaDoorCode2
import Derived.Test.YtdacokgmcenjoaaDoorAppend
import Derived.Deep.RegionHeld3
namespace Go.Proofs.YtdacokgmcenjoaaDoor
open Go.RowKit Cv
set_option linter.unusedVariables false
set_option linter.unusedSimpArgs false
set_option maxRecDepth 100000

end Go.Proofs.YtdacokgmcenjoaaDoor
