/-
  The contracts of ShiftCode. By an AI agent.
-/
import Derived.Test.YtdacokgmcenjoaaDoorSort
import Derived.Test.YtdacokgmcenjoaaDoorDel
import Derived.Test.YtdacokgmcenjoaaDoorPut
import Derived.Test.YtdacokgmcenjoaaDoorErr
import Derived.Test.YtdacokgmcenjoaaDoorSums
import Derived.Test.YtdacokgmcenjoaaDoorSums2
namespace Go.Proofs.YtdacokgmcenjoaaDoor
open Go.RowKit Cv
set_option linter.unusedVariables false
set_option linter.unusedSimpArgs false
set_option maxRecDepth 100000

end Go.Proofs.YtdacokgmcenjoaaDoor
