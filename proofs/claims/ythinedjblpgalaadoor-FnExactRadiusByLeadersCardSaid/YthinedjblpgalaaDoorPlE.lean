/-
  The contract of the program's plainError. By an AI agent.
-/
import Derived.Test.YthinedjblpgalaaDoorMath25
import Derived.Test.YthinedjblpgalaaDoorIsPl
import Derived.Test.YthinedjblpgalaaDoorErr
import Derived.Test.YthinedjblpgalaaDoorWords
import Derived.Deep.RegionHeld3
namespace Go.Proofs.YthinedjblpgalaaDoor
open Go.RowKit Cv
set_option linter.unusedVariables false
set_option linter.unusedSimpArgs false
set_option maxRecDepth 100000

end Go.Proofs.YthinedjblpgalaaDoor
