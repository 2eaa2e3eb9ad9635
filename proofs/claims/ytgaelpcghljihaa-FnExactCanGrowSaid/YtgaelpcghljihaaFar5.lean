/-
  The contracts of the program's radius, farthest word and distance to a code. By an AI agent.
-/
import Derived.Test.YtgaelpcghljihaaFar2
import Derived.Test.YtgaelpcghljihaaAllW
import Derived.Deep.RegionHeld3
namespace Go.Proofs.Ytgaelpcghljihaa
open Go.RowKit Cv
set_option linter.unusedVariables false
set_option linter.unusedSimpArgs false
set_option maxRecDepth 100000

end Go.Proofs.Ytgaelpcghljihaa
