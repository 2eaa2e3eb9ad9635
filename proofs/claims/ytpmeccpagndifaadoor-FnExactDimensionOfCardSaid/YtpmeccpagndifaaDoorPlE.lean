/-
  The contract of the program's plainError. By an AI agent.
-/
import Derived.Test.YtpmeccpagndifaaDoorMath25
import Derived.Test.YtpmeccpagndifaaDoorIsPl
import Derived.Test.YtpmeccpagndifaaDoorErr
import Derived.Test.YtpmeccpagndifaaDoorWords
import Derived.Deep.RegionHeld3
namespace Go.Proofs.YtpmeccpagndifaaDoor
open Go.RowKit Cv
set_option linter.unusedVariables false
set_option linter.unusedSimpArgs false
set_option maxRecDepth 100000

end Go.Proofs.YtpmeccpagndifaaDoor
