/-
  The contracts of ShiftCode. By an AI agent.
-/
import Derived.Test.YtpmeccpagndifaaDoorSort
import Derived.Test.YtpmeccpagndifaaDoorDel
import Derived.Test.YtpmeccpagndifaaDoorPut
import Derived.Test.YtpmeccpagndifaaDoorErr
import Derived.Test.YtpmeccpagndifaaDoorSums
import Derived.Test.YtpmeccpagndifaaDoorSums2
namespace Go.Proofs.YtpmeccpagndifaaDoor
open Go.RowKit Cv
set_option linter.unusedVariables false
set_option linter.unusedSimpArgs false
set_option maxRecDepth 100000

end Go.Proofs.YtpmeccpagndifaaDoor
