/-
  The contracts of LeastDistance. By an AI agent.
-/
import Derived.Test.YtgaelpcghljihaaCode2
import Derived.Test.YtgaelpcghljihaaMath
import Derived.Test.YtgaelpcghljihaaSums
import Derived.Lib.MinMax
namespace Go.Proofs.Ytgaelpcghljihaa
open Go.RowKit Cv
set_option linter.unusedVariables false
set_option linter.unusedSimpArgs false
set_option maxRecDepth 100000

end Go.Proofs.Ytgaelpcghljihaa
