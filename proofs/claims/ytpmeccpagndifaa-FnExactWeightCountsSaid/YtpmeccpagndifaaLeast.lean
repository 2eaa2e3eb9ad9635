/-
  The contracts of LeastDistance. By an AI agent.
-/
import Derived.Test.YtpmeccpagndifaaCode2
import Derived.Test.YtpmeccpagndifaaMath
import Derived.Test.YtpmeccpagndifaaSums
import Derived.Lib.MinMax
namespace Go.Proofs.Ytpmeccpagndifaa
open Go.RowKit Cv
set_option linter.unusedVariables false
set_option linter.unusedSimpArgs false
set_option maxRecDepth 100000

end Go.Proofs.Ytpmeccpagndifaa
