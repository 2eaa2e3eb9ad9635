/-
  The contracts of LeastDistance. By an AI agent.
-/
import Derived.Test.YtfgpenldeckoaaaCode2
import Derived.Test.YtfgpenldeckoaaaMath
import Derived.Test.YtfgpenldeckoaaaSums
import Derived.Lib.MinMax
namespace Go.Proofs.Ytfgpenldeckoaaa
open Go.RowKit Cv
set_option linter.unusedVariables false
set_option linter.unusedSimpArgs false
set_option maxRecDepth 100000

end Go.Proofs.Ytfgpenldeckoaaa
