/-
  The contracts of ShiftCode. By an AI agent.
-/
import Derived.Test.YtdacokgmcenjoaaSort
import Derived.Test.YtdacokgmcenjoaaDel
import Derived.Test.YtdacokgmcenjoaaPut
import Derived.Test.YtdacokgmcenjoaaErr
import Derived.Test.YtdacokgmcenjoaaSums
import Derived.Test.YtdacokgmcenjoaaSums2
namespace Go.Proofs.Ytdacokgmcenjoaa
open Go.RowKit Cv
set_option linter.unusedVariables false
set_option linter.unusedSimpArgs false
set_option maxRecDepth 100000

end Go.Proofs.Ytdacokgmcenjoaa
