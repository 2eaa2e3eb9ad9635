/-
  The contracts of what tells the errors of chapter 2. By an AI agent.
-/
import Derived.Test.YthfddfhjcadomaaMath
import Derived.Test.YthfddfhjcadomaaCode2
import Derived.Test.YthfddfhjcadomaaAppend
import Derived.Deep.RegionHeld3
namespace Go.Proofs.Ythfddfhjcadomaa
open Go.RowKit Cv
set_option linter.unusedVariables false
set_option linter.unusedSimpArgs false
set_option maxRecDepth 100000

end Go.Proofs.Ythfddfhjcadomaa
