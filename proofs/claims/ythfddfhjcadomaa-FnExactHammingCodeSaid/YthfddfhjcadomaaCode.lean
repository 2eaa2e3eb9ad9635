/-
  The contracts of codes: whether a list is one, and the words that are not in one. By an AI agent.
-/
import Derived.Test.YthfddfhjcadomaaF1
import Derived.Test.YthfddfhjcadomaaMath
namespace Go.Proofs.Ythfddfhjcadomaa
open Go.RowKit Cv
set_option linter.unusedVariables false
set_option linter.unusedSimpArgs false
set_option maxRecDepth 100000

end Go.Proofs.Ythfddfhjcadomaa
