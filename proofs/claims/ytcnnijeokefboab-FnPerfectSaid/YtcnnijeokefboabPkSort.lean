/-
  slices.Sort on numbers that the call itself made. By an AI agent.
-/
import Derived.Test.YtcnnijeokefboabMath
import Derived.Test.YtcnnijeokefboabPk4
import Derived.Test.YtcnnijeokefboabPkPut
namespace Go.Proofs.Ytcnnijeokefboab
open Go.RowKit Cv
set_option linter.unusedVariables false
set_option linter.unusedSimpArgs false
set_option maxRecDepth 100000

end Go.Proofs.Ytcnnijeokefboab
