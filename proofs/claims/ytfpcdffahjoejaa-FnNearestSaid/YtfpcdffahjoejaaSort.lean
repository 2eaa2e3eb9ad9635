/-
  slices.Sort on numbers that the call itself made. By an AI agent.
-/
import Derived.Test.YtfpcdffahjoejaaMath
import Derived.Test.YtfpcdffahjoejaaAppend
import Derived.Test.YtfpcdffahjoejaaPut
namespace Go.Proofs.Ytfpcdffahjoejaa
open Go.RowKit Cv
set_option linter.unusedVariables false
set_option linter.unusedSimpArgs false
set_option maxRecDepth 100000

end Go.Proofs.Ytfpcdffahjoejaa
