/-
  The contracts of the errors of a space and numbers. By an AI agent.
-/
import Derived.Test.YtclahcnkkkgdhaaSpace
import Derived.Deep.RegionHeld3
namespace Go.Proofs.Ytclahcnkkkgdhaa
open Go.RowKit Cv
set_option linter.unusedVariables false
set_option linter.unusedSimpArgs false
set_option maxRecDepth 100000

theorem nW_prod (S : List Int) : prodTo S S.length = nW S := rfl

end Go.Proofs.Ytclahcnkkkgdhaa
