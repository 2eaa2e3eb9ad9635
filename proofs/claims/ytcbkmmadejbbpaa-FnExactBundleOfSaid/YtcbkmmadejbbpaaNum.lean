/-
  The contracts of what tells the errors of chapter 4. By an AI agent.
-/
import Derived.Test.YtcbkmmadejbbpaaMath
import Derived.Test.YtcbkmmadejbbpaaErr2
namespace Go.Proofs.Ytcbkmmadejbbpaa
open Go.RowKit Cv
set_option linter.unusedVariables false
set_option linter.unusedSimpArgs false
set_option maxRecDepth 100000

end Go.Proofs.Ytcbkmmadejbbpaa
