/-
  The closure over the words of a ball: what it yields. By an AI agent.
-/
import Derived.Test.YtodbdcanhefcaaaWalk
import Derived.Test.YtodbdcanhefcaaaWW
namespace Go.Proofs.Ytodbdcanhefcaaa
open Go.RowKit Go.Shelf Cv
set_option linter.unusedVariables false
set_option linter.unusedSimpArgs false
set_option maxRecDepth 100000

attribute [local go_sem] Oper.semAt_some

end Go.Proofs.Ytodbdcanhefcaaa
