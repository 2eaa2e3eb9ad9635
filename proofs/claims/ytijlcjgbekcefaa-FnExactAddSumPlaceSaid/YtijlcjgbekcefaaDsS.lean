/-
  The contract of the model of DirectSum, way by way. By an AI agent.
-/
import Derived.Test.YtijlcjgbekcefaaPlus
import Derived.Test.YtijlcjgbekcefaaMark
import Derived.Test.YtijlcjgbekcefaaCode2
namespace Go.Proofs.Ytijlcjgbekcefaa
open Go.RowKit Cv
set_option linter.unusedVariables false
set_option linter.unusedSimpArgs false
set_option maxRecDepth 100000

theorem results_cell_tmp2 {fn : Func} {p u1 u2 : Tmp} {ty : TypeId} (h : fn.results = #[.cell p ty, .tmp u1, .tmp u2]) (tmps : Array Value) (P : Program) (w : World) :
    (results fn tmps).run P w =
      ((asAddr (tmps.getD p undef)).run P w).andThen fun a w₁ => ((loadVar ty a).run P w₁).andThen fun v w₂ => .ok (.tuple #[v, tmps.getD u1 undef, tmps.getD u2 undef]) w₂ := by
  simp only [results, h]
  simp [Sem.run_bind, Result.andThen]

end Go.Proofs.Ytijlcjgbekcefaa
