/-
  The contracts of WordOf, OppositeWord and ChangeDigit. By an AI agent.
-/
import Derived.Test.YtfgpenldeckoaaaF1
namespace Go.Proofs.Ytfgpenldeckoaaa
open Go.RowKit Cv
set_option linter.unusedVariables false
set_option linter.unusedSimpArgs false
set_option maxRecDepth 100000

theorem l01In_w (n low high : Int) (w : World) :
    Calls Try.prog 76 #[.int .i64 n, .int .i64 low, .int .i64 high] w fun e w' => e = .returned (.bool (inB n low high)) ∧ w' = w :=
  (l01In_any n low high w).mono fun _ _ ⟨a, b⟩ => ⟨a, b.symm⟩

end Go.Proofs.Ytfgpenldeckoaaa
