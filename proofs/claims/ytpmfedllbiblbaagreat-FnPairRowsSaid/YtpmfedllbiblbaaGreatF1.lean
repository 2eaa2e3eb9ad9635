/-
  The contracts of the functions of the first chapter that check words and hand on. By an AI agent.
-/
import Derived.Test.YtpmfedllbiblbaaGreatSums2
import Derived.Test.YtpmfedllbiblbaaGreatMath
namespace Go.Proofs.YtpmfedllbiblbaaGreat
open Go.RowKit Cv
set_option linter.unusedVariables false
set_option linter.unusedSimpArgs false
set_option maxRecDepth 100000

theorem ret2 {a b c d : Int} (h1 : a = b) (h2 : c = d) : Ending.returned (.tuple #[.int .i64 a, .int .i64 c]) = .returned (.tuple #[.int .i64 b, .int .i64 d]) := by rw [h1, h2]
theorem own_nil (w : World) (base : Nat) : OwnInts w base (.slice none 0 0) [] := World.ownsRow_nil _ _ _ _

end Go.Proofs.YtpmfedllbiblbaaGreat
