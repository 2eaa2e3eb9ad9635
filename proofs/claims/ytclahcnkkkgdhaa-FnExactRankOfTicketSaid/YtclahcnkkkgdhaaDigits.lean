/-
  The contracts of words and their digits. By an AI agent.
-/
import Derived.Test.YtclahcnkkkgdhaaWords
namespace Go.Proofs.Ytclahcnkkkgdhaa
open Go.RowKit Cv
set_option linter.unusedVariables false
set_option linter.unusedSimpArgs false

/-- digits of a space's places -/
def Dg (S D : List Int) : Prop := D.length = S.length ∧ ∀ i, i < S.length → 0 ≤ gi D i ∧ gi D i < gi S i

end Go.Proofs.Ytclahcnkkkgdhaa
