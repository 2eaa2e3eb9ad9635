/-
  The contract of the sum of two words by parts. By an AI agent.
-/
import Derived.Test.YtpmfedllbiblbaaGreatPkSums
namespace Go.Proofs.YtpmfedllbiblbaaGreat
open Go.RowKit Cv
set_option linter.unusedVariables false
set_option linter.unusedSimpArgs false
set_option maxRecDepth 100000

/-- the first numbers of a row of the call's own -/
theorem OwnInts.part {w : World} {base g n cap : Nat} {T D : List Int} (h : OwnInts w base (.slice (some ⟨g, 0, none⟩) n cap) T) (hl : D.length ≤ T.length) (hD : ∀ j, j < D.length → gi T j = gi D j) : Ints w (some ⟨g, 0, none⟩) D := by
  refine .inr ⟨g, 0, rfl, h.base_le.2, fun i hi => ?_⟩
  rw [Nat.zero_add, h.cell (k := i) (by omega), hD i hi]

end Go.Proofs.YtpmfedllbiblbaaGreat
