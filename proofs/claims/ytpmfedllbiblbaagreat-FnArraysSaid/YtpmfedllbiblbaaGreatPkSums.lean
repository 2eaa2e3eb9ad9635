/-
  The contracts of distances and sums by parts. By an AI agent.
-/
import Derived.Test.YtpmfedllbiblbaaGreatPkParts
import Derived.StillTailTactics
import Derived.BigRegion
namespace Go.Proofs.YtpmfedllbiblbaaGreat
open Go.RowKit Cv
set_option linter.unusedVariables false
set_option linter.unusedSimpArgs false
set_option maxRecDepth 100000

/-- part k holds the digits of word k -/
theorem PartsAt.ints {w : World} {base P g : Nat} {S T U : List Int} (h : PartsAt w base P g S T U) {k : Nat} (hk : k < T.length) : Ints w (some ⟨g, k * S.length, none⟩) (digs S (gi T k)) := by
  refine .inr ⟨g, _, rfl, h.own.base_le.2, fun i hi => ?_⟩
  rw [digs_length] at hi
  have hkk : (k + 1) * S.length ≤ T.length * S.length := Nat.mul_le_mul_right _ hk
  rw [Nat.add_mul, Nat.one_mul] at hkk
  have := h.own.cell (k := k * S.length + i) (by rw [h.len]; omega)
  rw [this, h.dg k i hk hi, gi_digs _ _ _ hi]

end Go.Proofs.YtpmfedllbiblbaaGreat
