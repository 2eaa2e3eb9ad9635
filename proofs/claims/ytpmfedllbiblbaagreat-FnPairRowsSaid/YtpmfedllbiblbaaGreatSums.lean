/-
  The contracts of distances and sums by parts. By an AI agent.
-/
import Derived.Test.YtpmfedllbiblbaaGreatParts
import Derived.StillTailTactics
import Derived.BigRegion
namespace Go.Proofs.YtpmfedllbiblbaaGreat
open Go.RowKit Cv
set_option linter.unusedVariables false
set_option linter.unusedSimpArgs false
set_option maxRecDepth 100000

theorem gi_pair0 (a b : Int) : gi [a, b] 0 = a := rfl
theorem gi_pair1 (a b : Int) : gi [a, b] 1 = b := rfl

theorem ints_set_other {w : World} {ao : Option Addr} {S : List Int} {a : Addr} {u : Value} (h : Ints w ao S) (hne : ∀ b o, ao = some ⟨b, o, none⟩ → b ≠ a.block) : Ints (w.setCell a u) ao S := by
  rcases h with h | ⟨b, o, rfl, hlt, hc⟩
  · exact .inl h
  · exact .inr ⟨b, o, rfl, by simpa using hlt, fun i hi => cell_set_other (hc i hi) (hne b o rfl)⟩

/-- part k holds the digits of word k -/
theorem PartsAt.ints {w : World} {base P g : Nat} {S T U : List Int} (h : PartsAt w base P g S T U) {k : Nat} (hk : k < T.length) : Ints w (some ⟨g, k * S.length, none⟩) (digs S (gi T k)) := by
  refine .inr ⟨g, _, rfl, h.own.base_le.2, fun i hi => ?_⟩
  rw [digs_length] at hi
  have hkk : (k + 1) * S.length ≤ T.length * S.length := Nat.mul_le_mul_right _ hk
  rw [Nat.add_mul, Nat.one_mul] at hkk
  have := h.own.cell (k := k * S.length + i) (by rw [h.len]; omega)
  rw [this, h.dg k i hk hi, gi_digs _ _ _ hi]

end Go.Proofs.YtpmfedllbiblbaaGreat
