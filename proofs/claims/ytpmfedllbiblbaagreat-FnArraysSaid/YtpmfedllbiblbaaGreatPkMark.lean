/-
  Marks: which rows a call may have written, and what stays. By an AI agent.
-/
import Derived.Test.YtpmfedllbiblbaaGreatPkHelp
namespace Go.Proofs.YtpmfedllbiblbaaGreat
open Go.RowKit Cv
set_option linter.unusedVariables false
set_option linter.unusedSimpArgs false

/-- the row of a value lies between two numbers -/
def RowIn (v : Value) (lo hi : Nat) : Prop := ∀ k, v.ownBlock = some k → lo ≤ k ∧ k < hi

theorem RowIn.mono {v : Value} {lo hi lo' : Nat} (h : RowIn v lo hi) (hl : lo' ≤ lo) : RowIn v lo' hi := fun k hk => by have := h k hk; omega
theorem OwnInts.shape {w : World} {base : Nat} {v : Value} {T : List Int} (h : OwnInts w base v T) : ∃ ao cap, v = .slice ao T.length cap := by
  obtain ⟨ao, cap, hv, _⟩ := h.ints
  exact ⟨ao, cap, hv⟩
end Go.Proofs.YtpmfedllbiblbaaGreat
