/-
  Marks: which rows a call may have written, and what stays. By an AI agent.
-/
import Derived.Test.YtpmfedllbiblbaaGreatHelp
namespace Go.Proofs.YtpmfedllbiblbaaGreat
open Go.RowKit Cv
set_option linter.unusedVariables false
set_option linter.unusedSimpArgs false

/-- the row of a value lies between two numbers -/
def RowIn (v : Value) (lo hi : Nat) : Prop := ∀ k, v.ownBlock = some k → lo ≤ k ∧ k < hi

theorem OwnInts.rowIn {w : World} {base : Nat} {v : Value} {T : List Int} (h : OwnInts w base v T) : RowIn v base w.heap.size := World.ownsRow.lt h
theorem RowIn.mono {v : Value} {lo hi lo' : Nat} (h : RowIn v lo hi) (hl : lo' ≤ lo) : RowIn v lo' hi := fun k hk => by have := h k hk; omega
theorem OwnInts.shape {w : World} {base : Nat} {v : Value} {T : List Int} (h : OwnInts w base v T) : ∃ ao cap, v = .slice ao T.length cap := by
  obtain ⟨ao, cap, hv, _⟩ := h.ints
  exact ⟨ao, cap, hv⟩
theorem row_ne_box {v : Value} {lo hi b : Nat} (R : RowIn v lo hi) (h : b < lo ∨ hi ≤ b) : some b ≠ v.ownBlock := fun e => by
  have := R b e.symm; omega
theorem row_ne_row {v v' : Value} {lo hi lo' hi' : Nat} (R : RowIn v lo hi) (R' : RowIn v' lo' hi') (h : hi ≤ lo' ∨ hi' ≤ lo) : v.ownBlock = none ∨ v.ownBlock ≠ v'.ownBlock := by
  cases hv : v.ownBlock with
  | none => exact .inl rfl
  | some k =>
    refine .inr fun e => ?_
    have h1 := R k hv
    have h2 := R' k e.symm
    omega
theorem below_mark {n lo hi : Nat} {w0 w w' : World} {v : Value} (B : Below n w0 w) (hn : n ≤ w.heap.size) (hg : w.grownBy w' v.ownBlock) (R : RowIn v lo hi) (hlo : n ≤ lo) : Below n w0 w' :=
  B.grown hg hn fun k hk => by have := R k hk; omega

end Go.Proofs.YtpmfedllbiblbaaGreat
