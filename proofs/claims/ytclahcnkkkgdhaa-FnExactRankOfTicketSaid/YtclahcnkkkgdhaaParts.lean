/-
  The contract of the digits of some words, as parts of one list. By an AI agent.
-/
import Derived.Test.YtclahcnkkkgdhaaDist
namespace Go.Proofs.Ytclahcnkkkgdhaa
open Go.RowKit Cv
set_option linter.unusedVariables false
set_option linter.unusedSimpArgs false

theorem infoSl : (Try.prog.info? 30).map (fun i => (i.zero, i.size, i.bytes)) = some (some (.slice none 0 0), 1, 24) := by kernel_rfl

/-- the parts of a list: their rows, and the digits of the words in them -/
structure PartsAt (w : World) (base P g : Nat) (S T U : List Int) : Prop where
  len : U.length = T.length * S.length
  dg : ∀ k j, k < T.length → j < S.length → gi U (k * S.length + j) = dig S (gi T k) j
  own : OwnInts w base (.slice (some ⟨g, 0, none⟩) U.length U.length) U
  row : ∀ k, k < T.length → w.cell? ⟨P, k, none⟩ = some (.slice (some ⟨g, k * S.length, none⟩) S.length S.length)
  bp : base ≤ P
  pl : P < w.heap.size
  ne : P ≠ g

end Go.Proofs.Ytclahcnkkkgdhaa
