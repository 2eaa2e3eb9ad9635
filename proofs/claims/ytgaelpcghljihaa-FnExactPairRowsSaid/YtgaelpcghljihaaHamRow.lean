/-
  Rows of one cell: what a step leaves, and what a store makes. By an AI agent.
-/
import Derived.Test.YtgaelpcghljihaaDigits
import Derived.Test.YtgaelpcghljihaaAppend
import Derived.Test.YtgaelpcghljihaaAppendAt
import Derived.BigQuiet
namespace Go.Proofs.Ytgaelpcghljihaa
open Go.RowKit Cv
set_option linter.unusedVariables false
set_option linter.unusedSimpArgs false
set_option maxRecDepth 100000

theorem row_grow3 {w w1 w2 : World} {b : Nat} {r : Option Nat} {o : Obj} (h : w.heap[b]? = some o) (h1 : w.grownBy w1 r) (h2 : w1.grownBy w2 r) (hn : some b ≠ r) : w2.heap[b]? = some o := by
  have l1 := (Array.getElem?_eq_some_iff.1 h).1
  have l2 : b < w1.heap.size := Nat.lt_of_lt_of_le l1 h1.size
  rw [h2.block b l2 hn, h1.block b l1 hn]; exact h

theorem own_shp {w : World} {base : Nat} {v : Value} {L : List Int} (h : OwnInts w base v L) : ∃ a c, v = .slice a L.length c := by
  obtain ⟨x, y, z, _⟩ := h.ints; exact ⟨x, y, z⟩
theorem cell_of1 {w : World} {b : Nat} {v : Value} {t : TypeId} (h : w.heap[b]? = some (.cells #[v] t (0, 0))) : w.cell? ⟨b, 0, none⟩ = some v := by
  rw [cell_of_row w b 0 _ _ _ h]; rfl
theorem row_store1 {w : World} {b : Nat} {v : Value} {t : TypeId} (u : Value) (h : w.heap[b]? = some (.cells #[v] t (0, 0))) : (w.setCell ⟨b, 0, none⟩ u).heap[b]? = some (.cells #[u] t (0, 0)) := by
  rw [setCell_eq_setRow w b 0 _ _ _ u h]
  exact setRow_heap w b _ _ _ _ h


end Go.Proofs.Ytgaelpcghljihaa
