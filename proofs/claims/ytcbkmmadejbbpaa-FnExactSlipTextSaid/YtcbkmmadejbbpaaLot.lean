/-
  The contracts of what says whether there is a lottery, and of its copy in the laws. By an AI agent.
-/
import Derived.Test.YtcbkmmadejbbpaaMathL
import Derived.Test.YtcbkmmadejbbpaaSpace
namespace Go.Proofs.Ytcbkmmadejbbpaa
open Go.RowKit Cv
set_option linter.unusedVariables false
set_option linter.unusedSimpArgs false
set_option maxRecDepth 100000

/-- the parts of a lottery in the block b -/
structure LotAt (w : World) (b : Nat) (v p d h : Int) : Prop where
  c0 : w.cell? ⟨b, 0, none⟩ = some (.int .i64 v)
  c1 : w.cell? ⟨b, 1, none⟩ = some (.int .i64 p)
  c2 : w.cell? ⟨b, 2, none⟩ = some (.int .i64 d)
  c3 : w.cell? ⟨b, 3, none⟩ = some (.int .i64 h)
  lt : b < w.heap.size
theorem LotAt.below {w w' : World} {b : Nat} {v p d h : Int} (l : LotAt w b v p d h) (hb : Below w.heap.size w w') : LotAt w' b v p d h :=
  ⟨kept_cell hb l.c0 l.lt, kept_cell hb l.c1 l.lt, kept_cell hb l.c2 l.lt, kept_cell hb l.c3 l.lt, lt_of_below hb l.lt⟩
theorem LotAt.belowB {B : Nat} {w w' : World} {b : Nat} {v p d h : Int} (l : LotAt w b v p d h) (hb : Below B w w') (hlt : b < B) : LotAt w' b v p d h :=
  ⟨kept_cell hb l.c0 hlt, kept_cell hb l.c1 hlt, kept_cell hb l.c2 hlt, kept_cell hb l.c3 hlt, lt_of_below hb l.lt⟩
theorem lotAt_new (w : World) (v p d h : Int) (t : TypeId) : LotAt (w.alloc (.cells #[.int .i64 v, .int .i64 p, .int .i64 d, .int .i64 h] t)) w.heap.size v p d h :=
  ⟨by simp, by simp, by simp, by simp, lt_alloc _ _⟩

theorem lot_inv {v p d h : Int} (g : lotB v p d h = false) : eLot v p d h = 1 := by unfold eLot; rw [g]; rfl
theorem lot_val {v p d h : Int} (g : lotB v p d h = true) : eLot v p d h = 0 := by unfold eLot; rw [if_pos g]

end Go.Proofs.Ytcbkmmadejbbpaa
