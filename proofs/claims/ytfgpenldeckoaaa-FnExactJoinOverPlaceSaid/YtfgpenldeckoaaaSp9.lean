/-
  What the walks of chapter 9 say of results that are spaces. By an AI agent.
-/
import Derived.Test.YtfgpenldeckoaaaMathB
import Derived.Test.YtfgpenldeckoaaaSpace
import Derived.Test.YtfgpenldeckoaaaMark
import Derived.Test.YtfgpenldeckoaaaF1
import Derived.Laws.ResultCell
import Derived.Deep.WholeRow
namespace Go.Proofs.Ytfgpenldeckoaaa
open Go.RowKit Cv
set_option linter.unusedVariables false
set_option linter.unusedSimpArgs false
set_option maxRecDepth 100000

theorem results_sp9 {fn : Func} {p u1 u2 : Tmp} {ty : TypeId} (h : fn.results = #[.cell p ty, .tmp u1, .tmp u2]) (tmps : Array Value) (P : Program) (w : World) :
    (results fn tmps).run P w =
      ((asAddr (tmps.getD p undef)).run P w).andThen fun a w₁ => ((loadVar ty a).run P w₁).andThen fun v w₂ => .ok (.tuple #[v, tmps.getD u1 undef, tmps.getD u2 undef]) w₂ := by
  simp only [results, h]
  simp [Sem.run_bind, Result.andThen]
theorem box2_9 (w : World) (a c : Value) (t : TypeId) : ∃ W, W = (w.alloc (.cells #[a] t)).alloc (.cells #[c] t) ∧ W.cell? ⟨w.heap.size, 0, none⟩ = some a ∧ W.heap[w.heap.size + 1]? = some (.cells #[c] t (0, 0)) ∧ W.heap.size = w.heap.size + 2 ∧ Below w.heap.size w W := by
  have s1 : (w.alloc (.cells #[a] t)).heap.size = w.heap.size + 1 := World.size_alloc _ _
  have s2 : ((w.alloc (.cells #[a] t)).alloc (.cells #[c] t)).heap.size = w.heap.size + 2 := by rw [World.size_alloc, s1]
  have b1 : Below (w.alloc (.cells #[a] t)).heap.size (w.alloc (.cells #[a] t)) ((w.alloc (.cells #[a] t)).alloc (.cells #[c] t)) := (Below.refl _ _).alloc (Nat.le_refl _) _
  have b0 : Below w.heap.size w ((w.alloc (.cells #[a] t)).alloc (.cells #[c] t)) := ((Below.refl _ _).alloc (Nat.le_refl _) _).trans (b1.mono (by omega))
  have x1 := kept_cell b1 (cell_new w a t) (lt_alloc _ _)
  have x3 := heap_alloc_last (w.alloc (.cells #[a] t)) (.cells #[c] t)
  rw [s1] at x3
  exact ⟨_, rfl, x1, x3, s2, b0⟩
theorem row_alloc9 {w : World} {b : Nat} {o : Obj} (h : w.heap[b]? = some o) (o2 : Obj) : (w.alloc o2).heap[b]? = some o := by
  have hlt := (Array.getElem?_eq_some_iff.1 h).1
  rw [((Below.refl w.heap.size w).alloc (Nat.le_refl _) o2).block b hlt]; exact h
theorem row_below9 {w w' : World} {b n : Nat} {o : Obj} (h : w.heap[b]? = some o) (hb : Below n w w') (hn : b < n) : w'.heap[b]? = some o := by rw [hb.block b hn]; exact h
theorem row_kept9 {w w' : World} {b : Nat} {r : Option Nat} {o : Obj} (h : w.heap[b]? = some o) (hg : w.grownBy w' r) (hn : some b ≠ r) : w'.heap[b]? = some o := by
  have hlt := (Array.getElem?_eq_some_iff.1 h).1
  obtain ⟨_, _, _, _, hblk⟩ := hg
  rw [hblk b hlt hn]; exact h
theorem IsSpace_n9 (ao : Option Addr) (S : List Int) (K cap : Nat) (hK : K = S.length) (w : World) (hn : K ≤ 4294967296) (hS : Ints w ao S) :
    Calls Try.prog 63 #[.agg #[.slice ao K cap]] w fun e w' => e = .returned (.bool (isSp S)) ∧ Below w.heap.size w w' := by
  subst hK; exact IsSpace_any ao S cap w hn hS
theorem l01Is_n9 (ao : Option Addr) (S : List Int) (K cap : Nat) (hK : K = S.length) (w : World) (hn : K ≤ 4294967296) (hS : Ints w ao S) :
    Calls Try.prog 57 #[.agg #[.slice ao K cap]] w fun e w' => e = .returned (.bool (isSp S)) ∧ Below w.heap.size w w' := by
  subst hK; exact l01Is_any ao S cap w hn hS

end Go.Proofs.Ytfgpenldeckoaaa
