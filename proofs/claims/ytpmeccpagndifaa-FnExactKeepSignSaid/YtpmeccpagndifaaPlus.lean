/-
  The space of two spaces, as the model makes it. By an AI agent.
-/
import Derived.Test.YtpmeccpagndifaaWpA
import Derived.Laws.ResultCell
namespace Go.Proofs.Ytpmeccpagndifaa
open Go.RowKit Cv
set_option linter.unusedVariables false
set_option linter.unusedSimpArgs false
set_option maxRecDepth 100000

theorem box3 (w : World) (a b c : Value) (t : TypeId) : ∃ W, W = ((w.alloc (.cells #[a] t)).alloc (.cells #[b] t)).alloc (.cells #[c] t) ∧ W.cell? ⟨w.heap.size, 0, none⟩ = some a ∧ W.cell? ⟨w.heap.size + 1, 0, none⟩ = some b ∧ W.heap[w.heap.size + 2]? = some (.cells #[c] t (0, 0)) ∧ W.heap.size = w.heap.size + 3 ∧ Below w.heap.size w W := by
  have s1 : (w.alloc (.cells #[a] t)).heap.size = w.heap.size + 1 := World.size_alloc _ _
  have s2 : ((w.alloc (.cells #[a] t)).alloc (.cells #[b] t)).heap.size = w.heap.size + 2 := by rw [World.size_alloc, s1]
  have s3 : (((w.alloc (.cells #[a] t)).alloc (.cells #[b] t)).alloc (.cells #[c] t)).heap.size = w.heap.size + 3 := by rw [World.size_alloc, s2]
  have b2 : Below ((w.alloc (.cells #[a] t)).alloc (.cells #[b] t)).heap.size ((w.alloc (.cells #[a] t)).alloc (.cells #[b] t)) (((w.alloc (.cells #[a] t)).alloc (.cells #[b] t)).alloc (.cells #[c] t)) := (Below.refl _ _).alloc (Nat.le_refl _) _
  have b1 : Below (w.alloc (.cells #[a] t)).heap.size (w.alloc (.cells #[a] t)) (((w.alloc (.cells #[a] t)).alloc (.cells #[b] t)).alloc (.cells #[c] t)) := ((Below.refl _ _).alloc (Nat.le_refl _) _).trans (b2.mono (by omega))
  have b0 : Below w.heap.size w (((w.alloc (.cells #[a] t)).alloc (.cells #[b] t)).alloc (.cells #[c] t)) := ((Below.refl _ _).alloc (Nat.le_refl _) _).trans (b1.mono (by omega))
  have x1 := kept_cell b1 (cell_new w a t) (lt_alloc _ _)
  have x2 := kept_cell b2 (cell_new (w.alloc (.cells #[a] t)) b t) (lt_alloc _ _)
  have x3 := heap_alloc_last ((w.alloc (.cells #[a] t)).alloc (.cells #[b] t)) (.cells #[c] t)
  rw [s1] at x2
  rw [s2] at x3
  exact ⟨_, rfl, x1, x2, x3, s3, b0⟩
theorem row_alloc {w : World} {b : Nat} {o : Obj} (h : w.heap[b]? = some o) (o2 : Obj) : (w.alloc o2).heap[b]? = some o := by
  have hlt := (Array.getElem?_eq_some_iff.1 h).1
  rw [((Below.refl w.heap.size w).alloc (Nat.le_refl _) o2).block b hlt]; exact h
theorem row_below {w w' : World} {b n : Nat} {o : Obj} (h : w.heap[b]? = some o) (hb : Below n w w') (hn : b < n) : w'.heap[b]? = some o := by rw [hb.block b hn]; exact h
theorem row_kept {w w' : World} {b : Nat} {r : Option Nat} {o : Obj} (h : w.heap[b]? = some o) (hg : w.grownBy w' r) (hn : some b ≠ r) : w'.heap[b]? = some o := by
  have hlt := (Array.getElem?_eq_some_iff.1 h).1
  obtain ⟨_, _, _, _, hblk⟩ := hg
  rw [hblk b hlt hn]; exact h

theorem own_ne_row {w : World} {base g n c p : Nat} {L : List Int} {cs : Array Value} {fz : Nat × Nat} (h : OwnInts w base (.slice (some ⟨g, 0, none⟩) n c) L) (hp : w.heap[p]? = some (.cells cs 28 fz)) : g ≠ p := by
  rcases h.2 with ⟨hv, _⟩ | ⟨g', c', cur, hv, hb, hh, _⟩
  · simp at hv
  · simp only [Value.slice.injEq, Option.some.injEq, Addr.mk.injEq, and_true, true_and] at hv
    obtain ⟨rfl, _, _⟩ := hv
    intro e
    subst e
    rw [hh] at hp
    simp at hp

end Go.Proofs.Ytpmeccpagndifaa
