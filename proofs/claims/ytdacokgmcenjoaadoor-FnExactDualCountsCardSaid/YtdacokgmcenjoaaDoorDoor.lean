/-
  The door behind which a code that is not linear is a panic. By an AI agent.
-/
import Derived.Test.YtdacokgmcenjoaaDoorLinI
import Derived.Defers
import Derived.Recover
import Derived.Shelf.Abstract
import Derived.Deep.WholeRow
namespace Go.Proofs.YtdacokgmcenjoaaDoor
open Go.RowKit Go.Shelf Cv
set_option linter.unusedVariables false
set_option linter.unusedSimpArgs false
set_option maxRecDepth 100000

/-- the variable that holds the error of a code that is not linear -/
def Glob (pv : Value) (w : World) : Prop := w.cell? ⟨0, 0, none⟩ = some (.iface 110 pv) ∧ 0 < w.heap.size
theorem Glob.below {pv : Value} {w w' : World} {n : Nat} (h : Glob pv w) (hb : Below n w w') (hn : 0 < n) : Glob pv w' := ⟨kept_cell hb h.1 hn, Nat.lt_of_lt_of_le h.2 hb.size⟩

theorem assert_yes (pv : Value) (w : World) : (Instr.typeAssert (.iface 110 pv) 20 48 true).run Tryd.prog w = .ok (.tuple #[.iface 110 pv, .bool true]) w := by kernel_rfl
theorem assert_nil (w : World) : (Instr.typeAssert .nilIface 20 48 true).run Tryd.prog w = .ok (.tuple #[.nilIface, .bool false]) w := by kernel_rfl

theorem results_cell1d {fn : Func} {p : Tmp} {ty : TypeId} (h : fn.results = #[.cell p ty]) (tmps : Array Value) (P : Program) (w : World) :
    (results fn tmps).run P w = ((asAddr (tmps.getD p undef)).run P w).andThen fun a w₁ => (loadVar ty a).run P w₁ := by
  simp only [results, h]
  simp [Sem.run_bind, Result.andThen]

theorem box2m (w : World) (a b c : Value) (t u : TypeId) : ∃ W, W = (w.alloc (.cells #[a] t)).alloc (.cells #[b, c] u) ∧ W.cell? ⟨w.heap.size, 0, none⟩ = some a ∧ W.heap[w.heap.size + 1]? = some (.cells #[b, c] u (0, 0)) ∧ W.heap.size = w.heap.size + 2 ∧ Below w.heap.size w W := by
  have s1 : (w.alloc (.cells #[a] t)).heap.size = w.heap.size + 1 := World.size_alloc _ _
  have s2 : ((w.alloc (.cells #[a] t)).alloc (.cells #[b, c] u)).heap.size = w.heap.size + 2 := by rw [World.size_alloc, s1]
  have b1 : Below (w.alloc (.cells #[a] t)).heap.size (w.alloc (.cells #[a] t)) ((w.alloc (.cells #[a] t)).alloc (.cells #[b, c] u)) := (Below.refl _ _).alloc (Nat.le_refl _) _
  have b0 : Below w.heap.size w ((w.alloc (.cells #[a] t)).alloc (.cells #[b, c] u)) := ((Below.refl _ _).alloc (Nat.le_refl _) _).trans (b1.mono (by omega))
  have x1 := kept_cell b1 (cell_new w a t) (lt_alloc _ _)
  have x3 := heap_alloc_last (w.alloc (.cells #[a] t)) (.cells #[b, c] u)
  rw [s1] at x3
  exact ⟨_, rfl, x1, x3, s2, b0⟩

theorem linearCodeOf_yes (ao : Option Addr) (S : List Int) (cap : Nat) (hn : S.length ≤ 4294967296) (ac : Option Addr) (C : List Int) (capc : Nat) (hE : eCode S C = 0) (hl : linB S C = true) (w : World) (hS : Ints w ao S) (hC : Ints w ac C) :
    Calls Tryd.prog 33 #[.agg #[.slice ao S.length cap], .slice ac C.length capc] w fun e w' => e = .returned (.agg #[.slice ao S.length cap, .slice ac C.length capc]) ∧ Below w.heap.size w w' := by
  obtain ⟨W0, hW0, cS, rR, z0, B0⟩ := box2m w (.slice ao S.length cap) (.slice none 0 0) (.slice none 0 0) 28 44
  have HW0 := Lib.hid hW0
  have z0a : w.heap.size + 2 ≤ W0.heap.size := by omega
  have h1 := isLinear_any ao S cap hn ac C capc hE W0 (hS.below B0) (hC.below B0)
  rw [hl] at h1
  have H1 := Lib.hid h1
  clear hW0 z0 h1
  go_enter Tryd.func33, Tryd.ntmps33
  go_wp2_with fail
  rw [← HW0.out]
  refine H1.out.mono ?_
  rintro e w1 ⟨rfl, hb1⟩
  have s1 : w.heap.size + 2 ≤ w1.heap.size := by have := hb1.size; omega
  have cS1 := kept_cell hb1 cS (by omega)
  have rR1 : w1.heap[w.heap.size + 1]? = some (.cells #[.slice none 0 0, .slice none 0 0] 44 (0, 0)) := by rw [hb1.block (w.heap.size + 1) (by omega)]; exact rR
  have B1 := B0.trans (hb1.mono (by omega))
  have d0 : w1.cell? ⟨w.heap.size + 1, 0, none⟩ = some (.slice none 0 0) := by rw [cell_of_row w1 (w.heap.size + 1) 0 _ _ _ rR1]; rfl
  have d1 : w1.cell? ⟨w.heap.size + 1, 1, none⟩ = some (.slice none 0 0) := by rw [cell_of_row w1 (w.heap.size + 1) 1 _ _ _ rR1]; rfl
  have f0 : w1.frozen? ⟨w.heap.size + 1, 0, none⟩ = false := by have h' := rR1; simp [World.frozen?, h']
  have f1 : w1.frozen? ⟨w.heap.size + 1, 1, none⟩ = false := by have h' := rR1; simp [World.frozen?, h']
  clear hb1 cS rR H1
  have q1 : ((w1.setCell ⟨w.heap.size + 1, 0, none⟩ (.slice ao S.length cap)).setCell ⟨w.heap.size + 1, 1, none⟩ (.slice ac C.length capc)).cell? ⟨w.heap.size + 1, 1, none⟩ = some (.slice ac C.length capc) := World.cell?_setCell_same' _ _ _ (by rw [World.cell?_setCell_other _ _ _ _ (by simp)]; rw [d1]; rfl)
  have q0 : ((w1.setCell ⟨w.heap.size + 1, 0, none⟩ (.slice ao S.length cap)).setCell ⟨w.heap.size + 1, 1, none⟩ (.slice ac C.length capc)).cell? ⟨w.heap.size + 1, 0, none⟩ = some (.slice ao S.length cap) := by
    rw [World.cell?_setCell_other _ _ _ _ (by simp)]
    exact World.cell?_setCell_same' _ _ _ (by rw [d0]; rfl)
  have B2 : Below w.heap.size w (w1.setCell ⟨w.heap.size + 1, 0, none⟩ (.slice ao S.length cap)) := B1.setCell (show w.heap.size ≤ w.heap.size + 1 by omega) _
  have B3 : Below w.heap.size w ((w1.setCell ⟨w.heap.size + 1, 0, none⟩ (.slice ao S.length cap)).setCell ⟨w.heap.size + 1, 1, none⟩ (.slice ac C.length capc)) := B2.setCell (show w.heap.size ≤ w.heap.size + 1 by omega) _
  go_wp2_with fail
  refine bodyPost_ret (by rw [results_cell1d rfl]; go_simp; try rfl) rfl ?_
  exact ⟨rfl, B3⟩

theorem linearCodeOf_no (ao : Option Addr) (S : List Int) (cap : Nat) (hn : S.length ≤ 4294967296) (ac : Option Addr) (C : List Int) (capc : Nat) (hE : eCode S C = 0) (hl : linB S C = false) (pv : Value) (w : World) (hS : Ints w ao S) (hC : Ints w ac C) (hG : Glob pv w) :
    Calls Tryd.prog 33 #[.agg #[.slice ao S.length cap], .slice ac C.length capc] w fun e w' => e = .panicked [{ v := .iface 110 pv, recovered := false }] ∧ Below w.heap.size w w' := by
  obtain ⟨W0, hW0, cS, rR, z0, B0⟩ := box2m w (.slice ao S.length cap) (.slice none 0 0) (.slice none 0 0) 28 44
  have HW0 := Lib.hid hW0
  have z0a : w.heap.size + 2 ≤ W0.heap.size := by omega
  have h1 := isLinear_any ao S cap hn ac C capc hE W0 (hS.below B0) (hC.below B0)
  rw [hl] at h1
  have H1 := Lib.hid h1
  have hg0 := hG.below B0 hG.2
  have hpos := hG.2
  clear hW0 z0 h1 hG
  go_enter Tryd.func33, Tryd.ntmps33
  go_wp2_with fail
  rw [← HW0.out]
  refine H1.out.mono ?_
  rintro e w1 ⟨rfl, hb1⟩
  have hg1 := (hg0.below hb1 hg0.2).1
  have B1 := B0.trans (hb1.mono (by omega))
  clear hb1 cS rR H1
  go_wp2_with fail
  exact ⟨rfl, rfl, B1⟩

theorem box2i (w : World) (a b : Value) (t u : TypeId) : ∃ W, W = (w.alloc (.cells #[a] t)).alloc (.cells #[b] u) ∧ W.cell? ⟨w.heap.size, 0, none⟩ = some a ∧ W.heap[w.heap.size + 1]? = some (.cells #[b] u (0, 0)) ∧ W.heap.size = w.heap.size + 2 ∧ Below w.heap.size w W := by
  have s1 : (w.alloc (.cells #[a] t)).heap.size = w.heap.size + 1 := World.size_alloc _ _
  have s2 : ((w.alloc (.cells #[a] t)).alloc (.cells #[b] u)).heap.size = w.heap.size + 2 := by rw [World.size_alloc, s1]
  have b1 : Below (w.alloc (.cells #[a] t)).heap.size (w.alloc (.cells #[a] t)) ((w.alloc (.cells #[a] t)).alloc (.cells #[b] u)) := (Below.refl _ _).alloc (Nat.le_refl _) _
  have b0 : Below w.heap.size w ((w.alloc (.cells #[a] t)).alloc (.cells #[b] u)) := ((Below.refl _ _).alloc (Nat.le_refl _) _).trans (b1.mono (by omega))
  have x1 := kept_cell b1 (cell_new w a t) (lt_alloc _ _)
  have x3 := heap_alloc_last (w.alloc (.cells #[a] t)) (.cells #[b] u)
  rw [s1] at x3
  exact ⟨_, rfl, x1, x3, s2, b0⟩

end Go.Proofs.YtdacokgmcenjoaaDoor
