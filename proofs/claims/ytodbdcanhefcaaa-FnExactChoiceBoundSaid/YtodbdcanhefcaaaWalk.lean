/-
  The walk over the words of a ball: its contract, for every body of a loop over it. By an AI agent.
-/
import Derived.RangeFuncNested
import Derived.RangeFuncBound
import Derived.RangeFuncCalls
import Derived.RangeFuncLeaves
import Derived.Shelf.Abstract
import Derived.Shelf.RegionOpen
import Derived.WalkKit
import Derived.OwnWalkIn
import Derived.TacticsInMore
import Derived.LoopNIn
import Derived.LoopIn
import Derived.Test.YtodbdcanhefcaaaMath
import Derived.Test.YtodbdcanhefcaaaMem
namespace Go.Proofs.Ytodbdcanhefcaaa
open Go.RowKit Go.Shelf Cv
set_option linter.unusedVariables false
set_option linter.unusedSimpArgs false
set_option maxRecDepth 100000

attribute [local go_sem] Oper.semAt_some

theorem room_none {F : Fence} (hd : F.depth = none) (k : Nat) : F.room k := fun d h => by rw [hd] at h; cases h
theorem round_any {F : Fence} (hd : F.depth = none) {m m' : Nat} {P : Program} {l : Nat} {f : FuncId} {tmps : Array Value} {assign body : Code} {w : World} {R : Ending → World → Prop}
    (h : RoundIn F m P l f tmps assign body w R) : RoundIn F m' P l f tmps assign body w R := ⟨h.1, fun c cs _ => h.2 c cs (room_none hd _)⟩
theorem yield_any {F : Fence} (hd : F.depth = none) {m : Nat} (m' : Nat) {P : Program} {l : Nat} {args : Array Value} {W : World} {R : Ending → World → Prop} (h : YieldAt F m P l args W R) : YieldAt F m' P l args W R := by
  obtain ⟨fn, tmps, assign, body, hy, hR⟩ := h
  exact ⟨fn, tmps, assign, body, hy, round_any hd hR⟩

/-- the boxes of a type lie as they lay -/
def KeepsT (t : TypeId) (W W' : World) : Prop := ∀ (k : Nat) (cur : Array Value), W.heap[k]? = some (.cells cur t (0, 0)) → W'.heap[k]? = some (.cells cur t (0, 0))
theorem KeepsT.refl (t : TypeId) (W : World) : KeepsT t W W := fun _ _ h => h
theorem KeepsT.trans {t : TypeId} {A B C : World} (h : KeepsT t A B) (k : KeepsT t B C) : KeepsT t A C := fun i cur hi => k i cur (h i cur hi)
theorem KeepsT.alloc {t : TypeId} {A B : World} (h : KeepsT t A B) (o : Obj) : KeepsT t A (B.alloc o) := fun i cur hi => by
  have h2 := h i cur hi
  rw [heap_alloc_old B o i (Array.getElem?_eq_some_iff.1 h2).1]; exact h2
theorem KeepsT.drew {t : TypeId} {A B : World} (h : KeepsT t A B) : KeepsT t A B.drew := h

/-- a block of cells lies as it lay -/
def KeepsAt (g : Nat) (W W' : World) : Prop := ∀ (cur : Array Value) (t : TypeId), W.heap[g]? = some (.cells cur t (0, 0)) → W'.heap[g]? = some (.cells cur t (0, 0))
theorem KeepsAt.refl (g : Nat) (W : World) : KeepsAt g W W := fun _ _ h => h
theorem KeepsAt.trans {g : Nat} {A B C : World} (h : KeepsAt g A B) (k : KeepsAt g B C) : KeepsAt g A C := fun cur t hi => k cur t (h cur t hi)
theorem KeepsAt.alloc {g : Nat} {A B : World} (h : KeepsAt g A B) (o : Obj) : KeepsAt g A (B.alloc o) := fun cur t hi => by
  have h2 := h cur t hi
  rw [heap_alloc_old B o g (Array.getElem?_eq_some_iff.1 h2).1]; exact h2
theorem KeepsAt.of_grown {g : Nat} {W W' : World} {row : Option Nat} (hg : W.grownBy W' row) (hne : row ≠ some g) : KeepsAt g W W' := fun cur t hi =>
  (hg.block g (Array.getElem?_eq_some_iff.1 hi).1 (fun e => hne e.symm)).trans hi
theorem KeepsAt.set {g b k : Nat} {W : World} {v : Value} (hne : g ≠ b) : KeepsAt g W (W.setCell ⟨b, k, none⟩ v) := fun cur t hi => by
  rw [Below.heap_setCell _ _ _ _ (fun e => hne e)]; exact hi

/-- what a round of a loop over the walk keeps -/
def KpB (n₀ g : Nat) (W W' : World) : Prop := Below n₀ W W' ∧ KeepsT 0 W W' ∧ KeepsAt g W W'

theorem box_cells {W : World} {B : Nat} {c0 c1 c2 : Value} (h : W.heap[B]? = some (.cells #[c0, c1, c2] 0 (0, 0))) : W.cell? ⟨B, 0, none⟩ = some c0 ∧ W.cell? ⟨B, 1, none⟩ = some c1 ∧ W.cell? ⟨B, 2, none⟩ = some c2 := by
  refine ⟨?_, ?_, ?_⟩ <;> simp [World.cell?, h]

def encW {S : List Int} {x r : Int} (p : WP S x r) : Array Value := #[.int .i64 p.1.1, .int .i64 p.1.2]

end Go.Proofs.Ytodbdcanhefcaaa
