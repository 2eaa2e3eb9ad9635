/-
  The contract of the program's words within a radius: the closure and the box that it reads. By an AI agent.
-/
import Derived.Test.YtodbdcanhefcaaaFar
import Derived.Test.YtodbdcanhefcaaaSums
import Derived.Test.YtodbdcanhefcaaaWalk
import Derived.Deep.RegionHeld3
namespace Go.Proofs.Ytodbdcanhefcaaa
open Go.RowKit Cv
set_option linter.unusedVariables false
set_option linter.unusedSimpArgs false
set_option maxRecDepth 100000

theorem box_set1 {W : World} {B k : Nat} {t : TypeId} {cur : Array Value} {x : Value} (h : W.heap[B]? = some (.cells cur t (0, 0))) :
    (W.setCell ⟨B, k, none⟩ x).heap[B]? = some (.cells (cur.setIfInBounds k x) t (0, 0)) := by
  simp [World.setCell, Array.getElem?_modify, h]
/-- a box of three cells, all three stored -/
theorem box_set3 {W : World} {B : Nat} {t : TypeId} {a b c x y z : Value} (h : W.heap[B]? = some (.cells #[a, b, c] t (0, 0))) :
    (((W.setCell ⟨B, 0, none⟩ x).setCell ⟨B, 1, none⟩ y).setCell ⟨B, 2, none⟩ z).heap[B]? = some (.cells #[x, y, z] t (0, 0)) :=
  box_set1 (box_set1 (box_set1 h))
theorem alloc3 (w : World) (o1 o2 o3 : Obj) : (((w.alloc o1).alloc o2).alloc o3).heap[w.heap.size]? = some o1 ∧ (((w.alloc o1).alloc o2).alloc o3).heap[w.heap.size + 1]? = some o2 ∧ (((w.alloc o1).alloc o2).alloc o3).heap[w.heap.size + 1 + 1]? = some o3 := by
  have e1 : (w.alloc o1).heap.size = w.heap.size + 1 := by simp
  have e2 : ((w.alloc o1).alloc o2).heap.size = w.heap.size + 1 + 1 := by simp
  have a1 := World.alloc_heap_new w o1
  have a2 := World.alloc_heap_new (w.alloc o1) o2
  have a3 := World.alloc_heap_new ((w.alloc o1).alloc o2) o3
  rw [e1] at a2
  rw [e2] at a3
  refine ⟨?_, ?_, a3⟩
  · rw [Below.heap_alloc _ _ _ (by rw [e2]; omega), Below.heap_alloc _ _ _ (by rw [e1]; omega)]; exact a1
  · rw [Below.heap_alloc _ _ _ (by rw [e2]; omega)]; exact a2
theorem cell_of_heap {W : World} {B : Nat} {t : TypeId} {v : Value} (h : W.heap[B]? = some (.cells #[v] t (0, 0))) : W.cell? ⟨B, 0, none⟩ = some v := by simp [World.cell?, h]
theorem cell_of_heap_drew {W : World} {B : Nat} {t : TypeId} {v : Value} (h : W.heap[B]? = some (.cells #[v] t (0, 0))) : W.drew.cell? ⟨B, 0, none⟩ = some v := cell_of_heap (W := W.drew) h
theorem ints_one {W : World} {n : Nat} {x : Int} (h : W.cell? ⟨n, 0, none⟩ = some (.int .i64 x)) : Ints W (some ⟨n, 0, none⟩) [x] :=
  .inr ⟨n, 0, rfl, World.block_lt_of_cell? W _ h, fun i hi => by
    match i, hi with
    | 0, _ => exact h⟩
theorem Ints.setOther {w : World} {ao : Option Addr} {S : List Int} {a : Addr} (h : Ints w ao S) (hne : ∀ b o, ao = some ⟨b, o, none⟩ → b ≠ a.block) (u : Value) : Ints (w.setCell a u) ao S := ints_set_other h hne
theorem box_free {W : World} {B k : Nat} {t : TypeId} {cur : Array Value} (h : W.heap[B]? = some (.cells cur t (0, 0))) : W.frozen? ⟨B, k, none⟩ = false := by simp [World.frozen?, h]

end Go.Proofs.Ytodbdcanhefcaaa
