/-
  The contract of the model of ColumnsFor. By an AI agent.
-/
import Derived.Test.YthfddfhjcadomaaColS
import Derived.Test.YthfddfhjcadomaaSpace
namespace Go.Proofs.Ythfddfhjcadomaa
open Go.RowKit Cv
set_option linter.unusedVariables false
set_option linter.unusedSimpArgs false
set_option maxRecDepth 100000

/-- the error for q and m, at least a -/
def eCol (a q m : Int) : Int := if (2 ≤ q ∧ q ≤ 3) ∧ a ≤ m ∧ m ≤ 3 then (if 8 < (colL q m.toNat).length then 3 else 0) else 2
def vCol (a q m : Int) : List (List Int) := if eCol a q m = 0 then colL q m.toNat else []
theorem col_nil (w : World) (base : Nat) : OwnCols w base (.slice none 0 0) [] := ⟨[], rfl, ⟨rfl, .inl ⟨rfl, rfl⟩⟩, fun i hi => by simp at hi⟩
theorem eCol_no {a q m : Int} (h : ¬ ((2 ≤ q ∧ q ≤ 3) ∧ a ≤ m ∧ m ≤ 3)) : eCol a q m = 2 ∧ vCol a q m = [] := by
  have h1 : eCol a q m = 2 := by unfold eCol; rw [if_neg h]
  exact ⟨h1, by unfold vCol; rw [if_neg (by rw [h1]; decide)]⟩
theorem eCol_big {a q m : Int} (h : (2 ≤ q ∧ q ≤ 3) ∧ a ≤ m ∧ m ≤ 3) (g : 8 < (colL q m.toNat).length) : eCol a q m = 3 ∧ vCol a q m = [] := by
  have h1 : eCol a q m = 3 := by unfold eCol; rw [if_pos h, if_pos g]
  exact ⟨h1, by unfold vCol; rw [if_neg (by rw [h1]; decide)]⟩
theorem eCol_ok {a q m : Int} (h : (2 ≤ q ∧ q ≤ 3) ∧ a ≤ m ∧ m ≤ 3) (g : ¬ 8 < (colL q m.toNat).length) : eCol a q m = 0 ∧ vCol a q m = colL q m.toNat := by
  have h1 : eCol a q m = 0 := by unfold eCol; rw [if_pos h, if_neg g]
  exact ⟨h1, by unfold vCol; rw [if_pos h1]⟩

end Go.Proofs.Ythfddfhjcadomaa
