/-
  The contracts of slices.BinarySearch on ascending numbers. By an AI agent.
-/
import Derived.Test.YtgaelpcghljihaaCh8
namespace Go.Proofs.Ytgaelpcghljihaa
open Go.RowKit Cv
set_option linter.unusedVariables false
set_option linter.unusedSimpArgs false
set_option maxRecDepth 100000

theorem isNaN_any (x : Int) (w : World) : Calls Try.prog 185 #[.int .i64 x] w fun e w' => e = .returned (.bool false) ∧ w' = w := by
  go_enter Try.func185, Try.ntmps185
  go_wp2_with fail
  go_ret
  exact ⟨by first | rfl | simp, rfl⟩

theorem less_any (x y : Int) (w : World) : Calls Try.prog 174 #[.int .i64 x, .int .i64 y] w fun e w' => e = .returned (.bool (decide (x < y))) ∧ w' = w := by
  go_enter Try.func174, Try.ntmps174
  go_wp2_with fail
  refine (isNaN_any x _).mono ?_
  rintro e w1 ⟨rfl, rfl⟩
  go_wp2_with fail
  go_ret
  exact ⟨rfl, rfl⟩

theorem asc_lt {L : List Int} (hA : Asc L) {i j : Nat} (h : i < j) (hj : j < L.length) : gi L i < gi L j := by
  have h2 := List.pairwise_iff_getElem.1 hA i j (by omega) hj h
  rw [gi_lt L i (by omega), gi_lt L j hj]
  exact h2

end Go.Proofs.Ytgaelpcghljihaa
