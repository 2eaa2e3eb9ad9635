/-
  The rest of the sum of digits; a struct of two cells in a box. By an AI agent.
-/
import Derived.Test.YtdacokgmcenjoaaDoorMathB
import Derived.Test.YtdacokgmcenjoaaDoorHelp
import Derived.Deep.WholeRow
namespace Go.Proofs.YtdacokgmcenjoaaDoor
open Go.RowKit Cv
set_option linter.unusedVariables false
set_option linter.unusedSimpArgs false
set_option maxRecDepth 100000

theorem restOfSum_any (a : Option Addr) (T : List Int) (n c : Nat) (hn : n = T.length) (hl : T.length ≤ 8) (hb : ∀ i, i < T.length → 0 ≤ gi T i ∧ gi T i ≤ 4) (q : Int) (hq : 2 ≤ q ∧ q ≤ 4) (w : World) (hT : Ints w a T) :
    Calls Tryd.prog 118 #[.slice a n c, .int .i64 q] w fun e w' => e = .returned (.int .i64 (sumTo T T.length % q)) ∧ Below w.heap.size w w' := by
  subst hn
  have HB := Lib.hid hb
  clear hb
  go_enter Tryd.func118, Tryd.ntmps118
  go_wp2_with fail
  go_loopw [5, 10] (fun v i wr => ∃ k : Nat, k ≤ T.length ∧ i = .int .i64 k ∧ v = .int .i64 (sumTo T k) ∧ Below w.heap.size w wr) (fun _ i _ => T.length - (intOf i).toNat)
  case atStart => exact ⟨0, Nat.zero_le _, rfl, rfl, Below.refl _ _⟩
  case round =>
    obtain ⟨k, hk, rfl, rfl, B⟩ := hrel
    obtain ⟨t1, t2⟩ := sumTo_bd T HB.out k hk
    by_cases hlt : k < T.length
    · obtain ⟨b, o, rfl, hbl, hc⟩ := hT.at hlt
      have hck := kept_cell B (hc k hlt) hbl
      obtain ⟨t3, t4⟩ := HB.out k hlt
      have E1 : IntKind.i64.wrap (sumTo T k + gi T k) = sumTo T k + gi T k := IntWalk.i64_in _ ⟨by omega, by omega⟩
      clear hc
      go_wp2_with fail
      go_roundw
      case rel => exact ⟨k + 1, by omega, by go_num, rfl, B⟩
      case measure => simp [intOf]; omega
    · have ek : k = T.length := by omega
      have E2 : (sumTo T k).tmod q = sumTo T k % q := Int.tmod_eq_emod_of_nonneg t1
      have hz : (q == 0) = false := by simp; omega
      have hz2 : ¬ q = 0 := by omega
      have HR : Hid (sumTo T T.length % q = sumTo T k % q) := Lib.hid (by rw [ek])
      clear ek
      go_wp2_with fail
      go_ret
      exact ⟨by rw [HR.out]; rfl, B⟩

theorem boxd2 (w : World) (a b : Value) (t : TypeId) : ∃ W, W = w.alloc (.cells #[a, b] t) ∧ W.cell? ⟨w.heap.size, 0, none⟩ = some a ∧ W.cell? ⟨w.heap.size, 1, none⟩ = some b ∧ W.heap.size = w.heap.size + 1 ∧ Below w.heap.size w W := by
  have y0 : (w.alloc (.cells #[a, b] t)).cell? ⟨w.heap.size, 0, none⟩ = some a := by rw [cell_of_row _ w.heap.size 0 _ _ _ (heap_alloc_last w (.cells #[a, b] t))]; rfl
  have y1 : (w.alloc (.cells #[a, b] t)).cell? ⟨w.heap.size, 1, none⟩ = some b := by rw [cell_of_row _ w.heap.size 1 _ _ _ (heap_alloc_last w (.cells #[a, b] t))]; rfl
  exact ⟨_, rfl, y0, y1, World.size_alloc _ _, (Below.refl _ _).alloc (Nat.le_refl _) _⟩

end Go.Proofs.YtdacokgmcenjoaaDoor
