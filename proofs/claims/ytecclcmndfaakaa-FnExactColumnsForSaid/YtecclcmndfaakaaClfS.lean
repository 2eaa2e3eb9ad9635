/-
  The contract of the model of ColumnsFor. By an AI agent.
-/
import Derived.Test.YtecclcmndfaakaaColS
import Derived.Test.YtecclcmndfaakaaSpace
namespace Go.Proofs.Ytecclcmndfaakaa
open Go.RowKit Cv
set_option linter.unusedVariables false
set_option linter.unusedSimpArgs false
set_option maxRecDepth 100000

/-- the error for q and m, at least a -/
def eCol (a q m : Int) : Int := if (2 ≤ q ∧ q ≤ 3) ∧ a ≤ m ∧ m ≤ 3 then (if 8 < (colL q m.toNat).length then 3 else 0) else 2
def vCol (a q m : Int) : List (List Int) := if eCol a q m = 0 then colL q m.toNat else []
theorem col_nil (w : World) (base : Nat) : OwnCols w base (.slice none 0 0) [] := ⟨[], rfl, ⟨rfl, .inl ⟨rfl, rfl⟩⟩, fun i hi => by simp at hi⟩
theorem eCol_no {a q m : Int} (h : ¬ ((2 ≤ q ∧ q ≤ 3) ∧ a ≤ m ∧ m ≤ 3)) : eCol a q m = 2 ∧ vCol a q m = [] := by
  have h1 : eCol a q m = 2 := by unfold eCol; rw [if_neg h]
  exact ⟨h1, by unfold vCol; rw [if_neg (by rw [h1]; decide)]⟩
theorem eCol_big {a q m : Int} (h : (2 ≤ q ∧ q ≤ 3) ∧ a ≤ m ∧ m ≤ 3) (g : 8 < (colL q m.toNat).length) : eCol a q m = 3 ∧ vCol a q m = [] := by
  have h1 : eCol a q m = 3 := by unfold eCol; rw [if_pos h, if_pos g]
  exact ⟨h1, by unfold vCol; rw [if_neg (by rw [h1]; decide)]⟩
theorem eCol_ok {a q m : Int} (h : (2 ≤ q ∧ q ≤ 3) ∧ a ≤ m ∧ m ≤ 3) (g : ¬ 8 < (colL q m.toNat).length) : eCol a q m = 0 ∧ vCol a q m = colL q m.toNat := by
  have h1 : eCol a q m = 0 := by unfold eCol; rw [if_pos h, if_neg g]
  exact ⟨h1, by unfold vCol; rw [if_pos h1]⟩

set_option maxHeartbeats 1000000 in
theorem specC_ColumnsFor (q : Int) (hq : -9223372036854775808 ≤ q ∧ q ≤ 9223372036854775807) (m : Int) (hm : -9223372036854775808 ≤ m ∧ m ≤ 9223372036854775807) (w : World) :
    Calls Try.prog 28 #[.int .i64 q, .int .i64 m] w fun e w' => ∃ v, e = .returned (.tuple #[v, .int .i64 (eCol 1 q m)]) ∧ OwnCols w' w.heap.size v (vCol 1 q m) ∧ Below w.heap.size w w' := by
  by_cases h : (2 ≤ q ∧ q ≤ 3) ∧ 1 ≤ m ∧ m ≤ 3
  · have b1 := inB_true (n := q) (low := 2) (high := 3) h.1.1 h.1.2
    have b2 := inB_true (n := m) (low := 1) (high := 3) h.2.1 h.2.2
    have hc := l06Columns_any q (by omega) m.toNat (by omega) (by omega) w
    rw [show ((m.toNat : Nat) : Int) = m by omega] at hc
    have HB := Lib.hid (eCol_big h)
    have HO := Lib.hid (eCol_ok h)
    obtain ⟨R, hR⟩ : ∃ R, R = colL q m.toNat := ⟨_, rfl⟩
    rw [← hR] at hc HB HO
    have HC := Lib.hid hc
    clear h hc hR
    by_cases g : 8 < R.length
    · obtain ⟨e1, e2⟩ := HB.out g
      have E1 := Lib.hid e1
      have E2 := Lib.hid e2
      have gI : (8 : Int) < (R.length : Int) := by omega
      clear e1 e2 g
      go_enter Try.func28, Try.ntmps28
      go_wp2_with (first | (go_at_call 64; refine (l01In_any _ _ _ _).mono ?_; rintro e w' ⟨rfl, rfl⟩) | (go_at_call 65; refine HC.out.mono ?_; rintro e w1 ⟨gg, c, rfl, oc, hb⟩) | fail)
      go_ret2
      exact ⟨_, by rw [E1.out]; rfl, by rw [E2.out]; exact col_nil _ _, hb⟩
    · obtain ⟨e1, e2⟩ := HO.out g
      have E1 := Lib.hid e1
      have E2 := Lib.hid e2
      have gI : ¬ (8 : Int) < (R.length : Int) := by omega
      clear e1 e2 g
      go_enter Try.func28, Try.ntmps28
      go_wp2_with (first | (go_at_call 64; refine (l01In_any _ _ _ _).mono ?_; rintro e w' ⟨rfl, rfl⟩) | (go_at_call 65; refine HC.out.mono ?_; rintro e w1 ⟨gg, c, rfl, oc, hb⟩) | fail)
      go_ret2
      exact ⟨_, by rw [E1.out]; rfl, by rw [E2.out]; exact oc, hb⟩
  · obtain ⟨e1, e2⟩ := eCol_no h
    have E1 := Lib.hid e1
    have E2 := Lib.hid e2
    clear e1 e2
    by_cases h1 : 2 ≤ q ∧ q ≤ 3
    · have b1 := inB_true (n := q) (low := 2) (high := 3) h1.1 h1.2
      have b2 := inB_false (n := m) (low := 1) (high := 3) (by omega)
      clear h h1
      go_enter Try.func28, Try.ntmps28
      go_wp2_with (first | (go_at_call 64; refine (l01In_any _ _ _ _).mono ?_; rintro e w' ⟨rfl, rfl⟩) | fail)
      go_ret2
      exact ⟨_, by rw [E1.out]; rfl, by rw [E2.out]; exact col_nil _ _, Below.refl _ _⟩
    · have b1 := inB_false (n := q) (low := 2) (high := 3) (by omega)
      clear h h1
      go_enter Try.func28, Try.ntmps28
      go_wp2_with (first | (go_at_call 64; refine (l01In_any _ _ _ _).mono ?_; rintro e w' ⟨rfl, rfl⟩) | fail)
      go_ret2
      exact ⟨_, by rw [E1.out]; rfl, by rw [E2.out]; exact col_nil _ _, Below.refl _ _⟩

end Go.Proofs.Ytecclcmndfaakaa
