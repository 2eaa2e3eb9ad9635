/-
  The contracts of ColumnsFor, both sides. By an AI agent.
-/
import Derived.Test.YthfddfhjcadomaaCfi
import Derived.Test.YthfddfhjcadomaaRwc
import Derived.Test.YthfddfhjcadomaaClone
namespace Go.Proofs.Ythfddfhjcadomaa
open Go.RowKit Cv
set_option linter.unusedVariables false
set_option linter.unusedSimpArgs false
set_option maxRecDepth 100000

theorem vCol_len (q m : Int) : (vCol 1 q m).length ≤ 4096 ∧ ∀ j, (rr (vCol 1 q m) j).length ≤ 4096 := by
  unfold vCol
  split
  · rename_i h
    have hr : (2 ≤ q ∧ q ≤ 3) ∧ 1 ≤ m ∧ m ≤ 3 := by
      by_cases g : (2 ≤ q ∧ q ≤ 3) ∧ 1 ≤ m ∧ m ≤ 3
      · exact g
      · unfold eCol at h; rw [if_neg g] at h; cases h
    obtain ⟨M, rfl⟩ := Int.eq_ofNat_of_zero_le (show 0 ≤ m by omega)
    have hq : q = 2 ∨ q = 3 := by omega
    have hM : M = 1 ∨ M = 2 ∨ M = 3 := by omega
    have e : ((M : Int)).toNat = M := by simp
    rw [e]
    obtain ⟨p1, p2⟩ := pc_all hq hM
    have p3 := wcl_len hq (show M ≤ 3 by omega)
    refine ⟨by omega, fun j => ?_⟩
    by_cases hj : j < (colL q M).length
    · have := p2 j (by omega)
      unfold rr
      rw [← this, List.length_drop, c3_len]; omega
    · simp [rr, List.getD, List.getElem?_eq_none (Nat.le_of_not_lt hj)]
  · exact ⟨by simp, fun j => by simp [rr]⟩
theorem rd_of_cols {w : World} {lo : Nat} {v : Value} {R : List (List Int)} (h : OwnCols w lo v R) : RdRws w lo w.heap.size v R := by
  obtain ⟨hs, e1, e2, e3⟩ := h
  refine ⟨hs, e1, e2, fun k hk => (World.ownsRow.lt e2 k hk).2, fun i hi => ?_⟩
  obtain ⟨x, hx, ho, _⟩ := e3 i hi
  exact ⟨x, hx, ho, fun k hk => (World.ownsRow.lt ho k hk).2⟩
theorem columnsFor_out (q m a : Int) (h : ¬ ((2 ≤ q ∧ q ≤ 3) ∧ a ≤ m ∧ m ≤ 3)) (w : World) :
    Calls Try.prog 15 #[.int .i64 q, .int .i64 m, .int .i64 a] w fun e w' => e = .returned (.tuple #[.slice none 0 0, .int .i64 2]) ∧ Below w.heap.size w w' := by
  have hc : (decide (q < 2) || decide (3 < q) || decide (m < a) || decide (3 < m)) = true := by
    simp only [Bool.or_eq_true, decide_eq_true_eq]; omega
  by_cases h1 : q < 2
  · clear h hc
    go_enter Try.func15, Try.ntmps15
    go_wp2_with fail
    go_ret2
    exact ⟨rfl, Below.refl _ _⟩
  · by_cases h2 : 3 < q
    · clear h hc
      go_enter Try.func15, Try.ntmps15
      go_wp2_with fail
      go_ret2
      exact ⟨rfl, Below.refl _ _⟩
    · by_cases h3 : m < a
      · clear h hc
        go_enter Try.func15, Try.ntmps15
        go_wp2_with fail
        go_ret2
        exact ⟨rfl, Below.refl _ _⟩
      · have h4 : 3 < m := by omega
        clear h hc
        go_enter Try.func15, Try.ntmps15
        go_wp2_with fail
        go_ret2
        exact ⟨rfl, Below.refl _ _⟩

theorem flat3_get (q : Int) (Ws : List Int) (k j : Nat) (hk : k < Ws.length) (hj : j < 3) : (flat3 q Ws)[k * 3 + j]? = some (.int .i64 (gi (c3 q (gi Ws k)) j)) := by
  induction Ws generalizing k with
  | nil => simp at hk
  | cons x Ws ih =>
    have e : flat3 q (x :: Ws) = (c3 q x).map (Value.int .i64) ++ flat3 q Ws := rfl
    rw [e]
    cases k with
    | zero =>
      rw [List.getElem?_append_left (by rw [List.length_map, c3_len]; omega), Nat.zero_mul, Nat.zero_add]
      exact gi_map _ j (by rw [c3_len]; exact hj)
    | succ k =>
      rw [List.getElem?_append_right (by rw [List.length_map, c3_len]; omega), List.length_map, c3_len, show (k + 1) * 3 + j - 3 = k * 3 + j by omega]
      have := ih k (by simpa using hk)
      rw [this]; rfl
theorem own3_cells {q : Int} {w : World} {base : Nat} {a : Option Addr} {n c : Nat} {Ws : List Int} (h : OwnA3 q w base (.slice a n c) Ws) (h1 : 0 < Ws.length) :
    ∃ g, a = some ⟨g, 0, none⟩ ∧ g < w.heap.size ∧ ∀ k j, k < Ws.length → j < 3 → w.cell? ⟨g, k * 3 + j, none⟩ = some (.int .i64 (gi (c3 q (gi Ws k)) j)) := by
  rcases h.2 with ⟨_, h0⟩ | ⟨g, cap, cur, hv, _⟩
  · omega
  · simp only [Value.slice.injEq] at hv
    obtain ⟨rfl, rfl, rfl⟩ := hv
    exact ⟨g, rfl, (World.ownsRow.lt h g rfl).2, fun k j hk hj => by rw [World.ownsRow.cellAt h (k * 3 + j) (by omega)]; exact flat3_get q Ws k j hk hj⟩
theorem und3 : Try.prog.underlying 44 = some (.array (Try.prog.arrayLen 44) (Try.prog.elem 44)) := by kernel_rfl
theorem len3 : Try.prog.arrayLen 44 = 3 := by kernel_rfl
theorem size3 (w : World) : (sizeOf (Try.prog.elem 44)).run Try.prog w = .ok 1 w := by kernel_rfl
theorem slice3 (w : World) (B M : Nat) (h1 : 1 ≤ M) (h3 : M ≤ 3) :
    Sem.run Try.prog (Instr.sliceAt 44 (.pointer (some ⟨B, 0, none⟩)) (some (.int .i64 (3 - (M : Int)))) none none) w = .ok (.slice (some ⟨B, 3 - M, none⟩) M M) w := by
  rw [run_sliceAt_array_l w _ _ und3 .i64 (3 - (M : Int)) (by omega) (by rw [len3]; omega), size3]
  have e : (3 - (M : Int)).toNat = 3 - M := by omega
  simp only [Result.andThen, slicedAt, len3, e, Nat.mul_one]
  rw [if_neg (by omega), show 3 - (3 - M) = M by omega]
  have hadd : (⟨B, 0, none⟩ : Addr).add (3 - M) = ⟨B, 3 - M, none⟩ := by unfold Addr.add; split <;> simp_all
  rw [hadd]
theorem ints_drop3 {w : World} {B M : Nat} {q x : Int} (hB : B < w.heap.size) (h : ∀ j, j < 3 → w.cell? ⟨B, j, none⟩ = some (.int .i64 (gi (c3 q x) j))) : Ints w (some ⟨B, 3 - M, none⟩) ((c3 q x).drop (3 - M)) := by
  refine .inr ⟨B, 3 - M, rfl, hB, fun i hi => ?_⟩
  rw [List.length_drop, c3_len] at hi
  rw [h (3 - M + i) (by omega)]
  simp [gi, List.getD, List.getElem?_drop]
theorem wcl_pos {q : Int} (hq : q = 2 ∨ q = 3) {m : Nat} (hm : m = 1 ∨ m = 2 ∨ m = 3) : 0 < (wcl q m).length := by
  rcases hq with rfl | rfl <;> rcases hm with rfl | rfl | rfl <;> decide

end Go.Proofs.Ythfddfhjcadomaa
