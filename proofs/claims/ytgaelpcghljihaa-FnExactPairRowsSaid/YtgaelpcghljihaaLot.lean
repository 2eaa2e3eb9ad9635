/-
  The contracts of what says whether there is a lottery, and of its copy in the laws. By an AI agent.
-/
import Derived.Test.YtgaelpcghljihaaMathL
import Derived.Test.YtgaelpcghljihaaSpace
namespace Go.Proofs.Ytgaelpcghljihaa
open Go.RowKit Cv
set_option linter.unusedVariables false
set_option linter.unusedSimpArgs false
set_option maxRecDepth 100000

/-- the parts of a lottery in the block b -/
structure LotAt (w : World) (b : Nat) (v p d h : Int) : Prop where
  c0 : w.cell? ⟨b, 0, none⟩ = some (.int .i64 v)
  c1 : w.cell? ⟨b, 1, none⟩ = some (.int .i64 p)
  c2 : w.cell? ⟨b, 2, none⟩ = some (.int .i64 d)
  c3 : w.cell? ⟨b, 3, none⟩ = some (.int .i64 h)
  lt : b < w.heap.size
theorem LotAt.below {w w' : World} {b : Nat} {v p d h : Int} (l : LotAt w b v p d h) (hb : Below w.heap.size w w') : LotAt w' b v p d h :=
  ⟨kept_cell hb l.c0 l.lt, kept_cell hb l.c1 l.lt, kept_cell hb l.c2 l.lt, kept_cell hb l.c3 l.lt, lt_of_below hb l.lt⟩
theorem LotAt.belowB {B : Nat} {w w' : World} {b : Nat} {v p d h : Int} (l : LotAt w b v p d h) (hb : Below B w w') (hlt : b < B) : LotAt w' b v p d h :=
  ⟨kept_cell hb l.c0 hlt, kept_cell hb l.c1 hlt, kept_cell hb l.c2 hlt, kept_cell hb l.c3 hlt, lt_of_below hb l.lt⟩
theorem lotAt_new (w : World) (v p d h : Int) (t : TypeId) : LotAt (w.alloc (.cells #[.int .i64 v, .int .i64 p, .int .i64 d, .int .i64 h] t)) w.heap.size v p d h :=
  ⟨by simp, by simp, by simp, by simp, lt_alloc _ _⟩

theorem toLottery_any (v p d h : Int) (w : World) :
    Calls Try.prog 58 #[.agg #[.int .i64 v, .int .i64 p, .int .i64 d, .int .i64 h]] w fun e w' => e = .returned (.agg #[.int .i64 v, .int .i64 p, .int .i64 d, .int .i64 h]) ∧ Below w.heap.size w w' := by
  go_enter Try.func58, Try.ntmps58
  go_wp2_with fail
  refine bodyPost_ret (v := .agg #[.int .i64 v, .int .i64 p, .int .i64 d, .int .i64 h]) (by simp [results, Try.results58, go_sem]) rfl ?_
  exact ⟨rfl, by go_grown⟩

set_option maxHeartbeats 1000000 in
theorem IsLottery_any (v p d h : Int) (w : World) :
    Calls Try.prog 117 #[.agg #[.int .i64 v, .int .i64 p, .int .i64 d, .int .i64 h]] w fun e w' => e = .returned (.bool (lotB v p d h)) ∧ Below w.heap.size w w' := by
  have B0 : Below w.heap.size w (w.alloc (.cells #[.int .i64 v, .int .i64 p, .int .i64 d, .int .i64 h] 26)) := by go_grown
  obtain ⟨c0, c1, c2, c3, l0⟩ := lotAt_new w v p d h 26
  by_cases e : p ≤ d
  case pos =>
    by_cases h1 : 1 ≤ h
    case neg =>
      have HQ : Hid (lotB v p d h = false) := Lib.hid (lot_not fun g => h1 (by have := g.v1; have := g.v2; have := g.p1; have := g.p2; have := g.d1; have := g.d2; have := g.h1; have := g.h2; have := g.h3; omega))
      go_enter Try.func117, Try.ntmps117
      go_wp2_with fail
      all_goals (go_ret; exact ⟨ret_bool HQ.out.symm, B0⟩)
    by_cases h2 : h ≤ p
    case neg =>
      have HQ : Hid (lotB v p d h = false) := Lib.hid (lot_not fun g => h2 (by have := g.v1; have := g.v2; have := g.p1; have := g.p2; have := g.d1; have := g.d2; have := g.h1; have := g.h2; have := g.h3; omega))
      go_enter Try.func117, Try.ntmps117
      go_wp2_with fail
      all_goals (go_ret; exact ⟨ret_bool HQ.out.symm, B0⟩)
    by_cases h3 : d ≤ v
    case neg =>
      have HQ : Hid (lotB v p d h = false) := Lib.hid (lot_not fun g => h3 (by have := g.v1; have := g.v2; have := g.p1; have := g.p2; have := g.d1; have := g.d2; have := g.h1; have := g.h2; have := g.h3; omega))
      go_enter Try.func117, Try.ntmps117
      go_wp2_with fail
      all_goals (go_ret; exact ⟨ret_bool HQ.out.symm, B0⟩)
    by_cases h4 : v ≤ 12
    case neg =>
      have HQ : Hid (lotB v p d h = false) := Lib.hid (lot_not fun g => h4 (by have := g.v1; have := g.v2; have := g.p1; have := g.p2; have := g.d1; have := g.d2; have := g.h1; have := g.h2; have := g.h3; omega))
      go_enter Try.func117, Try.ntmps117
      go_wp2_with fail
      all_goals (go_ret; exact ⟨ret_bool HQ.out.symm, B0⟩)
    have HQ : Hid (lotB v p d h = true) := Lib.hid ((lot_iff v p d h).2 ⟨by omega, by omega, by omega, by omega, by omega, by omega, by omega, by omega, by omega⟩)
    go_enter Try.func117, Try.ntmps117
    go_wp2_with fail
    all_goals (go_ret; exact ⟨ret_bool HQ.out.symm, B0⟩)
  case neg =>
    by_cases h1 : 1 ≤ h
    case neg =>
      have HQ : Hid (lotB v p d h = false) := Lib.hid (lot_not fun g => h1 (by have := g.v1; have := g.v2; have := g.p1; have := g.p2; have := g.d1; have := g.d2; have := g.h1; have := g.h2; have := g.h3; omega))
      go_enter Try.func117, Try.ntmps117
      go_wp2_with fail
      all_goals (go_ret; exact ⟨ret_bool HQ.out.symm, B0⟩)
    by_cases h2 : h ≤ d
    case neg =>
      have HQ : Hid (lotB v p d h = false) := Lib.hid (lot_not fun g => h2 (by have := g.v1; have := g.v2; have := g.p1; have := g.p2; have := g.d1; have := g.d2; have := g.h1; have := g.h2; have := g.h3; omega))
      go_enter Try.func117, Try.ntmps117
      go_wp2_with fail
      all_goals (go_ret; exact ⟨ret_bool HQ.out.symm, B0⟩)
    by_cases h3 : p ≤ v
    case neg =>
      have HQ : Hid (lotB v p d h = false) := Lib.hid (lot_not fun g => h3 (by have := g.v1; have := g.v2; have := g.p1; have := g.p2; have := g.d1; have := g.d2; have := g.h1; have := g.h2; have := g.h3; omega))
      go_enter Try.func117, Try.ntmps117
      go_wp2_with fail
      all_goals (go_ret; exact ⟨ret_bool HQ.out.symm, B0⟩)
    by_cases h4 : v ≤ 12
    case neg =>
      have HQ : Hid (lotB v p d h = false) := Lib.hid (lot_not fun g => h4 (by have := g.v1; have := g.v2; have := g.p1; have := g.p2; have := g.d1; have := g.d2; have := g.h1; have := g.h2; have := g.h3; omega))
      go_enter Try.func117, Try.ntmps117
      go_wp2_with fail
      all_goals (go_ret; exact ⟨ret_bool HQ.out.symm, B0⟩)
    have HQ : Hid (lotB v p d h = true) := Lib.hid ((lot_iff v p d h).2 ⟨by omega, by omega, by omega, by omega, by omega, by omega, by omega, by omega, by omega⟩)
    go_enter Try.func117, Try.ntmps117
    go_wp2_with fail
    all_goals (go_ret; exact ⟨ret_bool HQ.out.symm, B0⟩)

set_option maxHeartbeats 1000000 in
theorem l08Is_any (v p d h : Int) (w : World) :
    Calls Try.prog 114 #[.agg #[.int .i64 v, .int .i64 p, .int .i64 d, .int .i64 h]] w fun e w' => e = .returned (.bool (lotB v p d h)) ∧ Below w.heap.size w w' := by
  have B0 : Below w.heap.size w (w.alloc (.cells #[.int .i64 v, .int .i64 p, .int .i64 d, .int .i64 h] 26)) := by go_grown
  obtain ⟨c0, c1, c2, c3, l0⟩ := lotAt_new w v p d h 26
  by_cases e : p ≤ d
  case pos =>
    by_cases h1 : 1 ≤ v ∧ v ≤ 12
    case neg =>
      have HQ : Hid (lotB v p d h = false) := Lib.hid (lot_not fun g => h1 (by have := g.v1; have := g.v2; have := g.p1; have := g.p2; have := g.d1; have := g.d2; have := g.h1; have := g.h2; have := g.h3; omega))
      have Bh1 := inB_false (n := v) (low := 1) (high := 12) h1
      go_enter Try.func114, Try.ntmps114
      go_wp2_with (go_at_call 62; refine (l01In_any _ _ _ _).mono ?_; rintro e w' ⟨rfl, rfl⟩)
      go_ret
      exact ⟨ret_bool HQ.out.symm, B0⟩
    by_cases h2 : 1 ≤ p ∧ p ≤ v
    case neg =>
      have HQ : Hid (lotB v p d h = false) := Lib.hid (lot_not fun g => h2 (by have := g.v1; have := g.v2; have := g.p1; have := g.p2; have := g.d1; have := g.d2; have := g.h1; have := g.h2; have := g.h3; omega))
      have Bh1 := inB_true (n := v) (low := 1) (high := 12) h1.1 h1.2
      have Bh2 := inB_false (n := p) (low := 1) (high := v) h2
      go_enter Try.func114, Try.ntmps114
      go_wp2_with (go_at_call 62; refine (l01In_any _ _ _ _).mono ?_; rintro e w' ⟨rfl, rfl⟩)
      go_ret
      exact ⟨ret_bool HQ.out.symm, B0⟩
    by_cases h3 : 1 ≤ d ∧ d ≤ v
    case neg =>
      have HQ : Hid (lotB v p d h = false) := Lib.hid (lot_not fun g => h3 (by have := g.v1; have := g.v2; have := g.p1; have := g.p2; have := g.d1; have := g.d2; have := g.h1; have := g.h2; have := g.h3; omega))
      have Bh1 := inB_true (n := v) (low := 1) (high := 12) h1.1 h1.2
      have Bh2 := inB_true (n := p) (low := 1) (high := v) h2.1 h2.2
      have Bh3 := inB_false (n := d) (low := 1) (high := v) h3
      go_enter Try.func114, Try.ntmps114
      go_wp2_with (go_at_call 62; refine (l01In_any _ _ _ _).mono ?_; rintro e w' ⟨rfl, rfl⟩)
      go_ret
      exact ⟨ret_bool HQ.out.symm, B0⟩
    by_cases h4 : 1 ≤ h ∧ h ≤ p
    case neg =>
      have HQ : Hid (lotB v p d h = false) := Lib.hid (lot_not fun g => h4 (by have := g.v1; have := g.v2; have := g.p1; have := g.p2; have := g.d1; have := g.d2; have := g.h1; have := g.h2; have := g.h3; omega))
      have Bh1 := inB_true (n := v) (low := 1) (high := 12) h1.1 h1.2
      have Bh2 := inB_true (n := p) (low := 1) (high := v) h2.1 h2.2
      have Bh3 := inB_true (n := d) (low := 1) (high := v) h3.1 h3.2
      have Bh4 := inB_false (n := h) (low := 1) (high := p) h4
      go_enter Try.func114, Try.ntmps114
      go_wp2_with (go_at_call 62; refine (l01In_any _ _ _ _).mono ?_; rintro e w' ⟨rfl, rfl⟩)
      go_ret
      exact ⟨ret_bool HQ.out.symm, B0⟩
    have HQ : Hid (lotB v p d h = true) := Lib.hid ((lot_iff v p d h).2 ⟨by omega, by omega, by omega, by omega, by omega, by omega, by omega, by omega, by omega⟩)
    have Bh1 := inB_true (n := v) (low := 1) (high := 12) h1.1 h1.2
    have Bh2 := inB_true (n := p) (low := 1) (high := v) h2.1 h2.2
    have Bh3 := inB_true (n := d) (low := 1) (high := v) h3.1 h3.2
    have Bh4 := inB_true (n := h) (low := 1) (high := p) h4.1 h4.2
    go_enter Try.func114, Try.ntmps114
    go_wp2_with (go_at_call 62; refine (l01In_any _ _ _ _).mono ?_; rintro e w' ⟨rfl, rfl⟩)
    go_ret
    exact ⟨ret_bool HQ.out.symm, B0⟩
  case neg =>
    by_cases h1 : 1 ≤ v ∧ v ≤ 12
    case neg =>
      have HQ : Hid (lotB v p d h = false) := Lib.hid (lot_not fun g => h1 (by have := g.v1; have := g.v2; have := g.p1; have := g.p2; have := g.d1; have := g.d2; have := g.h1; have := g.h2; have := g.h3; omega))
      have Bh1 := inB_false (n := v) (low := 1) (high := 12) h1
      go_enter Try.func114, Try.ntmps114
      go_wp2_with (go_at_call 62; refine (l01In_any _ _ _ _).mono ?_; rintro e w' ⟨rfl, rfl⟩)
      go_ret
      exact ⟨ret_bool HQ.out.symm, B0⟩
    by_cases h2 : 1 ≤ p ∧ p ≤ v
    case neg =>
      have HQ : Hid (lotB v p d h = false) := Lib.hid (lot_not fun g => h2 (by have := g.v1; have := g.v2; have := g.p1; have := g.p2; have := g.d1; have := g.d2; have := g.h1; have := g.h2; have := g.h3; omega))
      have Bh1 := inB_true (n := v) (low := 1) (high := 12) h1.1 h1.2
      have Bh2 := inB_false (n := p) (low := 1) (high := v) h2
      go_enter Try.func114, Try.ntmps114
      go_wp2_with (go_at_call 62; refine (l01In_any _ _ _ _).mono ?_; rintro e w' ⟨rfl, rfl⟩)
      go_ret
      exact ⟨ret_bool HQ.out.symm, B0⟩
    by_cases h3 : 1 ≤ d ∧ d ≤ v
    case neg =>
      have HQ : Hid (lotB v p d h = false) := Lib.hid (lot_not fun g => h3 (by have := g.v1; have := g.v2; have := g.p1; have := g.p2; have := g.d1; have := g.d2; have := g.h1; have := g.h2; have := g.h3; omega))
      have Bh1 := inB_true (n := v) (low := 1) (high := 12) h1.1 h1.2
      have Bh2 := inB_true (n := p) (low := 1) (high := v) h2.1 h2.2
      have Bh3 := inB_false (n := d) (low := 1) (high := v) h3
      go_enter Try.func114, Try.ntmps114
      go_wp2_with (go_at_call 62; refine (l01In_any _ _ _ _).mono ?_; rintro e w' ⟨rfl, rfl⟩)
      go_ret
      exact ⟨ret_bool HQ.out.symm, B0⟩
    by_cases h4 : 1 ≤ h ∧ h ≤ d
    case neg =>
      have HQ : Hid (lotB v p d h = false) := Lib.hid (lot_not fun g => h4 (by have := g.v1; have := g.v2; have := g.p1; have := g.p2; have := g.d1; have := g.d2; have := g.h1; have := g.h2; have := g.h3; omega))
      have Bh1 := inB_true (n := v) (low := 1) (high := 12) h1.1 h1.2
      have Bh2 := inB_true (n := p) (low := 1) (high := v) h2.1 h2.2
      have Bh3 := inB_true (n := d) (low := 1) (high := v) h3.1 h3.2
      have Bh4 := inB_false (n := h) (low := 1) (high := d) h4
      go_enter Try.func114, Try.ntmps114
      go_wp2_with (go_at_call 62; refine (l01In_any _ _ _ _).mono ?_; rintro e w' ⟨rfl, rfl⟩)
      go_ret
      exact ⟨ret_bool HQ.out.symm, B0⟩
    have HQ : Hid (lotB v p d h = true) := Lib.hid ((lot_iff v p d h).2 ⟨by omega, by omega, by omega, by omega, by omega, by omega, by omega, by omega, by omega⟩)
    have Bh1 := inB_true (n := v) (low := 1) (high := 12) h1.1 h1.2
    have Bh2 := inB_true (n := p) (low := 1) (high := v) h2.1 h2.2
    have Bh3 := inB_true (n := d) (low := 1) (high := v) h3.1 h3.2
    have Bh4 := inB_true (n := h) (low := 1) (high := d) h4.1 h4.2
    go_enter Try.func114, Try.ntmps114
    go_wp2_with (go_at_call 62; refine (l01In_any _ _ _ _).mono ?_; rintro e w' ⟨rfl, rfl⟩)
    go_ret
    exact ⟨ret_bool HQ.out.symm, B0⟩

theorem lot_inv {v p d h : Int} (g : lotB v p d h = false) : eLot v p d h = 1 := by unfold eLot; rw [g]; rfl
theorem lot_val {v p d h : Int} (g : lotB v p d h = true) : eLot v p d h = 0 := by unfold eLot; rw [if_pos g]

theorem impl_IsLottery (v p d h : Int) (w : World) :
    Calls Try.prog 117 #[.agg #[.int .i64 v, .int .i64 p, .int .i64 d, .int .i64 h]] w fun e w' => e = .returned (.bool (lotB v p d h)) ∧ Below w.heap.size w w' := IsLottery_any v p d h w

end Go.Proofs.Ytgaelpcghljihaa
