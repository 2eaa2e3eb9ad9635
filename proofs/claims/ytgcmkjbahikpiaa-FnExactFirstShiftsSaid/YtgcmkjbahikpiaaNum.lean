/-
  The contracts of what tells the errors of chapter 4. By an AI agent.
-/
import Derived.Test.YtgcmkjbahikpiaaMath
import Derived.Test.YtgcmkjbahikpiaaErr2
namespace Go.Proofs.Ytgcmkjbahikpiaa
open Go.RowKit Cv
set_option linter.unusedVariables false
set_option linter.unusedSimpArgs false
set_option maxRecDepth 100000

set_option maxHeartbeats 1000000 in
theorem l04Code_any (ao : Option Addr) (S : List Int) (cap : Nat) (hn : S.length ≤ 4294967296) (x lo hi : Int) (w : World) (hS : Ints w ao S) :
    Calls Try.prog 111 #[.agg #[.slice ao S.length cap], .int .i64 x, .int .i64 lo, .int .i64 hi] w fun e w' => e = .returned (.int .i64 (eNum S x lo hi)) ∧ Below w.heap.size w w' := by
  have B0 : Below w.heap.size w (w.alloc (.cells #[.slice ao S.length cap] 28)) := by go_grown
  by_cases hsp : isSp S = true
  · by_cases hx : lo ≤ x ∧ x ≤ hi
    · have HE := Lib.hid (eNum_ok hsp hx.1 hx.2)
      have B2 := inB_true (n := x) (low := lo) (high := hi) hx.1 hx.2
      clear hx
      go_enter Try.func111, Try.ntmps111
      go_wp2_with fail
      refine (l01Is_any ao S cap _ hn (hS.below B0)).mono ?_
      rintro e w1 ⟨rfl, hb⟩
      go_wp2_with (go_at_call 55; refine (l01In_any _ _ _ _).mono ?_; rintro e w' ⟨rfl, rfl⟩)
      go_ret
      exact ⟨ret_int HE.out.symm, B0.trans (hb.mono B0.size)⟩
    · have HE := Lib.hid (eNum_out hsp hx)
      have B2 := inB_false (n := x) (low := lo) (high := hi) hx
      clear hx
      go_enter Try.func111, Try.ntmps111
      go_wp2_with fail
      refine (l01Is_any ao S cap _ hn (hS.below B0)).mono ?_
      rintro e w1 ⟨rfl, hb⟩
      go_wp2_with (go_at_call 55; refine (l01In_any _ _ _ _).mono ?_; rintro e w' ⟨rfl, rfl⟩)
      go_ret
      exact ⟨ret_int HE.out.symm, B0.trans (hb.mono B0.size)⟩
  · have hsp' : isSp S = false := by simpa using hsp
    have HE := Lib.hid (eNum_inv (x := x) (lo := lo) (hi := hi) hsp')
    clear hsp
    go_enter Try.func111, Try.ntmps111
    go_wp2_with (go_at_call 104; refine (l01Is_any ao S cap _ hn (hS.below B0)).mono ?_; rintro e w1 ⟨rfl, hb⟩)
    go_ret
    exact ⟨ret_int HE.out.symm, B0.trans (hb.mono B0.size)⟩

set_option maxHeartbeats 1000000 in
theorem numberError_any (ao : Option Addr) (S : List Int) (cap : Nat) (hn : S.length ≤ 4294967296) (x lo hi : Int) (w : World) (hS : Ints w ao S) :
    Calls Try.prog 115 #[.agg #[.slice ao S.length cap], .int .i64 x, .int .i64 lo, .int .i64 hi] w fun e w' => e = .returned (.int .i64 (eNum S x lo hi)) ∧ Below w.heap.size w w' := by
  have B0 : Below w.heap.size w (w.alloc (.cells #[.slice ao S.length cap] 28)) := by go_grown
  by_cases hsp : isSp S = true
  · by_cases h1 : x < lo
    · have HE : Hid (eNum S x lo hi = 2) := Lib.hid (eNum_out hsp (by omega))
      have hd : decide (x < lo) = true := by simpa using h1
      go_enter Try.func115, Try.ntmps115
      go_wp2_with fail
      refine (IsSpace_any ao S cap _ hn (hS.below B0)).mono ?_
      rintro e w1 ⟨rfl, hb⟩
      go_wp2_with fail
      go_ret
      exact ⟨ret_int HE.out.symm, B0.trans (hb.mono B0.size)⟩
    · by_cases h2 : hi < x
      · have HE : Hid (eNum S x lo hi = 2) := Lib.hid (eNum_out hsp (by omega))
        have hd : decide (x < lo) = false := by simpa using h1
        have hd2 : decide (hi < x) = true := by simpa using h2
        go_enter Try.func115, Try.ntmps115
        go_wp2_with fail
        refine (IsSpace_any ao S cap _ hn (hS.below B0)).mono ?_
        rintro e w1 ⟨rfl, hb⟩
        go_wp2_with fail
        go_ret
        exact ⟨ret_int HE.out.symm, B0.trans (hb.mono B0.size)⟩
      · have HE : Hid (eNum S x lo hi = 0) := Lib.hid (eNum_ok hsp (by omega) (by omega))
        have hd : decide (x < lo) = false := by simpa using h1
        have hd2 : decide (hi < x) = false := by simpa using h2
        go_enter Try.func115, Try.ntmps115
        go_wp2_with fail
        refine (IsSpace_any ao S cap _ hn (hS.below B0)).mono ?_
        rintro e w1 ⟨rfl, hb⟩
        go_wp2_with fail
        go_ret
        exact ⟨ret_int HE.out.symm, B0.trans (hb.mono B0.size)⟩
  · have hsp' : isSp S = false := by simpa using hsp
    have HE := Lib.hid (eNum_inv (x := x) (lo := lo) (hi := hi) hsp')
    clear hsp
    go_enter Try.func115, Try.ntmps115
    go_wp2_with (go_at_call 135; refine (IsSpace_any ao S cap _ hn (hS.below B0)).mono ?_; rintro e w1 ⟨rfl, hb⟩)
    go_ret
    exact ⟨ret_int HE.out.symm, B0.trans (hb.mono B0.size)⟩

end Go.Proofs.Ytgcmkjbahikpiaa
