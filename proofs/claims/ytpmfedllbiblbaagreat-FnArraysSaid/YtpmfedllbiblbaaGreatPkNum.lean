/-
  The contracts of what tells the errors of chapter 4. By an AI agent.
-/
import Derived.Test.YtpmfedllbiblbaaGreatPkMath
import Derived.Test.YtpmfedllbiblbaaGreatPkErr2
namespace Go.Proofs.YtpmfedllbiblbaaGreat
open Go.RowKit Cv
set_option linter.unusedVariables false
set_option linter.unusedSimpArgs false
set_option maxRecDepth 100000

set_option maxHeartbeats 1000000 in
theorem numberError_any (ao : Option Addr) (S : List Int) (cap : Nat) (hn : S.length ≤ 4294967296) (x lo hi : Int) (w : World) (hS : Ints w ao S) :
    Calls Tryz.prog 80 #[.agg #[.slice ao S.length cap], .int .i64 x, .int .i64 lo, .int .i64 hi] w fun e w' => e = .returned (.int .i64 (eNum S x lo hi)) ∧ Below w.heap.size w w' := by
  have B0 : Below w.heap.size w (w.alloc (.cells #[.slice ao S.length cap] 26)) := by go_grown
  by_cases hsp : isSp S = true
  · by_cases h1 : x < lo
    · have HE : Hid (eNum S x lo hi = 2) := Lib.hid (eNum_out hsp (by omega))
      have hd : decide (x < lo) = true := by simpa using h1
      go_enter Tryz.func80, Tryz.ntmps80
      go_wp2_with fail
      refine (IsSpace_any ao S cap _ hn (hS.below B0)).mono ?_
      rintro e w1 ⟨rfl, hb⟩
      go_wp2_with fail
      go_ret
      exact ⟨ret_int HE.out.symm, B0.trans (hb.mono B0.size)⟩
    · by_cases h2 : hi < x
      · have HE : Hid (eNum S x lo hi = 2) := Lib.hid (eNum_out hsp (by omega))
        have hd : decide (x < lo) = false := by simpa using h1
        have hd2 : decide (hi < x) = true := by simpa using h2
        go_enter Tryz.func80, Tryz.ntmps80
        go_wp2_with fail
        refine (IsSpace_any ao S cap _ hn (hS.below B0)).mono ?_
        rintro e w1 ⟨rfl, hb⟩
        go_wp2_with fail
        go_ret
        exact ⟨ret_int HE.out.symm, B0.trans (hb.mono B0.size)⟩
      · have HE : Hid (eNum S x lo hi = 0) := Lib.hid (eNum_ok hsp (by omega) (by omega))
        have hd : decide (x < lo) = false := by simpa using h1
        have hd2 : decide (hi < x) = false := by simpa using h2
        go_enter Tryz.func80, Tryz.ntmps80
        go_wp2_with fail
        refine (IsSpace_any ao S cap _ hn (hS.below B0)).mono ?_
        rintro e w1 ⟨rfl, hb⟩
        go_wp2_with fail
        go_ret
        exact ⟨ret_int HE.out.symm, B0.trans (hb.mono B0.size)⟩
  · have hsp' : isSp S = false := by simpa using hsp
    have HE := Lib.hid (eNum_inv (x := x) (lo := lo) (hi := hi) hsp')
    clear hsp
    go_enter Tryz.func80, Tryz.ntmps80
    go_wp2_with (go_at_call 95; refine (IsSpace_any ao S cap _ hn (hS.below B0)).mono ?_; rintro e w1 ⟨rfl, hb⟩)
    go_ret
    exact ⟨ret_int HE.out.symm, B0.trans (hb.mono B0.size)⟩

end Go.Proofs.YtpmfedllbiblbaaGreat
