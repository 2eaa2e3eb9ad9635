/-
  The contracts of the functions of the first chapter that check words and hand on. By an AI agent.
-/
import Derived.Test.YtamebfbddoeflaaPkSums2
import Derived.Test.YtamebfbddoeflaaPkMath
namespace Go.Proofs.Ytamebfbddoeflaa
open Go.RowKit Cv
set_option linter.unusedVariables false
set_option linter.unusedSimpArgs false
set_option maxRecDepth 100000

theorem ret2 {a b c d : Int} (h1 : a = b) (h2 : c = d) : Ending.returned (.tuple #[.int .i64 a, .int .i64 c]) = .returned (.tuple #[.int .i64 b, .int .i64 d]) := by rw [h1, h2]
theorem own_nil (w : World) (base : Nat) : OwnInts w base (.slice none 0 0) [] := World.ownsRow_nil _ _ _ _

theorem impl_CountWords (ao : Option Addr) (S : List Int) (cap : Nat) (hn : S.length ≤ 4294967296) (w : World) (hS : Ints w ao S) :
    Calls Try.prog 14 #[.agg #[.slice ao S.length cap]] w fun e w' => e = .returned (.tuple #[.int .i64 (vCount S), .int .i64 (eSp S)]) ∧ Below w.heap.size w w' := by
  have B0 : Below w.heap.size w (w.alloc (.cells #[.slice ao S.length cap] 26)) := by go_grown
  by_cases hsp : isSp S = true
  · have HV := Lib.hid (show vCount S = nW S from by simp only [vCount, if_pos hsp])
    have HE := Lib.hid (show eSp S = 0 from by simp only [eSp, if_pos hsp])
    have HSp := Lib.hid ((isSp_iff S).1 hsp)
    go_enter Try.func14, Try.ntmps14
    go_wp2_with fail
    refine (IsSpace_any ao S cap _ hn (hS.below B0)).mono ?_
    rintro e w1 ⟨rfl, hb⟩
    have c1 := kept_cell hb (cell_new w (.slice ao S.length cap) 26) (lt_alloc _ _)
    have B1 : Below w.heap.size w w1 := B0.trans (hb.mono B0.size)
    go_wp2_with fail
    refine (wordCount_sp ao S cap _ HSp.out (hS.below B1)).mono ?_
    rintro e w2 ⟨rfl, hb2⟩
    go_wp2_with fail
    go_ret2
    exact ⟨ret2 HV.out.symm HE.out.symm, B1.trans (hb2.mono B1.size)⟩
  · have HV := Lib.hid (show vCount S = 0 from by simp only [vCount, if_neg hsp])
    have HE := Lib.hid (show eSp S = 1 from by simp only [eSp, if_neg hsp])
    have hsp' : isSp S = false := by simpa using hsp
    clear hsp
    go_enter Try.func14, Try.ntmps14
    go_wp2_with (go_at_call 35; refine (IsSpace_any ao S cap _ hn (hS.below B0)).mono ?_; rintro e w1 ⟨rfl, hb⟩)
    go_ret2
    exact ⟨ret2 HV.out.symm HE.out.symm, B0.trans (hb.mono B0.size)⟩

end Go.Proofs.Ytamebfbddoeflaa
