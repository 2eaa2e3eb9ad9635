/-
  The contracts of the error of a space, a code and a place, in the program and in the model. By an AI agent.
-/
import Derived.Test.YtcbkmmadejbbpaaMathB
import Derived.Test.YtcbkmmadejbbpaaCode2
import Derived.Test.YtcbkmmadejbbpaaCode
import Derived.Shelf.Abstract
namespace Go.Proofs.Ytcbkmmadejbbpaa
open Go.RowKit Go.Shelf Cv
set_option linter.unusedVariables false
set_option linter.unusedSimpArgs false
set_option maxRecDepth 100000

theorem placeError_any (ao : Option Addr) (S : List Int) (cap : Nat) (hn : S.length ≤ 4294967296) (ac : Option Addr) (C : List Int) (capc : Nat) (hnc : C.length ≤ 4294967296) (i : Int) (w : World) (hS : Ints w ao S) (hC : Ints w ac C) :
    Calls Try.prog 91 #[.agg #[.slice ao S.length cap], .slice ac C.length capc, .int .i64 i] w fun e w' => e = .returned (.int .i64 (ePlc S C i)) ∧ Below w.heap.size w w' := by
  have B0 : Below w.heap.size w (w.alloc (.cells #[.slice ao S.length cap] 26)) := by go_grown
  have c0 := cell_new w (.slice ao S.length cap) 26
  have l0 := lt_alloc w (.cells #[.slice ao S.length cap] 26)
  have h1 := codeError_any ao S cap hn ac C capc hnc _ (hS.below B0) (hC.below B0)
  by_cases hz : eCode S C = 0
  · rw [hz] at h1
    have H1 := Lib.hid h1
    have HE : Hid (ePlc S C i = if 0 ≤ i ∧ i < S.length then 0 else 2) := Lib.hid (by unfold ePlc; rw [if_pos hz])
    clear hz h1
    by_cases i0 : i < 0
    · have HR : Hid (ePlc S C i = 2) := Lib.hid (by rw [HE.out, if_neg (by omega)])
      have hd : decide (i < 0) = true := by simpa using i0
      go_enter Try.func91, Try.ntmps91
      go_wp2_with fail
      refine H1.out.mono ?_
      rintro e w1 ⟨rfl, hb⟩
      have c1 := kept_cell hb c0 l0
      go_wp2_with fail
      go_ret
      exact ⟨ret_int HR.out.symm, B0.trans (hb.mono B0.size)⟩
    · have hd : decide (i < 0) = false := by simpa using i0
      by_cases i1 : (S.length : Int) ≤ i
      · have HR : Hid (ePlc S C i = 2) := Lib.hid (by rw [HE.out, if_neg (by omega)])
        have hd1 : decide ((S.length : Int) ≤ i) = true := by simpa using i1
        go_enter Try.func91, Try.ntmps91
        go_wp2_with fail
        refine H1.out.mono ?_
        rintro e w1 ⟨rfl, hb⟩
        have c1 := kept_cell hb c0 l0
        go_wp2_with fail
        go_ret
        exact ⟨ret_int HR.out.symm, B0.trans (hb.mono B0.size)⟩
      · have HR : Hid (ePlc S C i = 0) := Lib.hid (by rw [HE.out, if_pos (by omega)])
        have hd1 : decide ((S.length : Int) ≤ i) = false := by simpa using i1
        go_enter Try.func91, Try.ntmps91
        go_wp2_with fail
        refine H1.out.mono ?_
        rintro e w1 ⟨rfl, hb⟩
        have c1 := kept_cell hb c0 l0
        go_wp2_with fail
        go_ret
        exact ⟨ret_int HR.out.symm, B0.trans (hb.mono B0.size)⟩
  · have HR : Hid (ePlc S C i = eCode S C) := Lib.hid (by unfold ePlc; rw [if_neg hz])
    have hq : (eCode S C == 0) = false := by simpa using hz
    clear hz
    go_enter Try.func91, Try.ntmps91
    go_wp2_with fail
    refine h1.mono ?_
    rintro e w1 ⟨rfl, hb⟩
    go_wp2_with fail
    go_ret
    exact ⟨ret_int HR.out.symm, B0.trans (hb.mono B0.size)⟩


end Go.Proofs.Ytcbkmmadejbbpaa
