/-
  The contract of the model of NearestWord. By an AI agent.
-/
import Derived.Test.YtdacokgmcenjoaaDoorMathB
import Derived.Test.YtdacokgmcenjoaaDoorLinS
import Derived.Test.YtdacokgmcenjoaaDoorShA
import Derived.Deep.RegionHeld3
namespace Go.Proofs.YtdacokgmcenjoaaDoor
open Go.RowKit Cv
set_option linter.unusedVariables false
set_option linter.unusedSimpArgs false
set_option maxRecDepth 100000

theorem l05Given_any (ao : Option Addr) (S : List Int) (cap : Nat) (hn : S.length ≤ 4294967296) (ac : Option Addr) (C : List Int) (capc : Nat) (hnc : C.length ≤ 4294967296) (w : World) (hS : Ints w ao S) (hC : Ints w ac C) :
    Calls Tryd.prog 21 #[.agg #[.slice ao S.length cap], .slice ac C.length capc] w fun e w' => e = .returned (.int .i64 (eLin S C)) ∧ Below w.heap.size w w' := by
  have B0 : Below w.heap.size w (w.alloc (.cells #[.slice ao S.length cap] 28)) := by go_grown
  have c0 := cell_new w (.slice ao S.length cap) 28
  have l0 := lt_alloc w (.cells #[.slice ao S.length cap] 28)
  have h1 := l01Given_any ao S cap hn ac C capc hnc _ (hS.below B0) (hC.below B0)
  by_cases hz : eCode S C = 0
  · rw [hz] at h1
    have H1 := Lib.hid h1
    have HL := Lib.hid (lin_same hz)
    cases hl : linB S C with
    | true =>
      have HE : Hid (eLin S C = 0) := Lib.hid (by unfold eLin; rw [if_pos hz, if_pos hl])
      have HZ := Lib.hid hz
      rw [hl] at HL
      clear hz h1 hl
      go_enter Tryd.func21, Tryd.ntmps21
      go_wp2_with fail
      refine H1.out.mono ?_
      rintro e w1 ⟨rfl, hb⟩
      have c1 := kept_cell hb c0 l0
      have B1 := B0.trans (hb.mono B0.size)
      clear hb c0 l0 B0
      go_wp2_with fail
      refine (l05Linear_any ao S cap hn ac C capc HZ.out _ (hS.below B1) (hC.below B1)).mono ?_
      rw [HL.out]
      rintro e w2 ⟨rfl, hb2⟩
      go_wp2_with fail
      go_ret
      exact ⟨ret_int HE.out.symm, B1.trans (hb2.mono B1.size)⟩
    | false =>
      have HE : Hid (eLin S C = 5) := Lib.hid (by unfold eLin; rw [if_pos hz, if_neg (by rw [hl]; decide)])
      have HZ := Lib.hid hz
      rw [hl] at HL
      clear hz h1 hl
      go_enter Tryd.func21, Tryd.ntmps21
      go_wp2_with fail
      refine H1.out.mono ?_
      rintro e w1 ⟨rfl, hb⟩
      have c1 := kept_cell hb c0 l0
      have B1 := B0.trans (hb.mono B0.size)
      clear hb c0 l0 B0
      go_wp2_with fail
      refine (l05Linear_any ao S cap hn ac C capc HZ.out _ (hS.below B1) (hC.below B1)).mono ?_
      rw [HL.out]
      rintro e w2 ⟨rfl, hb2⟩
      go_wp2_with fail
      go_ret
      exact ⟨ret_int HE.out.symm, B1.trans (hb2.mono B1.size)⟩
  · have HE : Hid (eLin S C = eCode S C) := Lib.hid (by unfold eLin; rw [if_neg hz])
    have hq : (eCode S C == 0) = false := by simpa using hz
    clear hz
    go_enter Tryd.func21, Tryd.ntmps21
    go_wp2_with fail
    refine h1.mono ?_
    rintro e w1 ⟨rfl, hb⟩
    go_wp2_with fail
    go_ret
    exact ⟨ret_int HE.out.symm, B0.trans (hb.mono B0.size)⟩

end Go.Proofs.YtdacokgmcenjoaaDoor
