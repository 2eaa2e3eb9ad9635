/-
  The contract of the program's IsLinear. By an AI agent.
-/
import Derived.Test.YtdacokgmcenjoaaDoorSpnJ
import Derived.Test.YtdacokgmcenjoaaDoorCode
namespace Go.Proofs.YtdacokgmcenjoaaDoor
open Go.RowKit Cv
set_option linter.unusedVariables false
set_option linter.unusedSimpArgs false
set_option maxRecDepth 100000

set_option maxHeartbeats 1000000 in
theorem isLinear_any (ao : Option Addr) (S : List Int) (cap : Nat) (hn : S.length ≤ 4294967296) (ac : Option Addr) (C : List Int) (capc : Nat) (hE : eCode S C = 0) (w : World) (hS : Ints w ao S) (hC : Ints w ac C) :
    Calls Tryd.prog 53 #[.agg #[.slice ao S.length cap], .slice ac C.length capc] w fun e w' => e = .returned (.bool (linB S C)) ∧ Below w.heap.size w w' := by
  have B0 : Below w.heap.size w (w.alloc (.cells #[.slice ao S.length cap] 28)) := by go_grown
  have c0 := cell_new w (.slice ao S.length cap) 28
  have l0 := lt_alloc w (.cells #[.slice ao S.length cap] 28)
  have hSp := (eCode_zero hE).1
  have hlo := hSp.lo
  have hlen := code_len0 hE
  cases hp : isPl S with
  | true =>
    have HP := Lib.hid (pl_of hSp hp)
    have HW := Lib.hid (code_wd hE)
    have HL : Hid (linB S C = decide ((spTo S C C.length).length = C.length)) := Lib.hid (by unfold linB; rw [hp, Bool.true_and])
    clear hSp hE
    go_enter Tryd.func53, Tryd.ntmps53
    go_wp2_with fail
    refine (isPlain_any ao S cap hlo hn _ (hS.below B0)).mono ?_
    rw [hp]
    rintro e w1 ⟨rfl, hb⟩
    have c1 := kept_cell hb c0 l0
    have B1 := B0.trans (hb.mono B0.size)
    clear hb c0 l0 B0
    go_wp2_with fail
    refine (spanOf_any ao S cap HP.out ac C capc (by omega) HW.out _ (hS.below B1) (hC.below B1)).mono ?_
    rintro e w2 ⟨g, c, rfl, own, hb⟩
    have HB2 := B1.trans (hb.mono B1.size)
    by_cases hq : (spTo S C C.length).length = C.length
    · rw [decide_eq_true hq] at HL
      rw [hq] at own ⊢
      clear hq
      go_wp2_with fail
      go_ret
      exact ⟨ret_bool HL.out.symm, HB2⟩
    · rw [decide_eq_false hq] at HL
      obtain ⟨P, hP⟩ : ∃ P, P = (spTo S C C.length).length := ⟨_, rfl⟩
      rw [← hP] at hq ⊢
      have hq2 : ((P : Int) == (C.length : Int)) = false := by simpa using fun h : (P : Int) = (C.length : Int) => hq (by omega)
      clear hP
      go_wp2_with fail
      go_ret
      exact ⟨ret_bool HL.out.symm, HB2⟩
  | false =>
    have HL : Hid (linB S C = false) := Lib.hid (by unfold linB; rw [hp, Bool.false_and])
    clear hSp hE
    go_enter Tryd.func53, Tryd.ntmps53
    go_wp2_with fail
    refine (isPlain_any ao S cap hlo hn _ (hS.below B0)).mono ?_
    rw [hp]
    rintro e w1 ⟨rfl, hb⟩
    go_wp2_with fail
    go_ret
    exact ⟨ret_bool HL.out.symm, B0.trans (hb.mono B0.size)⟩

end Go.Proofs.YtdacokgmcenjoaaDoor
