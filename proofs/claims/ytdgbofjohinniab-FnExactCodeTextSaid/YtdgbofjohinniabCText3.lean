/-
  The contracts of CodeText itself. By an AI agent.
-/
import Derived.Test.YtdgbofjohinniabCText2
namespace Go.Proofs.Ytdgbofjohinniab
open Go.RowKit Cv
set_option linter.unusedVariables false
set_option linter.unusedSimpArgs false
set_option maxRecDepth 100000

set_option maxHeartbeats 4000000 in
theorem spec_CodeText (ao : Option Addr) (S : List Int) (cap : Nat) (hn : S.length ≤ 4294967296) (ac : Option Addr) (C : List Int) (capc : Nat) (hnc : C.length ≤ 4294967296) (w : World) (hS : Ints w ao S) (hC : Ints w ac C) :
    Calls Try.prog 35 #[.agg #[.slice ao S.length cap], .slice ac C.length capc] w fun e w' => e = .returned (.tuple #[.string (vCText S C), .int .i64 (eCText S C)]) ∧ Below w.heap.size w w' := by
  have B0 : Below w.heap.size w (w.alloc (.cells #[.slice ao S.length cap] 28)) := by go_grown
  by_cases hz : eCode S C = 0
  · obtain ⟨hSp, hc1, hc2⟩ := eCode_zero hz
    obtain ⟨N1, N2⟩ := nW_bd hSp
    have hlen := code_len hSp hc1 hc2
    have HSp := Lib.hid hSp
    have HC1 : Hid (∀ i, i < C.length → 0 ≤ gi C i ∧ gi C i ≤ 9223372036854775807) := Lib.hid fun i h => by have := hc1 i h; omega
    have hzb : (eCode S C == 0) = true := by simp [hz]
    have hzn : (eCode S C != 0) = false := by simp [hz]
    have HZ := Lib.hid hz
    clear hSp hc1 hc2 N1 N2
    by_cases h2 : C.length = 0
    · have HV : Hid (vCText S C = ⟨#[]⟩) := Lib.hid (by simp only [vCText, if_pos hz, h2]; rfl)
      have HE : Hid (eCText S C = 5) := Lib.hid (by simp only [eCText, if_pos hz, if_pos h2])
      obtain rfl : C = [] := List.eq_nil_of_length_eq_zero h2
      clear hz h2
      go_enter Try.func35, Try.ntmps35
      go_wp2_with fail
      refine (l01Given_any ao S cap hn ac [] capc hnc _ (hS.below B0) (hC.below B0)).mono ?_
      rintro e w1 ⟨rfl, hb⟩
      go_wp2_with fail
      go_ret2
      exact ⟨ret_si HV.out.symm HE.out.symm, B0.trans (hb.mono B0.size)⟩
    · have HV : Hid (vCText S C = cTxt S C C.length) := Lib.hid (by simp only [vCText, if_pos hz])
      have HE : Hid (eCText S C = 0) := Lib.hid (by simp only [eCText, if_pos hz, if_neg h2])
      have hd : ((C.length : Int) == 0) = false := by rw [beq_eq_false_iff_ne]; omega
      clear hz
      go_enter Try.func35, Try.ntmps35
      go_wp2_with fail
      refine (l01Given_any ao S cap hn ac C capc hnc _ (hS.below B0) (hC.below B0)).mono ?_
      rintro e w1 ⟨rfl, hb⟩
      have c1 := kept_cell hb (cell_new w (.slice ao S.length cap) 28) (lt_alloc _ _)
      have B1 : Below w.heap.size w w1 := B0.trans (hb.mono B0.size)
      clear hb B0
      go_wp2_with fail
      refine (l01Text_any ao S cap HSp.out ac C capc hlen HC1.out _ (hS.below B1) (hC.below B1)).mono ?_
      rintro e w2 ⟨rfl, hb2⟩
      go_wp2_with fail
      go_ret2
      exact ⟨ret_si HV.out.symm HE.out.symm, B1.trans (hb2.mono B1.size)⟩
  · have HV : Hid (vCText S C = ⟨#[]⟩) := Lib.hid (by simp only [vCText, if_neg hz])
    have HE : Hid (eCText S C = eCode S C) := Lib.hid (by simp only [eCText, if_neg hz])
    have hzb : (eCode S C == 0) = false := by simpa using hz
    have hzn : (eCode S C != 0) = true := by simpa using hz
    clear hz
    go_enter Try.func35, Try.ntmps35
    go_wp2_with fail
    refine (l01Given_any ao S cap hn ac C capc hnc _ (hS.below B0) (hC.below B0)).mono ?_
    rintro e w1 ⟨rfl, hb⟩
    go_wp2_with fail
    go_ret2
    exact ⟨ret_si HV.out.symm HE.out.symm, B0.trans (hb.mono B0.size)⟩

set_option maxHeartbeats 4000000 in
theorem impl_CodeText (ao : Option Addr) (S : List Int) (cap : Nat) (hn : S.length ≤ 4294967296) (ac : Option Addr) (C : List Int) (capc : Nat) (hnc : C.length ≤ 4294967296) (w : World) (hS : Ints w ao S) (hC : Ints w ac C) :
    Calls Try.prog 36 #[.agg #[.slice ao S.length cap], .slice ac C.length capc] w fun e w' => e = .returned (.tuple #[.string (vCText S C), .int .i64 (eCText S C)]) ∧ Below w.heap.size w w' := by
  have B0 : Below w.heap.size w (w.alloc (.cells #[.slice ao S.length cap] 28)) := by go_grown
  by_cases hz : eCode S C = 0
  · obtain ⟨hSp, hc1, hc2⟩ := eCode_zero hz
    obtain ⟨N1, N2⟩ := nW_bd hSp
    have hlen := code_len hSp hc1 hc2
    have HSp := Lib.hid hSp
    have HC1 : Hid (∀ i, i < C.length → 0 ≤ gi C i ∧ gi C i ≤ 9223372036854775807) := Lib.hid fun i h => by have := hc1 i h; omega
    have hzb : (eCode S C == 0) = true := by simp [hz]
    have hzn : (eCode S C != 0) = false := by simp [hz]
    have HZ := Lib.hid hz
    clear hSp hc1 hc2 N1 N2
    by_cases h2 : C.length = 0
    · have HV : Hid (vCText S C = ⟨#[]⟩) := Lib.hid (by simp only [vCText, if_pos hz, h2]; rfl)
      have HE : Hid (eCText S C = 5) := Lib.hid (by simp only [eCText, if_pos hz, if_pos h2])
      obtain rfl : C = [] := List.eq_nil_of_length_eq_zero h2
      clear hz h2
      go_enter Try.func36, Try.ntmps36
      go_wp2_with fail
      refine (codeError_any ao S cap hn ac [] capc hnc _ (hS.below B0) (hC.below B0)).mono ?_
      rintro e w1 ⟨rfl, hb⟩
      go_wp2_with fail
      go_ret2
      exact ⟨ret_si HV.out.symm HE.out.symm, B0.trans (hb.mono B0.size)⟩
    · have HV : Hid (vCText S C = cTxt S C C.length) := Lib.hid (by simp only [vCText, if_pos hz])
      have HE : Hid (eCText S C = 0) := Lib.hid (by simp only [eCText, if_pos hz, if_neg h2])
      have hd : ((C.length : Int) == 0) = false := by rw [beq_eq_false_iff_ne]; omega
      clear hz
      go_enter Try.func36, Try.ntmps36
      go_wp2_with fail
      refine (codeError_any ao S cap hn ac C capc hnc _ (hS.below B0) (hC.below B0)).mono ?_
      rintro e w1 ⟨rfl, hb⟩
      have c1 := kept_cell hb (cell_new w (.slice ao S.length cap) 28) (lt_alloc _ _)
      have B1 : Below w.heap.size w w1 := B0.trans (hb.mono B0.size)
      clear hb B0
      go_wp2_with fail
      refine (codeText_any ao S cap HSp.out ac C capc hlen HC1.out _ (hS.below B1) (hC.below B1)).mono ?_
      rintro e w2 ⟨rfl, hb2⟩
      go_wp2_with fail
      go_ret2
      exact ⟨ret_si HV.out.symm HE.out.symm, B1.trans (hb2.mono B1.size)⟩
  · have HV : Hid (vCText S C = ⟨#[]⟩) := Lib.hid (by simp only [vCText, if_neg hz])
    have HE : Hid (eCText S C = eCode S C) := Lib.hid (by simp only [eCText, if_neg hz])
    have hzb : (eCode S C == 0) = false := by simpa using hz
    have hzn : (eCode S C != 0) = true := by simpa using hz
    clear hz
    go_enter Try.func36, Try.ntmps36
    go_wp2_with fail
    refine (codeError_any ao S cap hn ac C capc hnc _ (hS.below B0) (hC.below B0)).mono ?_
    rintro e w1 ⟨rfl, hb⟩
    go_wp2_with fail
    go_ret2
    exact ⟨ret_si HV.out.symm HE.out.symm, B0.trans (hb.mono B0.size)⟩

end Go.Proofs.Ytdgbofjohinniab
