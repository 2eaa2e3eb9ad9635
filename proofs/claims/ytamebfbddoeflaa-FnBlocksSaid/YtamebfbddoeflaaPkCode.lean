/-
  The contracts of codes: whether a list is one, and the words that are not in one. By an AI agent.
-/
import Derived.Test.YtamebfbddoeflaaPkF1
import Derived.Test.YtamebfbddoeflaaPkMath
namespace Go.Proofs.Ytamebfbddoeflaa
open Go.RowKit Cv
set_option linter.unusedVariables false
set_option linter.unusedSimpArgs false
set_option maxRecDepth 100000

set_option maxHeartbeats 1000000 in
theorem isStrictlyAscending_any (a : Option Addr) (C : List Int) (c : Nat) (hn : C.length ≤ 4294967296) (w : World) (h : Ints w a C) :
    Calls Try.prog 83 #[.slice a C.length c] w fun e w' => e = .returned (.bool (ascB C C.length)) ∧ Below w.heap.size w w' := by
  go_enter Try.func83, Try.ntmps83
  go_wp2
  go_loopw [3] (fun i wr => ∃ m : Nat, m ≤ C.length ∧ i = .int .i64 ((m : Int) + 1) ∧ Hid (∀ i, 0 < i → i ≤ m → i < C.length → gi C (i - 1) < gi C i) ∧ Below w.heap.size w wr) (fun i _ => C.length + 1 - (intOf i).toNat)
  case atStart => exact ⟨0, Nat.zero_le _, rfl, Lib.hid fun i h0 h1 => by omega, Below.refl _ _⟩
  case round =>
    obtain ⟨m, hm, rfl, HM, B⟩ := hrel
    by_cases hlt : m + 1 < C.length
    · obtain ⟨b, o, rfl, hb, hc⟩ := h.at (i := m) (by omega)
      have hck := kept_cell B (hc m (by omega)) hb
      have hck2 := kept_cell B (hc (m + 1) hlt) hb
      clear hc
      have E1 : IntKind.i64.wrap ((m : Int) + 1 - 1) = (m : Int) := by rw [IntWalk.i64_in _ ⟨by omega, by omega⟩]; omega
      have E2 : IntKind.i64.wrap (m : Int) = (m : Int) := IntWalk.i64_in _ ⟨by omega, by omega⟩
      have E3 : ((m : Int) + 1).toNat = m + 1 := by omega
      have i1 : (0 : Int) ≤ (m : Int) := by omega
      have i2 : (m : Int) < (C.length : Int) := by omega
      have i3 : (m : Int) + 1 < (C.length : Int) := by omega
      have i4 : (0 : Int) ≤ (m : Int) + 1 := by omega
      by_cases hq : gi C m < gi C (m + 1)
      · have hd : decide (gi C (m + 1) ≤ gi C m) = false := by simpa using hq
        have HQ := Lib.hid hq
        clear hq
        go_wp2_with fail
        go_quiet (fail)
        clear E1 E2 E3
        go_wp2
        go_roundw
        case rel =>
          refine ⟨m + 1, by omega, by go_num, Lib.hid fun i h0 h1 h2 => ?_, below_drewN B _⟩
          by_cases e : i = m + 1
          · subst e; exact HQ.out
          · exact HM.out i h0 (by omega) h2
        case measure => simp [intOf]; omega
      · have hd : decide (gi C (m + 1) ≤ gi C m) = true := by simpa using hq
        have HQ : Hid (ascB C C.length = false) := Lib.hid (by rw [← Bool.not_eq_true, ascB_iff]; intro hh; exact hq (hh (m + 1) (by omega) hlt))
        clear hq
        go_wp2_with fail
        go_quiet (fail)
        clear E1 E2 E3
        go_wp2
        go_ret
        exact ⟨ret_bool HQ.out.symm, below_drewN B _⟩
    · have HQ : Hid (ascB C C.length = true) := Lib.hid ((ascB_iff C _).2 fun i h0 hi => HM.out i h0 (by omega) hi)
      go_wp2
      go_ret
      exact ⟨ret_bool HQ.out.symm, B⟩

theorem codeError_any (ao : Option Addr) (S : List Int) (cap : Nat) (hn : S.length ≤ 4294967296) (ac : Option Addr) (C : List Int) (capc : Nat) (hnc : C.length ≤ 4294967296) (w : World) (hS : Ints w ao S) (hC : Ints w ac C) :
    Calls Try.prog 73 #[.agg #[.slice ao S.length cap], .slice ac C.length capc] w fun e w' => e = .returned (.int .i64 (eCode S C)) ∧ Below w.heap.size w w' := by
  have B0 : Below w.heap.size w (w.alloc (.cells #[.slice ao S.length cap] 26)) := by go_grown
  by_cases hz : eWords S C = 0
  · obtain ⟨hSp, hw⟩ := eWords_zero hz
    have hzb : (eWords S C == 0) = true := by simp [hz]
    have HZ := Lib.hid hz
    have hI := (isSp_iff S).2 hSp
    by_cases ha : ascB C C.length = true
    · have HE := Lib.hid (eCode_ok hI (codeB_ok hw ((ascB_iff C _).1 ha)))
      clear hz hSp hw hI
      go_enter Try.func73, Try.ntmps73
      go_wp2_with fail
      refine (wordsError_any ao S cap hn ac C capc hnc _ (hS.below B0) (hC.below B0)).mono ?_
      rintro e w1 ⟨rfl, hb⟩
      have B1 := B0.trans (hb.mono B0.size)
      go_wp2_with fail
      refine (isStrictlyAscending_any ac C capc hnc _ (hC.below B1)).mono ?_
      rintro e w2 ⟨rfl, hb2⟩
      go_wp2_with fail
      go_ret
      exact ⟨ret_int (HZ.out.trans HE.out.symm), B1.trans (hb2.mono B1.size)⟩
    · have hcf : codeB S C = false := by simp [codeB, ha]
      have HE := Lib.hid (eCode_bad hI hcf)
      have ha' : ascB C C.length = false := by simpa using ha
      clear hz hSp hw hI ha hcf
      go_enter Try.func73, Try.ntmps73
      go_wp2_with fail
      refine (wordsError_any ao S cap hn ac C capc hnc _ (hS.below B0) (hC.below B0)).mono ?_
      rintro e w1 ⟨rfl, hb⟩
      have B1 := B0.trans (hb.mono B0.size)
      go_wp2_with fail
      refine (isStrictlyAscending_any ac C capc hnc _ (hC.below B1)).mono ?_
      rintro e w2 ⟨rfl, hb2⟩
      go_wp2_with fail
      go_ret
      exact ⟨ret_int HE.out.symm, B1.trans (hb2.mono B1.size)⟩
  · have HE : Hid (eCode S C = eWords S C) := Lib.hid (by
      by_cases hI : isSp S = true
      · have hok : ¬ okW S C C.length = true := fun h => hz (by simp [eWords, hI, h])
        simp [eCode, eWords, codeB, hI, hok]
      · simp [eCode, eWords, hI])
    have hzb : (eWords S C == 0) = false := by simpa using hz
    clear hz
    go_enter Try.func73, Try.ntmps73
    go_wp2_with fail
    refine (wordsError_any ao S cap hn ac C capc hnc _ (hS.below B0) (hC.below B0)).mono ?_
    rintro e w1 ⟨rfl, hb⟩
    go_wp2_with fail
    go_ret
    exact ⟨ret_int HE.out.symm, B0.trans (hb.mono B0.size)⟩

end Go.Proofs.Ytamebfbddoeflaa
