/-
  The contracts of codes: whether a list is one, and the words that are not in one. By an AI agent.
-/
import Derived.Test.YtpmfedllbiblbaaGreatPkF1
import Derived.Test.YtpmfedllbiblbaaGreatPkMath
namespace Go.Proofs.YtpmfedllbiblbaaGreat
open Go.RowKit Cv
set_option linter.unusedVariables false
set_option linter.unusedSimpArgs false
set_option maxRecDepth 100000

set_option maxHeartbeats 1000000 in
theorem isStrictlyAscending_any (a : Option Addr) (C : List Int) (c : Nat) (hn : C.length ≤ 4294967296) (w : World) (h : Ints w a C) :
    Calls Tryz.prog 119 #[.slice a C.length c] w fun e w' => e = .returned (.bool (ascB C C.length)) ∧ Below w.heap.size w w' := by
  go_enter Tryz.func119, Tryz.ntmps119
  go_wp2
  go_loopw [3] (fun i wr => ∃ m : Nat, m ≤ C.length ∧ i = .int .i64 ((m : Int) + 1) ∧ Hid (∀ i, 0 < i → i ≤ m → i < C.length → gi C (i - 1) < gi C i) ∧ Below w.heap.size w wr) (fun i _ => C.length + 1 - (intOf i).toNat)
  case atStart => exact ⟨0, Nat.zero_le _, rfl, Lib.hid fun i h0 h1 => by omega, Below.refl _ _⟩
  case round =>
    obtain ⟨m, hm, rfl, HM, B⟩ := hrel
    by_cases hlt : m + 1 < C.length
    · obtain ⟨b, o, rfl, hb, hc⟩ := h.at (i := m) (by omega)
      have hck := kept_cell B (hc m (by omega)) hb
      have hck2 := kept_cell B (hc (m + 1) hlt) hb
      clear hc
      have E1 : IntKind.i64.wrap ((m : Int) + 1 - 1) = (m : Int) := by rw [IntWalk.i64_in _ ⟨by omega, by omega⟩]; omega
      have E2 : IntKind.i64.wrap (m : Int) = (m : Int) := IntWalk.i64_in _ ⟨by omega, by omega⟩
      have E3 : ((m : Int) + 1).toNat = m + 1 := by omega
      have i1 : (0 : Int) ≤ (m : Int) := by omega
      have i2 : (m : Int) < (C.length : Int) := by omega
      have i3 : (m : Int) + 1 < (C.length : Int) := by omega
      have i4 : (0 : Int) ≤ (m : Int) + 1 := by omega
      by_cases hq : gi C m < gi C (m + 1)
      · have hd : decide (gi C (m + 1) ≤ gi C m) = false := by simpa using hq
        have HQ := Lib.hid hq
        clear hq
        go_wp2_with fail
        go_quiet (fail)
        clear E1 E2 E3
        go_wp2
        go_roundw
        case rel =>
          refine ⟨m + 1, by omega, by go_num, Lib.hid fun i h0 h1 h2 => ?_, below_drewN B _⟩
          by_cases e : i = m + 1
          · subst e; exact HQ.out
          · exact HM.out i h0 (by omega) h2
        case measure => simp [intOf]; omega
      · have hd : decide (gi C (m + 1) ≤ gi C m) = true := by simpa using hq
        have HQ : Hid (ascB C C.length = false) := Lib.hid (by rw [← Bool.not_eq_true, ascB_iff]; intro hh; exact hq (hh (m + 1) (by omega) hlt))
        clear hq
        go_wp2_with fail
        go_quiet (fail)
        clear E1 E2 E3
        go_wp2
        go_ret
        exact ⟨ret_bool HQ.out.symm, below_drewN B _⟩
    · have HQ : Hid (ascB C C.length = true) := Lib.hid ((ascB_iff C _).2 fun i h0 hi => HM.out i h0 (by omega) hi)
      go_wp2
      go_ret
      exact ⟨ret_bool HQ.out.symm, B⟩

end Go.Proofs.YtpmfedllbiblbaaGreat
