/-
  Texts put together: Sums2, F1, Code. By an AI agent.
-/
import Derived.Test.YtcnnijeokefboabPkSums
import Derived.Test.YtcnnijeokefboabMath
namespace Go.Proofs.Ytcnnijeokefboab
open Go.RowKit Cv
set_option linter.unusedVariables false
set_option linter.unusedSimpArgs false
set_option maxRecDepth 100000

/-- the first numbers of a row of the call's own -/
theorem OwnInts.part {w : World} {base g n cap : Nat} {T D : List Int} (h : OwnInts w base (.slice (some ⟨g, 0, none⟩) n cap) T) (hl : D.length ≤ T.length) (hD : ∀ j, j < D.length → gi T j = gi D j) : Ints w (some ⟨g, 0, none⟩) D := by
  refine .inr ⟨g, 0, rfl, h.base_le.2, fun i hi => ?_⟩
  rw [Nat.zero_add, h.cell (k := i) (by omega), hD i hi]

end Go.Proofs.Ytcnnijeokefboab

namespace Go.Proofs.Ytcnnijeokefboab
open Go.RowKit Cv
set_option linter.unusedVariables false
set_option linter.unusedSimpArgs false
set_option maxRecDepth 100000

theorem ret2 {a b c d : Int} (h1 : a = b) (h2 : c = d) : Ending.returned (.tuple #[.int .i64 a, .int .i64 c]) = .returned (.tuple #[.int .i64 b, .int .i64 d]) := by rw [h1, h2]
theorem own_nil (w : World) (base : Nat) : OwnInts w base (.slice none 0 0) [] := World.ownsRow_nil _ _ _ _

set_option maxHeartbeats 1000000 in
theorem impl_DistanceOf (ao : Option Addr) (S : List Int) (cap : Nat) (hn : S.length ≤ 4294967296) (u : Int) (hu : -9223372036854775808 ≤ u ∧ u ≤ 9223372036854775807) (x : Int) (hx : -9223372036854775808 ≤ x ∧ x ≤ 9223372036854775807) (w : World) (hS : Ints w ao S) :
    Calls Try.prog 21 #[.agg #[.slice ao S.length cap], .int .i64 u, .int .i64 x] w fun e w' => e = .returned (.tuple #[.int .i64 (vDist S u x), .int .i64 (eWords S [u, x])]) ∧ Below w.heap.size w w' := by
  by_cases hz : eWords S [u, x] = 0
  · obtain ⟨hSp, ⟨u1, u2⟩, x1, x2⟩ := eWords2 hz
    obtain ⟨N1, N2⟩ := nW_bd hSp
    have HV := Lib.hid (show vDist S u x = dist S u x from by simp only [vDist, if_pos hz])
    have HSp := Lib.hid hSp
    have hlo := hSp.lo
    have hhi := hSp.hi
    have hzb : (eWords S [u, x] == 0) = true := by simp [hz]
    have hzn : (eWords S [u, x] != 0) = false := by simp [hz]
    have HZ := Lib.hid hz
    clear hz hSp
    go_enter Try.func21, Try.ntmps21
    go_wp2_with fail
    have B0 : Below w.heap.size w ((w.alloc (.cells #[.slice ao S.length cap] 26)).alloc (.cells #[.int .i64 u, .int .i64 x] 2)) := by go_grown
    have c0 : (((w.alloc (.cells #[.slice ao S.length cap] 26)).alloc (.cells #[.int .i64 u, .int .i64 x] 2))).cell? ⟨w.heap.size, 0, none⟩ = some (.slice ao S.length cap) := kept_cell ((Below.refl _ (w.alloc (.cells #[.slice ao S.length cap] 26))).alloc (Nat.le_refl _) _) (cell_new _ _ _) (lt_alloc _ _)
    refine (wordsError_n ao S cap hn _ [u, x] 2 _ rfl (by omega) _ (hS.below B0) (ints_new2 _ u x _ (by simp))).mono ?_
    rintro e w1 ⟨rfl, hb⟩
    have c1 := kept_cell hb c0 (by simp; omega)
    have B1 : Below w.heap.size w w1 := B0.trans (hb.mono (by simp; omega))
    clear hb c0 B0
    go_wp2_with fail
    refine (distance_any ao S cap HSp.out u x u1 (by omega) x1 (by omega) _ (hS.below B1)).mono ?_
    rintro e w2 ⟨rfl, hb⟩
    go_wp2_with fail
    go_ret2
    exact ⟨ret2 HV.out.symm HZ.out.symm, B1.trans (hb.mono B1.size)⟩
  · have HV := Lib.hid (show vDist S u x = 0 from by simp only [vDist, if_neg hz])
    have hzb : (eWords S [u, x] == 0) = false := by simpa using hz
    have hzn : (eWords S [u, x] != 0) = true := by simpa using hz
    clear hz
    go_enter Try.func21, Try.ntmps21
    go_wp2_with fail
    have B0 : Below w.heap.size w ((w.alloc (.cells #[.slice ao S.length cap] 26)).alloc (.cells #[.int .i64 u, .int .i64 x] 2)) := by go_grown
    have c0 : (((w.alloc (.cells #[.slice ao S.length cap] 26)).alloc (.cells #[.int .i64 u, .int .i64 x] 2))).cell? ⟨w.heap.size, 0, none⟩ = some (.slice ao S.length cap) := kept_cell ((Below.refl _ (w.alloc (.cells #[.slice ao S.length cap] 26))).alloc (Nat.le_refl _) _) (cell_new _ _ _) (lt_alloc _ _)
    refine (wordsError_n ao S cap hn _ [u, x] 2 _ rfl (by omega) _ (hS.below B0) (ints_new2 _ u x _ (by simp))).mono ?_
    rintro e w1 ⟨rfl, hb⟩
    have c1 := kept_cell hb c0 (by simp; omega)
    have B1 : Below w.heap.size w w1 := B0.trans (hb.mono (by simp; omega))
    clear hb c0 B0
    go_wp2_with fail
    go_ret2
    exact ⟨ret2 HV.out.symm rfl, B1⟩

end Go.Proofs.Ytcnnijeokefboab

namespace Go.Proofs.Ytcnnijeokefboab
open Go.RowKit Cv
set_option linter.unusedVariables false
set_option linter.unusedSimpArgs false
set_option maxRecDepth 100000

set_option maxHeartbeats 1000000 in
theorem isStrictlyAscending_any (a : Option Addr) (C : List Int) (c : Nat) (hn : C.length ≤ 4294967296) (w : World) (h : Ints w a C) :
    Calls Try.prog 68 #[.slice a C.length c] w fun e w' => e = .returned (.bool (ascB C C.length)) ∧ Below w.heap.size w w' := by
  go_enter Try.func68, Try.ntmps68
  go_wp2
  go_loopw [3] (fun i wr => ∃ m : Nat, m ≤ C.length ∧ i = .int .i64 ((m : Int) + 1) ∧ Hid (∀ i, 0 < i → i ≤ m → i < C.length → gi C (i - 1) < gi C i) ∧ Below w.heap.size w wr) (fun i _ => C.length + 1 - (intOf i).toNat)
  case atStart => exact ⟨0, Nat.zero_le _, rfl, Lib.hid fun i h0 h1 => by omega, Below.refl _ _⟩
  case round =>
    obtain ⟨m, hm, rfl, HM, B⟩ := hrel
    by_cases hlt : m + 1 < C.length
    · obtain ⟨b, o, rfl, hb, hc⟩ := h.at (i := m) (by omega)
      have hck := kept_cell B (hc m (by omega)) hb
      have hck2 := kept_cell B (hc (m + 1) hlt) hb
      clear hc
      have E1 : IntKind.i64.wrap ((m : Int) + 1 - 1) = (m : Int) := by rw [IntWalk.i64_in _ ⟨by omega, by omega⟩]; omega
      have E2 : IntKind.i64.wrap (m : Int) = (m : Int) := IntWalk.i64_in _ ⟨by omega, by omega⟩
      have E3 : ((m : Int) + 1).toNat = m + 1 := by omega
      have i1 : (0 : Int) ≤ (m : Int) := by omega
      have i2 : (m : Int) < (C.length : Int) := by omega
      have i3 : (m : Int) + 1 < (C.length : Int) := by omega
      have i4 : (0 : Int) ≤ (m : Int) + 1 := by omega
      by_cases hq : gi C m < gi C (m + 1)
      · have hd : decide (gi C (m + 1) ≤ gi C m) = false := by simpa using hq
        have HQ := Lib.hid hq
        clear hq
        go_wp2_with fail
        go_quiet (fail)
        clear E1 E2 E3
        go_wp2
        go_roundw
        case rel =>
          refine ⟨m + 1, by omega, by go_num, Lib.hid fun i h0 h1 h2 => ?_, below_drewN B _⟩
          by_cases e : i = m + 1
          · subst e; exact HQ.out
          · exact HM.out i h0 (by omega) h2
        case measure => simp [intOf]; omega
      · have hd : decide (gi C (m + 1) ≤ gi C m) = true := by simpa using hq
        have HQ : Hid (ascB C C.length = false) := Lib.hid (by rw [← Bool.not_eq_true, ascB_iff]; intro hh; exact hq (hh (m + 1) (by omega) hlt))
        clear hq
        go_wp2_with fail
        go_quiet (fail)
        clear E1 E2 E3
        go_wp2
        go_ret
        exact ⟨ret_bool HQ.out.symm, below_drewN B _⟩
    · have HQ : Hid (ascB C C.length = true) := Lib.hid ((ascB_iff C _).2 fun i h0 hi => HM.out i h0 (by omega) hi)
      go_wp2
      go_ret
      exact ⟨ret_bool HQ.out.symm, B⟩

theorem codeError_any (ao : Option Addr) (S : List Int) (cap : Nat) (hn : S.length ≤ 4294967296) (ac : Option Addr) (C : List Int) (capc : Nat) (hnc : C.length ≤ 4294967296) (w : World) (hS : Ints w ao S) (hC : Ints w ac C) :
    Calls Try.prog 37 #[.agg #[.slice ao S.length cap], .slice ac C.length capc] w fun e w' => e = .returned (.int .i64 (eCode S C)) ∧ Below w.heap.size w w' := by
  have B0 : Below w.heap.size w (w.alloc (.cells #[.slice ao S.length cap] 26)) := by go_grown
  by_cases hz : eWords S C = 0
  · obtain ⟨hSp, hw⟩ := eWords_zero hz
    have hzb : (eWords S C == 0) = true := by simp [hz]
    have HZ := Lib.hid hz
    have hI := (isSp_iff S).2 hSp
    by_cases ha : ascB C C.length = true
    · have HE := Lib.hid (eCode_ok hI (codeB_ok hw ((ascB_iff C _).1 ha)))
      clear hz hSp hw hI
      go_enter Try.func37, Try.ntmps37
      go_wp2_with fail
      refine (wordsError_any ao S cap hn ac C capc hnc _ (hS.below B0) (hC.below B0)).mono ?_
      rintro e w1 ⟨rfl, hb⟩
      have B1 := B0.trans (hb.mono B0.size)
      go_wp2_with fail
      refine (isStrictlyAscending_any ac C capc hnc _ (hC.below B1)).mono ?_
      rintro e w2 ⟨rfl, hb2⟩
      go_wp2_with fail
      go_ret
      exact ⟨ret_int (HZ.out.trans HE.out.symm), B1.trans (hb2.mono B1.size)⟩
    · have hcf : codeB S C = false := by simp [codeB, ha]
      have HE := Lib.hid (eCode_bad hI hcf)
      have ha' : ascB C C.length = false := by simpa using ha
      clear hz hSp hw hI ha hcf
      go_enter Try.func37, Try.ntmps37
      go_wp2_with fail
      refine (wordsError_any ao S cap hn ac C capc hnc _ (hS.below B0) (hC.below B0)).mono ?_
      rintro e w1 ⟨rfl, hb⟩
      have B1 := B0.trans (hb.mono B0.size)
      go_wp2_with fail
      refine (isStrictlyAscending_any ac C capc hnc _ (hC.below B1)).mono ?_
      rintro e w2 ⟨rfl, hb2⟩
      go_wp2_with fail
      go_ret
      exact ⟨ret_int HE.out.symm, B1.trans (hb2.mono B1.size)⟩
  · have HE : Hid (eCode S C = eWords S C) := Lib.hid (by
      by_cases hI : isSp S = true
      · have hok : ¬ okW S C C.length = true := fun h => hz (by simp [eWords, hI, h])
        simp [eCode, eWords, codeB, hI, hok]
      · simp [eCode, eWords, hI])
    have hzb : (eWords S C == 0) = false := by simpa using hz
    clear hz
    go_enter Try.func37, Try.ntmps37
    go_wp2_with fail
    refine (wordsError_any ao S cap hn ac C capc hnc _ (hS.below B0) (hC.below B0)).mono ?_
    rintro e w1 ⟨rfl, hb⟩
    go_wp2_with fail
    go_ret
    exact ⟨ret_int HE.out.symm, B0.trans (hb.mono B0.size)⟩

end Go.Proofs.Ytcnnijeokefboab
