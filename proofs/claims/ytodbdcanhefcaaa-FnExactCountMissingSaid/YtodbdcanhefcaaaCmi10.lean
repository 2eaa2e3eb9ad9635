/-
  The program's CountMissing, CountChoices and StrengthOf. By an AI agent.
-/
import Derived.Test.YtodbdcanhefcaaaMic10
import Derived.Test.YtodbdcanhefcaaaRer10
namespace Go.Proofs.Ytodbdcanhefcaaa
open Go.RowKit Cv
set_option linter.unusedVariables false
set_option linter.unusedSimpArgs false
set_option maxRecDepth 100000

set_option maxHeartbeats 2000000 in
theorem impl_CountMissing (ao : Option Addr) (S : List Int) (cap : Nat) (hn : S.length ≤ 4294967296) (ar : Option Addr) (R : List Int) (capr : Nat) (hnr : R.length ≤ 4294967296) (t : Int) (ht : -9223372036854775808 ≤ t ∧ t ≤ 9223372036854775807) (w : World) (hS : Ints w ao S) (hRI : Ints w ar R) :
    Calls Try.prog 31 #[.agg #[.slice ao S.length cap], .slice ar R.length capr, .int .i64 t] w fun e w' => e = .returned (.tuple #[.int .i64 (vCm S R t), .int .i64 (eR10 S R t)]) ∧ Below w.heap.size w w' := by
  have B0 : Below w.heap.size w (w.alloc (.cells #[.slice ao S.length cap] 28)) := by go_grown
  have c0 := cell_new w (.slice ao S.length cap) 28
  have l0 := lt_alloc w (.cells #[.slice ao S.length cap] 28)
  have hc := rowsError_any ao S cap hn ar R capr hnr t _ (hS.below B0) (hRI.below B0)
  by_cases he : eR10 S R t = 0
  case neg =>
    have HV : Hid (vCm S R t = 0) := Lib.hid (by unfold vCm; rw [if_neg he])
    obtain ⟨E, hE⟩ : ∃ E, E = eR10 S R t := ⟨_, rfl⟩
    rw [← hE] at hc he ⊢
    have hb : (E != 0) = true := by simpa using he
    clear hE he
    go_enter Try.func31, Try.ntmps31
    go_wp2_with fail
    refine hc.mono ?_
    rintro e w1 ⟨rfl, hb1⟩
    have B1 := B0.trans (hb1.mono B0.size)
    go_wp2_with fail
    go_ret2
    exact ⟨ret_i2 HV.out.symm rfl, B1⟩
  obtain ⟨hSp, hRb, hR2, g1, g2, g3⟩ := eR10_zero he
  have HSp := Lib.hid hSp
  have HRb := Lib.hid hRb
  have HV : Hid (vCm S R t = ((mL S R t.toNat).length : Nat)) := Lib.hid (by unfold vCm; rw [if_pos he])
  have HE := Lib.hid he
  rw [he] at hc
  clear he hRb
  obtain ⟨t, rfl⟩ : ∃ n : Nat, t = n := ⟨t.toNat, by omega⟩
  rw [Int.toNat_natCast] at HV
  have ht1 : 0 < t := by omega
  have ht3 : t ≤ 3 := by omega
  clear hSp
  go_enter Try.func31, Try.ntmps31
  go_wp2_with fail
  refine hc.mono ?_
  rintro e w1 ⟨rfl, hb1⟩
  have c1 := kept_cell hb1 c0 l0
  have B1 := B0.trans (hb1.mono B0.size)
  clear hc c0 l0 B0 hb1
  go_wp2_with fail
  refine (missingChoices_any ao S cap HSp.out ar R capr (by omega) HRb.out t ht1 ht3 _ (hS.below B1) (hRI.below B1)).mono ?_
  rintro e w2 ⟨g, c, rfl, _, _, hb2⟩
  go_wp2_with fail
  go_ret2
  exact ⟨ret_i2 HV.out.symm HE.out.symm, B1.trans (hb2.mono B1.size)⟩

theorem eC10_nil (S : List Int) (t : Int) : eR10 S [] t = eC10 S t := by
  unfold eR10
  by_cases h : isSp S = true
  · rw [if_pos h, if_pos ⟨rfl, by simp⟩]
  · rw [if_neg h]; unfold eC10; rw [if_neg h]
theorem vCc_nil (S : List Int) (t : Int) : vCm S [] t = vCc S t := by
  unfold vCm vCc mL
  rw [eC10_nil]
  rfl

set_option maxHeartbeats 2000000 in
theorem impl_CountChoices (ao : Option Addr) (S : List Int) (cap : Nat) (hn : S.length ≤ 4294967296) (t : Int) (ht : -9223372036854775808 ≤ t ∧ t ≤ 9223372036854775807) (w : World) (hS : Ints w ao S) :
    Calls Try.prog 17 #[.agg #[.slice ao S.length cap], .int .i64 t] w fun e w' => e = .returned (.tuple #[.int .i64 (vCc S t), .int .i64 (eC10 S t)]) ∧ Below w.heap.size w w' := by
  have B0 : Below w.heap.size w (w.alloc (.cells #[.slice ao S.length cap] 28)) := by go_grown
  have c0 := cell_new w (.slice ao S.length cap) 28
  have hc := impl_CountMissing ao S cap hn none [] 0 (by simp) t ht _ (hS.below B0) (.inl rfl)
  rw [eC10_nil, vCc_nil] at hc
  go_enter Try.func17, Try.ntmps17
  go_wp2_with fail
  refine hc.mono ?_
  rintro e w1 ⟨rfl, hb1⟩
  go_wp2_with fail
  go_ret2
  exact ⟨rfl, B0.trans (hb1.mono B0.size)⟩

set_option maxHeartbeats 2000000 in
theorem impl_StrengthOf (ao : Option Addr) (S : List Int) (cap : Nat) (hn : S.length ≤ 4294967296) (ar : Option Addr) (R : List Int) (capr : Nat) (hnr : R.length ≤ 4294967296) (w : World) (hS : Ints w ao S) (hRI : Ints w ar R) :
    Calls Try.prog 33 #[.agg #[.slice ao S.length cap], .slice ar R.length capr] w fun e w' => e = .returned (.tuple #[.int .i64 (vSt S R), .int .i64 (eR10 S R 1)]) ∧ Below w.heap.size w w' := by
  have B0 : Below w.heap.size w (w.alloc (.cells #[.slice ao S.length cap] 28)) := by go_grown
  have c0 := cell_new w (.slice ao S.length cap) 28
  have l0 := lt_alloc w (.cells #[.slice ao S.length cap] 28)
  have hc := rowsError_any ao S cap hn ar R capr hnr 1 _ (hS.below B0) (hRI.below B0)
  by_cases he : eR10 S R 1 = 0
  case neg =>
    have HV : Hid (vSt S R = 0) := Lib.hid (by unfold vSt; rw [if_neg he])
    obtain ⟨E, hE⟩ : ∃ E, E = eR10 S R 1 := ⟨_, rfl⟩
    rw [← hE] at hc he ⊢
    have hb : (E != 0) = true := by simpa using he
    clear hE he
    go_enter Try.func33, Try.ntmps33
    go_wp2_with fail
    refine hc.mono ?_
    rintro e w1 ⟨rfl, hb1⟩
    have B1 := B0.trans (hb1.mono B0.size)
    go_wp2_with fail
    go_ret2
    exact ⟨ret_i2 HV.out.symm rfl, B1⟩
  obtain ⟨hSp, hRb, hR2, g1, g2, g3⟩ := eR10_zero he
  have HSp := Lib.hid hSp
  have HRb := Lib.hid hRb
  have hn8 := hSp.hi
  obtain ⟨M, hM⟩ : ∃ M, M = min 3 S.length := ⟨_, rfl⟩
  have HV : Hid (vSt S R = (stTo S R M : Nat)) := Lib.hid (by unfold vSt; rw [if_pos he, hM])
  have HE := Lib.hid he
  have HGS := Lib.hid fun w => greatestStrength_any ao S cap (M : Int) (by omega) w
  have hM3 : M ≤ 3 := by omega
  rw [he] at hc
  clear he hRb hSp hM
  go_enter Try.func33, Try.ntmps33
  go_wp2_with fail
  refine hc.mono ?_
  rintro e w1 ⟨rfl, hb1⟩
  have c1 := kept_cell hb1 c0 l0
  have l1 := lt_of_below hb1 l0
  have B1 := B0.trans (hb1.mono B0.size)
  clear hc c0 l0 B0 hb1
  go_wp2_with fail
  refine (HGS.out _).mono ?_
  rintro e w2 ⟨rfl, hb2⟩
  have c2 := kept_cell hb2 c1 l1
  have l2 := lt_of_below hb2 l1
  have B2 := B1.trans (hb2.mono B1.size)
  clear c1 l1 B1 hb2
  go_wp2_with fail
  go_loopw [7] (fun x wr => ∃ s : Nat, s ≤ 3 ∧ x = .int .i64 (s : Int) ∧ Hid (stTo S R M = stTo S R s) ∧ wr.cell? ⟨w.heap.size, 0, none⟩ = some (.slice ao S.length cap) ∧ w.heap.size < wr.heap.size ∧ Below w.heap.size w wr) (fun x _ => (intOf x).toNat)
  case atStart => exact ⟨M, hM3, rfl, Lib.hid rfl, c2, l2, B2⟩
  case round =>
    clear c2 l2 B2
    obtain ⟨s, hs3, rfl, HS, c1, l1, B⟩ := hrel
    cases s with
    | zero =>
      have HS0 : Hid (stTo S R M = 0) := Lib.hid (by rw [HS.out]; rfl)
      go_wp2_with fail
      go_ret2
      exact ⟨ret_i2 (by rw [HV.out, HS0.out]) HE.out.symm, B⟩
    | succ s =>
      have ht1 : 0 < s + 1 := by omega
      have i1 : (0 : Int) < (s : Int) + 1 := by omega
      have HS2 : Hid (stTo S R (s + 1) = if mL S R (s + 1) = [] then s + 1 else stTo S R s) := Lib.hid rfl
      have hcm := missingChoices_any ao S cap HSp.out ar R capr (by omega) HRb.out (s + 1) ht1 hs3 wr (hS.below B) (hRI.below B)
      push_cast at hcm ⊢
      by_cases hm : mL S R (s + 1) = []
      · have HST : Hid (stTo S R M = s + 1) := Lib.hid (by rw [HS.out, HS2.out, if_pos hm])
        have hl : (mL S R (s + 1)).length = 0 := by rw [hm]; rfl
        rw [hl] at hcm
        clear hm hl
        go_wp2_with fail
        refine hcm.mono ?_
        rintro e w5 ⟨g, c, rfl, _, _, hb5⟩
        have B5 := B.trans (hb5.mono B.size)
        go_wp2_with fail
        go_ret2
        exact ⟨ret_i2 (by rw [HV.out, HST.out]; push_cast; rfl) HE.out.symm, B5⟩
      · have HST : Hid (stTo S R M = stTo S R s) := Lib.hid (by rw [HS.out, HS2.out, if_neg hm])
        obtain ⟨ml, hml⟩ : ∃ ml, ml = (mL S R (s + 1)).length := ⟨_, rfl⟩
        rw [← hml] at hcm
        have hmb : (0 : Int) < (ml : Int) := by
          have : (mL S R (s + 1)).length ≠ 0 := fun e => hm (List.eq_nil_of_length_eq_zero e)
          omega
        clear hm hml
        go_wp2_with fail
        refine hcm.mono ?_
        rintro e w5 ⟨g, c, rfl, _, _, hb5⟩
        have B5 := B.trans (hb5.mono B.size)
        have c5 := kept_cell hb5 c1 l1
        have l5 := lt_of_below hb5 l1
        clear hcm hb5 B c1 l1
        go_wp2_with fail
        go_roundw
        case rel => exact ⟨s, by omega, by go_num, HST, c5, l5, B5⟩
        case measure => simp [intOf]

end Go.Proofs.Ytodbdcanhefcaaa
