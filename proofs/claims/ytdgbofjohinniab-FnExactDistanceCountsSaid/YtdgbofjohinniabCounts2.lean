/-
  The contract of the program's DistanceCounts. By an AI agent.
-/
import Derived.Test.YtdgbofjohinniabCounts
namespace Go.Proofs.Ytdgbofjohinniab
open Go.RowKit Cv
set_option linter.unusedVariables false
set_option linter.unusedSimpArgs false
set_option maxRecDepth 100000

theorem vCounts_len9 (S C : List Int) : (vCounts S C).length ≤ 9 := by
  unfold vCounts
  split
  · rename_i h
    have := (eCode_zero h).1.hi
    rw [dcAll_len]; omega
  · simp

set_option maxHeartbeats 4000000 in
theorem impl_DistanceCounts (ao : Option Addr) (S : List Int) (cap : Nat) (hn : S.length ≤ 4294967296) (ac : Option Addr) (C : List Int) (capc : Nat) (hnc : C.length ≤ 4294967296) (w : World) (hS : Ints w ao S) (hC : Ints w ac C) :
    Calls Try.prog 22 #[.agg #[.slice ao S.length cap], .slice ac C.length capc] w fun e w' => ∃ v, e = .returned (.tuple #[v, .int .i64 (eCode S C)]) ∧ OwnInts w' w.heap.size v (vCounts S C) ∧ Below w.heap.size w w' := by
  obtain ⟨i0, hi, hz0, hz1, hz2⟩ := info_parts infoI64
  have B0 : Below w.heap.size w (w.alloc (.cells #[.slice ao S.length cap] 28)) := by go_grown
  by_cases hz : eCode S C = 0
  · obtain ⟨hSp, hc1, hc2⟩ := eCode_zero hz
    obtain ⟨N1, N2⟩ := nW_bd hSp
    have hlen := code_len hSp hc1 hc2
    have hlo := hSp.lo
    have hhi := hSp.hi
    have HSp := Lib.hid hSp
    have HC1 : Hid (∀ i, i < C.length → 0 ≤ gi C i ∧ gi C i ≤ 9223372036854775807) := Lib.hid fun i h => by have := hc1 i h; omega
    have HV := Lib.hid (show vCounts S C = dcAll S C C.length from by simp only [vCounts, if_pos hz])
    have hzb : (eCode S C == 0) = true := by simp [hz]
    have hzn : (eCode S C != 0) = false := by simp [hz]
    have HZ := Lib.hid hz
    clear hSp hc1 hc2 N1 N2 hz
    go_enter Try.func22, Try.ntmps22
    go_wp2_with fail
    refine (codeError_any ao S cap hn ac C capc hnc _ (hS.below B0) (hC.below B0)).mono ?_
    rintro e w1 ⟨rfl, hb⟩
    have c1 := kept_cell hb (cell_new w (.slice ao S.length cap) 28) (lt_alloc _ _)
    have l1 := lt_of_below hb (lt_alloc _ _)
    have B1 : Below w.heap.size w w1 := B0.trans (hb.mono B0.size)
    clear hb B0
    go_wp2_with (at_make; refine wpList_make_full _ rfl _ _ 22 rfl w1.heap.size 2 i0 (.int .i64 0) 1 Try.underlying22 hi hz0 hz1 .i64 .i64 ((S.length : Int) + 1) ((S.length : Int) + 1) (S.length + 1) rfl rfl (by simp) (by simp) (by rw [hz2]; omega) (by unfold maxLen; omega) (by simp) ?_; intro w2 hown hgrow; have hb2 := below_grown0 hgrow; have c2 := kept_cell hb2 c1 l1)
    replace hown := own_made hown
    have B2 : Below w.heap.size w w2 := B1.trans (hb2.mono B1.size)
    have hg2 := hown.base_le.2
    clear c1 B1 hgrow hb2
    refine (digitParts_any ao S cap hlo hhi HSp.out.bd ac C capc (by omega) HC1.out _ (hS.below B2) (hC.below B2)).mono ?_
    rintro e w3 ⟨P, g, U, rfl, hp, hb3⟩
    replace hown := hown.below hb3
    have B3 : Below w.heap.size w w3 := B2.trans (hb3.mono B2.size)
    have hbp := hp.bp
    have hgu := hp.own.base_le
    clear hb3 B2 c2
    go_wp2_with fail
    go_loopw [29] (fun i wr => ∃ k : Nat, k ≤ C.length ∧ i = .int .i64 k ∧ OwnInts wr w1.heap.size (.slice (some ⟨w1.heap.size, 0, none⟩) (S.length + 1) (S.length + 1)) (dcAll S C k) ∧ w3.grownBy wr (some w1.heap.size)) (fun i _ => C.length - (intOf i).toNat)
    case atStart => exact ⟨0, Nat.zero_le _, rfl, hown, grown_of_below (Below.refl _ _) _⟩
    case round =>
      clear hown
      obtain ⟨k, hk, rfl, hown, B⟩ := hrel
      by_cases hlt : k < C.length
      · have hck := B.cell (a := ⟨P, k, none⟩) (hp.row k hlt) (by simp; omega)
        have hik := hp.ints hlt
        go_wp2_with fail
        go_loopw [35] (fun j wi => ∃ m : Nat, m ≤ C.length ∧ j = .int .i64 m ∧ OwnInts wi w1.heap.size (.slice (some ⟨w1.heap.size, 0, none⟩) (S.length + 1) (S.length + 1)) (dcRow S C k (dcAll S C k) m) ∧ w3.grownBy wi (some w1.heap.size)) (fun j _ => C.length - (intOf j).toNat)
        case atStart => exact ⟨0, Nat.zero_le _, rfl, hown, B⟩
        case round =>
          clear hown B hck
          obtain ⟨m, hm, rfl, hown, B⟩ := hrel
          by_cases hlm : m < C.length
          · have hcm := B.cell (a := ⟨P, m, none⟩) (hp.row m hlm) (by simp; omega)
            have him := hp.ints (k := m) hlm
            obtain ⟨d1, d2⟩ := dist_bd S (gi C k) (gi C m)
            obtain ⟨D, hD⟩ : ∃ D : Nat, dist S (gi C k) (gi C m) = (D : Int) := ⟨_, (Int.toNat_of_nonneg d1).symm⟩
            rw [hD] at d1 d2
            have hDl : D < S.length + 1 := by omega
            have hD0 : (0 : Int) ≤ (D : Int) := by omega
            have hD1 : (D : Int) < (S.length : Int) + 1 := by omega
            obtain ⟨s1, s2⟩ := dc_small S C k m D hlen hlt hm
            have HL : Hid (dcRow S C k (dcAll S C k) (m + 1) = (dcRow S C k (dcAll S C k) m).set D (gi (dcRow S C k (dcAll S C k) m) D + 1)) := Lib.hid (by simp only [dcRow, bump, hD, Int.toNat_natCast])
            have HN : Hid ((dcRow S C k (dcAll S C k) m).length = S.length + 1) := Lib.hid (by rw [dcRow_len, dcAll_len])
            obtain ⟨L, hL⟩ : ∃ L, L = dcRow S C k (dcAll S C k) m := ⟨_, rfl⟩
            rw [← hL] at hown s1 s2 HL HN
            have HD := Lib.hid hD
            have EW : IntKind.i64.wrap (gi L D + 1) = gi L D + 1 := IntWalk.i64_in _ ⟨by omega, by omega⟩
            have HI1 := Lib.hid (hik.grown B (by intro b o h; cases h; omega))
            have HI2 := Lib.hid (him.grown B (by intro b o h; cases h; omega))
            clear hL hD d1 d2
            go_wp2_with fail
            refine (differences_nat _ _ S (gi C k) (gi C m) _ _ _ hhi D HD HI1.out HI2.out).mono ?_
            rintro e w4 ⟨rfl, hb4⟩
            have own4 := hown.below hb4
            have hcell4 := own4.cell (k := D) (by rw [HN.out]; omega)
            have hfree4 := own4.free D
            have B4 := grown_trans B (grown_of_below hb4 (some w1.heap.size))
            clear hb4 hown hcm
            go_wp2
            go_roundw
            case rel => exact ⟨m + 1, by omega, by go_num, by rw [HL.out]; exact own4.stored D _, grown_setCell B4 _ _⟩
            case measure => simp [intOf]; omega
          · have em : m = C.length := by omega
            subst em
            go_wp2
            go_roundw
            case rel => exact ⟨k + 1, by omega, by go_num, hown, B⟩
            case measure => simp [intOf]; omega
      · have ek : k = C.length := by omega
        go_wp2
        go_ret2
        exact ⟨_, by rw [HZ.out]; rfl, by rw [HV.out, ← ek]; exact hown.rebase (by omega), B3.grown B B3.size (by intro q hq; simp at hq; omega)⟩
  · have HV := Lib.hid (show vCounts S C = [] from by simp only [vCounts, if_neg hz])
    have hzb : (eCode S C == 0) = false := by simpa using hz
    have hzn : (eCode S C != 0) = true := by simpa using hz
    clear hz
    go_enter Try.func22, Try.ntmps22
    go_wp2_with fail
    refine (codeError_any ao S cap hn ac C capc hnc _ (hS.below B0) (hC.below B0)).mono ?_
    rintro e w1 ⟨rfl, hb⟩
    go_wp2_with fail
    go_ret2
    exact ⟨_, rfl, by rw [HV.out]; exact own_nil _ _, B0.trans (hb.mono B0.size)⟩

end Go.Proofs.Ytdgbofjohinniab
