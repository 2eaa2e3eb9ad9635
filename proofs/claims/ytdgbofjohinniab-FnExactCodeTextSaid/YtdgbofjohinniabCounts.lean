/-
  The contracts of DistanceCounts. By an AI agent.
-/
import Derived.Test.YtdgbofjohinniabLeast
import Derived.Deep.RegionHeld3
import Derived.Deep.RegionLaw
import Derived.Deep.RegionWith
namespace Go.Proofs.Ytdgbofjohinniab
open Go.RowKit Cv
set_option linter.unusedVariables false
set_option linter.unusedSimpArgs false
set_option maxRecDepth 100000

theorem Ints.grown {w w' : World} {ao : Option Addr} {S : List Int} {r : Nat} (h : Ints w ao S) (hg : w.grownBy w' (some r)) (hne : ∀ b o, ao = some ⟨b, o, none⟩ → b ≠ r) : Ints w' ao S := by
  rcases h with h | ⟨b, o, rfl, hlt, hc⟩
  · exact .inl h
  · exact .inr ⟨b, o, rfl, Nat.lt_of_lt_of_le hlt hg.size, fun i hi => hg.cell (a := ⟨b, o + i, none⟩) (hc i hi) (by have := hne b o rfl; simpa using this)⟩

theorem l01Distance_nat (ao : Option Addr) (S : List Int) (cap : Nat) (hl : S.length ≤ 8) (hbd : ∀ i, i < S.length → 2 ≤ gi S i ∧ gi S i ≤ 4) (u x : Int) (hu : 0 ≤ u) (hu2 : u ≤ 9223372036854775807) (hx : 0 ≤ x) (hx2 : x ≤ 9223372036854775807) (D : Nat) (hD : Hid (dist S u x = (D : Int))) (w : World) (hS : Ints w ao S) :
    Calls Try.prog 74 #[.agg #[.slice ao S.length cap], .int .i64 u, .int .i64 x] w fun e w' => e = .returned (.int .i64 (D : Int)) ∧ Below w.heap.size w w' := by
  rw [← hD.out]; exact l01Distance_any ao S cap hl hbd u x hu hu2 hx hx2 w hS

theorem differences_nat (a a' : Option Addr) (S : List Int) (u x : Int) (c c' : Nat) (w : World) (hn : S.length ≤ 8) (D : Nat) (hD : Hid (dist S u x = (D : Int))) (h : Ints w a (digs S u)) (h' : Ints w a' (digs S x)) :
    Calls Try.prog 73 #[.slice a S.length c, .slice a' S.length c'] w fun e w' => e = .returned (.int .i64 (D : Int)) ∧ Below w.heap.size w w' := by
  rw [← hD.out, ← diff_digs]
  exact differences_any a a' (digs S u) (digs S x) S.length c S.length c' w (by omega) (digs_length _ _) (digs_length _ _) (Nat.le_refl _) h h'

set_option maxHeartbeats 4000000 in
theorem spec_DistanceCounts (ao : Option Addr) (S : List Int) (cap : Nat) (hn : S.length ≤ 4294967296) (ac : Option Addr) (C : List Int) (capc : Nat) (hnc : C.length ≤ 4294967296) (w : World) (hS : Ints w ao S) (hC : Ints w ac C) :
    Calls Try.prog 21 #[.agg #[.slice ao S.length cap], .slice ac C.length capc] w fun e w' => ∃ v, e = .returned (.tuple #[v, .int .i64 (eCode S C)]) ∧ OwnInts w' w.heap.size v (vCounts S C) ∧ Below w.heap.size w w' := by
  obtain ⟨i0, hi, hz0, hz1, hz2⟩ := info_parts infoI64
  have B0 : Below w.heap.size w (w.alloc (.cells #[.slice ao S.length cap] 28)) := by go_grown
  by_cases hz : eCode S C = 0
  · obtain ⟨hSp, hc1, hc2⟩ := eCode_zero hz
    obtain ⟨N1, N2⟩ := nW_bd hSp
    have hlen := code_len hSp hc1 hc2
    have hlo := hSp.lo
    have hhi := hSp.hi
    have HSp := Lib.hid hSp
    have HC1 : Hid (∀ i, i < C.length → 0 ≤ gi C i ∧ gi C i ≤ 9223372036854775807) := Lib.hid fun i h => by have := hc1 i h; omega
    have HV := Lib.hid (show vCounts S C = dcAll S C C.length from by simp only [vCounts, if_pos hz])
    have hzb : (eCode S C == 0) = true := by simp [hz]
    have hzn : (eCode S C != 0) = false := by simp [hz]
    have HZ := Lib.hid hz
    clear hSp hc1 hc2 N1 N2 hz
    go_enter Try.func21, Try.ntmps21
    go_wp2_with fail
    refine (l01Given_any ao S cap hn ac C capc hnc _ (hS.below B0) (hC.below B0)).mono ?_
    rintro e w1 ⟨rfl, hb⟩
    have c1 := kept_cell hb (cell_new w (.slice ao S.length cap) 28) (lt_alloc _ _)
    have l1 := lt_of_below hb (lt_alloc _ _)
    have B1 : Below w.heap.size w w1 := B0.trans (hb.mono B0.size)
    clear hb B0
    go_wp2_with (at_make; refine wpList_make_full _ rfl _ _ 22 rfl w1.heap.size 2 i0 (.int .i64 0) 1 Try.underlying22 hi hz0 hz1 .i64 .i64 ((S.length : Int) + 1) ((S.length : Int) + 1) (S.length + 1) rfl rfl (by simp) (by simp) (by rw [hz2]; omega) (by unfold maxLen; omega) (by simp) ?_; intro w2 hown hgrow)
    replace hown := own_made hown
    have hb2 := below_grown0 hgrow
    have c2 := kept_cell hb2 c1 l1
    have B2 : Below w.heap.size w w2 := B1.trans (hb2.mono B1.size)
    clear c1 B1 hgrow hb2
    go_loopw [23] (fun i wr => ∃ k : Nat, k ≤ C.length ∧ i = .int .i64 k ∧ OwnInts wr w1.heap.size (.slice (some ⟨w1.heap.size, 0, none⟩) (S.length + 1) (S.length + 1)) (dcAll S C k) ∧ wr.cell? ⟨w.heap.size, 0, none⟩ = some (.slice ao S.length cap) ∧ Below w.heap.size w wr) (fun i _ => C.length - (intOf i).toNat)
    case atStart => exact ⟨0, Nat.zero_le _, rfl, hown, c2, B2⟩
    case round =>
      clear hown c2 B2
      obtain ⟨k, hk, rfl, hown, c, B⟩ := hrel
      by_cases hlt : k < C.length
      · go_wp2_with fail
        go_loopw [28] (fun j wi => ∃ m : Nat, m ≤ C.length ∧ j = .int .i64 m ∧ OwnInts wi w1.heap.size (.slice (some ⟨w1.heap.size, 0, none⟩) (S.length + 1) (S.length + 1)) (dcRow S C k (dcAll S C k) m) ∧ wi.cell? ⟨w.heap.size, 0, none⟩ = some (.slice ao S.length cap) ∧ Below w.heap.size w wi) (fun j _ => C.length - (intOf j).toNat)
        case atStart => exact ⟨0, Nat.zero_le _, rfl, hown, c, B⟩
        case round =>
          clear hown c B
          obtain ⟨m, hm, rfl, hown, c, B⟩ := hrel
          by_cases hlm : m < C.length
          · obtain ⟨b, o, rfl, hbl, hc⟩ := hC.at hlt
            have hck : wr.cell? ⟨b, o + k, none⟩ = some (.int .i64 (gi C k)) := kept_cell B (hc k hlt) hbl
            have hcm : wr.cell? ⟨b, o + m, none⟩ = some (.int .i64 (gi C m)) := kept_cell B (hc m hlm) hbl
            obtain ⟨x1, x2⟩ := HC1.out k hlt
            obtain ⟨y1, y2⟩ := HC1.out m hlm
            obtain ⟨d1, d2⟩ := dist_bd S (gi C k) (gi C m)
            obtain ⟨D, hD⟩ : ∃ D : Nat, dist S (gi C k) (gi C m) = (D : Int) := ⟨_, (Int.toNat_of_nonneg d1).symm⟩
            rw [hD] at d1 d2
            have hDl : D < S.length + 1 := by omega
            have hD0 : (0 : Int) ≤ (D : Int) := by omega
            have hD1 : (D : Int) < (S.length : Int) + 1 := by omega
            obtain ⟨s1, s2⟩ := dc_small S C k m D hlen hlt hm
            have HL : Hid (dcRow S C k (dcAll S C k) (m + 1) = (dcRow S C k (dcAll S C k) m).set D (gi (dcRow S C k (dcAll S C k) m) D + 1)) := Lib.hid (by simp only [dcRow, bump, hD, Int.toNat_natCast])
            have HN : Hid ((dcRow S C k (dcAll S C k) m).length = S.length + 1) := Lib.hid (by rw [dcRow_len, dcAll_len])
            obtain ⟨L, hL⟩ : ∃ L, L = dcRow S C k (dcAll S C k) m := ⟨_, rfl⟩
            rw [← hL] at hown s1 s2 HL HN
            have HD := Lib.hid hD
            have EW : IntKind.i64.wrap (gi L D + 1) = gi L D + 1 := IntWalk.i64_in _ ⟨by omega, by omega⟩
            have hgl := hown.base_le.2
            have hbr : b < wr.heap.size := lt_of_below B hbl
            have hwr := B.size
            clear hc hL hD d1 d2
            go_wp2_with fail
            go_region_law (first | (go_simp; go_at_call 74; refine (l01Distance_nat ao S cap hhi HSp.out.bd (gi C k) (gi C m) x1 x2 y1 y2 D HD _ (hS.below B.drew)).mono ?_; rintro e w3 ⟨rfl, hb3'⟩; have hb3 : Below wr.heap.size wr w3 := (Below.refl _ wr).drew.trans hb3'; have own3 := hown.below hb3; have hcell3 := own3.cell (k := D) (by rw [HN.out]; omega); have hfree3 := own3.free D))
            all_goals
              go_wp2
              go_roundw
              case rel => exact ⟨m + 1, by omega, by go_num, by rw [HL.out]; exact own3.stored D _, cell_set_other (kept_cell hb3 c (by omega)) (by simp; omega), (B.trans (hb3.mono B.size)).setCell (by simp; omega) _⟩
              case measure => simp [intOf]; omega
          · have em : m = C.length := by omega
            subst em
            go_wp2
            go_roundw
            case rel => exact ⟨k + 1, by omega, by go_num, hown, c, B⟩
            case measure => simp [intOf]; omega
      · have ek : k = C.length := by omega
        go_wp2
        go_ret2
        exact ⟨_, by rw [HZ.out]; rfl, by rw [HV.out, ← ek]; exact hown.rebase (by omega), B⟩
  · have HV := Lib.hid (show vCounts S C = [] from by simp only [vCounts, if_neg hz])
    have hzb : (eCode S C == 0) = false := by simpa using hz
    have hzn : (eCode S C != 0) = true := by simpa using hz
    clear hz
    go_enter Try.func21, Try.ntmps21
    go_wp2_with fail
    refine (l01Given_any ao S cap hn ac C capc hnc _ (hS.below B0) (hC.below B0)).mono ?_
    rintro e w1 ⟨rfl, hb⟩
    go_wp2_with fail
    go_ret2
    exact ⟨_, rfl, by rw [HV.out]; exact own_nil _ _, B0.trans (hb.mono B0.size)⟩

end Go.Proofs.Ytdgbofjohinniab
