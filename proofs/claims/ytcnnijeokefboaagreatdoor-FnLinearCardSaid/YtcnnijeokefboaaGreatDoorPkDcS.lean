/-
  The contracts of the model's counts of weights and DualCounts. By an AI agent.
-/
import Derived.Test.YtcnnijeokefboaaGreatDoorPk23
import Derived.Test.YtcnnijeokefboaaGreatDoorMath
import Derived.Test.YtcnnijeokefboaaGreatDoorPk20
import Derived.Lib.MinMax
import Derived.Deep.RegionHeld3
import Derived.Deep.RegionLaw
import Derived.Deep.RegionWith
import Derived.Test.YtcnnijeokefboaaGreatDoorMathB
import Derived.Test.YtcnnijeokefboaaGreatDoorMacW
import Derived.Test.YtcnnijeokefboaaGreatDoorPkNrS
import Derived.Test.YtcnnijeokefboaaGreatDoorAppendAt
import Derived.StillTailTactics
import Derived.IntWalk
namespace Go.Proofs.YtcnnijeokefboaaGreatDoor
open Go.RowKit Cv
set_option linter.unusedVariables false
set_option linter.unusedSimpArgs false
set_option maxRecDepth 100000

end Go.Proofs.YtcnnijeokefboaaGreatDoor

namespace Go.Proofs.YtcnnijeokefboaaGreatDoor
open Go.RowKit Cv
set_option linter.unusedVariables false
set_option linter.unusedSimpArgs false
set_option maxRecDepth 100000

theorem Ints.grown {w w' : World} {ao : Option Addr} {S : List Int} {r : Nat} (h : Ints w ao S) (hg : w.grownBy w' (some r)) (hne : ∀ b o, ao = some ⟨b, o, none⟩ → b ≠ r) : Ints w' ao S := by
  rcases h with h | ⟨b, o, rfl, hlt, hc⟩
  · exact .inl h
  · exact .inr ⟨b, o, rfl, Nat.lt_of_lt_of_le hlt hg.size, fun i hi => hg.cell (a := ⟨b, o + i, none⟩) (hc i hi) (by have := hne b o rfl; simpa using this)⟩

theorem l01Distance_nat (ao : Option Addr) (S : List Int) (cap : Nat) (hl : S.length ≤ 8) (hbd : ∀ i, i < S.length → 2 ≤ gi S i ∧ gi S i ≤ 4) (u x : Int) (hu : 0 ≤ u) (hu2 : u ≤ 9223372036854775807) (hx : 0 ≤ x) (hx2 : x ≤ 9223372036854775807) (D : Nat) (hD : Hid (dist S u x = (D : Int))) (w : World) (hS : Ints w ao S) :
    Calls Tryz.prog 91 #[.agg #[.slice ao S.length cap], .int .i64 u, .int .i64 x] w fun e w' => e = .returned (.int .i64 (D : Int)) ∧ Below w.heap.size w w' := by
  rw [← hD.out]; exact l01Distance_any ao S cap hl hbd u x hu hu2 hx hx2 w hS

theorem differences_nat (a a' : Option Addr) (S : List Int) (u x : Int) (c c' : Nat) (w : World) (hn : S.length ≤ 8) (D : Nat) (hD : Hid (dist S u x = (D : Int))) (h : Ints w a (digs S u)) (h' : Ints w a' (digs S x)) :
    Calls Tryz.prog 135 #[.slice a S.length c, .slice a' S.length c'] w fun e w' => e = .returned (.int .i64 (D : Int)) ∧ Below w.heap.size w w' := by
  rw [← hD.out, ← diff_digs]
  exact differences_any a a' (digs S u) (digs S x) S.length c S.length c' w (by omega) (digs_length _ _) (digs_length _ _) (Nat.le_refl _) h h'

end Go.Proofs.YtcnnijeokefboaaGreatDoor

namespace Go.Proofs.YtcnnijeokefboaaGreatDoor
open Go.RowKit Cv
set_option linter.unusedVariables false
set_option linter.unusedSimpArgs false
set_option maxRecDepth 100000

set_option maxHeartbeats 2000000 in
theorem l05Counts_any (ao : Option Addr) (S : List Int) (cap : Nat) (hSp : Sp S) (ac : Option Addr) (C : List Int) (capc : Nat) (hlen : C.length ≤ 1024) (hC : ∀ i, i < C.length → 0 ≤ gi C i ∧ gi C i ≤ 9223372036854775807) (w : World) (hS : Ints w ao S) (hCI : Ints w ac C) :
    Calls Tryz.prog 76 #[.agg #[.slice ao S.length cap], .slice ac C.length capc] w fun e w' => ∃ v, e = .returned v ∧ OwnInts w' w.heap.size v (wcTo S C C.length) ∧ Below w.heap.size w w' := by
  obtain ⟨i0, hi, hz0, hz1, hz2⟩ := info_parts infoI64
  have HSp := Lib.hid hSp
  have HC1 := Lib.hid hC
  have hlo := hSp.lo
  have hhi := hSp.hi
  have B0 : Below w.heap.size w (w.alloc (.cells #[.slice ao S.length cap] 26)) := by go_grown
  have c1 := cell_new w (.slice ao S.length cap) 26
  have l1 := lt_alloc w (.cells #[.slice ao S.length cap] 26)
  clear hSp hC
  go_enter Tryz.func76, Tryz.ntmps76
  go_wp2_with (at_make; refine wpList_make_full _ rfl _ _ 24 rfl (w.heap.size + 1) 2 i0 (.int .i64 0) 1 Tryz.underlying24 hi hz0 hz1 .i64 .i64 ((S.length : Int) + 1) ((S.length : Int) + 1) (S.length + 1) rfl rfl (by simp) (by simp) (by rw [hz2]; omega) (by unfold maxLen; omega) (by simp) ?_; intro w2 hown hgrow; have hb2 := below_grown0 hgrow; have c2 := kept_cell hb2 c1 l1)
  replace hown := own_made hown
  rw [← wcTo_0 S C] at hown
  have B2 : Below w.heap.size w w2 := B0.trans (hb2.mono (by simp))
  have l2 : w.heap.size < w2.heap.size := lt_of_below hb2 l1
  obtain ⟨q, hq⟩ : ∃ q, q = w.heap.size + 1 := ⟨_, rfl⟩
  simp only [World.size_alloc] at hown
  rw [← hq] at hown
  try rw [← hq]
  have hqw : w.heap.size < q := by omega
  clear c1 hgrow hb2 B0 hq
  go_loopw [14] (fun i wr => ∃ k : Nat, k ≤ C.length ∧ i = .int .i64 k ∧ OwnInts wr q (.slice (some ⟨q, 0, none⟩) (S.length + 1) (S.length + 1)) (wcTo S C k) ∧ wr.cell? ⟨w.heap.size, 0, none⟩ = some (.slice ao S.length cap) ∧ Below w.heap.size w wr) (fun i _ => C.length - (intOf i).toNat)
  case atStart => exact ⟨0, Nat.zero_le _, rfl, hown, c2, B2⟩
  case round =>
    clear hown c2 B2
    obtain ⟨k, hk, rfl, hown, c, B⟩ := hrel
    by_cases hlt : k < C.length
    · obtain ⟨b, o, rfl, hbl, hc⟩ := hCI.at hlt
      have hck : wr.cell? ⟨b, o + k, none⟩ = some (.int .i64 (gi C k)) := kept_cell B (hc k hlt) hbl
      obtain ⟨x1, x2⟩ := HC1.out k hlt
      obtain ⟨d1, d2⟩ := dist_bd S 0 (gi C k)
      obtain ⟨D, hD⟩ : ∃ D : Nat, dist S 0 (gi C k) = (D : Int) := ⟨_, (Int.toNat_of_nonneg d1).symm⟩
      rw [hD] at d1 d2
      have hDl : D < S.length + 1 := by omega
      have hD0 : (0 : Int) ≤ (D : Int) := by omega
      have hD1 : (D : Int) < (S.length : Int) + 1 := by omega
      obtain ⟨s1, s2⟩ := wcTo_bd S C k D
      have HL : Hid ((wcTo S C k).set D (gi (wcTo S C k) D + 1) = wcTo S C (k + 1)) := Lib.hid (wcTo_step S C k D hD)
      have HN : Hid ((wcTo S C k).length = S.length + 1) := Lib.hid (wcTo_len _ _ _)
      obtain ⟨L, hL⟩ : ∃ L, L = wcTo S C k := ⟨_, rfl⟩
      rw [← hL] at hown s1 s2 HL HN
      have HD := Lib.hid hD
      have EW : IntKind.i64.wrap (gi L D + 1) = gi L D + 1 := IntWalk.i64_in _ ⟨by omega, by omega⟩
      have hgl := hown.base_le.2
      have hbr : b < wr.heap.size := lt_of_below B hbl
      have hwr := B.size
      clear hc hL hD d1 d2
      go_wp2_with fail
      go_region_law (first | (go_simp; go_at_call 91; refine (l01Distance_nat ao S cap hhi HSp.out.bd 0 (gi C k) (by omega) (by omega) x1 x2 D HD _ (hS.below B.drew)).mono ?_; rintro e w3 ⟨rfl, hb3'⟩; have hb3 : Below wr.heap.size wr w3 := (Below.refl _ wr).drew.trans hb3'; have own3 := hown.below hb3; have hcell3 := own3.cell (k := D) (by rw [HN.out]; omega); have hfree3 := own3.free D))
      all_goals
        go_wp2
        go_roundw
        case rel => exact ⟨k + 1, by omega, by go_num, by rw [← HL.out]; exact own3.stored D _, cell_set_other (kept_cell hb3 c (by omega)) (by simp; omega), (B.trans (hb3.mono B.size)).setCell (by simp; omega) _⟩
        case measure => simp [intOf]; omega
    · have ek : k = C.length := by omega
      go_wp2
      go_ret
      exact ⟨_, rfl, by rw [← ek]; exact hown.rebase (by omega), B⟩

theorem spec_WeightCounts (ao : Option Addr) (S : List Int) (cap : Nat) (hn : S.length ≤ 4294967296) (ac : Option Addr) (C : List Int) (capc : Nat) (hnc : C.length ≤ 4294967296) (w : World) (hS : Ints w ao S) (hC : Ints w ac C) :
    Calls Tryz.prog 38 #[.agg #[.slice ao S.length cap], .slice ac C.length capc] w fun e w' => ∃ v, e = .returned (.tuple #[v, .int .i64 (eCode S C)]) ∧ OwnInts w' w.heap.size v (vWc S C) ∧ Below w.heap.size w w' := by
  have B0 : Below w.heap.size w (w.alloc (.cells #[.slice ao S.length cap] 26)) := by go_grown
  have c0 := cell_new w (.slice ao S.length cap) 26
  have l0 := lt_alloc w (.cells #[.slice ao S.length cap] 26)
  by_cases hz : eCode S C = 0
  · obtain ⟨hSp, hc1, hc2⟩ := eCode_zero hz
    have hlen := code_len hSp hc1 hc2
    have N := nW_bd hSp
    have HSp := Lib.hid hSp
    have HC1 : Hid (∀ i, i < C.length → 0 ≤ gi C i ∧ gi C i ≤ 9223372036854775807) := Lib.hid fun i h => by have := hc1 i h; omega
    have HV : Hid (vWc S C = wcTo S C C.length) := Lib.hid (by unfold vWc; rw [if_pos hz])
    have hzn : (eCode S C != 0) = false := by simp [hz]
    have HZ := Lib.hid hz
    clear hSp hc1 hc2 N hz
    go_enter Tryz.func38, Tryz.ntmps38
    go_wp2_with fail
    refine (l01Given_any ao S cap hn ac C capc hnc _ (hS.below B0) (hC.below B0)).mono ?_
    rintro e w1 ⟨rfl, hb⟩
    have c1 := kept_cell hb c0 l0
    have B1 : Below w.heap.size w w1 := B0.trans (hb.mono B0.size)
    have s1 := B1.size
    clear hb B0 c0 l0
    go_wp2_with fail
    refine (l05Counts_any ao S cap HSp.out ac C capc hlen HC1.out _ (hS.below B1) (hC.below B1)).mono ?_
    rintro e w2 ⟨v, rfl, own, hb⟩
    go_wp2_with fail
    go_ret2
    exact ⟨_, by rw [HZ.out]; rfl, by rw [HV.out]; exact own.rebase s1, B1.trans (hb.mono s1)⟩
  · have hzn : (eCode S C != 0) = true := by simpa using hz
    have HV : Hid (vWc S C = []) := Lib.hid (by unfold vWc; rw [if_neg hz])
    clear hz
    go_enter Tryz.func38, Tryz.ntmps38
    go_wp2_with fail
    refine (l01Given_any ao S cap hn ac C capc hnc _ (hS.below B0) (hC.below B0)).mono ?_
    rintro e w1 ⟨rfl, hb⟩
    go_wp2_with fail
    go_ret2
    exact ⟨_, rfl, by rw [HV.out]; exact own_nil _ _, B0.trans (hb.mono B0.size)⟩

end Go.Proofs.YtcnnijeokefboaaGreatDoor

namespace Go.Proofs.YtcnnijeokefboaaGreatDoor
open Go.RowKit Cv
set_option linter.unusedVariables false
set_option linter.unusedSimpArgs false
set_option maxRecDepth 100000

theorem owni_oth {w : World} {base g n cap p : Nat} {T : List Int} (h : OwnInts w base (.slice (some ⟨g, 0, none⟩) n cap) T) (hne : g ≠ p) (u : Nat) (v : Value) : OwnInts (w.setCell ⟨p, u, none⟩ v) base (.slice (some ⟨g, 0, none⟩) n cap) T :=
  World.ownsRow.kept h (grown_setCell (World.grownBy.refl _ _) u _) (.inr (show some g ≠ some p from fun e => hne (Option.some.inj e)))

set_option maxHeartbeats 8000000 in
theorem spec_DualCounts (ao : Option Addr) (S : List Int) (cap : Nat) (hn : S.length ≤ 4294967296) (ac : Option Addr) (C : List Int) (capc : Nat) (hnc : C.length ≤ 4294967296) (w : World) (hS : Ints w ao S) (hC : Ints w ac C) :
    Calls Tryz.prog 27 #[.agg #[.slice ao S.length cap], .slice ac C.length capc] w fun e w' => ∃ v, e = .returned (.tuple #[v, .int .i64 (eLin S C)]) ∧ OwnInts w' w.heap.size v (vDc S C) ∧ Below w.heap.size w w' := by
  have B0 : Below w.heap.size w (w.alloc (.cells #[.slice ao S.length cap] 26)) := by go_grown
  have c0 := cell_new w (.slice ao S.length cap) 26
  have l0 := lt_alloc w (.cells #[.slice ao S.length cap] 26)
  have h1 := l05Given_any ao S cap hn ac C capc hnc _ (hS.below B0) (hC.below B0)
  by_cases hz : eLin S C = 0
  · obtain ⟨i0, hi, hz0, hz1, hz2⟩ := info_parts infoI64
    have hc0 : eCode S C = 0 := by have h := hz; unfold eLin at h; split at h; assumption; omega
    have hlb : linB S C = true := by
      have h := hz
      unfold eLin at h
      rw [if_pos hc0] at h
      split at h
      · assumption
      · cases h
    obtain ⟨hP, hg⟩ := lin_gp hc0 hlb
    have hlen := code_len0 hc0
    have hpos := List.length_pos_of_mem hg.zero
    have hlo := hP.sp.lo
    have hhi := hP.sp.hi
    obtain ⟨b, o, rfl, hbl, hcS⟩ := hS.at hlo
    have hcS0 : w.cell? ⟨b, o, none⟩ = some (.int .i64 (gi S 0)) := hcS 0 hlo
    have HP := Lib.hid hP
    have Hg := Lib.hid hg
    have HV : Hid (vDc S C = dcL S C) := Lib.hid (by unfold vDc; rw [if_pos hz])
    have HWL : Hid ((wcTo S C C.length).length = S.length + 1) := Lib.hid (by simp [wcTo])
    have HNE : Hid (wcTo S C C.length ≠ []) := Lib.hid (fun h => by have := HWL.out; rw [h] at this; simp at this)
    have HCB : Hid (∀ i, i < C.length → 0 ≤ gi C i ∧ gi C i ≤ 9223372036854775807) := Lib.hid fun i hi => by have := hg.wd _ (gi_mem hi); have N := nW_bd hP.sp; unfold Wd at this; omega
    have hq := hP.q
    rw [hz] at h1
    have HZ := Lib.hid hz
    have H1 := Lib.hid h1
    clear hz h1 hc0 hlb hP hg hcS
    go_enter Tryz.func27, Tryz.ntmps27
    go_wp2_with fail
    refine H1.out.mono ?_
    rintro e w1 ⟨rfl, hb⟩
    have c1 := kept_cell hb c0 l0
    have B1 := B0.trans (hb.mono B0.size)
    have s1 : w.heap.size < w1.heap.size := lt_of_below hb l0
    clear hb c0 l0 B0
    go_wp2_with fail
    go_region_held3 (fun w' => w'.cell? ⟨w.heap.size, 0, none⟩ = some (.slice (some ⟨b, o, none⟩) S.length cap)) (first | exact c1 | exact k1) (first | (go_at_call 76; refine (l05Counts_any (some ⟨b, o, none⟩) S cap HP.out.sp ac C capc hlen HCB.out _ (hS.below B1.drew) (hC.below B1.drew)).mono ?_; rintro e w2 ⟨v2, rfl, oc, hb2'⟩; obtain ⟨gc, kc, hv, _⟩ := own_some oc HNE.out; rw [HWL.out] at hv; subst hv; have hb2 : Below w1.heap.size w1 w2 := (Below.refl _ w1).drew.trans hb2'; have k1 := kept_cell hb2 c1 s1))
    have B2 := B1.trans (hb2.mono B1.size)
    have s2 : w.heap.size < w2.heap.size := lt_of_below hb2 s1
    have qc := oc.base_le
    replace oc := oc.rebase (base' := w.heap.size) B1.size
    have qc2 : gc < w2.heap.size := qc.2
    clear hb2 hb2' c1 B1 qc
    go_wp2_with (at_make; refine wpList_make_full _ rfl _ _ 24 rfl (w.heap.size) 2 i0 (.int .i64 0) 1 Tryz.underlying24 hi hz0 hz1 .i64 .i64 ((S.length : Int) + 1) ((S.length : Int) + 1) (S.length + 1) rfl rfl (by simp) (by simp) (by rw [hz2]; omega) (by unfold maxLen; omega)  (by omega) ?_; intro w3 hown hgrow)
    have hb3 := below_grown0 hgrow
    replace hown := own_made hown
    rw [tbN_0] at hown
    have s3 := hb3.size
    have B3 := B2.trans (hb3.mono B2.size)
    have c3 := kept_cell hb3 k1 (by omega)
    have oc3 := oc.below hb3
    obtain ⟨po, hpo⟩ : ∃ po, po = w2.heap.size := ⟨_, rfl⟩
    rw [← hpo] at hown qc2 ⊢
    have ncp : gc ≠ po := by omega
    have lpo : w.heap.size ≠ po := by omega
    have HO0 : Hid (tbN (fun _ => 0) (S.length + 1) = tbN (fun k => ouF S C 0 k) (S.length + 1)) := Lib.hid rfl
    rw [HO0.out] at hown
    clear oc k1 B2 hgrow HO0 hb3 hpo
    go_loopw [10] (fun t wr => ∃ m : Nat, m ≤ S.length + 1 ∧ t = .int .i64 m ∧ OwnInts wr w.heap.size (.slice (some ⟨po, 0, none⟩) (S.length + 1) (S.length + 1)) (tbN (fun k => ouF S C m k) (S.length + 1)) ∧ OwnInts wr w.heap.size (.slice (some ⟨gc, 0, none⟩) (S.length + 1) kc) (wcTo S C C.length) ∧ wr.cell? ⟨w.heap.size, 0, none⟩ = some (.slice (some ⟨b, o, none⟩) S.length cap) ∧ Below w.heap.size w wr) (fun t _ => S.length + 1 - (intOf t).toNat)
    case atStart => exact ⟨0, Nat.zero_le _, rfl, hown, oc3, c3, B3⟩
    case round =>
      clear hown oc3 c3 B3
      obtain ⟨m, hm, rfl, oo, oc, cs, B⟩ := hrel
      have qo := oo.base_le
      have qc := oc.base_le
      by_cases hlt : m < S.length + 1
      · have mI : (m : Int) ≤ (S.length : Int) := by omega
        have m0 : (0 : Int) ≤ (m : Int) := by omega
        have mI2 : (m : Int) < (S.length : Int) + 1 := by omega
        have hcm := oc.cell (k := m) (by rw [HWL.out]; exact hlt)
        rw [gi_wc S C hlt] at hcm
        go_wp2_with (at_make; refine wpList_make_full _ rfl _ _ 24 rfl (w.heap.size) 2 i0 (.int .i64 0) 1 Tryz.underlying24 hi hz0 hz1 .i64 .i64 ((S.length : Int) + 1) ((S.length : Int) + 1) (S.length + 1) rfl rfl (by simp) (by simp) (by rw [hz2]; omega) (by unfold maxLen; omega)  (by omega) ?_; intro w4 hown hgrow; have hb4 := below_grown0 hgrow; have hcm4 := kept_cell hb4 hcm qc.2; replace hown := own_made hown; rw [tbN_0] at hown; have hfr := hown.free 0; have hc00 := hown.cell (k := 0) (by rw [tbN_len]; omega); rw [gi_tbN _ (by omega)] at hc00)
        have B4 := B.trans (hb4.mono B.size)
        have c4 := kept_cell hb4 cs (by omega)
        have oo4 := oo.below hb4
        have oc4 := oc.below hb4
        obtain ⟨pr, hpr⟩ : ∃ pr, pr = wr.heap.size := ⟨_, rfl⟩
        rw [← hpr] at hown ⊢
        have nro : po ≠ pr := by omega
        have nrc : gc ≠ pr := by omega
        have nrl : w.heap.size ≠ pr := by omega
        have orw := hown.stored 0 (cw S C m)
        rw [tbN_set] at orw
        have HR00 : Hid (tbN (fun u => if u = 0 then cw S C m else 0) (S.length + 1) = tbN (fun k => rwF S C m 0 k) (S.length + 1)) := Lib.hid (tbN_congr fun u hu => by rw [rwF_0])
        rw [HR00.out] at orw
        have oo5 := owni_oth oo4 nro 0 (.int .i64 (cw S C m))
        have oc5 := owni_oth oc4 nrc 0 (.int .i64 (cw S C m))
        have c5 := cell_set_other (a := ⟨pr, 0, none⟩) (u := .int .i64 (cw S C m)) c4 nrl
        have B5 : Below w.heap.size w (w4.setCell ⟨pr, 0, none⟩ (.int .i64 (cw S C m))) := B4.setCell (by simp; omega) _
        clear oo oc cs B hcm hcm4 hown hfr hc00 hgrow hb4 hpr oo4 oc4 B4 c4 HR00
        go_loopw [12] (fun t wr => ∃ i : Nat, i ≤ S.length ∧ t = .int .i64 i ∧ OwnInts wr w.heap.size (.slice (some ⟨po, 0, none⟩) (S.length + 1) (S.length + 1)) (tbN (fun k => ouF S C m k) (S.length + 1)) ∧ OwnInts wr w.heap.size (.slice (some ⟨gc, 0, none⟩) (S.length + 1) kc) (wcTo S C C.length) ∧ OwnInts wr w.heap.size (.slice (some ⟨pr, 0, none⟩) (S.length + 1) (S.length + 1)) (tbN (fun k => rwF S C m i k) (S.length + 1)) ∧ wr.cell? ⟨w.heap.size, 0, none⟩ = some (.slice (some ⟨b, o, none⟩) S.length cap) ∧ Below w.heap.size w wr) (fun t _ => S.length - (intOf t).toNat)
        case atStart => exact ⟨0, Nat.zero_le _, rfl, oo5, oc5, orw, c5, B5⟩
        case round =>
          clear oo5 oc5 orw c5 B5
          obtain ⟨i, hi9, rfl, oo, oc, orw, cs, B⟩ := hrel
          have qr := orw.base_le
          by_cases hli : i < S.length
          · have iI : (i : Int) < (S.length : Int) := by omega
            have i0' : (0 : Int) ≤ (i : Int) := by omega
            have hcq := kept_cell B hcS0 hbl
            obtain ⟨q, hq9⟩ : ∃ q, q = gi S 0 := ⟨_, rfl⟩
            have HQ9 := Lib.hid hq9
            rw [← hq9] at hcq hq
            have EQ : IntKind.i64.wrap (q - 1) = q - 1 := IntWalk.i64_in _ ⟨by omega, by omega⟩
            have HR0 : Hid (tbN (fun k => if i + 1 < k then rwF S C m (i + 1) k else rwF S C m i k) (S.length + 1) = tbN (fun k => rwF S C m i k) (S.length + 1)) := Lib.hid (tbN_congr fun k hk => by
              by_cases e : i + 1 < k
              · rw [if_pos e, rwF_zero _ _ _ _ _ e, rwF_zero _ _ _ _ _ (by omega)]
              · rw [if_neg e])
            clear hq9
            by_cases him : i < m
            · have HBY : Hid (byW (gi S 0 - 1) m i = -1) := Lib.hid (by unfold byW; rw [if_pos him])
              have him' : (i : Int) < (m : Int) := by omega
              go_wp2_with fail
              go_loopw [14] (fun t wk => ∃ k : Nat, k ≤ i + 1 ∧ t = .int .i64 k ∧ OwnInts wk w.heap.size (.slice (some ⟨po, 0, none⟩) (S.length + 1) (S.length + 1)) (tbN (fun k => ouF S C m k) (S.length + 1)) ∧ OwnInts wk w.heap.size (.slice (some ⟨gc, 0, none⟩) (S.length + 1) kc) (wcTo S C C.length) ∧ OwnInts wk w.heap.size (.slice (some ⟨pr, 0, none⟩) (S.length + 1) (S.length + 1)) (tbN (fun j => if k < j then rwF S C m (i + 1) j else rwF S C m i j) (S.length + 1)) ∧ wk.cell? ⟨w.heap.size, 0, none⟩ = some (.slice (some ⟨b, o, none⟩) S.length cap) ∧ Below w.heap.size w wk) (fun t _ => (intOf t).toNat)
              case atStart => exact ⟨i + 1, Nat.le_refl _, by go_num, oo, oc, by rw [HR0.out]; exact orw, cs, B⟩
              case round =>
                clear oo oc orw cs B
                obtain ⟨k, hk, rfl, oo, oc, orw, cs, B⟩ := hrel
                have qr := orw.base_le
                by_cases hk0 : k = 0
                · subst hk0
                  have HE0 : Hid (tbN (fun j => if 0 < j then rwF S C m (i + 1) j else rwF S C m i j) (S.length + 1) = tbN (fun j => rwF S C m (i + 1) j) (S.length + 1)) := Lib.hid (tbN_congr fun j hj => by
                    by_cases e : 0 < j
                    · rw [if_pos e]
                    · rw [if_neg e, show j = 0 by omega, rwF_step0])
                  rw [HE0.out] at orw
                  go_wp2_with fail
                  go_roundw
                  case rel => exact ⟨i + 1, by omega, by go_num, oo, oc, orw, cs, B⟩
                  case measure => simp [intOf]; omega
                · obtain ⟨k', hk'⟩ : ∃ k', k = k' + 1 := ⟨k - 1, by omega⟩
                  have hka := orw.cell (k := k) (by rw [tbN_len]; omega)
                  rw [gi_tbN _ (by omega), if_neg (by omega)] at hka
                  have hkb := orw.cell (k := k') (by rw [tbN_len]; omega)
                  rw [gi_tbN _ (by omega), if_neg (by omega)] at hkb
                  have hfr := orw.free k
                  have hst := rwF_step S C m i k'
                  rw [HBY.out, ← hk'] at hst
                  have b1 := rwF_bd HP.out hlen m (i := i + 1) (by omega) k
                  have b2 := rwF_bd HP.out hlen m (i := i) (by omega) k
                  have HNX : Hid (tbN (fun j => if j = k then rwF S C m (i + 1) k else if k < j then rwF S C m (i + 1) j else rwF S C m i j) (S.length + 1) = tbN (fun j => if k' < j then rwF S C m (i + 1) j else rwF S C m i j) (S.length + 1)) := Lib.hid (tbN_congr fun j hj => by
                    by_cases e : j = k
                    · subst e; rw [if_pos rfl, if_pos (by omega)]
                    · rw [if_neg e]
                      by_cases e2 : k < j
                      · rw [if_pos e2, if_pos (by omega)]
                      · rw [if_neg e2, if_neg (by omega)])
                  obtain ⟨za, hza⟩ : ∃ za, za = rwF S C m i k := ⟨_, rfl⟩
                  obtain ⟨zb, hzb⟩ : ∃ zb, zb = rwF S C m i k' := ⟨_, rfl⟩
                  obtain ⟨zc, hzc⟩ : ∃ zc, zc = rwF S C m (i + 1) k := ⟨_, rfl⟩
                  rw [← hza] at hka hst b2
                  rw [← hzb] at hkb hst
                  rw [← hzc] at hst b1 HNX
                  have E1 : IntKind.i64.wrap (-zb) = -zb := IntWalk.i64_in _ ⟨by omega, by omega⟩
                  have E2 : IntKind.i64.wrap (za + -zb) = zc := by rw [show za + -zb = zc by omega]; exact IntWalk.i64_in _ ⟨by omega, by omega⟩
                  have hk2 : k' < k := by omega
                  have k0 : (0 : Int) < (k : Int) := by omega
                  have kN : (k : Int) < (S.length : Int) + 1 := by omega
                  have kM : ((k' : Nat) : Int) < (S.length : Int) + 1 := by omega
                  have E3 : IntKind.i64.wrap ((k : Int) - 1) = (k' : Int) := by rw [IntWalk.i64_in _ ⟨by omega, by omega⟩]; omega
                  clear hst hza hzb hzc b1 b2 hk0 hk'
                  go_wp2_with fail
                  go_still_tail 15, (by kernel_rfl)
                  change wpList _ _ _ _ _ wr.drew
                  go_wp2
                  go_roundw
                  case rel => exact ⟨k', by omega, by go_num, owni_oth oo.drew nro _ _, owni_oth oc.drew nrc _ _, by rw [← HNX.out, ← tbN_set]; exact orw.drew.stored k zc, cell_set_other (w := wr.drew) cs (by simp; omega), B.drew.setCell (by simp; omega) _⟩
                  case measure => simp [intOf]; omega
            · have HBY : Hid (byW (gi S 0 - 1) m i = q - 1) := Lib.hid (by unfold byW; rw [if_neg him, HQ9.out])
              have him' : ¬ ((i : Int) < (m : Int)) := by omega
              go_wp2_with fail
              go_loopw [14] (fun t wk => ∃ k : Nat, k ≤ i + 1 ∧ t = .int .i64 k ∧ OwnInts wk w.heap.size (.slice (some ⟨po, 0, none⟩) (S.length + 1) (S.length + 1)) (tbN (fun k => ouF S C m k) (S.length + 1)) ∧ OwnInts wk w.heap.size (.slice (some ⟨gc, 0, none⟩) (S.length + 1) kc) (wcTo S C C.length) ∧ OwnInts wk w.heap.size (.slice (some ⟨pr, 0, none⟩) (S.length + 1) (S.length + 1)) (tbN (fun j => if k < j then rwF S C m (i + 1) j else rwF S C m i j) (S.length + 1)) ∧ wk.cell? ⟨w.heap.size, 0, none⟩ = some (.slice (some ⟨b, o, none⟩) S.length cap) ∧ Below w.heap.size w wk) (fun t _ => (intOf t).toNat)
              case atStart => exact ⟨i + 1, Nat.le_refl _, by go_num, oo, oc, by rw [HR0.out]; exact orw, cs, B⟩
              case round =>
                clear oo oc orw cs B
                obtain ⟨k, hk, rfl, oo, oc, orw, cs, B⟩ := hrel
                have qr := orw.base_le
                by_cases hk0 : k = 0
                · subst hk0
                  have HE0 : Hid (tbN (fun j => if 0 < j then rwF S C m (i + 1) j else rwF S C m i j) (S.length + 1) = tbN (fun j => rwF S C m (i + 1) j) (S.length + 1)) := Lib.hid (tbN_congr fun j hj => by
                    by_cases e : 0 < j
                    · rw [if_pos e]
                    · rw [if_neg e, show j = 0 by omega, rwF_step0])
                  rw [HE0.out] at orw
                  go_wp2_with fail
                  go_roundw
                  case rel => exact ⟨i + 1, by omega, by go_num, oo, oc, orw, cs, B⟩
                  case measure => simp [intOf]; omega
                · obtain ⟨k', hk'⟩ : ∃ k', k = k' + 1 := ⟨k - 1, by omega⟩
                  have hka := orw.cell (k := k) (by rw [tbN_len]; omega)
                  rw [gi_tbN _ (by omega), if_neg (by omega)] at hka
                  have hkb := orw.cell (k := k') (by rw [tbN_len]; omega)
                  rw [gi_tbN _ (by omega), if_neg (by omega)] at hkb
                  have hfr := orw.free k
                  have hst := rwF_step S C m i k'
                  rw [HBY.out, ← hk'] at hst
                  have b1 := rwF_bd HP.out hlen m (i := i + 1) (by omega) k
                  have b2 := rwF_bd HP.out hlen m (i := i) (by omega) k
                  have HNX : Hid (tbN (fun j => if j = k then rwF S C m (i + 1) k else if k < j then rwF S C m (i + 1) j else rwF S C m i j) (S.length + 1) = tbN (fun j => if k' < j then rwF S C m (i + 1) j else rwF S C m i j) (S.length + 1)) := Lib.hid (tbN_congr fun j hj => by
                    by_cases e : j = k
                    · subst e; rw [if_pos rfl, if_pos (by omega)]
                    · rw [if_neg e]
                      by_cases e2 : k < j
                      · rw [if_pos e2, if_pos (by omega)]
                      · rw [if_neg e2, if_neg (by omega)])
                  obtain ⟨za, hza⟩ : ∃ za, za = rwF S C m i k := ⟨_, rfl⟩
                  obtain ⟨zb, hzb⟩ : ∃ zb, zb = rwF S C m i k' := ⟨_, rfl⟩
                  obtain ⟨zc, hzc⟩ : ∃ zc, zc = rwF S C m (i + 1) k := ⟨_, rfl⟩
                  rw [← hza] at hka hst b2
                  rw [← hzb] at hkb hst
                  rw [← hzc] at hst b1 HNX
                  have E1 : IntKind.i64.wrap ((q - 1) * zb) = (q - 1) * zb := IntWalk.i64_in _ ⟨by omega, by omega⟩
                  have E2 : IntKind.i64.wrap (za + (q - 1) * zb) = zc := by rw [show za + (q - 1) * zb = zc by omega]; exact IntWalk.i64_in _ ⟨by omega, by omega⟩
                  have hk2 : k' < k := by omega
                  have k0 : (0 : Int) < (k : Int) := by omega
                  have kN : (k : Int) < (S.length : Int) + 1 := by omega
                  have kM : ((k' : Nat) : Int) < (S.length : Int) + 1 := by omega
                  have E3 : IntKind.i64.wrap ((k : Int) - 1) = (k' : Int) := by rw [IntWalk.i64_in _ ⟨by omega, by omega⟩]; omega
                  clear hst hza hzb hzc b1 b2 hk0 hk'
                  go_wp2_with fail
                  go_still_tail 15, (by kernel_rfl)
                  change wpList _ _ _ _ _ wr.drew
                  go_wp2
                  go_roundw
                  case rel => exact ⟨k', by omega, by go_num, owni_oth oo.drew nro _ _, owni_oth oc.drew nrc _ _, by rw [← HNX.out, ← tbN_set]; exact orw.drew.stored k zc, cell_set_other (w := wr.drew) cs (by simp; omega), B.drew.setCell (by simp; omega) _⟩
                  case measure => simp [intOf]; omega
          · obtain rfl : i = S.length := by omega
            have iI : ¬ ((S.length : Int) < (S.length : Int)) := by omega
            have HS0 : Hid (tbN (fun k => ouF S C m k) (S.length + 1) = tbN (fun j => if j < 0 then ouF S C (m + 1) j else ouF S C m j) (S.length + 1)) := Lib.hid (tbN_congr fun j hj => by rw [if_neg (by omega)])
            rw [HS0.out] at oo
            clear HS0
            go_wp2_with fail
            go_loopw [82] (fun t wr => ∃ k : Nat, k ≤ S.length + 1 ∧ t = .int .i64 k ∧ OwnInts wr w.heap.size (.slice (some ⟨po, 0, none⟩) (S.length + 1) (S.length + 1)) (tbN (fun j => if j < k then ouF S C (m + 1) j else ouF S C m j) (S.length + 1)) ∧ OwnInts wr w.heap.size (.slice (some ⟨gc, 0, none⟩) (S.length + 1) kc) (wcTo S C C.length) ∧ OwnInts wr w.heap.size (.slice (some ⟨pr, 0, none⟩) (S.length + 1) (S.length + 1)) (tbN (fun k => rwF S C m S.length k) (S.length + 1)) ∧ wr.cell? ⟨w.heap.size, 0, none⟩ = some (.slice (some ⟨b, o, none⟩) S.length cap) ∧ Below w.heap.size w wr) (fun t _ => S.length + 1 - (intOf t).toNat)
            case atStart => exact ⟨0, Nat.zero_le _, rfl, oo, oc, orw, cs, B⟩
            case round =>
              clear oo oc orw cs B
              obtain ⟨k, hk, rfl, oo, oc, orw, cs, B⟩ := hrel
              have qo := oo.base_le
              by_cases hlk : k < S.length + 1
              · have hka := oo.cell (k := k) (by rw [tbN_len]; exact hlk)
                rw [gi_tbN _ hlk, if_neg (by omega)] at hka
                have hkb := orw.cell (k := k) (by rw [tbN_len]; exact hlk)
                rw [gi_tbN _ hlk] at hkb
                have hfr := oo.free k
                have kI : (k : Int) < (S.length : Int) + 1 := by omega
                have k0 : (0 : Int) ≤ (k : Int) := by omega
                have b1 := ouF_bd HP.out hlen (m + 1) k
                have hst : ouF S C (m + 1) k = ouF S C m k + rwF S C m S.length k := rfl
                have HNX : Hid (tbN (fun j => if j = k then ouF S C (m + 1) k else if j < k then ouF S C (m + 1) j else ouF S C m j) (S.length + 1) = tbN (fun j => if j < k + 1 then ouF S C (m + 1) j else ouF S C m j) (S.length + 1)) := Lib.hid (tbN_congr fun j hj => by
                  by_cases e : j = k
                  · subst e; rw [if_pos rfl, if_pos (by omega)]
                  · rw [if_neg e]
                    by_cases e2 : j < k
                    · rw [if_pos e2, if_pos (by omega)]
                    · rw [if_neg e2, if_neg (by omega)])
                obtain ⟨za, hza⟩ : ∃ za, za = ouF S C m k := ⟨_, rfl⟩
                obtain ⟨zb, hzb⟩ : ∃ zb, zb = rwF S C m S.length k := ⟨_, rfl⟩
                obtain ⟨zc, hzc⟩ : ∃ zc, zc = ouF S C (m + 1) k := ⟨_, rfl⟩
                rw [← hza] at hka hst
                rw [← hzb] at hkb hst
                rw [← hzc] at hst b1 HNX
                have E1 : IntKind.i64.wrap (za + zb) = zc := by rw [← hst]; exact IntWalk.i64_in _ ⟨by omega, by omega⟩
                clear hst hza hzb hzc b1
                go_wp2_with fail
                go_still_tail 12, (by kernel_rfl)
                change wpList _ _ _ _ _ wr.drew
                go_wp2
                go_roundw
                case rel => exact ⟨k + 1, by omega, by go_num, by rw [← HNX.out, ← tbN_set]; exact oo.drew.stored k zc, owni_oth oc.drew ncp _ _, owni_oth orw.drew (fun e => nro e.symm) _ _, cell_set_other (w := wr.drew) cs (by simp; omega), B.drew.setCell (by simp; omega) _⟩
                case measure => simp [intOf]; omega
              · obtain rfl : k = S.length + 1 := by omega
                have HS1 : Hid (tbN (fun j => if j < S.length + 1 then ouF S C (m + 1) j else ouF S C m j) (S.length + 1) = tbN (fun k => ouF S C (m + 1) k) (S.length + 1)) := Lib.hid (tbN_congr fun j hj => by rw [if_pos hj])
                rw [HS1.out] at oo
                clear HS1
                go_wp2_with fail
                go_roundw
                case rel => exact ⟨m + 1, by omega, by go_num, oo, oc, cs, B⟩
                case measure => simp [intOf]; omega
      · obtain rfl : m = S.length + 1 := by omega
        have mI : ¬ (((S.length + 1 : Nat) : Int) ≤ (S.length : Int)) := by omega
        have HS0 : Hid (tbN (fun k => ouF S C (S.length + 1) k) (S.length + 1) = tbN (fun j => if j < 0 then dcN S C j else ouF S C (S.length + 1) j) (S.length + 1)) := Lib.hid (tbN_congr fun j hj => by rw [if_neg (by omega)])
        rw [HS0.out] at oo
        clear HS0
        go_wp2_with fail
        go_loopw [100] (fun t wr => ∃ k : Nat, k ≤ S.length + 1 ∧ t = .int .i64 k ∧ OwnInts wr w.heap.size (.slice (some ⟨po, 0, none⟩) (S.length + 1) (S.length + 1)) (tbN (fun j => if j < k then dcN S C j else ouF S C (S.length + 1) j) (S.length + 1)) ∧ Below w.heap.size w wr) (fun t _ => S.length + 1 - (intOf t).toNat)
        case atStart => exact ⟨0, Nat.zero_le _, rfl, oo, B⟩
        case round =>
          clear oo oc cs B
          obtain ⟨k, hk, rfl, oo, B⟩ := hrel
          have qo := oo.base_le
          by_cases hlk : k < S.length + 1
          · have hka := oo.cell (k := k) (by rw [tbN_len]; exact hlk)
            rw [gi_tbN _ hlk, if_neg (by omega)] at hka
            have hfr := oo.free k
            have kI : (k : Int) < (S.length : Int) + 1 := by omega
            have k0 : (0 : Int) ≤ (k : Int) := by omega
            have b1 := ouF_bd HP.out hlen (S.length + 1) k
            have hqu := dc_quo HP.out Hg.out k
            have HDB : -9223372036854775808 ≤ dcN S C k ∧ dcN S C k ≤ 9223372036854775807 := by
              rw [← dc_at S C hlk, dcL, gi_wc S _ hlk]
              have := cw_bd S (duL S C) (duL_len HP.out.sp C) k
              omega
            have HNX : Hid (tbN (fun j => if j = k then dcN S C k else if j < k then dcN S C j else ouF S C (S.length + 1) j) (S.length + 1) = tbN (fun j => if j < k + 1 then dcN S C j else ouF S C (S.length + 1) j) (S.length + 1)) := Lib.hid (tbN_congr fun j hj => by
              by_cases e : j = k
              · subst e; rw [if_pos rfl, if_pos (by omega)]
              · rw [if_neg e]
                by_cases e2 : j < k
                · rw [if_pos e2, if_pos (by omega)]
                · rw [if_neg e2, if_neg (by omega)])
            obtain ⟨za, hza⟩ : ∃ za, za = ouF S C (S.length + 1) k := ⟨_, rfl⟩
            obtain ⟨zc, hzc⟩ : ∃ zc, zc = dcN S C k := ⟨_, rfl⟩
            rw [← hza] at hka hqu
            rw [← hzc] at hqu HNX HDB
            obtain ⟨cl, hcl⟩ : ∃ cl : Int, cl = (C.length : Int) := ⟨_, rfl⟩
            have E4 : za.tdiv (C.length : Int) = zc := hqu
            have E1 : IntKind.i64.wrap zc = zc := IntWalk.i64_in _ HDB
            have hzz : ¬ (C.length : Int) = 0 := by omega
            have hzz2 : ((C.length : Int) == 0) = false := by rw [beq_eq_false_iff_ne]; exact hzz
            clear hqu hza hzc b1 HDB hcl
            go_wp2_with fail
            go_roundw
            case rel => exact ⟨k + 1, by omega, by go_num, by rw [← HNX.out, ← tbN_set]; exact oo.stored k zc, B.setCell (by simp; omega) _⟩
            case measure => simp [intOf]; omega
          · obtain rfl : k = S.length + 1 := by omega
            have HS1 : Hid (tbN (fun j => if j < S.length + 1 then dcN S C j else ouF S C (S.length + 1) j) (S.length + 1) = dcL S C) := Lib.hid (tbN_eq (dcL_len S C) fun j hj => by rw [if_pos hj, dc_at S C hj])
            rw [HS1.out] at oo
            go_wp2_with fail
            go_ret2
            exact ⟨_, by rw [HZ.out]; rfl, by rw [HV.out]; exact oo, B⟩
  · have hzn : (eLin S C != 0) = true := by simpa using hz
    have HV : Hid (vDc S C = []) := Lib.hid (by unfold vDc; rw [if_neg hz])
    clear hz
    go_enter Tryz.func27, Tryz.ntmps27
    go_wp2_with fail
    refine h1.mono ?_
    rintro e w1 ⟨rfl, hb⟩
    go_wp2_with fail
    go_ret2
    exact ⟨_, rfl, by rw [HV.out]; exact own_nil _ _, B0.trans (hb.mono B0.size)⟩

end Go.Proofs.YtcnnijeokefboaaGreatDoor
