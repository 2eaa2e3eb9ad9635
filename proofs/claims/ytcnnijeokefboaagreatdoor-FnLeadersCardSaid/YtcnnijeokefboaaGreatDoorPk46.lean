/-
  Texts put together: WcI, Least, Counts, WcS. By an AI agent.
-/
import Derived.Test.YtcnnijeokefboaaGreatDoorPk36
import Derived.Test.YtcnnijeokefboaaGreatDoorCode
import Derived.Test.YtcnnijeokefboaaGreatDoorCode2
import Derived.Test.YtcnnijeokefboaaGreatDoorMath
import Derived.Test.YtcnnijeokefboaaGreatDoorSums
import Derived.Lib.MinMax
import Derived.Deep.RegionHeld3
import Derived.Deep.RegionLaw
import Derived.Deep.RegionWith
import Derived.Test.YtcnnijeokefboaaGreatDoorMathB
namespace Go.Proofs.YtcnnijeokefboaaGreatDoor
open Go.RowKit Go.Shelf Cv
set_option linter.unusedVariables false
set_option linter.unusedSimpArgs false
set_option maxRecDepth 100000

set_option maxHeartbeats 1000000 in
theorem weightCounts_any (ao : Option Addr) (S : List Int) (cap : Nat) (hSp : Sp S) (ac : Option Addr) (C : List Int) (capc : Nat) (hlen : C.length ≤ 1024) (hC : ∀ x, x ∈ C → 0 ≤ x ∧ x ≤ 9223372036854775807) (w : World) (hS : Ints w ao S) (hCI : Ints w ac C) :
    Calls Tryz.prog 65 #[.agg #[.slice ao S.length cap], .slice ac C.length capc] w fun e w' => ∃ v, e = .returned v ∧ OwnInts w' w.heap.size v (wcTo S C C.length) ∧ Below w.heap.size w w' := by
  obtain ⟨i0, hi, hz0, hz1, hz2⟩ := info_parts infoI64
  have HSp := Lib.hid hSp
  have HC := Lib.hid hC
  have hlo := hSp.lo
  have hhi := hSp.hi
  have B0 : Below w.heap.size w (w.alloc (.cells #[.slice ao S.length cap] 26)) := by go_grown
  have c1 := cell_new w (.slice ao S.length cap) 26
  have l1 := lt_alloc w (.cells #[.slice ao S.length cap] 26)
  clear hSp hC
  go_enter Tryz.func65, Tryz.ntmps65
  go_wp2_with (at_make; refine wpList_make_full _ rfl _ _ 24 rfl (w.heap.size + 1) 2 i0 (.int .i64 0) 1 Tryz.underlying24 hi hz0 hz1 .i64 .i64 ((S.length : Int) + 1) ((S.length : Int) + 1) (S.length + 1) rfl rfl (by simp) (by simp) (by rw [hz2]; omega) (by unfold maxLen; omega) (by simp) ?_; intro w2 hown hgrow; have hb2 := below_grown0 hgrow; have c2 := kept_cell hb2 c1 l1)
  replace hown := own_made hown
  rw [← wcTo_0 S C] at hown
  have B2 : Below w.heap.size w w2 := B0.trans (hb2.mono (by simp))
  have s2 := B2.size
  obtain ⟨q, hq⟩ : ∃ q, q = w.heap.size + 1 := ⟨_, rfl⟩
  simp only [World.size_alloc] at hown
  rw [← hq] at hown
  try rw [← hq]
  have hqw : w.heap.size < q := by omega
  clear c1 hgrow hb2 B0 hq
  refine (weights_any ao S cap HSp.out ac C capc (by omega) HC.out _ (hS.below B2) (hCI.below B2)).mono ?_
  rintro e w3 ⟨g, rfl, ownW, hb3⟩
  have own3 := hown.below hb3
  have B3 := B2.trans (hb3.mono s2)
  have hgw := ownW.base_le
  have hq2 := hown.base_le.2
  have hcell : Hid (∀ j, j < C.length → w3.cell? ⟨g, j, none⟩ = some (.int .i64 (dist S 0 (gi C j)))) := Lib.hid fun j hj => by
    have h := ownW.cell (k := j) (by simpa using hj)
    have e : gi (C.map (dist S 0)) j = dist S 0 (gi C j) := by simp [gi, hj]
    rw [e] at h; exact h
  clear hown hb3 B2 c2 ownW
  go_wp2_with fail
  go_loopw [17] (fun i wr => ∃ k : Nat, k ≤ C.length ∧ i = .int .i64 k ∧ OwnInts wr q (.slice (some ⟨q, 0, none⟩) (S.length + 1) (S.length + 1)) (wcTo S C k) ∧ w3.grownBy wr (some q)) (fun i _ => C.length - (intOf i).toNat)
  case atStart => exact ⟨0, Nat.zero_le _, rfl, own3, grown_of_below (Below.refl _ _) _⟩
  case round =>
    clear own3
    obtain ⟨k, hk, rfl, own, G⟩ := hrel
    by_cases hlt : k < C.length
    · have hck := G.cell (a := ⟨g, k, none⟩) (hcell.out k hlt) (by simp; omega)
      obtain ⟨d1, d2⟩ := dist_bd S 0 (gi C k)
      obtain ⟨D, hD⟩ : ∃ D : Nat, dist S 0 (gi C k) = (D : Int) := ⟨_, (Int.toNat_of_nonneg d1).symm⟩
      rw [hD] at d1 d2 hck
      have hDl : D < S.length + 1 := by omega
      have hD0 : (0 : Int) ≤ (D : Int) := by omega
      have hD1 : (D : Int) < (S.length : Int) + 1 := by omega
      obtain ⟨s1, s2⟩ := wcTo_bd S C k D
      have HL : Hid ((wcTo S C k).set D (gi (wcTo S C k) D + 1) = wcTo S C (k + 1)) := Lib.hid (wcTo_step S C k D hD)
      have HN : Hid ((wcTo S C k).length = S.length + 1) := Lib.hid (wcTo_len _ _ _)
      obtain ⟨L, hL⟩ : ∃ L, L = wcTo S C k := ⟨_, rfl⟩
      rw [← hL] at own s1 s2 HL HN
      have EW : IntKind.i64.wrap (gi L D + 1) = gi L D + 1 := IntWalk.i64_in _ ⟨by omega, by omega⟩
      have hcell4 := own.cell (k := D) (by rw [HN.out]; omega)
      have hfree4 := own.free D
      clear hL hD d1 d2
      go_wp2_with fail
      go_roundw
      case rel => exact ⟨k + 1, by omega, by go_num, by rw [← HL.out]; exact own.stored D _, grown_setCell G _ _⟩
      case measure => simp [intOf]; omega
    · have ek : k = C.length := by omega
      go_wp2_with fail
      go_ret
      exact ⟨_, rfl, by rw [← ek]; exact own.rebase (by omega), B3.grown G B3.size (by intro z hz; simp at hz; omega)⟩

theorem impl_WeightCounts (ao : Option Addr) (S : List Int) (cap : Nat) (hn : S.length ≤ 4294967296) (ac : Option Addr) (C : List Int) (capc : Nat) (hnc : C.length ≤ 4294967296) (w : World) (hS : Ints w ao S) (hC : Ints w ac C) :
    Calls Tryz.prog 17 #[.agg #[.slice ao S.length cap], .slice ac C.length capc] w fun e w' => ∃ v, e = .returned (.tuple #[v, .int .i64 (eCode S C)]) ∧ OwnInts w' w.heap.size v (vWc S C) ∧ Below w.heap.size w w' := by
  have B0 : Below w.heap.size w (w.alloc (.cells #[.slice ao S.length cap] 26)) := by go_grown
  have c0 := cell_new w (.slice ao S.length cap) 26
  have l0 := lt_alloc w (.cells #[.slice ao S.length cap] 26)
  by_cases hz : eCode S C = 0
  · obtain ⟨hSp, hc1, hc2⟩ := eCode_zero hz
    have hlen := code_len hSp hc1 hc2
    have N := nW_bd hSp
    have HSp := Lib.hid hSp
    have HC1 : Hid (∀ x, x ∈ C → 0 ≤ x ∧ x ≤ 9223372036854775807) := Lib.hid fun x h => by obtain ⟨i, hi, rfl⟩ := mem_gi h; have := hc1 i hi; omega
    have HV : Hid (vWc S C = wcTo S C C.length) := Lib.hid (by unfold vWc; rw [if_pos hz])
    have hzn : (eCode S C != 0) = false := by simp [hz]
    have HZ := Lib.hid hz
    clear hSp hc1 hc2 N hz
    go_enter Tryz.func17, Tryz.ntmps17
    go_wp2_with fail
    refine (codeError_any ao S cap hn ac C capc hnc _ (hS.below B0) (hC.below B0)).mono ?_
    rintro e w1 ⟨rfl, hb⟩
    have c1 := kept_cell hb c0 l0
    have B1 : Below w.heap.size w w1 := B0.trans (hb.mono B0.size)
    have s1 := B1.size
    clear hb B0 c0 l0
    go_wp2_with fail
    refine (weightCounts_any ao S cap HSp.out ac C capc hlen HC1.out _ (hS.below B1) (hC.below B1)).mono ?_
    rintro e w2 ⟨v, rfl, own, hb⟩
    go_wp2_with fail
    go_ret2
    exact ⟨_, by rw [HZ.out]; rfl, by rw [HV.out]; exact own.rebase s1, B1.trans (hb.mono s1)⟩
  · have hzn : (eCode S C != 0) = true := by simpa using hz
    have HV : Hid (vWc S C = []) := Lib.hid (by unfold vWc; rw [if_neg hz])
    clear hz
    go_enter Tryz.func17, Tryz.ntmps17
    go_wp2_with fail
    refine (codeError_any ao S cap hn ac C capc hnc _ (hS.below B0) (hC.below B0)).mono ?_
    rintro e w1 ⟨rfl, hb⟩
    go_wp2_with fail
    go_ret2
    exact ⟨_, rfl, by rw [HV.out]; exact own_nil _ _, B0.trans (hb.mono B0.size)⟩

end Go.Proofs.YtcnnijeokefboaaGreatDoor

namespace Go.Proofs.YtcnnijeokefboaaGreatDoor
open Go.RowKit Cv
set_option linter.unusedVariables false
set_option linter.unusedSimpArgs false
set_option maxRecDepth 100000

end Go.Proofs.YtcnnijeokefboaaGreatDoor

namespace Go.Proofs.YtcnnijeokefboaaGreatDoor
open Go.RowKit Cv
set_option linter.unusedVariables false
set_option linter.unusedSimpArgs false
set_option maxRecDepth 100000

theorem Ints.grown {w w' : World} {ao : Option Addr} {S : List Int} {r : Nat} (h : Ints w ao S) (hg : w.grownBy w' (some r)) (hne : ∀ b o, ao = some ⟨b, o, none⟩ → b ≠ r) : Ints w' ao S := by
  rcases h with h | ⟨b, o, rfl, hlt, hc⟩
  · exact .inl h
  · exact .inr ⟨b, o, rfl, Nat.lt_of_lt_of_le hlt hg.size, fun i hi => hg.cell (a := ⟨b, o + i, none⟩) (hc i hi) (by have := hne b o rfl; simpa using this)⟩

theorem l01Distance_nat (ao : Option Addr) (S : List Int) (cap : Nat) (hl : S.length ≤ 8) (hbd : ∀ i, i < S.length → 2 ≤ gi S i ∧ gi S i ≤ 4) (u x : Int) (hu : 0 ≤ u) (hu2 : u ≤ 9223372036854775807) (hx : 0 ≤ x) (hx2 : x ≤ 9223372036854775807) (D : Nat) (hD : Hid (dist S u x = (D : Int))) (w : World) (hS : Ints w ao S) :
    Calls Tryz.prog 91 #[.agg #[.slice ao S.length cap], .int .i64 u, .int .i64 x] w fun e w' => e = .returned (.int .i64 (D : Int)) ∧ Below w.heap.size w w' := by
  rw [← hD.out]; exact l01Distance_any ao S cap hl hbd u x hu hu2 hx hx2 w hS

theorem differences_nat (a a' : Option Addr) (S : List Int) (u x : Int) (c c' : Nat) (w : World) (hn : S.length ≤ 8) (D : Nat) (hD : Hid (dist S u x = (D : Int))) (h : Ints w a (digs S u)) (h' : Ints w a' (digs S x)) :
    Calls Tryz.prog 135 #[.slice a S.length c, .slice a' S.length c'] w fun e w' => e = .returned (.int .i64 (D : Int)) ∧ Below w.heap.size w w' := by
  rw [← hD.out, ← diff_digs]
  exact differences_any a a' (digs S u) (digs S x) S.length c S.length c' w (by omega) (digs_length _ _) (digs_length _ _) (Nat.le_refl _) h h'

end Go.Proofs.YtcnnijeokefboaaGreatDoor

namespace Go.Proofs.YtcnnijeokefboaaGreatDoor
open Go.RowKit Cv
set_option linter.unusedVariables false
set_option linter.unusedSimpArgs false
set_option maxRecDepth 100000

set_option maxHeartbeats 2000000 in
theorem l05Counts_any (ao : Option Addr) (S : List Int) (cap : Nat) (hSp : Sp S) (ac : Option Addr) (C : List Int) (capc : Nat) (hlen : C.length ≤ 1024) (hC : ∀ i, i < C.length → 0 ≤ gi C i ∧ gi C i ≤ 9223372036854775807) (w : World) (hS : Ints w ao S) (hCI : Ints w ac C) :
    Calls Tryz.prog 76 #[.agg #[.slice ao S.length cap], .slice ac C.length capc] w fun e w' => ∃ v, e = .returned v ∧ OwnInts w' w.heap.size v (wcTo S C C.length) ∧ Below w.heap.size w w' := by
  obtain ⟨i0, hi, hz0, hz1, hz2⟩ := info_parts infoI64
  have HSp := Lib.hid hSp
  have HC1 := Lib.hid hC
  have hlo := hSp.lo
  have hhi := hSp.hi
  have B0 : Below w.heap.size w (w.alloc (.cells #[.slice ao S.length cap] 26)) := by go_grown
  have c1 := cell_new w (.slice ao S.length cap) 26
  have l1 := lt_alloc w (.cells #[.slice ao S.length cap] 26)
  clear hSp hC
  go_enter Tryz.func76, Tryz.ntmps76
  go_wp2_with (at_make; refine wpList_make_full _ rfl _ _ 24 rfl (w.heap.size + 1) 2 i0 (.int .i64 0) 1 Tryz.underlying24 hi hz0 hz1 .i64 .i64 ((S.length : Int) + 1) ((S.length : Int) + 1) (S.length + 1) rfl rfl (by simp) (by simp) (by rw [hz2]; omega) (by unfold maxLen; omega) (by simp) ?_; intro w2 hown hgrow; have hb2 := below_grown0 hgrow; have c2 := kept_cell hb2 c1 l1)
  replace hown := own_made hown
  rw [← wcTo_0 S C] at hown
  have B2 : Below w.heap.size w w2 := B0.trans (hb2.mono (by simp))
  have l2 : w.heap.size < w2.heap.size := lt_of_below hb2 l1
  obtain ⟨q, hq⟩ : ∃ q, q = w.heap.size + 1 := ⟨_, rfl⟩
  simp only [World.size_alloc] at hown
  rw [← hq] at hown
  try rw [← hq]
  have hqw : w.heap.size < q := by omega
  clear c1 hgrow hb2 B0 hq
  go_loopw [14] (fun i wr => ∃ k : Nat, k ≤ C.length ∧ i = .int .i64 k ∧ OwnInts wr q (.slice (some ⟨q, 0, none⟩) (S.length + 1) (S.length + 1)) (wcTo S C k) ∧ wr.cell? ⟨w.heap.size, 0, none⟩ = some (.slice ao S.length cap) ∧ Below w.heap.size w wr) (fun i _ => C.length - (intOf i).toNat)
  case atStart => exact ⟨0, Nat.zero_le _, rfl, hown, c2, B2⟩
  case round =>
    clear hown c2 B2
    obtain ⟨k, hk, rfl, hown, c, B⟩ := hrel
    by_cases hlt : k < C.length
    · obtain ⟨b, o, rfl, hbl, hc⟩ := hCI.at hlt
      have hck : wr.cell? ⟨b, o + k, none⟩ = some (.int .i64 (gi C k)) := kept_cell B (hc k hlt) hbl
      obtain ⟨x1, x2⟩ := HC1.out k hlt
      obtain ⟨d1, d2⟩ := dist_bd S 0 (gi C k)
      obtain ⟨D, hD⟩ : ∃ D : Nat, dist S 0 (gi C k) = (D : Int) := ⟨_, (Int.toNat_of_nonneg d1).symm⟩
      rw [hD] at d1 d2
      have hDl : D < S.length + 1 := by omega
      have hD0 : (0 : Int) ≤ (D : Int) := by omega
      have hD1 : (D : Int) < (S.length : Int) + 1 := by omega
      obtain ⟨s1, s2⟩ := wcTo_bd S C k D
      have HL : Hid ((wcTo S C k).set D (gi (wcTo S C k) D + 1) = wcTo S C (k + 1)) := Lib.hid (wcTo_step S C k D hD)
      have HN : Hid ((wcTo S C k).length = S.length + 1) := Lib.hid (wcTo_len _ _ _)
      obtain ⟨L, hL⟩ : ∃ L, L = wcTo S C k := ⟨_, rfl⟩
      rw [← hL] at hown s1 s2 HL HN
      have HD := Lib.hid hD
      have EW : IntKind.i64.wrap (gi L D + 1) = gi L D + 1 := IntWalk.i64_in _ ⟨by omega, by omega⟩
      have hgl := hown.base_le.2
      have hbr : b < wr.heap.size := lt_of_below B hbl
      have hwr := B.size
      clear hc hL hD d1 d2
      go_wp2_with fail
      go_region_law (first | (go_simp; go_at_call 91; refine (l01Distance_nat ao S cap hhi HSp.out.bd 0 (gi C k) (by omega) (by omega) x1 x2 D HD _ (hS.below B.drew)).mono ?_; rintro e w3 ⟨rfl, hb3'⟩; have hb3 : Below wr.heap.size wr w3 := (Below.refl _ wr).drew.trans hb3'; have own3 := hown.below hb3; have hcell3 := own3.cell (k := D) (by rw [HN.out]; omega); have hfree3 := own3.free D))
      all_goals
        go_wp2
        go_roundw
        case rel => exact ⟨k + 1, by omega, by go_num, by rw [← HL.out]; exact own3.stored D _, cell_set_other (kept_cell hb3 c (by omega)) (by simp; omega), (B.trans (hb3.mono B.size)).setCell (by simp; omega) _⟩
        case measure => simp [intOf]; omega
    · have ek : k = C.length := by omega
      go_wp2
      go_ret
      exact ⟨_, rfl, by rw [← ek]; exact hown.rebase (by omega), B⟩

theorem spec_WeightCounts (ao : Option Addr) (S : List Int) (cap : Nat) (hn : S.length ≤ 4294967296) (ac : Option Addr) (C : List Int) (capc : Nat) (hnc : C.length ≤ 4294967296) (w : World) (hS : Ints w ao S) (hC : Ints w ac C) :
    Calls Tryz.prog 38 #[.agg #[.slice ao S.length cap], .slice ac C.length capc] w fun e w' => ∃ v, e = .returned (.tuple #[v, .int .i64 (eCode S C)]) ∧ OwnInts w' w.heap.size v (vWc S C) ∧ Below w.heap.size w w' := by
  have B0 : Below w.heap.size w (w.alloc (.cells #[.slice ao S.length cap] 26)) := by go_grown
  have c0 := cell_new w (.slice ao S.length cap) 26
  have l0 := lt_alloc w (.cells #[.slice ao S.length cap] 26)
  by_cases hz : eCode S C = 0
  · obtain ⟨hSp, hc1, hc2⟩ := eCode_zero hz
    have hlen := code_len hSp hc1 hc2
    have N := nW_bd hSp
    have HSp := Lib.hid hSp
    have HC1 : Hid (∀ i, i < C.length → 0 ≤ gi C i ∧ gi C i ≤ 9223372036854775807) := Lib.hid fun i h => by have := hc1 i h; omega
    have HV : Hid (vWc S C = wcTo S C C.length) := Lib.hid (by unfold vWc; rw [if_pos hz])
    have hzn : (eCode S C != 0) = false := by simp [hz]
    have HZ := Lib.hid hz
    clear hSp hc1 hc2 N hz
    go_enter Tryz.func38, Tryz.ntmps38
    go_wp2_with fail
    refine (l01Given_any ao S cap hn ac C capc hnc _ (hS.below B0) (hC.below B0)).mono ?_
    rintro e w1 ⟨rfl, hb⟩
    have c1 := kept_cell hb c0 l0
    have B1 : Below w.heap.size w w1 := B0.trans (hb.mono B0.size)
    have s1 := B1.size
    clear hb B0 c0 l0
    go_wp2_with fail
    refine (l05Counts_any ao S cap HSp.out ac C capc hlen HC1.out _ (hS.below B1) (hC.below B1)).mono ?_
    rintro e w2 ⟨v, rfl, own, hb⟩
    go_wp2_with fail
    go_ret2
    exact ⟨_, by rw [HZ.out]; rfl, by rw [HV.out]; exact own.rebase s1, B1.trans (hb.mono s1)⟩
  · have hzn : (eCode S C != 0) = true := by simpa using hz
    have HV : Hid (vWc S C = []) := Lib.hid (by unfold vWc; rw [if_neg hz])
    clear hz
    go_enter Tryz.func38, Tryz.ntmps38
    go_wp2_with fail
    refine (l01Given_any ao S cap hn ac C capc hnc _ (hS.below B0) (hC.below B0)).mono ?_
    rintro e w1 ⟨rfl, hb⟩
    go_wp2_with fail
    go_ret2
    exact ⟨_, rfl, by rw [HV.out]; exact own_nil _ _, B0.trans (hb.mono B0.size)⟩

end Go.Proofs.YtcnnijeokefboaaGreatDoor
