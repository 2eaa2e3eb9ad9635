/-
  The contracts of the program's radius, farthest word and distance to a code. By an AI agent.
-/
import Derived.Test.YtcnnijeokefboaaGreatDoorFar2
import Derived.Test.YtcnnijeokefboaaGreatDoorAllW
import Derived.Deep.RegionHeld3
namespace Go.Proofs.YtcnnijeokefboaaGreatDoor
open Go.RowKit Cv
set_option linter.unusedVariables false
set_option linter.unusedSimpArgs false
set_option maxRecDepth 100000

set_option maxHeartbeats 1000000 in
theorem farthest_any (ao : Option Addr) (S : List Int) (cap : Nat) (hSp : Sp S) (ac : Option Addr) (C : List Int) (capc : Nat) (h1 : 1 ≤ C.length) (hlen : C.length ≤ 1048576) (hC0 : ∀ i, i < C.length → 0 ≤ gi C i ∧ gi C i ≤ 9223372036854775807) (w : World) (hS : Ints w ao S) (hC : Ints w ac C) :
    Calls Tryz.prog 93 #[.agg #[.slice ao S.length cap], .slice ac C.length capc] w fun e w' => e = .returned (.tuple #[.int .i64 (farW S C).1, .int .i64 (farW S C).2]) ∧ Below w.heap.size w w' := by
  obtain ⟨N, hN⟩ : ∃ N : Nat, nW S = (N : Int) := ⟨(nW S).toNat, by have := (nW_bd hSp).1; omega⟩
  have N1 : 1 ≤ N := by have := (nW_bd hSp).1; omega
  have N2 : N ≤ 1024 := by have := (nW_bd hSp).2; omega
  have HFN : Hid (farP (toF S C) N = farW S C) := Lib.hid (by have := farP_W S C (nW_bd hSp).1; rwa [show (nW S).toNat = N by omega] at this)
  have HN := Lib.hid hN
  have hlo := hSp.lo
  have hhi := hSp.hi
  have HSp := Lib.hid hSp
  have HC0 := Lib.hid hC0
  have HU : Hid (∀ i, i < (upto N).length → 0 ≤ gi (upto N) i ∧ gi (upto N) i ≤ 9223372036854775807) := Lib.hid fun i h => by rw [upto_len] at h; rw [gi_upto _ _ h]; omega
  have HUl : Hid (N = (upto N).length) := Lib.hid (upto_len N).symm
  have HM : Hid (∀ k : Nat, minTo (gi (dFrom S C (k : Int))) ((dFrom S C (k : Int)).length - 1) = toW S C (k : Int)) := Lib.hid fun k => dFrom_min S C (k : Int) h1
  have HL : Hid (∀ k : Nat, C.length = (dFrom S C (k : Int)).length) := Lib.hid fun k => (dFrom_len _ _ _).symm
  clear hSp hC0 hN
  go_enter Tryz.func93, Tryz.ntmps93
  go_wp2_with fail
  have c0 := cell_new w (.slice ao S.length cap) 26
  have l0 := lt_alloc w (.cells #[.slice ao S.length cap] 26)
  have B0 : Below w.heap.size w (w.alloc (.cells #[.slice ao S.length cap] 26)) := by go_grown
  refine (digitParts_any ao S cap hlo hhi HSp.out.bd ac C capc (by omega) HC0.out _ (hS.below B0) (hC.below B0)).mono ?_
  rintro e w1 ⟨P, g, U, rfl, hp, hb1⟩
  have B1 := B0.trans (hb1.mono B0.size)
  have c1 := kept_cell hb1 c0 l0
  have l1 := lt_of_below hb1 l0
  clear hb1 c0 l0 B0
  go_wp2_with fail
  go_region_held3 (fun w' => w'.cell? ⟨w.heap.size, 0, none⟩ = some (.slice ao S.length cap)) (first | exact c1 | exact kept_cell hb2 c1 l1 | exact kept_cell hb3 (kept_cell hb2 c1 l1) (lt_of_below hb2 l1)) (first | (go_at_call 113; refine (allWords_any ao S cap HSp.out N HN _ (hS.below B1.drew)).mono ?_; rintro e w2 ⟨q, rfl, oq, hb2'⟩; have hb2 := (Below.refl _ w1).drew.trans hb2'; have B2 := B1.trans (hb2.mono B1.size)) | (go_at_call 120; refine (digitParts_n ao S cap hlo hhi HSp.out.bd _ (upto N) N _ HUl.out (by omega) HU.out _ (hS.below B2) (own_ints oq)).mono ?_; rintro e w3 ⟨P2, g2, U2, rfl, hp2, hb3⟩))
  have B3 := B2.trans (hb3.mono B2.size)
  replace hp := (hp.below hb2).below hb3
  clear hb2 hb2' hb3 oq B2 B1 c1 l1
  go_wp2_with fail
  go_loopw [6, 7, 20] (fun q t i wr => ∃ k : Nat, k ≤ N ∧ i = .int .i64 k ∧ q = .int .i64 (farP (toF S C) k).1 ∧ t = .int .i64 (farP (toF S C) k).2 ∧ Below w3.heap.size w3 wr) (fun _ _ i _ => N - (intOf i).toNat)
  case atStart => exact ⟨0, Nat.zero_le _, rfl, rfl, rfl, Below.refl _ _⟩
  case round =>
    obtain ⟨k, hk, rfl, rfl, rfl, B⟩ := hrel
    by_cases hlt : k < N
    · have hku : k < (upto N).length := by rw [upto_len]; exact hlt
      have hrk := kept_cell B (hp2.row k hku) hp2.pl
      have hik := hp2.ints hku
      rw [gi_upto _ _ hlt] at hik
      by_cases hf : (farP (toF S C) k).2 < toW S C (k : Int)
      all_goals
        first | (have HP := Lib.hid (farP_yes (toF S C) k hf); skip) | (have HP := Lib.hid (farP_no (toF S C) k hf); skip)
        go_wp2_with fail
        refine (distancesFrom_any S hhi (k : Int) _ _ _ rfl _ P g C U _ rfl hlen _ (hik.below B) (hp.below B)).mono ?_
        rintro e w4 ⟨q, rfl, oq, hb4⟩
        have B4 := B.trans (hb4.mono B.size)
        clear hrk hb4 B
        go_wp2_with fail
        refine (Min_any _ (dFrom S C (k : Int)) C.length _ (HL.out k) (by rw [dFrom_len]; omega) (by rw [dFrom_len]; omega) (toW S C (k : Int)) (Lib.hid (HM.out k)) _ (own_ints oq)).mono ?_
        rintro e w5 ⟨rfl, rfl⟩
        go_wp2
        go_roundw
        case rel => exact ⟨k + 1, by omega, by go_num, by rw [HP.out]; try rfl, by rw [HP.out]; try rfl, B4⟩
        case measure => simp [intOf]; omega
    · have ek : k = N := by omega
      go_wp2
      go_ret2
      exact ⟨by first | (rw [ek, HFN.out]; done) | (rw [ek, HFN.out]; rfl) | (rw [HFN.out]; rfl), B3.trans (B.mono B3.size)⟩

set_option maxHeartbeats 1000000 in
theorem impl_RadiusOf (ao : Option Addr) (S : List Int) (cap : Nat) (hn : S.length ≤ 4294967296) (ac : Option Addr) (C : List Int) (capc : Nat) (hnc : C.length ≤ 4294967296) (w : World) (hS : Ints w ao S) (hC : Ints w ac C) :
    Calls Tryz.prog 39 #[.agg #[.slice ao S.length cap], .slice ac C.length capc] w fun e w' => e = .returned (.tuple #[.int .i64 (vRadius S C), .int .i64 (eFull S C)]) ∧ Below w.heap.size w w' := by
  have B0 : Below w.heap.size w (w.alloc (.cells #[.slice ao S.length cap] 26)) := by go_grown
  have HQ := Lib.hid (eSome_nil S C)
  by_cases he : eFull S C = 0
  · obtain ⟨hz, hl⟩ := eFull_zero he
    have HV : Hid (vRadius S C = (farW S C).2) := Lib.hid (by unfold vRadius; rw [if_pos he])
    have HE := Lib.hid he
    have hzn : (eSome S C [] != 0) = false := by simp [HQ.out, he]
    obtain ⟨hSp, hc1, hc2⟩ := eCode_zero hz
    obtain ⟨N1, N2⟩ := nW_bd hSp
    have hlen := code_len hSp hc1 hc2
    have HSp := Lib.hid hSp
    have HC1 : Hid (∀ i, i < C.length → 0 ≤ gi C i ∧ gi C i ≤ 9223372036854775807) := Lib.hid fun i h => by have := hc1 i h; omega
    clear hc1 hc2 hSp
    clear hz he
    go_enter Tryz.func39, Tryz.ntmps39
    go_wp2_with fail
    refine (someWordsError_n ao S cap hn ac C capc hnc none [] 0 0 rfl (by omega) _ (hS.below B0) (hC.below B0) (.inl rfl)).mono ?_
    rintro e w1 ⟨rfl, hb⟩
    have c1 := kept_cell hb (cell_new w (.slice ao S.length cap) 26) (lt_alloc _ _)
    have B1 : Below w.heap.size w w1 := B0.trans (hb.mono B0.size)
    clear hb B0
    go_wp2_with fail
    refine (farthest_any ao S cap HSp.out ac C capc hl (by omega) HC1.out _ (hS.below B1) (hC.below B1)).mono ?_
    rintro e w2 ⟨rfl, hb2⟩
    go_wp2_with fail
    go_ret2
    exact ⟨by rw [HV.out, HE.out]; try rfl, B1.trans (hb2.mono B1.size)⟩
  · have HV : Hid (vRadius S C = 0) := Lib.hid (by unfold vRadius; rw [if_neg he])
    have hzn : (eSome S C [] != 0) = true := by rw [HQ.out]; simpa using he
    clear he
    go_enter Tryz.func39, Tryz.ntmps39
    go_wp2_with fail
    refine (someWordsError_n ao S cap hn ac C capc hnc none [] 0 0 rfl (by omega) _ (hS.below B0) (hC.below B0) (.inl rfl)).mono ?_
    rintro e w1 ⟨rfl, hb⟩
    go_wp2_with fail
    go_ret2
    exact ⟨by rw [HV.out, ← HQ.out]; try rfl, B0.trans (hb.mono B0.size)⟩

end Go.Proofs.YtcnnijeokefboaaGreatDoor
