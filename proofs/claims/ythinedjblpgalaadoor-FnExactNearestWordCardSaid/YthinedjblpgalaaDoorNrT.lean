/-
  The contract of the model of NearestWord: the function itself. By an AI agent.
-/
import Derived.Test.YthinedjblpgalaaDoorNrS
namespace Go.Proofs.YthinedjblpgalaaDoor
open Go.RowKit Cv
set_option linter.unusedVariables false
set_option linter.unusedSimpArgs false
set_option maxRecDepth 100000

set_option maxHeartbeats 2000000 in
theorem spec_NearestWord (ao : Option Addr) (S : List Int) (cap : Nat) (hn : S.length ≤ 4294967296) (ac : Option Addr) (C : List Int) (capc : Nat) (hnc : C.length ≤ 4294967296) (x : Int) (hx : -9223372036854775808 ≤ x ∧ x ≤ 9223372036854775807) (w : World) (hS : Ints w ao S) (hC : Ints w ac C) :
    Calls Tryd.prog 7 #[.agg #[.slice ao S.length cap], .slice ac C.length capc, .int .i64 x] w fun e w' => e = .returned (.tuple #[.int .i64 (vNrW S C x), .int .i64 (eNrW S C x)]) ∧ Below w.heap.size w w' := by
  have B0 : Below w.heap.size w (w.alloc (.cells #[.slice ao S.length cap] 28)) := by go_grown
  have c0 := cell_new w (.slice ao S.length cap) 28
  have l0 := lt_alloc w (.cells #[.slice ao S.length cap] 28)
  have B1 : Below w.heap.size w ((w.alloc (.cells #[.slice ao S.length cap] 28)).alloc (.cells #[.int .i64 x] 2)) := by go_grown
  by_cases hw : eWords S [x] = 0
  · have hwb : (eWords S [x] == 0) = true := by simp [hw]
    have HM : Hid (eNrW S C x = eLin S C) := Lib.hid (by rw [eNrW_model, if_pos hw])
    have HW := Lib.hid hw
    have hxw := (eWords1 hw).2
    by_cases hz : eLin S C = 0
    · have hzn : (eLin S C != 0) = false := by simp [hz]
      have HZ := Lib.hid hz
      have HE : Hid (eNrW S C x = 0) := Lib.hid (by rw [HM.out, hz])
      have HV : Hid (vNrW S C x = nrW S C x) := Lib.hid (by unfold vNrW; rw [if_pos HE.out])
      obtain ⟨hc0, _, hlb⟩ := eNrW_zero HE.out
      obtain ⟨hP, hg⟩ := lin_gp hc0 hlb
      have hpos := List.length_pos_of_mem hg.zero
      have hlen := code_len0 hc0
      have N := nW_bd hP.sp
      have HSp := Lib.hid hP.sp
      have HC9 : Hid (∀ i, i < C.length → 0 ≤ gi C i ∧ gi C i ≤ 9223372036854775807) := Lib.hid fun i hi => by have := hg.wd _ (gi_mem hi); unfold Wd at this; omega
      have hx9 : 0 ≤ x ∧ x ≤ 9223372036854775807 := by omega
      have hlw := ldr_wd hP hg x
      have HQ : Hid (∀ i, i < C.length → (sumW S (gi C i) (ldr S C x) = x ↔ gi C i = nrW S C x)) := Lib.hid fun i hi => minus_iff hP.sp (hg.wd _ (gi_mem hi)) hlw hxw
      have HX : Hid (∃ j, j < C.length ∧ gi C j = nrW S C x) := Lib.hid (mem_gi (nr_mem hP hg hxw))
      obtain ⟨b, o, rfl, hbl, hc⟩ := hC.at (show 0 < C.length by omega)
      have HC := Lib.hid hc
      have HL := Lib.hid (fun (W : World) (h1 : Ints W ao S) (h2 : Ints W (some ⟨b, o, none⟩) C) => l05Leader_any ao S cap hP.sp ⟨b, o, none⟩ C capc hpos hlen HC9.out x hx9 W h1 h2)
      unfold Wd at hlw
      obtain ⟨y, hy⟩ : ∃ y, y = ldr S C x := ⟨_, rfl⟩
      rw [← hy] at hlw HQ HL
      obtain ⟨r, hr⟩ : ∃ r, r = nrW S C x := ⟨_, rfl⟩
      rw [← hr] at HQ HX HV
      clear hw hz hxw hc0 hlb hP hg hc hy hr
      go_enter Tryd.func7, Tryd.ntmps7
      go_wp2_with fail
      refine (l01Words_n ao S cap hn _ [x] 1 _ rfl (by omega) _ (hS.below B1) (ints_new1 _ x _ (by simp))).mono ?_
      rw [HW.out]
      rintro e w1 ⟨rfl, hb⟩
      have hq := Below.trans ((Below.refl _ (w.alloc (.cells #[.slice ao S.length cap] 28))).alloc (Nat.le_refl _) (.cells #[.int .i64 x] 2)) (hb.mono (by simp))
      have c1 := kept_cell hq c0 l0
      have l1 := lt_of_below hq l0
      have B2 := B1.trans (hb.mono B1.size)
      clear hb hq B0 B1 c0 l0
      go_wp2_with fail
      refine (l05Given_any ao S cap hn (some ⟨b, o, none⟩) C capc hnc _ (hS.below B2) (hC.below B2)).mono ?_
      rw [HZ.out]
      rintro e w2 ⟨rfl, hb⟩
      have c2 := kept_cell hb c1 l1
      have l2 := lt_of_below hb l1
      have B3 := B2.trans (hb.mono B2.size)
      clear hb B2 c1 l1
      go_wp2_with fail
      refine (HL.out _ (hS.below B3) (hC.below B3)).mono ?_
      rintro e w3 ⟨rfl, hb⟩
      have c3 := kept_cell hb c2 l2
      have l3 := lt_of_below hb l2
      have B4 := B3.trans (hb.mono B3.size)
      have s4 := B4.size
      clear hb B3 c2 l2 HL
      go_wp2_with fail
      go_loopw [29] (fun i wr => ∃ k : Nat, k ≤ C.length ∧ i = .int .i64 k ∧ Hid (∀ j, j < k → gi C j ≠ r) ∧ Below w3.heap.size w3 wr) (fun i _ => C.length - (intOf i).toNat)
      case atStart => exact ⟨0, Nat.zero_le _, rfl, Lib.hid fun j hj => by omega, Below.refl _ _⟩
      case round =>
        obtain ⟨k, hk, rfl, HA, BW⟩ := hrel
        have B := B4.trans (BW.mono s4)
        by_cases hlt : k < C.length
        · have hck := kept_cell B (HC.out k hlt) hbl
          have cS := kept_cell BW c3 l3
          have ls := lt_of_below BW l3
          have lb := lt_of_below B hbl
          obtain ⟨u1, u2⟩ := HC9.out k hlt
          have hiff := HQ.out k hlt
          have i1 : (0 : Int) ≤ (k : Int) := by omega
          have i2 : (k : Int) < (C.length : Int) := by omega
          by_cases hq : gi C k = r
          · have hd : (sumW S (gi C k) y == x) = true := by simpa using hiff.2 hq
            have HR := Lib.hid hq
            clear hq hiff
            go_wp2_with fail
            go_region_held3 (fun w' => w'.cell? ⟨w.heap.size, 0, none⟩ = some (.slice ao S.length cap) ∧ w'.cell? ⟨b, o + k, none⟩ = some (.int .i64 (gi C k))) (first | exact ⟨cS, hck⟩ | exact ⟨k1, k2⟩) (first | (go_at_call 24; refine (l01Sum_any ao S cap HSp.out (gi C k) y u1 u2 hlw.1 (by omega) _ (hS.below B.drew)).mono ?_; rintro e w4 ⟨rfl, hb4'⟩; have hb4 : Below wr.heap.size wr w4 := (Below.refl _ wr).drew.trans hb4'; have k1 := kept_cell hb4 cS ls; have k2 := kept_cell hb4 hck lb))
            have B5 := B.trans (hb4.mono B.size)
            clear cS hck k1 hb4 B BW
            go_wp2_with fail
            go_ret2
            exact ⟨by rw [HE.out, HV.out, HR.out]; rfl, B5⟩
          · have hd : (sumW S (gi C k) y == x) = false := by simpa using fun h => hq (hiff.1 h)
            have HR := Lib.hid hq
            clear hq hiff
            go_wp2_with fail
            go_region_held3 (fun w' => w'.cell? ⟨w.heap.size, 0, none⟩ = some (.slice ao S.length cap) ∧ w'.cell? ⟨b, o + k, none⟩ = some (.int .i64 (gi C k))) (first | exact ⟨cS, hck⟩ | exact ⟨k1, k2⟩) (first | (go_at_call 24; refine (l01Sum_any ao S cap HSp.out (gi C k) y u1 u2 hlw.1 (by omega) _ (hS.below B.drew)).mono ?_; rintro e w4 ⟨rfl, hb4'⟩; have hb4 : Below wr.heap.size wr w4 := (Below.refl _ wr).drew.trans hb4'; have k1 := kept_cell hb4 cS ls; have k2 := kept_cell hb4 hck lb))
            have BW5 := BW.trans (hb4.mono BW.size)
            clear cS hck k1 k2 hb4 B BW
            go_wp2_with fail
            go_roundw
            case rel =>
              refine ⟨k + 1, by omega, by go_num, Lib.hid fun j hj => ?_, BW5⟩
              by_cases e : j = k
              · subst e; exact HR.out
              · exact HA.out j (by omega)
            case measure => simp [intOf]; omega
        · exfalso
          obtain ⟨j, hj, e⟩ := HX.out
          exact HA.out j (by omega) e
    · have hzn : (eLin S C != 0) = true := by simpa using hz
      have HE : Hid (eNrW S C x = eLin S C) := HM
      have HV : Hid (vNrW S C x = 0) := Lib.hid (by unfold vNrW; rw [if_neg (by rw [HE.out]; exact hz)])
      clear hz hw hxw
      go_enter Tryd.func7, Tryd.ntmps7
      go_wp2_with fail
      refine (l01Words_n ao S cap hn _ [x] 1 _ rfl (by omega) _ (hS.below B1) (ints_new1 _ x _ (by simp))).mono ?_
      rw [HW.out]
      rintro e w1 ⟨rfl, hb⟩
      have hq := Below.trans ((Below.refl _ (w.alloc (.cells #[.slice ao S.length cap] 28))).alloc (Nat.le_refl _) (.cells #[.int .i64 x] 2)) (hb.mono (by simp))
      have c1 := kept_cell hq c0 l0
      have B2 := B1.trans (hb.mono B1.size)
      clear hb hq B0 B1 c0 l0
      go_wp2_with fail
      refine (l05Given_any ao S cap hn ac C capc hnc _ (hS.below B2) (hC.below B2)).mono ?_
      rintro e w2 ⟨rfl, hb⟩
      go_wp2_with fail
      go_ret2
      exact ⟨by rw [HE.out, HV.out]; rfl, B2.trans (hb.mono B2.size)⟩
  · have hwb : (eWords S [x] == 0) = false := by simpa using hw
    have hwn : (eWords S [x] != 0) = true := by simpa using hw
    have HE : Hid (eNrW S C x = eWords S [x]) := Lib.hid (by rw [eNrW_model, if_neg hw])
    have HV : Hid (vNrW S C x = 0) := Lib.hid (by unfold vNrW; rw [if_neg (by rw [HE.out]; exact hw)])
    clear hw
    go_enter Tryd.func7, Tryd.ntmps7
    go_wp2_with fail
    refine (l01Words_n ao S cap hn _ [x] 1 _ rfl (by omega) _ (hS.below B1) (ints_new1 _ x _ (by simp))).mono ?_
    rintro e w1 ⟨rfl, hb⟩
    go_wp2_with fail
    go_ret2
    exact ⟨by rw [HE.out, HV.out]; rfl, B1.trans (hb.mono B1.size)⟩

end Go.Proofs.YthinedjblpgalaaDoor
