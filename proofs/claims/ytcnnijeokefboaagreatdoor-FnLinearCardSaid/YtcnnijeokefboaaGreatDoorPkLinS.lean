/-
  The contract of the model of IsLinear. By an AI agent.
-/
import Derived.Test.YtcnnijeokefboaaGreatDoorMathB
import Derived.Test.YtcnnijeokefboaaGreatDoorPk20
import Derived.Test.YtcnnijeokefboaaGreatDoorPk21
import Derived.Test.YtcnnijeokefboaaGreatDoorPk23
import Derived.Deep.RegionHeld3
namespace Go.Proofs.YtcnnijeokefboaaGreatDoor
open Go.RowKit Cv
set_option linter.unusedVariables false
set_option linter.unusedSimpArgs false
set_option maxRecDepth 100000

set_option maxHeartbeats 2000000 in
theorem l05Linear_any (ao : Option Addr) (S : List Int) (cap : Nat) (hn : S.length ≤ 4294967296) (ac : Option Addr) (C : List Int) (capc : Nat) (hE : eCode S C = 0) (w : World) (hS : Ints w ao S) (hC : Ints w ac C) :
    Calls Tryz.prog 72 #[.agg #[.slice ao S.length cap], .slice ac C.length capc] w fun e w' => e = .returned (.bool (linM S C)) ∧ Below w.heap.size w w' := by
  have B0 : Below w.heap.size w (w.alloc (.cells #[.slice ao S.length cap] 26)) := by go_grown
  have c0 := cell_new w (.slice ao S.length cap) 26
  have l0 := lt_alloc w (.cells #[.slice ao S.length cap] 26)
  have hSp := (eCode_zero hE).1
  have hlen := code_len0 hE
  obtain ⟨N1, N2⟩ := nW_bd hSp
  have HCb : Hid (∀ i, i < C.length → 0 ≤ gi C i ∧ gi C i < nW S) := Lib.hid (eCode_zero hE).2.1
  have HC9 : Hid (∀ i, i < C.length → 0 ≤ gi C i ∧ gi C i ≤ 9223372036854775807) := Lib.hid fun i hi => by have := HCb.out i hi; omega
  have HSp := Lib.hid hSp
  clear hSp hE
  cases hp : isPl S with
  | true =>
    by_cases hC0 : C.length = 0
    · obtain rfl := List.eq_nil_of_length_eq_zero hC0
      have HL : Hid (linM S [] = false) := Lib.hid (by unfold linM; rw [hp]; simp)
      clear hC0
      go_enter Tryz.func72, Tryz.ntmps72
      go_wp2_with fail
      refine (l05Plain_any ao S cap hn _ (hS.below B0)).mono ?_
      rw [hp]
      rintro e w1 ⟨rfl, hb⟩
      go_wp2_with fail
      go_ret
      exact ⟨ret_bool HL.out.symm, B0.trans (hb.mono B0.size)⟩
    · have hl0 : ((C.length : Int) == 0) = false := by simpa using hC0
      have hl1 : (0 : Int) < (C.length : Int) := by omega
      obtain ⟨b, o, rfl, hbl, hc⟩ := hC.at (show 0 < C.length by omega)
      have hc0 := hc 0 (by omega)
      rw [Nat.add_zero] at hc0
      have HC := Lib.hid hc
      by_cases hz : gi C 0 = 0
      · rw [hz] at hc0
        have HLT : Hid ((∀ i, i < C.length → ∀ k, k < i + 1 → sumW S (gi C i) (gi C k) ∈ C) → linM S C = true) := Lib.hid fun h => by
          unfold linM; rw [hp, Bool.true_and, decide_eq_true_eq]; exact ⟨by omega, hz, h⟩
        have HLF : Hid (∀ i k, i < C.length → k < i + 1 → ¬ sumW S (gi C i) (gi C k) ∈ C → linM S C = false) := Lib.hid fun i k hi hk hn => by
          unfold linM; rw [hp, Bool.true_and, decide_eq_false_iff_not]; exact fun ⟨_, _, h⟩ => hn (h i hi k hk)
        have HSB : Hid (∀ i k, i < C.length → k < C.length → 0 ≤ sumW S (gi C i) (gi C k) ∧ sumW S (gi C i) (gi C k) < nW S) := Lib.hid fun i k hi hk => wd_sum HSp.out _ _
        obtain ⟨N, hN⟩ : ∃ N : Nat, nW S = (N : Int) := ⟨(nW S).toNat, by omega⟩
        have HN := Lib.hid hN
        have hN2 : N ≤ 1024 := by omega
        have hset := fun (W : World) (h1 : Ints W ao S) (h2 : Ints W (some ⟨b, o, none⟩) C) => l05Set_any ao S cap HSp.out (some ⟨b, o, none⟩) C capc (by omega) HCb.out W h1 h2
        rw [show (nW S).toNat = N by omega] at hset
        have HSET := Lib.hid hset
        clear hC0 hc hz hN N1 N2 hset
        go_enter Tryz.func72, Tryz.ntmps72
        go_wp2_with fail
        refine (l05Plain_any ao S cap hn _ (hS.below B0)).mono ?_
        rw [hp]
        rintro e w1 ⟨rfl, hb⟩
        have B1 := B0.trans (hb.mono B0.size)
        have c1 := kept_cell hb c0 l0
        have l1 := lt_of_below hb l0
        have hk0 := kept_cell B1 hc0 hbl
        have s1 := B1.size
        clear hb B0 c0 l0
        go_wp2_with fail
        refine (HSET.out _ (hS.below B1) (hC.below B1)).mono ?_
        rintro e w3 ⟨g, rfl, ownB, hb⟩
        have B3 := B1.trans (hb.mono s1)
        have c3 := kept_cell hb c1 l1
        have l3 := lt_of_below hb l1
        have hgB := ownB.base_le
        have HBc : Hid (∀ i, i < N → w3.cell? ⟨g, i, none⟩ = some (.bool (inL C i))) := Lib.hid fun i hi => by
          have h := ownB.cell (k := i) (by simpa using hi)
          have e : gb ((List.range N).map (inL C)) i = inL C i := by simp [gb, hi]
          rw [e] at h; exact h
        have s3 := B3.size
        clear hb c1 l1 B1 hk0 ownB s1 HSET
        go_wp2_with fail
        go_loopw [27] (fun i wi => ∃ m : Nat, m ≤ C.length ∧ i = .int .i64 m ∧ Hid (∀ i', i' < m → ∀ k, k < i' + 1 → sumW S (gi C i') (gi C k) ∈ C) ∧ Below w3.heap.size w3 wi) (fun i _ => C.length - (intOf i).toNat)
        case atStart => exact ⟨0, Nat.zero_le _, rfl, Lib.hid fun i h => by omega, Below.refl _ _⟩
        case round =>
          obtain ⟨m, hm, rfl, HA, BW⟩ := hrel
          by_cases hlm : m < C.length
          · have e4 : (m : Int) < (C.length : Int) := by omega
            go_wp2_with fail
            go_loopw [7] (fun j wi => ∃ k : Nat, k ≤ m + 1 ∧ j = .int .i64 k ∧ Hid (∀ k', k' < k → sumW S (gi C m) (gi C k') ∈ C) ∧ Below w3.heap.size w3 wi) (fun j _ => m + 1 - (intOf j).toNat)
            case atStart => exact ⟨0, Nat.zero_le _, rfl, Lib.hid fun i h => by omega, BW⟩
            case round =>
              clear BW
              obtain ⟨k, hk, rfl, HK, BW⟩ := hrel
              have B := B3.trans (BW.mono s3)
              by_cases hlk : k ≤ m
              · have hkC : k < C.length := by omega
                have e5 : (k : Int) ≤ (m : Int) := by omega
                have i1 : (0 : Int) ≤ (k : Int) := by omega
                have i2 : (k : Int) < (C.length : Int) := by omega
                have i3 : (0 : Int) ≤ (m : Int) := by omega
                have hcm := kept_cell B (HC.out m hlm) hbl
                have hck := kept_cell B (HC.out k hkC) hbl
                have cs := kept_cell BW c3 l3
                have ls := lt_of_below BW l3
                obtain ⟨y1, y2⟩ := HC9.out m hlm
                obtain ⟨z1, z2⟩ := HC9.out k hkC
                obtain ⟨q1, q2⟩ := HSB.out m k hlm hkC
                rw [HN.out] at q2
                obtain ⟨u, hu⟩ : ∃ u : Nat, sumW S (gi C m) (gi C k) = (u : Int) := ⟨(sumW S (gi C m) (gi C k)).toNat, by omega⟩
                have HU := Lib.hid hu
                rw [hu] at q1 q2
                have huN : u < N := by omega
                have hcb := kept_cell BW (HBc.out u huN) hgB.2
                have lg := lt_of_below BW hgB.2
                have lb := lt_of_below B hbl
                clear hu
                cases hq : inL C u with
                | true =>
                  rw [hq] at hcb
                  have HIN : Hid (sumW S (gi C m) (gi C k) ∈ C) := Lib.hid (by rw [HU.out]; unfold inL at hq; simpa using hq)
                  clear hq
                  go_wp2_with fail
                  go_region_held3 (fun w' => w'.cell? ⟨w.heap.size, 0, none⟩ = some (.slice ao S.length cap) ∧ w'.cell? ⟨b, o + m, none⟩ = some (.int .i64 (gi C m)) ∧ w'.cell? ⟨b, o + k, none⟩ = some (.int .i64 (gi C k)) ∧ w'.cell? ⟨g, u, none⟩ = some (.bool true)) (first | exact ⟨cs, hcm, hck, hcb⟩ | exact ⟨k1, k2, k3, k4⟩) (first | (go_at_call 87; refine (l01Sum_any ao S cap HSp.out (gi C m) (gi C k) y1 y2 z1 z2 _ (hS.below B.drew)).mono ?_; rw [HU.out]; rintro e w4 ⟨rfl, hb4'⟩; have hb4 : Below wr.heap.size wr w4 := (Below.refl _ wr).drew.trans hb4'; have k1 := kept_cell hb4 cs ls; have k2 := kept_cell hb4 hcm lb; have k3 := kept_cell hb4 hck lb; have k4 := kept_cell hb4 hcb lg))
                  have BW4 := BW.trans (hb4.mono BW.size)
                  clear hcm hck cs hcb k1 k2 k3 k4 hb4 BW B
                  go_wp2_with fail
                  go_roundw
                  case rel =>
                    refine ⟨k + 1, by omega, by go_num, Lib.hid fun k' hk' => ?_, BW4⟩
                    by_cases e : k' = k
                    · subst e; exact HIN.out
                    · exact HK.out k' (by omega)
                  case measure => simp [intOf]; omega
                | false =>
                  rw [hq] at hcb
                  have HIN : Hid (linM S C = false) := Lib.hid (HLF.out m k hlm (by omega) (by rw [HU.out]; unfold inL at hq; simpa using hq))
                  clear hq
                  go_wp2_with fail
                  go_region_held3 (fun w' => w'.cell? ⟨w.heap.size, 0, none⟩ = some (.slice ao S.length cap) ∧ w'.cell? ⟨b, o + m, none⟩ = some (.int .i64 (gi C m)) ∧ w'.cell? ⟨b, o + k, none⟩ = some (.int .i64 (gi C k)) ∧ w'.cell? ⟨g, u, none⟩ = some (.bool false)) (first | exact ⟨cs, hcm, hck, hcb⟩ | exact ⟨k1, k2, k3, k4⟩) (first | (go_at_call 87; refine (l01Sum_any ao S cap HSp.out (gi C m) (gi C k) y1 y2 z1 z2 _ (hS.below B.drew)).mono ?_; rw [HU.out]; rintro e w4 ⟨rfl, hb4'⟩; have hb4 : Below wr.heap.size wr w4 := (Below.refl _ wr).drew.trans hb4'; have k1 := kept_cell hb4 cs ls; have k2 := kept_cell hb4 hcm lb; have k3 := kept_cell hb4 hck lb; have k4 := kept_cell hb4 hcb lg))
                  have B4 := B.trans (hb4.mono B.size)
                  clear hcm hck cs hcb k1 k2 k3 k4 hb4 BW B
                  go_wp2_with fail
                  go_ret
                  exact ⟨ret_bool HIN.out.symm, B4⟩
              · have ek : k = m + 1 := by omega
                have e5 : ¬ (k : Int) ≤ (m : Int) := by omega
                have HAM : Hid (∀ k', k' < m + 1 → sumW S (gi C m) (gi C k') ∈ C) := Lib.hid (by rw [← ek]; exact HK.out)
                clear ek
                go_wp2_with fail
                go_roundw
                case rel =>
                  refine ⟨m + 1, by omega, by go_num, Lib.hid fun i' hi' => ?_, BW⟩
                  by_cases e : i' = m
                  · subst e; exact HAM.out
                  · exact HA.out i' (by omega)
                case measure => simp [intOf]; omega
          · have HT := Lib.hid (HLT.out fun i hi => HA.out i (by omega))
            have e4 : ¬ (m : Int) < (C.length : Int) := by omega
            go_wp2_with fail
            go_ret
            exact ⟨ret_bool HT.out.symm, B3.trans (BW.mono s3)⟩
      · have HL : Hid (linM S C = false) := Lib.hid (by unfold linM; rw [hp, Bool.true_and, decide_eq_false_iff_not]; exact fun h => hz h.2.1)
        have hzn : (gi C 0 != 0) = true := by simpa using hz
        clear hz hC0 hc
        go_enter Tryz.func72, Tryz.ntmps72
        go_wp2_with fail
        refine (l05Plain_any ao S cap hn _ (hS.below B0)).mono ?_
        rw [hp]
        rintro e w1 ⟨rfl, hb⟩
        have B1 := B0.trans (hb.mono B0.size)
        have hk0 := kept_cell B1 hc0 hbl
        go_wp2_with fail
        go_ret
        exact ⟨ret_bool HL.out.symm, B1⟩
  | false =>
    have HL : Hid (linM S C = false) := Lib.hid (by unfold linM; rw [hp, Bool.false_and])
    go_enter Tryz.func72, Tryz.ntmps72
    go_wp2_with fail
    refine (l05Plain_any ao S cap hn _ (hS.below B0)).mono ?_
    rw [hp]
    rintro e w1 ⟨rfl, hb⟩
    go_wp2_with fail
    go_ret
    exact ⟨ret_bool HL.out.symm, B0.trans (hb.mono B0.size)⟩

theorem spec_IsLinear (ao : Option Addr) (S : List Int) (cap : Nat) (hn : S.length ≤ 4294967296) (ac : Option Addr) (C : List Int) (capc : Nat) (hnc : C.length ≤ 4294967296) (w : World) (hS : Ints w ao S) (hC : Ints w ac C) :
    Calls Tryz.prog 24 #[.agg #[.slice ao S.length cap], .slice ac C.length capc] w fun e w' => e = .returned (.tuple #[.bool (vLin S C), .int .i64 (eCode S C)]) ∧ Below w.heap.size w w' := by
  have B0 : Below w.heap.size w (w.alloc (.cells #[.slice ao S.length cap] 26)) := by go_grown
  have c0 := cell_new w (.slice ao S.length cap) 26
  have l0 := lt_alloc w (.cells #[.slice ao S.length cap] 26)
  by_cases hz : eCode S C = 0
  · have HV : Hid (vLin S C = linM S C) := Lib.hid (by unfold vLin; rw [if_pos hz, lin_same hz])
    have hzn : (eCode S C != 0) = false := by simp [hz]
    have HZ := Lib.hid hz
    clear hz
    go_enter Tryz.func24, Tryz.ntmps24
    go_wp2_with fail
    refine (l01Given_any ao S cap hn ac C capc hnc _ (hS.below B0) (hC.below B0)).mono ?_
    rintro e w1 ⟨rfl, hb⟩
    have c1 := kept_cell hb c0 l0
    have B1 : Below w.heap.size w w1 := B0.trans (hb.mono B0.size)
    have s1 := B1.size
    clear hb B0 c0 l0
    go_wp2_with fail
    refine (l05Linear_any ao S cap hn ac C capc HZ.out _ (hS.below B1) (hC.below B1)).mono ?_
    rintro e w2 ⟨rfl, hb⟩
    go_wp2_with fail
    go_ret2
    exact ⟨by rw [HZ.out, HV.out]; rfl, B1.trans (hb.mono s1)⟩
  · have hzn : (eCode S C != 0) = true := by simpa using hz
    have HV : Hid (vLin S C = false) := Lib.hid (by unfold vLin; rw [if_neg hz])
    clear hz
    go_enter Tryz.func24, Tryz.ntmps24
    go_wp2_with fail
    refine (l01Given_any ao S cap hn ac C capc hnc _ (hS.below B0) (hC.below B0)).mono ?_
    rintro e w1 ⟨rfl, hb⟩
    go_wp2_with fail
    go_ret2
    exact ⟨by rw [HV.out]; rfl, B0.trans (hb.mono B0.size)⟩

end Go.Proofs.YtcnnijeokefboaaGreatDoor
