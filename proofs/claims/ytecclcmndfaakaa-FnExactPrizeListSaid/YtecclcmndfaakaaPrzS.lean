/-
  The contract of the model of PrizeList. By an AI agent.
-/
import Derived.Test.YtecclcmndfaakaaMathU
import Derived.Test.YtecclcmndfaakaaCode2
import Derived.Test.YtecclcmndfaakaaDist
import Derived.Deep.RegionHeld3
import Derived.Deep.RegionLaw
import Derived.Deep.RegionWith
namespace Go.Proofs.Ytecclcmndfaakaa
open Go.RowKit Cv
set_option linter.unusedVariables false
set_option linter.unusedSimpArgs false
set_option maxRecDepth 100000

theorem own_nilz (w : World) (base : Nat) : OwnInts w base (.slice none 0 0) [] := World.ownsRow_nil _ _ _ _
theorem pz_setz (S C : List Int) (x : Int) (k D : Nat) (hD : dist S (gi C k) x = (D : Int)) : (pzTo S C x k).set D (gi (pzTo S C x k) D + 1) = pzTo S C x (k + 1) := by
  rw [pzTo, bump, hD]; simp
theorem l01Distance_natz (ao : Option Addr) (S : List Int) (cap : Nat) (hl : S.length ≤ 8) (hbd : ∀ i, i < S.length → 2 ≤ gi S i ∧ gi S i ≤ 4) (u x : Int) (hu : 0 ≤ u) (hu2 : u ≤ 9223372036854775807) (hx : 0 ≤ x) (hx2 : x ≤ 9223372036854775807) (D : Nat) (hD : Hid (dist S u x = (D : Int))) (w : World) (hS : Ints w ao S) :
    Calls Try.prog 77 #[.agg #[.slice ao S.length cap], .int .i64 u, .int .i64 x] w fun e w' => e = .returned (.int .i64 (D : Int)) ∧ Below w.heap.size w w' := by
  rw [← hD.out]; exact l01Distance_any ao S cap hl hbd u x hu hu2 hx hx2 w hS

set_option maxHeartbeats 4000000 in
theorem spec_PrizeList (ao : Option Addr) (S : List Int) (cap : Nat) (hn : S.length ≤ 4294967296) (ac : Option Addr) (C : List Int) (capc : Nat) (hnc : C.length ≤ 4294967296) (x : Int) (hx : -9223372036854775808 ≤ x ∧ x ≤ 9223372036854775807) (w : World) (hS : Ints w ao S) (hC : Ints w ac C) :
    Calls Try.prog 49 #[.agg #[.slice ao S.length cap], .slice ac C.length capc, .int .i64 x] w fun e w' => ∃ v, e = .returned (.tuple #[v, .int .i64 (eCW S C [x])]) ∧ OwnInts w' w.heap.size v (vPz S C x) ∧ Below w.heap.size w w' := by
  obtain ⟨i0, hi, hz0, hz1, hz2⟩ := info_parts infoI64
  obtain ⟨W, hW⟩ : ∃ W, W = w.alloc (.cells #[.slice ao S.length cap] 28) := ⟨_, rfl⟩
  have hWs : W.heap.size = w.heap.size + 1 := by rw [hW]; simp
  have B0 : Below w.heap.size w W := by rw [hW]; go_grown
  have c0 : W.cell? ⟨w.heap.size, 0, none⟩ = some (.slice ao S.length cap) := by rw [hW]; exact cell_new _ _ _
  have l0 : w.heap.size < W.heap.size := by omega
  have HW := Lib.hid hW
  clear hW
  have hb0 : Below W.heap.size W (W.alloc (.cells #[.int .i64 x] 2)) := (Below.refl _ W).alloc (Nat.le_refl _) _
  have B0' : Below w.heap.size w (W.alloc (.cells #[.int .i64 x] 2)) := B0.trans (hb0.mono B0.size)
  have c0' := kept_cell hb0 c0 l0
  have l0' := lt_of_below hb0 l0
  have hIn := ints_new1 W x 2 hWs.symm
  clear hb0 c0 l0 B0
  by_cases hz : eWords S [x] = 0
  case neg =>
    have HE : Hid (eCW S C [x] = eWords S [x]) := Lib.hid (by rw [eCW_comm]; unfold orI; rw [if_neg hz])
    have HV : Hid (vPz S C x = []) := Lib.hid (by unfold vPz; rw [HE.out, if_neg hz])
    have hzn : (eWords S [x] != 0) = true := by simpa using hz
    have hzb : (eWords S [x] == 0) = false := by simpa using hz
    clear hz hi hz0 hz1 hz2
    go_enter Try.func49, Try.ntmps49
    go_wp2_with fail
    rw [← HW.out]
    refine (l01Words_n ao S cap hn _ [x] 1 _ rfl (by omega) _ (hS.below B0') hIn).mono ?_
    rintro e w1 ⟨rfl, hb⟩
    go_wp2_with fail
    go_ret2
    exact ⟨_, by rw [HE.out]; rfl, by rw [HV.out]; exact own_nilz _ _, B0'.trans (hb.mono B0'.size)⟩
  have hzb : (eWords S [x] == 0) = true := by simp [hz]
  have HC0 : Hid (eCW S C [x] = eCode S C) := Lib.hid (by rw [eCW_comm]; unfold orI; rw [if_pos hz])
  obtain ⟨hSp0, x1, x2⟩ := eWords1 hz
  obtain ⟨N1, N2⟩ := nW_bd hSp0
  clear hz
  by_cases hc : eCode S C = 0
  case neg =>
    have HV : Hid (vPz S C x = []) := Lib.hid (by unfold vPz; rw [HC0.out, if_neg hc])
    have hcn : (eCode S C != 0) = true := by simpa using hc
    have hcb : (eCode S C == 0) = false := by simpa using hc
    clear hc hSp0 hi hz0 hz1 hz2
    go_enter Try.func49, Try.ntmps49
    go_wp2_with fail
    rw [← HW.out]
    refine (l01Words_n ao S cap hn _ [x] 1 _ rfl (by omega) _ (hS.below B0') hIn).mono ?_
    rintro e w1 ⟨rfl, hb⟩
    have c1 := kept_cell hb c0' l0'
    have l1 := lt_of_below hb l0'
    have B1 : Below w.heap.size w w1 := B0'.trans (hb.mono B0'.size)
    clear hb c0' l0' B0' hIn
    go_wp2_with fail
    refine (l01Given_any ao S cap hn ac C capc hnc _ (hS.below B1) (hC.below B1)).mono ?_
    rintro e w2 ⟨rfl, hb⟩
    go_wp2_with fail
    go_ret2
    exact ⟨_, by rw [HC0.out]; rfl, by rw [HV.out]; exact own_nilz _ _, B1.trans (hb.mono B1.size)⟩
  have hcb : (eCode S C == 0) = true := by simp [hc]
  have hcn : (eCode S C != 0) = false := by simp [hc]
  have hlen := code_len0 hc
  obtain ⟨_, hc1, _⟩ := eCode_zero hc
  have HC1 : Hid (∀ i, i < C.length → 0 ≤ gi C i ∧ gi C i ≤ 9223372036854775807) := Lib.hid fun i h => by have := hc1 i h; omega
  have hhi := hSp0.hi
  have HSp := Lib.hid hSp0
  have HE : Hid (eCW S C [x] = 0) := Lib.hid (by rw [HC0.out]; exact hc)
  have HV : Hid (vPz S C x = pzTo S C x C.length) := Lib.hid (by unfold vPz; rw [HE.out, if_pos rfl])
  clear hSp0 hc1 hc
  go_enter Try.func49, Try.ntmps49
  go_wp2_with fail
  rw [← HW.out]
  refine (l01Words_n ao S cap hn _ [x] 1 _ rfl (by omega) _ (hS.below B0') hIn).mono ?_
  rintro e w1 ⟨rfl, hb⟩
  have c1 := kept_cell hb c0' l0'
  have l1 := lt_of_below hb l0'
  have B1 : Below w.heap.size w w1 := B0'.trans (hb.mono B0'.size)
  clear hb c0' l0' B0' hIn
  go_wp2_with fail
  refine (l01Given_any ao S cap hn ac C capc hnc _ (hS.below B1) (hC.below B1)).mono ?_
  rintro e w2 ⟨rfl, hb⟩
  replace c1 := kept_cell hb c1 l1
  replace l1 := lt_of_below hb l1
  replace B1 := B1.trans (hb.mono B1.size)
  clear hb hWs
  go_wp2_with (at_make; refine wpList_make_full _ rfl _ _ 22 rfl w2.heap.size 2 i0 (.int .i64 0) 1 Try.underlying22 hi hz0 hz1 .i64 .i64 ((S.length : Int) + 1) ((S.length : Int) + 1) (S.length + 1) rfl rfl (by simp) (by simp) (by rw [hz2]; omega) (by unfold maxLen; omega) (by simp) ?_; intro w3 hown hgrow)
  have hb2 := below_grown0 hgrow
  have lG0 := l1
  replace c1 := kept_cell hb2 c1 l1
  replace l1 := lt_of_below hb2 l1
  have sG := B1.size
  have B3 := B1.trans (hb2.mono B1.size)
  replace hown := own_made hown
  clear hgrow hb2 hi hz0 hz1 hz2 B1
  obtain ⟨G, hG⟩ : ∃ G, G = w2.heap.size := ⟨_, rfl⟩
  rw [← hG] at hown sG lG0 ⊢
  clear hG hzb hcb hcn
  go_loopw [30] (fun i wr => ∃ k : Nat, k ≤ C.length ∧ i = .int .i64 k ∧ OwnInts wr G (.slice (some ⟨G, 0, none⟩) (S.length + 1) (S.length + 1)) (pzTo S C x k) ∧ wr.cell? ⟨w.heap.size, 0, none⟩ = some (.slice ao S.length cap) ∧ w.heap.size < G ∧ Below w.heap.size w wr) (fun i _ => C.length - (intOf i).toNat)
  case atStart => exact ⟨0, Nat.zero_le _, rfl, hown, c1, lG0, B3⟩
  case round =>
    clear hown c1 B3 l1
    obtain ⟨k, hk, rfl, hown, c, lG, B⟩ := hrel
    by_cases hlt : k < C.length
    · obtain ⟨b, o, rfl, hbl, hc⟩ := hC.at hlt
      have hck : wr.cell? ⟨b, o + k, none⟩ = some (.int .i64 (gi C k)) := kept_cell B (hc k hlt) hbl
      obtain ⟨y1, y2⟩ := HC1.out k hlt
      obtain ⟨d0, d1⟩ := dist_bd S (gi C k) x
      obtain ⟨D, hD⟩ : ∃ D : Nat, dist S (gi C k) x = (D : Int) := ⟨_, (Int.toNat_of_nonneg d0).symm⟩
      rw [hD] at d0 d1
      have HL := Lib.hid (pz_setz S C x k D hD)
      have hDl : D < S.length + 1 := by omega
      have hD0 : (0 : Int) ≤ (D : Int) := by omega
      have hD1 : (D : Int) < (S.length : Int) + 1 := by omega
      obtain ⟨s1, s2⟩ := pzTo_bd S C x k D
      have HN : Hid ((pzTo S C x k).length = S.length + 1) := Lib.hid (pzTo_len S C x k)
      obtain ⟨L, hL⟩ : ∃ L, L = pzTo S C x k := ⟨_, rfl⟩
      rw [← hL] at hown s1 s2 HL HN
      have HD := Lib.hid hD
      have EW : IntKind.i64.wrap (gi L D + 1) = gi L D + 1 := IntWalk.i64_in _ ⟨by omega, by omega⟩
      have hgl := hown.base_le.2
      have hbr : b < wr.heap.size := lt_of_below B hbl
      have hwr := B.size
      have i1 : (0 : Int) ≤ (k : Int) := by omega
      have i2 : (k : Int) < (C.length : Int) := by omega
      clear hc hL hD d0 d1
      go_wp2_with fail
      go_region_law (first | (go_simp; go_at_call 77; refine (l01Distance_natz ao S cap hhi HSp.out.bd (gi C k) x y1 y2 x1 (by omega) D HD _ (hS.below B.drew)).mono ?_; rintro e w5 ⟨rfl, hb3'⟩; have hb3 : Below wr.heap.size wr w5 := (Below.refl _ wr).drew.trans hb3'; have own3 := hown.below hb3; have hcell3 := own3.cell (k := D) (by rw [HN.out]; omega); have hfree3 := own3.free D))
      all_goals
        go_wp2
        go_roundw
        case rel => exact ⟨k + 1, by omega, by go_num, by rw [← HL.out]; exact own3.stored D _, cell_set_other (kept_cell hb3 c (by omega)) (by simp; omega), lG, (B.trans (hb3.mono B.size)).setCell (by simp; omega) _⟩
        case measure => simp [intOf]; omega
    · have ek : Hid (k = C.length) := Lib.hid (by omega)
      go_wp2_with fail
      go_ret2
      exact ⟨_, by rw [HE.out]; rfl, by rw [HV.out, ← ek.out]; exact hown.rebase (by omega), B⟩

end Go.Proofs.Ytecclcmndfaakaa
