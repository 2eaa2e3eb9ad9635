/-
  Texts put together: PrdS, DuaS. By an AI agent.
-/
import Derived.Test.YtcnnijeokefboaaGreatDoorMathB
import Derived.Test.YtcnnijeokefboaaGreatDoorPk22
import Derived.Deep.RegionHeld3
import Derived.Deep.QuietTactic
import Derived.Test.YtcnnijeokefboaaGreatDoorPkNrS
import Derived.Test.YtcnnijeokefboaaGreatDoorAppendAt
namespace Go.Proofs.YtcnnijeokefboaaGreatDoor
open Go.RowKit Cv
set_option linter.unusedVariables false
set_option linter.unusedSimpArgs false
set_option maxRecDepth 100000

set_option maxHeartbeats 2000000 in
theorem l05Product_any (ao : Option Addr) (S : List Int) (cap : Nat) (hP : Pl S) (u x : Int) (hu : Wd S u) (hx : Wd S x) (w : World) (hS : Ints w ao S) :
    Calls Tryz.prog 80 #[.agg #[.slice ao S.length cap], .int .i64 u, .int .i64 x] w fun e w' => e = .returned (.int .i64 (prW S u x)) ∧ Below w.heap.size w w' := by
  have HP := Lib.hid hP
  have HSp := Lib.hid hP.sp
  have hlo := hP.sp.lo
  have hhi := hP.sp.hi
  have N := nW_bd hP.sp
  have hq := q_bd hP
  have hu1 := hu.1
  have hu2 : u ≤ 9223372036854775807 := by have := hu.2; omega
  have hx1 := hx.1
  have hx2 : x ≤ 9223372036854775807 := by have := hx.2; omega
  obtain ⟨bS, oS, rfl, hbS, hcS⟩ := hS.at (show 0 < S.length by omega)
  have hcS0 := hcS 0 (by omega)
  rw [Nat.add_zero] at hcS0
  obtain ⟨q, hqq⟩ : ∃ q, q = gi S 0 := ⟨_, rfl⟩
  rw [← hqq] at hcS0 hq
  have HQQ := Lib.hid hqq
  clear hP hu hx hqq hcS
  go_enter Tryz.func80, Tryz.ntmps80
  go_wp2_with fail
  have c0 := cell_new w (.slice (some ⟨bS, oS, none⟩) S.length cap) 26
  have B0 : Below w.heap.size w (w.alloc (.cells #[.slice (some ⟨bS, oS, none⟩) S.length cap] 26)) := by go_grown
  go_region_held3 (fun w' => w'.cell? ⟨w.heap.size, 0, none⟩ = some (.slice (some ⟨bS, oS, none⟩) S.length cap)) (first | exact c0 | exact kept_cell hb1 c0 (lt_alloc _ _) | exact kept_cell hb2 (kept_cell hb1 c0 (lt_alloc _ _)) (lt_of_below hb1 (lt_alloc _ _))) (first | (go_at_call_of 74 u; refine (l01Digits_any (some ⟨bS, oS, none⟩) S cap hhi HSp.out.bd u hu1 hu2 _ (hS.below B0.drew)).mono ?_; rintro e w1 ⟨g1, rfl, o1, hb1'⟩; have hb1 := (Below.refl _ (w.alloc (.cells #[.slice (some ⟨bS, oS, none⟩) S.length cap] 26))).drew.trans hb1'; have B1 := B0.trans (hb1.mono B0.size)) | (go_at_call_of 74 x; refine (l01Digits_any (some ⟨bS, oS, none⟩) S cap hhi HSp.out.bd x hx1 hx2 _ (hS.below B1)).mono ?_; rintro e w2 ⟨g2, rfl, o2, hb2⟩))
  have c2 := kept_cell hb2 (kept_cell hb1 c0 (lt_alloc _ _)) (lt_of_below hb1 (lt_alloc _ _))
  have B2 := B1.trans (hb2.mono B1.size)
  have q1 := o1.base_le
  replace o1 := o1.below hb2
  have q2 := o2.base_le
  have l2 : w.heap.size < w2.heap.size := by have := q2.1; have := hb1.size; simp at this; omega
  have D1 : Hid (∀ k, k < S.length → w2.cell? ⟨g1, k, none⟩ = some (.int .i64 (dig S u k)) ∧ g1 < w2.heap.size) := Lib.hid fun k hk => ⟨by have h := o1.cell (k := k) (by rw [digs_length]; exact hk); rwa [gi_digs _ _ _ hk] at h, o1.base_le.2⟩
  have D2 : Hid (∀ k, k < S.length → w2.cell? ⟨g2, k, none⟩ = some (.int .i64 (dig S x k)) ∧ g2 < w2.heap.size) := Lib.hid fun k hk => ⟨by have h := o2.cell (k := k) (by rw [digs_length]; exact hk); rwa [gi_digs _ _ _ hk] at h, o2.base_le.2⟩
  clear hb1 hb1' hb2 c0 B0 B1 q1 q2 o2 o1
  go_wp2_with fail
  go_loopw [9, 19] (fun v i wr => ∃ k : Nat, k ≤ S.length ∧ i = .int .i64 k ∧ v = .int .i64 (prTo S u x k) ∧ Below w2.heap.size w2 wr) (fun _ i _ => S.length - (intOf i).toNat)
  case atStart => exact ⟨0, Nat.zero_le _, rfl, rfl, Below.refl _ _⟩
  case round =>
    obtain ⟨k, hk, rfl, rfl, B⟩ := hrel
    by_cases hlt : k < S.length
    · obtain ⟨h1, l1⟩ := D1.out k hlt
      obtain ⟨h2, l2'⟩ := D2.out k hlt
      have hc1 := kept_cell B h1 l1
      have hc2 := kept_cell B h2 l2'
      obtain ⟨p1, p2⟩ := prTo_bd HP.out u x k hk
      obtain ⟨d1, d2⟩ := dig_2 HP.out u k hlt
      obtain ⟨e1, e2⟩ := dig_2 HP.out x k hlt
      obtain ⟨m1, m2⟩ := mul_small d1 d2 e1 e2
      have E1 : IntKind.i64.wrap (dig S u k * dig S x k) = dig S u k * dig S x k := IntWalk.i64_in _ ⟨by omega, by omega⟩
      have E2 : IntKind.i64.wrap (prTo S u x k + dig S u k * dig S x k) = prTo S u x k + dig S u k * dig S x k := IntWalk.i64_in _ ⟨by omega, by omega⟩
      have kI : (k : Int) < (S.length : Int) := by omega
      have k0 : (0 : Int) ≤ (k : Int) := by omega
      clear h1 h2 l1 l2'
      go_wp2_with fail
      go_quiet (fail)
      go_wp2_with fail
      go_roundw
      case rel => exact ⟨k + 1, by omega, by go_num, rfl, below_drewN B _⟩
      case measure => simp [intOf]; omega
    · have ek : k = S.length := by omega
      have kI : ¬ (k : Int) < (S.length : Int) := by omega
      have cw := kept_cell B c2 l2
      have hcq := kept_cell (B2.trans (B.mono B2.size)) hcS0 hbS
      obtain ⟨p1, p2⟩ := prTo_bd HP.out u x k hk
      have E2 : (prTo S u x k).tmod q = prTo S u x k % q := Int.tmod_eq_emod_of_nonneg p1
      have hz : (q == 0) = false := by simp; omega
      have hz2 : ¬ q = 0 := by omega
      have n0 : (0 : Int) < (S.length : Int) := by omega
      have HR : Hid (prTo S u x k % q = prW S u x) := Lib.hid (by unfold prW; rw [← HQQ.out, ← ek])
      clear ek hlt
      go_wp2_with fail
      go_ret
      exact ⟨ret_int HR.out, B2.trans (B.mono B2.size)⟩

end Go.Proofs.YtcnnijeokefboaaGreatDoor

namespace Go.Proofs.YtcnnijeokefboaaGreatDoor
open Go.RowKit Cv
set_option linter.unusedVariables false
set_option linter.unusedSimpArgs false
set_option maxRecDepth 100000

theorem upB_mono {S L : List Int} {x : Int} {j n : Nat} (h : upB S L x j = false) (hj : j ≤ n) : upB S L x n = false := by
  rw [← Bool.not_eq_true] at h ⊢
  unfold upB at h ⊢
  rw [decide_eq_true_eq] at h ⊢
  exact fun g => h fun i hi => g i (by omega)

set_option maxHeartbeats 4000000 in
theorem l05Dual_any (ao : Option Addr) (S : List Int) (cap : Nat) (hP : Pl S) (ac : Option Addr) (C : List Int) (capc : Nat) (hg : Gp S C) (hl : C.length ≤ 1024) (w : World) (hS : Ints w ao S) (hCI : Ints w ac C) :
    Calls Tryz.prog 75 #[.agg #[.slice ao S.length cap], .slice ac C.length capc] w fun e w' => ∃ v, e = .returned v ∧ OwnInts w' w.heap.size v (duL S C) ∧ Below w.heap.size w w' := by
  obtain ⟨N1, N2⟩ := nW_bd hP.sp
  have hhi := hP.sp.hi
  have HCW : Hid (∀ i, i < C.length → Wd S (gi C i)) := Lib.hid fun i hi => hg.wd _ (gi_mem hi)
  obtain ⟨N, hN⟩ : ∃ N : Nat, nW S = (N : Int) := ⟨(nW S).toNat, by omega⟩
  have HN := Lib.hid hN
  have HV : Hid (duL S C = selL (fun i => upB S C (i : Int) C.length) N) := Lib.hid (by unfold duL; rw [show (nW S).toNat = N by omega])
  have HLN : Hid (∀ k, (selL (fun i => upB S C (i : Int) C.length) k).length ≤ k) := Lib.hid fun k => selL_len _ k
  rw [hN] at N1 N2
  have HP := Lib.hid hP
  have HSp := Lib.hid hP.sp
  obtain ⟨b, o, rfl, hbl, hc⟩ := hCI.at (List.length_pos_of_mem hg.zero)
  have HC := Lib.hid hc
  have B0 : Below w.heap.size w (w.alloc (.cells #[.slice ao S.length cap] 26)) := by go_grown
  have c0 := cell_new w (.slice ao S.length cap) 26
  have l0 := lt_alloc w (.cells #[.slice ao S.length cap] 26)
  have oo := own_empty (w.alloc (.cells #[.slice ao S.length cap] 26)) (w.heap.size + 1) (by rw [World.size_alloc]; omega) rfl
  have b1 : Below (w.alloc (.cells #[.slice ao S.length cap] 26)).heap.size (w.alloc (.cells #[.slice ao S.length cap] 26)) ((w.alloc (.cells #[.slice ao S.length cap] 26)).alloc (.cells #[] 2)) := (Below.refl _ _).alloc (Nat.le_refl _) _
  have c1 := kept_cell b1 c0 l0
  have B1 := B0.trans (b1.mono B0.size)
  rw [World.size_alloc] at oo
  clear hP hg hN hc b1 c0 l0 B0
  go_enter Tryz.func75, Tryz.ntmps75
  go_wp2_with fail
  go_loopw [5, 6] (fun v' i wr => ∃ (k : Nat) (v : Value), k ≤ N ∧ i = .int .i64 k ∧ v = v' ∧ OwnInts wr (w.heap.size + 1) v (selL (fun i => upB S C (i : Int) C.length) k) ∧ wr.cell? ⟨w.heap.size, 0, none⟩ = some (.slice ao S.length cap) ∧ Below w.heap.size w wr ∧ w.heap.size + 1 ≤ wr.heap.size) (fun _ i _ => N - (intOf i).toNat)
  case atStart => exact ⟨0, _, Nat.zero_le _, rfl, rfl, oo, c1, B1, by simp⟩
  case round =>
    clear oo c1 B1
    obtain ⟨k, v, hk, rfl, rfl, own, cs, B, hs1⟩ := hrel
    have hcall := l01N_sp ao S cap wr HSp.out (hS.below B)
    rw [HN.out] at hcall
    have hL := HLN.out k
    have HST := Lib.hid (selL_succ (fun i => upB S C (i : Int) C.length) k)
    by_cases hlt : k < N
    · have hltI : (k : Int) < (N : Int) := by omega
      have HKW : Hid (Wd S (k : Int)) := Lib.hid ⟨by omega, by rw [HN.out]; omega⟩
      clear hlt
      go_wp2_with fail
      refine hcall.mono ?_
      rintro e w4 ⟨rfl, hb4⟩
      have own4 := own.below hb4
      have cs4 := kept_cell hb4 cs (by omega)
      have B4 := B.trans (hb4.mono B.size)
      have hs4 : w.heap.size + 1 ≤ w4.heap.size := by have := hb4.size; omega
      clear hcall own cs B hb4 hs1
      go_wp2_with fail
      go_loopw [7, 8] (fun gd t wi => ∃ j : Nat, j ≤ C.length ∧ t = .int .i64 j ∧ gd = .bool (upB S C (k : Int) j) ∧ OwnInts wi (w.heap.size + 1) v (selL (fun i => upB S C (i : Int) C.length) k) ∧ wi.cell? ⟨w.heap.size, 0, none⟩ = some (.slice ao S.length cap) ∧ Below w.heap.size w wi ∧ w.heap.size + 1 ≤ wi.heap.size) (fun _ t _ => C.length - (intOf t).toNat)
      case atStart => exact ⟨0, Nat.zero_le _, rfl, by unfold upB; rw [decide_eq_true (fun i hi => by omega)], own4, cs4, B4, hs4⟩
      case round =>
        clear own4 cs4 B4 hs4
        obtain ⟨j, hj, rfl, rfl, own, cs, B, hs1⟩ := hrel
        by_cases hlj : j < C.length
        · have hjI : (j : Int) < (C.length : Int) := by omega
          have hj0 : (0 : Int) ≤ (j : Int) := by omega
          cases hgd : upB S C (k : Int) j with
          | true =>
            have hck := kept_cell B (HC.out j hlj) hbl
            have lb := lt_of_below B hbl
            have ls : w.heap.size < wr.heap.size := by omega
            obtain ⟨x, hx⟩ : ∃ x, x = gi C j := ⟨_, rfl⟩
            rw [← hx] at hck
            have HUP : Hid (upB S C (k : Int) (j + 1) = (prW S x (k : Int) == 0)) := Lib.hid (by rw [upB_step, hgd, Bool.true_and, hx]; rfl)
            have HXW : Hid (Wd S x) := Lib.hid (by rw [hx]; exact HCW.out j hlj)
            clear hx hgd
            go_wp2_with fail
            go_region_held3 (fun w' => w'.cell? ⟨w.heap.size, 0, none⟩ = some (.slice ao S.length cap) ∧ w'.cell? ⟨b, o + j, none⟩ = some (.int .i64 x)) (first | exact ⟨cs, hck⟩ | exact ⟨k1, k2⟩) (first | (go_at_call 80; refine (l05Product_any ao S cap HP.out x (k : Int) HXW.out HKW.out _ (hS.below B.drew)).mono ?_; rintro e w4 ⟨rfl, hb4'⟩; have hb4 : Below wr.heap.size wr w4 := (Below.refl _ wr).drew.trans hb4'; have k1 := kept_cell hb4 cs ls; have k2 := kept_cell hb4 hck lb))
            have own4 := own.below hb4
            have B4 := B.trans (hb4.mono B.size)
            have s4 := hb4.size
            clear own cs hck hb4 B
            go_wp2_with fail
            go_roundw
            case rel => exact ⟨j + 1, by omega, by go_num, by rw [HUP.out], own4, k1, B4, by omega⟩
            case measure => simp [intOf]; omega
          | false =>
            have HM : Hid (selL (fun i => upB S C (i : Int) C.length) (k + 1) = selL (fun i => upB S C (i : Int) C.length) k) := Lib.hid (by rw [HST.out, if_neg (by rw [upB_mono hgd (by omega)]; decide), List.append_nil])
            clear hgd
            go_wp2_with fail
            go_roundw
            case rel => exact ⟨k + 1, _, by omega, by go_num, rfl, by rw [HM.out]; exact own, cs, B, hs1⟩
            case measure => simp [intOf]; omega
        · have ej : Hid (j = C.length) := Lib.hid (by omega)
          have hjI : ¬ (j : Int) < (C.length : Int) := by omega
          cases hgd : upB S C (k : Int) j with
          | false =>
            have HM : Hid (selL (fun i => upB S C (i : Int) C.length) (k + 1) = selL (fun i => upB S C (i : Int) C.length) k) := Lib.hid (by rw [HST.out, if_neg (by rw [upB_mono hgd (by omega)]; decide), List.append_nil])
            clear hgd
            go_wp2_with fail
            go_roundw
            case rel => exact ⟨k + 1, _, by omega, by go_num, rfl, by rw [HM.out]; exact own, cs, B, hs1⟩
            case measure => simp [intOf]; omega
          | true =>
            have HM : Hid (selL (fun i => upB S C (i : Int) C.length) (k + 1) = selL (fun i => upB S C (i : Int) C.length) k ++ [(k : Int)]) := Lib.hid (by rw [HST.out, if_pos (by rw [← ej.out]; exact hgd)])
            have E0 : IntKind.i64.wrap (k : Int) = (k : Int) := IntWalk.i64_in _ ⟨by omega, by omega⟩
            clear hgd
            go_wp2_with (at_builtin; refine wpList_append_int rfl _ _ rfl (w.heap.size + 1) _ _ rfl (own.alloc _) wr.heap.size _ rfl (cell_new _ _ _) (by omega) (by rw [World.size_alloc]; omega) ?_; intro v' w5 hown' hgrow)
            have hbT : Below wr.heap.size wr (wr.alloc (.cells #[.int .i64 (k : Int)] 2)) := (Below.refl _ _).alloc (Nat.le_refl _) _
            have hrin := World.ownsRow.lt own
            have B5 := grown_below (B.alloc B.size _) (by rw [World.size_alloc]; omega) hgrow (own.alloc _) (by omega)
            have c5 : w5.cell? ⟨w.heap.size, 0, none⟩ = some (.slice ao S.length cap) := hgrow.cell (a := ⟨w.heap.size, 0, none⟩) (kept_cell hbT cs (by omega)) (fun e => by have := (hrin w.heap.size e.symm).1; omega)
            have s5 : w.heap.size + 1 ≤ w5.heap.size := by have := hgrow.size; rw [World.size_alloc] at this; omega
            rw [← HM.out] at hown'
            clear own hgrow cs B hbT hrin
            go_wp2_with fail
            go_roundw
            case rel => exact ⟨k + 1, _, by omega, by go_num, rfl, hown', c5, B5, s5⟩
            case measure => simp [intOf]; omega
    · have ek : k = N := by omega
      subst ek
      have kI : ¬ (k : Int) < (k : Int) := by omega
      go_wp2_with fail
      refine hcall.mono ?_
      rintro e w4 ⟨rfl, hb4⟩
      go_wp2_with fail
      go_ret
      exact ⟨_, rfl, by rw [HV.out]; exact (own.below hb4).rebase (by omega), B.trans (hb4.mono B.size)⟩

theorem spec_DualCode (ao : Option Addr) (S : List Int) (cap : Nat) (hn : S.length ≤ 4294967296) (ac : Option Addr) (C : List Int) (capc : Nat) (hnc : C.length ≤ 4294967296) (w : World) (hS : Ints w ao S) (hC : Ints w ac C) :
    Calls Tryz.prog 26 #[.agg #[.slice ao S.length cap], .slice ac C.length capc] w fun e w' => ∃ v, e = .returned (.tuple #[v, .int .i64 (eLin S C)]) ∧ OwnInts w' w.heap.size v (vDual S C) ∧ Below w.heap.size w w' := by
  have B0 : Below w.heap.size w (w.alloc (.cells #[.slice ao S.length cap] 26)) := by go_grown
  have c0 := cell_new w (.slice ao S.length cap) 26
  have l0 := lt_alloc w (.cells #[.slice ao S.length cap] 26)
  have h1 := l05Given_any ao S cap hn ac C capc hnc _ (hS.below B0) (hC.below B0)
  by_cases hz : eLin S C = 0
  · have hc0 : eCode S C = 0 := by have h := hz; unfold eLin at h; split at h; assumption; omega
    have hlb : linB S C = true := by
      have h := hz
      unfold eLin at h
      rw [if_pos hc0] at h
      split at h
      · assumption
      · cases h
    obtain ⟨hP, hg⟩ := lin_gp hc0 hlb
    have hlen := code_len0 hc0
    have HV : Hid (vDual S C = duL S C) := Lib.hid (by unfold vDual; rw [if_pos hz])
    rw [hz] at h1
    have HZ := Lib.hid hz
    have H1 := Lib.hid h1
    have HA := Lib.hid (fun (W : World) (h1 : Ints W ao S) (h2 : Ints W ac C) => l05Dual_any ao S cap hP ac C capc hg hlen W h1 h2)
    clear hz h1 hc0 hlb hP hg
    go_enter Tryz.func26, Tryz.ntmps26
    go_wp2_with fail
    refine H1.out.mono ?_
    rintro e w1 ⟨rfl, hb⟩
    have c1 := kept_cell hb c0 l0
    have B1 := B0.trans (hb.mono B0.size)
    clear hb c0 l0 B0
    go_wp2_with fail
    refine (HA.out w1 (hS.below B1) (hC.below B1)).mono ?_
    rintro e w2 ⟨v, rfl, own, hb2⟩
    go_wp2_with fail
    go_ret2
    exact ⟨_, by rw [HZ.out]; try rfl, by rw [HV.out]; exact own.rebase B1.size, B1.trans (hb2.mono B1.size)⟩
  · have hzn : (eLin S C != 0) = true := by simpa using hz
    have HV : Hid (vDual S C = []) := Lib.hid (by unfold vDual; rw [if_neg hz])
    clear hz
    go_enter Tryz.func26, Tryz.ntmps26
    go_wp2_with fail
    refine h1.mono ?_
    rintro e w1 ⟨rfl, hb⟩
    go_wp2_with fail
    go_ret2
    exact ⟨_, rfl, by rw [HV.out]; exact own_nil _ _, B0.trans (hb.mono B0.size)⟩

end Go.Proofs.YtcnnijeokefboaaGreatDoor
