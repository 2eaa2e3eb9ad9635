/-
  Texts put together: Far2, DecI. By an AI agent.
-/
import Derived.Test.YtcnnijeokefboabPk30
import Derived.Deep.RegionHeld3
import Derived.Test.YtcnnijeokefboabPkPerI
import Derived.Test.YtcnnijeokefboabPkDel
namespace Go.Proofs.Ytcnnijeokefboab
open Go.RowKit Cv
set_option linter.unusedVariables false
set_option linter.unusedSimpArgs false
set_option maxRecDepth 100000

set_option maxHeartbeats 2000000 in
theorem codeDistances_any (ao : Option Addr) (S : List Int) (cap : Nat) (hSp : Sp S) (ac : Option Addr) (C : List Int) (capc : Nat) (hlen : C.length ≤ 1048576) (hC0 : ∀ i, i < C.length → 0 ≤ gi C i ∧ gi C i ≤ 9223372036854775807) (x : Int) (hx : 0 ≤ x) (hx2 : x ≤ 9223372036854775807) (w : World) (hS : Ints w ao S) (hC : Ints w ac C) :
    Calls Try.prog 32 #[.agg #[.slice ao S.length cap], .slice ac C.length capc, .int .i64 x] w fun e w' =>
      ∃ q, e = .returned (.slice (some ⟨q, 0, none⟩) C.length C.length) ∧ OwnInts w' w.heap.size (.slice (some ⟨q, 0, none⟩) C.length C.length) (dFrom S C x) ∧ Below w.heap.size w w' := by
  have hlo := hSp.lo
  have hhi := hSp.hi
  have HSp := Lib.hid hSp
  have HC0 := Lib.hid hC0
  clear hSp hC0
  go_enter Try.func32, Try.ntmps32
  go_wp2_with fail
  have c0 := cell_new w (.slice ao S.length cap) 26
  have l0 := lt_alloc w (.cells #[.slice ao S.length cap] 26)
  have B0 : Below w.heap.size w (w.alloc (.cells #[.slice ao S.length cap] 26)) := by go_grown
  refine wp_region_held_drew (S := fun w' => w'.cell? ⟨w.heap.size, 0, none⟩ = some (.slice ao S.length cap)) (by kernel_rfl) c0 (fun hHeld => ?_)
  refine wpAnyH_take (i := 0) (v := ?_) rfl (by kernel_rfl) (by kernel_rfl) (by kernel_rfl) (fun _ _ _ h => h) (Or.inl ⟨by rfl, ?_⟩) (by assumption) ?_
  rotate_left
  · (intro w hSw; (try dsimp only at hSw); go_simp; try (with_reducible rfl))
  (try simp only [Act.put, List.setIfInBounds_toArray, List.set_cons_zero, List.set_cons_succ])
  refine wpAnyH_take (i := 1) (v := ?_) rfl (by kernel_rfl) (by kernel_rfl) (by kernel_rfl) (fun _ _ _ h => h) (Or.inl ⟨by rfl, ?_⟩) (by assumption) ?_
  rotate_left
  · (intro w hSw; (try dsimp only at hSw); go_simp; try (with_reducible rfl))
  (try simp only [Act.put, List.setIfInBounds_toArray, List.set_cons_zero, List.set_cons_succ])
  refine wpAnyH_take (i := 6) (v := ?_) rfl (by kernel_rfl) (by kernel_rfl) (by kernel_rfl) (fun _ _ _ h => h) (Or.inl ⟨by rfl, ?_⟩) (by assumption) ?_
  rotate_left
  · (intro w hSw; (try dsimp only at hSw); go_simp; try (with_reducible rfl))
  (try simp only [Act.put, List.setIfInBounds_toArray, List.set_cons_zero, List.set_cons_succ])
  refine wpAnyH_take (i := 7) (v := ?_) rfl (by kernel_rfl) (by kernel_rfl) (by kernel_rfl) (fun _ _ _ h => h) (Or.inl ⟨by rfl, ?_⟩) (by assumption) ?_
  rotate_left
  · (intro w hSw; (try dsimp only at hSw); go_simp; try (with_reducible rfl))
  (try simp only [Act.put, List.setIfInBounds_toArray, List.set_cons_zero, List.set_cons_succ])
  refine wpAnyH_ready (rs := [2]) (by kernel_rfl) (by simp) ?_
  refine AllReadyH.cons rfl (fun K hK => ?_) AllReadyH.nil
  go_simp
  refine hK.out _ _ (by first | (simp; done) | exact kept_cell (by go_grown) c0 l0) (fun hHeld => ?_)
  clear hK K
  (try simp only [Act.put, List.setIfInBounds_toArray, List.set_cons_zero, List.set_cons_succ])
  refine wpAnyH_ready (rs := [3]) (by kernel_rfl) (by simp) ?_
  refine AllReadyH.cons rfl (fun K hK => ?_) AllReadyH.nil
  go_simp
  (go_at_call 42; refine (digitParts_1 ao S cap HSp.out x hx hx2 _ _ _ (hS.below (by go_grown)) ((ints_new1 _ x _ (by simp)).below (Below.refl _ _).drew)).mono ?_)
  rintro e w1 ⟨P1, g1, rfl, r1, o1, l1, hb1⟩
  have B1 : Below w.heap.size w w1 := Below.trans (by go_grown) (hb1.mono (by simp; try omega))
  have c1 := kept_cell hb1 (b := w.heap.size) (o := 0) (v := .slice ao S.length cap) (by simp) (by simp; try omega)
  have lw1 : w.heap.size < w1.heap.size := lt_of_below hb1 (by simp; try omega)
  have i1 := own_ints o1
  refine hK.out _ _ (c1) (fun hHeld => ?_)
  clear hK K
  (try simp only [Act.put, List.setIfInBounds_toArray, List.set_cons_zero, List.set_cons_succ])
  refine wpAnyH_take (i := 4) (v := ?_) rfl (by kernel_rfl) (by kernel_rfl) (by kernel_rfl) (fun _ _ _ h => h) (Or.inl ⟨by rfl, ?_⟩) (by assumption) ?_
  rotate_left
  · (intro w hSw; (try dsimp only at hSw); go_simp; try (with_reducible rfl))
  (try simp only [Act.put, List.setIfInBounds_toArray, List.set_cons_zero, List.set_cons_succ])
  refine wpAnyH_ready (rs := [5, 8]) (by kernel_rfl) (by simp) ?_
  refine AllReadyH.cons rfl (fun K hK => ?_) ?_
  · go_simp
    refine hK.out _ _ (c1) (fun hHeld => ?_)
    clear hK K
    (try simp only [Act.put, List.setIfInBounds_toArray, List.set_cons_zero, List.set_cons_succ])
    refine wpAnyH_ready (rs := [8]) (by kernel_rfl) (by simp) ?_
    refine AllReadyH.cons rfl (fun K hK => ?_) AllReadyH.nil
    go_simp
    (go_at_call 42; refine (digitParts_any ao S cap hlo hhi HSp.out.bd ac C capc (by omega) HC0.out _ (hS.below B1) (hC.below B1)).mono ?_)
    rintro e w2 ⟨P, g, U, rfl, hp, hb2⟩
    have B2 := B1.trans (hb2.mono B1.size)
    have c2 := kept_cell hb2 c1 lw1
    have lw2 := lt_of_below hb2 lw1
    have r2 := kept_cell hb2 r1 l1
    have i2 := i1.below hb2
    refine hK.out _ _ (c2) (fun hHeld => ?_)
    clear hK K
    (try simp only [Act.put, List.setIfInBounds_toArray, List.set_cons_zero, List.set_cons_succ])
    refine wpAnyH_ready (rs := [9]) (by kernel_rfl) (by simp) ?_
    refine AllReadyH.cons rfl (fun K hK => ?_) AllReadyH.nil
    go_simp
    (go_at_call 66; refine (distancesFrom_any S hhi x _ _ _ rfl _ P g C U _ rfl hlen _ i2 hp).mono ?_)
    rintro e w3 ⟨q, rfl, ho, hb3⟩
    have c3 := kept_cell hb3 c2 lw2
    refine hK.out _ _ (c3) (fun hHeld => ?_)
    clear hK K
    (try simp only [Act.put, List.setIfInBounds_toArray, List.set_cons_zero, List.set_cons_succ])
    refine wpAnyH_ready (rs := [10]) (by kernel_rfl) (by simp) ?_
    refine AllReadyH.cons rfl (fun K hK => ?_) AllReadyH.nil
    go_simp
    refine hK.out _ _ (c3) (fun hHeld => ?_)
    clear hK K
    (try simp only [Act.put, List.setIfInBounds_toArray, List.set_cons_zero, List.set_cons_succ])
    refine wpAnyH_done (by kernel_rfl) ?_ _
    go_wp2
    go_ret
    exact ⟨q, rfl, ho.rebase B2.size, B2.trans (hb3.mono B2.size)⟩
  refine AllReadyH.cons rfl (fun K hK => ?_) AllReadyH.nil
  go_simp
  (go_at_call 42; refine (digitParts_any ao S cap hlo hhi HSp.out.bd ac C capc (by omega) HC0.out _ (hS.below B1) (hC.below B1)).mono ?_)
  rintro e w2 ⟨P, g, U, rfl, hp, hb2⟩
  have B2 := B1.trans (hb2.mono B1.size)
  have c2 := kept_cell hb2 c1 lw1
  have lw2 := lt_of_below hb2 lw1
  have r2 := kept_cell hb2 r1 l1
  have i2 := i1.below hb2
  refine hK.out _ _ (c2) (fun hHeld => ?_)
  clear hK K
  (try simp only [Act.put, List.setIfInBounds_toArray, List.set_cons_zero, List.set_cons_succ])
  refine wpAnyH_ready (rs := [5]) (by kernel_rfl) (by simp) ?_
  refine AllReadyH.cons rfl (fun K hK => ?_) AllReadyH.nil
  go_simp
  refine hK.out _ _ (c2) (fun hHeld => ?_)
  clear hK K
  (try simp only [Act.put, List.setIfInBounds_toArray, List.set_cons_zero, List.set_cons_succ])
  refine wpAnyH_ready (rs := [9]) (by kernel_rfl) (by simp) ?_
  refine AllReadyH.cons rfl (fun K hK => ?_) AllReadyH.nil
  go_simp
  (go_at_call 66; refine (distancesFrom_any S hhi x _ _ _ rfl _ P g C U _ rfl hlen _ i2 hp).mono ?_)
  rintro e w3 ⟨q, rfl, ho, hb3⟩
  have c3 := kept_cell hb3 c2 lw2
  refine hK.out _ _ (c3) (fun hHeld => ?_)
  clear hK K
  (try simp only [Act.put, List.setIfInBounds_toArray, List.set_cons_zero, List.set_cons_succ])
  refine wpAnyH_ready (rs := [10]) (by kernel_rfl) (by simp) ?_
  refine AllReadyH.cons rfl (fun K hK => ?_) AllReadyH.nil
  go_simp
  refine hK.out _ _ (c3) (fun hHeld => ?_)
  clear hK K
  (try simp only [Act.put, List.setIfInBounds_toArray, List.set_cons_zero, List.set_cons_succ])
  refine wpAnyH_done (by kernel_rfl) ?_ _
  go_wp2
  go_ret
  exact ⟨q, rfl, ho.rebase B2.size, B2.trans (hb3.mono B2.size)⟩

end Go.Proofs.Ytcnnijeokefboab

namespace Go.Proofs.Ytcnnijeokefboab
open Go.RowKit Go.Shelf Cv
set_option linter.unusedVariables false
set_option linter.unusedSimpArgs false
set_option maxRecDepth 100000

theorem enter_near : ∀ args w, (callFunc 30 args).run Try.prog w = .ok (.enter 30 args) w := enters_of Try.func30 (by kernel_rfl) rfl
theorem near_fun (rb : Nat) (r : Int) (L : List Int) (n : Nat) (w : World) (hrb : rb < n) (cR : w.cell? ⟨rb, 0, none⟩ = some (.int .i64 r)) :
    PredN 30 #[] #[.pointer (some ⟨rb, 0, none⟩)] (fun d => decide (d ≤ r)) n w L := by
  intro W x hb hx
  have c1 := kept_cell hb cR hrb
  clear cR hb hx
  show Calls Try.prog 30 #[.int .i64 x, .pointer (some ⟨rb, 0, none⟩)] W _
  go_enter Try.func30, Try.ntmps30
  by_cases h : x ≤ r
  · go_wp2_with fail
    go_ret
    exact ⟨by simp [h], Below.refl _ _⟩
  · go_wp2_with fail
    go_ret
    exact ⟨by simp [h], Below.refl _ _⟩

set_option maxHeartbeats 2000000 in
theorem impl_DecodeWord (ao : Option Addr) (S : List Int) (cap : Nat) (hn : S.length ≤ 4294967296) (ac : Option Addr) (C : List Int) (capc : Nat) (hnc : C.length ≤ 4294967296) (r : Int) (hr : -9223372036854775808 ≤ r ∧ r ≤ 9223372036854775807) (x : Int) (hx : -9223372036854775808 ≤ x ∧ x ≤ 9223372036854775807) (w : World) (hS : Ints w ao S) (hC : Ints w ac C) :
    Calls Try.prog 6 #[.agg #[.slice ao S.length cap], .slice ac C.length capc, .int .i64 r, .int .i64 x] w fun e w' => e = .returned (.tuple #[.int .i64 (vDec S C r x), .int .i64 (eDec S C r x)]) ∧ Below w.heap.size w w' := by
  have B2 : Below w.heap.size w (((w.alloc (.cells #[.slice ao S.length cap] 26)).alloc (.cells #[.int .i64 r] 2)).alloc (.cells #[.int .i64 x] 2)) := by go_grown
  have c0 : (((w.alloc (.cells #[.slice ao S.length cap] 26)).alloc (.cells #[.int .i64 r] 2)).alloc (.cells #[.int .i64 x] 2)).cell? ⟨w.heap.size, 0, none⟩ = some (.slice ao S.length cap) :=
    kept_cell (((Below.refl _ (w.alloc (.cells #[.slice ao S.length cap] 26))).alloc (Nat.le_refl _) _).alloc (by simp) _) (cell_new w _ _) (lt_alloc _ _)
  have r0' : (((w.alloc (.cells #[.slice ao S.length cap] 26)).alloc (.cells #[.int .i64 r] 2)).alloc (.cells #[.int .i64 x] 2)).cell? ⟨w.heap.size + 1, 0, none⟩ = some (.int .i64 r) :=
    kept_cell ((Below.refl _ ((w.alloc (.cells #[.slice ao S.length cap] 26)).alloc (.cells #[.int .i64 r] 2))).alloc (Nat.le_refl _) _) (by have h := cell_new (w.alloc (.cells #[.slice ao S.length cap] 26)) (.int .i64 r) 2; rwa [World.size_alloc] at h) (by simp)
  have HQ := Lib.hid (eTimes_eq S C x r)
  by_cases he : eTimes S C x r = 0
  · obtain ⟨hz0, x1, x2⟩ := eTimes_zero he
    obtain ⟨hz, r1, r2⟩ := eCov_zero hz0
    have HT := Lib.hid he
    have hzn : (eCov2 S C [x] r != 0) = false := by simp [HQ.out, he]
    obtain ⟨hSp, hc1, hc2⟩ := eCode_zero hz
    obtain ⟨N1, N2⟩ := nW_bd hSp
    have hlen := code_len hSp hc1 hc2
    have HSp := Lib.hid hSp
    have HC1 : Hid (∀ i, i < C.length → 0 ≤ gi C i ∧ gi C i ≤ 9223372036854775807) := Lib.hid fun i h => by have := hc1 i h; omega
    have hIs := Lib.hid fun W h1 h2 => isPerfect_any ao S cap HSp.out ac C capc (by omega) HC1.out r r1 r2 W h1 h2
    have hdl := Lib.hid (dFrom_len S C x)
    clear hc1 hc2 hSp
    clear hz hz0 he
    cases hp : perB S C r with
    | true =>
      have HE : Hid (eDec S C r x = 0) := Lib.hid (by unfold eDec; rw [if_pos HT.out, if_pos hp])
      have HV : Hid (vDec S C r x = gi C (decI S C r x)) := Lib.hid (by unfold vDec; rw [if_pos HE.out])
      have hlt := dec_lt HSp.out r1 hp ⟨x1, x2⟩
      have HD := Lib.hid (fstI_lt (p := fun k => decide (dist S (gi C k) x ≤ r)) (n := C.length) hlt)
      have HP := Lib.hid hp
      obtain ⟨b, o, rfl, hbl, hc⟩ := hC.at (show 0 < C.length by omega)
      clear hp
      go_enter Try.func6, Try.ntmps6
      go_wp2_with fail
      refine (coverError_n ao S cap hn (some ⟨b, o, none⟩) C capc hnc r _ [x] 1 _ rfl (by omega) _ (hS.below B2) (hC.below B2) (ints_new1 _ x _ (by simp))).mono ?_
      rintro e w1 ⟨rfl, hb⟩
      have lw1 : w.heap.size + 1 < w1.heap.size := lt_of_below hb (by simp; try omega)
      have c1 := kept_cell hb c0 (by simp; try omega)
      have r1' := kept_cell hb r0' (by simp; try omega)
      have B3 : Below w.heap.size w w1 := B2.trans (hb.mono B2.size)
      clear hb B2 c0 r0'
      go_wp2_with fail
      refine (hIs.out _ (hS.below B3) (hC.below B3)).mono ?_
      rintro e w2 ⟨rfl, hb⟩
      rw [HP.out]
      have lw2 : w.heap.size + 1 < w2.heap.size := lt_of_below hb lw1
      have c2 := kept_cell hb c1 (by omega)
      have r2' := kept_cell hb r1' lw1
      have B4 : Below w.heap.size w w2 := B3.trans (hb.mono B3.size)
      clear hb B3 c1 r1'
      go_wp2_with fail
      refine (codeDistances_any ao S cap HSp.out (some ⟨b, o, none⟩) C capc (by omega) HC1.out x x1 (by omega) _ (hS.below B4) (hC.below B4)).mono ?_
      rintro e w3 ⟨q, rfl, oq, hb⟩
      have lw3 : w.heap.size + 1 < w3.heap.size := lt_of_below hb lw2
      have r3' := kept_cell hb r2' lw2
      have B5 : Below w.heap.size w w3 := B4.trans (hb.mono B4.size)
      have hidx := indexFunc_any w2.heap.size q C.length (dFrom S C x) _ enter_near #[] #[.pointer (some ⟨w.heap.size + 1, 0, none⟩)] (fun d => decide (d ≤ r)) w3 (by rw [hdl.out]; omega) (by rw [hdl.out]; exact oq) (near_fun (w.heap.size + 1) r _ _ _ lw2 r3')
      rw [hdl.out] at hidx
      clear hb B4 c2 r2' oq
      go_wp2_with fail
      refine hidx.mono ?_
      rintro e w4 ⟨i, rfl, hb, HI⟩
      have B6 : Below w.heap.size w w4 := B5.trans (hb.mono B5.size)
      have HK : Hid (i = (decI S C r x : Int)) := Lib.hid (by
        rcases HI.out with ⟨h1, h2⟩ | ⟨k, h1, h2, h3, h4⟩
        · exfalso
          have h5 := h2 _ (show decI S C r x < C.length from hlt)
          rw [gi_dFrom _ _ _ _ hlt] at h5
          have h6 := HD.out.1
          rw [dist_comm] at h6
          rw [show fstI (fun k => decide (dist S (gi C k) x ≤ r)) C.length = decI S C r x from rfl] at h6
          rw [h6] at h5; cases h5
        · rw [h2]
          refine congrArg _ (fstI_at (p := fun k => decide (dist S (gi C k) x ≤ r)) h1 ?_ fun j hj => ?_).symm
          · rw [gi_dFrom _ _ _ _ h1, dist_comm] at h3; exact h3
          · have := h4 j hj
            rw [gi_dFrom _ _ _ _ (by omega), dist_comm] at this; exact this)
      obtain ⟨D, hD⟩ : ∃ D, D = decI S C r x := ⟨_, rfl⟩
      rw [← hD] at HK HV
      rw [show (decI S C r x < C.length) = (D < C.length) by rw [hD]] at hlt
      have hck := kept_cell B6 (hc D hlt) hbl
      have hi := HK.out
      subst hi
      clear hb B5 r3' hidx HI hD hc
      go_wp2_with fail
      go_ret2
      exact ⟨by rw [HE.out, HV.out]; try rfl, B6⟩
    | false =>
      have HE : Hid (eDec S C r x = 5) := Lib.hid (by unfold eDec; rw [if_pos HT.out, if_neg (by rw [hp]; simp)])
      have HV : Hid (vDec S C r x = 0) := Lib.hid (by unfold vDec; rw [HE.out]; rfl)
      have HP := Lib.hid hp
      clear hp
      go_enter Try.func6, Try.ntmps6
      go_wp2_with fail
      refine (coverError_n ao S cap hn ac C capc hnc r _ [x] 1 _ rfl (by omega) _ (hS.below B2) (hC.below B2) (ints_new1 _ x _ (by simp))).mono ?_
      rintro e w1 ⟨rfl, hb⟩
      have lw1 : w.heap.size + 1 < w1.heap.size := lt_of_below hb (by simp; try omega)
      have c1 := kept_cell hb c0 (by simp; try omega)
      have r1' := kept_cell hb r0' (by simp; try omega)
      have B3 : Below w.heap.size w w1 := B2.trans (hb.mono B2.size)
      clear hb B2 c0 r0'
      go_wp2_with fail
      refine (hIs.out _ (hS.below B3) (hC.below B3)).mono ?_
      rintro e w2 ⟨rfl, hb⟩
      rw [HP.out]
      go_wp2_with fail
      go_ret2
      exact ⟨by rw [HE.out, HV.out]; try rfl, B3.trans (hb.mono B3.size)⟩
  · have HE : Hid (eDec S C r x = eCov2 S C [x] r) := Lib.hid (by unfold eDec; rw [if_neg he, HQ.out])
    have HV : Hid (vDec S C r x = 0) := Lib.hid (by unfold vDec; rw [HE.out, HQ.out, if_neg he])
    have hzn : (eCov2 S C [x] r != 0) = true := by rw [HQ.out]; simpa using he
    clear he
    go_enter Try.func6, Try.ntmps6
    go_wp2_with fail
    refine (coverError_n ao S cap hn ac C capc hnc r _ [x] 1 _ rfl (by omega) _ (hS.below B2) (hC.below B2) (ints_new1 _ x _ (by simp))).mono ?_
    rintro e w1 ⟨rfl, hb⟩
    go_wp2_with fail
    go_ret2
    exact ⟨by rw [HE.out, HV.out]; try rfl, B2.trans (hb.mono B2.size)⟩

end Go.Proofs.Ytcnnijeokefboab
