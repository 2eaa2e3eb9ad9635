/-
  Texts put together: F2, F3, NrI, NrJ. By an AI agent.
-/
import Derived.Test.YtcnnijeokefboaaGreatDoorF1
import Derived.Test.YtcnnijeokefboaaGreatDoorPk36
import Derived.Test.YtcnnijeokefboaaGreatDoorPk38
import Derived.Test.YtcnnijeokefboaaGreatDoorErr
import Derived.Deep.WholeRow
import Derived.Deep.RegionHeld3
namespace Go.Proofs.YtcnnijeokefboaaGreatDoor
open Go.RowKit Cv
set_option linter.unusedVariables false
set_option linter.unusedSimpArgs false
set_option maxRecDepth 100000

theorem l01In_w (n low high : Int) (w : World) :
    Calls Tryz.prog 108 #[.int .i64 n, .int .i64 low, .int .i64 high] w fun e w' => e = .returned (.bool (inB n low high)) ∧ w' = w :=
  (l01In_any n low high w).mono fun _ _ ⟨a, b⟩ => ⟨a, b.symm⟩

end Go.Proofs.YtcnnijeokefboaaGreatDoor

namespace Go.Proofs.YtcnnijeokefboaaGreatDoor
open Go.RowKit Cv
set_option linter.unusedVariables false
set_option linter.unusedSimpArgs false
set_option maxRecDepth 100000

theorem Dg_digs {S : List Int} (h : Sp S) (x : Int) : Dg S (digs S x) := ⟨digs_length _ _, fun j hj => by rw [gi_digs S x j hj]; exact dig_bd S x h.bd j hj⟩
theorem Dg_opp {S : List Int} (h : Sp S) (x : Int) : Dg S (oppD S (digs S x)) := ⟨oppD_length _ _, fun j hj => by
  have := h.bd j hj
  rw [gi_oppD _ _ _ hj]; exact ⟨Int.emod_nonneg _ (by omega), Int.emod_lt_of_pos _ (by omega)⟩⟩
theorem parts_own {w : World} {base P g : Nat} {S U : List Int} {x : Int} (hp : PartsAt w base P g S [x] U) : OwnInts w base (.slice (some ⟨g, 0, none⟩) S.length S.length) (digs S x) := by
  have hU : U = digs S x := ext_gi (by rw [hp.len, digs_length]; simp) fun j hj => by
    rw [hp.len] at hj
    have := hp.dg 0 j (by simp) (by simpa using hj)
    rw [Nat.zero_mul, Nat.zero_add, gi1] at this
    rw [this, gi_digs S x j (by simpa using hj)]
  have own := hp.own
  rwa [hU, digs_length] at own

set_option maxHeartbeats 2000000 in
theorem impl_OppositeWord (ao : Option Addr) (S : List Int) (cap : Nat) (hn : S.length ≤ 4294967296) (x : Int) (hx : -9223372036854775808 ≤ x ∧ x ≤ 9223372036854775807) (w : World) (hS : Ints w ao S) :
    Calls Tryz.prog 124 #[.agg #[.slice ao S.length cap], .int .i64 x] w fun e w' => e = .returned (.tuple #[.int .i64 (vOpp S x), .int .i64 (eWords S [x])]) ∧ Below w.heap.size w w' := by
  by_cases hz : eWords S [x] = 0
  · obtain ⟨hSp, x1, x2⟩ := eWords1 hz
    obtain ⟨N1, N2⟩ := nW_bd hSp
    have HSp := Lib.hid hSp
    have hlo := hSp.lo
    have hhi := hSp.hi
    have hzb : (eWords S [x] == 0) = true := by simp [hz]
    have hzn : (eWords S [x] != 0) = false := by simp [hz]
    have HZ := Lib.hid hz
    clear hz hSp
    have HV := Lib.hid (show vOpp S x = oppW S x from by simp only [vOpp, if_pos HZ.out])
    go_enter Tryz.func124, Tryz.ntmps124
    go_wp2_with fail
    have B0 : Below w.heap.size w ((w.alloc (.cells #[.slice ao S.length cap] 26)).alloc (.cells #[.int .i64 x] 2)) := by go_grown
    have c0 : (((w.alloc (.cells #[.slice ao S.length cap] 26)).alloc (.cells #[.int .i64 x] 2))).cell? ⟨w.heap.size, 0, none⟩ = some (.slice ao S.length cap) := kept_cell ((Below.refl _ (w.alloc (.cells #[.slice ao S.length cap] 26))).alloc (Nat.le_refl _) _) (cell_new _ _ _) (lt_alloc _ _)
    refine (wordsError_n ao S cap hn _ [x] 1 _ rfl (by omega) _ (hS.below B0) (ints_new1 _ x _ (by simp))).mono ?_
    rintro e w1 ⟨rfl, hb⟩
    have c1 := kept_cell hb c0 (by simp; omega)
    have B1 : Below w.heap.size w w1 := B0.trans (hb.mono (by simp; omega))
    have l1 : w.heap.size < w1.heap.size := lt_of_below hb (by simp; omega)
    clear hb c0 B0
    go_wp2_with fail
    refine (digitParts_n ao S cap hlo hhi HSp.out.bd _ [x] 1 _ rfl (by omega) (by intro i hi; match i, hi with | 0, _ => exact ⟨x1, by rw [gi1]; omega⟩) _ (hS.below (B1.alloc B1.size _)) (ints_new1 _ x _ (by rfl))).mono ?_
    rintro e w2 ⟨P, g, U, rfl, hp, hb⟩
    have r0 := hp.row 0 (by simp)
    rw [Nat.zero_mul] at r0
    have own := parts_own hp
    have hgw : w.heap.size < g := by have := own.base_le.1; simp at this; omega
    have hq : Below w1.heap.size w1 w2 := Below.trans ((Below.refl _ w1).alloc (Nat.le_refl _) _) (hb.mono (by simp))
    have c2 := kept_cell hq c1 l1
    have B2 : Below w.heap.size w w2 := B1.trans (hq.mono B1.size)
    replace own := own.rebase (base' := w.heap.size) (by simp; omega)
    clear hb hq c1 B1 hp
    go_wp2_with fail
    clear r0
    go_loopw [26] (fun i wr => ∃ (k : Nat) (T : List Int), k ≤ S.length ∧ i = .int .i64 k ∧ Hid (T.length = S.length ∧ ∀ j, j < S.length → gi T j = if j < k then (gi S j - dig S x j) % gi S j else dig S x j) ∧ OwnInts wr w.heap.size (.slice (some ⟨g, 0, none⟩) S.length S.length) T ∧
        wr.cell? ⟨w.heap.size, 0, none⟩ = some (.slice ao S.length cap) ∧ Below w.heap.size w wr) (fun i _ => S.length - (intOf i).toNat)
    case atStart => exact ⟨0, _, Nat.zero_le _, rfl, Lib.hid ⟨digs_length _ _, fun j hj => by simp [gi_digs S x j hj]⟩, own, c2, B2⟩
    case round =>
      clear own c2 B2
      obtain ⟨k, T, hk, rfl, HT, own, c2, B2⟩ := hrel
      by_cases hlt : k < S.length
      · obtain ⟨b, o, rfl, hbl, hc⟩ := hS.at hlt
        have hck : wr.cell? ⟨b, o + k, none⟩ = some (.int .i64 (gi S k)) := kept_cell B2 (hc k hlt) hbl
        have hcell := own.cell (k := k) (by rw [HT.out.1]; exact hlt)
        rw [HT.out.2 k hlt, if_neg (by omega)] at hcell
        have hfree := own.free k
        obtain ⟨s1, s2⟩ := HSp.out.bd k hlt
        obtain ⟨d1, d2⟩ := dig_bd S x HSp.out.bd k hlt
        have E1 : IntKind.i64.wrap (gi S k - dig S x k) = gi S k - dig S x k := IntWalk.i64_in _ ⟨by omega, by omega⟩
        have E2 : (gi S k - dig S x k).tmod (gi S k) = (gi S k - dig S x k) % gi S k := Int.tmod_eq_emod_of_nonneg (by omega)
        have hzz : ¬ gi S k = 0 := by omega
        have hzz2 : (gi S k == 0) = false := by simp; omega
        clear hc
        go_wp2
        clear E1 E2
        go_roundw
        case rel =>
          refine ⟨k + 1, _, by omega, by go_num, Lib.hid ⟨?_, ?_⟩, own.stored k (-dig S x k % gi S k), cell_set_other (w := wr) c2 (by simp; omega), B2.setCell (by simp; omega) _⟩
          · rw [List.length_set]; exact HT.out.1
          · intro j hj
            rw [gi_set _ _ _ _ (by rw [HT.out.1]; exact hlt)]
            by_cases e : j = k
            · subst e; rw [if_pos rfl, if_pos (by omega)]; simp
            · rw [if_neg e, HT.out.2 j hj]
              by_cases h : j < k
              · rw [if_pos h, if_pos (by omega)]
              · rw [if_neg h, if_neg (by omega)]
        case measure => simp [intOf]; omega
      · have ek : k = S.length := by omega
        have eT : T = oppD S (digs S x) := ext_gi (by rw [HT.out.1, oppD_length]) fun j hj => by
          rw [HT.out.1] at hj
          rw [HT.out.2 j hj, if_pos (by omega), gi_oppD _ _ _ hj, gi_digs _ _ _ hj]
        rw [eT] at own
        have HD := Lib.hid (Dg_opp HSp.out x)
        clear eT
        go_wp2_with fail
        refine (wordWithDigits_any ao S cap hhi HSp.out.bd (some ⟨g, 0, none⟩) (oppD S (digs S x)) S.length _ rfl HD.out _ (hS.below B2) (own_ints own)).mono ?_
        rintro e w5 ⟨rfl, hb5⟩
        go_wp2_with fail
        go_ret2
        exact ⟨ret2 HV.out.symm HZ.out.symm, B2.trans (hb5.mono B2.size)⟩
  · have HV := Lib.hid (show vOpp S x = 0 from by simp only [vOpp, if_neg hz])
    have hzb : (eWords S [x] == 0) = false := by simpa using hz
    have hzn : (eWords S [x] != 0) = true := by simpa using hz
    clear hz
    go_enter Tryz.func124, Tryz.ntmps124
    go_wp2_with fail
    have B0 : Below w.heap.size w ((w.alloc (.cells #[.slice ao S.length cap] 26)).alloc (.cells #[.int .i64 x] 2)) := by go_grown
    have c0 : (((w.alloc (.cells #[.slice ao S.length cap] 26)).alloc (.cells #[.int .i64 x] 2))).cell? ⟨w.heap.size, 0, none⟩ = some (.slice ao S.length cap) := kept_cell ((Below.refl _ (w.alloc (.cells #[.slice ao S.length cap] 26))).alloc (Nat.le_refl _) _) (cell_new _ _ _) (lt_alloc _ _)
    refine (wordsError_n ao S cap hn _ [x] 1 _ rfl (by omega) _ (hS.below B0) (ints_new1 _ x _ (by simp))).mono ?_
    rintro e w1 ⟨rfl, hb⟩
    have c1 := kept_cell hb c0 (by simp; omega)
    have B1 : Below w.heap.size w w1 := B0.trans (hb.mono (by simp; omega))
    have l1 : w.heap.size < w1.heap.size := lt_of_below hb (by simp; omega)
    clear hb c0 B0
    go_wp2_with fail
    go_ret2
    exact ⟨ret2 HV.out.symm rfl, B1⟩

end Go.Proofs.YtcnnijeokefboaaGreatDoor

namespace Go.Proofs.YtcnnijeokefboaaGreatDoor
open Go.RowKit Go.Shelf Cv
set_option linter.unusedVariables false
set_option linter.unusedSimpArgs false
set_option maxRecDepth 100000

theorem boxl2 (w : World) (a b : Value) (t : TypeId) : ∃ W, W = w.alloc (.cells #[a, b] t) ∧ W.cell? ⟨w.heap.size, 0, none⟩ = some a ∧ W.cell? ⟨w.heap.size, 1, none⟩ = some b ∧ W.heap.size = w.heap.size + 1 ∧ Below w.heap.size w W := by
  have y0 : (w.alloc (.cells #[a, b] t)).cell? ⟨w.heap.size, 0, none⟩ = some a := by rw [cell_of_row _ w.heap.size 0 _ _ _ (heap_alloc_last w (.cells #[a, b] t))]; rfl
  have y1 : (w.alloc (.cells #[a, b] t)).cell? ⟨w.heap.size, 1, none⟩ = some b := by rw [cell_of_row _ w.heap.size 1 _ _ _ (heap_alloc_last w (.cells #[a, b] t))]; rfl
  exact ⟨_, rfl, y0, y1, World.size_alloc _ _, (Below.refl _ _).alloc (Nat.le_refl _) _⟩

set_option maxHeartbeats 2000000 in
theorem nearestWord_any (ao : Option Addr) (S : List Int) (cap : Nat) (ac : Option Addr) (C : List Int) (capc : Nat) (hP : Pl S) (hg : Gp S C) (hl : C.length ≤ 1024) (x : Int) (hx : Wd S x) (w : World) (hS : Ints w ao S) (hCI : Ints w ac C) :
    Calls Tryz.prog 85 #[.agg #[.slice ao S.length cap, .slice ac C.length capc], .int .i64 x] w fun e w' => e = .returned (.int .i64 (nrW S C x)) ∧ Below w.heap.size w w' := by
  have hSp := hP.sp
  have N := nW_bd hSp
  have HSp := Lib.hid hSp
  have hx9 : 0 ≤ x ∧ x ≤ 9223372036854775807 := by unfold Wd at hx; omega
  have HCb : Hid (∀ u, u ∈ C → 0 ≤ u ∧ u ≤ 9223372036854775807) := Lib.hid fun u hu => by have := hg.wd u hu; unfold Wd at this; omega
  have HLb : Hid (∀ u, u ∈ shL S C x → 0 ≤ u ∧ u ≤ 9223372036854775807) := Lib.hid fun u hu => by
    obtain ⟨v, _, e⟩ := (mem_shL _ _ _ _).1 hu
    have := wd_sum hSp v x; unfold Wd at this; rw [← e]; omega
  have hlw := ldr_wd hP hg x
  have how := wd_opp hSp (ldr S C x)
  have HO : Hid (vOpp S (ldr S C x) = oppW S (ldr S C x)) := Lib.hid (by unfold vOpp; rw [if_pos (by rw [eWords_w hSp]; exact if_pos hlw)])
  unfold Wd at hlw how
  have hpos := List.length_pos_of_mem hg.zero
  have HSL : Hid ((shL S C x).length = C.length) := Lib.hid (shL_len _ _ _)
  have HLD : Hid (ldrTo S (shL S C x) (C.length - 1) = ldr S C x) := Lib.hid (by unfold ldr; rw [shL_len])
  have HNR : Hid (sumW S x (oppW S (ldr S C x)) = nrW S C x) := Lib.hid rfl
  have hn8 := hSp.hi
  obtain ⟨W0, hW0, cS, cC, z0, B0⟩ := boxl2 w (.slice ao S.length cap) (.slice ac C.length capc) 64
  have HW0 := Lib.hid hW0
  have z0a : w.heap.size + 1 ≤ W0.heap.size := by omega
  obtain ⟨y, hy⟩ : ∃ y, y = ldr S C x := ⟨_, rfl⟩
  rw [← hy] at hlw how HO HLD HNR
  clear hW0 z0 hSp hP hg hx hy
  go_enter Tryz.func85, Tryz.ntmps85
  go_wp2_with fail
  rw [← HW0.out]
  refine wp_region_held_drew (S := fun w' => w'.cell? ⟨w.heap.size, 0, none⟩ = some (.slice ao S.length cap) ∧ w'.cell? ⟨w.heap.size, 1, none⟩ = some (.slice ac C.length capc)) (by kernel_rfl) ⟨cS, cC⟩ (fun hHeld => ?_)
  refine wpAnyH_take (i := 0) (v := ?_) rfl (by kernel_rfl) (by kernel_rfl) (by kernel_rfl) (fun _ _ _ h => h) (Or.inl ⟨by rfl, ?_⟩) (by assumption) ?_
  rotate_left
  · (intro w hSw; (try dsimp only at hSw); go_simp; try (with_reducible rfl))
  (try simp only [Act.put, List.setIfInBounds_toArray, List.set_cons_zero, List.set_cons_succ])
  refine wpAnyH_take (i := 1) (v := .agg #[.slice ao S.length cap]) rfl (by kernel_rfl) (by kernel_rfl) (by kernel_rfl) (fun _ _ _ h => h) (Or.inl ⟨by rfl, ?_⟩) (by assumption) ?_
  · (intro W1 hSw; obtain ⟨h1, h2⟩ := hSw; (try dsimp only at h1 h2); go_simp)
  (try simp only [Act.put, List.setIfInBounds_toArray, List.set_cons_zero, List.set_cons_succ])
  refine wpAnyH_take (i := 2) (v := ?_) rfl (by kernel_rfl) (by kernel_rfl) (by kernel_rfl) (fun _ _ _ h => h) (Or.inl ⟨by rfl, ?_⟩) (by assumption) ?_
  rotate_left
  · (intro w hSw; (try dsimp only at hSw); go_simp; try (with_reducible rfl))
  (try simp only [Act.put, List.setIfInBounds_toArray, List.set_cons_zero, List.set_cons_succ])
  refine wpAnyH_take (i := 3) (v := .agg #[.slice ao S.length cap]) rfl (by kernel_rfl) (by kernel_rfl) (by kernel_rfl) (fun _ _ _ h => h) (Or.inl ⟨by rfl, ?_⟩) (by assumption) ?_
  · (intro W1 hSw; obtain ⟨h1, h2⟩ := hSw; (try dsimp only at h1 h2); go_simp)
  (try simp only [Act.put, List.setIfInBounds_toArray, List.set_cons_zero, List.set_cons_succ])
  refine wpAnyH_take (i := 4) (v := .agg #[.slice ao S.length cap, .slice ac C.length capc]) rfl (by kernel_rfl) (by kernel_rfl) (by kernel_rfl) (fun _ _ _ h => h) (Or.inl ⟨by rfl, ?_⟩) (by assumption) ?_
  · (intro W1 hSw; obtain ⟨h1, h2⟩ := hSw; (try dsimp only at h1 h2); go_simp)
  (try simp only [Act.put, List.setIfInBounds_toArray, List.set_cons_zero, List.set_cons_succ])
  refine wpAnyH_take (i := 5) (v := .int .i64 x) rfl (by kernel_rfl) (by kernel_rfl) (by kernel_rfl) (fun _ _ _ h => h) (Or.inl ⟨by rfl, ?_⟩) (by assumption) ?_
  · (intro W1 hSw; go_simp)
  (try simp only [Act.put, List.setIfInBounds_toArray, List.set_cons_zero, List.set_cons_succ])
  refine wpAnyH_ready (rs := [6]) (by kernel_rfl) (by simp) ?_
  refine AllReadyH.cons rfl (fun K hK => ?_) AllReadyH.nil
  go_simp
  (go_at_call 126; refine (class_any ao S cap HSp.out ac C capc (by omega) HCb.out x hx9 _ (hS.below B0.drew) (hCI.below B0.drew)).mono ?_)
  rintro e w3 ⟨g, rfl, own, hb3'⟩
  have hb3 : Below W0.heap.size W0 w3 := (Below.refl _ W0).drew.trans hb3'
  clear hb3'
  have cS3 := kept_cell hb3 cS (by omega)
  have cC3 := kept_cell hb3 cC (by omega)
  have B3 := B0.trans (hb3.mono (by omega))
  have hI := own_ints own
  have s3 := hb3.size
  have hlo := leaderOf_any ao S cap HSp.out (some ⟨g, 0, none⟩) (shL S C x) C.length (by rw [HSL.out]; omega) (by rw [HSL.out]; omega) HLb.out w3 (hS.below B3) hI
  rw [HSL.out, HLD.out] at hlo
  refine hK.out _ _ (⟨cS3, cC3⟩) (fun hHeld => ?_)
  clear hK K
  (try simp only [Act.put, List.setIfInBounds_toArray, List.set_cons_zero, List.set_cons_succ])
  refine wpAnyH_ready (rs := [7]) (by kernel_rfl) (by simp) ?_
  refine AllReadyH.cons rfl (fun K hK => ?_) AllReadyH.nil
  go_simp
  (go_at_call 125; refine hlo.mono ?_)
  rintro e w4 ⟨rfl, hb4⟩
  have cS4 := kept_cell hb4 cS3 (by omega)
  have cC4 := kept_cell hb4 cC3 (by omega)
  have B4 := B3.trans (hb4.mono (by omega))
  have s4 := hb4.size
  have hop := impl_OppositeWord ao S cap (by omega) y ⟨by omega, by omega⟩ w4 (hS.below B4)
  rw [HO.out] at hop
  refine hK.out _ _ (⟨cS4, cC4⟩) (fun hHeld => ?_)
  clear hK K
  (try simp only [Act.put, List.setIfInBounds_toArray, List.set_cons_zero, List.set_cons_succ])
  refine wpAnyH_ready (rs := [8]) (by kernel_rfl) (by simp) ?_
  refine AllReadyH.cons rfl (fun K hK => ?_) AllReadyH.nil
  go_simp
  (go_at_call 124; refine hop.mono ?_)
  rintro e w5 ⟨rfl, hb5⟩
  have cS5 := kept_cell hb5 cS4 (by omega)
  have cC5 := kept_cell hb5 cC4 (by omega)
  have B5 := B4.trans (hb5.mono (by omega))
  refine hK.out _ _ (⟨cS5, cC5⟩) (fun hHeld => ?_)
  clear hK K
  (try simp only [Act.put, List.setIfInBounds_toArray, List.set_cons_zero, List.set_cons_succ])
  refine wpAnyH_take (i := 9) (v := ?_) rfl (by kernel_rfl) (by kernel_rfl) (by kernel_rfl) (fun _ _ _ h => h) (Or.inl ⟨by rfl, ?_⟩) (by assumption) ?_
  rotate_left
  · (intro w hSw; (try dsimp only at hSw); go_simp; try (with_reducible rfl))
  (try simp only [Act.put, List.setIfInBounds_toArray, List.set_cons_zero, List.set_cons_succ])
  refine wpAnyH_take (i := 10) (v := ?_) rfl (by kernel_rfl) (by kernel_rfl) (by kernel_rfl) (fun _ _ _ h => h) (Or.inl ⟨by rfl, ?_⟩) (by assumption) ?_
  rotate_left
  · (intro w hSw; (try dsimp only at hSw); go_simp; try (with_reducible rfl))
  (try simp only [Act.put, List.setIfInBounds_toArray, List.set_cons_zero, List.set_cons_succ])
  refine wpAnyH_take (i := 11) (v := ?_) rfl (by kernel_rfl) (by kernel_rfl) (by kernel_rfl) (fun _ _ _ h => h) (Or.inl ⟨by rfl, ?_⟩) (by assumption) ?_
  rotate_left
  · (intro w hSw; (try dsimp only at hSw); go_simp; try (with_reducible rfl))
  (try simp only [Act.put, List.setIfInBounds_toArray, List.set_cons_zero, List.set_cons_succ])
  refine wpAnyH_take (i := 12) (v := ?_) rfl (by kernel_rfl) (by kernel_rfl) (by kernel_rfl) (fun _ _ _ h => h) (Or.inl ⟨by rfl, ?_⟩) (by assumption) ?_
  rotate_left
  · (intro w hSw; (try dsimp only at hSw); go_simp; try (with_reducible rfl))
  (try simp only [Act.put, List.setIfInBounds_toArray, List.set_cons_zero, List.set_cons_succ])
  refine wpAnyH_take (i := 13) (v := ?_) rfl (by kernel_rfl) (by kernel_rfl) (by kernel_rfl) (fun _ _ _ h => h) (Or.inl ⟨by rfl, ?_⟩) (by assumption) ?_
  rotate_left
  · (intro w hSw; (try dsimp only at hSw); go_simp; try (with_reducible rfl))
  (try simp only [Act.put, List.setIfInBounds_toArray, List.set_cons_zero, List.set_cons_succ])
  refine wpAnyH_done (by kernel_rfl) ?_ _
  (try simp only [List.getElem_toArray, List.getElem_cons_succ, List.getElem_cons_zero, Act.put, List.setIfInBounds_toArray, List.set_cons_zero, List.set_cons_succ])
  clear hlo hop hI own hb3 hb4 hb5 cS cC cS3 cC3 cS4 cC4 B3 B4
  go_wp2_with fail
  refine (sumOfWords_any ao S cap HSp.out x (oppW S y) hx9.1 hx9.2 (by omega) (by omega) _ (hS.below B5)).mono ?_
  rintro e w6 ⟨rfl, hb6⟩
  go_wp2_with fail
  go_ret
  exact ⟨by rw [HNR.out]; rfl, B5.trans (hb6.mono B5.size)⟩

theorem nearest_fun (xb : Nat) (ao : Option Addr) (S : List Int) (cap : Nat) (ac : Option Addr) (C : List Int) (capc : Nat) (hP : Pl S) (hg : Gp S C) (hl : C.length ≤ 1024) (x : Int) (hx : Wd S x) (w : World) (hxb : xb < w.heap.size) (cX : w.cell? ⟨xb, 0, none⟩ = some (.int .i64 x)) (hS : Ints w ao S) (hC : Ints w ac C) :
    ∀ W, Below w.heap.size w W → Calls Tryz.prog 84 ((#[] : Array Value).push (.agg #[.slice ao S.length cap, .slice ac C.length capc]) ++ #[.pointer (some ⟨xb, 0, none⟩)]) W fun e w' => e = .returned (.int .i64 (nrW S C x)) ∧ Below W.heap.size W w' := by
  intro W hb
  obtain ⟨W0, hW0, cS, cC, z0, B0⟩ := boxl2 W (.slice ao S.length cap) (.slice ac C.length capc) 64
  have cX0 := kept_cell (hb.trans (B0.mono hb.size)) cX hxb
  have hn := nearestWord_any ao S cap ac C capc hP hg hl x hx W0 ((hS.below hb).below B0) ((hC.below hb).below B0)
  subst hW0
  have HN := Lib.hid hn
  clear z0 hn
  show Calls Tryz.prog 84 #[.agg #[.slice ao S.length cap, .slice ac C.length capc], .pointer (some ⟨xb, 0, none⟩)] W _
  go_enter Tryz.func84, Tryz.ntmps84
  go_wp2_with fail
  refine HN.out.mono ?_
  rintro e w2 ⟨rfl, hb2⟩
  go_wp2_with fail
  go_ret
  exact ⟨rfl, B0.trans (hb2.mono B0.size)⟩


end Go.Proofs.YtcnnijeokefboaaGreatDoor

namespace Go.Proofs.YtcnnijeokefboaaGreatDoor
open Go.RowKit Go.Shelf Cv
set_option linter.unusedVariables false
set_option linter.unusedSimpArgs false
set_option maxRecDepth 100000

set_option maxHeartbeats 2000000 in
theorem impl_NearestWord (ao : Option Addr) (S : List Int) (cap : Nat) (hn : S.length ≤ 4294967296) (ac : Option Addr) (C : List Int) (capc : Nat) (hnc : C.length ≤ 4294967296) (x : Int) (hx : -9223372036854775808 ≤ x ∧ x ≤ 9223372036854775807) (pv : Value) (w : World) (hG : Glob pv w) (hS : Ints w ao S) (hC : Ints w ac C) :
    Calls Tryz.prog 32 #[.agg #[.slice ao S.length cap], .slice ac C.length capc, .int .i64 x] w fun e w' => e = .returned (.tuple #[.int .i64 (vNrW S C x), .int .i64 (eNrW S C x)]) ∧ Below w.heap.size w w' := by
  obtain ⟨W0, hW0, cS, rX, z0, B0⟩ := box2i w (.slice ao S.length cap) (.int .i64 x) 26 2
  have HW0 := Lib.hid hW0
  have z0a : w.heap.size + 2 ≤ W0.heap.size := by omega
  have cX : W0.cell? ⟨w.heap.size + 1, 0, none⟩ = some (.int .i64 x) := by rw [cell_of_row W0 (w.heap.size + 1) 0 _ _ _ rX]; rfl
  have hpos := hG.2
  have b01 : Below W0.heap.size W0 (W0.alloc (.cells #[.int .i64 x] 2)) := (Below.refl _ _).alloc (Nat.le_refl _) _
  have h1 := codeAndWordsError_n ao S cap hn ac C capc hnc (some ⟨w.heap.size + 1 + 1, 0, none⟩) [x] 1 1 rfl (by omega) (W0.alloc (.cells #[.int .i64 x] 2)) ((hS.below B0).below b01) ((hC.below B0).below b01) (ints_new1 W0 x 2 (by omega))
  have B01 := B0.trans (b01.mono (by omega))
  have cS1 := kept_cell b01 cS (by omega)
  have cX1 := kept_cell b01 cX (by omega)
  have s01 : w.heap.size + 2 ≤ (W0.alloc (.cells #[.int .i64 x] 2)).heap.size := by simp; omega
  have HF := Lib.hid (And.intro cS1 (And.intro cX1 (And.intro B01 s01)))
  clear cS1 cX1 B01 s01 b01 cS cX B0 z0a
  by_cases hz : eCW S C [x] = 0
  · rw [hz] at h1
    have H1 := Lib.hid h1
    obtain ⟨hc0, hw0⟩ := eCW_zero hz
    have hxw := (eWords1 hw0).2
    have hlen := code_len0 hc0
    cases hlb : linB S C with
    | true =>
      obtain ⟨hP, hg⟩ := lin_gp hc0 hlb
      have HE : Hid (eNrW S C x = 0) := Lib.hid (by unfold eNrW; rw [if_pos hz, if_pos hlb])
      have HV : Hid (vNrW S C x = nrW S C x) := Lib.hid (by unfold vNrW; rw [if_pos HE.out])
      have HA := Lib.hid (fun (W : World) (h1 : Ints W ao S) (h2 : Ints W ac C) (h3 : w.heap.size + 1 < W.heap.size) (h4 : W.cell? ⟨w.heap.size + 1, 0, none⟩ = some (.int .i64 x)) => askLinear_yes ao S cap hn ac C capc hnc hc0 hlb 84 (enters_of Tryz.func84 (by kernel_rfl) rfl) #[] #[.pointer (some ⟨w.heap.size + 1, 0, none⟩)] (nrW S C x) W h1 h2 (nearest_fun (w.heap.size + 1) ao S cap ac C capc hP hg hlen x hxw W h3 h4 h1 h2))
      clear hW0 z0 h1 hz hc0 hw0 hxw hP hg rX
      go_enter Tryz.func32, Tryz.ntmps32
      go_wp2_with fail
      rw [← HW0.out]
      refine H1.out.mono ?_
      rintro e w2 ⟨rfl, hb2⟩
      obtain ⟨cS1, cX1, B01, s01⟩ := HF.out
      have cS2 := kept_cell hb2 cS1 (by omega)
      have cX2 := kept_cell hb2 cX1 (by omega)
      have B3 := B01.trans (hb2.mono (by omega))
      have s2 := hb2.size
      clear hb2 cS1 cX1 B01 H1
      go_wp2_with fail
      refine (HA.out w2 (hS.below B3) (hC.below B3) (by omega) cX2).mono ?_
      rintro e w4 ⟨rfl, hb4⟩
      go_wp2_with fail
      go_ret2
      exact ⟨by rw [HE.out, HV.out]; rfl, B3.trans (hb4.mono (by omega))⟩
    | false =>
      have HE : Hid (eNrW S C x = 5) := Lib.hid (by unfold eNrW; rw [if_pos hz, if_neg (by rw [hlb]; decide)])
      have HV : Hid (vNrW S C x = 0) := Lib.hid (by unfold vNrW; rw [if_neg (by rw [HE.out]; decide)])
      have HA := Lib.hid (fun (W : World) (h1 : Ints W ao S) (h2 : Ints W ac C) (h3 : Glob pv W) => askLinear_no ao S cap hn ac C capc hnc hc0 hlb 84 #[] #[.pointer (some ⟨w.heap.size + 1, 0, none⟩)] pv W h1 h2 h3)
      clear hW0 z0 h1 hz hc0 hw0 hxw rX
      go_enter Tryz.func32, Tryz.ntmps32
      go_wp2_with fail
      rw [← HW0.out]
      refine H1.out.mono ?_
      rintro e w2 ⟨rfl, hb2⟩
      obtain ⟨cS1, cX1, B01, s01⟩ := HF.out
      have cS2 := kept_cell hb2 cS1 (by omega)
      have cX2 := kept_cell hb2 cX1 (by omega)
      have B3 := B01.trans (hb2.mono (by omega))
      have s2 := hb2.size
      clear hb2 cS1 cX1 B01 H1
      go_wp2_with fail
      refine (HA.out w2 (hS.below B3) (hC.below B3) (hG.below B3 hpos)).mono ?_
      rintro e w4 ⟨rfl, hb4⟩
      go_wp2_with fail
      go_ret2
      exact ⟨by rw [HE.out, HV.out]; rfl, B3.trans (hb4.mono (by omega))⟩
  · have HE : Hid (eNrW S C x = eCW S C [x]) := Lib.hid (by unfold eNrW; rw [if_neg hz])
    have HV : Hid (vNrW S C x = 0) := Lib.hid (by unfold vNrW; rw [if_neg (by rw [HE.out]; exact hz)])
    have hzn : (eCW S C [x] != 0) = true := by simpa using hz
    have H1 := Lib.hid h1
    clear hW0 z0 h1 hz rX
    go_enter Tryz.func32, Tryz.ntmps32
    go_wp2_with fail
    rw [← HW0.out]
    refine H1.out.mono ?_
    rintro e w2 ⟨rfl, hb2⟩
    obtain ⟨cS1, cX1, B01, s01⟩ := HF.out
    go_wp2_with fail
    go_ret2
    exact ⟨by rw [HE.out, HV.out]; rfl, B01.trans (hb2.mono (by omega))⟩

end Go.Proofs.YtcnnijeokefboaaGreatDoor
