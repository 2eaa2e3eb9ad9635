/-
  The contracts of PrizeList. By an AI agent.
-/
import Derived.Test.YtecclcmndfaakaaHitI
import Derived.Test.YtecclcmndfaakaaErr2

namespace Go.Proofs.Ytecclcmndfaakaa
open Go.RowKit Cv
set_option linter.unusedVariables false
set_option linter.unusedSimpArgs false
set_option maxRecDepth 100000

theorem own_nilp (w : World) (base : Nat) : OwnInts w base (.slice none 0 0) [] := World.ownsRow_nil _ _ _ _
theorem pz_set (S C : List Int) (x : Int) (k D : Nat) (hD : dist S (gi C k) x = (D : Int)) : (pzTo S C x k).set D (gi (pzTo S C x k) D + 1) = pzTo S C x (k + 1) := by
  rw [pzTo, bump, hD]; simp

set_option maxHeartbeats 1000000 in
theorem impl_PrizeList (ao : Option Addr) (S : List Int) (cap : Nat) (hn : S.length ≤ 4294967296) (ac : Option Addr) (C : List Int) (capc : Nat) (hnc : C.length ≤ 4294967296) (x : Int) (hx : -9223372036854775808 ≤ x ∧ x ≤ 9223372036854775807) (w : World) (hS : Ints w ao S) (hC : Ints w ac C) :
    Calls Try.prog 50 #[.agg #[.slice ao S.length cap], .slice ac C.length capc, .int .i64 x] w fun e w' => ∃ v, e = .returned (.tuple #[v, .int .i64 (eCW S C [x])]) ∧ OwnInts w' w.heap.size v (vPz S C x) ∧ Below w.heap.size w w' := by
  obtain ⟨i0, hi, hz0, hz1, hz2⟩ := info_parts infoI64
  obtain ⟨W, hW⟩ : ∃ W, W = w.alloc (.cells #[.slice ao S.length cap] 28) := ⟨_, rfl⟩
  have hWs : W.heap.size = w.heap.size + 1 := by rw [hW]; simp
  have B0 : Below w.heap.size w W := by rw [hW]; go_grown
  have c0 : W.cell? ⟨w.heap.size, 0, none⟩ = some (.slice ao S.length cap) := by rw [hW]; exact cell_new _ _ _
  have l0 : w.heap.size < W.heap.size := by omega
  have HW := Lib.hid hW
  clear hW
  have hb0 : Below W.heap.size W (W.alloc (.cells #[.int .i64 x] 2)) := (Below.refl _ W).alloc (Nat.le_refl _) _
  have B0' : Below w.heap.size w (W.alloc (.cells #[.int .i64 x] 2)) := B0.trans (hb0.mono B0.size)
  have c0' := kept_cell hb0 c0 l0
  have l0' := lt_of_below hb0 l0
  have hIn := ints_new1 W x 2 hWs.symm
  clear hb0 c0 l0 B0
  by_cases hz : eCW S C [x] = 0
  · obtain ⟨hc, hw⟩ := eCW_zero hz
    obtain ⟨hSp, x1, x2⟩ := eWords1 hw
    obtain ⟨N1, N2⟩ := nW_bd hSp
    have hlen := code_len0 hc
    obtain ⟨_, hc1, _⟩ := eCode_zero hc
    have HC1 : Hid (∀ i, i < C.length → 0 ≤ gi C i ∧ gi C i ≤ 9223372036854775807) := Lib.hid fun i h => by have := hc1 i h; omega
    have HV : Hid (vPz S C x = pzTo S C x C.length) := Lib.hid (by unfold vPz; rw [if_pos hz])
    have HE := Lib.hid hz
    have hhi := hSp.hi
    have HSp := Lib.hid hSp
    have hzn : (eCW S C [x] != 0) = false := by simp [hz]
    clear hz hSp hc hw hc1
    go_enter Try.func50, Try.ntmps50
    go_wp2_with fail
    rw [← HW.out]
    refine (codeAndWordsError_n ao S cap hn ac C capc hnc _ [x] 1 _ rfl (by omega) _ (hS.below B0') (hC.below B0') hIn).mono ?_
    rintro e w0 ⟨rfl, hb⟩
    have c3 := kept_cell hb c0' l0'
    have l3 := lt_of_below hb l0'
    have B3 : Below w.heap.size w w0 := B0'.trans (hb.mono B0'.size)
    clear hb c0' l0' B0' hIn hWs
    go_wp2_with (at_make; refine wpList_make_full _ rfl _ _ 22 rfl w0.heap.size 2 i0 (.int .i64 0) 1 Try.underlying22 hi hz0 hz1 .i64 .i64 ((S.length : Int) + 1) ((S.length : Int) + 1) (S.length + 1) rfl rfl (by simp) (by simp) (by rw [hz2]; omega) (by unfold maxLen; omega) (by simp) ?_; intro w1 hown hgrow; have c1 := kept_cell (below_grown0 hgrow) c3 l3)
    have hb2 := below_grown0 hgrow
    have l1 := lt_of_below hb2 l3
    have B1 := B3.trans (hb2.mono B3.size)
    have sG := B3.size
    replace hown := own_made hown
    clear hgrow hb2 hi hz0 hz1 hz2 c3 l3 B3
    obtain ⟨G, hG⟩ : ∃ G, G = w0.heap.size := ⟨_, rfl⟩
    rw [← hG] at hown sG ⊢
    clear hG hzn
    have hGw := hown.base_le.2
    refine wp_region_held_drew (S := fun w' => w'.cell? ⟨w.heap.size, 0, none⟩ = some (.slice ao S.length cap)) (by kernel_rfl) c1 (fun hHeld => ?_)
    refine wpAnyH_take (i := 0) (v := ?_) rfl (by kernel_rfl) (by kernel_rfl) (by kernel_rfl) (fun _ _ _ h => h) (Or.inl ⟨by rfl, ?_⟩) (by assumption) ?_
    rotate_left
    · (intro w hSw; (try dsimp only at hSw); go_simp; try (with_reducible rfl))
    (try simp only [Act.put, List.setIfInBounds_toArray, List.set_cons_zero, List.set_cons_succ, List.getElem_toArray, List.getElem_cons_succ, List.getElem_cons_zero])
    refine wpAnyH_take (i := 1) (v := ?_) rfl (by kernel_rfl) (by kernel_rfl) (by kernel_rfl) (fun _ _ _ h => h) (Or.inl ⟨by rfl, ?_⟩) (by assumption) ?_
    rotate_left
    · (intro w hSw; (try dsimp only at hSw); go_simp; try (with_reducible rfl))
    (try simp only [Act.put, List.setIfInBounds_toArray, List.set_cons_zero, List.set_cons_succ, List.getElem_toArray, List.getElem_cons_succ, List.getElem_cons_zero])
    refine wpAnyH_take (i := 2) (v := ?_) rfl (by kernel_rfl) (by kernel_rfl) (by kernel_rfl) (fun _ _ _ h => h) (Or.inl ⟨by rfl, ?_⟩) (by assumption) ?_
    rotate_left
    · (intro w hSw; (try dsimp only at hSw); go_simp; try (with_reducible rfl))
    (try simp only [Act.put, List.setIfInBounds_toArray, List.set_cons_zero, List.set_cons_succ, List.getElem_toArray, List.getElem_cons_succ, List.getElem_cons_zero])
    refine wpAnyH_take (i := 4) (v := ?_) rfl (by kernel_rfl) (by kernel_rfl) (by kernel_rfl) (fun _ _ _ h => h) (Or.inl ⟨by rfl, ?_⟩) (by assumption) ?_
    rotate_left
    · (intro w hSw; (try dsimp only at hSw); go_simp; try (with_reducible rfl))
    (try simp only [Act.put, List.setIfInBounds_toArray, List.set_cons_zero, List.set_cons_succ, List.getElem_toArray, List.getElem_cons_succ, List.getElem_cons_zero])
    refine wpAnyH_take (i := 7) (v := ?_) rfl (by kernel_rfl) (by kernel_rfl) (by kernel_rfl) (fun _ _ _ h => h) (Or.inl ⟨by rfl, ?_⟩) (by assumption) ?_
    rotate_left
    · (intro w hSw; (try dsimp only at hSw); go_simp; try (with_reducible rfl))
    (try simp only [Act.put, List.setIfInBounds_toArray, List.set_cons_zero, List.set_cons_succ, List.getElem_toArray, List.getElem_cons_succ, List.getElem_cons_zero])
    refine wpAnyH_ready (rs := [3]) (by kernel_rfl) (by simp) ?_
    refine AllReadyH.cons rfl (fun K hK => ?_) AllReadyH.nil
    go_simp
    (go_at_call 75; refine (digitParts_n ao S cap HSp.out.lo hhi HSp.out.bd ac C C.length capc rfl (by omega) HC1.out _ (hS.below (B1.drew)) (hC.below (B1.drew))).mono ?_)
    rintro e w2 ⟨P, g, U, rfl, hp, hb⟩
    have BB : Below w1.heap.size w1 w2 := (Below.refl _ w1).drew.trans hb
    replace hown := hown.below BB
    refine hK.out _ _ (kept_cell BB c1 l1) (fun hHeld => ?_)
    clear hK K
    (try simp only [Act.put, List.setIfInBounds_toArray, List.set_cons_zero, List.set_cons_succ, List.getElem_toArray, List.getElem_cons_succ, List.getElem_cons_zero])
    refine wpAnyH_ready (rs := [5]) (by kernel_rfl) (by simp) ?_
    refine AllReadyH.cons rfl (fun K hK => ?_) AllReadyH.nil
    go_simp
    (go_at_call 79; refine (counted_1 ao S cap HSp.out _ P g C U C.length rfl (by omega) x x1 (by omega) _ (hS.below (B1.trans (BB.mono B1.size))) hp).mono ?_)
    rintro e w3 ⟨q, rfl, own, hb3⟩
    have BC : Below w1.heap.size w1 w3 := BB.trans (hb3.mono BB.size)
    replace hown := hown.below hb3
    refine hK.out _ _ (kept_cell BC c1 l1) (fun hHeld => ?_)
    clear hK K
    (try simp only [Act.put, List.setIfInBounds_toArray, List.set_cons_zero, List.set_cons_succ, List.getElem_toArray, List.getElem_cons_succ, List.getElem_cons_zero])
    refine wpAnyH_take (i := 6) (v := ?_) rfl (by kernel_rfl) (by kernel_rfl) (by kernel_rfl) (fun _ _ _ h => h) (Or.inl ⟨by rfl, ?_⟩) (by assumption) ?_
    rotate_left
    · (intro w hSw; (try dsimp only at hSw); go_simp; try (with_reducible rfl))
    (try simp only [Act.put, List.setIfInBounds_toArray, List.set_cons_zero, List.set_cons_succ, List.getElem_toArray, List.getElem_cons_succ, List.getElem_cons_zero])
    refine wpAnyH_done (by kernel_rfl) ?_ _
    (try simp only [Act.put, List.setIfInBounds_toArray, List.set_cons_zero, List.set_cons_succ, List.getElem_toArray, List.getElem_cons_succ, List.getElem_cons_zero])
    go_wp2_with fail
    have hqG : G < q := by have h1 := own.base_le.1; have h2 := BB.size; omega
    have hYs : w1.heap.size ≤ w2.heap.size := BB.size
    have B4 := B1.trans (BC.mono B1.size)
    clear BB BC hb hb3 c1 B1 hp
    go_loopw [32] (fun i wr => ∃ k : Nat, k ≤ C.length ∧ i = .int .i64 k ∧ OwnInts wr G (.slice (some ⟨G, 0, none⟩) (S.length + 1) (S.length + 1)) (pzTo S C x k) ∧ OwnInts wr (G + 1) (.slice (some ⟨q, 0, none⟩) C.length C.length) (msL S C x) ∧ Below w.heap.size w wr) (fun i _ => C.length - (intOf i).toNat)
    case atStart => exact ⟨0, Nat.zero_le _, rfl, hown, own.rebase (by omega), B4⟩
    case round =>
      clear hown own B4
      obtain ⟨k, hk, rfl, hown, own, B⟩ := hrel
      by_cases hlt : k < C.length
      · have hqk := own.cell (k := k) (by simp [msL]; exact hlt)
        rw [msL, gi_mapI _ _ _ hlt] at hqk
        obtain ⟨d0, d1⟩ := dist_bd S (gi C k) x
        obtain ⟨D, hD⟩ : ∃ D : Nat, dist S (gi C k) x = (D : Int) := ⟨_, (Int.toNat_of_nonneg d0).symm⟩
        rw [hD] at d0 d1 hqk
        have HL := Lib.hid (pz_set S C x k D hD)
        have hDl : D < S.length + 1 := by omega
        have hD1 : (D : Int) < (S.length : Int) + 1 := by omega
        obtain ⟨s1, s2⟩ := pzTo_bd S C x k D
        have hcell := hown.cell (k := D) (by rw [pzTo_len]; exact hDl)
        have hfree := hown.free D
        obtain ⟨y, hy⟩ : ∃ y, y = gi (pzTo S C x k) D := ⟨_, rfl⟩
        rw [← hy] at s1 s2 hcell HL
        have EW : IntKind.i64.wrap (y + 1) = y + 1 := IntWalk.i64_in _ ⟨by omega, by omega⟩
        clear hD hy
        go_wp2_with fail
        go_roundw
        case rel => exact ⟨k + 1, by omega, by go_num, by rw [← HL.out]; exact hown.stored D _, own.setBelow (by simp) _, B.setCell (by simp; omega) _⟩
        case measure => simp [intOf]; omega
      · have ek : Hid (k = C.length) := Lib.hid (by omega)
        go_wp2_with fail
        go_ret2
        exact ⟨_, by rw [HE.out]; rfl, by rw [HV.out, ← ek.out]; exact hown.rebase (by omega), B⟩
  · have HV : Hid (vPz S C x = []) := Lib.hid (by unfold vPz; rw [if_neg hz])
    have hzn : (eCW S C [x] != 0) = true := by simpa using hz
    clear hz hi hz0 hz1 hz2
    go_enter Try.func50, Try.ntmps50
    go_wp2_with fail
    rw [← HW.out]
    refine (codeAndWordsError_n ao S cap hn ac C capc hnc _ [x] 1 _ rfl (by omega) _ (hS.below B0') (hC.below B0') hIn).mono ?_
    rintro e w1 ⟨rfl, hb⟩
    go_wp2_with fail
    go_ret2
    exact ⟨_, rfl, by rw [HV.out]; exact own_nilp _ _, B0'.trans (hb.mono B0'.size)⟩

end Go.Proofs.Ytecclcmndfaakaa
