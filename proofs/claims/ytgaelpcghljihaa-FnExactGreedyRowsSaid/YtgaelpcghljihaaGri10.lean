/-
  The program's GreedyRows. By an AI agent.
-/
import Derived.Test.YtgaelpcghljihaaGuB
import Derived.Test.YtgaelpcghljihaaRer10
import Derived.Test.YtgaelpcghljihaaAllW
namespace Go.Proofs.Ytgaelpcghljihaa
open Go.RowKit Cv
set_option linter.unusedVariables false
set_option linter.unusedSimpArgs false
set_option maxRecDepth 100000

theorem OwnSets.rebase_gu {w : World} {base base' : Nat} {v : Value} {ps : List (Nat → Bool)} (h : OwnSets w base v ps) (hb : base' ≤ base) : OwnSets w base' v ps := by
  obtain ⟨h1, h2⟩ := h
  refine ⟨h1, ?_⟩
  rcases h2 with h2 | ⟨g, cap, cur, hv, hg, r⟩
  · exact Or.inl h2
  · exact Or.inr ⟨g, cap, cur, hv, by omega, r⟩
theorem chmem_gu {w : World} {ao : Option Addr} {n cap gx g nF cF base base' N : Nat} {C : List (List Int)} {t : Nat} (hN : N = C.length) (hC : ∀ c, c ∈ C → c.length = 2 * t) (hX : OwnXs w base (.slice (some ⟨gx, 0, none⟩) N N) (chL ao n cap g t N)) (hF : OwnInts w base' (.slice (some ⟨g, 0, none⟩) nF cF) C.flatten) : ChMem w ao n cap gx C t :=
  ChMem.all hN hC hX hF fun k j hk hj => ⟨by
    rw [flat_lenC hC]
    have := Nat.mul_le_mul_right (2 * t) (show k + 1 ≤ C.length from hk)
    rw [Nat.succ_mul] at this; omega, gi_flat k j hC hk hj⟩
theorem ints_of_own {w : World} {base q n c : Nat} {L : List Int} (hn : L.length = n) (h : OwnInts w base (.slice (some ⟨q, 0, none⟩) n c) L) : Ints w (some ⟨q, 0, none⟩) L := by
  subst hn
  obtain ⟨a, c', e, hi⟩ := h.ints
  simp only [Value.slice.injEq] at e
  rw [e.1]; exact hi
theorem ret_gu {v : Value} {x y : Int} (h : x = y) : Ending.returned (.tuple #[v, .int .i64 x]) = Ending.returned (.tuple #[v, .int .i64 y]) := by rw [h]

set_option maxHeartbeats 4000000 in
theorem impl_GreedyRows (ao : Option Addr) (S : List Int) (cap : Nat) (hn : S.length ≤ 4294967296) (t : Int) (ht : -9223372036854775808 ≤ t ∧ t ≤ 9223372036854775807) (w : World) (hS : Ints w ao S) :
    Calls Try.prog 32 #[.agg #[.slice ao S.length cap], .int .i64 t] w fun e w' => ∃ v, e = .returned (.tuple #[v, .int .i64 (eGu S t)]) ∧ OwnInts w' w.heap.size v (vGu S t) ∧ Below w.heap.size w w' := by
  have B0 : Below w.heap.size w (w.alloc (.cells #[.slice ao S.length cap] 24)) := by go_grown
  have c0 := cell_new w (.slice ao S.length cap) 24
  have l0 := lt_alloc w (.cells #[.slice ao S.length cap] 24)
  have hc := rowsError_any ao S cap hn none [] 0 (by simp) t _ (hS.below B0) (Or.inl rfl)
  rw [show ([] : List Int).length = 0 from rfl, eR10_nilG] at hc
  by_cases he : eC10 S t = 0
  case neg =>
    have HV : Hid (vGu S t = [] ∧ eGu S t = eC10 S t) := Lib.hid (by unfold vGu eGu; rw [if_neg he, if_neg he]; exact ⟨rfl, rfl⟩)
    obtain ⟨E, hE⟩ : ∃ E, E = eC10 S t := ⟨_, rfl⟩
    rw [← hE] at hc he HV
    have hb : (E != 0) = true := by simpa using he
    clear hE he
    go_enter Try.func32, Try.ntmps32
    go_wp2_with fail
    refine hc.mono ?_
    rintro e w1 ⟨rfl, hb1⟩
    have B1 := B0.trans (hb1.mono B0.size)
    go_wp2_with fail
    go_ret2
    exact ⟨_, ret_gu HV.out.2.symm, by rw [HV.out.1]; exact World.ownsRow_nil _ _ _ _, B1⟩
  obtain ⟨hSp, g1, g2, g3⟩ := eC10_zero he
  have HSp := Lib.hid hSp
  have HV : Hid (vGu S t = upV (psG S (allC S t.toNat) (nW S).toNat) (nW S).toNat 200 ∧ eGu S t = upE (psG S (allC S t.toNat) (nW S).toNat) (nW S).toNat 200) := Lib.hid (by unfold vGu eGu; rw [if_pos he, if_pos he]; exact ⟨rfl, rfl⟩)
  rw [he] at hc
  clear he
  obtain ⟨t, rfl⟩ : ∃ n : Nat, t = n := ⟨t.toNat, by omega⟩
  rw [Int.toNat_natCast] at HV
  obtain ⟨N1, N2⟩ := nW_bd hSp
  obtain ⟨N, hN⟩ : ∃ N : Nat, nW S = (N : Int) := ⟨(nW S).toNat, by omega⟩
  rw [hN, Int.toNat_natCast] at HV
  have ht1 : 0 < t := by omega
  have ht3 : t ≤ 3 := by omega
  have hC832 := allC_le hSp ht1 ht3
  have HCc : Hid (IsCs S.length t (allC S t)) := Lib.hid (allC_cs t)
  have HCf : Hid (∀ c, c ∈ allC S t → c.length = 2 * t) := Lib.hid (allC_len2 S t)
  have HCH := Lib.hid fun w hS => choicesOf_any ao S cap hSp t ht1 ht3 w hS
  have HAW := Lib.hid fun w hS => allWords_any ao S cap hSp N (Lib.hid hN) w hS
  have HU : Hid ((upto N).length = N) := Lib.hid (upto_len N)
  obtain ⟨C, hC⟩ : ∃ C, C = allC S t := ⟨_, rfl⟩
  rw [← hC] at HV hC832 HCc HCf HCH
  have HCS : Hid (∀ q gx w, Ints w ao S → Ints w (some ⟨q, 0, none⟩) (upto N) → ChMem w ao S.length cap gx C t → Calls Try.prog 77 #[.agg #[.slice ao S.length cap], .slice (some ⟨q, 0, none⟩) N N, .slice (some ⟨gx, 0, none⟩) C.length C.length] w fun e w' => ∃ g, e = .returned (.slice (some ⟨g, 0, none⟩) N N) ∧ OwnSets w' w.heap.size (.slice (some ⟨g, 0, none⟩) N N) (psG S C N) ∧ Below w.heap.size w w') := Lib.hid fun q gx w hS hRI hCM => by
    have h := choiceSets_any ao S cap hSp (some ⟨q, 0, none⟩) (upto N) N (by rw [upto_len]; omega) (fun i hi => by rw [upto_len] at hi; rw [gi_upto _ _ hi]; omega) gx C.length S.length cap t ao C ht1 ht3 (by omega) HCc.out w hS hRI hCM
    rw [upto_len] at h
    exact h
  have HGU : Hid (∀ g w, OwnSets w 0 (.slice (some ⟨g, 0, none⟩) N N) (psG S C N) → Calls Try.prog 76 #[.slice (some ⟨g, 0, none⟩) N N, .int .i64 200] w fun e w' => ∃ v, e = .returned (.tuple #[v, .int .i64 (upE (psG S C N) N 200)]) ∧ OwnInts w' w.heap.size v (upV (psG S C N) N 200) ∧ Below w.heap.size w w') := Lib.hid fun g w hO => greedyUpTo_any 0 g N N (psG S C N) (psG_len S C N).symm (by omega) (by omega) (psG_bd S C N (by omega)) 200 (by omega) w hO
  obtain ⟨NC, hNC⟩ : ∃ NC, NC = C.length := ⟨_, rfl⟩
  have HCN := Lib.hid hNC
  rw [← hNC] at HCH HCS hC832
  obtain ⟨PS, hPS⟩ : ∃ PS, PS = psG S C N := ⟨_, rfl⟩
  rw [← hPS] at HCS HGU HV
  obtain ⟨UV, hUV⟩ : ∃ UV, UV = upV PS N 200 := ⟨_, rfl⟩
  obtain ⟨UE, hUE⟩ : ∃ UE, UE = upE PS N 200 := ⟨_, rfl⟩
  rw [← hUV, ← hUE] at HGU HV
  clear hSp hC hNC hPS hUV hUE hN N1 N2
  go_enter Try.func32, Try.ntmps32
  go_wp2_with fail
  refine hc.mono ?_
  rintro e w1 ⟨rfl, hb1⟩
  have c1 := kept_cell hb1 c0 l0
  have l1 := lt_of_below hb1 l0
  have B1 := B0.trans (hb1.mono B0.size)
  clear hc c0 l0 B0 hb1
  go_wp2_with fail
  refine wp_region_held_drew (S := fun w' => w'.cell? ⟨w.heap.size, 0, none⟩ = some (.slice ao S.length cap)) (by kernel_rfl) (c1) (fun hHeld => ?_)
  refine wpAnyH_take (i := 0) (v := ?_) rfl (by kernel_rfl) (by kernel_rfl) (by kernel_rfl) (fun _ _ _ h => h) (Or.inl ⟨by rfl, ?_⟩) (by assumption) ?_
  rotate_left
  · (intro w hSw; obtain hSw := hSw; (try dsimp only at hSw); go_simp; try (with_reducible rfl))
  (try simp only [Act.put, List.setIfInBounds_toArray, List.set_cons_zero, List.set_cons_succ, List.getElem_toArray, List.getElem_cons_succ, List.getElem_cons_zero])
  refine wpAnyH_take (i := 1) (v := ?_) rfl (by kernel_rfl) (by kernel_rfl) (by kernel_rfl) (fun _ _ _ h => h) (Or.inl ⟨by rfl, ?_⟩) (by assumption) ?_
  rotate_left
  · (intro w hSw; obtain hSw := hSw; (try dsimp only at hSw); go_simp; try (with_reducible rfl))
  (try simp only [Act.put, List.setIfInBounds_toArray, List.set_cons_zero, List.set_cons_succ, List.getElem_toArray, List.getElem_cons_succ, List.getElem_cons_zero])
  refine wpAnyH_take (i := 3) (v := ?_) rfl (by kernel_rfl) (by kernel_rfl) (by kernel_rfl) (fun _ _ _ h => h) (Or.inl ⟨by rfl, ?_⟩) (by assumption) ?_
  rotate_left
  · (intro w hSw; obtain hSw := hSw; (try dsimp only at hSw); go_simp; try (with_reducible rfl))
  (try simp only [Act.put, List.setIfInBounds_toArray, List.set_cons_zero, List.set_cons_succ, List.getElem_toArray, List.getElem_cons_succ, List.getElem_cons_zero])
  refine wpAnyH_take (i := 4) (v := ?_) rfl (by kernel_rfl) (by kernel_rfl) (by kernel_rfl) (fun _ _ _ h => h) (Or.inl ⟨by rfl, ?_⟩) (by assumption) ?_
  rotate_left
  · (intro w hSw; obtain hSw := hSw; (try dsimp only at hSw); go_simp; try (with_reducible rfl))
  (try simp only [Act.put, List.setIfInBounds_toArray, List.set_cons_zero, List.set_cons_succ, List.getElem_toArray, List.getElem_cons_succ, List.getElem_cons_zero])
  refine wpAnyH_ready (rs := [2]) (by kernel_rfl) (by simp) ?_
  refine AllReadyH.cons rfl (fun K hK => ?_) AllReadyH.nil
  go_simp
  (go_at_call 78; refine (HAW.out _ ((hS.below B1).below (Below.refl w1.heap.size w1).drew)).mono ?_)
  rintro e x1 ⟨q1, rfl, oQ1, hb1⟩
  have H1 : Below w1.heap.size w1 x1 := Below.trans (Below.refl w1.heap.size w1).drew (hb1.mono (Below.size (Below.refl w1.heap.size w1).drew))
  refine hK.out _ _ (kept_cell H1 c1 l1) (fun hHeld => ?_)
  clear hK K
  (try simp only [Act.put, List.setIfInBounds_toArray, List.set_cons_zero, List.set_cons_succ, List.getElem_toArray, List.getElem_cons_succ, List.getElem_cons_zero])
  refine wpAnyH_ready (rs := [5]) (by kernel_rfl) (by simp) ?_
  refine AllReadyH.cons rfl (fun K hK => ?_) AllReadyH.nil
  go_simp
  (go_at_call 79; refine (HCH.out _ ((hS.below B1).below H1)).mono ?_)
  rintro e x2 ⟨gx2, g2, nF2, cF2, rfl, oX2, oF2, hb2⟩
  have H2 : Below w1.heap.size w1 x2 := Below.trans H1 (hb2.mono (Below.size H1))
  replace oQ1 := oQ1.below hb2
  have hcm2 := chmem_gu HCN.out HCf.out oX2 oF2
  refine hK.out _ _ (kept_cell H2 c1 l1) (fun hHeld => ?_)
  clear hK K
  (try simp only [Act.put, List.setIfInBounds_toArray, List.set_cons_zero, List.set_cons_succ, List.getElem_toArray, List.getElem_cons_succ, List.getElem_cons_zero])
  refine wpAnyH_ready (rs := [6]) (by kernel_rfl) (by simp) ?_
  refine AllReadyH.cons rfl (fun K hK => ?_) AllReadyH.nil
  go_simp
  (go_at_call 77; refine (HCS.out _ gx2 _ ((hS.below B1).below H2) (ints_of_own HU.out oQ1) hcm2).mono ?_)
  rintro e x3 ⟨gs3, rfl, oS3, hb3⟩
  have H3 : Below w1.heap.size w1 x3 := Below.trans H2 (hb3.mono (Below.size H2))
  replace oQ1 := oQ1.below hb3
  replace hcm2 := hcm2.below hb3
  refine hK.out _ _ (kept_cell H3 c1 l1) (fun hHeld => ?_)
  clear hK K
  (try simp only [Act.put, List.setIfInBounds_toArray, List.set_cons_zero, List.set_cons_succ, List.getElem_toArray, List.getElem_cons_succ, List.getElem_cons_zero])
  refine wpAnyH_ready (rs := [7]) (by kernel_rfl) (by simp) ?_
  refine AllReadyH.cons rfl (fun K hK => ?_) AllReadyH.nil
  go_simp
  (go_at_call 76; refine (HGU.out _ _ (oS3.rebase_gu (base' := 0) (Nat.zero_le _))).mono ?_)
  rintro e x4 ⟨vn4, rfl, oN4, hb4⟩
  have H4 : Below w1.heap.size w1 x4 := Below.trans H3 (hb4.mono (Below.size H3))
  replace oQ1 := oQ1.below hb4
  replace hcm2 := hcm2.below hb4
  replace oS3 := oS3.below hb4
  replace oN4 := oN4.rebase (base' := w1.heap.size) (Below.size H3)
  refine hK.out _ _ (kept_cell H4 c1 l1) (fun hHeld => ?_)
  clear hK K
  (try simp only [Act.put, List.setIfInBounds_toArray, List.set_cons_zero, List.set_cons_succ, List.getElem_toArray, List.getElem_cons_succ, List.getElem_cons_zero])
  refine wpAnyH_take (i := 8) (v := ?_) rfl (by kernel_rfl) (by kernel_rfl) (by kernel_rfl) (fun _ _ _ h => h) (Or.inl ⟨by rfl, ?_⟩) (by assumption) ?_
  rotate_left
  · (intro w hSw; obtain hSw := hSw; (try dsimp only at hSw); go_simp; try (with_reducible rfl))
  (try simp only [Act.put, List.setIfInBounds_toArray, List.set_cons_zero, List.set_cons_succ, List.getElem_toArray, List.getElem_cons_succ, List.getElem_cons_zero])
  refine wpAnyH_take (i := 9) (v := ?_) rfl (by kernel_rfl) (by kernel_rfl) (by kernel_rfl) (fun _ _ _ h => h) (Or.inl ⟨by rfl, ?_⟩) (by assumption) ?_
  rotate_left
  · (intro w hSw; obtain hSw := hSw; (try dsimp only at hSw); go_simp; try (with_reducible rfl))
  (try simp only [Act.put, List.setIfInBounds_toArray, List.set_cons_zero, List.set_cons_succ, List.getElem_toArray, List.getElem_cons_succ, List.getElem_cons_zero])
  refine wpAnyH_take (i := 10) (v := ?_) rfl (by kernel_rfl) (by kernel_rfl) (by kernel_rfl) (fun _ _ _ h => h) (Or.inl ⟨by rfl, ?_⟩) (by assumption) ?_
  rotate_left
  · (intro w hSw; obtain hSw := hSw; (try dsimp only at hSw); go_simp; try (with_reducible rfl))
  (try simp only [Act.put, List.setIfInBounds_toArray, List.set_cons_zero, List.set_cons_succ, List.getElem_toArray, List.getElem_cons_succ, List.getElem_cons_zero])
  refine wpAnyH_take (i := 11) (v := ?_) rfl (by kernel_rfl) (by kernel_rfl) (by kernel_rfl) (fun _ _ _ h => h) (Or.inl ⟨by rfl, ?_⟩) (by assumption) ?_
  rotate_left
  · (intro w hSw; obtain hSw := hSw; (try dsimp only at hSw); go_simp; try (with_reducible rfl))
  (try simp only [Act.put, List.setIfInBounds_toArray, List.set_cons_zero, List.set_cons_succ, List.getElem_toArray, List.getElem_cons_succ, List.getElem_cons_zero])
  refine wpAnyH_done (by kernel_rfl) ?_ _
  (try simp only [Act.put, List.setIfInBounds_toArray, List.set_cons_zero, List.set_cons_succ, List.getElem_toArray, List.getElem_cons_succ, List.getElem_cons_zero])
  have Hn : Below w1.heap.size w1 x4 := H4
  have oZ := oN4
  obtain ⟨wZ, hwZ⟩ : ∃ z, z = x4 := ⟨_, rfl⟩
  rw [← hwZ] at Hn oZ ⊢
  clear hwZ hHeld
  have BZ := B1.trans (Hn.mono B1.size)
  have hw1 : w.heap.size ≤ w1.heap.size := B1.size
  go_wp2_with fail
  go_ret2
  exact ⟨_, ret_gu HV.out.2.symm, by rw [HV.out.1]; exact oZ.rebase hw1, BZ⟩

end Go.Proofs.Ytgaelpcghljihaa
