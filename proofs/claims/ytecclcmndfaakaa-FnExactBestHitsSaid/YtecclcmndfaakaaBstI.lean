/-
  The contracts of BestHits. By an AI agent.
-/
import Derived.Test.YtecclcmndfaakaaHitI
import Derived.Test.YtecclcmndfaakaaErr2
import Derived.Test.YtecclcmndfaakaaCtM
namespace Go.Proofs.Ytecclcmndfaakaa
open Go.RowKit Cv
set_option linter.unusedVariables false
set_option linter.unusedSimpArgs false
set_option maxRecDepth 100000

theorem max_K (al : Option Addr) (L : List Int) (K cap : Nat) (hK : K = L.length) (h1 : 1 ≤ K) (hl : K ≤ 1048576) (hL : ∀ i, i < L.length → 0 ≤ gi L i ∧ gi L i ≤ 9223372036854775807) (w : World) (h : Ints w al L) :
    Calls Try.prog 81 #[.slice al K cap] w fun e w' => e = .returned (.int .i64 (mxTo L (L.length - 1))) ∧ w' = w := by
  subst hK; exact max_any al L cap h1 hl hL w h
theorem eBest_zero {S C : List Int} {x : Int} (h : eBest S C x = 0) : eCode S C = 0 ∧ eWords S [x] = 0 ∧ 0 < C.length := by
  unfold eBest eSome at h
  split at h
  · cases h
  · rename_i hn
    obtain ⟨h1, h2⟩ := eCW_zero h
    exact ⟨h1, h2, Nat.pos_of_ne_zero fun e => hn ⟨h, e⟩⟩

set_option maxHeartbeats 1000000 in
theorem impl_BestHits (ao : Option Addr) (S : List Int) (cap : Nat) (hn : S.length ≤ 4294967296) (ac : Option Addr) (C : List Int) (capc : Nat) (hnc : C.length ≤ 4294967296) (x : Int) (hx : -9223372036854775808 ≤ x ∧ x ≤ 9223372036854775807) (w : World) (hS : Ints w ao S) (hC : Ints w ac C) :
    Calls Try.prog 48 #[.agg #[.slice ao S.length cap], .slice ac C.length capc, .int .i64 x] w fun e w' => e = .returned (.tuple #[.int .i64 (vBest S C x), .int .i64 (eBest S C x)]) ∧ Below w.heap.size w w' := by
  obtain ⟨W, hW⟩ : ∃ W, W = w.alloc (.cells #[.slice ao S.length cap] 28) := ⟨_, rfl⟩
  have hWs : W.heap.size = w.heap.size + 1 := by rw [hW]; simp
  have B0 : Below w.heap.size w W := by rw [hW]; go_grown
  have c0 : W.cell? ⟨w.heap.size, 0, none⟩ = some (.slice ao S.length cap) := by rw [hW]; exact cell_new _ _ _
  have l0 : w.heap.size < W.heap.size := by omega
  have HW := Lib.hid hW
  clear hW
  have hb0 : Below W.heap.size W (W.alloc (.cells #[.int .i64 x] 2)) := (Below.refl _ W).alloc (Nat.le_refl _) _
  have B0' : Below w.heap.size w (W.alloc (.cells #[.int .i64 x] 2)) := B0.trans (hb0.mono B0.size)
  have c0' := kept_cell hb0 c0 l0
  have l0' := lt_of_below hb0 l0
  have hIn := ints_new1 W x 2 hWs.symm
  clear hb0 c0 l0 B0
  by_cases hz : eBest S C x = 0
  · obtain ⟨hc, hw, hl1⟩ := eBest_zero hz
    obtain ⟨hSp, x1, x2⟩ := eWords1 hw
    obtain ⟨N1, N2⟩ := nW_bd hSp
    have hlen := code_len0 hc
    obtain ⟨_, hc1, _⟩ := eCode_zero hc
    have HC1 : Hid (∀ i, i < C.length → 0 ≤ gi C i ∧ gi C i ≤ 9223372036854775807) := Lib.hid fun i h => by have := hc1 i h; omega
    have HV : Hid (vBest S C x = bsTo S C x C.length) := Lib.hid (by unfold vBest; rw [if_pos hz])
    have HE := Lib.hid hz
    have hhi := hSp.hi
    have HMB : Hid (∀ i, i < (htL S C x).length → 0 ≤ gi (htL S C x) i ∧ gi (htL S C x) i ≤ 9223372036854775807) := Lib.hid fun i hi => by
      rw [htL, List.length_map] at hi
      have := hitW_bd S (gi C i) x
      rw [htL, gi_mapI _ _ _ hi]; omega
    have HMX : Hid (bsTo S C x C.length = mxTo (htL S C x) ((htL S C x).length - 1)) := Lib.hid (by
      have hm := mx_bs (S := S) (C := C) (x := x) (fun j hj => (hitW_bd S (gi C j) x).1) (C.length - 1) (by omega)
      rw [show (htL S C x).length = C.length by simp [htL], hm, show C.length - 1 + 1 = C.length by omega])
    have HSp := Lib.hid hSp
    have hzn : (eSome S C [x] != 0) = false := by
      have : eSome S C [x] = 0 := hz
      simp [this]
    clear hz hSp hc hw hc1
    go_enter Try.func48, Try.ntmps48
    go_wp2_with fail
    rw [← HW.out]
    refine (someWordsError_n ao S cap hn ac C capc hnc _ [x] 1 _ rfl (by omega) _ (hS.below B0') (hC.below B0') hIn).mono ?_
    rintro e w1 ⟨rfl, hb⟩
    have c1 := kept_cell hb c0' l0'
    have l1 := lt_of_below hb l0'
    have B1 : Below w.heap.size w w1 := B0'.trans (hb.mono B0'.size)
    clear hb c0' l0' B0' hIn
    go_wp2_with fail
    refine wp_region_held_drew (S := fun w' => w'.cell? ⟨w.heap.size, 0, none⟩ = some (.slice ao S.length cap)) (by kernel_rfl) c1 (fun hHeld => ?_)
    refine wpAnyH_take (i := 0) (v := ?_) rfl (by kernel_rfl) (by kernel_rfl) (by kernel_rfl) (fun _ _ _ h => h) (Or.inl ⟨by rfl, ?_⟩) (by assumption) ?_
    rotate_left
    · (intro w hSw; (try dsimp only at hSw); go_simp; try (with_reducible rfl))
    (try simp only [Act.put, List.setIfInBounds_toArray, List.set_cons_zero, List.set_cons_succ, List.getElem_toArray, List.getElem_cons_succ, List.getElem_cons_zero])
    refine wpAnyH_take (i := 1) (v := ?_) rfl (by kernel_rfl) (by kernel_rfl) (by kernel_rfl) (fun _ _ _ h => h) (Or.inl ⟨by rfl, ?_⟩) (by assumption) ?_
    rotate_left
    · (intro w hSw; (try dsimp only at hSw); go_simp; try (with_reducible rfl))
    (try simp only [Act.put, List.setIfInBounds_toArray, List.set_cons_zero, List.set_cons_succ, List.getElem_toArray, List.getElem_cons_succ, List.getElem_cons_zero])
    refine wpAnyH_take (i := 2) (v := ?_) rfl (by kernel_rfl) (by kernel_rfl) (by kernel_rfl) (fun _ _ _ h => h) (Or.inl ⟨by rfl, ?_⟩) (by assumption) ?_
    rotate_left
    · (intro w hSw; (try dsimp only at hSw); go_simp; try (with_reducible rfl))
    (try simp only [Act.put, List.setIfInBounds_toArray, List.set_cons_zero, List.set_cons_succ, List.getElem_toArray, List.getElem_cons_succ, List.getElem_cons_zero])
    refine wpAnyH_take (i := 4) (v := ?_) rfl (by kernel_rfl) (by kernel_rfl) (by kernel_rfl) (fun _ _ _ h => h) (Or.inl ⟨by rfl, ?_⟩) (by assumption) ?_
    rotate_left
    · (intro w hSw; (try dsimp only at hSw); go_simp; try (with_reducible rfl))
    (try simp only [Act.put, List.setIfInBounds_toArray, List.set_cons_zero, List.set_cons_succ, List.getElem_toArray, List.getElem_cons_succ, List.getElem_cons_zero])
    refine wpAnyH_ready (rs := [3]) (by kernel_rfl) (by simp) ?_
    refine AllReadyH.cons rfl (fun K hK => ?_) AllReadyH.nil
    go_simp
    (go_at_call 75; refine (digitParts_n ao S cap HSp.out.lo hhi HSp.out.bd ac C C.length capc rfl (by omega) HC1.out _ (hS.below (B1.drew)) (hC.below (B1.drew))).mono ?_)
    rintro e w2 ⟨P, g, U, rfl, hp, hb⟩
    have BB : Below w1.heap.size w1 w2 := (Below.refl _ w1).drew.trans hb
    refine hK.out _ _ (kept_cell BB c1 l1) (fun hHeld => ?_)
    clear hK K
    (try simp only [Act.put, List.setIfInBounds_toArray, List.set_cons_zero, List.set_cons_succ, List.getElem_toArray, List.getElem_cons_succ, List.getElem_cons_zero])
    refine wpAnyH_ready (rs := [5]) (by kernel_rfl) (by simp) ?_
    refine AllReadyH.cons rfl (fun K hK => ?_) AllReadyH.nil
    go_simp
    (go_at_call 79; refine (counted_0 ao S cap HSp.out _ P g C U C.length rfl (by omega) x x1 (by omega) _ (hS.below (B1.trans (BB.mono B1.size))) hp).mono ?_)
    rintro e w3 ⟨q, rfl, own, hb3⟩
    have BC : Below w1.heap.size w1 w3 := BB.trans (hb3.mono BB.size)
    refine hK.out _ _ (kept_cell BC c1 l1) (fun hHeld => ?_)
    clear hK K
    (try simp only [Act.put, List.setIfInBounds_toArray, List.set_cons_zero, List.set_cons_succ, List.getElem_toArray, List.getElem_cons_succ, List.getElem_cons_zero])
    refine wpAnyH_ready (rs := [6]) (by kernel_rfl) (by simp) ?_
    refine AllReadyH.cons rfl (fun K hK => ?_) AllReadyH.nil
    go_simp
    (go_at_call 81; refine (max_K _ (htL S C x) C.length C.length (by simp [htL]) hl1 (by omega) HMB.out _ (own_ints own)).mono ?_)
    rintro e w4 ⟨rfl, rfl⟩
    refine hK.out _ _ (kept_cell BC c1 l1) (fun hHeld => ?_)
    clear hK K
    (try simp only [Act.put, List.setIfInBounds_toArray, List.set_cons_zero, List.set_cons_succ, List.getElem_toArray, List.getElem_cons_succ, List.getElem_cons_zero])
    refine wpAnyH_take (i := 7) (v := ?_) rfl (by kernel_rfl) (by kernel_rfl) (by kernel_rfl) (fun _ _ _ h => h) (Or.inl ⟨by rfl, ?_⟩) (by assumption) ?_
    rotate_left
    · (intro w hSw; (try dsimp only at hSw); go_simp; try (with_reducible rfl))
    (try simp only [Act.put, List.setIfInBounds_toArray, List.set_cons_zero, List.set_cons_succ, List.getElem_toArray, List.getElem_cons_succ, List.getElem_cons_zero])
    refine wpAnyH_take (i := 8) (v := ?_) rfl (by kernel_rfl) (by kernel_rfl) (by kernel_rfl) (fun _ _ _ h => h) (Or.inl ⟨by rfl, ?_⟩) (by assumption) ?_
    rotate_left
    · (intro w hSw; (try dsimp only at hSw); go_simp; try (with_reducible rfl))
    (try simp only [Act.put, List.setIfInBounds_toArray, List.set_cons_zero, List.set_cons_succ, List.getElem_toArray, List.getElem_cons_succ, List.getElem_cons_zero])
    refine wpAnyH_done (by kernel_rfl) ?_ _
    (try simp only [Act.put, List.setIfInBounds_toArray, List.set_cons_zero, List.set_cons_succ, List.getElem_toArray, List.getElem_cons_succ, List.getElem_cons_zero])
    go_wp2_with fail
    go_ret2
    exact ⟨ret_iih (by rw [HV.out, HMX.out]) HE.out.symm, B1.trans (BC.mono B1.size)⟩
  · have HV : Hid (vBest S C x = 0) := Lib.hid (by unfold vBest; rw [if_neg hz])
    have hzn : (eSome S C [x] != 0) = true := by
      have h2 : ¬ eSome S C [x] = 0 := hz
      simpa using h2
    clear hz
    go_enter Try.func48, Try.ntmps48
    go_wp2_with fail
    rw [← HW.out]
    refine (someWordsError_n ao S cap hn ac C capc hnc _ [x] 1 _ rfl (by omega) _ (hS.below B0') (hC.below B0') hIn).mono ?_
    rintro e w1 ⟨rfl, hb⟩
    go_wp2_with fail
    go_ret2
    exact ⟨ret_iih HV.out.symm rfl, B0'.trans (hb.mono B0'.size)⟩

end Go.Proofs.Ytecclcmndfaakaa
