/-
  The contract of the program's UncoveredWords. By an AI agent.
-/
import Derived.Test.YtgaelpcghljihaaCovI
import Derived.Test.YtgaelpcghljihaaTog2
namespace Go.Proofs.Ytgaelpcghljihaa
open Go.RowKit Cv
set_option linter.unusedVariables false
set_option linter.unusedSimpArgs false
set_option maxRecDepth 100000

theorem enter_has : ∀ args w, (callFunc 93 args).run Try.prog w = .ok (.enter 93 args) w := enters_of Try.func93 (by kernel_rfl) rfl
theorem unc_filter (S C : List Int) (r : Int) (N : Nat) (hN : nW S = (N : Int)) : (upto N).filter (fun x => !covN S C r x.toNat) = selL (uncP S C r) N := by
  have h := upto_filter N (fun u => !covN S C r u)
  simp only [Bool.not_not] at h
  rw [h]
  unfold selL
  congr 1
  apply List.filter_congr
  intro u hu
  rw [List.mem_range] at hu
  rw [covN_in, uncP_in, hN]
  have : u < (N : Int).toNat := by omega
  by_cases h2 : ∃ c, c ∈ C ∧ dist S (u : Int) c ≤ r
  · simp only [this, true_and, h2, not_true_eq_false, decide_true, decide_false, Bool.not_true]
  · simp only [this, true_and, h2, not_false_eq_true, decide_true, decide_false, Bool.not_false]

set_option maxHeartbeats 2000000 in
theorem impl_UncoveredWords (ao : Option Addr) (S : List Int) (cap : Nat) (hn : S.length ≤ 4294967296) (ac : Option Addr) (C : List Int) (capc : Nat) (hnc : C.length ≤ 4294967296) (r : Int) (hr : -9223372036854775808 ≤ r ∧ r ≤ 9223372036854775807) (w : World) (hS : Ints w ao S) (hC : Ints w ac C) :
    Calls Try.prog 42 #[.agg #[.slice ao S.length cap], .slice ac C.length capc, .int .i64 r] w fun e w' => ∃ v, e = .returned (.tuple #[v, .int .i64 (eCov S C r)]) ∧ OwnInts w' w.heap.size v (vUnc S C r) ∧ Below w.heap.size w w' := by
  have B0 : Below w.heap.size w (w.alloc (.cells #[.slice ao S.length cap] 24)) := by go_grown
  have HQ := Lib.hid (eCov2_nil S C r)
  have cS := cell_new w (.slice ao S.length cap) 24
  have lS := lt_alloc w (.cells #[.slice ao S.length cap] 24)
  by_cases hq : eCov S C r = 0
  · obtain ⟨hz, r1, r2⟩ := eCov_zero hq
    obtain ⟨hSp, hc1, hc2⟩ := eCode_zero hz
    have N1 := nW_bd hSp
    have hlen := code_len hSp hc1 hc2
    have HSp := Lib.hid hSp
    have HC1 : Hid (∀ i, i < C.length → 0 ≤ gi C i ∧ gi C i ≤ 9223372036854775807) := Lib.hid fun i h => by have := hc1 i h; omega
    obtain ⟨N, hN⟩ : ∃ N : Nat, nW S = (N : Int) := ⟨(nW S).toNat, by omega⟩
    have HN := Lib.hid hN
    have hN2 : N ≤ 1024 := by omega
    have HV : Hid (vUnc S C r = selL (uncP S C r) N) := Lib.hid (by unfold vUnc; rw [if_pos hq, hN]; rfl)
    have hqn : (eCov2 S C [] r != 0) = false := by rw [HQ.out]; simp [hq]
    have HQ0 := Lib.hid hq
    clear hc1 hc2 hSp hq hz hN N1
    go_enter Try.func42, Try.ntmps42
    go_wp2_with fail
    refine (coverError_n ao S cap hn ac C capc hnc r none [] 0 0 rfl (by omega) _ (hS.below B0) (hC.below B0) (.inl rfl)).mono ?_
    rintro e w1 ⟨rfl, hb⟩
    replace cS := kept_cell hb cS lS
    replace lS := lt_of_below hb lS
    have B1 : Below w.heap.size w w1 := B0.trans (hb.mono B0.size)
    have hs1 := B1.size
    clear hb B0
    go_wp2_with fail
    refine (coveredWords_any ao S cap HSp.out ac C capc (by omega) HC1.out r r1 r2 _ (hS.below B1) (hC.below B1)).mono ?_
    rintro e w2 ⟨rfl, hb2⟩
    replace cS := kept_cell hb2 cS lS
    replace lS := lt_of_below hb2 lS
    have B2 := B1.trans (hb2.mono hs1)
    have hs2 := B2.size
    have hz0 := rowz_new w2 (n := w2.heap.size) rfl
    obtain ⟨W5, hW5⟩ : ∃ W5, W5 = (w2.alloc (.cells #[.int .u64 0, .int .u64 0, .int .u64 0, .int .u64 0, .int .u64 0, .int .u64 0, .int .u64 0, .int .u64 0, .int .u64 0, .int .u64 0, .int .u64 0, .int .u64 0, .int .u64 0, .int .u64 0, .int .u64 0, .int .u64 0] 96)).setRow w2.heap.size (setA (covN S C r)) := ⟨_, rfl⟩
    have r5 : RowAt W5 w2.heap.size (covN S C r) := by rw [hW5]; exact row_set hz0
    have h45 : Below w2.heap.size w2 W5 := by rw [hW5]; exact ((Below.refl _ w2).alloc (Nat.le_refl _) _).grown (grown_setRow _) (by simp) fun j hj => by cases hj; exact Nat.le_refl _
    replace cS := kept_cell h45 cS lS
    replace lS := lt_of_below h45 lS
    have B5 := B2.trans (h45.mono hs2)
    have hs5 := B5.size
    have HW5 := Lib.hid hW5
    clear hW5
    go_wp2_with (first | (refine wpList_st16 rfl _ _ rfl hz0 (covN S C r) rfl rfl ?_; rw [← HW5.out]))
    refine wp_region_held_drew (S := fun w' => w'.cell? ⟨w.heap.size, 0, none⟩ = some (.slice ao S.length cap) ∧ RowAt w' w2.heap.size (covN S C r)) (by kernel_rfl) ⟨cS, r5⟩ (fun hHeld => ?_)
    refine wpAnyH_take (i := 0) (v := ?_) rfl (by kernel_rfl) (by kernel_rfl) (by kernel_rfl) (fun _ _ _ h => h) (Or.inl ⟨by rfl, ?_⟩) (by assumption) ?_
    rotate_left
    · (intro w hSw; have hSw := hSw.1; (try dsimp only at hSw); go_simp; try (with_reducible rfl))
    (try simp only [Act.put, List.setIfInBounds_toArray, List.set_cons_zero, List.set_cons_succ])
    refine wpAnyH_take (i := 2) (v := .agg (setA (covN S C r))) rfl (by kernel_rfl) (by kernel_rfl) (by kernel_rfl) (fun _ _ _ h => h) (Or.inl ⟨by rfl, ?_⟩) (by assumption) ?_
    · intro w hSw
      exact exec_ld16 hSw.2 _ (.tmp 9) (by kernel_rfl) (by kernel_rfl)
    (try simp only [Act.put, List.setIfInBounds_toArray, List.set_cons_zero, List.set_cons_succ])
    refine wpAnyH_take (i := 3) (v := ?_) rfl (by kernel_rfl) (by kernel_rfl) (by kernel_rfl) (fun _ _ _ h => h) (Or.inl ⟨by rfl, ?_⟩) (by assumption) ?_
    rotate_left
    · (intro w hSw; have hSw := hSw.1; (try dsimp only at hSw); go_simp; try (with_reducible rfl))
    (try simp only [Act.put, List.setIfInBounds_toArray, List.set_cons_zero, List.set_cons_succ])
    refine wpAnyH_ready (rs := [1]) (by kernel_rfl) (by simp) ?_
    refine AllReadyH.cons rfl (fun K hK => ?_) AllReadyH.nil
    go_simp
    (go_at_call 78; refine (allWords_any ao S cap HSp.out N HN.out _ (hS.below B5.drew)).mono ?_)
    rintro e w6 ⟨q, rfl, own, hb6⟩
    have h56 : Below W5.heap.size W5 w6 := (Below.refl _ W5).drew.trans hb6
    have c6 := kept_cell h56 cS lS
    have r6 := r5.below h56 r5.lt
    have hq5 : W5.heap.size ≤ q := own.base_le.1
    have hq6 : w2.heap.size < W5.heap.size := r5.lt
    have hq7 : w.heap.size ≤ w2.heap.size := hs2
    replace own := own.rebase (base' := w.heap.size) hs5
    have B6 := B5.trans (h56.mono hs5)
    have hdel := deleteFunc_any w.heap.size q N (upto N) 93 enter_has #[.agg (setA (covN S C r))] #[] (fun x => covN S C r x.toNat) w6 (by rw [upto_len]; omega) (by rw [upto_len]; exact own) (by
      intro W x hW hx
      obtain ⟨j, hj, e⟩ := mem_gi hx
      rw [upto_len] at hj
      rw [gi_upto N j hj] at e
      subst e
      exact has_any (covN S C r) j (by omega) W)
    rw [upto_len] at hdel
    refine hK.out _ _ (⟨c6, r6⟩) (fun hHeld => ?_)
    clear hK K
    (try simp only [Act.put, List.setIfInBounds_toArray, List.set_cons_zero, List.set_cons_succ])
    refine wpAnyH_ready (rs := [4]) (by kernel_rfl) (by simp) ?_
    refine AllReadyH.cons rfl (fun K hK => ?_) AllReadyH.nil
    go_simp
    (go_at_call 92; refine hdel.mono ?_)
    rintro e w7 ⟨v, rfl, own7, hg7⟩
    have c7 := hg7.cell (a := ⟨w.heap.size, 0, none⟩) c6 (fun e => by have e2 := Option.some.inj e; simp at e2; omega)
    have r7 := r6.kept hg7 (show w2.heap.size ≠ q by omega)
    have B7 := B6.trans (below_of_grown hg7 (by omega) B6.size)
    refine hK.out _ _ (⟨c7, r7⟩) (fun hHeld => ?_)
    clear hK K
    (try simp only [Act.put, List.setIfInBounds_toArray, List.set_cons_zero, List.set_cons_succ])
    refine wpAnyH_take (i := 5) (v := ?_) rfl (by kernel_rfl) (by kernel_rfl) (by kernel_rfl) (fun _ _ _ h => h) (Or.inl ⟨by rfl, ?_⟩) (by assumption) ?_
    rotate_left
    · (intro w hSw; have hSw := hSw.1; (try dsimp only at hSw); go_simp; try (with_reducible rfl))
    (try simp only [Act.put, List.setIfInBounds_toArray, List.set_cons_zero, List.set_cons_succ])
    refine wpAnyH_take (i := 6) (v := ?_) rfl (by kernel_rfl) (by kernel_rfl) (by kernel_rfl) (fun _ _ _ h => h) (Or.inl ⟨by rfl, ?_⟩) (by assumption) ?_
    rotate_left
    · (intro w hSw; have hSw := hSw.1; (try dsimp only at hSw); go_simp; try (with_reducible rfl))
    (try simp only [Act.put, List.setIfInBounds_toArray, List.set_cons_zero, List.set_cons_succ])
    refine wpAnyH_done (by kernel_rfl) ?_ _
    simp only [List.getElem_toArray, List.getElem_cons_succ, List.getElem_cons_zero, Act.put, List.setIfInBounds_toArray, List.set_cons_zero, List.set_cons_succ]
    go_wp2
    go_ret2
    refine ⟨_, by rw [HQ0.out]; rfl, ?_, B7⟩
    rw [HV.out, ← unc_filter S C r N HN.out]
    exact own7
  · have HV : Hid (vUnc S C r = []) := Lib.hid (by unfold vUnc; rw [if_neg hq])
    have hqn : (eCov2 S C [] r != 0) = true := by rw [HQ.out]; simpa using hq
    clear hq
    go_enter Try.func42, Try.ntmps42
    go_wp2_with fail
    refine (coverError_n ao S cap hn ac C capc hnc r none [] 0 0 rfl (by omega) _ (hS.below B0) (hC.below B0) (.inl rfl)).mono ?_
    rintro e w1 ⟨rfl, hb⟩
    go_wp2_with fail
    go_ret2
    exact ⟨_, by rw [HQ.out]; try rfl, by rw [HV.out]; exact own_nil _ _, B0.trans (hb.mono B0.size)⟩

end Go.Proofs.Ytgaelpcghljihaa
