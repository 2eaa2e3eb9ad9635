/-
  The contracts of CodesTogether, and of the models of both. By an AI agent.
-/
import Derived.Test.YtpboeoidbimmcaaTog
namespace Go.Proofs.Ytpboeoidbimmcaa
open Go.RowKit Cv
set_option linter.unusedVariables false
set_option linter.unusedSimpArgs false
set_option maxRecDepth 100000

theorem upto_filter (N : Nat) (p : Nat → Bool) : (upto N).filter (fun x => !!p x.toNat) = selL p N := by
  unfold upto selL
  rw [List.filter_map]
  congr 1
  exact List.filter_congr fun i hi => by simp

theorem exec_ld16 {a : Act} {w : World} {b : Nat} {p : Nat → Bool} (hr : RowAt w b p) (o : Oper) (x : Operand) (ho : o.op = .load 81 x) (hx : a.eval x = .pointer (some ⟨b, 0, none⟩)) : (execOp a.eval o).run Try.prog w = .ok (.value (.agg (setA p))) w := by
  unfold execOp
  simp only [ho, hx, Instr.loadAt, Instr.sureAddr, Sem.run_bind, Sem.run_pure, Result.andThen_ok, ldVar hr]
set_option maxHeartbeats 2000000 in
theorem impl_CodesTogether (ao : Option Addr) (S : List Int) (cap : Nat) (hn : S.length ≤ 4294967296) (ac : Addr) (C : List Int) (capc : Nat) (hnc : C.length ≤ 4294967296) (ad : Option Addr) (D : List Int) (capd : Nat) (hnd : D.length ≤ 4294967296) (w : World) (hS : Ints w ao S) (hC : Ints w (some ac) C) (hD : Ints w ad D) :
    Calls Try.prog 37 #[.agg #[.slice ao S.length cap], .slice (some ac) C.length capc, .slice ad D.length capd] w fun e w' => ∃ v, e = .returned (.tuple #[v, .int .i64 (eTwo S C D)]) ∧ OwnInts w' w.heap.size v (vTog S C D) ∧ Below w.heap.size w w' := by
  have B0 : Below w.heap.size w (w.alloc (.cells #[.slice ao S.length cap] 26)) := by go_grown
  have B1 : Below w.heap.size w ((w.alloc (.cells #[.slice ao S.length cap] 26)).alloc (.cells #[.slice (some ac) C.length capc, .slice ad D.length capd] 22)) := by go_grown
  by_cases hz : eTwo S C D = 0
  · have hzn : (eTwo S C D != 0) = false := by simp [hz]
    have HZ := Lib.hid hz
    obtain ⟨z1, z2⟩ := eTwo_zero hz
    obtain ⟨hs, c1, c2⟩ := eCode_zero z1
    obtain ⟨_, d1, d2⟩ := eCode_zero z2
    have N1 := nW_bd hs
    obtain ⟨N, hN⟩ : ∃ N : Nat, nW S = (N : Int) := ⟨(nW S).toNat, by omega⟩
    have HN := Lib.hid hN
    have hN2 : N ≤ 1024 := by omega
    have HSp := Lib.hid hs
    have HV : Hid (vTog S C D = selL (fun u => inL C u || inL D u) N) := Lib.hid (by unfold vTog togL; rw [if_pos hz, hN]; rfl)
    have HCb : Hid (∀ i, i < C.length → 0 ≤ gi C i ∧ gi C i < 1024) := Lib.hid fun i hi => by have := c1 i hi; omega
    have HDb : Hid (∀ i, i < D.length → 0 ≤ gi D i ∧ gi D i < 1024) := Lib.hid fun i hi => by have := d1 i hi; omega
    have cS := cell_new w (.slice ao S.length cap) 26
    have lS := lt_alloc w (.cells #[.slice ao S.length cap] 26)
    clear hz z1 z2 hs c1 c2 d1 d2 N1 hN
    go_enter Try.func37, Try.ntmps37
    go_wp2_with fail
    refine (codesError_2 ao S cap hn (some ac) ad C D capc capd hnc hnd _ _ _ _ rfl (by simp) (hS.below B1) (hC.below B1) (hD.below B1)).mono ?_
    rintro e w1 ⟨rfl, hb1⟩
    have hq := Below.trans ((Below.refl _ (w.alloc (.cells #[.slice ao S.length cap] 26))).alloc (Nat.le_refl _) (.cells #[.slice (some ac) C.length capc, .slice ad D.length capd] 22)) (hb1.mono (by simp))
    replace cS := kept_cell hq cS lS
    replace lS := lt_of_below hq lS
    have B := B1.trans (hb1.mono B1.size)
    have hs1 := B.size
    clear hb1 B1 B0 hq
    go_wp2_with fail
    refine (setOf_any (some ac) C capc hnc HCb.out _ (hC.below B)).mono ?_
    rintro e w2 ⟨rfl, hb2⟩
    replace cS := kept_cell hb2 cS lS
    replace lS := lt_of_below hb2 lS
    have B2 := B.trans (hb2.mono hs1)
    have hs2 := B2.size
    go_wp2_with fail
    refine (setOf_any ad D capd hnd HDb.out _ (hD.below B2)).mono ?_
    rintro e w3 ⟨rfl, hb3⟩
    replace cS := kept_cell hb3 cS lS
    replace lS := lt_of_below hb3 lS
    have B3 := B2.trans (hb3.mono hs2)
    have hs3 := B3.size
    go_wp2_with fail
    refine (with_any (inL C) (inL D) w3).mono ?_
    rintro e w4 ⟨rfl, hb4⟩
    replace cS := kept_cell hb4 cS lS
    replace lS := lt_of_below hb4 lS
    have B4 := B3.trans (hb4.mono hs3)
    have hs4 := B4.size
    have hz0 := rowz_new w4 (n := w4.heap.size) rfl
    obtain ⟨W5, hW5⟩ : ∃ W5, W5 = (w4.alloc (.cells #[.int .u64 0, .int .u64 0, .int .u64 0, .int .u64 0, .int .u64 0, .int .u64 0, .int .u64 0, .int .u64 0, .int .u64 0, .int .u64 0, .int .u64 0, .int .u64 0, .int .u64 0, .int .u64 0, .int .u64 0, .int .u64 0] 81)).setRow w4.heap.size (setA fun u => inL C u || inL D u) := ⟨_, rfl⟩
    have r5 : RowAt W5 w4.heap.size (fun u => inL C u || inL D u) := by rw [hW5]; exact row_set hz0
    have h45 : Below w4.heap.size w4 W5 := by rw [hW5]; exact ((Below.refl _ w4).alloc (Nat.le_refl _) _).grown (grown_setRow _) (by simp) fun j hj => by cases hj; exact Nat.le_refl _
    replace cS := kept_cell h45 cS lS
    replace lS := lt_of_below h45 lS
    have B5 := B4.trans (h45.mono hs4)
    have hs5 := B5.size
    have HW5 := Lib.hid hW5
    clear hW5
    go_wp2_with (first | (refine wpList_st16 rfl _ _ rfl hz0 _ rfl rfl ?_; rw [← HW5.out]))
    refine wp_region_held_drew (S := fun w' => w'.cell? ⟨w.heap.size, 0, none⟩ = some (.slice ao S.length cap) ∧ RowAt w' w4.heap.size (fun u => inL C u || inL D u)) (by kernel_rfl) ⟨cS, r5⟩ (fun hHeld => ?_)
    refine wpAnyH_take (i := 0) (v := ?_) rfl (by kernel_rfl) (by kernel_rfl) (by kernel_rfl) (fun _ _ _ h => h) (Or.inl ⟨by rfl, ?_⟩) (by assumption) ?_
    rotate_left
    · (intro w hSw; have hSw := hSw.1; (try dsimp only at hSw); go_simp; try (with_reducible rfl))
    (try simp only [Act.put, List.setIfInBounds_toArray, List.set_cons_zero, List.set_cons_succ])
    refine wpAnyH_take (i := 2) (v := .agg (setA fun u => inL C u || inL D u)) rfl (by kernel_rfl) (by kernel_rfl) (by kernel_rfl) (fun _ _ _ h => h) (Or.inl ⟨by rfl, ?_⟩) (by assumption) ?_
    · intro w hSw
      exact exec_ld16 hSw.2 _ (.tmp 9) (by kernel_rfl) (by kernel_rfl)
    (try simp only [Act.put, List.setIfInBounds_toArray, List.set_cons_zero, List.set_cons_succ])
    refine wpAnyH_take (i := 3) (v := ?_) rfl (by kernel_rfl) (by kernel_rfl) (by kernel_rfl) (fun _ _ _ h => h) (Or.inl ⟨by rfl, ?_⟩) (by assumption) ?_
    rotate_left
    · (intro w hSw; have hSw := hSw.1; (try dsimp only at hSw); go_simp; try (with_reducible rfl))
    (try simp only [Act.put, List.setIfInBounds_toArray, List.set_cons_zero, List.set_cons_succ])
    refine wpAnyH_ready (rs := [1]) (by kernel_rfl) (by simp) ?_
    refine AllReadyH.cons rfl (fun K hK => ?_) AllReadyH.nil
    go_simp
    (go_at_call 87; refine (allWords_any ao S cap HSp.out N HN.out _ (hS.below B5.drew)).mono ?_)
    rintro e w6 ⟨q, rfl, own, hb6⟩
    have h56 : Below W5.heap.size W5 w6 := (Below.refl _ W5).drew.trans hb6
    have c6 := kept_cell h56 cS lS
    have r6 := r5.below h56 r5.lt
    have hq5 : W5.heap.size ≤ q := own.base_le.1
    have hq6 : w4.heap.size < W5.heap.size := r5.lt
    have hq7 : w.heap.size ≤ w4.heap.size := hs4
    replace own := own.rebase (base' := w.heap.size) hs5
    have B6 := B5.trans (h56.mono hs5)
    have hdel := deleteFunc_any w.heap.size q N (upto N) 88 enter_lacks #[.agg (setA fun u => inL C u || inL D u)] #[] (fun x => !(inL C x.toNat || inL D x.toNat)) w6 (by rw [upto_len]; omega) (by rw [upto_len]; exact own) (by
      intro W x hW hx
      obtain ⟨j, hj, e⟩ := mem_gi hx
      rw [upto_len] at hj
      rw [gi_upto N j hj] at e
      subst e
      exact lacks_any (fun u => inL C u || inL D u) j (by omega) W)
    rw [upto_len] at hdel
    refine hK.out _ _ (⟨c6, r6⟩) (fun hHeld => ?_)
    clear hK K
    (try simp only [Act.put, List.setIfInBounds_toArray, List.set_cons_zero, List.set_cons_succ])
    refine wpAnyH_ready (rs := [4]) (by kernel_rfl) (by simp) ?_
    refine AllReadyH.cons rfl (fun K hK => ?_) AllReadyH.nil
    go_simp
    (go_at_call 65; refine hdel.mono ?_)
    rintro e w7 ⟨v, rfl, own7, hg7⟩
    have c7 := hg7.cell (a := ⟨w.heap.size, 0, none⟩) c6 (fun e => by have e2 := Option.some.inj e; simp at e2; omega)
    have r7 := r6.kept hg7 (show w4.heap.size ≠ q by omega)
    have B7 := B6.trans (below_of_grown hg7 (by omega) B6.size)
    refine hK.out _ _ (⟨c7, r7⟩) (fun hHeld => ?_)
    clear hK K
    (try simp only [Act.put, List.setIfInBounds_toArray, List.set_cons_zero, List.set_cons_succ])
    refine wpAnyH_take (i := 5) (v := ?_) rfl (by kernel_rfl) (by kernel_rfl) (by kernel_rfl) (fun _ _ _ h => h) (Or.inl ⟨by rfl, ?_⟩) (by assumption) ?_
    rotate_left
    · (intro w hSw; have hSw := hSw.1; (try dsimp only at hSw); go_simp; try (with_reducible rfl))
    (try simp only [Act.put, List.setIfInBounds_toArray, List.set_cons_zero, List.set_cons_succ])
    refine wpAnyH_take (i := 6) (v := ?_) rfl (by kernel_rfl) (by kernel_rfl) (by kernel_rfl) (fun _ _ _ h => h) (Or.inl ⟨by rfl, ?_⟩) (by assumption) ?_
    rotate_left
    · (intro w hSw; have hSw := hSw.1; (try dsimp only at hSw); go_simp; try (with_reducible rfl))
    (try simp only [Act.put, List.setIfInBounds_toArray, List.set_cons_zero, List.set_cons_succ])
    refine wpAnyH_done (by kernel_rfl) ?_ _
    simp only [List.getElem_toArray, List.getElem_cons_succ, List.getElem_cons_zero, Act.put, List.setIfInBounds_toArray, List.set_cons_zero, List.set_cons_succ]
    go_wp2
    go_ret2
    refine ⟨_, by rw [HZ.out]; rfl, ?_, B7⟩
    rw [HV.out, ← upto_filter N (fun u => inL C u || inL D u)]
    exact own7
  · have hzn : (eTwo S C D != 0) = true := by simpa using hz
    have HV : Hid (vTog S C D = []) := Lib.hid (by unfold vTog; rw [if_neg hz])
    clear hz
    go_enter Try.func37, Try.ntmps37
    go_wp2_with fail
    refine (codesError_2 ao S cap hn (some ac) ad C D capc capd hnc hnd _ _ _ _ rfl (by simp) (hS.below B1) (hC.below B1) (hD.below B1)).mono ?_
    rintro e w1 ⟨rfl, hb1⟩
    have B := B1.trans (hb1.mono B1.size)
    go_wp2_with fail
    go_ret2
    exact ⟨_, rfl, by rw [HV.out]; exact own_nil _ _, B⟩

theorem l03Two_any (ao : Option Addr) (S : List Int) (cap : Nat) (hn : S.length ≤ 4294967296) (ac : Option Addr) (C : List Int) (capc : Nat) (hnc : C.length ≤ 4294967296) (ad : Option Addr) (D : List Int) (capd : Nat) (hnd : D.length ≤ 4294967296) (w : World) (hS : Ints w ao S) (hC : Ints w ac C) (hD : Ints w ad D) :
    Calls Try.prog 82 #[.agg #[.slice ao S.length cap], .slice ac C.length capc, .slice ad D.length capd] w fun e w' => e = .returned (.int .i64 (eTwo S C D)) ∧ Below w.heap.size w w' := by
  have B0 : Below w.heap.size w (w.alloc (.cells #[.slice ao S.length cap] 26)) := by go_grown
  have c0 := cell_new w (.slice ao S.length cap) 26
  have l0 := lt_alloc w (.cells #[.slice ao S.length cap] 26)
  by_cases hz : eCode S C = 0
  · have hzb : (eCode S C == 0) = true := by simp [hz]
    have HE := Lib.hid (eTwo_ok (D := D) hz)
    clear hz
    go_enter Try.func82, Try.ntmps82
    go_wp2_with fail
    refine (l01Given_any ao S cap hn ac C capc hnc _ (hS.below B0) (hC.below B0)).mono ?_
    rintro e w1 ⟨rfl, hb⟩
    replace c0 := kept_cell hb c0 l0
    have B := B0.trans (hb.mono B0.size)
    go_wp2_with fail
    refine (l01Given_any ao S cap hn ad D capd hnd _ (hS.below B) (hD.below B)).mono ?_
    rintro e w2 ⟨rfl, hb2⟩
    go_wp2_with fail
    go_ret
    exact ⟨ret_int HE.out.symm, B.trans (hb2.mono B.size)⟩
  · have hzb : (eCode S C == 0) = false := by simpa using hz
    have HE := Lib.hid (eTwo_bad (D := D) hz)
    clear hz
    go_enter Try.func82, Try.ntmps82
    go_wp2_with fail
    refine (l01Given_any ao S cap hn ac C capc hnc _ (hS.below B0) (hC.below B0)).mono ?_
    rintro e w1 ⟨rfl, hb⟩
    have B := B0.trans (hb.mono B0.size)
    go_wp2_with fail
    go_ret
    exact ⟨ret_int HE.out.symm, B⟩

set_option maxHeartbeats 1000000 in
theorem spec_CodesTogether (ao : Option Addr) (S : List Int) (cap : Nat) (hn : S.length ≤ 4294967296) (ac : Addr) (C : List Int) (capc : Nat) (hnc : C.length ≤ 4294967296) (ad : Option Addr) (D : List Int) (capd : Nat) (hnd : D.length ≤ 4294967296) (w : World) (hS : Ints w ao S) (hC : Ints w (some ac) C) (hD : Ints w ad D) :
    Calls Try.prog 36 #[.agg #[.slice ao S.length cap], .slice (some ac) C.length capc, .slice ad D.length capd] w fun e w' => ∃ v, e = .returned (.tuple #[v, .int .i64 (eTwo S C D)]) ∧ OwnInts w' w.heap.size v (vTog S C D) ∧ Below w.heap.size w w' := by
  have B0 : Below w.heap.size w (w.alloc (.cells #[.slice ao S.length cap] 26)) := by go_grown
  by_cases hz : eTwo S C D = 0
  · have hzn : (eTwo S C D != 0) = false := by simp [hz]
    have HZ := Lib.hid hz
    obtain ⟨z1, z2⟩ := eTwo_zero hz
    have lc := code_len0 z1
    have ld := code_len0 z2
    have HV : Hid (vTog S C D = putTo C (gi D) D.length) := Lib.hid (by rw [togL_put hz]; unfold vTog; rw [if_pos hz])
    clear hz z1 z2
    go_enter Try.func36, Try.ntmps36
    go_wp2_with fail
    refine (l03Two_any ao S cap hn (some ac) C capc hnc ad D capd hnd _ (hS.below B0) (hC.below B0) (hD.below B0)).mono ?_
    rintro e w1 ⟨rfl, hb1⟩
    have B := B0.trans (hb1.mono B0.size)
    have hs1 := B.size
    clear hb1 B0
    go_wp2_with fail
    refine (l01Own_any ac C C.length capc rfl (by omega) _ (hC.below B)).mono ?_
    rintro e w2 ⟨g, c, rfl, own, hb2⟩
    replace own := own.rebase (base' := w.heap.size) hs1
    have B2 := B.trans (hb2.mono hs1)
    clear hb2 B
    go_wp2_with fail
    go_loopw [9, 22] (fun vo i wr => ∃ (k g' c' : Nat), k ≤ D.length ∧ i = .int .i64 k ∧ vo = .slice (some ⟨g', 0, none⟩) (putTo C (gi D) k).length c' ∧ OwnInts wr w.heap.size (.slice (some ⟨g', 0, none⟩) (putTo C (gi D) k).length c') (putTo C (gi D) k) ∧ Below w.heap.size w wr) (fun _ i _ => D.length - (intOf i).toNat)
    case atStart => exact ⟨0, g, c, Nat.zero_le _, rfl, rfl, own, B2⟩
    case round =>
      clear own B2
      obtain ⟨k, g1, c1, hk, rfl, rfl, own, B⟩ := hrel
      have hpl := putTo_len C (gi D) k
      by_cases hlt : k < D.length
      · obtain ⟨b, o, rfl, hbl, hc⟩ := hD.at hlt
        have hck := kept_cell B (hc k hlt) hbl
        have hs := B.size
        have hp := l01Put_any w.heap.size g1 c1 (putTo C (gi D) k) (gi D k) wr (by omega) own
        obtain ⟨P, hP⟩ : ∃ P, P = (putTo C (gi D) k).length := ⟨_, rfl⟩
        rw [← hP] at hp ⊢
        have HP := Lib.hid hP
        clear hc hP
        go_wp2_with fail
        refine hp.mono ?_
        rintro e w3 ⟨g2, c2, rfl, own2, hb3⟩
        have e1 : Hid (putL (putTo C (gi D) k) (gi D k) = putTo C (gi D) (k + 1)) := Lib.hid rfl
        rw [e1.out] at own2 ⊢
        have B3 := B.trans (hb3.mono hs)
        clear own
        obtain ⟨P2, hP2⟩ : ∃ P, P = (putTo C (gi D) (k + 1)).length := ⟨_, rfl⟩
        rw [← hP2] at own2 ⊢
        go_wp2_with fail
        go_roundw
        case rel => exact ⟨k + 1, g2, c2, by omega, by go_num, by rw [← hP2], by rw [← hP2]; exact own2, B3⟩
        case measure => simp [intOf]; omega
      · have ek : Hid (k = D.length) := Lib.hid (by omega)
        obtain ⟨P, hP⟩ : ∃ P, P = (putTo C (gi D) k).length := ⟨_, rfl⟩
        rw [← hP] at own ⊢
        go_wp2_with fail
        go_ret2
        exact ⟨_, by rw [HZ.out]; rfl, by rw [HV.out, ← ek.out]; exact own, B⟩
  · have hzn : (eTwo S C D != 0) = true := by simpa using hz
    have HV : Hid (vTog S C D = []) := Lib.hid (by unfold vTog; rw [if_neg hz])
    clear hz
    go_enter Try.func36, Try.ntmps36
    go_wp2_with fail
    refine (l03Two_any ao S cap hn (some ac) C capc hnc ad D capd hnd _ (hS.below B0) (hC.below B0) (hD.below B0)).mono ?_
    rintro e w1 ⟨rfl, hb1⟩
    have B := B0.trans (hb1.mono B0.size)
    go_wp2_with fail
    go_ret2
    exact ⟨_, rfl, by rw [HV.out]; exact own_nil _ _, B⟩

end Go.Proofs.Ytpboeoidbimmcaa
