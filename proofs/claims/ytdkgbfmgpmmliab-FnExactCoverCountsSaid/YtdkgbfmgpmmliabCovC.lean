/-
  The contracts of the numbers of words by how often they are covered. By an AI agent.
-/
import Derived.Test.YtdkgbfmgpmmliabMath11
import Derived.Test.YtdkgbfmgpmmliabTimes
import Derived.Test.YtdkgbfmgpmmliabTimesC
import Derived.Deep.RegionHeld3
import Derived.IntWalk
namespace Go.Proofs.Ytdkgbfmgpmmliab
open Go.RowKit Cv
set_option linter.unusedVariables false
set_option linter.unusedSimpArgs false
set_option maxRecDepth 100000

theorem step_if {E : Prop} [Decidable E] {A B : Prop} (h : E) (ha : A) : if E then A else B := by rw [if_pos h]; exact ha
theorem step_make_ints {w : World} {o : Oper} {a : Act} {K : Act → World → Prop} {Q : Exit → Act → World → Prop} (l : Operand) (ho : o.op = Op.makeSlice 22 l l)
    (base m : Nat) (L : Int) (hl : a.eval l = .int .i64 L) (hL : L = (m : Int)) (hm : m ≤ 16777216) (hb : base ≤ w.heap.size)
    (hK : ∀ w', OwnInts w' base (.slice (some ⟨w.heap.size, 0, none⟩) m m) (List.replicate m 0) → Below w.heap.size w w' → K (a.put o.dst (.slice (some ⟨w.heap.size, 0, none⟩) m m)) w') : Oper.wp Try.prog o a w K Q := by
  obtain ⟨i0, hi, hz0, hz1, hz2⟩ := info_parts infoI64
  subst hL
  obtain ⟨w', hrun, r1, r2⟩ := run_make_full (P := Try.prog) w base 22 2 i0 (.int .i64 0) 1 Try.underlying22 hi hz0 hz1 .i64 .i64 m (by rw [hz2]; omega) (by unfold maxLen; omega) hb
  unfold Oper.wp
  simp only [execOp, ho, hl]
  simp [hrun, Result.andThen]
  exact hK w' (own_made r1) (below_grown0 r2)

set_option maxHeartbeats 2000000 in
theorem impl_CoverCounts (ao : Option Addr) (S : List Int) (cap : Nat) (hn : S.length ≤ 4294967296) (ac : Option Addr) (C : List Int) (capc : Nat) (hnc : C.length ≤ 4294967296) (r : Int) (hr : -9223372036854775808 ≤ r ∧ r ≤ 9223372036854775807) (w : World) (hS : Ints w ao S) (hC : Ints w ac C) :
    Calls Try.prog 15 #[.agg #[.slice ao S.length cap], .slice ac C.length capc, .int .i64 r] w fun e w' => ∃ v, e = .returned (.tuple #[v, .int .i64 (eCov S C r)]) ∧ OwnInts w' w.heap.size v (vCov S C r) ∧ Below w.heap.size w w' := by
  obtain ⟨i0, hi, hz0, hz1, hz2⟩ := info_parts infoI64
  have B0 : Below w.heap.size w (w.alloc (.cells #[.slice ao S.length cap] 28)) := by go_grown
  have HQ := Lib.hid (eCov2_nil S C r)
  by_cases hq : eCov S C r = 0
  · obtain ⟨hz, r1, r2⟩ := eCov_zero hq
    have hqn : (eCov2 S C [] r != 0) = false := by rw [HQ.out]; simp [hq]
    obtain ⟨hSp, hc1, hc2⟩ := eCode_zero hz
    obtain ⟨N1, N2⟩ := nW_bd hSp
    have hlen := code_len hSp hc1 hc2
    have HSp := Lib.hid hSp
    have HC1 : Hid (∀ i, i < C.length → 0 ≤ gi C i ∧ gi C i ≤ 9223372036854775807) := Lib.hid fun i h => by have := hc1 i h; omega
    clear hc1 hc2 hSp
    obtain ⟨N, hN⟩ : ∃ N : Nat, nW S = (N : Int) := ⟨(nW S).toNat, by omega⟩
    have HNN : Hid ((nW S).toNat = N) := Lib.hid (by omega)
    have HN := Lib.hid hN
    have hNle : N ≤ 1024 := by omega
    have HQ0 := Lib.hid hq
    have HV : Hid (vCov S C r = covTo (tAt S C r) (C.length + 1) N) := Lib.hid (by unfold vCov; rw [if_pos hq, HNN.out])
    clear hq hz hN
    go_enter Try.func15, Try.ntmps15
    go_wp2_with fail
    refine (coverError_n ao S cap hn ac C capc hnc r none [] 0 0 rfl (by omega) _ (hS.below B0) (hC.below B0) (.inl rfl)).mono ?_
    rintro e w1 ⟨rfl, hb⟩
    have c1 := kept_cell hb (cell_new w (.slice ao S.length cap) 28) (lt_alloc _ _)
    have l1 := lt_of_below hb (lt_alloc w (.cells #[.slice ao S.length cap] 28))
    have B1 : Below w.heap.size w w1 := B0.trans (hb.mono B0.size)
    clear hb B0
    go_wp2_with (at_make; refine wpList_make_full _ rfl _ _ 22 rfl w.heap.size 2 i0 (.int .i64 0) 1 Try.underlying22 hi hz0 hz1 .i64 .i64 ((C.length : Int) + 1) ((C.length : Int) + 1) (C.length + 1) rfl rfl (by simp) (by simp) (by rw [hz2]; omega) (by unfold maxLen; omega) B1.size ?_; intro w2 hown hgrow; have hb2 := below_grown0 hgrow; have c2 := kept_cell hb2 c1 l1; have B1' := B1.trans (hb2.mono B1.size); have oc := own_made hown; have gcl := oc.base_le.2; clear hgrow hown c1)
    have s1 := B1.size
    refine (timesCovered_any ao S cap HSp.out ac C capc (by omega) HC1.out r r1 r2 N HN _ (hS.below B1') (hC.below B1')).mono ?_
    rintro e w3 ⟨q, rfl, oq, hb3⟩
    have B2 := B1'.trans (hb3.mono B1'.size)
    replace oc := oc.below hb3
    have gne : w1.heap.size < q := by have h1 := oq.base_le.1; have h2 := lt_of_below hb2 l1; have h3 := hb2.size; have h4 := gcl; omega
    replace oq := oq.rebase (base' := w.heap.size) B1'.size
    clear hb3 hb2 c2
    go_wp2_with fail
    have HT := Lib.hid (timesL_len S C r)
    go_loopw [28] (fun i wr => ∃ k : Nat, k ≤ N ∧ i = .int .i64 k ∧ OwnInts wr w.heap.size (.slice (some ⟨w1.heap.size, 0, none⟩) (C.length + 1) (C.length + 1)) (covTo (tAt S C r) (C.length + 1) k) ∧ OwnInts wr w.heap.size (.slice (some ⟨q, 0, none⟩) N N) (timesL S C r) ∧ Below w.heap.size w wr) (fun i _ => N - (intOf i).toNat)
    case atStart => exact ⟨0, Nat.zero_le _, rfl, oc, oq, B2⟩
    case round =>
      clear oc oq B2
      obtain ⟨k, hk, rfl, oc, oq, B2⟩ := hrel
      by_cases hlt : k < N
      · have hck := oq.cell (k := k) (by rw [HT.out, HNN.out]; exact hlt)
        rw [gi_timesA _ _ _ _ (by rw [HNN.out]; exact hlt)] at hck
        obtain ⟨t1, t2⟩ := tAt_bd S C r k
        obtain ⟨u, hu⟩ : ∃ u : Nat, tAt S C r k = (u : Int) := ⟨(tAt S C r k).toNat, by omega⟩
        have huC : u < C.length + 1 := by omega
        have huI : (u : Int) < (C.length : Int) + 1 := by omega
        rw [hu] at hck
        have hcell := oc.cell (k := u) (by rw [covTo_len]; exact huC)
        have hfree := oc.free u
        obtain ⟨b1, b2⟩ := covTo_bd (tAt S C r) (C.length + 1) k u
        have HS1 : Hid (covTo (tAt S C r) (C.length + 1) (k + 1) = (covTo (tAt S C r) (C.length + 1) k).set u (gi (covTo (tAt S C r) (C.length + 1) k) u + 1)) := Lib.hid (by show bump _ (tAt S C r k) = _; unfold bump; rw [hu]; rfl)
        have gq1 := oq.base_le
        have gc1 := oc.base_le
        clear hu t1 t2
        go_wp2
        go_roundw
        case rel => exact ⟨k + 1, by omega, by go_num, by rw [HS1.out]; exact oc.stored u _, oq.kept (grown_setCell (World.grownBy.refl _ _) u _) (.inr (show some q ≠ some w1.heap.size from fun e => by injection e with e; omega)), B2.setCell (by simp; omega) _⟩
        case measure => simp [intOf]; omega
      · have ek : Hid (k = N) := Lib.hid (by omega)
        go_wp2
        go_ret2
        exact ⟨_, by rw [HQ0.out]; try rfl, by rw [HV.out, ← ek.out]; exact oc, B2⟩
  · have hqn : (eCov2 S C [] r != 0) = true := by rw [HQ.out]; simpa using hq
    have HV : Hid (vCov S C r = []) := Lib.hid (by unfold vCov; rw [if_neg hq])
    clear hq
    go_enter Try.func15, Try.ntmps15
    go_wp2_with fail
    refine (coverError_n ao S cap hn ac C capc hnc r none [] 0 0 rfl (by omega) _ (hS.below B0) (hC.below B0) (.inl rfl)).mono ?_
    rintro e w1 ⟨rfl, hb⟩
    go_wp2_with fail
    go_ret2
    exact ⟨_, by rw [← HQ.out]; try rfl, by rw [HV.out]; exact World.ownsRow_nil _ _ _ _, B0.trans (hb.mono B0.size)⟩

theorem step_make_free {w : World} {o : Oper} {a : Act} {K : Act → World → Prop} {Q : Exit → Act → World → Prop} (l : Operand) (ho : o.op = Op.makeSlice 22 l l)
    (base m : Nat) (L : Int) (hl : a.eval l = .int .i64 L) (hL : L = (m : Int)) (hm : m ≤ 16777216) (hb : base ≤ w.heap.size)
    (hK : ∀ w' (p : Nat), w.heap.size ≤ p → OwnInts w' base (.slice (some ⟨p, 0, none⟩) m m) (List.replicate m 0) → Below w.heap.size w w' → K (a.put o.dst (.slice (some ⟨p, 0, none⟩) m m)) w') : Oper.wp Try.prog o a w K Q := by
  obtain ⟨i0, hi, hz0, hz1, hz2⟩ := info_parts infoI64
  subst hL
  obtain ⟨w', hrun, r1, r2⟩ := run_make_full (P := Try.prog) w base 22 2 i0 (.int .i64 0) 1 Try.underlying22 hi hz0 hz1 .i64 .i64 m (by rw [hz2]; omega) (by unfold maxLen; omega) hb
  unfold Oper.wp
  simp only [execOp, ho, hl]
  simp [hrun, Result.andThen]
  exact hK w' _ (Nat.le_refl _) (own_made r1) (below_grown0 r2)

theorem ready_make {md : Region.Mode} {ops : Array Oper} {Q : Exit → Act → World → Prop} {S : World → Prop} {fuel : Nat} {listed : Array Bool} {a : Act} {w : World} {i : Nat} {o : Oper} (l : Operand) (ho : ops[i]? = some o) (hw : Region.wanted o (yielded ops a.tmps) = true) (hop : o.op = Op.makeSlice 22 l l)
    (base m : Nat) (L : Int) (hl : a.eval l = .int .i64 L) (hL : L = (m : Int)) (hm : m ≤ 16777216) (hb : base ≤ w.heap.size)
    (h : ∀ w' (p : Nat), w.heap.size ≤ p → OwnInts w' base (.slice (some ⟨p, 0, none⟩) m m) (List.replicate m 0) → Below w.heap.size w w' → S w' ∧ (S w' → wpAnyH Try.prog md ops Q S fuel (listed.setIfInBounds i true) (a.put o.dst (.slice (some ⟨p, 0, none⟩) m m)) w')) : AllReadyH Try.prog md ops Q S fuel listed a w [i] :=
  AllReadyH.cons ho (fun K hK => by
    rw [if_pos hw]
    exact step_make_free l hop base m L hl hL hm hb (fun w' p hp oc hb4 => hK.out _ _ (h w' p hp oc hb4).1 (h w' p hp oc hb4).2)) AllReadyH.nil
set_option maxHeartbeats 4000000 in
theorem spec_CoverCounts (ao : Option Addr) (S : List Int) (cap : Nat) (hn : S.length ≤ 4294967296) (ac : Option Addr) (C : List Int) (capc : Nat) (hnc : C.length ≤ 4294967296) (r : Int) (hr : -9223372036854775808 ≤ r ∧ r ≤ 9223372036854775807) (w : World) (hS : Ints w ao S) (hC : Ints w ac C) :
    Calls Try.prog 12 #[.agg #[.slice ao S.length cap], .slice ac C.length capc, .int .i64 r] w fun e w' => ∃ v, e = .returned (.tuple #[v, .int .i64 (eCov S C r)]) ∧ OwnInts w' w.heap.size v (vCov S C r) ∧ Below w.heap.size w w' := by
  have B0 : Below w.heap.size w (w.alloc (.cells #[.slice ao S.length cap] 28)) := by go_grown
  by_cases hq : eCov S C r = 0
  · obtain ⟨hz, r1, r2⟩ := eCov_zero hq
    have hqn : (eCov S C r != 0) = false := by simp [hq]
    obtain ⟨hSp, hc1, hc2⟩ := eCode_zero hz
    obtain ⟨N1, N2⟩ := nW_bd hSp
    have hlen := code_len hSp hc1 hc2
    have HSp := Lib.hid hSp
    have HC1 : Hid (∀ i, i < C.length → 0 ≤ gi C i ∧ gi C i ≤ 9223372036854775807) := Lib.hid fun i h => by have := hc1 i h; omega
    clear hc1 hc2 hSp
    obtain ⟨N, hN⟩ : ∃ N : Nat, nW S = (N : Int) := ⟨(nW S).toNat, by omega⟩
    have HNN : Hid ((nW S).toNat = N) := Lib.hid (by omega)
    have HN := Lib.hid hN
    have hNle : N ≤ 1024 := by omega
    have HQ0 := Lib.hid hq
    have HV : Hid (vCov S C r = covTo (tAt S C r) (C.length + 1) N) := Lib.hid (by unfold vCov; rw [if_pos hq, HNN.out])
    clear hq hz hN
    go_enter Try.func12, Try.ntmps12
    go_wp2_with fail
    refine (l02Code_any ao S cap hn ac C capc hnc r _ (hS.below B0) (hC.below B0)).mono ?_
    rintro e w1 ⟨rfl, hb⟩
    have c1 := kept_cell hb (cell_new w (.slice ao S.length cap) 28) (lt_alloc _ _)
    have l1 := lt_of_below hb (lt_alloc w (.cells #[.slice ao S.length cap] 28))
    have B1 : Below w.heap.size w w1 := B0.trans (hb.mono B0.size)
    clear hb B0
    go_wp2_with fail
    have E1 : IntKind.i64.wrap ((C.length : Int) + 1) = (C.length : Int) + 1 := IntWalk.i64_in _ ⟨by omega, by omega⟩
    refine wp_region_held_drew (S := fun w' => w'.cell? ⟨w.heap.size, 0, none⟩ = some (.slice ao S.length cap)) (by kernel_rfl) c1 (fun hHeld => ?_)
    refine wpAnyH_take (i := 0) (v := ?_) rfl (by kernel_rfl) (by kernel_rfl) (by kernel_rfl) (fun _ _ _ h => h) (Or.inl ⟨by rfl, ?_⟩) (by assumption) ?_
    rotate_left
    · (intro w hSw; (try dsimp only at hSw); go_simp; try (with_reducible rfl))
    (try simp only [Act.put, List.setIfInBounds_toArray, List.set_cons_zero, List.set_cons_succ])
    refine wpAnyH_take (i := 1) (v := ?_) rfl (by kernel_rfl) (by kernel_rfl) (by kernel_rfl) (fun _ _ _ h => h) (Or.inl ⟨by rfl, ?_⟩) (by assumption) ?_
    rotate_left
    · (intro w hSw; (try dsimp only at hSw); go_simp; try (with_reducible rfl))
    (try simp only [Act.put, List.setIfInBounds_toArray, List.set_cons_zero, List.set_cons_succ])
    refine wpAnyH_take (i := 2) (v := ?_) rfl (by kernel_rfl) (by kernel_rfl) (by kernel_rfl) (fun _ _ _ h => h) (Or.inl ⟨by rfl, ?_⟩) (by assumption) ?_
    rotate_left
    · (intro w hSw; (try dsimp only at hSw); go_simp; try (with_reducible rfl))
    (try simp only [Act.put, List.setIfInBounds_toArray, List.set_cons_zero, List.set_cons_succ])
    refine wpAnyH_take (i := 4) (v := ?_) rfl (by kernel_rfl) (by kernel_rfl) (by kernel_rfl) (fun _ _ _ h => h) (Or.inl ⟨by rfl, ?_⟩) (by assumption) ?_
    rotate_left
    · (intro w hSw; (try dsimp only at hSw); go_simp; try (with_reducible rfl))
    (try simp only [Act.put, List.setIfInBounds_toArray, List.set_cons_zero, List.set_cons_succ])
    refine wpAnyH_take (i := 5) (v := ?_) rfl (by kernel_rfl) (by kernel_rfl) (by kernel_rfl) (fun _ _ _ h => h) (Or.inl ⟨by rfl, ?_⟩) (by assumption) ?_
    rotate_left
    · (intro w hSw; (try dsimp only at hSw); go_simp; try (with_reducible rfl))
    (try simp only [Act.put, List.setIfInBounds_toArray, List.set_cons_zero, List.set_cons_succ])
    refine wpAnyH_take (i := 6) (v := ?_) rfl (by kernel_rfl) (by kernel_rfl) (by kernel_rfl) (fun _ _ _ h => h) (Or.inl ⟨by rfl, ?_⟩) (by assumption) ?_
    rotate_left
    · (intro w hSw; (try dsimp only at hSw); go_simp; try (with_reducible rfl))
    (try simp only [Act.put, List.setIfInBounds_toArray, List.set_cons_zero, List.set_cons_succ])
    refine wpAnyH_ready (rs := [3, 7]) (by kernel_rfl) (by simp) ?_
    refine AllReadyH.cons rfl (fun K hK => ?_) ?_
    · go_simp
      (go_at_call 76; refine (l02Times_any ao S cap HSp.out ac C capc (by omega) HC1.out r N HN _ (hS.below B1.drew) (hC.below B1.drew)).mono ?_)
      rintro e w3 ⟨q, rfl, oq, hb3⟩
      have hb3' : Below w1.heap.size w1 w3 := (Below.refl _ w1).drew.trans hb3
      have c3 := kept_cell hb3' c1 l1
      have l3 := lt_of_below hb3' l1
      have B3 := B1.trans (hb3'.mono B1.size)
      refine hK.out _ _ (c3) (fun hHeld => ?_)
      clear hK K
      (try simp only [Act.put, List.setIfInBounds_toArray, List.set_cons_zero, List.set_cons_succ])
      refine wpAnyH_take (i := 8) (v := ?_) rfl (by kernel_rfl) (by kernel_rfl) (by kernel_rfl) (fun _ _ _ h => h) (Or.inl ⟨by rfl, ?_⟩) (by assumption) ?_
      rotate_left
      · (intro w hSw; (try dsimp only at hSw); go_simp; try (with_reducible rfl))
      (try simp only [Act.put, List.setIfInBounds_toArray, List.set_cons_zero, List.set_cons_succ])
      refine wpAnyH_ready (rs := [7]) (by kernel_rfl) (by simp) ?_
      refine AllReadyH.cons rfl (fun K hK => ?_) AllReadyH.nil
      refine step_if (by kernel_rfl) ?_
      refine step_make_free _ rfl w.heap.size (C.length + 1) ((C.length : Int) + 1) rfl (by simp) (by omega) B3.size ?_
      intro w4 p hp oc hb4
      have c4 := kept_cell hb4 c3 l3
      refine hK.out _ _ (c4) (fun hHeld => ?_)
      clear hK K
      (try simp only [Act.put, List.setIfInBounds_toArray, List.set_cons_zero, List.set_cons_succ])
      refine wpAnyH_take (i := 9) (v := ?_) rfl (by kernel_rfl) (by kernel_rfl) (by kernel_rfl) (fun _ _ _ h => h) (Or.inl ⟨by rfl, ?_⟩) (by assumption) ?_
      rotate_left
      · (intro w hSw; (try dsimp only at hSw); go_simp; try (with_reducible rfl))
      (try simp only [Act.put, List.setIfInBounds_toArray, List.set_cons_zero, List.set_cons_succ])
      have gne := oq.base_le.2
      have B2 := B3.trans (hb4.mono B3.size)
      replace oq := (oq.below hb4).rebase (base' := w.heap.size) B1.size
      clear hb3 hb3' hb4 c3 c4 l3
      refine wpAnyH_done (by kernel_rfl) ?_ _
      clear E1
      go_wp2_with fail
      have HT := Lib.hid (timesL_len S C r)
      go_loopw [29] (fun i wr => ∃ k : Nat, k ≤ N ∧ i = .int .i64 k ∧ OwnInts wr w.heap.size (.slice (some ⟨p, 0, none⟩) (C.length + 1) (C.length + 1)) (covTo (tAt S C r) (C.length + 1) k) ∧ OwnInts wr w.heap.size (.slice (some ⟨q, 0, none⟩) N N) (timesL S C r) ∧ Below w.heap.size w wr) (fun i _ => N - (intOf i).toNat)
      case atStart => exact ⟨0, Nat.zero_le _, rfl, oc, oq, B2⟩
      case round =>
        clear oc oq B2
        obtain ⟨k, hk, rfl, oc, oq, B2⟩ := hrel
        by_cases hlt : k < N
        · have hck := oq.cell (k := k) (by rw [HT.out, HNN.out]; exact hlt)
          rw [gi_timesA _ _ _ _ (by rw [HNN.out]; exact hlt)] at hck
          obtain ⟨t1, t2⟩ := tAt_bd S C r k
          obtain ⟨u, hu⟩ : ∃ u : Nat, tAt S C r k = (u : Int) := ⟨(tAt S C r k).toNat, by omega⟩
          have huC : u < C.length + 1 := by omega
          have huI : (u : Int) < (C.length : Int) + 1 := by omega
          rw [hu] at hck
          have hcell := oc.cell (k := u) (by rw [covTo_len]; exact huC)
          have hfree := oc.free u
          obtain ⟨b1, b2⟩ := covTo_bd (tAt S C r) (C.length + 1) k u
          have HS1 : Hid (covTo (tAt S C r) (C.length + 1) (k + 1) = (covTo (tAt S C r) (C.length + 1) k).set u (gi (covTo (tAt S C r) (C.length + 1) k) u + 1)) := Lib.hid (by show bump _ (tAt S C r k) = _; unfold bump; rw [hu]; rfl)
          have gq1 := oq.base_le
          have gc1 := oc.base_le
          clear hu t1 t2
          go_wp2
          go_roundw
          case rel => exact ⟨k + 1, by omega, by go_num, by rw [HS1.out]; exact oc.stored u _, oq.kept (grown_setCell (World.grownBy.refl _ _) u _) (.inr (show some q ≠ some p from fun e => by injection e with e; omega)), B2.setCell (by simp; omega) _⟩
          case measure => simp [intOf]; omega
        · have ek : Hid (k = N) := Lib.hid (by omega)
          go_wp2
          go_ret2
          exact ⟨_, by rw [HQ0.out]; try rfl, by rw [HV.out, ← ek.out]; exact oc, B2⟩
    refine ready_make (i := 7) (o := { dst := some 26, op := Op.makeSlice 22 (Operand.tmp 25) (Operand.tmp 25), type := 22, pos := "l02_covers.go:104", after := #[{ on := 6, ground := Ground.data }, { on := 6, ground := Ground.data }], guard := none }) (Operand.tmp 25) rfl (by kernel_rfl) rfl w.heap.size (C.length + 1) ((C.length : Int) + 1) rfl (by simp) (by omega) B1.drew.size ?_
    intro w4 p hp oc hb4
    have hb4' : Below w1.heap.size w1 w4 := (Below.refl _ w1).drew.trans hb4
    have c4 := kept_cell hb4' c1 l1
    have l4 := lt_of_below hb4' l1
    have B4 := B1.trans (hb4'.mono B1.size)
    refine ⟨c4, fun hHeld => ?_⟩
    (try simp only [Act.put, List.setIfInBounds_toArray, List.set_cons_zero, List.set_cons_succ])
    refine wpAnyH_ready (rs := [3]) (by kernel_rfl) (by simp) ?_
    refine AllReadyH.cons rfl (fun K hK => ?_) AllReadyH.nil
    go_simp
    (go_at_call 76; refine (l02Times_any ao S cap HSp.out ac C capc (by omega) HC1.out r N HN _ (hS.below B4) (hC.below B4)).mono ?_)
    rintro e w3 ⟨q, rfl, oq, hb3⟩
    have c5 := kept_cell hb3 c4 l4
    refine hK.out _ _ (c5) (fun hHeld => ?_)
    clear hK K
    (try simp only [Act.put, List.setIfInBounds_toArray, List.set_cons_zero, List.set_cons_succ])
    refine wpAnyH_take (i := 8) (v := ?_) rfl (by kernel_rfl) (by kernel_rfl) (by kernel_rfl) (fun _ _ _ h => h) (Or.inl ⟨by rfl, ?_⟩) (by assumption) ?_
    rotate_left
    · (intro w hSw; (try dsimp only at hSw); go_simp; try (with_reducible rfl))
    (try simp only [Act.put, List.setIfInBounds_toArray, List.set_cons_zero, List.set_cons_succ])
    refine wpAnyH_take (i := 9) (v := ?_) rfl (by kernel_rfl) (by kernel_rfl) (by kernel_rfl) (fun _ _ _ h => h) (Or.inl ⟨by rfl, ?_⟩) (by assumption) ?_
    rotate_left
    · (intro w hSw; (try dsimp only at hSw); go_simp; try (with_reducible rfl))
    (try simp only [Act.put, List.setIfInBounds_toArray, List.set_cons_zero, List.set_cons_succ])
    have gne := oq.base_le.1
    have gcl := oc.base_le.2
    have B2 := B4.trans (hb3.mono B4.size)
    replace oc := oc.below hb3
    replace oq := oq.rebase (base' := w.heap.size) B4.size
    clear hb3 hb4 hb4' c4 c5 l4
    refine wpAnyH_done (by kernel_rfl) ?_ _
    clear E1
    go_wp2_with fail
    have HT := Lib.hid (timesL_len S C r)
    go_loopw [29] (fun i wr => ∃ k : Nat, k ≤ N ∧ i = .int .i64 k ∧ OwnInts wr w.heap.size (.slice (some ⟨p, 0, none⟩) (C.length + 1) (C.length + 1)) (covTo (tAt S C r) (C.length + 1) k) ∧ OwnInts wr w.heap.size (.slice (some ⟨q, 0, none⟩) N N) (timesL S C r) ∧ Below w.heap.size w wr) (fun i _ => N - (intOf i).toNat)
    case atStart => exact ⟨0, Nat.zero_le _, rfl, oc, oq, B2⟩
    case round =>
      clear oc oq B2
      obtain ⟨k, hk, rfl, oc, oq, B2⟩ := hrel
      by_cases hlt : k < N
      · have hck := oq.cell (k := k) (by rw [HT.out, HNN.out]; exact hlt)
        rw [gi_timesA _ _ _ _ (by rw [HNN.out]; exact hlt)] at hck
        obtain ⟨t1, t2⟩ := tAt_bd S C r k
        obtain ⟨u, hu⟩ : ∃ u : Nat, tAt S C r k = (u : Int) := ⟨(tAt S C r k).toNat, by omega⟩
        have huC : u < C.length + 1 := by omega
        have huI : (u : Int) < (C.length : Int) + 1 := by omega
        rw [hu] at hck
        have hcell := oc.cell (k := u) (by rw [covTo_len]; exact huC)
        have hfree := oc.free u
        obtain ⟨b1, b2⟩ := covTo_bd (tAt S C r) (C.length + 1) k u
        have HS1 : Hid (covTo (tAt S C r) (C.length + 1) (k + 1) = (covTo (tAt S C r) (C.length + 1) k).set u (gi (covTo (tAt S C r) (C.length + 1) k) u + 1)) := Lib.hid (by show bump _ (tAt S C r k) = _; unfold bump; rw [hu]; rfl)
        have gq1 := oq.base_le
        have gc1 := oc.base_le
        clear hu t1 t2
        go_wp2
        go_roundw
        case rel => exact ⟨k + 1, by omega, by go_num, by rw [HS1.out]; exact oc.stored u _, oq.kept (grown_setCell (World.grownBy.refl _ _) u _) (.inr (show some q ≠ some p from fun e => by injection e with e; omega)), B2.setCell (by simp; omega) _⟩
        case measure => simp [intOf]; omega
      · have ek : Hid (k = N) := Lib.hid (by omega)
        go_wp2
        go_ret2
        exact ⟨_, by rw [HQ0.out]; try rfl, by rw [HV.out, ← ek.out]; exact oc, B2⟩
  · have hqn : (eCov S C r != 0) = true := by simpa using hq
    have HV : Hid (vCov S C r = []) := Lib.hid (by unfold vCov; rw [if_neg hq])
    clear hq
    go_enter Try.func12, Try.ntmps12
    go_wp2_with fail
    refine (l02Code_any ao S cap hn ac C capc hnc r _ (hS.below B0) (hC.below B0)).mono ?_
    rintro e w1 ⟨rfl, hb⟩
    go_wp2_with fail
    go_ret2
    exact ⟨_, rfl, by rw [HV.out]; exact World.ownsRow_nil _ _ _ _, B0.trans (hb.mono B0.size)⟩

end Go.Proofs.Ytdkgbfmgpmmliab
