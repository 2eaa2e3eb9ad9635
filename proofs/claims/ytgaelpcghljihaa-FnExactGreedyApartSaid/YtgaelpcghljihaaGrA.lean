/-
  The contracts of GreedyApart. By an AI agent.
-/
import Derived.Test.YtgaelpcghljihaaApart
import Derived.Test.YtgaelpcghljihaaCovI
import Derived.Test.YtgaelpcghljihaaTog2
import Derived.Test.YtgaelpcghljihaaSets
namespace Go.Proofs.Ytgaelpcghljihaa
open Go.RowKit Cv
set_option linter.unusedVariables false
set_option linter.unusedSimpArgs false
set_option maxRecDepth 100000

theorem covN_app (S L M : List Int) (r : Int) : covN S (L ++ M) r = fun u => covN S L r u || covN S M r u := by
  funext u; unfold covN unionL; rw [List.map_append, List.any_append]
/-- a word is far from a code just where the code does not cover it -/
theorem far_lacks (S L : List Int) (d : Int) (k : Nat) (hk : k < (nW S).toNat) : farTo S L k d L.length = !covN S L (d - 1) k := by
  rw [farTo_unc, uncP_in, covN_in]
  by_cases h : ∃ c, c ∈ L ∧ dist S (k : Int) c ≤ d - 1
  · simp only [hk, true_and, h, not_true_eq_false, decide_true, decide_false, Bool.not_true]
  · simp only [hk, true_and, h, not_false_eq_true, decide_true, decide_false, Bool.not_false]

set_option maxHeartbeats 2000000 in
theorem spec_GreedyApart (ao : Option Addr) (S : List Int) (cap : Nat) (hn : S.length ≤ 4294967296) (d : Int) (hd : -9223372036854775808 ≤ d ∧ d ≤ 9223372036854775807) (w : World) (hS : Ints w ao S) :
    Calls Try.prog 49 #[.agg #[.slice ao S.length cap], .int .i64 d] w fun e w' => ∃ v, e = .returned (.tuple #[v, .int .i64 (eNum S d 1 9)]) ∧ OwnInts w' w.heap.size v (vGrA S d) ∧ Below w.heap.size w w' := by
  have B0 : Below w.heap.size w (w.alloc (.cells #[.slice ao S.length cap] 24)) := by go_grown
  by_cases he : eNum S d 1 9 = 0
  · obtain ⟨hSp, d1, d9⟩ := eNum_zero he
    obtain ⟨N1, N2⟩ := nW_bd hSp
    obtain ⟨N, hN⟩ : ∃ N : Nat, nW S = (N : Int) := ⟨(nW S).toNat, by omega⟩
    have HN := Lib.hid hN
    have hN2 : N ≤ 1024 := by omega
    have HSp := Lib.hid hSp
    have hen : (eNum S d 1 9 != 0) = false := by simp [he]
    have HE := Lib.hid he
    have HV : Hid (vGrA S d = gaTo S d N) := Lib.hid (by unfold vGrA; rw [if_pos he, hN]; rfl)
    clear he hSp N1 N2 hN
    go_enter Try.func49, Try.ntmps49
    go_wp2_with fail
    refine (l04Code_any ao S cap hn d 1 9 _ (hS.below B0)).mono ?_
    rintro e w1 ⟨rfl, hb⟩
    have c1 := kept_cell hb (cell_new w (.slice ao S.length cap) 24) (lt_alloc _ _)
    have l1 := lt_of_below hb (lt_alloc w (.cells #[.slice ao S.length cap] 24))
    have B1 : Below w.heap.size w w1 := B0.trans (hb.mono B0.size)
    have s1 := B1.size
    have oo := own_empty w1 (w.heap.size + 1) (by omega) rfl
    have B2 := B1.alloc s1 (.cells #[] 2)
    have c2 := kept_cell ((Below.refl w1.heap.size w1).alloc (Nat.le_refl _) (.cells #[] 2)) c1 l1
    clear hb B0 c1 B1
    go_wp2_with fail
    go_loopw [7, 8] (fun v i wr => ∃ k : Nat, k ≤ N ∧ i = .int .i64 k ∧ OwnInts wr (w.heap.size + 1) v (gaTo S d k) ∧ wr.cell? ⟨w.heap.size, 0, none⟩ = some (.slice ao S.length cap) ∧ w.heap.size < wr.heap.size ∧ Below w.heap.size w wr) (fun _ i _ => N - (intOf i).toNat)
    case atStart => exact ⟨0, Nat.zero_le _, rfl, oo, c2, by simp; omega, B2⟩
    case round =>
      clear oo c2 l1 s1 B2
      obtain ⟨k, hk, rfl, own, c, l, B⟩ := hrel
      have hcall := l01N_sp ao S cap wr HSp.out (hS.below B)
      rw [HN.out] at hcall
      by_cases hlt : k < N
      · have hltI : (k : Int) < (N : Int) := by omega
        have hlen := gaTo_len S d k
        have HBD := Lib.hid (gaTo_bd S d k)
        obtain ⟨a1, k1, hv⟩ := own.shape
        subst hv
        go_wp2_with fail
        refine hcall.mono ?_
        rintro e w2 ⟨rfl, hb2⟩
        have c2 := kept_cell hb2 c l
        have l2 := lt_of_below hb2 l
        have B2 := B.trans (hb2.mono B.size)
        replace own := own.below hb2
        clear hb2 c l B hcall
        obtain ⟨P, hP⟩ : ∃ P, P = (gaTo S d k).length := ⟨_, rfl⟩
        have HP := Lib.hid hP
        have hfar := l04Far_n ao S cap HSp.out a1 (gaTo S d k) (gaTo S d k).length k1 (Nat.le_refl _) (by omega) (fun i hi => by have := HBD.out _ (gi_mem hi); omega) (k : Int) ⟨by omega, by omega⟩ d w2 (hS.below B2) (own_ints own)
        rw [← hP] at own hfar ⊢
        cases hf : farTo S (gaTo S d k) k d P with
        | true =>
          rw [hf] at hfar
          have H2 : Hid (gaTo S d (k + 1) = gaTo S d k ++ [(k : Int)]) := Lib.hid (gaTo_yes (by rw [← hP]; exact hf))
          clear hP hf
          go_wp2_with fail
          refine hfar.mono ?_
          rintro e w3 ⟨rfl, hb3⟩
          replace own := own.below hb3
          have c3 := kept_cell hb3 c2 l2
          have l3 := lt_of_below hb3 l2
          have B3 := B2.trans (hb3.mono B2.size)
          have s3 := B3.size
          clear hb3 c2 l2 B2 hfar
          have E0 : IntKind.i64.wrap (k : Int) = (k : Int) := IntWalk.i64_in _ ⟨by omega, by omega⟩
          go_wp2_with (at_builtin; refine wpList_append_int rfl _ _ rfl (w.heap.size + 1) _ _ rfl (own.alloc _) w3.heap.size _ rfl (cell_new _ _ _) (by have := HP.out; omega) (by rw [World.size_alloc]; omega) ?_; intro v' w4 hown' hgrow)
          have hgb := grown_below (B3.alloc s3 _) (by rw [World.size_alloc]; omega) hgrow (own.alloc _) (by omega)
          have c4 : w4.cell? ⟨w.heap.size, 0, none⟩ = some (.slice ao S.length cap) := hgrow.cell (a := ⟨w.heap.size, 0, none⟩) (kept_cell ((Below.refl w3.heap.size w3).alloc (Nat.le_refl _) _) c3 l3) (fun e => by have := World.ownsRow.lt own _ e.symm; simp at this; omega)
          have l4 : w.heap.size < w4.heap.size := by have := hgrow.size; simp at this; omega
          clear own hgrow c3
          go_wp2_with fail
          go_roundw
          case rel => exact ⟨k + 1, by omega, by go_num, by rw [H2.out]; exact hown', c4, l4, hgb⟩
          case measure => simp [intOf]; omega
        | false =>
          rw [hf] at hfar
          have H2 : Hid (gaTo S d (k + 1) = gaTo S d k) := Lib.hid (gaTo_no (by rw [← hP]; exact hf))
          clear hP hf
          go_wp2_with fail
          refine hfar.mono ?_
          rintro e w3 ⟨rfl, hb3⟩
          go_wp2_with fail
          go_roundw
          case rel => exact ⟨k + 1, by omega, by go_num, by rw [H2.out]; exact own.below hb3, kept_cell hb3 c2 l2, lt_of_below hb3 l2, B2.trans (hb3.mono B2.size)⟩
          case measure => simp [intOf]; omega
      · have ek : Hid (k = N) := Lib.hid (by omega)
        have hltI : ¬ (k : Int) < (N : Int) := by omega
        go_wp2_with fail
        refine hcall.mono ?_
        rintro e w2 ⟨rfl, hb2⟩
        go_wp2_with fail
        go_ret2
        exact ⟨_, by rw [HE.out]; try rfl, by rw [HV.out, ← ek.out]; exact (own.below hb2).rebase (by omega), B.trans (hb2.mono B.size)⟩
  · have hen : (eNum S d 1 9 != 0) = true := by simpa using he
    have HV : Hid (vGrA S d = []) := Lib.hid (by unfold vGrA; rw [if_neg he])
    clear he
    go_enter Try.func49, Try.ntmps49
    go_wp2_with fail
    refine (l04Code_any ao S cap hn d 1 9 _ (hS.below B0)).mono ?_
    rintro e w1 ⟨rfl, hb⟩
    go_wp2_with fail
    go_ret2
    exact ⟨_, rfl, by rw [HV.out]; exact own_nil _ _, B0.trans (hb.mono B0.size)⟩

set_option maxHeartbeats 4000000 in
theorem impl_GreedyApart (ao : Option Addr) (S : List Int) (cap : Nat) (hn : S.length ≤ 4294967296) (d : Int) (hd : -9223372036854775808 ≤ d ∧ d ≤ 9223372036854775807) (w : World) (hS : Ints w ao S) :
    Calls Try.prog 50 #[.agg #[.slice ao S.length cap], .int .i64 d] w fun e w' => ∃ v, e = .returned (.tuple #[v, .int .i64 (eNum S d 1 9)]) ∧ OwnInts w' w.heap.size v (vGrA S d) ∧ Below w.heap.size w w' := by
  have B0 : Below w.heap.size w (w.alloc (.cells #[.slice ao S.length cap] 24)) := by go_grown
  by_cases he : eNum S d 1 9 = 0
  · obtain ⟨hSp, d1, d9⟩ := eNum_zero he
    obtain ⟨N1, N2⟩ := nW_bd hSp
    obtain ⟨N, hN⟩ : ∃ N : Nat, nW S = (N : Int) := ⟨(nW S).toNat, by omega⟩
    have HN := Lib.hid hN
    have hN2 : N ≤ 1024 := by omega
    have HSp := Lib.hid hSp
    have hen : (eNum S d 1 9 != 0) = false := by simp [he]
    have HE := Lib.hid he
    have HV : Hid (vGrA S d = gaTo S d N) := Lib.hid (by unfold vGrA; rw [if_pos he, hN]; rfl)
    clear he hSp N1 N2 hN
    go_enter Try.func50, Try.ntmps50
    go_wp2_with fail
    refine (apartError_nil ao S cap hn d _ (hS.below B0)).mono ?_
    rintro e w1 ⟨rfl, hb⟩
    have c1 := kept_cell hb (cell_new w (.slice ao S.length cap) 24) (lt_alloc _ _)
    have l1 := lt_of_below hb (lt_alloc w (.cells #[.slice ao S.length cap] 24))
    have B1 : Below w.heap.size w w1 := B0.trans (hb.mono B0.size)
    have s1 := B1.size
    have oo := own_empty w1 (w.heap.size + 1) (by omega) rfl
    obtain ⟨w2, hw2⟩ : ∃ w2, w2 = (w1.alloc (.cells #[] 2)).alloc (.cells #[.int .u64 0, .int .u64 0, .int .u64 0, .int .u64 0, .int .u64 0, .int .u64 0, .int .u64 0, .int .u64 0, .int .u64 0, .int .u64 0, .int .u64 0, .int .u64 0, .int .u64 0, .int .u64 0, .int .u64 0, .int .u64 0] 96) := ⟨_, rfl⟩
    have hb2 : Below w1.heap.size w1 w2 := by rw [hw2]; go_grown
    have c2e : ((w1.alloc (.cells #[] 2)).alloc (.cells #[.int .u64 0, .int .u64 0, .int .u64 0, .int .u64 0, .int .u64 0, .int .u64 0, .int .u64 0, .int .u64 0, .int .u64 0, .int .u64 0, .int .u64 0, .int .u64 0, .int .u64 0, .int .u64 0, .int .u64 0, .int .u64 0] 96)).cell? ⟨w.heap.size, 0, none⟩ = some (.slice ao S.length cap) := by rw [← hw2]; exact kept_cell hb2 c1 l1
    have z2 : w2.heap.size = w1.heap.size + 1 + 1 := by rw [hw2]; simp
    have B2 := B1.trans (hb2.mono s1)
    have c2 := kept_cell hb2 c1 l1
    have r2 : RowAt w2 (w1.heap.size + 1) (fun _ => false) := by rw [hw2]; exact rowz_new _ (by simp)
    have o2 : OwnInts w2 (w.heap.size + 1) (.slice (some ⟨w1.heap.size, 0, none⟩) 0 0) [] := by rw [hw2]; exact oo.alloc _
    have HW2 := Lib.hid hw2
    clear hb B0 c1 B1 hw2 hb2 oo
    obtain ⟨cb, hcb⟩ : ∃ cb, cb = w1.heap.size + 1 := ⟨_, rfl⟩
    rw [← hcb] at r2
    have HCB := Lib.hid hcb
    clear hcb
    go_wp2_with fail
    clear c2e
    rw [← HW2.out, ← HCB.out]
    have hcall := wordCount_sp ao S cap w2 HSp.out (hS.below B2)
    rw [HN.out] at hcall
    refine hcall.mono ?_
    rintro e w3 ⟨rfl, hb3⟩
    have c3 := kept_cell hb3 c2 (by omega)
    have r3 := r2.below hb3 r2.lt
    have o3 := o2.below hb3
    have B3 := B2.trans (hb3.mono B2.size)
    have s3 := hb3.size
    have k3 : w.heap.size < cb := by have := HCB.out; omega
    clear hb3 c2 r2 o2 B2 hcall HW2 HCB
    go_wp2_with fail
    go_loopw [7, 20] (fun v i wr => ∃ k : Nat, k ≤ N ∧ i = .int .i64 k ∧ OwnInts wr (w.heap.size + 1) v (gaTo S d k) ∧ RowAt wr cb (covN S (gaTo S d k) (d - 1)) ∧ wr.cell? ⟨w.heap.size, 0, none⟩ = some (.slice ao S.length cap) ∧ w.heap.size < wr.heap.size ∧ Below w.heap.size w wr) (fun _ i _ => N - (intOf i).toNat)
    case atStart => exact ⟨0, Nat.zero_le _, rfl, o3, r3, c3, by omega, B3⟩
    case round =>
      clear o3 r3 c3 l1 s1 B3 z2 s3
      obtain ⟨k, hk, rfl, own, hr, c, l, B⟩ := hrel
      by_cases hlt : k < N
      · have hltI : (k : Int) < (N : Int) := by omega
        have hlen := gaTo_len S d k
        have hl16 := lacks_any (covN S (gaTo S d k) (d - 1)) k (by omega) wr
        have hfl := far_lacks S (gaTo S d k) d k (by rw [HN.out]; exact hlt)
        cases hf : covN S (gaTo S d k) (d - 1) k with
        | false =>
          rw [hf] at hl16
          have H2 : Hid (gaTo S d (k + 1) = gaTo S d k ++ [(k : Int)]) := Lib.hid (gaTo_yes (by rw [hfl, hf]; rfl))
          clear hf hfl
          go_wp2_with (first | (refine wpList_ld16 rfl _ rfl hr rfl ?_))
          refine hl16.mono ?_
          rintro e w4 ⟨rfl, hb4⟩
          replace own := own.below hb4
          have c4 := kept_cell hb4 c l
          have l4 := lt_of_below hb4 l
          have r4 := hr.below hb4 hr.lt
          have B4 := B.trans (hb4.mono B.size)
          have s4 := B4.size
          clear hb4 c l B hl16 hr
          have E0 : IntKind.i64.wrap (k : Int) = (k : Int) := IntWalk.i64_in _ ⟨by omega, by omega⟩
          obtain ⟨P, hP⟩ : ∃ P, P = (gaTo S d k).length := ⟨_, rfl⟩
          have HP := Lib.hid hP
          clear hP hlen
          have hown4 := own
          go_wp2_with (at_builtin; refine wpList_append_int rfl _ _ rfl (w.heap.size + 1) _ _ rfl (own.alloc _) w4.heap.size _ rfl (cell_new _ _ _) (by have := gaTo_len S d k; omega) (by rw [World.size_alloc]; omega) ?_; intro v' w5 hown' hgrow)
          have B5 := grown_below (B4.alloc s4 _) (by rw [World.size_alloc]; omega) hgrow (own.alloc _) (by omega)
          have c5 : w5.cell? ⟨w.heap.size, 0, none⟩ = some (.slice ao S.length cap) := hgrow.cell (a := ⟨w.heap.size, 0, none⟩) (kept_cell ((Below.refl w4.heap.size w4).alloc (Nat.le_refl _) _) c4 l4) (fun e => by have := World.ownsRow.lt own _ e.symm; simp at this; omega)
          have l5 : w.heap.size < w5.heap.size := by have := hgrow.size; simp at this; omega
          have r5 : RowAt w5 cb (covN S (gaTo S d k) (d - 1)) := by unfold RowAt; rw [hgrow.block cb (by have := r4.lt; simp; omega) (fun e => own_not_set own r4 e.symm)]; exact (r4.alloc _)
          rw [← H2.out] at hown'
          have HC : Hid (covN S (gaTo S d (k + 1)) (d - 1) = fun u => covN S (gaTo S d k) (d - 1) u || covN S [(k : Int)] (d - 1) u) := Lib.hid (by rw [H2.out, covN_app])
          have E1 : IntKind.i64.wrap (d - 1) = d - 1 := IntWalk.i64_in _ ⟨by omega, by omega⟩
          have hk1 : ∀ i, i < ([(k : Int)] : List Int).length → 0 ≤ gi [(k : Int)] i ∧ gi [(k : Int)] i ≤ 9223372036854775807 := fun i hi => by
            have e : i = 0 := by simpa using hi
            subst e
            exact ⟨by show (0 : Int) ≤ (k : Int); omega, by show (k : Int) ≤ _; omega⟩
          have rD : RowAt w5.drew cb (covN S (gaTo S d k) (d - 1)) := r5
          clear own hown4 hgrow c4 r4 B4 l4 s4
          go_wp2_with fail
          refine wp_region_held_drew (S := fun w' => w'.cell? ⟨w.heap.size, 0, none⟩ = some (.slice ao S.length cap)) (by kernel_rfl) c5 (fun hHeld => ?_)
          refine wpAnyH_take (i := 1) (v := ?_) rfl (by kernel_rfl) (by kernel_rfl) (by kernel_rfl) (fun _ _ _ h => h) (Or.inl ⟨by rfl, ?_⟩) (by assumption) ?_
          rotate_left
          · (intro w hSw; (try dsimp only at hSw); go_simp; try (with_reducible rfl))
          (try simp only [Act.put, List.setIfInBounds_toArray, List.set_cons_zero, List.set_cons_succ])
          refine wpAnyH_take (i := 2) (v := ?_) rfl (by kernel_rfl) (by kernel_rfl) (by kernel_rfl) (fun _ _ _ h => h) (Or.inl ⟨by rfl, ?_⟩) (by assumption) ?_
          rotate_left
          · (intro w hSw; (try dsimp only at hSw); go_simp; try (with_reducible rfl))
          (try simp only [Act.put, List.setIfInBounds_toArray, List.set_cons_zero, List.set_cons_succ])
          refine wpAnyH_take (i := 4) (v := ?_) rfl (by kernel_rfl) (by kernel_rfl) (by kernel_rfl) (fun _ _ _ h => h) (Or.inl ⟨by rfl, ?_⟩) (by assumption) ?_
          rotate_left
          · (intro w hSw; (try dsimp only at hSw); go_simp; try (with_reducible rfl))
          (try simp only [Act.put, List.setIfInBounds_toArray, List.set_cons_zero, List.set_cons_succ])
          refine wpAnyH_take (i := 5) (v := ?_) rfl (by kernel_rfl) (by kernel_rfl) (by kernel_rfl) (fun _ _ _ h => h) (Or.inl ⟨by rfl, ?_⟩) (by assumption) ?_
          rotate_left
          · (intro w hSw; (try dsimp only at hSw); go_simp; try (with_reducible rfl))
          (try simp only [Act.put, List.setIfInBounds_toArray, List.set_cons_zero, List.set_cons_succ])
          refine wpAnyH_ready (rs := [0, 3]) (by kernel_rfl) (by simp) ?_
          refine AllReadyH.cons rfl (fun K hK => ?_) ?_
          · refine wp_ld16 (.tmp 8) rfl rD rfl ?_
            refine hK.out _ _ (c5) (fun hHeld => ?_)
            clear hK K
            (try simp only [Act.put, List.setIfInBounds_toArray, List.set_cons_zero, List.set_cons_succ])
            refine wpAnyH_ready (rs := [3]) (by kernel_rfl) (by simp) ?_
            refine AllReadyH.cons rfl (fun K hK => ?_) AllReadyH.nil
            go_simp
            refine hK.out _ _ (kept_cell ((Below.refl w5.drew.heap.size w5.drew).alloc (Nat.le_refl _) _) c5 l5) (fun hHeld => ?_)
            clear hK K
            (try simp only [Act.put, List.setIfInBounds_toArray, List.set_cons_zero, List.set_cons_succ])
            refine wpAnyH_ready (rs := [6]) (by kernel_rfl) (by simp) ?_
            refine AllReadyH.cons rfl (fun K hK => ?_) AllReadyH.nil
            go_simp
            (go_at_call 90; refine (coveredWords_any ao S cap HSp.out (some ⟨w5.heap.size, 0, none⟩) [(k : Int)] 1 (by simp) hk1 (d - 1) (by omega) (by omega) _ (hS.below ((B5.drew).alloc (by have := B5.size; simpa using this) _)) (ints_new1 _ (k : Int) _ (by simp))).mono ?_)
            rintro e w6 ⟨rfl, hb6⟩
            have h56 : Below w5.heap.size w5 w6 := Below.trans (((Below.refl w5.heap.size w5).drew).alloc (Nat.le_refl _) _) (hb6.mono (by simp))
            have c6 := kept_cell h56 c5 l5
            have r6 := r5.below h56 r5.lt
            have l6 := lt_of_below h56 l5
            have B6 := B5.trans (h56.mono B5.size)
            have o6 := hown'.below h56
            clear hb6
            refine hK.out _ _ (c6) (fun hHeld => ?_)
            clear hK K
            (try simp only [Act.put, List.setIfInBounds_toArray, List.set_cons_zero, List.set_cons_succ])
            refine wpAnyH_ready (rs := [7]) (by kernel_rfl) (by simp) ?_
            refine AllReadyH.cons rfl (fun K hK => ?_) AllReadyH.nil
            go_simp
            (go_at_call 110; refine (with_any (covN S (gaTo S d k) (d - 1)) (covN S [(k : Int)] (d - 1)) w6).mono ?_)
            rintro e w7 ⟨rfl, hb7⟩
            have c7 := kept_cell hb7 c6 l6
            have r7 := r6.below hb7 r6.lt
            have l7 := lt_of_below hb7 l6
            have B7 := B6.trans (hb7.mono B6.size)
            have o7 := o6.below hb7
            clear hb7
            refine hK.out _ _ (c7) (fun hHeld => ?_)
            clear hK K
            (try simp only [Act.put, List.setIfInBounds_toArray, List.set_cons_zero, List.set_cons_succ])
            refine wpAnyH_ready (rs := [8]) (by kernel_rfl) (by simp) ?_
            refine AllReadyH.cons rfl (fun K hK => ?_) AllReadyH.nil
            refine wp_st16 (.tmp 8) (.tmp 37) rfl r7 (fun u => covN S (gaTo S d k) (d - 1) u || covN S [(k : Int)] (d - 1) u) rfl rfl ?_
            have g8 := grown_setRow (w := w7) (b := cb) (setA fun u => covN S (gaTo S d k) (d - 1) u || covN S [(k : Int)] (d - 1) u)
            have c8 : (w7.setRow cb (setA fun u => covN S (gaTo S d k) (d - 1) u || covN S [(k : Int)] (d - 1) u)).cell? ⟨w.heap.size, 0, none⟩ = some (.slice ao S.length cap) := g8.cell (a := ⟨w.heap.size, 0, none⟩) c7 (fun e => by have e2 := Option.some.inj e; simp at e2; omega)
            refine hK.out _ _ (c8) (fun hHeld => ?_)
            clear hK K
            (try simp only [Act.put, List.setIfInBounds_toArray, List.set_cons_zero, List.set_cons_succ])
            refine wpAnyH_done (by kernel_rfl) ?_ _
            go_wp2_with fail
            go_roundw
            case rel => exact ⟨k + 1, by omega, by go_num, o7.kept g8 (.inr fun e => own_not_set o7 r7 e), by rw [HC.out]; exact row_set r7, c8, by have := g8.size; omega, B7.grown g8 B7.size fun j hj => by cases hj; omega⟩
            case measure => simp [intOf]; omega
          refine AllReadyH.cons rfl (fun K hK => ?_) AllReadyH.nil
          go_simp
          refine hK.out _ _ (kept_cell ((Below.refl w5.drew.heap.size w5.drew).alloc (Nat.le_refl _) _) c5 l5) (fun hHeld => ?_)
          clear hK K
          (try simp only [Act.put, List.setIfInBounds_toArray, List.set_cons_zero, List.set_cons_succ])
          have rA := r5.below (((Below.refl w5.heap.size w5).drew).alloc (Nat.le_refl _) (.cells #[.int .i64 (k : Int)] 2)) r5.lt
          refine wpAnyH_ready (rs := [0, 6]) (by kernel_rfl) (by simp) ?_
          refine AllReadyH.cons rfl (fun K hK => ?_) ?_
          · refine wp_ld16 (.tmp 8) rfl rA rfl ?_
            refine hK.out _ _ (kept_cell ((Below.refl w5.drew.heap.size w5.drew).alloc (Nat.le_refl _) _) c5 l5) (fun hHeld => ?_)
            clear hK K
            (try simp only [Act.put, List.setIfInBounds_toArray, List.set_cons_zero, List.set_cons_succ])
            refine wpAnyH_ready (rs := [6]) (by kernel_rfl) (by simp) ?_
            refine AllReadyH.cons rfl (fun K hK => ?_) AllReadyH.nil
            go_simp
            (go_at_call 90; refine (coveredWords_any ao S cap HSp.out (some ⟨w5.heap.size, 0, none⟩) [(k : Int)] 1 (by simp) hk1 (d - 1) (by omega) (by omega) _ (hS.below ((B5.drew).alloc (by have := B5.size; simpa using this) _)) (ints_new1 _ (k : Int) _ (by simp))).mono ?_)
            rintro e w6 ⟨rfl, hb6⟩
            have h56 : Below w5.heap.size w5 w6 := Below.trans (((Below.refl w5.heap.size w5).drew).alloc (Nat.le_refl _) _) (hb6.mono (by simp))
            have c6 := kept_cell h56 c5 l5
            have r6 := r5.below h56 r5.lt
            have l6 := lt_of_below h56 l5
            have B6 := B5.trans (h56.mono B5.size)
            have o6 := hown'.below h56
            clear hb6
            refine hK.out _ _ (c6) (fun hHeld => ?_)
            clear hK K
            (try simp only [Act.put, List.setIfInBounds_toArray, List.set_cons_zero, List.set_cons_succ])
            refine wpAnyH_ready (rs := [7]) (by kernel_rfl) (by simp) ?_
            refine AllReadyH.cons rfl (fun K hK => ?_) AllReadyH.nil
            go_simp
            (go_at_call 110; refine (with_any (covN S (gaTo S d k) (d - 1)) (covN S [(k : Int)] (d - 1)) w6).mono ?_)
            rintro e w7 ⟨rfl, hb7⟩
            have c7 := kept_cell hb7 c6 l6
            have r7 := r6.below hb7 r6.lt
            have l7 := lt_of_below hb7 l6
            have B7 := B6.trans (hb7.mono B6.size)
            have o7 := o6.below hb7
            clear hb7
            refine hK.out _ _ (c7) (fun hHeld => ?_)
            clear hK K
            (try simp only [Act.put, List.setIfInBounds_toArray, List.set_cons_zero, List.set_cons_succ])
            refine wpAnyH_ready (rs := [8]) (by kernel_rfl) (by simp) ?_
            refine AllReadyH.cons rfl (fun K hK => ?_) AllReadyH.nil
            refine wp_st16 (.tmp 8) (.tmp 37) rfl r7 (fun u => covN S (gaTo S d k) (d - 1) u || covN S [(k : Int)] (d - 1) u) rfl rfl ?_
            have g8 := grown_setRow (w := w7) (b := cb) (setA fun u => covN S (gaTo S d k) (d - 1) u || covN S [(k : Int)] (d - 1) u)
            have c8 : (w7.setRow cb (setA fun u => covN S (gaTo S d k) (d - 1) u || covN S [(k : Int)] (d - 1) u)).cell? ⟨w.heap.size, 0, none⟩ = some (.slice ao S.length cap) := g8.cell (a := ⟨w.heap.size, 0, none⟩) c7 (fun e => by have e2 := Option.some.inj e; simp at e2; omega)
            refine hK.out _ _ (c8) (fun hHeld => ?_)
            clear hK K
            (try simp only [Act.put, List.setIfInBounds_toArray, List.set_cons_zero, List.set_cons_succ])
            refine wpAnyH_done (by kernel_rfl) ?_ _
            go_wp2_with fail
            go_roundw
            case rel => exact ⟨k + 1, by omega, by go_num, o7.kept g8 (.inr fun e => own_not_set o7 r7 e), by rw [HC.out]; exact row_set r7, c8, by have := g8.size; omega, B7.grown g8 B7.size fun j hj => by cases hj; omega⟩
            case measure => simp [intOf]; omega
          refine AllReadyH.cons rfl (fun K hK => ?_) AllReadyH.nil
          go_simp
          (go_at_call 90; refine (coveredWords_any ao S cap HSp.out (some ⟨w5.heap.size, 0, none⟩) [(k : Int)] 1 (by simp) hk1 (d - 1) (by omega) (by omega) _ (hS.below ((B5.drew).alloc (by have := B5.size; simpa using this) _)) (ints_new1 _ (k : Int) _ (by simp))).mono ?_)
          rintro e w6 ⟨rfl, hb6⟩
          have h56 : Below w5.heap.size w5 w6 := Below.trans (((Below.refl w5.heap.size w5).drew).alloc (Nat.le_refl _) _) (hb6.mono (by simp))
          have c6 := kept_cell h56 c5 l5
          have r6 := r5.below h56 r5.lt
          have l6 := lt_of_below h56 l5
          have B6 := B5.trans (h56.mono B5.size)
          have o6 := hown'.below h56
          clear hb6
          refine hK.out _ _ (c6) (fun hHeld => ?_)
          clear hK K
          (try simp only [Act.put, List.setIfInBounds_toArray, List.set_cons_zero, List.set_cons_succ])
          refine wpAnyH_ready (rs := [0]) (by kernel_rfl) (by simp) ?_
          refine AllReadyH.cons rfl (fun K hK => ?_) AllReadyH.nil
          refine wp_ld16 (.tmp 8) rfl r6 rfl ?_
          refine hK.out _ _ (c6) (fun hHeld => ?_)
          clear hK K
          (try simp only [Act.put, List.setIfInBounds_toArray, List.set_cons_zero, List.set_cons_succ])
          refine wpAnyH_ready (rs := [7]) (by kernel_rfl) (by simp) ?_
          refine AllReadyH.cons rfl (fun K hK => ?_) AllReadyH.nil
          go_simp
          (go_at_call 110; refine (with_any (covN S (gaTo S d k) (d - 1)) (covN S [(k : Int)] (d - 1)) w6).mono ?_)
          rintro e w7 ⟨rfl, hb7⟩
          have c7 := kept_cell hb7 c6 l6
          have r7 := r6.below hb7 r6.lt
          have l7 := lt_of_below hb7 l6
          have B7 := B6.trans (hb7.mono B6.size)
          have o7 := o6.below hb7
          clear hb7
          refine hK.out _ _ (c7) (fun hHeld => ?_)
          clear hK K
          (try simp only [Act.put, List.setIfInBounds_toArray, List.set_cons_zero, List.set_cons_succ])
          refine wpAnyH_ready (rs := [8]) (by kernel_rfl) (by simp) ?_
          refine AllReadyH.cons rfl (fun K hK => ?_) AllReadyH.nil
          refine wp_st16 (.tmp 8) (.tmp 37) rfl r7 (fun u => covN S (gaTo S d k) (d - 1) u || covN S [(k : Int)] (d - 1) u) rfl rfl ?_
          have g8 := grown_setRow (w := w7) (b := cb) (setA fun u => covN S (gaTo S d k) (d - 1) u || covN S [(k : Int)] (d - 1) u)
          have c8 : (w7.setRow cb (setA fun u => covN S (gaTo S d k) (d - 1) u || covN S [(k : Int)] (d - 1) u)).cell? ⟨w.heap.size, 0, none⟩ = some (.slice ao S.length cap) := g8.cell (a := ⟨w.heap.size, 0, none⟩) c7 (fun e => by have e2 := Option.some.inj e; simp at e2; omega)
          refine hK.out _ _ (c8) (fun hHeld => ?_)
          clear hK K
          (try simp only [Act.put, List.setIfInBounds_toArray, List.set_cons_zero, List.set_cons_succ])
          refine wpAnyH_done (by kernel_rfl) ?_ _
          go_wp2_with fail
          go_roundw
          case rel => exact ⟨k + 1, by omega, by go_num, o7.kept g8 (.inr fun e => own_not_set o7 r7 e), by rw [HC.out]; exact row_set r7, c8, by have := g8.size; omega, B7.grown g8 B7.size fun j hj => by cases hj; omega⟩
          case measure => simp [intOf]; omega
        | true =>
          rw [hf] at hl16
          have H2 : Hid (gaTo S d (k + 1) = gaTo S d k) := Lib.hid (gaTo_no (by rw [hfl, hf]; rfl))
          clear hf hfl
          go_wp2_with (first | (refine wpList_ld16 rfl _ rfl hr rfl ?_))
          refine hl16.mono ?_
          rintro e w4 ⟨rfl, hb4⟩
          go_wp2_with fail
          go_roundw
          case rel => exact ⟨k + 1, by omega, by go_num, by rw [H2.out]; exact own.below hb4, by rw [H2.out]; exact hr.below hb4 hr.lt, kept_cell hb4 c l, lt_of_below hb4 l, B.trans (hb4.mono B.size)⟩
          case measure => simp [intOf]; omega
      · have ek : Hid (k = N) := Lib.hid (by omega)
        have hltI : ¬ (k : Int) < (N : Int) := by omega
        go_wp2_with fail
        go_ret2
        exact ⟨_, by rw [HE.out]; try rfl, by rw [HV.out, ← ek.out]; exact own.rebase (by omega), B⟩
  · have hen : (eNum S d 1 9 != 0) = true := by simpa using he
    have HV : Hid (vGrA S d = []) := Lib.hid (by unfold vGrA; rw [if_neg he])
    clear he
    go_enter Try.func50, Try.ntmps50
    go_wp2_with fail
    refine (apartError_nil ao S cap hn d _ (hS.below B0)).mono ?_
    rintro e w1 ⟨rfl, hb⟩
    go_wp2_with fail
    go_ret2
    exact ⟨_, rfl, by rw [HV.out]; exact own_nil _ _, B0.trans (hb.mono B0.size)⟩

end Go.Proofs.Ytgaelpcghljihaa
