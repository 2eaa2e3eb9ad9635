/-
  The contracts of the model of TakeOutPlace. By an AI agent.
-/
import Derived.Test.YtpmeccpagndifaaTkS
namespace Go.Proofs.Ytpmeccpagndifaa
open Go.RowKit Go.Shelf Cv
set_option linter.unusedVariables false
set_option linter.unusedSimpArgs false
set_option maxRecDepth 100000

theorem l03Place_any (ao : Option Addr) (S : List Int) (cap : Nat) (hn : S.length ≤ 4294967296) (ac : Option Addr) (C : List Int) (capc : Nat) (hnc : C.length ≤ 4294967296) (i : Int) (w : World) (hS : Ints w ao S) (hC : Ints w ac C) :
    Calls Try.prog 59 #[.agg #[.slice ao S.length cap], .slice ac C.length capc, .int .i64 i] w fun e w' => e = .returned (.int .i64 (ePlc S C i)) ∧ Below w.heap.size w w' := by
  have B0 : Below w.heap.size w (w.alloc (.cells #[.slice ao S.length cap] 28)) := by go_grown
  have c0 := cell_new w (.slice ao S.length cap) 28
  have l0 := lt_alloc w (.cells #[.slice ao S.length cap] 28)
  have h1 := l01Given_any ao S cap hn ac C capc hnc _ (hS.below B0) (hC.below B0)
  have E0 : IntKind.i64.wrap ((S.length : Int) - 1) = (S.length : Int) - 1 := IntWalk.i64_in _ ⟨by omega, by omega⟩
  by_cases hz : eCode S C = 0
  · rw [hz] at h1
    have H1 := Lib.hid h1
    clear h1
    cases hin : inB i 0 ((S.length : Int) - 1) with
    | true =>
      have HR : Hid (ePlc S C i = 0) := Lib.hid (by
        unfold inB at hin; simp only [Bool.and_eq_true, decide_eq_true_eq] at hin
        unfold ePlc; rw [if_pos hz, if_pos (by omega)])
      clear hz
      go_enter Try.func59, Try.ntmps59
      go_wp2_with fail
      refine H1.out.mono ?_
      rintro e w1 ⟨rfl, hb⟩
      have c1 := kept_cell hb c0 l0
      have hI := l01In_any i 0 ((S.length : Int) - 1) w1
      rw [hin] at hI
      go_wp2_with fail
      refine hI.mono ?_
      rintro e w2 ⟨rfl, rfl⟩
      go_wp2_with fail
      go_ret
      exact ⟨ret_int HR.out.symm, B0.trans (hb.mono B0.size)⟩
    | false =>
      have HR : Hid (ePlc S C i = 2) := Lib.hid (by
        unfold inB at hin; simp only [Bool.and_eq_false_iff, decide_eq_false_iff_not] at hin
        unfold ePlc; rw [if_pos hz, if_neg (by omega)])
      clear hz
      go_enter Try.func59, Try.ntmps59
      go_wp2_with fail
      refine H1.out.mono ?_
      rintro e w1 ⟨rfl, hb⟩
      have c1 := kept_cell hb c0 l0
      have hI := l01In_any i 0 ((S.length : Int) - 1) w1
      rw [hin] at hI
      go_wp2_with fail
      refine hI.mono ?_
      rintro e w2 ⟨rfl, rfl⟩
      go_wp2_with fail
      go_ret
      exact ⟨ret_int HR.out.symm, B0.trans (hb.mono B0.size)⟩
  · have HR : Hid (ePlc S C i = eCode S C) := Lib.hid (by unfold ePlc; rw [if_neg hz])
    have hq : (eCode S C == 0) = false := by simpa using hz
    clear hz
    go_enter Try.func59, Try.ntmps59
    go_wp2_with fail
    refine h1.mono ?_
    rintro e w1 ⟨rfl, hb⟩
    go_wp2_with fail
    go_ret
    exact ⟨ret_int HR.out.symm, B0.trans (hb.mono B0.size)⟩

set_option maxHeartbeats 4000000 in
theorem spec_TakeOutPlace_e1 (as0 : Addr) (S : List Int) (cap : Nat) (hn : S.length ≤ 4294967296) (ac : Addr) (C : List Int) (capc : Nat) (hnc : C.length ≤ 4294967296) (i : Int) (w : World) (hS : Ints w (some as0) S) (hC : Ints w (some ac) C) (E : Int) (hE : ePlc S C i = E) (hE0 : E ≠ 0) :
    Calls Try.prog 30 #[.agg #[.slice (some as0) S.length cap], .slice (some ac) C.length capc, .int .i64 i] w fun e w' => ∃ m vs v, e = .returned (.tuple #[.agg #[vs], v, .int .i64 (eTk S C i)]) ∧ w.heap.size ≤ m ∧ RowIn vs w.heap.size m ∧ OwnInts w' w.heap.size vs (vTkS S C i) ∧ OwnInts w' m v (vTkC S C i) ∧ m ≤ w'.heap.size ∧ Below w.heap.size w w' := by
  obtain ⟨W0, hW0, cS, rR, z0, B0⟩ := box2k w (.slice (some as0) S.length cap) (.slice none 0 0) 28
  have HW0 := Lib.hid hW0
  have z0a : w.heap.size + 2 ≤ W0.heap.size := by omega
  have hEb : (E != 0) = true := by simpa using hE0
  have hEc : (E == 0) = false := by simpa using hE0
  have HE : Hid (eTk S C i = E) := Lib.hid (by unfold eTk; rw [if_neg (by rw [hE]; exact hE0), hE])
  have HS0 : Hid (vTkS S C i = []) := Lib.hid (by unfold vTkS; rw [if_neg (by rw [HE.out]; exact hE0)])
  have HC0 : Hid (vTkC S C i = []) := Lib.hid (by unfold vTkC; rw [if_neg (by rw [HE.out]; exact hE0)])
  have h1 := l03Place_any (some as0) S cap hn (some ac) C capc hnc i W0 (hS.below B0) (hC.below B0)
  rw [hE] at h1
  have H1 := Lib.hid h1
  clear hW0 z0 hE hE0 h1
  go_enter Try.func30, Try.ntmps30
  go_wp2_with fail
  rw [← HW0.out]
  refine H1.out.mono ?_
  rintro e w1 ⟨rfl, hb1⟩
  have s1 : w.heap.size + 2 ≤ w1.heap.size := by have := hb1.size; omega
  have cS1 := kept_cell hb1 cS (by omega)
  have rR1 := row_below rR hb1 (by omega)
  have B1 := B0.trans (hb1.mono (by omega))
  clear H1 hb1
  have rc : w1.cell? ⟨w.heap.size + 1, 0, none⟩ = some (.slice none 0 0) := by rw [cell_of_row w1 (w.heap.size + 1) 0 _ _ _ rR1]; rfl
  have rf : w1.frozen? ⟨w.heap.size + 1, 0, none⟩ = false := by have h' := rR1; simp [World.frozen?, h']
  have rs : (w1.setCell ⟨w.heap.size + 1, 0, none⟩ (.slice none 0 0)).cell? ⟨w.heap.size + 1, 0, none⟩ = some (.slice none 0 0) := World.cell?_setCell_same' _ _ _ (by rw [rc]; rfl)
  have B9 : Below w.heap.size w (w1.setCell ⟨w.heap.size + 1, 0, none⟩ (.slice none 0 0)) := B1.setCell (show w.heap.size ≤ w.heap.size + 1 by omega) _
  go_wp2_with fail
  refine bodyPost_ret (by rw [results_cell_tmp2k rfl]; go_simp; try rfl) rfl ?_
  exact ⟨w.heap.size, .slice none 0 0, _, by rw [HE.out], Nat.le_refl _, fun k hk => (by cases hk), by rw [HS0.out]; exact own_nil _ _, by rw [HC0.out]; exact own_nil _ _, B9.size, B9⟩

set_option maxHeartbeats 4000000 in
theorem spec_TakeOutPlace_e2 (as0 : Addr) (S : List Int) (cap : Nat) (hn : S.length ≤ 4294967296) (ac : Addr) (C : List Int) (capc : Nat) (hnc : C.length ≤ 4294967296) (i : Int) (w : World) (hS : Ints w (some as0) S) (hC : Ints w (some ac) C) (hE : ePlc S C i = 0) (hone : S.length = 1) :
    Calls Try.prog 30 #[.agg #[.slice (some as0) S.length cap], .slice (some ac) C.length capc, .int .i64 i] w fun e w' => ∃ m vs v, e = .returned (.tuple #[.agg #[vs], v, .int .i64 (eTk S C i)]) ∧ w.heap.size ≤ m ∧ RowIn vs w.heap.size m ∧ OwnInts w' w.heap.size vs (vTkS S C i) ∧ OwnInts w' m v (vTkC S C i) ∧ m ≤ w'.heap.size ∧ Below w.heap.size w w' := by
  obtain ⟨W0, hW0, cS, rR, z0, B0⟩ := box2k w (.slice (some as0) S.length cap) (.slice none 0 0) 28
  have HW0 := Lib.hid hW0
  have z0a : w.heap.size + 2 ≤ W0.heap.size := by omega
  have HE : Hid (eTk S C i = 5) := Lib.hid (by unfold eTk; rw [if_pos hE, if_pos hone])
  have HS0 : Hid (vTkS S C i = []) := Lib.hid (by unfold vTkS; rw [if_neg (by rw [HE.out]; decide)])
  have HC0 : Hid (vTkC S C i = []) := Lib.hid (by unfold vTkC; rw [if_neg (by rw [HE.out]; decide)])
  have h1 := l03Place_any (some as0) S cap hn (some ac) C capc hnc i W0 (hS.below B0) (hC.below B0)
  rw [hE] at h1
  have hl1 : ((S.length : Int) == 1) = true := by simp [hone]
  obtain ⟨n, hnn⟩ : ∃ n, n = S.length := ⟨_, rfl⟩
  rw [← hnn] at h1 hl1 hone cS hW0 ⊢
  replace HW0 := Lib.hid hW0
  have H1 := Lib.hid h1
  clear hW0 z0 hE h1 hone hnn
  go_enter Try.func30, Try.ntmps30
  go_wp2_with fail
  rw [← HW0.out]
  refine H1.out.mono ?_
  rintro e w1 ⟨rfl, hb1⟩
  have s1 : w.heap.size + 2 ≤ w1.heap.size := by have := hb1.size; omega
  have cS1 := kept_cell hb1 cS (by omega)
  have rR1 := row_below rR hb1 (by omega)
  have B1 := B0.trans (hb1.mono (by omega))
  clear H1 hb1
  have rc : w1.cell? ⟨w.heap.size + 1, 0, none⟩ = some (.slice none 0 0) := by rw [cell_of_row w1 (w.heap.size + 1) 0 _ _ _ rR1]; rfl
  have rf : w1.frozen? ⟨w.heap.size + 1, 0, none⟩ = false := by have h' := rR1; simp [World.frozen?, h']
  have rs : (w1.setCell ⟨w.heap.size + 1, 0, none⟩ (.slice none 0 0)).cell? ⟨w.heap.size + 1, 0, none⟩ = some (.slice none 0 0) := World.cell?_setCell_same' _ _ _ (by rw [rc]; rfl)
  have B9 : Below w.heap.size w (w1.setCell ⟨w.heap.size + 1, 0, none⟩ (.slice none 0 0)) := B1.setCell (show w.heap.size ≤ w.heap.size + 1 by omega) _
  go_wp2_with fail
  refine bodyPost_ret (by rw [results_cell_tmp2k rfl]; go_simp; try rfl) rfl ?_
  exact ⟨w.heap.size, .slice none 0 0, _, by rw [HE.out], Nat.le_refl _, fun k hk => (by cases hk), by rw [HS0.out]; exact own_nil _ _, by rw [HC0.out]; exact own_nil _ _, B9.size, B9⟩

set_option maxHeartbeats 4000000 in
theorem spec_TakeOutPlace_ok (as0 : Addr) (S : List Int) (cap : Nat) (hn : S.length ≤ 4294967296) (hcap : S.length ≤ cap) (ac : Addr) (C : List Int) (capc : Nat) (hnc : C.length ≤ 4294967296) (k : Nat) (w : World) (hS : Ints w (some as0) S) (hC : Ints w (some ac) C) (hE : ePlc S C k = 0) (hone : S.length ≠ 1) :
    Calls Try.prog 30 #[.agg #[.slice (some as0) S.length cap], .slice (some ac) C.length capc, .int .i64 (k : Int)] w fun e w' => ∃ m vs v, e = .returned (.tuple #[.agg #[vs], v, .int .i64 (eTk S C k)]) ∧ w.heap.size ≤ m ∧ RowIn vs w.heap.size m ∧ OwnInts w' w.heap.size vs (vTkS S C k) ∧ OwnInts w' m v (vTkC S C k) ∧ m ≤ w'.heap.size ∧ Below w.heap.size w w' := by
  obtain ⟨W0, hW0, cS, rR, z0, B0⟩ := box2k w (.slice (some as0) S.length cap) (.slice none 0 0) 28
  have HW0 := Lib.hid hW0
  have z0a : w.heap.size + 2 ≤ W0.heap.size := by omega
  have HE : Hid (eTk S C k = 0) := Lib.hid (by unfold eTk; rw [if_pos hE, if_neg hone])
  have HS0 : Hid (vTkS S C k = dropI k S) := Lib.hid (by unfold vTkS; rw [if_pos HE.out, Int.toNat_natCast])
  have HC0 : Hid (vTkC S C k = outTo S C k (-1) C.length) := Lib.hid (by unfold vTkC; rw [if_pos HE.out, Int.toNat_natCast])
  obtain ⟨hc0, k0, k1⟩ := ePlc_zero hE
  obtain ⟨hSp, c1, c2⟩ := eCode_zero hc0
  have hlc := code_len0 hc0
  have N := nW_bd hSp
  have hlo := hSp.lo
  have HW := Lib.hid (fun (W : World) (h1 : Ints W (some as0) S) => l03Without_any as0 S cap k hcap hSp.hi (by omega) (by omega) W h1)
  have HO := Lib.hid (fun (W : World) (h1 : Ints W (some as0) S) (h2 : Ints W (some ac) C) => l03Out_any as0 S cap hcap hSp (by omega) ac C capc hlc (fun j hj => by have := c1 j hj; omega) k (by omega) (-1) W h1 h2)
  have h1 := l03Place_any (some as0) S cap hn (some ac) C capc hnc k W0 (hS.below B0) (hC.below B0)
  rw [hE] at h1
  have hl1 : ((S.length : Int) == 1) = false := by simpa using fun h : (S.length : Int) = 1 => hone (by omega)
  have H1 := Lib.hid h1
  clear hW0 z0 hE h1 hone c1 c2 hc0 hSp
  go_enter Try.func30, Try.ntmps30
  go_wp2_with fail
  rw [← HW0.out]
  refine H1.out.mono ?_
  rintro e w1 ⟨rfl, hb1⟩
  have s1 : w.heap.size + 2 ≤ w1.heap.size := by have := hb1.size; omega
  have cS1 := kept_cell hb1 cS (by omega)
  have rR1 := row_below rR hb1 (by omega)
  have B1 := B0.trans (hb1.mono (by omega))
  clear H1 hb1 cS rR B0
  go_wp2_with fail
  refine wp_region_held_drew (S := fun w' => w'.cell? ⟨w.heap.size, 0, none⟩ = some (.slice (some as0) S.length cap)) (by kernel_rfl) cS1 (fun hHeld => ?_)
  refine wpAnyH_take (i := 0) (v := ?_) rfl (by kernel_rfl) (by kernel_rfl) (by kernel_rfl) (fun _ _ _ h => h) (Or.inl ⟨by rfl, ?_⟩) (by assumption) ?_
  rotate_left
  · (intro w hSw; (try dsimp only at hSw); go_simp; try (with_reducible rfl))
  (try simp only [Act.put, List.setIfInBounds_toArray, List.set_cons_zero, List.set_cons_succ])
  refine wpAnyH_take (i := 1) (v := .int .i64 (k : Int)) rfl (by kernel_rfl) (by kernel_rfl) (by kernel_rfl) (fun _ _ _ h => h) (Or.inl ⟨by rfl, ?_⟩) (by assumption) ?_
  · (intro W1 hSw; go_simp)
  (try simp only [Act.put, List.setIfInBounds_toArray, List.set_cons_zero, List.set_cons_succ])
  refine wpAnyH_take (i := 3) (v := ?_) rfl (by kernel_rfl) (by kernel_rfl) (by kernel_rfl) (fun _ _ _ h => h) (Or.inl ⟨by rfl, ?_⟩) (by assumption) ?_
  rotate_left
  · (intro w hSw; (try dsimp only at hSw); go_simp; try (with_reducible rfl))
  (try simp only [Act.put, List.setIfInBounds_toArray, List.set_cons_zero, List.set_cons_succ])
  refine wpAnyH_take (i := 4) (v := ?_) rfl (by kernel_rfl) (by kernel_rfl) (by kernel_rfl) (fun _ _ _ h => h) (Or.inl ⟨by rfl, ?_⟩) (by assumption) ?_
  rotate_left
  · (intro w hSw; (try dsimp only at hSw); go_simp; try (with_reducible rfl))
  (try simp only [Act.put, List.setIfInBounds_toArray, List.set_cons_zero, List.set_cons_succ])
  refine wpAnyH_take (i := 5) (v := .int .i64 (k : Int)) rfl (by kernel_rfl) (by kernel_rfl) (by kernel_rfl) (fun _ _ _ h => h) (Or.inl ⟨by rfl, ?_⟩) (by assumption) ?_
  · (intro W1 hSw; go_simp)
  (try simp only [Act.put, List.setIfInBounds_toArray, List.set_cons_zero, List.set_cons_succ])
  refine wpAnyH_ready (rs := [2]) (by kernel_rfl) (by simp) ?_
  refine AllReadyH.cons rfl (fun K hK => ?_) AllReadyH.nil
  go_simp
  (go_at_call 60; refine (HW.out _ (hS.below B1.drew)).mono ?_)
  rintro e w3 ⟨g, cg, rfl, ownS, hb3'⟩
  have hb3 : Below w1.heap.size w1 w3 := (Below.refl _ w1).drew.trans hb3'
  replace ownS : OwnInts w3 w1.heap.size (.slice (some ⟨g, 0, none⟩) (S.length - 1) cg) (dropI k S) := ownS
  clear hb3'
  have cS3 := kept_cell hb3 cS1 (by omega)
  have rR3 := row_below rR1 hb3 (by omega)
  have B3 := B1.trans (hb3.mono (by omega))
  have s3 := hb3.size
  have row3 := ownS.rowIn
  refine hK.out _ _ (cS3) (fun hHeld => ?_)
  clear hK K
  (try simp only [Act.put, List.setIfInBounds_toArray, List.set_cons_zero, List.set_cons_succ])
  refine wpAnyH_ready (rs := [6]) (by kernel_rfl) (by simp) ?_
  refine AllReadyH.cons rfl (fun K hK => ?_) AllReadyH.nil
  go_simp
  (go_at_call 61; refine (HO.out _ (hS.below B3) (hC.below B3)).mono ?_)
  rintro e w4 ⟨v, rfl, ownC, hb4⟩
  have cS4 := kept_cell hb4 cS3 (by omega)
  have rR4 := row_below rR3 hb4 (by omega)
  have B4 := B3.trans (hb4.mono (by omega))
  have ownS4 := ownS.below hb4
  have s4 := hb4.size
  refine hK.out _ _ (cS4) (fun hHeld => ?_)
  clear hK K
  (try simp only [Act.put, List.setIfInBounds_toArray, List.set_cons_zero, List.set_cons_succ])
  have rc : w4.cell? ⟨w.heap.size + 1, 0, none⟩ = some (.slice none 0 0) := by rw [cell_of_row w4 (w.heap.size + 1) 0 _ _ _ rR4]; rfl
  have rf : w4.frozen? ⟨w.heap.size + 1, 0, none⟩ = false := by have h' := rR4; simp [World.frozen?, h']
  have rs : (w4.setCell ⟨w.heap.size + 1, 0, none⟩ (.slice (some ⟨g, 0, none⟩) (S.length - 1) cg)).cell? ⟨w.heap.size + 1, 0, none⟩ = some (.slice (some ⟨g, 0, none⟩) (S.length - 1) cg) := World.cell?_setCell_same' _ _ _ (by rw [rc]; rfl)
  refine wpAnyH_ready (rs := [7]) (by kernel_rfl) (by simp) ?_
  refine AllReadyH.cons rfl (fun K hK => ?_) AllReadyH.nil
  go_simp
  refine hK.out _ _ (cell_set_other cS4 (by simp)) (fun hHeld => ?_)
  clear hK K
  (try simp only [Act.put, List.setIfInBounds_toArray, List.set_cons_zero, List.set_cons_succ])
  refine wpAnyH_take (i := 8) (v := ?_) rfl (by kernel_rfl) (by kernel_rfl) (by kernel_rfl) (fun _ _ _ h => h) (Or.inl ⟨by rfl, ?_⟩) (by assumption) ?_
  rotate_left
  · (intro w hSw; (try dsimp only at hSw); go_simp; try (with_reducible rfl))
  (try simp only [Act.put, List.setIfInBounds_toArray, List.set_cons_zero, List.set_cons_succ])
  refine wpAnyH_take (i := 9) (v := ?_) rfl (by kernel_rfl) (by kernel_rfl) (by kernel_rfl) (fun _ _ _ h => h) (Or.inl ⟨by rfl, ?_⟩) (by assumption) ?_
  rotate_left
  · (intro w hSw; (try dsimp only at hSw); go_simp; try (with_reducible rfl))
  (try simp only [Act.put, List.setIfInBounds_toArray, List.set_cons_zero, List.set_cons_succ])
  refine wpAnyH_done (by kernel_rfl) ?_ _
  (try simp only [List.getElem_toArray, List.getElem_cons_succ, List.getElem_cons_zero, Act.put, List.setIfInBounds_toArray, List.set_cons_zero, List.set_cons_succ])
  have B9 : Below w.heap.size w (w4.setCell ⟨w.heap.size + 1, 0, none⟩ (.slice (some ⟨g, 0, none⟩) (S.length - 1) cg)) := B4.setCell (show w.heap.size ≤ w.heap.size + 1 by omega) _
  go_wp2_with fail
  refine bodyPost_ret (by rw [results_cell_tmp2k rfl]; go_simp; try rfl) rfl ?_
  refine ⟨w3.heap.size, .slice (some ⟨g, 0, none⟩) (S.length - 1) cg, v, by rw [HE.out], by omega, fun z hz => by have := row3 z hz; omega, ?_, ?_, by simpa using s4, B9⟩
  · rw [HS0.out]; exact (ownS4.setBelow (by simp; omega) _).rebase (by omega)
  · rw [HC0.out]; exact ownC.setBelow (show w.heap.size + 1 < w3.heap.size by omega) _

theorem spec_TakeOutPlace (as0 : Addr) (S : List Int) (cap : Nat) (hn : S.length ≤ 4294967296) (hcap : S.length ≤ cap) (ac : Addr) (C : List Int) (capc : Nat) (hnc : C.length ≤ 4294967296) (i : Int) (hib : -9223372036854775808 ≤ i ∧ i ≤ 9223372036854775807) (w : World) (hS : Ints w (some as0) S) (hC : Ints w (some ac) C) :
    Calls Try.prog 30 #[.agg #[.slice (some as0) S.length cap], .slice (some ac) C.length capc, .int .i64 i] w fun e w' => ∃ m vs v, e = .returned (.tuple #[.agg #[vs], v, .int .i64 (eTk S C i)]) ∧ w.heap.size ≤ m ∧ RowIn vs w.heap.size m ∧ OwnInts w' w.heap.size vs (vTkS S C i) ∧ OwnInts w' m v (vTkC S C i) ∧ m ≤ w'.heap.size ∧ Below w.heap.size w w' := by
  by_cases h1 : ePlc S C i = 0
  · by_cases h2 : S.length = 1
    · exact spec_TakeOutPlace_e2 as0 S cap hn ac C capc hnc i w hS hC h1 h2
    · have := ePlc_zero h1
      obtain ⟨k, rfl⟩ : ∃ k : Nat, i = (k : Int) := ⟨i.toNat, by omega⟩
      exact spec_TakeOutPlace_ok as0 S cap hn hcap ac C capc hnc k w hS hC h1 h2
  · exact spec_TakeOutPlace_e1 as0 S cap hn ac C capc hnc i w hS hC _ rfl h1

end Go.Proofs.Ytpmeccpagndifaa
