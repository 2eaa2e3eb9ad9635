/-
  Errors of the program for rows and numbers of places. By an AI agent.
-/
import Derived.Test.YtpmfedllbiblbaaGreatPkRow10
import Derived.Test.YtpmfedllbiblbaaGreatPkNum
namespace Go.Proofs.YtpmfedllbiblbaaGreat
open Go.RowKit Cv
set_option linter.unusedVariables false
set_option linter.unusedSimpArgs false
set_option maxRecDepth 100000

set_option maxHeartbeats 1000000 in
theorem cmpOr3r (ao : Option Addr) (x y z : Int) (cap : Nat) (w : World) (h : Ints w ao [x, y, z]) :
    Calls Tryz.prog 62 #[.slice ao 3 cap] w fun e w' => e = .returned (.int .i64 (orI (orI x y) z)) ∧ w = w' := by
  obtain ⟨b, o, rfl, hb, hc⟩ := h.at (i := 0) (by simp)
  have c0 : w.cell? ⟨b, o, none⟩ = some (.int .i64 x) := by simpa [gi] using hc 0 (by simp)
  have c1 : w.cell? ⟨b, o + 1, none⟩ = some (.int .i64 y) := by simpa [gi] using hc 1 (by simp)
  have c2 : w.cell? ⟨b, o + 2, none⟩ = some (.int .i64 z) := by simpa [gi] using hc 2 (by simp)
  clear hc h
  by_cases hx : x = 0
  · subst hx
    by_cases hy : y = 0
    · subst hy
      have HO : Hid (orI (orI 0 0) z = z) := Lib.hid rfl
      by_cases hz : z = 0
      · subst hz
        go_enter Tryz.func62, Tryz.ntmps62
        go_wp2
        go_rounds 4
        go_ret
        exact ⟨rfl, rfl⟩
      · have hn : (z != 0) = true := by simpa using hz
        go_enter Tryz.func62, Tryz.ntmps62
        go_wp2
        go_rounds 3
        go_ret
        exact ⟨ret_int HO.out.symm, rfl⟩
    · have HO : Hid (orI (orI 0 y) z = y) := Lib.hid (by unfold orI; simp [hy])
      have hn : (y != 0) = true := by simpa using hy
      clear hy
      go_enter Tryz.func62, Tryz.ntmps62
      go_wp2
      go_rounds 2
      go_ret
      exact ⟨ret_int HO.out.symm, rfl⟩
  · have HO : Hid (orI (orI x y) z = x) := Lib.hid (by unfold orI; simp [hx])
    have hn : (x != 0) = true := by simpa using hx
    clear hx
    go_enter Tryz.func62, Tryz.ntmps62
    go_wp2
    go_rounds 1
    go_ret
    exact ⟨ret_int HO.out.symm, rfl⟩

theorem greatestStrength_any (ao : Option Addr) (S : List Int) (cap : Nat) (M : Int) (hM : M = min 3 (S.length : Int)) (w : World) :
    Calls Tryz.prog 68 #[.agg #[.slice ao S.length cap]] w fun e w' => e = .returned (.int .i64 M) ∧ Below w.heap.size w w' := by
  have B0 : Below w.heap.size w (w.alloc (.cells #[.slice ao S.length cap] 26)) := by go_grown
  have c0 := cell_new w (.slice ao S.length cap) 26
  by_cases h3 : 3 ≤ S.length
  · have HM : Hid (M = 3) := Lib.hid (by omega)
    have i3 : (3 : Int) ≤ (S.length : Int) := by omega
    clear hM h3
    go_enter Tryz.func68, Tryz.ntmps68
    go_wp2_with fail
    go_ret
    exact ⟨ret_int HM.out.symm, B0⟩
  · have HM : Hid (M = (S.length : Int)) := Lib.hid (by omega)
    have i3 : ¬ (3 : Int) ≤ (S.length : Int) := by omega
    have i4 : (S.length : Int) ≤ 3 := by omega
    clear hM h3
    go_enter Tryz.func68, Tryz.ntmps68
    go_wp2_with fail
    go_ret
    exact ⟨ret_int HM.out.symm, B0⟩

theorem eR10_or (S R : List Int) (t M : Int) (hM : M = min 3 (S.length : Int)) : orI (orI (eWords S R) (eNum S (R.length : Int) 0 200)) (eNum S t 1 M) = eR10 S R t := by
  unfold eR10 eC10 eWords eNum orI
  by_cases h : isSp S = true
  · rw [if_pos h, if_pos h, if_pos h]
    by_cases h1 : okW S R R.length = true
    · rw [if_pos h1]
      by_cases h2 : R.length ≤ 200
      · rw [if_pos (show okW S R R.length = true ∧ R.length ≤ 200 from ⟨h1, h2⟩), if_pos (show (0 : Int) ≤ (R.length : Int) ∧ (R.length : Int) ≤ 200 by omega)]
        simp only [if_pos, h]
        by_cases h3 : 1 ≤ t ∧ t ≤ M
        · rw [if_pos h3, if_pos (by omega)]
        · rw [if_neg h3, if_neg (by omega)]
      · rw [if_neg (show ¬ (okW S R R.length = true ∧ R.length ≤ 200) from fun g => h2 g.2), if_neg (show ¬ ((0 : Int) ≤ (R.length : Int) ∧ (R.length : Int) ≤ 200) by omega)]
        simp [h]
    · rw [if_neg h1, if_neg (show ¬ (okW S R R.length = true ∧ R.length ≤ 200) from fun g => h1 g.1)]
      simp [h]
  · rw [if_neg h, if_neg h, if_neg h, if_neg h]
    simp

set_option maxHeartbeats 2000000 in
theorem rowsError_any (ao : Option Addr) (S : List Int) (cap : Nat) (hn : S.length ≤ 4294967296) (ar : Option Addr) (R : List Int) (capr : Nat) (hnr : R.length ≤ 4294967296) (t : Int) (w : World) (hS : Ints w ao S) (hRI : Ints w ar R) :
    Calls Tryz.prog 38 #[.agg #[.slice ao S.length cap], .slice ar R.length capr, .int .i64 t] w fun e w' => e = .returned (.int .i64 (eR10 S R t)) ∧ Below w.heap.size w w' := by
  obtain ⟨M, hM⟩ : ∃ M : Int, M = min 3 (S.length : Int) := ⟨_, rfl⟩
  have HE := Lib.hid (eR10_or S R t M hM)
  have HGS := Lib.hid fun w => greatestStrength_any ao S cap M hM w
  clear hM
  obtain ⟨W0, hW0⟩ : ∃ W0, W0 = w.alloc (.cells #[.slice ao S.length cap] 26) := ⟨_, rfl⟩
  have B0 : Below w.heap.size w W0 := by rw [hW0]; go_grown
  have c0 : W0.cell? ⟨w.heap.size, 0, none⟩ = some (.slice ao S.length cap) := by rw [hW0]; exact cell_new _ _ _
  have l0 : w.heap.size < W0.heap.size := by rw [hW0]; simp
  have HW0 := Lib.hid hW0
  clear hW0
  go_enter Tryz.func38, Tryz.ntmps38
  go_wp2_with fail
  rw [← HW0.out]
  refine wp_region_held_drew (S := fun w' => w'.cell? ⟨w.heap.size, 0, none⟩ = some (.slice ao S.length cap)) (by kernel_rfl) (c0) (fun hHeld => ?_)
  refine wpAnyH_take (i := 0) (v := ?_) rfl (by kernel_rfl) (by kernel_rfl) (by kernel_rfl) (fun _ _ _ h => h) (Or.inl ⟨by rfl, ?_⟩) (by assumption) ?_
  rotate_left
  · (intro w hSw; obtain hSw := hSw; (try dsimp only at hSw); go_simp; try (with_reducible rfl))
  (try simp only [Act.put, List.setIfInBounds_toArray, List.set_cons_zero, List.set_cons_succ, List.getElem_toArray, List.getElem_cons_succ, List.getElem_cons_zero])
  refine wpAnyH_take (i := 1) (v := ?_) rfl (by kernel_rfl) (by kernel_rfl) (by kernel_rfl) (fun _ _ _ h => h) (Or.inl ⟨by rfl, ?_⟩) (by assumption) ?_
  rotate_left
  · (intro w hSw; obtain hSw := hSw; (try dsimp only at hSw); go_simp; try (with_reducible rfl))
  (try simp only [Act.put, List.setIfInBounds_toArray, List.set_cons_zero, List.set_cons_succ, List.getElem_toArray, List.getElem_cons_succ, List.getElem_cons_zero])
  refine wpAnyH_take (i := 3) (v := ?_) rfl (by kernel_rfl) (by kernel_rfl) (by kernel_rfl) (fun _ _ _ h => h) (Or.inl ⟨by rfl, ?_⟩) (by assumption) ?_
  rotate_left
  · (intro w hSw; obtain hSw := hSw; (try dsimp only at hSw); go_simp; try (with_reducible rfl))
  (try simp only [Act.put, List.setIfInBounds_toArray, List.set_cons_zero, List.set_cons_succ, List.getElem_toArray, List.getElem_cons_succ, List.getElem_cons_zero])
  refine wpAnyH_take (i := 4) (v := ?_) rfl (by kernel_rfl) (by kernel_rfl) (by kernel_rfl) (fun _ _ _ h => h) (Or.inl ⟨by rfl, ?_⟩) (by assumption) ?_
  rotate_left
  · (intro w hSw; obtain hSw := hSw; (try dsimp only at hSw); go_simp; try (with_reducible rfl))
  (try simp only [Act.put, List.setIfInBounds_toArray, List.set_cons_zero, List.set_cons_succ, List.getElem_toArray, List.getElem_cons_succ, List.getElem_cons_zero])
  refine wpAnyH_take (i := 6) (v := ?_) rfl (by kernel_rfl) (by kernel_rfl) (by kernel_rfl) (fun _ _ _ h => h) (Or.inl ⟨by rfl, ?_⟩) (by assumption) ?_
  rotate_left
  · (intro w hSw; obtain hSw := hSw; (try dsimp only at hSw); go_simp; try (with_reducible rfl))
  (try simp only [Act.put, List.setIfInBounds_toArray, List.set_cons_zero, List.set_cons_succ, List.getElem_toArray, List.getElem_cons_succ, List.getElem_cons_zero])
  refine wpAnyH_take (i := 7) (v := ?_) rfl (by kernel_rfl) (by kernel_rfl) (by kernel_rfl) (fun _ _ _ h => h) (Or.inl ⟨by rfl, ?_⟩) (by assumption) ?_
  rotate_left
  · (intro w hSw; obtain hSw := hSw; (try dsimp only at hSw); go_simp; try (with_reducible rfl))
  (try simp only [Act.put, List.setIfInBounds_toArray, List.set_cons_zero, List.set_cons_succ, List.getElem_toArray, List.getElem_cons_succ, List.getElem_cons_zero])
  refine wpAnyH_take (i := 8) (v := ?_) rfl (by kernel_rfl) (by kernel_rfl) (by kernel_rfl) (fun _ _ _ h => h) (Or.inl ⟨by rfl, ?_⟩) (by assumption) ?_
  rotate_left
  · (intro w hSw; obtain hSw := hSw; (try dsimp only at hSw); go_simp; try (with_reducible rfl))
  (try simp only [Act.put, List.setIfInBounds_toArray, List.set_cons_zero, List.set_cons_succ, List.getElem_toArray, List.getElem_cons_succ, List.getElem_cons_zero])
  refine wpAnyH_ready (rs := [2]) (by kernel_rfl) (by simp) ?_
  refine AllReadyH.cons rfl (fun K hK => ?_) AllReadyH.nil
  go_simp
  (go_at_call 63; refine (wordsError_any ao S cap hn ar R capr hnr _ (hS.below (B0.trans (Below.mono (Below.refl W0.heap.size W0).drew B0.size))) (hRI.below (B0.trans (Below.mono (Below.refl W0.heap.size W0).drew B0.size)))).mono ?_)
  rintro e x1 ⟨rfl, hb1⟩
  have H1 : Below W0.heap.size W0 x1 := Below.trans (Below.refl W0.heap.size W0).drew (hb1.mono (Below.size (Below.refl W0.heap.size W0).drew))
  refine hK.out _ _ (kept_cell H1 c0 l0) (fun hHeld => ?_)
  clear hK K
  (try simp only [Act.put, List.setIfInBounds_toArray, List.set_cons_zero, List.set_cons_succ, List.getElem_toArray, List.getElem_cons_succ, List.getElem_cons_zero])
  refine wpAnyH_ready (rs := [5]) (by kernel_rfl) (by simp) ?_
  refine AllReadyH.cons rfl (fun K hK => ?_) AllReadyH.nil
  go_simp
  (go_at_call 80; refine (numberError_any ao S cap hn (R.length : Int) 0 200 _ (hS.below (B0.trans (Below.mono H1 B0.size)))).mono ?_)
  rintro e x2 ⟨rfl, hb2⟩
  have H2 : Below W0.heap.size W0 x2 := Below.trans H1 (hb2.mono (Below.size H1))
  refine hK.out _ _ (kept_cell H2 c0 l0) (fun hHeld => ?_)
  clear hK K
  (try simp only [Act.put, List.setIfInBounds_toArray, List.set_cons_zero, List.set_cons_succ, List.getElem_toArray, List.getElem_cons_succ, List.getElem_cons_zero])
  refine wpAnyH_ready (rs := [9]) (by kernel_rfl) (by simp) ?_
  refine AllReadyH.cons rfl (fun K hK => ?_) AllReadyH.nil
  go_simp
  (go_at_call 68; refine (HGS.out _).mono ?_)
  rintro e x3 ⟨rfl, hb3⟩
  have H3 : Below W0.heap.size W0 x3 := Below.trans H2 (hb3.mono (Below.size H2))
  refine hK.out _ _ (kept_cell H3 c0 l0) (fun hHeld => ?_)
  clear hK K
  (try simp only [Act.put, List.setIfInBounds_toArray, List.set_cons_zero, List.set_cons_succ, List.getElem_toArray, List.getElem_cons_succ, List.getElem_cons_zero])
  refine wpAnyH_ready (rs := [10]) (by kernel_rfl) (by simp) ?_
  refine AllReadyH.cons rfl (fun K hK => ?_) AllReadyH.nil
  go_simp
  (go_at_call 80; refine (numberError_any ao S cap hn t 1 M _ (hS.below (B0.trans (Below.mono H3 B0.size)))).mono ?_)
  rintro e x4 ⟨rfl, hb4⟩
  have H4 : Below W0.heap.size W0 x4 := Below.trans H3 (hb4.mono (Below.size H3))
  refine hK.out _ _ (kept_cell H4 c0 l0) (fun hHeld => ?_)
  clear hK K
  (try simp only [Act.put, List.setIfInBounds_toArray, List.set_cons_zero, List.set_cons_succ, List.getElem_toArray, List.getElem_cons_succ, List.getElem_cons_zero])
  refine wpAnyH_ready (rs := [11]) (by kernel_rfl) (by simp) ?_
  refine AllReadyH.cons rfl (fun K hK => ?_) AllReadyH.nil
  go_simp
  have H5 : Below W0.heap.size W0 (x4.alloc (.cells #[.int .i64 (eWords S R), .int .i64 (eNum S (R.length : Int) 0 200), .int .i64 (eNum S t 1 M)] 2)) := Below.alloc H4 (Below.size H4) _
  have he5 : Ints (x4.alloc (.cells #[.int .i64 (eWords S R), .int .i64 (eNum S (R.length : Int) 0 200), .int .i64 (eNum S t 1 M)] 2)) (some ⟨x4.heap.size, 0, none⟩) [eWords S R, eNum S (R.length : Int) 0 200, eNum S t 1 M] := ints_new _ [eWords S R, eNum S (R.length : Int) 0 200, eNum S t 1 M] _
  refine hK.out _ _ (kept_cell H5 c0 l0) (fun hHeld => ?_)
  clear hK K
  (try simp only [Act.put, List.setIfInBounds_toArray, List.set_cons_zero, List.set_cons_succ, List.getElem_toArray, List.getElem_cons_succ, List.getElem_cons_zero])
  refine wpAnyH_ready (rs := [12]) (by kernel_rfl) (by simp) ?_
  refine AllReadyH.cons rfl (fun K hK => ?_) AllReadyH.nil
  go_simp
  (go_at_call 62; refine (cmpOr3r _ _ _ _ _ _ he5).mono ?_)
  rintro e x6 ⟨rfl, rfl⟩
  refine hK.out _ _ (kept_cell H5 c0 l0) (fun hHeld => ?_)
  clear hK K
  (try simp only [Act.put, List.setIfInBounds_toArray, List.set_cons_zero, List.set_cons_succ, List.getElem_toArray, List.getElem_cons_succ, List.getElem_cons_zero])
  refine wpAnyH_take (i := 13) (v := ?_) rfl (by kernel_rfl) (by kernel_rfl) (by kernel_rfl) (fun _ _ _ h => h) (Or.inl ⟨by rfl, ?_⟩) (by assumption) ?_
  rotate_left
  · (intro w hSw; obtain hSw := hSw; (try dsimp only at hSw); go_simp; try (with_reducible rfl))
  (try simp only [Act.put, List.setIfInBounds_toArray, List.set_cons_zero, List.set_cons_succ, List.getElem_toArray, List.getElem_cons_succ, List.getElem_cons_zero])
  refine wpAnyH_done (by kernel_rfl) ?_ _
  (try simp only [Act.put, List.setIfInBounds_toArray, List.set_cons_zero, List.set_cons_succ, List.getElem_toArray, List.getElem_cons_succ, List.getElem_cons_zero])
  have Hn : Below W0.heap.size W0 (x4.alloc (.cells #[.int .i64 (eWords S R), .int .i64 (eNum S (R.length : Int) 0 200), .int .i64 (eNum S t 1 M)] 2)) := H5
  rw [HE.out]
  go_wp2_with fail
  go_ret
  exact ⟨rfl, B0.trans (Hn.mono B0.size)⟩

end Go.Proofs.YtpmfedllbiblbaaGreat
