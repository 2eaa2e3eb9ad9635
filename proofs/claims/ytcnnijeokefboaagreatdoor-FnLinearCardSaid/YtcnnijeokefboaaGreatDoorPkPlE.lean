/-
  The contract of the program's plainError. By an AI agent.
-/
import Derived.Test.YtcnnijeokefboaaGreatDoorMathB
import Derived.Test.YtcnnijeokefboaaGreatDoorPk21
import Derived.Test.YtcnnijeokefboaaGreatDoorPk23
import Derived.Test.YtcnnijeokefboaaGreatDoorPk14
import Derived.Deep.RegionHeld3
namespace Go.Proofs.YtcnnijeokefboaaGreatDoor
open Go.RowKit Cv
set_option linter.unusedVariables false
set_option linter.unusedSimpArgs false
set_option maxRecDepth 100000

set_option maxHeartbeats 4000000 in
theorem plainError_bad (ao : Option Addr) (S : List Int) (cap : Nat) (hn : S.length ≤ 4294967296) (ag : Option Addr) (G : List Int) (capg : Nat) (hng : G.length ≤ 4294967296) (x : Int) (w : World) (hS : Ints w ao S) (hG : Ints w ag G) (E : Int) (hE : orI (eWords S G) (eWords S [x]) = E) (h0 : E ≠ 0) :
    Calls Tryz.prog 49 #[.agg #[.slice ao S.length cap], .slice ag G.length capg, .int .i64 x] w fun e w' => e = .returned (.int .i64 E) ∧ Below w.heap.size w w' := by
  have c0 := cell_new w (.slice ao S.length cap) 26
  have l0 := lt_alloc w (.cells #[.slice ao S.length cap] 26)
  have hb : (E != 0) = true := by simpa using h0
  have HE := Lib.hid hE
  clear hE h0
  go_enter Tryz.func49, Tryz.ntmps49
  go_wp2_with fail
  refine wp_region_held_drew (S := fun w' => w'.cell? ⟨w.heap.size, 0, none⟩ = some (.slice ao S.length cap)) (by kernel_rfl) c0 (fun hHeld => ?_)
  refine wpAnyH_take (i := 0) (v := ?_) rfl (by kernel_rfl) (by kernel_rfl) (by kernel_rfl) (fun _ _ _ h => h) (Or.inl ⟨by rfl, ?_⟩) (by assumption) ?_
  rotate_left
  · (intro w hSw; (try dsimp only at hSw); go_simp; try (with_reducible rfl))
  (try simp only [Act.put, List.setIfInBounds_toArray, List.set_cons_zero, List.set_cons_succ])
  refine wpAnyH_take (i := 1) (v := ?_) rfl (by kernel_rfl) (by kernel_rfl) (by kernel_rfl) (fun _ _ _ h => h) (Or.inl ⟨by rfl, ?_⟩) (by assumption) ?_
  rotate_left
  · (intro w hSw; (try dsimp only at hSw); go_simp; try (with_reducible rfl))
  (try simp only [Act.put, List.setIfInBounds_toArray, List.set_cons_zero, List.set_cons_succ])
  refine wpAnyH_take (i := 3) (v := ?_) rfl (by kernel_rfl) (by kernel_rfl) (by kernel_rfl) (fun _ _ _ h => h) (Or.inl ⟨by rfl, ?_⟩) (by assumption) ?_
  rotate_left
  · (intro w hSw; (try dsimp only at hSw); go_simp; try (with_reducible rfl))
  (try simp only [Act.put, List.setIfInBounds_toArray, List.set_cons_zero, List.set_cons_succ])
  refine wpAnyH_take (i := 4) (v := ?_) rfl (by kernel_rfl) (by kernel_rfl) (by kernel_rfl) (fun _ _ _ h => h) (Or.inl ⟨by rfl, ?_⟩) (by assumption) ?_
  rotate_left
  · (intro w hSw; (try dsimp only at hSw); go_simp; try (with_reducible rfl))
  (try simp only [Act.put, List.setIfInBounds_toArray, List.set_cons_zero, List.set_cons_succ])
  refine wpAnyH_ready (rs := [2, 5]) (by kernel_rfl) (by simp) ?_
  refine AllReadyH.cons rfl (fun K hK => ?_) ?_
  · go_simp
    (go_at_call 94; refine (wordsError_any ao S cap hn ag G capg hng _ (hS.below (by go_grown)) (hG.below (by go_grown))).mono ?_)
    rintro e w1 ⟨rfl, hb1⟩
    have B1 : Below w.heap.size w w1 := Below.trans (by go_grown) (hb1.mono (by simp; try omega))
    have k1 : w1.cell? ⟨w.heap.size, 0, none⟩ = some (.slice ao S.length cap) := kept_cell hb1 (by simp) (by simp; try omega)
    have l1 : w.heap.size < w1.heap.size := lt_of_below hb1 (by simp; try omega)
    refine hK.out _ _ (k1) (fun hHeld => ?_)
    clear hK K
    (try simp only [Act.put, List.setIfInBounds_toArray, List.set_cons_zero, List.set_cons_succ])
    refine wpAnyH_ready (rs := [5]) (by kernel_rfl) (by simp) ?_
    refine AllReadyH.cons rfl (fun K hK => ?_) AllReadyH.nil
    go_simp
    refine hK.out _ _ (kept_cell ((Below.refl w1.heap.size w1).alloc (Nat.le_refl _) _) k1 l1) (fun hHeld => ?_)
    clear hK K
    (try simp only [Act.put, List.setIfInBounds_toArray, List.set_cons_zero, List.set_cons_succ])
    refine wpAnyH_ready (rs := [6]) (by kernel_rfl) (by simp) ?_
    refine AllReadyH.cons rfl (fun K hK => ?_) AllReadyH.nil
    go_simp
    (go_at_call 94; refine (wordsError_n ao S cap hn _ [x] 1 _ rfl (by omega) _ (hS.below (B1.alloc B1.size _)) (ints_new1 _ x _ rfl)).mono ?_)
    rintro e w2 ⟨rfl, hb2⟩
    have hq : Below w1.heap.size w1 w2 := Below.trans ((Below.refl _ w1).alloc (Nat.le_refl _) _) (hb2.mono (by simp))
    have k2 := kept_cell hq k1 l1
    have l2 := lt_of_below hq l1
    have B2 := B1.trans (hq.mono B1.size)
    refine hK.out _ _ (k2) (fun hHeld => ?_)
    clear hK K
    (try simp only [Act.put, List.setIfInBounds_toArray, List.set_cons_zero, List.set_cons_succ])
    refine wpAnyH_ready (rs := [7]) (by kernel_rfl) (by simp) ?_
    refine AllReadyH.cons rfl (fun K hK => ?_) AllReadyH.nil
    go_simp
    refine hK.out _ _ (kept_cell ((Below.refl w2.heap.size w2).alloc (Nat.le_refl _) _) k2 l2) (fun hHeld => ?_)
    clear hK K
    (try simp only [Act.put, List.setIfInBounds_toArray, List.set_cons_zero, List.set_cons_succ])
    refine wpAnyH_ready (rs := [8]) (by kernel_rfl) (by simp) ?_
    refine AllReadyH.cons rfl (fun K hK => ?_) AllReadyH.nil
    go_simp
    (go_at_call 99; refine (cmpOr2 _ (eWords S G) (eWords S [x]) _ _ (ints_new2 _ _ _ _ rfl)).mono ?_)
    rintro e w3 ⟨rfl, rfl⟩
    rw [HE.out]
    refine hK.out _ _ (kept_cell ((Below.refl w2.heap.size w2).alloc (Nat.le_refl _) _) k2 l2) (fun hHeld => ?_)
    clear hK K
    (try simp only [Act.put, List.setIfInBounds_toArray, List.set_cons_zero, List.set_cons_succ])
    refine wpAnyH_take (i := 9) (v := ?_) rfl (by kernel_rfl) (by kernel_rfl) (by kernel_rfl) (fun _ _ _ h => h) (Or.inl ⟨by rfl, ?_⟩) (by assumption) ?_
    rotate_left
    · (intro w hSw; (try dsimp only at hSw); go_simp; try (with_reducible rfl))
    (try simp only [Act.put, List.setIfInBounds_toArray, List.set_cons_zero, List.set_cons_succ])
    refine wpAnyH_done (by kernel_rfl) ?_ _
    simp only [List.getElem_toArray, List.getElem_cons_succ, List.getElem_cons_zero, Act.put, List.setIfInBounds_toArray, List.set_cons_zero, List.set_cons_succ]
    go_wp2_with fail
    go_ret
    exact ⟨rfl, B2.alloc B2.size _⟩
  refine AllReadyH.cons rfl (fun K hK => ?_) AllReadyH.nil
  go_simp
  refine hK.out _ _ (by first | (simp; done) | exact kept_cell (by go_grown) c0 l0) (fun hHeld => ?_)
  clear hK K
  (try simp only [Act.put, List.setIfInBounds_toArray, List.set_cons_zero, List.set_cons_succ])
  have hxi := ints_new1 (w.alloc (.cells #[.slice ao S.length cap] 26)) x 2 (n := w.heap.size + 1) (by simp)
  refine wpAnyH_ready (rs := [2]) (by kernel_rfl) (by simp) ?_
  refine AllReadyH.cons rfl (fun K hK => ?_) AllReadyH.nil
  go_simp
  (go_at_call 94; refine (wordsError_any ao S cap hn ag G capg hng _ (hS.below (by go_grown)) (hG.below (by go_grown))).mono ?_)
  rintro e w1 ⟨rfl, hb1⟩
  have B1 : Below w.heap.size w w1 := Below.trans (by go_grown) (hb1.mono (by simp; try omega))
  have k1 : w1.cell? ⟨w.heap.size, 0, none⟩ = some (.slice ao S.length cap) := kept_cell hb1 (by simp) (by simp; try omega)
  have l1 : w.heap.size < w1.heap.size := lt_of_below hb1 (by simp; try omega)
  refine hK.out _ _ (k1) (fun hHeld => ?_)
  clear hK K
  (try simp only [Act.put, List.setIfInBounds_toArray, List.set_cons_zero, List.set_cons_succ])
  refine wpAnyH_ready (rs := [6]) (by kernel_rfl) (by simp) ?_
  refine AllReadyH.cons rfl (fun K hK => ?_) AllReadyH.nil
  go_simp
  (go_at_call 94; refine (wordsError_n ao S cap hn _ [x] 1 _ rfl (by omega) _ (hS.below B1) ((hxi.below (Below.refl _ _).drew).below hb1)).mono ?_)
  rintro e w2 ⟨rfl, hb2⟩
  have hq : Below w1.heap.size w1 w2 := hb2
  have k2 := kept_cell hq k1 l1
  have l2 := lt_of_below hq l1
  have B2 := B1.trans (hq.mono B1.size)
  refine hK.out _ _ (k2) (fun hHeld => ?_)
  clear hK K
  (try simp only [Act.put, List.setIfInBounds_toArray, List.set_cons_zero, List.set_cons_succ])
  refine wpAnyH_ready (rs := [7]) (by kernel_rfl) (by simp) ?_
  refine AllReadyH.cons rfl (fun K hK => ?_) AllReadyH.nil
  go_simp
  refine hK.out _ _ (kept_cell ((Below.refl w2.heap.size w2).alloc (Nat.le_refl _) _) k2 l2) (fun hHeld => ?_)
  clear hK K
  (try simp only [Act.put, List.setIfInBounds_toArray, List.set_cons_zero, List.set_cons_succ])
  refine wpAnyH_ready (rs := [8]) (by kernel_rfl) (by simp) ?_
  refine AllReadyH.cons rfl (fun K hK => ?_) AllReadyH.nil
  go_simp
  (go_at_call 99; refine (cmpOr2 _ (eWords S G) (eWords S [x]) _ _ (ints_new2 _ _ _ _ rfl)).mono ?_)
  rintro e w3 ⟨rfl, rfl⟩
  rw [HE.out]
  refine hK.out _ _ (kept_cell ((Below.refl w2.heap.size w2).alloc (Nat.le_refl _) _) k2 l2) (fun hHeld => ?_)
  clear hK K
  (try simp only [Act.put, List.setIfInBounds_toArray, List.set_cons_zero, List.set_cons_succ])
  refine wpAnyH_take (i := 9) (v := ?_) rfl (by kernel_rfl) (by kernel_rfl) (by kernel_rfl) (fun _ _ _ h => h) (Or.inl ⟨by rfl, ?_⟩) (by assumption) ?_
  rotate_left
  · (intro w hSw; (try dsimp only at hSw); go_simp; try (with_reducible rfl))
  (try simp only [Act.put, List.setIfInBounds_toArray, List.set_cons_zero, List.set_cons_succ])
  refine wpAnyH_done (by kernel_rfl) ?_ _
  simp only [List.getElem_toArray, List.getElem_cons_succ, List.getElem_cons_zero, Act.put, List.setIfInBounds_toArray, List.set_cons_zero, List.set_cons_succ]
  go_wp2_with fail
  go_ret
  exact ⟨rfl, B2.alloc B2.size _⟩

set_option maxHeartbeats 4000000 in
theorem plainError_many (ao : Option Addr) (S : List Int) (cap : Nat) (hn : S.length ≤ 4294967296) (ag : Option Addr) (G : List Int) (capg : Nat) (hng : G.length ≤ 4294967296) (x : Int) (w : World) (hS : Ints w ao S) (hG : Ints w ag G) (hE : orI (eWords S G) (eWords S [x]) = 0) (h20 : 20 < G.length) :
    Calls Tryz.prog 49 #[.agg #[.slice ao S.length cap], .slice ag G.length capg, .int .i64 x] w fun e w' => e = .returned (.int .i64 2) ∧ Below w.heap.size w w' := by
  have c0 := cell_new w (.slice ao S.length cap) 26
  have l0 := lt_alloc w (.cells #[.slice ao S.length cap] 26)
  have HE := Lib.hid hE
  clear hE
  go_enter Tryz.func49, Tryz.ntmps49
  go_wp2_with fail
  refine wp_region_held_drew (S := fun w' => w'.cell? ⟨w.heap.size, 0, none⟩ = some (.slice ao S.length cap)) (by kernel_rfl) c0 (fun hHeld => ?_)
  refine wpAnyH_take (i := 0) (v := ?_) rfl (by kernel_rfl) (by kernel_rfl) (by kernel_rfl) (fun _ _ _ h => h) (Or.inl ⟨by rfl, ?_⟩) (by assumption) ?_
  rotate_left
  · (intro w hSw; (try dsimp only at hSw); go_simp; try (with_reducible rfl))
  (try simp only [Act.put, List.setIfInBounds_toArray, List.set_cons_zero, List.set_cons_succ])
  refine wpAnyH_take (i := 1) (v := ?_) rfl (by kernel_rfl) (by kernel_rfl) (by kernel_rfl) (fun _ _ _ h => h) (Or.inl ⟨by rfl, ?_⟩) (by assumption) ?_
  rotate_left
  · (intro w hSw; (try dsimp only at hSw); go_simp; try (with_reducible rfl))
  (try simp only [Act.put, List.setIfInBounds_toArray, List.set_cons_zero, List.set_cons_succ])
  refine wpAnyH_take (i := 3) (v := ?_) rfl (by kernel_rfl) (by kernel_rfl) (by kernel_rfl) (fun _ _ _ h => h) (Or.inl ⟨by rfl, ?_⟩) (by assumption) ?_
  rotate_left
  · (intro w hSw; (try dsimp only at hSw); go_simp; try (with_reducible rfl))
  (try simp only [Act.put, List.setIfInBounds_toArray, List.set_cons_zero, List.set_cons_succ])
  refine wpAnyH_take (i := 4) (v := ?_) rfl (by kernel_rfl) (by kernel_rfl) (by kernel_rfl) (fun _ _ _ h => h) (Or.inl ⟨by rfl, ?_⟩) (by assumption) ?_
  rotate_left
  · (intro w hSw; (try dsimp only at hSw); go_simp; try (with_reducible rfl))
  (try simp only [Act.put, List.setIfInBounds_toArray, List.set_cons_zero, List.set_cons_succ])
  refine wpAnyH_ready (rs := [2, 5]) (by kernel_rfl) (by simp) ?_
  refine AllReadyH.cons rfl (fun K hK => ?_) ?_
  · go_simp
    (go_at_call 94; refine (wordsError_any ao S cap hn ag G capg hng _ (hS.below (by go_grown)) (hG.below (by go_grown))).mono ?_)
    rintro e w1 ⟨rfl, hb1⟩
    have B1 : Below w.heap.size w w1 := Below.trans (by go_grown) (hb1.mono (by simp; try omega))
    have k1 : w1.cell? ⟨w.heap.size, 0, none⟩ = some (.slice ao S.length cap) := kept_cell hb1 (by simp) (by simp; try omega)
    have l1 : w.heap.size < w1.heap.size := lt_of_below hb1 (by simp; try omega)
    refine hK.out _ _ (k1) (fun hHeld => ?_)
    clear hK K
    (try simp only [Act.put, List.setIfInBounds_toArray, List.set_cons_zero, List.set_cons_succ])
    refine wpAnyH_ready (rs := [5]) (by kernel_rfl) (by simp) ?_
    refine AllReadyH.cons rfl (fun K hK => ?_) AllReadyH.nil
    go_simp
    refine hK.out _ _ (kept_cell ((Below.refl w1.heap.size w1).alloc (Nat.le_refl _) _) k1 l1) (fun hHeld => ?_)
    clear hK K
    (try simp only [Act.put, List.setIfInBounds_toArray, List.set_cons_zero, List.set_cons_succ])
    refine wpAnyH_ready (rs := [6]) (by kernel_rfl) (by simp) ?_
    refine AllReadyH.cons rfl (fun K hK => ?_) AllReadyH.nil
    go_simp
    (go_at_call 94; refine (wordsError_n ao S cap hn _ [x] 1 _ rfl (by omega) _ (hS.below (B1.alloc B1.size _)) (ints_new1 _ x _ rfl)).mono ?_)
    rintro e w2 ⟨rfl, hb2⟩
    have hq : Below w1.heap.size w1 w2 := Below.trans ((Below.refl _ w1).alloc (Nat.le_refl _) _) (hb2.mono (by simp))
    have k2 := kept_cell hq k1 l1
    have l2 := lt_of_below hq l1
    have B2 := B1.trans (hq.mono B1.size)
    refine hK.out _ _ (k2) (fun hHeld => ?_)
    clear hK K
    (try simp only [Act.put, List.setIfInBounds_toArray, List.set_cons_zero, List.set_cons_succ])
    refine wpAnyH_ready (rs := [7]) (by kernel_rfl) (by simp) ?_
    refine AllReadyH.cons rfl (fun K hK => ?_) AllReadyH.nil
    go_simp
    refine hK.out _ _ (kept_cell ((Below.refl w2.heap.size w2).alloc (Nat.le_refl _) _) k2 l2) (fun hHeld => ?_)
    clear hK K
    (try simp only [Act.put, List.setIfInBounds_toArray, List.set_cons_zero, List.set_cons_succ])
    refine wpAnyH_ready (rs := [8]) (by kernel_rfl) (by simp) ?_
    refine AllReadyH.cons rfl (fun K hK => ?_) AllReadyH.nil
    go_simp
    (go_at_call 99; refine (cmpOr2 _ (eWords S G) (eWords S [x]) _ _ (ints_new2 _ _ _ _ rfl)).mono ?_)
    rintro e w3 ⟨rfl, rfl⟩
    rw [HE.out]
    refine hK.out _ _ (kept_cell ((Below.refl w2.heap.size w2).alloc (Nat.le_refl _) _) k2 l2) (fun hHeld => ?_)
    clear hK K
    (try simp only [Act.put, List.setIfInBounds_toArray, List.set_cons_zero, List.set_cons_succ])
    refine wpAnyH_take (i := 9) (v := ?_) rfl (by kernel_rfl) (by kernel_rfl) (by kernel_rfl) (fun _ _ _ h => h) (Or.inl ⟨by rfl, ?_⟩) (by assumption) ?_
    rotate_left
    · (intro w hSw; (try dsimp only at hSw); go_simp; try (with_reducible rfl))
    (try simp only [Act.put, List.setIfInBounds_toArray, List.set_cons_zero, List.set_cons_succ])
    refine wpAnyH_done (by kernel_rfl) ?_ _
    simp only [List.getElem_toArray, List.getElem_cons_succ, List.getElem_cons_zero, Act.put, List.setIfInBounds_toArray, List.set_cons_zero, List.set_cons_succ]
    go_wp2_with fail
    go_ret
    exact ⟨rfl, B2.alloc B2.size _⟩
  refine AllReadyH.cons rfl (fun K hK => ?_) AllReadyH.nil
  go_simp
  refine hK.out _ _ (by first | (simp; done) | exact kept_cell (by go_grown) c0 l0) (fun hHeld => ?_)
  clear hK K
  (try simp only [Act.put, List.setIfInBounds_toArray, List.set_cons_zero, List.set_cons_succ])
  have hxi := ints_new1 (w.alloc (.cells #[.slice ao S.length cap] 26)) x 2 (n := w.heap.size + 1) (by simp)
  refine wpAnyH_ready (rs := [2]) (by kernel_rfl) (by simp) ?_
  refine AllReadyH.cons rfl (fun K hK => ?_) AllReadyH.nil
  go_simp
  (go_at_call 94; refine (wordsError_any ao S cap hn ag G capg hng _ (hS.below (by go_grown)) (hG.below (by go_grown))).mono ?_)
  rintro e w1 ⟨rfl, hb1⟩
  have B1 : Below w.heap.size w w1 := Below.trans (by go_grown) (hb1.mono (by simp; try omega))
  have k1 : w1.cell? ⟨w.heap.size, 0, none⟩ = some (.slice ao S.length cap) := kept_cell hb1 (by simp) (by simp; try omega)
  have l1 : w.heap.size < w1.heap.size := lt_of_below hb1 (by simp; try omega)
  refine hK.out _ _ (k1) (fun hHeld => ?_)
  clear hK K
  (try simp only [Act.put, List.setIfInBounds_toArray, List.set_cons_zero, List.set_cons_succ])
  refine wpAnyH_ready (rs := [6]) (by kernel_rfl) (by simp) ?_
  refine AllReadyH.cons rfl (fun K hK => ?_) AllReadyH.nil
  go_simp
  (go_at_call 94; refine (wordsError_n ao S cap hn _ [x] 1 _ rfl (by omega) _ (hS.below B1) ((hxi.below (Below.refl _ _).drew).below hb1)).mono ?_)
  rintro e w2 ⟨rfl, hb2⟩
  have hq : Below w1.heap.size w1 w2 := hb2
  have k2 := kept_cell hq k1 l1
  have l2 := lt_of_below hq l1
  have B2 := B1.trans (hq.mono B1.size)
  refine hK.out _ _ (k2) (fun hHeld => ?_)
  clear hK K
  (try simp only [Act.put, List.setIfInBounds_toArray, List.set_cons_zero, List.set_cons_succ])
  refine wpAnyH_ready (rs := [7]) (by kernel_rfl) (by simp) ?_
  refine AllReadyH.cons rfl (fun K hK => ?_) AllReadyH.nil
  go_simp
  refine hK.out _ _ (kept_cell ((Below.refl w2.heap.size w2).alloc (Nat.le_refl _) _) k2 l2) (fun hHeld => ?_)
  clear hK K
  (try simp only [Act.put, List.setIfInBounds_toArray, List.set_cons_zero, List.set_cons_succ])
  refine wpAnyH_ready (rs := [8]) (by kernel_rfl) (by simp) ?_
  refine AllReadyH.cons rfl (fun K hK => ?_) AllReadyH.nil
  go_simp
  (go_at_call 99; refine (cmpOr2 _ (eWords S G) (eWords S [x]) _ _ (ints_new2 _ _ _ _ rfl)).mono ?_)
  rintro e w3 ⟨rfl, rfl⟩
  rw [HE.out]
  refine hK.out _ _ (kept_cell ((Below.refl w2.heap.size w2).alloc (Nat.le_refl _) _) k2 l2) (fun hHeld => ?_)
  clear hK K
  (try simp only [Act.put, List.setIfInBounds_toArray, List.set_cons_zero, List.set_cons_succ])
  refine wpAnyH_take (i := 9) (v := ?_) rfl (by kernel_rfl) (by kernel_rfl) (by kernel_rfl) (fun _ _ _ h => h) (Or.inl ⟨by rfl, ?_⟩) (by assumption) ?_
  rotate_left
  · (intro w hSw; (try dsimp only at hSw); go_simp; try (with_reducible rfl))
  (try simp only [Act.put, List.setIfInBounds_toArray, List.set_cons_zero, List.set_cons_succ])
  refine wpAnyH_done (by kernel_rfl) ?_ _
  simp only [List.getElem_toArray, List.getElem_cons_succ, List.getElem_cons_zero, Act.put, List.setIfInBounds_toArray, List.set_cons_zero, List.set_cons_succ]
  go_wp2_with fail
  go_ret
  exact ⟨rfl, B2.alloc B2.size _⟩

set_option maxHeartbeats 4000000 in
theorem plainError_ok (ao : Option Addr) (S : List Int) (cap : Nat) (hn : S.length ≤ 4294967296) (ag : Option Addr) (G : List Int) (capg : Nat) (hng : G.length ≤ 4294967296) (x : Int) (w : World) (hS : Ints w ao S) (hG : Ints w ag G) (hE : orI (eWords S G) (eWords S [x]) = 0) (h20 : G.length ≤ 20) (hlo : 1 ≤ S.length) (p : Bool) (hp : isPl S = p) :
    Calls Tryz.prog 49 #[.agg #[.slice ao S.length cap], .slice ag G.length capg, .int .i64 x] w fun e w' => e = .returned (.int .i64 (if p = true then 0 else 5)) ∧ Below w.heap.size w w' := by
  have c0 := cell_new w (.slice ao S.length cap) 26
  have l0 := lt_alloc w (.cells #[.slice ao S.length cap] 26)
  have HE := Lib.hid hE
  have h21 : ¬ 20 < G.length := by omega
  clear hE
  go_enter Tryz.func49, Tryz.ntmps49
  go_wp2_with fail
  refine wp_region_held_drew (S := fun w' => w'.cell? ⟨w.heap.size, 0, none⟩ = some (.slice ao S.length cap)) (by kernel_rfl) c0 (fun hHeld => ?_)
  refine wpAnyH_take (i := 0) (v := ?_) rfl (by kernel_rfl) (by kernel_rfl) (by kernel_rfl) (fun _ _ _ h => h) (Or.inl ⟨by rfl, ?_⟩) (by assumption) ?_
  rotate_left
  · (intro w hSw; (try dsimp only at hSw); go_simp; try (with_reducible rfl))
  (try simp only [Act.put, List.setIfInBounds_toArray, List.set_cons_zero, List.set_cons_succ])
  refine wpAnyH_take (i := 1) (v := ?_) rfl (by kernel_rfl) (by kernel_rfl) (by kernel_rfl) (fun _ _ _ h => h) (Or.inl ⟨by rfl, ?_⟩) (by assumption) ?_
  rotate_left
  · (intro w hSw; (try dsimp only at hSw); go_simp; try (with_reducible rfl))
  (try simp only [Act.put, List.setIfInBounds_toArray, List.set_cons_zero, List.set_cons_succ])
  refine wpAnyH_take (i := 3) (v := ?_) rfl (by kernel_rfl) (by kernel_rfl) (by kernel_rfl) (fun _ _ _ h => h) (Or.inl ⟨by rfl, ?_⟩) (by assumption) ?_
  rotate_left
  · (intro w hSw; (try dsimp only at hSw); go_simp; try (with_reducible rfl))
  (try simp only [Act.put, List.setIfInBounds_toArray, List.set_cons_zero, List.set_cons_succ])
  refine wpAnyH_take (i := 4) (v := ?_) rfl (by kernel_rfl) (by kernel_rfl) (by kernel_rfl) (fun _ _ _ h => h) (Or.inl ⟨by rfl, ?_⟩) (by assumption) ?_
  rotate_left
  · (intro w hSw; (try dsimp only at hSw); go_simp; try (with_reducible rfl))
  (try simp only [Act.put, List.setIfInBounds_toArray, List.set_cons_zero, List.set_cons_succ])
  refine wpAnyH_ready (rs := [2, 5]) (by kernel_rfl) (by simp) ?_
  refine AllReadyH.cons rfl (fun K hK => ?_) ?_
  · go_simp
    (go_at_call 94; refine (wordsError_any ao S cap hn ag G capg hng _ (hS.below (by go_grown)) (hG.below (by go_grown))).mono ?_)
    rintro e w1 ⟨rfl, hb1⟩
    have B1 : Below w.heap.size w w1 := Below.trans (by go_grown) (hb1.mono (by simp; try omega))
    have k1 : w1.cell? ⟨w.heap.size, 0, none⟩ = some (.slice ao S.length cap) := kept_cell hb1 (by simp) (by simp; try omega)
    have l1 : w.heap.size < w1.heap.size := lt_of_below hb1 (by simp; try omega)
    refine hK.out _ _ (k1) (fun hHeld => ?_)
    clear hK K
    (try simp only [Act.put, List.setIfInBounds_toArray, List.set_cons_zero, List.set_cons_succ])
    refine wpAnyH_ready (rs := [5]) (by kernel_rfl) (by simp) ?_
    refine AllReadyH.cons rfl (fun K hK => ?_) AllReadyH.nil
    go_simp
    refine hK.out _ _ (kept_cell ((Below.refl w1.heap.size w1).alloc (Nat.le_refl _) _) k1 l1) (fun hHeld => ?_)
    clear hK K
    (try simp only [Act.put, List.setIfInBounds_toArray, List.set_cons_zero, List.set_cons_succ])
    refine wpAnyH_ready (rs := [6]) (by kernel_rfl) (by simp) ?_
    refine AllReadyH.cons rfl (fun K hK => ?_) AllReadyH.nil
    go_simp
    (go_at_call 94; refine (wordsError_n ao S cap hn _ [x] 1 _ rfl (by omega) _ (hS.below (B1.alloc B1.size _)) (ints_new1 _ x _ rfl)).mono ?_)
    rintro e w2 ⟨rfl, hb2⟩
    have hq : Below w1.heap.size w1 w2 := Below.trans ((Below.refl _ w1).alloc (Nat.le_refl _) _) (hb2.mono (by simp))
    have k2 := kept_cell hq k1 l1
    have l2 := lt_of_below hq l1
    have B2 := B1.trans (hq.mono B1.size)
    refine hK.out _ _ (k2) (fun hHeld => ?_)
    clear hK K
    (try simp only [Act.put, List.setIfInBounds_toArray, List.set_cons_zero, List.set_cons_succ])
    refine wpAnyH_ready (rs := [7]) (by kernel_rfl) (by simp) ?_
    refine AllReadyH.cons rfl (fun K hK => ?_) AllReadyH.nil
    go_simp
    refine hK.out _ _ (kept_cell ((Below.refl w2.heap.size w2).alloc (Nat.le_refl _) _) k2 l2) (fun hHeld => ?_)
    clear hK K
    (try simp only [Act.put, List.setIfInBounds_toArray, List.set_cons_zero, List.set_cons_succ])
    refine wpAnyH_ready (rs := [8]) (by kernel_rfl) (by simp) ?_
    refine AllReadyH.cons rfl (fun K hK => ?_) AllReadyH.nil
    go_simp
    (go_at_call 99; refine (cmpOr2 _ (eWords S G) (eWords S [x]) _ _ (ints_new2 _ _ _ _ rfl)).mono ?_)
    rintro e w3 ⟨rfl, rfl⟩
    rw [HE.out]
    refine hK.out _ _ (kept_cell ((Below.refl w2.heap.size w2).alloc (Nat.le_refl _) _) k2 l2) (fun hHeld => ?_)
    clear hK K
    (try simp only [Act.put, List.setIfInBounds_toArray, List.set_cons_zero, List.set_cons_succ])
    refine wpAnyH_take (i := 9) (v := ?_) rfl (by kernel_rfl) (by kernel_rfl) (by kernel_rfl) (fun _ _ _ h => h) (Or.inl ⟨by rfl, ?_⟩) (by assumption) ?_
    rotate_left
    · (intro w hSw; (try dsimp only at hSw); go_simp; try (with_reducible rfl))
    (try simp only [Act.put, List.setIfInBounds_toArray, List.set_cons_zero, List.set_cons_succ])
    refine wpAnyH_done (by kernel_rfl) ?_ _
    cases p with
    | true =>
      simp only [List.getElem_toArray, List.getElem_cons_succ, List.getElem_cons_zero, Act.put, List.setIfInBounds_toArray, List.set_cons_zero, List.set_cons_succ]
      have k3 := kept_cell ((Below.refl w2.heap.size w2).alloc (Nat.le_refl _) (.cells #[.int .i64 (eWords S G), .int .i64 (eWords S [x])] 2)) k2 l2
      have B3 := B2.alloc B2.size (.cells #[.int .i64 (eWords S G), .int .i64 (eWords S [x])] 2)
      go_wp2_with fail
      refine (isPlain_any ao S cap hlo hn _ (hS.below B3)).mono ?_
      rw [hp]
      rintro e w4 ⟨rfl, hb4⟩
      go_wp2_with fail
      go_ret
      exact ⟨rfl, B3.trans (hb4.mono B3.size)⟩
    | false =>
      simp only [List.getElem_toArray, List.getElem_cons_succ, List.getElem_cons_zero, Act.put, List.setIfInBounds_toArray, List.set_cons_zero, List.set_cons_succ]
      have k3 := kept_cell ((Below.refl w2.heap.size w2).alloc (Nat.le_refl _) (.cells #[.int .i64 (eWords S G), .int .i64 (eWords S [x])] 2)) k2 l2
      have B3 := B2.alloc B2.size (.cells #[.int .i64 (eWords S G), .int .i64 (eWords S [x])] 2)
      go_wp2_with fail
      refine (isPlain_any ao S cap hlo hn _ (hS.below B3)).mono ?_
      rw [hp]
      rintro e w4 ⟨rfl, hb4⟩
      go_wp2_with fail
      go_ret
      exact ⟨rfl, B3.trans (hb4.mono B3.size)⟩
  refine AllReadyH.cons rfl (fun K hK => ?_) AllReadyH.nil
  go_simp
  refine hK.out _ _ (by first | (simp; done) | exact kept_cell (by go_grown) c0 l0) (fun hHeld => ?_)
  clear hK K
  (try simp only [Act.put, List.setIfInBounds_toArray, List.set_cons_zero, List.set_cons_succ])
  have hxi := ints_new1 (w.alloc (.cells #[.slice ao S.length cap] 26)) x 2 (n := w.heap.size + 1) (by simp)
  refine wpAnyH_ready (rs := [2]) (by kernel_rfl) (by simp) ?_
  refine AllReadyH.cons rfl (fun K hK => ?_) AllReadyH.nil
  go_simp
  (go_at_call 94; refine (wordsError_any ao S cap hn ag G capg hng _ (hS.below (by go_grown)) (hG.below (by go_grown))).mono ?_)
  rintro e w1 ⟨rfl, hb1⟩
  have B1 : Below w.heap.size w w1 := Below.trans (by go_grown) (hb1.mono (by simp; try omega))
  have k1 : w1.cell? ⟨w.heap.size, 0, none⟩ = some (.slice ao S.length cap) := kept_cell hb1 (by simp) (by simp; try omega)
  have l1 : w.heap.size < w1.heap.size := lt_of_below hb1 (by simp; try omega)
  refine hK.out _ _ (k1) (fun hHeld => ?_)
  clear hK K
  (try simp only [Act.put, List.setIfInBounds_toArray, List.set_cons_zero, List.set_cons_succ])
  refine wpAnyH_ready (rs := [6]) (by kernel_rfl) (by simp) ?_
  refine AllReadyH.cons rfl (fun K hK => ?_) AllReadyH.nil
  go_simp
  (go_at_call 94; refine (wordsError_n ao S cap hn _ [x] 1 _ rfl (by omega) _ (hS.below B1) ((hxi.below (Below.refl _ _).drew).below hb1)).mono ?_)
  rintro e w2 ⟨rfl, hb2⟩
  have hq : Below w1.heap.size w1 w2 := hb2
  have k2 := kept_cell hq k1 l1
  have l2 := lt_of_below hq l1
  have B2 := B1.trans (hq.mono B1.size)
  refine hK.out _ _ (k2) (fun hHeld => ?_)
  clear hK K
  (try simp only [Act.put, List.setIfInBounds_toArray, List.set_cons_zero, List.set_cons_succ])
  refine wpAnyH_ready (rs := [7]) (by kernel_rfl) (by simp) ?_
  refine AllReadyH.cons rfl (fun K hK => ?_) AllReadyH.nil
  go_simp
  refine hK.out _ _ (kept_cell ((Below.refl w2.heap.size w2).alloc (Nat.le_refl _) _) k2 l2) (fun hHeld => ?_)
  clear hK K
  (try simp only [Act.put, List.setIfInBounds_toArray, List.set_cons_zero, List.set_cons_succ])
  refine wpAnyH_ready (rs := [8]) (by kernel_rfl) (by simp) ?_
  refine AllReadyH.cons rfl (fun K hK => ?_) AllReadyH.nil
  go_simp
  (go_at_call 99; refine (cmpOr2 _ (eWords S G) (eWords S [x]) _ _ (ints_new2 _ _ _ _ rfl)).mono ?_)
  rintro e w3 ⟨rfl, rfl⟩
  rw [HE.out]
  refine hK.out _ _ (kept_cell ((Below.refl w2.heap.size w2).alloc (Nat.le_refl _) _) k2 l2) (fun hHeld => ?_)
  clear hK K
  (try simp only [Act.put, List.setIfInBounds_toArray, List.set_cons_zero, List.set_cons_succ])
  refine wpAnyH_take (i := 9) (v := ?_) rfl (by kernel_rfl) (by kernel_rfl) (by kernel_rfl) (fun _ _ _ h => h) (Or.inl ⟨by rfl, ?_⟩) (by assumption) ?_
  rotate_left
  · (intro w hSw; (try dsimp only at hSw); go_simp; try (with_reducible rfl))
  (try simp only [Act.put, List.setIfInBounds_toArray, List.set_cons_zero, List.set_cons_succ])
  refine wpAnyH_done (by kernel_rfl) ?_ _
  cases p with
  | true =>
    simp only [List.getElem_toArray, List.getElem_cons_succ, List.getElem_cons_zero, Act.put, List.setIfInBounds_toArray, List.set_cons_zero, List.set_cons_succ]
    have k3 := kept_cell ((Below.refl w2.heap.size w2).alloc (Nat.le_refl _) (.cells #[.int .i64 (eWords S G), .int .i64 (eWords S [x])] 2)) k2 l2
    have B3 := B2.alloc B2.size (.cells #[.int .i64 (eWords S G), .int .i64 (eWords S [x])] 2)
    go_wp2_with fail
    refine (isPlain_any ao S cap hlo hn _ (hS.below B3)).mono ?_
    rw [hp]
    rintro e w4 ⟨rfl, hb4⟩
    go_wp2_with fail
    go_ret
    exact ⟨rfl, B3.trans (hb4.mono B3.size)⟩
  | false =>
    simp only [List.getElem_toArray, List.getElem_cons_succ, List.getElem_cons_zero, Act.put, List.setIfInBounds_toArray, List.set_cons_zero, List.set_cons_succ]
    have k3 := kept_cell ((Below.refl w2.heap.size w2).alloc (Nat.le_refl _) (.cells #[.int .i64 (eWords S G), .int .i64 (eWords S [x])] 2)) k2 l2
    have B3 := B2.alloc B2.size (.cells #[.int .i64 (eWords S G), .int .i64 (eWords S [x])] 2)
    go_wp2_with fail
    refine (isPlain_any ao S cap hlo hn _ (hS.below B3)).mono ?_
    rw [hp]
    rintro e w4 ⟨rfl, hb4⟩
    go_wp2_with fail
    go_ret
    exact ⟨rfl, B3.trans (hb4.mono B3.size)⟩

theorem plainError_any (ao : Option Addr) (S : List Int) (cap : Nat) (hn : S.length ≤ 4294967296) (ag : Option Addr) (G : List Int) (capg : Nat) (hng : G.length ≤ 4294967296) (x : Int) (w : World) (hS : Ints w ao S) (hG : Ints w ag G) :
    Calls Tryz.prog 49 #[.agg #[.slice ao S.length cap], .slice ag G.length capg, .int .i64 x] w fun e w' => e = .returned (.int .i64 (eSyn S G x)) ∧ Below w.heap.size w w' := by
  by_cases h : orI (eWords S G) (eWords S [x]) = 0
  · have hlo := (eSyn_sp h).lo
    by_cases h20 : 20 < G.length
    · rw [show eSyn S G x = 2 by unfold eSyn; rw [if_pos h, if_pos h20]]
      exact plainError_many ao S cap hn ag G capg hng x w hS hG h h20
    · rw [show eSyn S G x = if isPl S = true then 0 else 5 by unfold eSyn; rw [if_pos h, if_neg h20]]
      exact plainError_ok ao S cap hn ag G capg hng x w hS hG h (by omega) hlo _ rfl
  · rw [show eSyn S G x = orI (eWords S G) (eWords S [x]) by unfold eSyn; rw [if_neg h]]
    exact plainError_bad ao S cap hn ag G capg hng x w hS hG _ rfl h

end Go.Proofs.YtcnnijeokefboaaGreatDoor
