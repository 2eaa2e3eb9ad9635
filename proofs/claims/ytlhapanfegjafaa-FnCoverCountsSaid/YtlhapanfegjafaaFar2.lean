/-
  The contract of the program's distances from the words of a code. By an AI agent.
-/
import Derived.Test.YtlhapanfegjafaaFar
import Derived.Deep.RegionHeld3
namespace Go.Proofs.Ytlhapanfegjafaa
open Go.RowKit Cv
set_option linter.unusedVariables false
set_option linter.unusedSimpArgs false
set_option maxRecDepth 100000

set_option maxHeartbeats 2000000 in
theorem codeDistances_any (ao : Option Addr) (S : List Int) (cap : Nat) (hSp : Sp S) (ac : Option Addr) (C : List Int) (capc : Nat) (hlen : C.length ≤ 1048576) (hC0 : ∀ i, i < C.length → 0 ≤ gi C i ∧ gi C i ≤ 9223372036854775807) (x : Int) (hx : 0 ≤ x) (hx2 : x ≤ 9223372036854775807) (w : World) (hS : Ints w ao S) (hC : Ints w ac C) :
    Calls Try.prog 31 #[.agg #[.slice ao S.length cap], .slice ac C.length capc, .int .i64 x] w fun e w' =>
      ∃ q, e = .returned (.slice (some ⟨q, 0, none⟩) C.length C.length) ∧ OwnInts w' w.heap.size (.slice (some ⟨q, 0, none⟩) C.length C.length) (dFrom S C x) ∧ Below w.heap.size w w' := by
  have hlo := hSp.lo
  have hhi := hSp.hi
  have HSp := Lib.hid hSp
  have HC0 := Lib.hid hC0
  clear hSp hC0
  go_enter Try.func31, Try.ntmps31
  go_wp2_with fail
  have c0 := cell_new w (.slice ao S.length cap) 26
  have l0 := lt_alloc w (.cells #[.slice ao S.length cap] 26)
  have B0 : Below w.heap.size w (w.alloc (.cells #[.slice ao S.length cap] 26)) := by go_grown
  refine wp_region_held_drew (S := fun w' => w'.cell? ⟨w.heap.size, 0, none⟩ = some (.slice ao S.length cap)) (by kernel_rfl) c0 (fun hHeld => ?_)
  refine wpAnyH_take (i := 0) (v := ?_) rfl (by kernel_rfl) (by kernel_rfl) (by kernel_rfl) (fun _ _ _ h => h) (Or.inl ⟨by rfl, ?_⟩) (by assumption) ?_
  rotate_left
  · (intro w hSw; (try dsimp only at hSw); go_simp; try (with_reducible rfl))
  (try simp only [Act.put, List.setIfInBounds_toArray, List.set_cons_zero, List.set_cons_succ])
  refine wpAnyH_take (i := 1) (v := ?_) rfl (by kernel_rfl) (by kernel_rfl) (by kernel_rfl) (fun _ _ _ h => h) (Or.inl ⟨by rfl, ?_⟩) (by assumption) ?_
  rotate_left
  · (intro w hSw; (try dsimp only at hSw); go_simp; try (with_reducible rfl))
  (try simp only [Act.put, List.setIfInBounds_toArray, List.set_cons_zero, List.set_cons_succ])
  refine wpAnyH_take (i := 6) (v := ?_) rfl (by kernel_rfl) (by kernel_rfl) (by kernel_rfl) (fun _ _ _ h => h) (Or.inl ⟨by rfl, ?_⟩) (by assumption) ?_
  rotate_left
  · (intro w hSw; (try dsimp only at hSw); go_simp; try (with_reducible rfl))
  (try simp only [Act.put, List.setIfInBounds_toArray, List.set_cons_zero, List.set_cons_succ])
  refine wpAnyH_take (i := 7) (v := ?_) rfl (by kernel_rfl) (by kernel_rfl) (by kernel_rfl) (fun _ _ _ h => h) (Or.inl ⟨by rfl, ?_⟩) (by assumption) ?_
  rotate_left
  · (intro w hSw; (try dsimp only at hSw); go_simp; try (with_reducible rfl))
  (try simp only [Act.put, List.setIfInBounds_toArray, List.set_cons_zero, List.set_cons_succ])
  refine wpAnyH_ready (rs := [2]) (by kernel_rfl) (by simp) ?_
  refine AllReadyH.cons rfl (fun K hK => ?_) AllReadyH.nil
  go_simp
  refine hK.out _ _ (by first | (simp; done) | exact kept_cell (by go_grown) c0 l0) (fun hHeld => ?_)
  clear hK K
  (try simp only [Act.put, List.setIfInBounds_toArray, List.set_cons_zero, List.set_cons_succ])
  refine wpAnyH_ready (rs := [3]) (by kernel_rfl) (by simp) ?_
  refine AllReadyH.cons rfl (fun K hK => ?_) AllReadyH.nil
  go_simp
  (go_at_call 58; refine (digitParts_1 ao S cap HSp.out x hx hx2 _ _ _ (hS.below (by go_grown)) ((ints_new1 _ x _ (by simp)).below (Below.refl _ _).drew)).mono ?_)
  rintro e w1 ⟨P1, g1, rfl, r1, o1, l1, hb1⟩
  have B1 : Below w.heap.size w w1 := Below.trans (by go_grown) (hb1.mono (by simp; try omega))
  have c1 := kept_cell hb1 (b := w.heap.size) (o := 0) (v := .slice ao S.length cap) (by simp) (by simp; try omega)
  have lw1 : w.heap.size < w1.heap.size := lt_of_below hb1 (by simp; try omega)
  have i1 := own_ints o1
  refine hK.out _ _ (c1) (fun hHeld => ?_)
  clear hK K
  (try simp only [Act.put, List.setIfInBounds_toArray, List.set_cons_zero, List.set_cons_succ])
  refine wpAnyH_take (i := 4) (v := ?_) rfl (by kernel_rfl) (by kernel_rfl) (by kernel_rfl) (fun _ _ _ h => h) (Or.inl ⟨by rfl, ?_⟩) (by assumption) ?_
  rotate_left
  · (intro w hSw; (try dsimp only at hSw); go_simp; try (with_reducible rfl))
  (try simp only [Act.put, List.setIfInBounds_toArray, List.set_cons_zero, List.set_cons_succ])
  refine wpAnyH_ready (rs := [5, 8]) (by kernel_rfl) (by simp) ?_
  refine AllReadyH.cons rfl (fun K hK => ?_) ?_
  · go_simp
    refine hK.out _ _ (c1) (fun hHeld => ?_)
    clear hK K
    (try simp only [Act.put, List.setIfInBounds_toArray, List.set_cons_zero, List.set_cons_succ])
    refine wpAnyH_ready (rs := [8]) (by kernel_rfl) (by simp) ?_
    refine AllReadyH.cons rfl (fun K hK => ?_) AllReadyH.nil
    go_simp
    (go_at_call 58; refine (digitParts_any ao S cap hlo hhi HSp.out.bd ac C capc (by omega) HC0.out _ (hS.below B1) (hC.below B1)).mono ?_)
    rintro e w2 ⟨P, g, U, rfl, hp, hb2⟩
    have B2 := B1.trans (hb2.mono B1.size)
    have c2 := kept_cell hb2 c1 lw1
    have lw2 := lt_of_below hb2 lw1
    have r2 := kept_cell hb2 r1 l1
    have i2 := i1.below hb2
    refine hK.out _ _ (c2) (fun hHeld => ?_)
    clear hK K
    (try simp only [Act.put, List.setIfInBounds_toArray, List.set_cons_zero, List.set_cons_succ])
    refine wpAnyH_ready (rs := [9]) (by kernel_rfl) (by simp) ?_
    refine AllReadyH.cons rfl (fun K hK => ?_) AllReadyH.nil
    go_simp
    (go_at_call 57; refine (distancesFrom_any S hhi x _ _ _ rfl _ P g C U _ rfl hlen _ i2 hp).mono ?_)
    rintro e w3 ⟨q, rfl, ho, hb3⟩
    have c3 := kept_cell hb3 c2 lw2
    refine hK.out _ _ (c3) (fun hHeld => ?_)
    clear hK K
    (try simp only [Act.put, List.setIfInBounds_toArray, List.set_cons_zero, List.set_cons_succ])
    refine wpAnyH_ready (rs := [10]) (by kernel_rfl) (by simp) ?_
    refine AllReadyH.cons rfl (fun K hK => ?_) AllReadyH.nil
    go_simp
    refine hK.out _ _ (c3) (fun hHeld => ?_)
    clear hK K
    (try simp only [Act.put, List.setIfInBounds_toArray, List.set_cons_zero, List.set_cons_succ])
    refine wpAnyH_done (by kernel_rfl) ?_ _
    go_wp2
    go_ret
    exact ⟨q, rfl, ho.rebase B2.size, B2.trans (hb3.mono B2.size)⟩
  refine AllReadyH.cons rfl (fun K hK => ?_) AllReadyH.nil
  go_simp
  (go_at_call 58; refine (digitParts_any ao S cap hlo hhi HSp.out.bd ac C capc (by omega) HC0.out _ (hS.below B1) (hC.below B1)).mono ?_)
  rintro e w2 ⟨P, g, U, rfl, hp, hb2⟩
  have B2 := B1.trans (hb2.mono B1.size)
  have c2 := kept_cell hb2 c1 lw1
  have lw2 := lt_of_below hb2 lw1
  have r2 := kept_cell hb2 r1 l1
  have i2 := i1.below hb2
  refine hK.out _ _ (c2) (fun hHeld => ?_)
  clear hK K
  (try simp only [Act.put, List.setIfInBounds_toArray, List.set_cons_zero, List.set_cons_succ])
  refine wpAnyH_ready (rs := [5]) (by kernel_rfl) (by simp) ?_
  refine AllReadyH.cons rfl (fun K hK => ?_) AllReadyH.nil
  go_simp
  refine hK.out _ _ (c2) (fun hHeld => ?_)
  clear hK K
  (try simp only [Act.put, List.setIfInBounds_toArray, List.set_cons_zero, List.set_cons_succ])
  refine wpAnyH_ready (rs := [9]) (by kernel_rfl) (by simp) ?_
  refine AllReadyH.cons rfl (fun K hK => ?_) AllReadyH.nil
  go_simp
  (go_at_call 57; refine (distancesFrom_any S hhi x _ _ _ rfl _ P g C U _ rfl hlen _ i2 hp).mono ?_)
  rintro e w3 ⟨q, rfl, ho, hb3⟩
  have c3 := kept_cell hb3 c2 lw2
  refine hK.out _ _ (c3) (fun hHeld => ?_)
  clear hK K
  (try simp only [Act.put, List.setIfInBounds_toArray, List.set_cons_zero, List.set_cons_succ])
  refine wpAnyH_ready (rs := [10]) (by kernel_rfl) (by simp) ?_
  refine AllReadyH.cons rfl (fun K hK => ?_) AllReadyH.nil
  go_simp
  refine hK.out _ _ (c3) (fun hHeld => ?_)
  clear hK K
  (try simp only [Act.put, List.setIfInBounds_toArray, List.set_cons_zero, List.set_cons_succ])
  refine wpAnyH_done (by kernel_rfl) ?_ _
  go_wp2
  go_ret
  exact ⟨q, rfl, ho.rebase B2.size, B2.trans (hb3.mono B2.size)⟩

end Go.Proofs.Ytlhapanfegjafaa
