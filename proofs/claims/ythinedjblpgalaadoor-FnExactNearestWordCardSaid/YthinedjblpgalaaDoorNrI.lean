/-
  The contract of the program's NearestWord. By an AI agent.
-/
import Derived.Test.YthinedjblpgalaaDoorCls
import Derived.Test.YthinedjblpgalaaDoorDoor
import Derived.Test.YthinedjblpgalaaDoorF3
import Derived.Test.YthinedjblpgalaaDoorErr
import Derived.Deep.WholeRow
import Derived.Deep.RegionHeld3
namespace Go.Proofs.YthinedjblpgalaaDoor
open Go.RowKit Go.Shelf Cv
set_option linter.unusedVariables false
set_option linter.unusedSimpArgs false
set_option maxRecDepth 100000

theorem boxl2 (w : World) (a b : Value) (t : TypeId) : ∃ W, W = w.alloc (.cells #[a, b] t) ∧ W.cell? ⟨w.heap.size, 0, none⟩ = some a ∧ W.cell? ⟨w.heap.size, 1, none⟩ = some b ∧ W.heap.size = w.heap.size + 1 ∧ Below w.heap.size w W := by
  have y0 : (w.alloc (.cells #[a, b] t)).cell? ⟨w.heap.size, 0, none⟩ = some a := by rw [cell_of_row _ w.heap.size 0 _ _ _ (heap_alloc_last w (.cells #[a, b] t))]; rfl
  have y1 : (w.alloc (.cells #[a, b] t)).cell? ⟨w.heap.size, 1, none⟩ = some b := by rw [cell_of_row _ w.heap.size 1 _ _ _ (heap_alloc_last w (.cells #[a, b] t))]; rfl
  exact ⟨_, rfl, y0, y1, World.size_alloc _ _, (Below.refl _ _).alloc (Nat.le_refl _) _⟩

set_option maxHeartbeats 2000000 in
theorem nearestWord_any (ao : Option Addr) (S : List Int) (cap : Nat) (ac : Option Addr) (C : List Int) (capc : Nat) (hP : Pl S) (hg : Gp S C) (hl : C.length ≤ 1024) (x : Int) (hx : Wd S x) (w : World) (hS : Ints w ao S) (hCI : Ints w ac C) :
    Calls Tryd.prog 28 #[.agg #[.slice ao S.length cap, .slice ac C.length capc], .int .i64 x] w fun e w' => e = .returned (.int .i64 (nrW S C x)) ∧ Below w.heap.size w w' := by
  have hSp := hP.sp
  have N := nW_bd hSp
  have HSp := Lib.hid hSp
  have hx9 : 0 ≤ x ∧ x ≤ 9223372036854775807 := by unfold Wd at hx; omega
  have HCb : Hid (∀ u, u ∈ C → 0 ≤ u ∧ u ≤ 9223372036854775807) := Lib.hid fun u hu => by have := hg.wd u hu; unfold Wd at this; omega
  have HLb : Hid (∀ u, u ∈ shL S C x → 0 ≤ u ∧ u ≤ 9223372036854775807) := Lib.hid fun u hu => by
    obtain ⟨v, _, e⟩ := (mem_shL _ _ _ _).1 hu
    have := wd_sum hSp v x; unfold Wd at this; rw [← e]; omega
  have hlw := ldr_wd hP hg x
  have how := wd_opp hSp (ldr S C x)
  have HO : Hid (vOpp S (ldr S C x) = oppW S (ldr S C x)) := Lib.hid (by unfold vOpp; rw [if_pos (by rw [eWords_w hSp]; exact if_pos hlw)])
  unfold Wd at hlw how
  have hpos := List.length_pos_of_mem hg.zero
  have HSL : Hid ((shL S C x).length = C.length) := Lib.hid (shL_len _ _ _)
  have HLD : Hid (ldrTo S (shL S C x) (C.length - 1) = ldr S C x) := Lib.hid (by unfold ldr; rw [shL_len])
  have HNR : Hid (sumW S x (oppW S (ldr S C x)) = nrW S C x) := Lib.hid rfl
  have hn8 := hSp.hi
  obtain ⟨W0, hW0, cS, cC, z0, B0⟩ := boxl2 w (.slice ao S.length cap) (.slice ac C.length capc) 48
  have HW0 := Lib.hid hW0
  have z0a : w.heap.size + 1 ≤ W0.heap.size := by omega
  obtain ⟨y, hy⟩ : ∃ y, y = ldr S C x := ⟨_, rfl⟩
  rw [← hy] at hlw how HO HLD HNR
  clear hW0 z0 hSp hP hg hx hy
  go_enter Tryd.func28, Tryd.ntmps28
  go_wp2_with fail
  rw [← HW0.out]
  refine wp_region_held_drew (S := fun w' => w'.cell? ⟨w.heap.size, 0, none⟩ = some (.slice ao S.length cap) ∧ w'.cell? ⟨w.heap.size, 1, none⟩ = some (.slice ac C.length capc)) (by kernel_rfl) ⟨cS, cC⟩ (fun hHeld => ?_)
  refine wpAnyH_take (i := 0) (v := ?_) rfl (by kernel_rfl) (by kernel_rfl) (by kernel_rfl) (fun _ _ _ h => h) (Or.inl ⟨by rfl, ?_⟩) (by assumption) ?_
  rotate_left
  · (intro w hSw; (try dsimp only at hSw); go_simp; try (with_reducible rfl))
  (try simp only [Act.put, List.setIfInBounds_toArray, List.set_cons_zero, List.set_cons_succ])
  refine wpAnyH_take (i := 1) (v := .agg #[.slice ao S.length cap]) rfl (by kernel_rfl) (by kernel_rfl) (by kernel_rfl) (fun _ _ _ h => h) (Or.inl ⟨by rfl, ?_⟩) (by assumption) ?_
  · (intro W1 hSw; obtain ⟨h1, h2⟩ := hSw; (try dsimp only at h1 h2); go_simp)
  (try simp only [Act.put, List.setIfInBounds_toArray, List.set_cons_zero, List.set_cons_succ])
  refine wpAnyH_take (i := 2) (v := ?_) rfl (by kernel_rfl) (by kernel_rfl) (by kernel_rfl) (fun _ _ _ h => h) (Or.inl ⟨by rfl, ?_⟩) (by assumption) ?_
  rotate_left
  · (intro w hSw; (try dsimp only at hSw); go_simp; try (with_reducible rfl))
  (try simp only [Act.put, List.setIfInBounds_toArray, List.set_cons_zero, List.set_cons_succ])
  refine wpAnyH_take (i := 3) (v := .agg #[.slice ao S.length cap]) rfl (by kernel_rfl) (by kernel_rfl) (by kernel_rfl) (fun _ _ _ h => h) (Or.inl ⟨by rfl, ?_⟩) (by assumption) ?_
  · (intro W1 hSw; obtain ⟨h1, h2⟩ := hSw; (try dsimp only at h1 h2); go_simp)
  (try simp only [Act.put, List.setIfInBounds_toArray, List.set_cons_zero, List.set_cons_succ])
  refine wpAnyH_take (i := 4) (v := .agg #[.slice ao S.length cap, .slice ac C.length capc]) rfl (by kernel_rfl) (by kernel_rfl) (by kernel_rfl) (fun _ _ _ h => h) (Or.inl ⟨by rfl, ?_⟩) (by assumption) ?_
  · (intro W1 hSw; obtain ⟨h1, h2⟩ := hSw; (try dsimp only at h1 h2); go_simp)
  (try simp only [Act.put, List.setIfInBounds_toArray, List.set_cons_zero, List.set_cons_succ])
  refine wpAnyH_take (i := 5) (v := .int .i64 x) rfl (by kernel_rfl) (by kernel_rfl) (by kernel_rfl) (fun _ _ _ h => h) (Or.inl ⟨by rfl, ?_⟩) (by assumption) ?_
  · (intro W1 hSw; go_simp)
  (try simp only [Act.put, List.setIfInBounds_toArray, List.set_cons_zero, List.set_cons_succ])
  refine wpAnyH_ready (rs := [6]) (by kernel_rfl) (by simp) ?_
  refine AllReadyH.cons rfl (fun K hK => ?_) AllReadyH.nil
  go_simp
  (go_at_call 49; refine (class_any ao S cap HSp.out ac C capc (by omega) HCb.out x hx9 _ (hS.below B0.drew) (hCI.below B0.drew)).mono ?_)
  rintro e w3 ⟨g, rfl, own, hb3'⟩
  have hb3 : Below W0.heap.size W0 w3 := (Below.refl _ W0).drew.trans hb3'
  clear hb3'
  have cS3 := kept_cell hb3 cS (by omega)
  have cC3 := kept_cell hb3 cC (by omega)
  have B3 := B0.trans (hb3.mono (by omega))
  have hI := own_ints own
  have s3 := hb3.size
  have hlo := leaderOf_any ao S cap HSp.out (some ⟨g, 0, none⟩) (shL S C x) C.length (by rw [HSL.out]; omega) (by rw [HSL.out]; omega) HLb.out w3 (hS.below B3) hI
  rw [HSL.out, HLD.out] at hlo
  refine hK.out _ _ (⟨cS3, cC3⟩) (fun hHeld => ?_)
  clear hK K
  (try simp only [Act.put, List.setIfInBounds_toArray, List.set_cons_zero, List.set_cons_succ])
  refine wpAnyH_ready (rs := [7]) (by kernel_rfl) (by simp) ?_
  refine AllReadyH.cons rfl (fun K hK => ?_) AllReadyH.nil
  go_simp
  (go_at_call 48; refine hlo.mono ?_)
  rintro e w4 ⟨rfl, hb4⟩
  have cS4 := kept_cell hb4 cS3 (by omega)
  have cC4 := kept_cell hb4 cC3 (by omega)
  have B4 := B3.trans (hb4.mono (by omega))
  have s4 := hb4.size
  have hop := impl_OppositeWord ao S cap (by omega) y ⟨by omega, by omega⟩ w4 (hS.below B4)
  rw [HO.out] at hop
  refine hK.out _ _ (⟨cS4, cC4⟩) (fun hHeld => ?_)
  clear hK K
  (try simp only [Act.put, List.setIfInBounds_toArray, List.set_cons_zero, List.set_cons_succ])
  refine wpAnyH_ready (rs := [8]) (by kernel_rfl) (by simp) ?_
  refine AllReadyH.cons rfl (fun K hK => ?_) AllReadyH.nil
  go_simp
  (go_at_call 47; refine hop.mono ?_)
  rintro e w5 ⟨rfl, hb5⟩
  have cS5 := kept_cell hb5 cS4 (by omega)
  have cC5 := kept_cell hb5 cC4 (by omega)
  have B5 := B4.trans (hb5.mono (by omega))
  refine hK.out _ _ (⟨cS5, cC5⟩) (fun hHeld => ?_)
  clear hK K
  (try simp only [Act.put, List.setIfInBounds_toArray, List.set_cons_zero, List.set_cons_succ])
  refine wpAnyH_take (i := 9) (v := ?_) rfl (by kernel_rfl) (by kernel_rfl) (by kernel_rfl) (fun _ _ _ h => h) (Or.inl ⟨by rfl, ?_⟩) (by assumption) ?_
  rotate_left
  · (intro w hSw; (try dsimp only at hSw); go_simp; try (with_reducible rfl))
  (try simp only [Act.put, List.setIfInBounds_toArray, List.set_cons_zero, List.set_cons_succ])
  refine wpAnyH_take (i := 10) (v := ?_) rfl (by kernel_rfl) (by kernel_rfl) (by kernel_rfl) (fun _ _ _ h => h) (Or.inl ⟨by rfl, ?_⟩) (by assumption) ?_
  rotate_left
  · (intro w hSw; (try dsimp only at hSw); go_simp; try (with_reducible rfl))
  (try simp only [Act.put, List.setIfInBounds_toArray, List.set_cons_zero, List.set_cons_succ])
  refine wpAnyH_take (i := 11) (v := ?_) rfl (by kernel_rfl) (by kernel_rfl) (by kernel_rfl) (fun _ _ _ h => h) (Or.inl ⟨by rfl, ?_⟩) (by assumption) ?_
  rotate_left
  · (intro w hSw; (try dsimp only at hSw); go_simp; try (with_reducible rfl))
  (try simp only [Act.put, List.setIfInBounds_toArray, List.set_cons_zero, List.set_cons_succ])
  refine wpAnyH_take (i := 12) (v := ?_) rfl (by kernel_rfl) (by kernel_rfl) (by kernel_rfl) (fun _ _ _ h => h) (Or.inl ⟨by rfl, ?_⟩) (by assumption) ?_
  rotate_left
  · (intro w hSw; (try dsimp only at hSw); go_simp; try (with_reducible rfl))
  (try simp only [Act.put, List.setIfInBounds_toArray, List.set_cons_zero, List.set_cons_succ])
  refine wpAnyH_take (i := 13) (v := ?_) rfl (by kernel_rfl) (by kernel_rfl) (by kernel_rfl) (fun _ _ _ h => h) (Or.inl ⟨by rfl, ?_⟩) (by assumption) ?_
  rotate_left
  · (intro w hSw; (try dsimp only at hSw); go_simp; try (with_reducible rfl))
  (try simp only [Act.put, List.setIfInBounds_toArray, List.set_cons_zero, List.set_cons_succ])
  refine wpAnyH_done (by kernel_rfl) ?_ _
  (try simp only [List.getElem_toArray, List.getElem_cons_succ, List.getElem_cons_zero, Act.put, List.setIfInBounds_toArray, List.set_cons_zero, List.set_cons_succ])
  clear hlo hop hI own hb3 hb4 hb5 cS cC cS3 cC3 cS4 cC4 B3 B4
  go_wp2_with fail
  refine (sumOfWords_any ao S cap HSp.out x (oppW S y) hx9.1 hx9.2 (by omega) (by omega) _ (hS.below B5)).mono ?_
  rintro e w6 ⟨rfl, hb6⟩
  go_wp2_with fail
  go_ret
  exact ⟨by rw [HNR.out]; rfl, B5.trans (hb6.mono B5.size)⟩

theorem nearest_fun (xb : Nat) (ao : Option Addr) (S : List Int) (cap : Nat) (ac : Option Addr) (C : List Int) (capc : Nat) (hP : Pl S) (hg : Gp S C) (hl : C.length ≤ 1024) (x : Int) (hx : Wd S x) (w : World) (hxb : xb < w.heap.size) (cX : w.cell? ⟨xb, 0, none⟩ = some (.int .i64 x)) (hS : Ints w ao S) (hC : Ints w ac C) :
    ∀ W, Below w.heap.size w W → Calls Tryd.prog 27 ((#[] : Array Value).push (.agg #[.slice ao S.length cap, .slice ac C.length capc]) ++ #[.pointer (some ⟨xb, 0, none⟩)]) W fun e w' => e = .returned (.int .i64 (nrW S C x)) ∧ Below W.heap.size W w' := by
  intro W hb
  obtain ⟨W0, hW0, cS, cC, z0, B0⟩ := boxl2 W (.slice ao S.length cap) (.slice ac C.length capc) 48
  have cX0 := kept_cell (hb.trans (B0.mono hb.size)) cX hxb
  have hn := nearestWord_any ao S cap ac C capc hP hg hl x hx W0 ((hS.below hb).below B0) ((hC.below hb).below B0)
  subst hW0
  have HN := Lib.hid hn
  clear z0 hn
  show Calls Tryd.prog 27 #[.agg #[.slice ao S.length cap, .slice ac C.length capc], .pointer (some ⟨xb, 0, none⟩)] W _
  go_enter Tryd.func27, Tryd.ntmps27
  go_wp2_with fail
  refine HN.out.mono ?_
  rintro e w2 ⟨rfl, hb2⟩
  go_wp2_with fail
  go_ret
  exact ⟨rfl, B0.trans (hb2.mono B0.size)⟩


end Go.Proofs.YthinedjblpgalaaDoor
