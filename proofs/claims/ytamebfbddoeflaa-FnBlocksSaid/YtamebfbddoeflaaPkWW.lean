/-
  The contract of the program's words within a radius: the closure and the box that it reads. By an AI agent.
-/
import Derived.Test.YtamebfbddoeflaaPkFar
import Derived.Test.YtamebfbddoeflaaPkSums
import Derived.Test.YtamebfbddoeflaaPk45
import Derived.Deep.RegionHeld3
namespace Go.Proofs.Ytamebfbddoeflaa
open Go.RowKit Cv
set_option linter.unusedVariables false
set_option linter.unusedSimpArgs false
set_option maxRecDepth 100000

theorem box_set1 {W : World} {B k : Nat} {t : TypeId} {cur : Array Value} {x : Value} (h : W.heap[B]? = some (.cells cur t (0, 0))) :
    (W.setCell ⟨B, k, none⟩ x).heap[B]? = some (.cells (cur.setIfInBounds k x) t (0, 0)) := by
  simp [World.setCell, Array.getElem?_modify, h]
/-- a box of three cells, all three stored -/
theorem box_set3 {W : World} {B : Nat} {t : TypeId} {a b c x y z : Value} (h : W.heap[B]? = some (.cells #[a, b, c] t (0, 0))) :
    (((W.setCell ⟨B, 0, none⟩ x).setCell ⟨B, 1, none⟩ y).setCell ⟨B, 2, none⟩ z).heap[B]? = some (.cells #[x, y, z] t (0, 0)) :=
  box_set1 (box_set1 (box_set1 h))
theorem alloc3 (w : World) (o1 o2 o3 : Obj) : (((w.alloc o1).alloc o2).alloc o3).heap[w.heap.size]? = some o1 ∧ (((w.alloc o1).alloc o2).alloc o3).heap[w.heap.size + 1]? = some o2 ∧ (((w.alloc o1).alloc o2).alloc o3).heap[w.heap.size + 1 + 1]? = some o3 := by
  have e1 : (w.alloc o1).heap.size = w.heap.size + 1 := by simp
  have e2 : ((w.alloc o1).alloc o2).heap.size = w.heap.size + 1 + 1 := by simp
  have a1 := World.alloc_heap_new w o1
  have a2 := World.alloc_heap_new (w.alloc o1) o2
  have a3 := World.alloc_heap_new ((w.alloc o1).alloc o2) o3
  rw [e1] at a2
  rw [e2] at a3
  refine ⟨?_, ?_, a3⟩
  · rw [Below.heap_alloc _ _ _ (by rw [e2]; omega), Below.heap_alloc _ _ _ (by rw [e1]; omega)]; exact a1
  · rw [Below.heap_alloc _ _ _ (by rw [e2]; omega)]; exact a2
theorem cell_of_heap {W : World} {B : Nat} {t : TypeId} {v : Value} (h : W.heap[B]? = some (.cells #[v] t (0, 0))) : W.cell? ⟨B, 0, none⟩ = some v := by simp [World.cell?, h]
theorem cell_of_heap_drew {W : World} {B : Nat} {t : TypeId} {v : Value} (h : W.heap[B]? = some (.cells #[v] t (0, 0))) : W.drew.cell? ⟨B, 0, none⟩ = some v := cell_of_heap (W := W.drew) h
theorem ints_one {W : World} {n : Nat} {x : Int} (h : W.cell? ⟨n, 0, none⟩ = some (.int .i64 x)) : Ints W (some ⟨n, 0, none⟩) [x] :=
  .inr ⟨n, 0, rfl, World.block_lt_of_cell? W _ h, fun i hi => by
    match i, hi with
    | 0, _ => exact h⟩
theorem box_free {W : World} {B k : Nat} {t : TypeId} {cur : Array Value} (h : W.heap[B]? = some (.cells cur t (0, 0))) : W.frozen? ⟨B, k, none⟩ = false := by simp [World.frozen?, h]

set_option maxHeartbeats 2000000 in
theorem wordsWithin_any (ao : Option Addr) (S : List Int) (cap : Nat) (hSp : Sp S) (x : Int) (hx : 0 ≤ x) (hx2 : x ≤ 9223372036854775807) (r : Int) (w : World) (hS : Ints w ao S) :
    Calls Try.prog 82 #[.agg #[.slice ao S.length cap], .int .i64 x, .int .i64 r] w fun e w' =>
      ∃ Bb g, e = .returned (.func (.func 87) #[] #[.pointer (some ⟨Bb, 0, none⟩)]) ∧ Bb < w'.heap.size ∧ w'.heap[Bb]? = some (.cells #[.slice ao S.length cap, .slice (some ⟨g, 0, none⟩) S.length S.length, .int .i64 r] 114 (0, 0)) ∧ OwnInts w' w.heap.size (.slice (some ⟨g, 0, none⟩) S.length S.length) (digs S x) ∧ Bb ≠ g ∧ w.heap.size ≤ Bb ∧ Below w.heap.size w w' := by
  have HSp := Lib.hid hSp
  clear hSp
  go_enter Try.func82, Try.ntmps82
  go_wp2_with fail
  have c0 := cell_new w (.slice ao S.length cap) 26
  have l0 := lt_alloc w (.cells #[.slice ao S.length cap] 26)
  have B0 : Below w.heap.size w (w.alloc (.cells #[.slice ao S.length cap] 26)) := by go_grown
  obtain ⟨u0, u1, u2⟩ := alloc3 w (.cells #[.slice ao S.length cap] 26) (.cells #[.int .i64 x] 2) (.cells #[.slice none 0 0, .slice none 0 0, .int .i64 0] 114)
  obtain ⟨v0, v1, v2⟩ := alloc3 w (.cells #[.slice ao S.length cap] 26) (.cells #[.slice none 0 0, .slice none 0 0, .int .i64 0] 114) (.cells #[.int .i64 x] 2)
  have U0 := cell_of_heap_drew u0
  have U1 := cell_of_heap_drew u1
  have V0 := cell_of_heap_drew v0
  have V2 := cell_of_heap_drew v2
  clear u0 u1 v0 v2
  have HU2 := Lib.hid u2
  have HV1 := Lib.hid v1
  have HU1 := Lib.hid U1
  have HV2 := Lib.hid V2
  have HU0 := Lib.hid U0
  have HV0 := Lib.hid V0
  clear u2 v1 U1 V2 U0 V0
  refine wp_region_held_drew (S := fun w' => w'.cell? ⟨w.heap.size, 0, none⟩ = some (.slice ao S.length cap)) (by kernel_rfl) c0 (fun hHeld => ?_)
  refine wpAnyH_take (i := 0) (v := ?_) rfl (by kernel_rfl) (by kernel_rfl) (by kernel_rfl) (fun _ _ _ h => h) (Or.inl ⟨by rfl, ?_⟩) (by assumption) ?_
  rotate_left
  · (intro w hSw; (try dsimp only at hSw); go_simp; try (with_reducible rfl))
  (try simp only [Act.put, List.setIfInBounds_toArray, List.set_cons_zero, List.set_cons_succ])
  refine wpAnyH_take (i := 1) (v := ?_) rfl (by kernel_rfl) (by kernel_rfl) (by kernel_rfl) (fun _ _ _ h => h) (Or.inl ⟨by rfl, ?_⟩) (by assumption) ?_
  rotate_left
  · (intro w hSw; (try dsimp only at hSw); go_simp; try (with_reducible rfl))
  (try simp only [Act.put, List.setIfInBounds_toArray, List.set_cons_zero, List.set_cons_succ])
  refine wpAnyH_take (i := 2) (v := ?_) rfl (by kernel_rfl) (by kernel_rfl) (by kernel_rfl) (fun _ _ _ h => h) (Or.inl ⟨by rfl, ?_⟩) (by assumption) ?_
  rotate_left
  · (intro w hSw; (try dsimp only at hSw); go_simp; try (with_reducible rfl))
  (try simp only [Act.put, List.setIfInBounds_toArray, List.set_cons_zero, List.set_cons_succ])
  refine wpAnyH_take (i := 7) (v := ?_) rfl (by kernel_rfl) (by kernel_rfl) (by kernel_rfl) (fun _ _ _ h => h) (Or.inl ⟨by rfl, ?_⟩) (by assumption) ?_
  rotate_left
  · (intro w hSw; (try dsimp only at hSw); go_simp; try (with_reducible rfl))
  (try simp only [Act.put, List.setIfInBounds_toArray, List.set_cons_zero, List.set_cons_succ])
  refine wpAnyH_ready (rs := [3, 9]) (by kernel_rfl) (by simp) ?_
  refine AllReadyH.cons rfl (fun K hK => ?_) ?_
  · go_simp
    refine hK.out _ _ (by first | (simp; done) | exact kept_cell (by go_grown) c0 l0) (fun hHeld => ?_)
    clear hK K
    (try simp only [Act.put, List.setIfInBounds_toArray, List.set_cons_zero, List.set_cons_succ])
    refine wpAnyH_ready (rs := [4, 9]) (by kernel_rfl) (by simp) ?_
    refine AllReadyH.cons rfl (fun K hK => ?_) ?_
    · go_simp
      (go_at_call 77; refine (digitParts_1 ao S cap HSp.out x hx hx2 _ _ _ (hS.below (by go_grown)) (ints_one (by simp))).mono ?_)
      rintro e w1 ⟨P, g, rfl, r1, o1, l1, hb1⟩
      have B1 : Below w.heap.size w w1 := Below.trans (by go_grown) (hb1.mono (by simp; try omega))
      have c1 := kept_cell hb1 (b := w.heap.size) (o := 0) (v := .slice ao S.length cap) (by simp) (by simp; try omega)
      have lw1 : w.heap.size < w1.heap.size := lt_of_below hb1 (by simp; try omega)
      have i1 := own_ints o1
      refine hK.out _ _ (c1) (fun hHeld => ?_)
      clear hK K
      (try simp only [Act.put, List.setIfInBounds_toArray, List.set_cons_zero, List.set_cons_succ])
      refine wpAnyH_take (i := 5) (v := ?_) rfl (by kernel_rfl) (by kernel_rfl) (by kernel_rfl) (fun _ _ _ h => h) (Or.inl ⟨by rfl, ?_⟩) (by assumption) ?_
      rotate_left
      · (intro w hSw; (try dsimp only at hSw); go_simp; try (with_reducible rfl))
      (try simp only [Act.put, List.setIfInBounds_toArray, List.set_cons_zero, List.set_cons_succ])
      refine wpAnyH_ready (rs := [6, 9]) (by kernel_rfl) (by simp) ?_
      refine AllReadyH.cons rfl (fun K hK => ?_) ?_
      · go_simp
        refine hK.out _ _ (c1) (fun hHeld => ?_)
        clear hK K
        (try simp only [Act.put, List.setIfInBounds_toArray, List.set_cons_zero, List.set_cons_succ])
        refine wpAnyH_take (i := 8) (v := ?_) rfl (by kernel_rfl) (by kernel_rfl) (by kernel_rfl) (fun _ _ _ h => h) (Or.inl ⟨by rfl, ?_⟩) (by assumption) ?_
        rotate_left
        · (intro w hSw; (try dsimp only at hSw); go_simp; try (with_reducible rfl))
        (try simp only [Act.put, List.setIfInBounds_toArray, List.set_cons_zero, List.set_cons_succ])
        refine wpAnyH_ready (rs := [9]) (by kernel_rfl) (by simp) ?_
        refine AllReadyH.cons rfl (fun K hK => ?_) AllReadyH.nil
        go_simp
        refine hK.out _ _ (by first | (simp; done) | exact kept_cell (by go_grown) c1 lw1) (fun hHeld => ?_)
        clear hK K
        (try simp only [Act.put, List.setIfInBounds_toArray, List.set_cons_zero, List.set_cons_succ])
        refine wpAnyH_ready (rs := [10]) (by kernel_rfl) (by simp) ?_
        refine AllReadyH.cons rfl (fun K hK => ?_) AllReadyH.nil
        go_simp
        refine hK.out _ _ (by first | (simp; done) | exact kept_cell (by go_grown) c1 lw1) (fun hHeld => ?_)
        clear hK K
        (try simp only [Act.put, List.setIfInBounds_toArray, List.set_cons_zero, List.set_cons_succ])
        refine wpAnyH_done (by kernel_rfl) ?_ _
        go_wp2
        go_ret
        exact ⟨w1.heap.size, g, rfl, lt_alloc _ _, World.alloc_heap_new w1 _, (o1.alloc _).rebase (by simp; try omega), by have := o1.base_le.2; omega, B1.size, B1.alloc B1.size _⟩
      refine AllReadyH.cons rfl (fun K hK => ?_) AllReadyH.nil
      go_simp
      refine hK.out _ _ (by first | (simp; done) | exact kept_cell (by go_grown) c1 lw1) (fun hHeld => ?_)
      clear hK K
      (try simp only [Act.put, List.setIfInBounds_toArray, List.set_cons_zero, List.set_cons_succ])
      have r1' := kept_cell ((Below.refl w1.heap.size w1).alloc (Nat.le_refl _) (.cells #[.slice none 0 0, .slice none 0 0, .int .i64 0] 114)) r1 l1
      refine wpAnyH_ready (rs := [6]) (by kernel_rfl) (by simp) ?_
      refine AllReadyH.cons rfl (fun K hK => ?_) AllReadyH.nil
      go_simp
      refine hK.out _ _ (by first | (simp; done) | exact kept_cell (by go_grown) c1 lw1) (fun hHeld => ?_)
      clear hK K
      (try simp only [Act.put, List.setIfInBounds_toArray, List.set_cons_zero, List.set_cons_succ])
      refine wpAnyH_take (i := 8) (v := ?_) rfl (by kernel_rfl) (by kernel_rfl) (by kernel_rfl) (fun _ _ _ h => h) (Or.inl ⟨by rfl, ?_⟩) (by assumption) ?_
      rotate_left
      · (intro w hSw; (try dsimp only at hSw); go_simp; try (with_reducible rfl))
      (try simp only [Act.put, List.setIfInBounds_toArray, List.set_cons_zero, List.set_cons_succ])
      refine wpAnyH_ready (rs := [10]) (by kernel_rfl) (by simp) ?_
      refine AllReadyH.cons rfl (fun K hK => ?_) AllReadyH.nil
      go_simp
      refine hK.out _ _ (by first | (simp; done) | exact kept_cell (by go_grown) c1 lw1) (fun hHeld => ?_)
      clear hK K
      (try simp only [Act.put, List.setIfInBounds_toArray, List.set_cons_zero, List.set_cons_succ])
      refine wpAnyH_done (by kernel_rfl) ?_ _
      go_wp2
      go_ret
      exact ⟨w1.heap.size, g, rfl, lt_alloc _ _, World.alloc_heap_new w1 _, (o1.alloc _).rebase (by simp; try omega), by have := o1.base_le.2; omega, B1.size, B1.alloc B1.size _⟩
    refine AllReadyH.cons rfl (fun K hK => ?_) AllReadyH.nil
    go_simp
    refine hK.out _ _ (by first | (simp; done) | exact kept_cell (by go_grown) c0 l0) (fun hHeld => ?_)
    clear hK K
    (try simp only [Act.put, List.setIfInBounds_toArray, List.set_cons_zero, List.set_cons_succ])
    refine wpAnyH_ready (rs := [4]) (by kernel_rfl) (by simp) ?_
    refine AllReadyH.cons rfl (fun K hK => ?_) AllReadyH.nil
    go_simp
    (go_at_call 77; refine (digitParts_1 ao S cap HSp.out x hx hx2 _ _ _ (hS.below (by go_grown)) (ints_one HU1.out)).mono ?_)
    rintro e w1 ⟨P, g, rfl, r1, o1, l1, hb1⟩
    have B1 : Below w.heap.size w w1 := Below.trans (by go_grown) (hb1.mono (by simp; try omega))
    have c1 := kept_cell hb1 (b := w.heap.size) (o := 0) (v := .slice ao S.length cap) HU0.out (by simp; try omega)
    have lw1 : w.heap.size < w1.heap.size := lt_of_below hb1 (by simp; try omega)
    have i1 := own_ints o1
    have hz := (hb1.block (w.heap.size + 1 + 1) (by simp; try omega)).trans HU2.out
    obtain ⟨z0, z1, z2⟩ := box_cells hz
    have f0 := box_free (k := 0) hz
    have f1 := box_free (k := 1) hz
    have f2 := box_free (k := 2) hz
    have lz : (w.heap.size + 1 + 1) < w1.heap.size := (Array.getElem?_eq_some_iff.1 hz).1
    refine hK.out _ _ (c1) (fun hHeld => ?_)
    clear hK K
    (try simp only [Act.put, List.setIfInBounds_toArray, List.set_cons_zero, List.set_cons_succ])
    refine wpAnyH_take (i := 5) (v := ?_) rfl (by kernel_rfl) (by kernel_rfl) (by kernel_rfl) (fun _ _ _ h => h) (Or.inl ⟨by rfl, ?_⟩) (by assumption) ?_
    rotate_left
    · (intro w hSw; (try dsimp only at hSw); go_simp; try (with_reducible rfl))
    (try simp only [Act.put, List.setIfInBounds_toArray, List.set_cons_zero, List.set_cons_succ])
    refine wpAnyH_ready (rs := [6]) (by kernel_rfl) (by simp) ?_
    refine AllReadyH.cons rfl (fun K hK => ?_) AllReadyH.nil
    go_simp
    refine hK.out _ _ (c1) (fun hHeld => ?_)
    clear hK K
    (try simp only [Act.put, List.setIfInBounds_toArray, List.set_cons_zero, List.set_cons_succ])
    refine wpAnyH_take (i := 8) (v := ?_) rfl (by kernel_rfl) (by kernel_rfl) (by kernel_rfl) (fun _ _ _ h => h) (Or.inl ⟨by rfl, ?_⟩) (by assumption) ?_
    rotate_left
    · (intro w hSw; (try dsimp only at hSw); go_simp; try (with_reducible rfl))
    (try simp only [Act.put, List.setIfInBounds_toArray, List.set_cons_zero, List.set_cons_succ])
    refine wpAnyH_ready (rs := [10]) (by kernel_rfl) (by simp) ?_
    refine AllReadyH.cons rfl (fun K hK => ?_) AllReadyH.nil
    go_simp
    have c3 := cell_set_other (a := ⟨(w.heap.size + 1 + 1), 2, none⟩) (u := .int .i64 r) (cell_set_other (a := ⟨(w.heap.size + 1 + 1), 1, none⟩) (u := .slice (some ⟨g, 0, none⟩) S.length S.length) (cell_set_other (a := ⟨(w.heap.size + 1 + 1), 0, none⟩) (u := .slice ao S.length cap) c1 (by simp; try omega)) (by simp; try omega)) (by simp; try omega)
    refine hK.out _ _ (c3) (fun hHeld => ?_)
    clear hK K
    (try simp only [Act.put, List.setIfInBounds_toArray, List.set_cons_zero, List.set_cons_succ])
    refine wpAnyH_done (by kernel_rfl) ?_ _
    go_wp2
    go_ret
    have hgb : w.heap.size + 1 + 1 < g := by have := o1.base_le.1; simp at this; omega
    have hgn : g ≠ (w.heap.size + 1 + 1) := by omega
    have hg3 := box_set3 (x := .slice ao S.length cap) (y := .slice (some ⟨g, 0, none⟩) S.length S.length) (z := .int .i64 r) hz
    refine ⟨(w.heap.size + 1 + 1), g, rfl, (Array.getElem?_eq_some_iff.1 hg3).1, hg3, ?_, fun h => hgn h.symm, by omega, ?_⟩
    · exact (((o1.setBelow (a := ⟨(w.heap.size + 1 + 1), 0, none⟩) (by simp; try omega) _).setBelow (a := ⟨(w.heap.size + 1 + 1), 1, none⟩) (by simp; try omega) _).setBelow (a := ⟨(w.heap.size + 1 + 1), 2, none⟩) (by simp; try omega) _).rebase (by simp; try omega)
    · exact ((B1.setCell (by simp; try omega) _).setCell (by simp; try omega) _).setCell (by simp; try omega) _
  refine AllReadyH.cons rfl (fun K hK => ?_) AllReadyH.nil
  go_simp
  refine hK.out _ _ (by first | (simp; done) | exact kept_cell (by go_grown) c0 l0) (fun hHeld => ?_)
  clear hK K
  (try simp only [Act.put, List.setIfInBounds_toArray, List.set_cons_zero, List.set_cons_succ])
  refine wpAnyH_ready (rs := [3]) (by kernel_rfl) (by simp) ?_
  refine AllReadyH.cons rfl (fun K hK => ?_) AllReadyH.nil
  go_simp
  refine hK.out _ _ (by first | (simp; done) | exact kept_cell (by go_grown) c0 l0) (fun hHeld => ?_)
  clear hK K
  (try simp only [Act.put, List.setIfInBounds_toArray, List.set_cons_zero, List.set_cons_succ])
  refine wpAnyH_ready (rs := [4]) (by kernel_rfl) (by simp) ?_
  refine AllReadyH.cons rfl (fun K hK => ?_) AllReadyH.nil
  go_simp
  (go_at_call 77; refine (digitParts_1 ao S cap HSp.out x hx hx2 _ _ _ (hS.below (by go_grown)) (ints_one HV2.out)).mono ?_)
  rintro e w1 ⟨P, g, rfl, r1, o1, l1, hb1⟩
  have B1 : Below w.heap.size w w1 := Below.trans (by go_grown) (hb1.mono (by simp; try omega))
  have c1 := kept_cell hb1 (b := w.heap.size) (o := 0) (v := .slice ao S.length cap) HV0.out (by simp; try omega)
  have lw1 : w.heap.size < w1.heap.size := lt_of_below hb1 (by simp; try omega)
  have i1 := own_ints o1
  have hz := (hb1.block (w.heap.size + 1) (by simp; try omega)).trans HV1.out
  obtain ⟨z0, z1, z2⟩ := box_cells hz
  have f0 := box_free (k := 0) hz
  have f1 := box_free (k := 1) hz
  have f2 := box_free (k := 2) hz
  have lz : (w.heap.size + 1) < w1.heap.size := (Array.getElem?_eq_some_iff.1 hz).1
  refine hK.out _ _ (c1) (fun hHeld => ?_)
  clear hK K
  (try simp only [Act.put, List.setIfInBounds_toArray, List.set_cons_zero, List.set_cons_succ])
  refine wpAnyH_take (i := 5) (v := ?_) rfl (by kernel_rfl) (by kernel_rfl) (by kernel_rfl) (fun _ _ _ h => h) (Or.inl ⟨by rfl, ?_⟩) (by assumption) ?_
  rotate_left
  · (intro w hSw; (try dsimp only at hSw); go_simp; try (with_reducible rfl))
  (try simp only [Act.put, List.setIfInBounds_toArray, List.set_cons_zero, List.set_cons_succ])
  refine wpAnyH_ready (rs := [6]) (by kernel_rfl) (by simp) ?_
  refine AllReadyH.cons rfl (fun K hK => ?_) AllReadyH.nil
  go_simp
  refine hK.out _ _ (c1) (fun hHeld => ?_)
  clear hK K
  (try simp only [Act.put, List.setIfInBounds_toArray, List.set_cons_zero, List.set_cons_succ])
  refine wpAnyH_take (i := 8) (v := ?_) rfl (by kernel_rfl) (by kernel_rfl) (by kernel_rfl) (fun _ _ _ h => h) (Or.inl ⟨by rfl, ?_⟩) (by assumption) ?_
  rotate_left
  · (intro w hSw; (try dsimp only at hSw); go_simp; try (with_reducible rfl))
  (try simp only [Act.put, List.setIfInBounds_toArray, List.set_cons_zero, List.set_cons_succ])
  refine wpAnyH_ready (rs := [10]) (by kernel_rfl) (by simp) ?_
  refine AllReadyH.cons rfl (fun K hK => ?_) AllReadyH.nil
  go_simp
  have c3 := cell_set_other (a := ⟨(w.heap.size + 1), 2, none⟩) (u := .int .i64 r) (cell_set_other (a := ⟨(w.heap.size + 1), 1, none⟩) (u := .slice (some ⟨g, 0, none⟩) S.length S.length) (cell_set_other (a := ⟨(w.heap.size + 1), 0, none⟩) (u := .slice ao S.length cap) c1 (by simp; try omega)) (by simp; try omega)) (by simp; try omega)
  refine hK.out _ _ (c3) (fun hHeld => ?_)
  clear hK K
  (try simp only [Act.put, List.setIfInBounds_toArray, List.set_cons_zero, List.set_cons_succ])
  refine wpAnyH_done (by kernel_rfl) ?_ _
  go_wp2
  go_ret
  have hgb : w.heap.size + 1 + 1 < g := by have := o1.base_le.1; simp at this; omega
  have hgn : g ≠ (w.heap.size + 1) := by omega
  have hg3 := box_set3 (x := .slice ao S.length cap) (y := .slice (some ⟨g, 0, none⟩) S.length S.length) (z := .int .i64 r) hz
  refine ⟨(w.heap.size + 1), g, rfl, (Array.getElem?_eq_some_iff.1 hg3).1, hg3, ?_, fun h => hgn h.symm, by omega, ?_⟩
  · exact (((o1.setBelow (a := ⟨(w.heap.size + 1), 0, none⟩) (by simp; try omega) _).setBelow (a := ⟨(w.heap.size + 1), 1, none⟩) (by simp; try omega) _).setBelow (a := ⟨(w.heap.size + 1), 2, none⟩) (by simp; try omega) _).rebase (by simp; try omega)
  · exact ((B1.setCell (by simp; try omega) _).setCell (by simp; try omega) _).setCell (by simp; try omega) _

end Go.Proofs.Ytamebfbddoeflaa
