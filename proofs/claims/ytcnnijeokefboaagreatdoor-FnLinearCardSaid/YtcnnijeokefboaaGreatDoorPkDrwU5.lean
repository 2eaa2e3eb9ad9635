/-
  The draws of chapter 5 from bytes. By an AI agent.
-/
import Derived.Test.YtcnnijeokefboaaGreatDoorPkDrwT5
namespace Go.Proofs.YtcnnijeokefboaaGreatDoor
open Go.RowKit Cv
set_option linter.unusedVariables false
set_option linter.unusedSimpArgs false
set_option maxRecDepth 100000

set_option maxHeartbeats 8000000 in
theorem coded5_any (a : Option Addr) (n cap : Nat) (hn : n ≤ 4096) (w : World) (hY : Byts w w.heap.size a n) :
    Calls Tryz.prog 70 #[.slice a n cap] w fun e w' => ∃ ax T cx g cg F, e = .returned (.tuple #[.agg #[.slice ax T.length cx], .slice (some ⟨g, 0, none⟩) F.length cg]) ∧ Ints w' ax T ∧ (∀ g o, ax = some ⟨g, o, none⟩ → w.heap.size ≤ g) ∧ T.length ≤ 8 ∧ OwnInts w' w.heap.size (.slice (some ⟨g, 0, none⟩) F.length cg) F ∧ F.length ≤ 1048577 ∧ Below w.heap.size w w' := by
  obtain ⟨A, hA⟩ : ∃ A, A = w.heap.size := ⟨_, rfl⟩
  obtain ⟨W, hW⟩ : ∃ W, W = w.alloc (.cells #[.slice none 0 0] 26) := ⟨_, rfl⟩
  have zW : W.heap.size = A + 1 := by rw [hW, hA]; simp
  have RA : W.heap[A]? = some (.cells #[.slice none 0 0] 26 (0, 0)) := by rw [hW, hA]; exact heap_alloc_new w _
  have B : Below A w W := by rw [hW, hA]; exact (Below.refl _ w).alloc (Nat.le_refl _) _
  have hY0 : Byts W W.heap.size a n := by rw [zW]; exact ((hY.mono (by omega)).keep fun b o v hb h => by rw [hW]; exact kept_cell ((Below.refl w.heap.size w).alloc (Nat.le_refl _) _) h (by have := World.block_lt_of_cell? w _ h; exact this))
  have hfr := from_any a n cap hn W hY0
  have HA := Lib.hid hA
  have HW := Lib.hid hW
  obtain ⟨b, hb⟩ : ∃ b, b = W.heap.size := ⟨_, rfl⟩
  rw [← hb] at hfr hY0
  have hbA : b = A + 1 := by omega
  have HB := Lib.hid hb
  clear hA hW
  go_enter Tryz.func70, Tryz.ntmps70
  go_wp2_with fail
  rw [← HW.out, ← HA.out]
  refine hfr.mono ?_
  rintro e w1 ⟨rfl, hs, hb1⟩
  rw [hb] at hb1
  replace RA := row_g RA (grown_of_below hb1 none) (by simp)
  replace B := B.trans (hb1.mono (by omega))
  have hAb : A < b := by omega
  clear hfr hb1 hb zW hbA hY hY0
  have hc := draw5_any b a n cap hn w1 hs
  have zlt := hs.lt
  go_wp2_with fail
  refine hc.mono ?_
  rintro e u1 ⟨x, S, c, aC, C, cC, rfl, hX, hSp, hC, hcap, hl, hs', hg⟩
  replace hX := hX.lower (b := b) (by omega)
  replace hC := hC.lower (b := b) (by omega)
  replace RA : u1.heap[A]? = some (.cells #[.slice none 0 0] 26 (0, 0)) := row_g RA hg (by simp; omega)
  replace B : Below A w u1 := below_g B (by omega) hg (by omega)
  replace hs := hs'
  clear hc hg hs' zlt
  have hAl := row_lt RA
  have hbl := hs.lt
  obtain ⟨Xb, hXb⟩ : ∃ z, z = u1.heap.size := ⟨_, rfl⟩
  obtain ⟨u2, hu2⟩ : ∃ z, z = u1.alloc (.cells #[.slice x S.length c] 26) := ⟨_, rfl⟩
  have RX : u2.heap[Xb]? = some (.cells #[.slice x S.length c] 26 (0, 0)) := by rw [hu2, hXb]; exact heap_alloc_new _ _
  replace RA : u2.heap[A]? = some (.cells #[.slice none 0 0] 26 (0, 0)) := by rw [hu2]; exact row_g RA (World.grownBy_alloc _ _ none) (by simp)
  replace B : Below A w u2 := by rw [hu2]; exact B.alloc (by first | exact B.size | omega) _
  replace hs : Src u2 b a n cap := by rw [hu2]; exact hs.alloc _
  replace hX : IntsX b u2 x S := by rw [hu2]; exact hX.below (B := 0) ((Below.refl _ _).alloc (Nat.le_refl _) _)
  replace hC : IntsX b u2 aC C := by rw [hu2]; exact hC.below (B := 0) ((Below.refl _ _).alloc (Nat.le_refl _) _)
  have HXb := Lib.hid hXb
  have Hu2 := Lib.hid hu2
  have hAX : A < Xb := by rw [hXb]; exact hAl
  have hbX : b < Xb := by rw [hXb]; exact hbl
  clear hXb hu2 hAl hbl
  go_wp2_with fail
  rw [← Hu2.out, ← HXb.out]
  refine wp_region_held_drew (S := fun w' => w'.cell? ⟨Xb, 0, none⟩ = some (.slice x S.length c)) (by kernel_rfl) (cell_of1' RX) (fun hHeld => ?_)
  refine wpAnyH_take (i := 0) (v := ?_) rfl (by kernel_rfl) (by kernel_rfl) (by kernel_rfl) (fun _ _ _ h => h) (Or.inl ⟨by rfl, ?_⟩) (by assumption) ?_
  rotate_left
  · (intro w hSw; obtain hSw := hSw; (try dsimp only at hSw); go_simp; try (with_reducible rfl))
  (try simp only [Act.put, List.setIfInBounds_toArray, List.set_cons_zero, List.set_cons_succ, List.getElem_toArray, List.getElem_cons_succ, List.getElem_cons_zero])
  refine wpAnyH_take (i := 1) (v := ?_) rfl (by kernel_rfl) (by kernel_rfl) (by kernel_rfl) (fun _ _ _ h => h) (Or.inl ⟨by rfl, ?_⟩) (by assumption) ?_
  rotate_left
  · (intro w hSw; obtain hSw := hSw; (try dsimp only at hSw); go_simp; try (with_reducible rfl))
  (try simp only [Act.put, List.setIfInBounds_toArray, List.set_cons_zero, List.set_cons_succ, List.getElem_toArray, List.getElem_cons_succ, List.getElem_cons_zero])
  refine wpAnyH_take (i := 3) (v := ?_) rfl (by kernel_rfl) (by kernel_rfl) (by kernel_rfl) (fun _ _ _ h => h) (Or.inl ⟨by rfl, ?_⟩) (by assumption) ?_
  rotate_left
  · (intro w hSw; obtain hSw := hSw; (try dsimp only at hSw); go_simp; try (with_reducible rfl))
  (try simp only [Act.put, List.setIfInBounds_toArray, List.set_cons_zero, List.set_cons_succ, List.getElem_toArray, List.getElem_cons_succ, List.getElem_cons_zero])
  refine wpAnyH_take (i := 4) (v := ?_) rfl (by kernel_rfl) (by kernel_rfl) (by kernel_rfl) (fun _ _ _ h => h) (Or.inl ⟨by rfl, ?_⟩) (by assumption) ?_
  rotate_left
  · (intro w hSw; obtain hSw := hSw; (try dsimp only at hSw); go_simp; try (with_reducible rfl))
  (try simp only [Act.put, List.setIfInBounds_toArray, List.set_cons_zero, List.set_cons_succ, List.getElem_toArray, List.getElem_cons_succ, List.getElem_cons_zero])
  refine wpAnyH_take (i := 5) (v := ?_) rfl (by kernel_rfl) (by kernel_rfl) (by kernel_rfl) (fun _ _ _ h => h) (Or.inl ⟨by rfl, ?_⟩) (by assumption) ?_
  rotate_left
  · (intro w hSw; obtain hSw := hSw; (try dsimp only at hSw); go_simp; try (with_reducible rfl))
  (try simp only [Act.put, List.setIfInBounds_toArray, List.set_cons_zero, List.set_cons_succ, List.getElem_toArray, List.getElem_cons_succ, List.getElem_cons_zero])
  replace RA : u2.drew.heap[A]? = some (.cells #[.slice none 0 0] 26 (0, 0)) := RA
  replace B : Below A w u2.drew := B.drew
  replace hs : Src u2.drew b a n cap := hs.drewN 1
  replace hX : IntsX b u2.drew x S := hX
  replace hC : IntsX b u2.drew aC C := hC
  replace RX : u2.drew.heap[Xb]? = some (.cells #[.slice x S.length c] 26 (0, 0)) := RX
  refine wpAnyH_ready (rs := [2]) (by kernel_rfl) (by simp) ?_
  refine AllReadyH.cons rfl (fun K hK => ?_) AllReadyH.nil
  have hXl := hX.lower (b := b) (by omega)
  go_simp
  (go_at_call 48; refine (bad_any b a n cap hn x S c hSp u2.drew hs hXl).mono ?_)
  have zlt := hs.lt
  rintro e u3 ⟨ax, T, cxT, rfl, hXT, hT, hs', hg⟩
  replace RA : u3.heap[A]? = some (.cells #[.slice none 0 0] 26 (0, 0)) := row_g RA hg (by simp; omega)
  replace B : Below A w u3 := below_g B (by omega) hg (by omega)
  replace hX : IntsX b u3 x S := hX.grownR hg (by intro g o e; have := hX.2 g o e; simp; omega)
  replace hC : IntsX b u3 aC C := hC.grownR hg (by intro g o e; have := hC.2 g o e; simp; omega)
  replace RX : u3.heap[Xb]? = some (.cells #[.slice x S.length c] 26 (0, 0)) := row_g RX hg (by simp; omega)
  replace hs := hs'
  clear hg zlt hs'
  clear hXl
  refine hK.out _ _ (cell_of1' RX) (fun hHeld => ?_)
  clear hK K
  (try simp only [Act.put, List.setIfInBounds_toArray, List.set_cons_zero, List.set_cons_succ, List.getElem_toArray, List.getElem_cons_succ, List.getElem_cons_zero])
  refine wpAnyH_ready (rs := [6]) (by kernel_rfl) (by simp) ?_
  refine AllReadyH.cons rfl (fun K hK => ?_) AllReadyH.nil
  have hXl := hX.lower (b := b) (by omega)
  have hCl := hC.lower (b := b) (by omega)
  have zU := hs.lt
  go_simp
  (go_at_call 82; refine (badCode_any b a n cap hn x S c hSp aC C cC hcap hl u3 hs hXl hCl).mono ?_)
  have zlt := hs.lt
  rintro e u4 ⟨g, cE, E, rfl, ownE, hE, hs', hg⟩
  replace RA : u4.heap[A]? = some (.cells #[.slice none 0 0] 26 (0, 0)) := row_g RA hg (by simp; omega)
  replace B : Below A w u4 := below_g B (by omega) hg (by omega)
  replace hX : IntsX b u4 x S := hX.grownR hg (by intro g o e; have := hX.2 g o e; simp; omega)
  replace hC : IntsX b u4 aC C := hC.grownR hg (by intro g o e; have := hC.2 g o e; simp; omega)
  replace RX : u4.heap[Xb]? = some (.cells #[.slice x S.length c] 26 (0, 0)) := row_g RX hg (by simp; omega)
  replace hXT : IntsX b u4 ax T := hXT.grownR hg (by intro g o e; have := hXT.2 g o e; simp; omega)
  replace hs := hs'
  clear hg zlt hs'
  have zg : u3.heap.size ≤ g := ownBlock_ge5 ownE rfl
  have hgb : b < g := by omega
  replace ownE := ownE.rebase (base' := w.heap.size) (by have := HA.out; omega)
  clear zU zg hXl hCl
  refine hK.out _ _ (cell_of1' RX) (fun hHeld => ?_)
  clear hK K
  (try simp only [Act.put, List.setIfInBounds_toArray, List.set_cons_zero, List.set_cons_succ, List.getElem_toArray, List.getElem_cons_succ, List.getElem_cons_zero])
  refine wpAnyH_ready (rs := [7]) (by kernel_rfl) (by simp) ?_
  refine AllReadyH.cons rfl (fun K hK => ?_) AllReadyH.nil
  clear hs
  have xSt := cell_of1' RA
  have fSt := frozen_of_row u4 A 0 _ _ RA
  have zSt := row_lt RA
  go_simp
  replace RA : (u4.setCell ⟨A, 0, none⟩ (.slice ax T.length cxT)).heap[A]? = some (.cells #[.slice ax T.length cxT] 26 (0, 0)) := row_store1' _ RA
  replace B : Below A w (u4.setCell ⟨A, 0, none⟩ (.slice ax T.length cxT)) := B.setCell (by first | (simp; done) | (simp; omega)) _
  replace hX : IntsX b (u4.setCell ⟨A, 0, none⟩ (.slice ax T.length cxT)) x S := hX.set _ _ (by intro g o e; have := hX.2 g o e; omega)
  replace hC : IntsX b (u4.setCell ⟨A, 0, none⟩ (.slice ax T.length cxT)) aC C := hC.set _ _ (by intro g o e; have := hC.2 g o e; omega)
  replace RX : (u4.setCell ⟨A, 0, none⟩ (.slice ax T.length cxT)).heap[Xb]? = some (.cells #[.slice x S.length c] 26 (0, 0)) := row_setO RX (by simp; omega) _
  replace hXT : IntsX b (u4.setCell ⟨A, 0, none⟩ (.slice ax T.length cxT)) ax T := hXT.set _ _ (by intro g o e; have := hXT.2 g o e; omega)
  replace ownE : OwnInts (u4.setCell ⟨A, 0, none⟩ (.slice ax T.length cxT)) w.heap.size (.slice (some ⟨g, 0, none⟩) E.length cE) E := own_setO ownE _ (fun e => by simp [Value.ownBlock] at e; omega) _
  clear xSt fSt zSt
  refine hK.out _ _ (cell_of1' RX) (fun hHeld => ?_)
  clear hK K
  (try simp only [Act.put, List.setIfInBounds_toArray, List.set_cons_zero, List.set_cons_succ, List.getElem_toArray, List.getElem_cons_succ, List.getElem_cons_zero])
  refine wpAnyH_take (i := 8) (v := ?_) rfl (by kernel_rfl) (by kernel_rfl) (by kernel_rfl) (fun _ _ _ h => h) (Or.inl ⟨by rfl, ?_⟩) (by assumption) ?_
  rotate_left
  · (intro w hSw; obtain hSw := hSw; (try dsimp only at hSw); go_simp; try (with_reducible rfl))
  (try simp only [Act.put, List.setIfInBounds_toArray, List.set_cons_zero, List.set_cons_succ, List.getElem_toArray, List.getElem_cons_succ, List.getElem_cons_zero])
  refine wpAnyH_done (by kernel_rfl) ?_ _
  (try simp only [Act.put, List.setIfInBounds_toArray, List.set_cons_zero, List.set_cons_succ, List.getElem_toArray, List.getElem_cons_succ, List.getElem_cons_zero])
  have xA := cell_of1' RA
  have zA := row_lt RA
  go_wp2_with fail
  refine bodyPost_ret (by rw [results_cell_tmp15 rfl]; go_simp; try rfl) rfl ?_
  exact ⟨ax, T, cxT, g, cE, E, rfl, hXT.1, (fun g o e => by have := hXT.2 g o e; have := HA.out; omega), hT, ownE, hE, by rw [← HA.out]; exact B⟩

set_option maxHeartbeats 8000000 in
theorem drawLin_any (a : Option Addr) (n cap : Nat) (hn : n ≤ 4096) (w : World) (hY : Byts w w.heap.size a n) :
    Calls Tryz.prog 23 #[.slice a n cap] w fun e w' => ∃ ax T cx g cg F, e = .returned (.tuple #[.agg #[.slice ax T.length cx], .slice (some ⟨g, 0, none⟩) F.length cg]) ∧ Ints w' ax T ∧ (∀ g o, ax = some ⟨g, o, none⟩ → w.heap.size ≤ g) ∧ T.length ≤ 8 ∧ OwnInts w' w.heap.size (.slice (some ⟨g, 0, none⟩) F.length cg) F ∧ F.length ≤ 1048577 ∧ Below w.heap.size w w' := by
  obtain ⟨A, hA⟩ : ∃ A, A = w.heap.size := ⟨_, rfl⟩
  obtain ⟨W, hW⟩ : ∃ W, W = w.alloc (.cells #[.slice none 0 0] 26) := ⟨_, rfl⟩
  have zW : W.heap.size = A + 1 := by rw [hW, hA]; simp
  have RA0 : W.heap[A]? = some (.cells #[.slice none 0 0] 26 (0, 0)) := by rw [hW, hA]; exact heap_alloc_new w _
  have B0 : Below A w W := by rw [hW, hA]; exact (Below.refl _ w).alloc (Nat.le_refl _) _
  have hY0 : Byts W W.heap.size a n := by rw [zW]; exact ((hY.mono (by omega)).keep fun b o v hb h => by rw [hW]; exact kept_cell ((Below.refl w.heap.size w).alloc (Nat.le_refl _) _) h (by have := World.block_lt_of_cell? w _ h; exact this))
  have hc := coded5_any a n cap hn W hY0
  have HA := Lib.hid hA
  have HW := Lib.hid hW
  clear hA hW hY0
  go_enter Tryz.func23, Tryz.ntmps23
  go_wp2_with fail
  rw [← HW.out, ← HA.out]
  refine hc.mono ?_
  rintro e w1 ⟨ax, T, cx, g, cg, E, rfl, hI, hax, hT, ownE, hE, hb1⟩
  have RA1 := row_g RA0 (grown_of_below hb1 none) (by simp)
  have B1 : Below A w w1 := B0.trans (hb1.mono (by omega))
  have hax' : ∀ g o, ax = some ⟨g, o, none⟩ → A + 1 ≤ g := fun g o e => by have := hax g o e; omega
  have hgA : A + 1 ≤ g := by have : W.heap.size ≤ g := ownBlock_ge5 ownE rfl; omega
  have ownW := ownE.rebase (base' := w.heap.size) (by have := HA.out; omega)
  have hAx : ∀ g o, ax = some ⟨g, o, none⟩ → g ≠ A := fun g o e => by have := hax' g o e; omega
  clear hc hb1 RA0 B0 hax ownE zW
  obtain ⟨w2, hw2⟩ : ∃ z, z = w1.alloc (.cells #[.slice ax T.length cx] 26) := ⟨_, rfl⟩
  have RA2 : (w1.alloc (.cells #[.slice ax T.length cx] 26)).heap[A]? = some (.cells #[.slice none 0 0] 26 (0, 0)) := row_g RA1 (World.grownBy_alloc _ _ none) (by simp)
  have xA := cell_of1' RA2
  have fA := frozen_of_row _ A 0 _ _ RA2
  have zA := row_lt RA2
  have HIe : Ints ((w1.alloc (.cells #[.slice ax T.length cx] 26)).setCell ⟨A, 0, none⟩ (.slice ax T.length cx)) ax T := ints_setA (hI.below ((Below.refl _ _).alloc (Nat.le_refl _) _)) hAx
  have owne := own_setO (ownW.alloc (.cells #[.slice ax T.length cx] 26)) A (fun e => by simp [Value.ownBlock] at e; omega) (.slice ax T.length cx)
  have Be : Below A w ((w1.alloc (.cells #[.slice ax T.length cx] 26)).setCell ⟨A, 0, none⟩ (.slice ax T.length cx)) := (B1.alloc (by have := row_lt RA1; omega) _).setCell (by simp) _
  clear hw2
  go_wp2_with fail
  refine bodyPost_ret (by rw [results_cell_tmp15 rfl]; go_simp; try rfl) rfl ?_
  exact ⟨ax, T, cx, g, cg, E, rfl, HIe, (fun g o e => by have := hax' g o e; have := HA.out; omega), hT, owne, hE, by rw [← HA.out]; exact Be⟩

set_option maxHeartbeats 8000000 in
theorem drawNr_any (a : Option Addr) (n cap : Nat) (hn : n ≤ 4096) (w : World) (hY : Byts w w.heap.size a n) :
    Calls Tryz.prog 31 #[.slice a n cap] w fun e w' => ∃ ax T cx g cg F y, e = .returned (.tuple #[.agg #[.slice ax T.length cx], .slice (some ⟨g, 0, none⟩) F.length cg, .int .i64 y]) ∧ Ints w' ax T ∧ (∀ g o, ax = some ⟨g, o, none⟩ → w.heap.size ≤ g) ∧ T.length ≤ 8 ∧ OwnInts w' w.heap.size (.slice (some ⟨g, 0, none⟩) F.length cg) F ∧ F.length ≤ 1048577 ∧ (-9223372036854775808 ≤ y ∧ y ≤ 9223372036854775807) ∧ Below w.heap.size w w' := by
  obtain ⟨A, hA⟩ : ∃ A, A = w.heap.size := ⟨_, rfl⟩
  obtain ⟨W, hW⟩ : ∃ W, W = w.alloc (.cells #[.slice none 0 0] 26) := ⟨_, rfl⟩
  have zW : W.heap.size = A + 1 := by rw [hW, hA]; simp
  have RA : W.heap[A]? = some (.cells #[.slice none 0 0] 26 (0, 0)) := by rw [hW, hA]; exact heap_alloc_new w _
  have B : Below A w W := by rw [hW, hA]; exact (Below.refl _ w).alloc (Nat.le_refl _) _
  have hY0 : Byts W W.heap.size a n := by rw [zW]; exact ((hY.mono (by omega)).keep fun b o v hb h => by rw [hW]; exact kept_cell ((Below.refl w.heap.size w).alloc (Nat.le_refl _) _) h (by have := World.block_lt_of_cell? w _ h; exact this))
  have hfr := from_any a n cap hn W hY0
  have HA := Lib.hid hA
  have HW := Lib.hid hW
  obtain ⟨b, hb⟩ : ∃ b, b = W.heap.size := ⟨_, rfl⟩
  rw [← hb] at hfr hY0
  have hbA : b = A + 1 := by omega
  have HB := Lib.hid hb
  clear hA hW
  go_enter Tryz.func31, Tryz.ntmps31
  go_wp2_with fail
  rw [← HW.out, ← HA.out]
  refine hfr.mono ?_
  rintro e w1 ⟨rfl, hs, hb1⟩
  rw [hb] at hb1
  replace RA := row_g RA (grown_of_below hb1 none) (by simp)
  replace B := B.trans (hb1.mono (by omega))
  have hAb : A < b := by omega
  clear hfr hb1 hb zW hbA hY hY0
  have hc := draw5_any b a n cap hn w1 hs
  have zlt := hs.lt
  go_wp2_with fail
  refine hc.mono ?_
  rintro e u1 ⟨x, S, c, aC, C, cC, rfl, hX, hSp, hC, hcap, hl, hs', hg⟩
  replace hX := hX.lower (b := b) (by omega)
  replace hC := hC.lower (b := b) (by omega)
  replace RA : u1.heap[A]? = some (.cells #[.slice none 0 0] 26 (0, 0)) := row_g RA hg (by simp; omega)
  replace B : Below A w u1 := below_g B (by omega) hg (by omega)
  replace hs := hs'
  clear hc hg hs' zlt
  have hAl := row_lt RA
  have hbl := hs.lt
  obtain ⟨Xb, hXb⟩ : ∃ z, z = u1.heap.size := ⟨_, rfl⟩
  obtain ⟨u2, hu2⟩ : ∃ z, z = u1.alloc (.cells #[.slice x S.length c] 26) := ⟨_, rfl⟩
  have RX : u2.heap[Xb]? = some (.cells #[.slice x S.length c] 26 (0, 0)) := by rw [hu2, hXb]; exact heap_alloc_new _ _
  replace RA : u2.heap[A]? = some (.cells #[.slice none 0 0] 26 (0, 0)) := by rw [hu2]; exact row_g RA (World.grownBy_alloc _ _ none) (by simp)
  replace B : Below A w u2 := by rw [hu2]; exact B.alloc (by first | exact B.size | omega) _
  replace hs : Src u2 b a n cap := by rw [hu2]; exact hs.alloc _
  replace hX : IntsX b u2 x S := by rw [hu2]; exact hX.below (B := 0) ((Below.refl _ _).alloc (Nat.le_refl _) _)
  replace hC : IntsX b u2 aC C := by rw [hu2]; exact hC.below (B := 0) ((Below.refl _ _).alloc (Nat.le_refl _) _)
  have HXb := Lib.hid hXb
  have Hu2 := Lib.hid hu2
  have hAX : A < Xb := by rw [hXb]; exact hAl
  have hbX : b < Xb := by rw [hXb]; exact hbl
  clear hXb hu2 hAl hbl
  have xX := cell_of1' RX
  have hSp' := hSp
  obtain ⟨N1, N2⟩ := nW_bd hSp
  have hN := l01N_any x S c u2 hSp.hi hSp.bd hX.1
  obtain ⟨M, hM⟩ : ∃ M, M = prodTo S S.length := ⟨_, rfl⟩
  unfold nW at N1 N2
  rw [← hM] at N1 N2
  have EN : IntKind.i64.wrap (M - 1) = M - 1 := IntWalk.i64_in _ ⟨by omega, by omega⟩
  try unfold nW at hN
  rw [← hM] at hN
  clear hM
  go_wp2_with fail
  rw [← Hu2.out, ← HXb.out]
  refine hN.mono ?_
  rintro e u3 ⟨rfl, hb⟩
  replace RA : u3.heap[A]? = some (.cells #[.slice none 0 0] 26 (0, 0)) := row_g RA (grown_of_below hb none) (by simp)
  replace B : Below A w u3 := B.trans (hb.mono (by first | exact B.size | (have := hs.lt; omega)))
  replace hs : Src u3 b a n cap := hs.below hb hs.lt
  replace hX : IntsX b u3 x S := hX.below (B := 0) hb
  replace hC : IntsX b u3 aC C := hC.below (B := 0) hb
  replace RX : u3.heap[Xb]? = some (.cells #[.slice x S.length c] 26 (0, 0)) := row_g RX (grown_of_below hb none) (by simp)
  clear hN hb xX
  have zlt := hs.lt
  have hnr := near_any b a n cap hn (M - 1) (by omega) u3 hs
  go_wp2_with fail
  refine hnr.mono ?_
  rintro e u4 ⟨y, rfl, hy, hs', hg⟩
  replace RA : u4.heap[A]? = some (.cells #[.slice none 0 0] 26 (0, 0)) := row_g RA hg (by simp; omega)
  replace B : Below A w u4 := below_g B (by omega) hg (by omega)
  replace hX : IntsX b u4 x S := hX.grownR hg (by intro g o e; have := hX.2 g o e; simp; omega)
  replace hC : IntsX b u4 aC C := hC.grownR hg (by intro g o e; have := hC.2 g o e; simp; omega)
  replace RX : u4.heap[Xb]? = some (.cells #[.slice x S.length c] 26 (0, 0)) := row_g RX hg (by simp; omega)
  replace hs := hs'
  clear hnr hg hs' zlt EN
  have xX := cell_of1' RX
  go_wp2_with fail
  refine wp_region_held_drew (S := fun w' => w'.cell? ⟨Xb, 0, none⟩ = some (.slice x S.length c)) (by kernel_rfl) (cell_of1' RX) (fun hHeld => ?_)
  refine wpAnyH_take (i := 0) (v := ?_) rfl (by kernel_rfl) (by kernel_rfl) (by kernel_rfl) (fun _ _ _ h => h) (Or.inl ⟨by rfl, ?_⟩) (by assumption) ?_
  rotate_left
  · (intro w hSw; obtain hSw := hSw; (try dsimp only at hSw); go_simp; try (with_reducible rfl))
  (try simp only [Act.put, List.setIfInBounds_toArray, List.set_cons_zero, List.set_cons_succ, List.getElem_toArray, List.getElem_cons_succ, List.getElem_cons_zero])
  refine wpAnyH_take (i := 1) (v := ?_) rfl (by kernel_rfl) (by kernel_rfl) (by kernel_rfl) (fun _ _ _ h => h) (Or.inl ⟨by rfl, ?_⟩) (by assumption) ?_
  rotate_left
  · (intro w hSw; obtain hSw := hSw; (try dsimp only at hSw); go_simp; try (with_reducible rfl))
  (try simp only [Act.put, List.setIfInBounds_toArray, List.set_cons_zero, List.set_cons_succ, List.getElem_toArray, List.getElem_cons_succ, List.getElem_cons_zero])
  refine wpAnyH_take (i := 3) (v := ?_) rfl (by kernel_rfl) (by kernel_rfl) (by kernel_rfl) (fun _ _ _ h => h) (Or.inl ⟨by rfl, ?_⟩) (by assumption) ?_
  rotate_left
  · (intro w hSw; obtain hSw := hSw; (try dsimp only at hSw); go_simp; try (with_reducible rfl))
  (try simp only [Act.put, List.setIfInBounds_toArray, List.set_cons_zero, List.set_cons_succ, List.getElem_toArray, List.getElem_cons_succ, List.getElem_cons_zero])
  refine wpAnyH_take (i := 4) (v := ?_) rfl (by kernel_rfl) (by kernel_rfl) (by kernel_rfl) (fun _ _ _ h => h) (Or.inl ⟨by rfl, ?_⟩) (by assumption) ?_
  rotate_left
  · (intro w hSw; obtain hSw := hSw; (try dsimp only at hSw); go_simp; try (with_reducible rfl))
  (try simp only [Act.put, List.setIfInBounds_toArray, List.set_cons_zero, List.set_cons_succ, List.getElem_toArray, List.getElem_cons_succ, List.getElem_cons_zero])
  refine wpAnyH_take (i := 5) (v := ?_) rfl (by kernel_rfl) (by kernel_rfl) (by kernel_rfl) (fun _ _ _ h => h) (Or.inl ⟨by rfl, ?_⟩) (by assumption) ?_
  rotate_left
  · (intro w hSw; obtain hSw := hSw; (try dsimp only at hSw); go_simp; try (with_reducible rfl))
  (try simp only [Act.put, List.setIfInBounds_toArray, List.set_cons_zero, List.set_cons_succ, List.getElem_toArray, List.getElem_cons_succ, List.getElem_cons_zero])
  refine wpAnyH_take (i := 7) (v := ?_) rfl (by kernel_rfl) (by kernel_rfl) (by kernel_rfl) (fun _ _ _ h => h) (Or.inl ⟨by rfl, ?_⟩) (by assumption) ?_
  rotate_left
  · (intro w hSw; obtain hSw := hSw; (try dsimp only at hSw); go_simp; try (with_reducible rfl))
  (try simp only [Act.put, List.setIfInBounds_toArray, List.set_cons_zero, List.set_cons_succ, List.getElem_toArray, List.getElem_cons_succ, List.getElem_cons_zero])
  replace RA : u4.drew.heap[A]? = some (.cells #[.slice none 0 0] 26 (0, 0)) := RA
  replace B : Below A w u4.drew := B.drew
  replace hs : Src u4.drew b a n cap := hs.drewN 1
  replace hX : IntsX b u4.drew x S := hX
  replace hC : IntsX b u4.drew aC C := hC
  replace RX : u4.drew.heap[Xb]? = some (.cells #[.slice x S.length c] 26 (0, 0)) := RX
  refine wpAnyH_ready (rs := [2]) (by kernel_rfl) (by simp) ?_
  refine AllReadyH.cons rfl (fun K hK => ?_) AllReadyH.nil
  have hXl := hX.lower (b := b) (by omega)
  go_simp
  (go_at_call 48; refine (bad_any b a n cap hn x S c hSp u4.drew hs hXl).mono ?_)
  have zlt := hs.lt
  rintro e u5 ⟨ax, T, cxT, rfl, hXT, hT, hs', hg⟩
  replace RA : u5.heap[A]? = some (.cells #[.slice none 0 0] 26 (0, 0)) := row_g RA hg (by simp; omega)
  replace B : Below A w u5 := below_g B (by omega) hg (by omega)
  replace hX : IntsX b u5 x S := hX.grownR hg (by intro g o e; have := hX.2 g o e; simp; omega)
  replace hC : IntsX b u5 aC C := hC.grownR hg (by intro g o e; have := hC.2 g o e; simp; omega)
  replace RX : u5.heap[Xb]? = some (.cells #[.slice x S.length c] 26 (0, 0)) := row_g RX hg (by simp; omega)
  replace hs := hs'
  clear hg zlt hs'
  clear hXl
  refine hK.out _ _ (cell_of1' RX) (fun hHeld => ?_)
  clear hK K
  (try simp only [Act.put, List.setIfInBounds_toArray, List.set_cons_zero, List.set_cons_succ, List.getElem_toArray, List.getElem_cons_succ, List.getElem_cons_zero])
  refine wpAnyH_ready (rs := [6]) (by kernel_rfl) (by simp) ?_
  refine AllReadyH.cons rfl (fun K hK => ?_) AllReadyH.nil
  have hXl := hX.lower (b := b) (by omega)
  have hCl := hC.lower (b := b) (by omega)
  have zU := hs.lt
  go_simp
  (go_at_call 82; refine (badCode_any b a n cap hn x S c hSp aC C cC hcap hl u5 hs hXl hCl).mono ?_)
  have zlt := hs.lt
  rintro e u6 ⟨g, cE, E, rfl, ownE, hE, hs', hg⟩
  replace RA : u6.heap[A]? = some (.cells #[.slice none 0 0] 26 (0, 0)) := row_g RA hg (by simp; omega)
  replace B : Below A w u6 := below_g B (by omega) hg (by omega)
  replace hX : IntsX b u6 x S := hX.grownR hg (by intro g o e; have := hX.2 g o e; simp; omega)
  replace hC : IntsX b u6 aC C := hC.grownR hg (by intro g o e; have := hC.2 g o e; simp; omega)
  replace RX : u6.heap[Xb]? = some (.cells #[.slice x S.length c] 26 (0, 0)) := row_g RX hg (by simp; omega)
  replace hXT : IntsX b u6 ax T := hXT.grownR hg (by intro g o e; have := hXT.2 g o e; simp; omega)
  replace hs := hs'
  clear hg zlt hs'
  have zg : u5.heap.size ≤ g := ownBlock_ge5 ownE rfl
  have hgb : b < g := by omega
  replace ownE := ownE.rebase (base' := w.heap.size) (by have := HA.out; omega)
  clear zU zg hXl hCl
  refine hK.out _ _ (cell_of1' RX) (fun hHeld => ?_)
  clear hK K
  (try simp only [Act.put, List.setIfInBounds_toArray, List.set_cons_zero, List.set_cons_succ, List.getElem_toArray, List.getElem_cons_succ, List.getElem_cons_zero])
  refine wpAnyH_ready (rs := [8]) (by kernel_rfl) (by simp) ?_
  refine AllReadyH.cons rfl (fun K hK => ?_) AllReadyH.nil
  clear hs
  have xSt := cell_of1' RA
  have fSt := frozen_of_row u6 A 0 _ _ RA
  have zSt := row_lt RA
  go_simp
  replace RA : (u6.setCell ⟨A, 0, none⟩ (.slice ax T.length cxT)).heap[A]? = some (.cells #[.slice ax T.length cxT] 26 (0, 0)) := row_store1' _ RA
  replace B : Below A w (u6.setCell ⟨A, 0, none⟩ (.slice ax T.length cxT)) := B.setCell (by first | (simp; done) | (simp; omega)) _
  replace hX : IntsX b (u6.setCell ⟨A, 0, none⟩ (.slice ax T.length cxT)) x S := hX.set _ _ (by intro g o e; have := hX.2 g o e; omega)
  replace hC : IntsX b (u6.setCell ⟨A, 0, none⟩ (.slice ax T.length cxT)) aC C := hC.set _ _ (by intro g o e; have := hC.2 g o e; omega)
  replace RX : (u6.setCell ⟨A, 0, none⟩ (.slice ax T.length cxT)).heap[Xb]? = some (.cells #[.slice x S.length c] 26 (0, 0)) := row_setO RX (by simp; omega) _
  replace hXT : IntsX b (u6.setCell ⟨A, 0, none⟩ (.slice ax T.length cxT)) ax T := hXT.set _ _ (by intro g o e; have := hXT.2 g o e; omega)
  replace ownE : OwnInts (u6.setCell ⟨A, 0, none⟩ (.slice ax T.length cxT)) w.heap.size (.slice (some ⟨g, 0, none⟩) E.length cE) E := own_setO ownE _ (fun e => by simp [Value.ownBlock] at e; omega) _
  clear xSt fSt zSt
  refine hK.out _ _ (cell_of1' RX) (fun hHeld => ?_)
  clear hK K
  (try simp only [Act.put, List.setIfInBounds_toArray, List.set_cons_zero, List.set_cons_succ, List.getElem_toArray, List.getElem_cons_succ, List.getElem_cons_zero])
  refine wpAnyH_take (i := 9) (v := ?_) rfl (by kernel_rfl) (by kernel_rfl) (by kernel_rfl) (fun _ _ _ h => h) (Or.inl ⟨by rfl, ?_⟩) (by assumption) ?_
  rotate_left
  · (intro w hSw; obtain hSw := hSw; (try dsimp only at hSw); go_simp; try (with_reducible rfl))
  (try simp only [Act.put, List.setIfInBounds_toArray, List.set_cons_zero, List.set_cons_succ, List.getElem_toArray, List.getElem_cons_succ, List.getElem_cons_zero])
  refine wpAnyH_take (i := 10) (v := ?_) rfl (by kernel_rfl) (by kernel_rfl) (by kernel_rfl) (fun _ _ _ h => h) (Or.inl ⟨by rfl, ?_⟩) (by assumption) ?_
  rotate_left
  · (intro w hSw; obtain hSw := hSw; (try dsimp only at hSw); go_simp; try (with_reducible rfl))
  (try simp only [Act.put, List.setIfInBounds_toArray, List.set_cons_zero, List.set_cons_succ, List.getElem_toArray, List.getElem_cons_succ, List.getElem_cons_zero])
  refine wpAnyH_done (by kernel_rfl) ?_ _
  (try simp only [Act.put, List.setIfInBounds_toArray, List.set_cons_zero, List.set_cons_succ, List.getElem_toArray, List.getElem_cons_succ, List.getElem_cons_zero])
  have xA := cell_of1' RA
  have zA := row_lt RA
  go_wp2_with fail
  refine bodyPost_ret (by rw [results_cell_tmp2w rfl]; go_simp; try rfl) rfl ?_
  exact ⟨ax, T, cxT, g, cE, E, y, rfl, hXT.1, (fun g o e => by have := hXT.2 g o e; have := HA.out; omega), hT, ownE, hE, hy, by rw [← HA.out]; exact B⟩

set_option maxHeartbeats 8000000 in
theorem coded1_any (a : Option Addr) (n cap : Nat) (hn : n ≤ 4096) (w : World) (hY : Byts w w.heap.size a n) :
    Calls Tryz.prog 96 #[.slice a n cap] w fun e w' => ∃ ax T cx g cg F, e = .returned (.tuple #[.agg #[.slice ax T.length cx], .slice (some ⟨g, 0, none⟩) F.length cg]) ∧ Ints w' ax T ∧ (∀ g o, ax = some ⟨g, o, none⟩ → w.heap.size ≤ g) ∧ T.length ≤ 8 ∧ OwnInts w' w.heap.size (.slice (some ⟨g, 0, none⟩) F.length cg) F ∧ F.length ≤ 1048577 ∧ Below w.heap.size w w' := by
  obtain ⟨A, hA⟩ : ∃ A, A = w.heap.size := ⟨_, rfl⟩
  obtain ⟨W, hW⟩ : ∃ W, W = w.alloc (.cells #[.slice none 0 0] 26) := ⟨_, rfl⟩
  have zW : W.heap.size = A + 1 := by rw [hW, hA]; simp
  have RA : W.heap[A]? = some (.cells #[.slice none 0 0] 26 (0, 0)) := by rw [hW, hA]; exact heap_alloc_new w _
  have B : Below A w W := by rw [hW, hA]; exact (Below.refl _ w).alloc (Nat.le_refl _) _
  have hY0 : Byts W W.heap.size a n := by rw [zW]; exact ((hY.mono (by omega)).keep fun b o v hb h => by rw [hW]; exact kept_cell ((Below.refl w.heap.size w).alloc (Nat.le_refl _) _) h (by have := World.block_lt_of_cell? w _ h; exact this))
  have hfr := from_any a n cap hn W hY0
  have HA := Lib.hid hA
  have HW := Lib.hid hW
  obtain ⟨b, hb⟩ : ∃ b, b = W.heap.size := ⟨_, rfl⟩
  rw [← hb] at hfr hY0
  have hbA : b = A + 1 := by omega
  have HB := Lib.hid hb
  clear hA hW
  go_enter Tryz.func96, Tryz.ntmps96
  go_wp2_with fail
  rw [← HW.out, ← HA.out]
  refine hfr.mono ?_
  rintro e w1 ⟨rfl, hs, hb1⟩
  rw [hb] at hb1
  replace RA := row_g RA (grown_of_below hb1 none) (by simp)
  replace B := B.trans (hb1.mono (by omega))
  have hAb : A < b := by omega
  clear hfr hb1 hb zW hbA hY hY0
  have hc := draw_any b a n cap hn w1 hs
  have zlt := hs.lt
  have zA0 := row_lt RA
  go_wp2_with fail
  refine hc.mono ?_
  rintro e u1 ⟨vS, S, rfl, oS, hSp, hs', hg⟩
  obtain ⟨x, c, hvS⟩ := own_shp oS
  subst hvS
  have hX := intsX_own (b := b) oS zlt
  replace RA : u1.heap[A]? = some (.cells #[.slice none 0 0] 26 (0, 0)) := row_g RA hg (by simp; omega)
  replace B : Below A w u1 := below_g B (by omega) hg (by omega)
  replace hs := hs'
  clear hc hg hs' zlt zA0 oS
  have hAl := row_lt RA
  have hbl := hs.lt
  obtain ⟨Xb, hXb⟩ : ∃ z, z = u1.heap.size := ⟨_, rfl⟩
  obtain ⟨u2, hu2⟩ : ∃ z, z = u1.alloc (.cells #[.slice x S.length c] 26) := ⟨_, rfl⟩
  have RX : u2.heap[Xb]? = some (.cells #[.slice x S.length c] 26 (0, 0)) := by rw [hu2, hXb]; exact heap_alloc_new _ _
  replace RA : u2.heap[A]? = some (.cells #[.slice none 0 0] 26 (0, 0)) := by rw [hu2]; exact row_g RA (World.grownBy_alloc _ _ none) (by simp)
  replace B : Below A w u2 := by rw [hu2]; exact B.alloc (by first | exact B.size | omega) _
  replace hs : Src u2 b a n cap := by rw [hu2]; exact hs.alloc _
  replace hX : IntsX b u2 x S := by rw [hu2]; exact hX.below (B := 0) ((Below.refl _ _).alloc (Nat.le_refl _) _)
  have HXb := Lib.hid hXb
  have Hu2 := Lib.hid hu2
  have hAX : A < Xb := by rw [hXb]; exact hAl
  have hbX : b < Xb := by rw [hXb]; exact hbl
  clear hXb hu2 hAl hbl
  go_wp2_with fail
  rw [← Hu2.out, ← HXb.out]
  refine wp_region_held_drew (S := fun w' => w'.cell? ⟨Xb, 0, none⟩ = some (.slice x S.length c)) (by kernel_rfl) (cell_of1' RX) (fun hHeld => ?_)
  refine wpAnyH_take (i := 0) (v := ?_) rfl (by kernel_rfl) (by kernel_rfl) (by kernel_rfl) (fun _ _ _ h => h) (Or.inl ⟨by rfl, ?_⟩) (by assumption) ?_
  rotate_left
  · (intro w hSw; obtain hSw := hSw; (try dsimp only at hSw); go_simp; try (with_reducible rfl))
  (try simp only [Act.put, List.setIfInBounds_toArray, List.set_cons_zero, List.set_cons_succ, List.getElem_toArray, List.getElem_cons_succ, List.getElem_cons_zero])
  refine wpAnyH_take (i := 1) (v := ?_) rfl (by kernel_rfl) (by kernel_rfl) (by kernel_rfl) (fun _ _ _ h => h) (Or.inl ⟨by rfl, ?_⟩) (by assumption) ?_
  rotate_left
  · (intro w hSw; obtain hSw := hSw; (try dsimp only at hSw); go_simp; try (with_reducible rfl))
  (try simp only [Act.put, List.setIfInBounds_toArray, List.set_cons_zero, List.set_cons_succ, List.getElem_toArray, List.getElem_cons_succ, List.getElem_cons_zero])
  refine wpAnyH_take (i := 2) (v := ?_) rfl (by kernel_rfl) (by kernel_rfl) (by kernel_rfl) (fun _ _ _ h => h) (Or.inl ⟨by rfl, ?_⟩) (by assumption) ?_
  rotate_left
  · (intro w hSw; obtain hSw := hSw; (try dsimp only at hSw); go_simp; try (with_reducible rfl))
  (try simp only [Act.put, List.setIfInBounds_toArray, List.set_cons_zero, List.set_cons_succ, List.getElem_toArray, List.getElem_cons_succ, List.getElem_cons_zero])
  refine wpAnyH_take (i := 3) (v := ?_) rfl (by kernel_rfl) (by kernel_rfl) (by kernel_rfl) (fun _ _ _ h => h) (Or.inl ⟨by rfl, ?_⟩) (by assumption) ?_
  rotate_left
  · (intro w hSw; obtain hSw := hSw; (try dsimp only at hSw); go_simp; try (with_reducible rfl))
  (try simp only [Act.put, List.setIfInBounds_toArray, List.set_cons_zero, List.set_cons_succ, List.getElem_toArray, List.getElem_cons_succ, List.getElem_cons_zero])
  replace RA : u2.drew.heap[A]? = some (.cells #[.slice none 0 0] 26 (0, 0)) := RA
  replace B : Below A w u2.drew := B.drew
  replace hs : Src u2.drew b a n cap := hs.drewN 1
  replace hX : IntsX b u2.drew x S := hX
  replace RX : u2.drew.heap[Xb]? = some (.cells #[.slice x S.length c] 26 (0, 0)) := RX
  refine wpAnyH_ready (rs := [4]) (by kernel_rfl) (by simp) ?_
  refine AllReadyH.cons rfl (fun K hK => ?_) AllReadyH.nil
  have zU := hs.lt
  go_simp
  (go_at_call 122; refine (drawCode_any b a n cap hn x S c hSp u2.drew hs hX).mono ?_)
  have zlt := hs.lt
  rintro e u3 ⟨vC, C, rfl, oC, hCL, hs', hg⟩
  replace RA : u3.heap[A]? = some (.cells #[.slice none 0 0] 26 (0, 0)) := row_g RA hg (by simp; omega)
  replace B : Below A w u3 := below_g B (by omega) hg (by omega)
  replace hX : IntsX b u3 x S := hX.grownR hg (by intro g o e; have := hX.2 g o e; simp; omega)
  replace RX : u3.heap[Xb]? = some (.cells #[.slice x S.length c] 26 (0, 0)) := row_g RX hg (by simp; omega)
  replace hs := hs'
  clear hg zlt hs'
  obtain ⟨aC, cC, hvC⟩ := own_shp oC
  subst hvC
  have hC := intsX_own (b := b) oC zU
  have hcap := own_cap05 oC
  have hl : C.length ≤ 1048576 := by have := hCL.2; omega
  clear zU oC hCL
  refine hK.out _ _ (cell_of1' RX) (fun hHeld => ?_)
  clear hK K
  (try simp only [Act.put, List.setIfInBounds_toArray, List.set_cons_zero, List.set_cons_succ, List.getElem_toArray, List.getElem_cons_succ, List.getElem_cons_zero])
  refine wpAnyH_ready (rs := [5]) (by kernel_rfl) (by simp) ?_
  refine AllReadyH.cons rfl (fun K hK => ?_) AllReadyH.nil
  have zU := hs.lt
  go_simp
  (go_at_call 82; refine (badCode_any b a n cap hn x S c hSp aC C cC hcap hl u3 hs hX hC).mono ?_)
  have zlt := hs.lt
  rintro e u4 ⟨g, cE, E, rfl, ownE, hE, hs', hg⟩
  replace RA : u4.heap[A]? = some (.cells #[.slice none 0 0] 26 (0, 0)) := row_g RA hg (by simp; omega)
  replace B : Below A w u4 := below_g B (by omega) hg (by omega)
  replace hX : IntsX b u4 x S := hX.grownR hg (by intro g o e; have := hX.2 g o e; simp; omega)
  replace RX : u4.heap[Xb]? = some (.cells #[.slice x S.length c] 26 (0, 0)) := row_g RX hg (by simp; omega)
  replace hC : IntsX b u4 aC C := hC.grownR hg (by intro g o e; have := hC.2 g o e; simp; omega)
  replace hs := hs'
  clear hg zlt hs'
  have zg : u3.heap.size ≤ g := ownBlock_ge5 ownE rfl
  have hgb : b < g := by omega
  replace ownE := ownE.rebase (base' := w.heap.size) (by have := HA.out; omega)
  clear zU zg hC
  refine hK.out _ _ (cell_of1' RX) (fun hHeld => ?_)
  clear hK K
  (try simp only [Act.put, List.setIfInBounds_toArray, List.set_cons_zero, List.set_cons_succ, List.getElem_toArray, List.getElem_cons_succ, List.getElem_cons_zero])
  refine wpAnyH_take (i := 6) (v := ?_) rfl (by kernel_rfl) (by kernel_rfl) (by kernel_rfl) (fun _ _ _ h => h) (Or.inl ⟨by rfl, ?_⟩) (by assumption) ?_
  rotate_left
  · (intro w hSw; obtain hSw := hSw; (try dsimp only at hSw); go_simp; try (with_reducible rfl))
  (try simp only [Act.put, List.setIfInBounds_toArray, List.set_cons_zero, List.set_cons_succ, List.getElem_toArray, List.getElem_cons_succ, List.getElem_cons_zero])
  refine wpAnyH_done (by kernel_rfl) ?_ _
  (try simp only [Act.put, List.setIfInBounds_toArray, List.set_cons_zero, List.set_cons_succ, List.getElem_toArray, List.getElem_cons_succ, List.getElem_cons_zero])
  have xX := cell_of1' RX
  have zlt := hs.lt
  have hc := bad_any b a n cap hn x S c hSp u4 hs hX
  go_wp2_with fail
  refine hc.mono ?_
  rintro e u5 ⟨ax, T, cxT, rfl, hXT, hT, hs', hg⟩
  replace RA : u5.heap[A]? = some (.cells #[.slice none 0 0] 26 (0, 0)) := row_g RA hg (by simp; omega)
  replace B : Below A w u5 := below_g B (by omega) hg (by omega)
  replace hX : IntsX b u5 x S := hX.grownR hg (by intro g o e; have := hX.2 g o e; simp; omega)
  replace RX : u5.heap[Xb]? = some (.cells #[.slice x S.length c] 26 (0, 0)) := row_g RX hg (by simp; omega)
  replace ownE : OwnInts u5 w.heap.size (.slice (some ⟨g, 0, none⟩) E.length cE) E := ownE.kept hg (.inr (by simp [Value.ownBlock]; omega))
  clear hc hg hs' zlt hs xX
  have xA := cell_of1' RA
  have fA := frozen_of_row u5 A 0 _ _ RA
  have zA := row_lt RA
  have HIe : Ints (u5.setCell ⟨A, 0, none⟩ (.slice ax T.length cxT)) ax T := ints_setA hXT.1 (fun g o e => by have := hXT.2 g o e; omega)
  have owne := own_setO ownE A (fun e => by simp [Value.ownBlock] at e; omega) (.slice ax T.length cxT)
  have Be : Below A w (u5.setCell ⟨A, 0, none⟩ (.slice ax T.length cxT)) := B.setCell (by simp) _
  go_wp2_with fail
  refine bodyPost_ret (by rw [results_cell_tmp15 rfl]; go_simp; try rfl) rfl ?_
  exact ⟨ax, T, cxT, g, cE, E, rfl, HIe, (fun g o e => by have := hXT.2 g o e; have := HA.out; omega), hT, owne, hE, by rw [← HA.out]; exact Be⟩

set_option maxHeartbeats 8000000 in
theorem drawWc_any (a : Option Addr) (n cap : Nat) (hn : n ≤ 4096) (w : World) (hY : Byts w w.heap.size a n) :
    Calls Tryz.prog 41 #[.slice a n cap] w fun e w' => ∃ ax T cx g cg F, e = .returned (.tuple #[.agg #[.slice ax T.length cx], .slice (some ⟨g, 0, none⟩) F.length cg]) ∧ Ints w' ax T ∧ (∀ g o, ax = some ⟨g, o, none⟩ → w.heap.size ≤ g) ∧ T.length ≤ 8 ∧ OwnInts w' w.heap.size (.slice (some ⟨g, 0, none⟩) F.length cg) F ∧ F.length ≤ 1048577 ∧ Below w.heap.size w w' := by
  obtain ⟨A, hA⟩ : ∃ A, A = w.heap.size := ⟨_, rfl⟩
  obtain ⟨W, hW⟩ : ∃ W, W = w.alloc (.cells #[.slice none 0 0] 26) := ⟨_, rfl⟩
  have zW : W.heap.size = A + 1 := by rw [hW, hA]; simp
  have RA0 : W.heap[A]? = some (.cells #[.slice none 0 0] 26 (0, 0)) := by rw [hW, hA]; exact heap_alloc_new w _
  have B0 : Below A w W := by rw [hW, hA]; exact (Below.refl _ w).alloc (Nat.le_refl _) _
  have hY0 : Byts W W.heap.size a n := by rw [zW]; exact ((hY.mono (by omega)).keep fun b o v hb h => by rw [hW]; exact kept_cell ((Below.refl w.heap.size w).alloc (Nat.le_refl _) _) h (by have := World.block_lt_of_cell? w _ h; exact this))
  have hc := coded1_any a n cap hn W hY0
  have HA := Lib.hid hA
  have HW := Lib.hid hW
  clear hA hW hY0
  go_enter Tryz.func41, Tryz.ntmps41
  go_wp2_with fail
  rw [← HW.out, ← HA.out]
  refine hc.mono ?_
  rintro e w1 ⟨ax, T, cx, g, cg, E, rfl, hI, hax, hT, ownE, hE, hb1⟩
  have RA1 := row_g RA0 (grown_of_below hb1 none) (by simp)
  have B1 : Below A w w1 := B0.trans (hb1.mono (by omega))
  have hax' : ∀ g o, ax = some ⟨g, o, none⟩ → A + 1 ≤ g := fun g o e => by have := hax g o e; omega
  have hgA : A + 1 ≤ g := by have : W.heap.size ≤ g := ownBlock_ge5 ownE rfl; omega
  have ownW := ownE.rebase (base' := w.heap.size) (by have := HA.out; omega)
  have hAx : ∀ g o, ax = some ⟨g, o, none⟩ → g ≠ A := fun g o e => by have := hax' g o e; omega
  clear hc hb1 RA0 B0 hax ownE zW
  obtain ⟨w2, hw2⟩ : ∃ z, z = w1.alloc (.cells #[.slice ax T.length cx] 26) := ⟨_, rfl⟩
  have RA2 : (w1.alloc (.cells #[.slice ax T.length cx] 26)).heap[A]? = some (.cells #[.slice none 0 0] 26 (0, 0)) := row_g RA1 (World.grownBy_alloc _ _ none) (by simp)
  have xA := cell_of1' RA2
  have fA := frozen_of_row _ A 0 _ _ RA2
  have zA := row_lt RA2
  have HIe : Ints ((w1.alloc (.cells #[.slice ax T.length cx] 26)).setCell ⟨A, 0, none⟩ (.slice ax T.length cx)) ax T := ints_setA (hI.below ((Below.refl _ _).alloc (Nat.le_refl _) _)) hAx
  have owne := own_setO (ownW.alloc (.cells #[.slice ax T.length cx] 26)) A (fun e => by simp [Value.ownBlock] at e; omega) (.slice ax T.length cx)
  have Be : Below A w ((w1.alloc (.cells #[.slice ax T.length cx] 26)).setCell ⟨A, 0, none⟩ (.slice ax T.length cx)) := (B1.alloc (by have := row_lt RA1; omega) _).setCell (by simp) _
  clear hw2
  go_wp2_with fail
  refine bodyPost_ret (by rw [results_cell_tmp15 rfl]; go_simp; try rfl) rfl ?_
  exact ⟨ax, T, cx, g, cg, E, rfl, HIe, (fun g o e => by have := hax' g o e; have := HA.out; omega), hT, owne, hE, by rw [← HA.out]; exact Be⟩

end Go.Proofs.YtcnnijeokefboaaGreatDoor
