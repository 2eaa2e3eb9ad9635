/-
  A draw of chapter 9 from bytes: words reached. By an AI agent.
-/
import Derived.Test.YtamebfbddoeflaaPkDrw9n
namespace Go.Proofs.Ytamebfbddoeflaa
open Go.RowKit Cv
set_option linter.unusedVariables false
set_option linter.unusedSimpArgs false
set_option maxRecDepth 100000

set_option maxHeartbeats 8000000 in
theorem drawWr_any (a : Option Addr) (n cap : Nat) (hn : n ≤ 4096) (w : World) (hY : Byts w w.heap.size a n) :
    Calls Try.prog 5 #[.slice a n cap] w fun e w' => ∃ ax T cx g cg F aQ Q cQ m, e = .returned (.tuple #[.agg #[.slice ax T.length cx], .slice (some ⟨g, 0, none⟩) F.length cg, .slice aQ Q.length cQ, .int .i64 m]) ∧ Ints w' ax T ∧ (∀ g o, ax = some ⟨g, o, none⟩ → w.heap.size ≤ g) ∧ T.length ≤ 8 ∧ OwnInts w' w.heap.size (.slice (some ⟨g, 0, none⟩) F.length cg) F ∧ F.length ≤ 1048577 ∧ Ints w' aQ Q ∧ Q.length ≤ cQ ∧ Q.length ≤ 20 ∧ (-9223372036854775808 ≤ m ∧ m ≤ 9223372036854775807) ∧ Below w.heap.size w w' := by
  obtain ⟨A, hA⟩ : ∃ A, A = w.heap.size := ⟨_, rfl⟩
  obtain ⟨W, hW⟩ : ∃ W, W = w.alloc (.cells #[.slice none 0 0] 26) := ⟨_, rfl⟩
  have zW : W.heap.size = A + 1 := by rw [hW, hA]; simp
  have RA : W.heap[A]? = some (.cells #[.slice none 0 0] 26 (0, 0)) := by rw [hW, hA]; exact heap_alloc_new w _
  have B : Below A w W := by rw [hW, hA]; exact (Below.refl _ w).alloc (Nat.le_refl _) _
  have hY0 : Byts W W.heap.size a n := by rw [zW]; exact ((hY.mono (by omega)).keep fun b o v hb h => by rw [hW]; exact kept_cell ((Below.refl w.heap.size w).alloc (Nat.le_refl _) _) h (by have := World.block_lt_of_cell? w _ h; exact this))
  have hfr := from_any a n cap hn W hY0
  have HA := Lib.hid hA
  have HW := Lib.hid hW
  obtain ⟨b, hb⟩ : ∃ b, b = W.heap.size := ⟨_, rfl⟩
  rw [← hb] at hfr hY0
  have hbA : b = A + 1 := by omega
  have HB := Lib.hid hb
  clear hA hW
  go_enter Try.func5, Try.ntmps5
  go_wp2_with fail
  rw [← HW.out, ← HA.out]
  refine hfr.mono ?_
  rintro e w1 ⟨rfl, hs, hb1⟩
  rw [hb] at hb1
  replace RA := row_g RA (grown_of_below hb1 none) (by simp)
  replace B := B.trans (hb1.mono (by omega))
  have hAb : A < b := by omega
  clear hfr hb1 hb zW hbA hY hY0
  have hc := draw9_any b a n cap hn w1 hs
  have zlt := hs.lt
  go_wp2_with fail
  refine hc.mono ?_
  rintro e u1 ⟨x, S, c, gS, C, cS, aQ, Q, cQ, rfl, hX, hSp, hC, hCl, hQ, hQc, hQl, hs', hg⟩
  replace hX := hX.lower (b := b) (by omega)
  replace hC := hC.lower (b := b) (by omega)
  replace hQ := hQ.lower (b := b) (by omega)
  replace RA : u1.heap[A]? = some (.cells #[.slice none 0 0] 26 (0, 0)) := row_g RA hg (by simp; omega)
  replace B : Below A w u1 := below_g B (by omega) hg (by omega)
  replace hs := hs'
  clear hc hg hs' zlt
  have hAl := row_lt RA
  have hbl := hs.lt
  obtain ⟨Xb, hXb⟩ : ∃ z, z = u1.heap.size := ⟨_, rfl⟩
  obtain ⟨u2, hu2⟩ : ∃ z, z = u1.alloc (.cells #[.slice x S.length c] 26) := ⟨_, rfl⟩
  have RX : u2.heap[Xb]? = some (.cells #[.slice x S.length c] 26 (0, 0)) := by rw [hu2, hXb]; exact heap_alloc_new _ _
  replace RA : u2.heap[A]? = some (.cells #[.slice none 0 0] 26 (0, 0)) := by rw [hu2]; exact row_g RA (World.grownBy_alloc _ _ none) (by simp)
  replace B : Below A w u2 := by rw [hu2]; exact B.alloc (by first | exact B.size | omega) _
  replace hs : Src u2 b a n cap := by rw [hu2]; exact hs.alloc _
  replace hX : IntsX b u2 x S := by rw [hu2]; exact hX.below (B := 0) ((Below.refl _ _).alloc (Nat.le_refl _) _)
  replace hC : IntsX b u2 (some ⟨gS, 0, none⟩) C := by rw [hu2]; exact hC.below (B := 0) ((Below.refl _ _).alloc (Nat.le_refl _) _)
  replace hQ : IntsX b u2 aQ Q := by rw [hu2]; exact hQ.below (B := 0) ((Below.refl _ _).alloc (Nat.le_refl _) _)
  have HXb := Lib.hid hXb
  have Hu2 := Lib.hid hu2
  have hAX : A < Xb := by rw [hXb]; exact hAl
  have hbX : b < Xb := by rw [hXb]; exact hbl
  clear hXb hu2 hAl hbl
  obtain ⟨u3, hu3⟩ : ∃ z, z = u2.alloc (.cells #[.int .i64 1, .int .i64 2, .int .i64 8] 2) := ⟨_, rfl⟩
  have hx1 : u2.heap.size = Xb + 1 := by rw [Hu2.out, HXb.out, World.size_alloc]
  have I2 : Ints u3 (some ⟨Xb + 1, 0, none⟩) [1, 2, 8] := by rw [hu3, ← hx1]; exact ints_new _ [1, 2, 8] _
  have zs1 := hs.lt
  have hb : Below u2.heap.size u2 u3 := by rw [hu3]; exact (Below.refl _ _).alloc (Nat.le_refl _) _
  replace RA : u3.heap[A]? = some (.cells #[.slice none 0 0] 26 (0, 0)) := row_g RA (grown_of_below hb none) (by simp)
  replace B : Below A w u3 := B.trans (hb.mono (by first | exact B.size | (have := hs.lt; omega)))
  replace hs : Src u3 b a n cap := hs.below hb hs.lt
  replace hX : IntsX b u3 x S := hX.below (B := 0) hb
  replace hC : IntsX b u3 (some ⟨gS, 0, none⟩) C := hC.below (B := 0) hb
  replace hQ : IntsX b u3 aQ Q := hQ.below (B := 0) hb
  replace RX : u3.heap[Xb]? = some (.cells #[.slice x S.length c] 26 (0, 0)) := row_g RX (grown_of_below hb none) (by simp)
  clear hb
  have hc := pick_n b a n cap hn (Xb + 1) _ 3 rfl (by omega) (by omega) (by omega) u3 hs I2
  have Hu3 := Lib.hid hu3
  clear hu3 I2
  have zlt := hs.lt
  go_wp2_with fail
  rw [← Hu2.out, ← HXb.out]
  rw [← Hu3.out]
  refine hc.mono ?_
  rintro e u4 ⟨z, rfl, hz, hs', hg⟩
  have hz2 : -1 ≤ z ∧ z ≤ 1000000 := by simp at hz; omega
  replace RA : u4.heap[A]? = some (.cells #[.slice none 0 0] 26 (0, 0)) := row_g RA hg (by simp; omega)
  replace B : Below A w u4 := below_g B (by omega) hg (by omega)
  replace hX : IntsX b u4 x S := hX.grownR hg (by intro g o e; have := hX.2 g o e; simp; omega)
  replace hC : IntsX b u4 (some ⟨gS, 0, none⟩) C := hC.grownR hg (by intro g o e; have := hC.2 g o e; simp; omega)
  replace hQ : IntsX b u4 aQ Q := hQ.grownR hg (by intro g o e; have := hQ.2 g o e; simp; omega)
  replace RX : u4.heap[Xb]? = some (.cells #[.slice x S.length c] 26 (0, 0)) := row_g RX hg (by simp; omega)
  replace hs := hs'
  clear hc hg hs' zlt hz zs1
  have zlt := hs.lt
  have hnr := near_any b a n cap hn z hz2 u4 hs
  go_wp2_with fail
  refine hnr.mono ?_
  rintro e u5 ⟨y, rfl, hy, hs', hg⟩
  replace RA : u5.heap[A]? = some (.cells #[.slice none 0 0] 26 (0, 0)) := row_g RA hg (by simp; omega)
  replace B : Below A w u5 := below_g B (by omega) hg (by omega)
  replace hX : IntsX b u5 x S := hX.grownR hg (by intro g o e; have := hX.2 g o e; simp; omega)
  replace hC : IntsX b u5 (some ⟨gS, 0, none⟩) C := hC.grownR hg (by intro g o e; have := hC.2 g o e; simp; omega)
  replace hQ : IntsX b u5 aQ Q := hQ.grownR hg (by intro g o e; have := hQ.2 g o e; simp; omega)
  replace RX : u5.heap[Xb]? = some (.cells #[.slice x S.length c] 26 (0, 0)) := row_g RX hg (by simp; omega)
  replace hs := hs'
  clear hnr hg hs' zlt hz2
  go_wp2_with fail
  refine wp_region_held_drew (S := fun w' => w'.cell? ⟨Xb, 0, none⟩ = some (.slice x S.length c)) (by kernel_rfl) (cell_of1' RX) (fun hHeld => ?_)
  refine wpAnyH_take (i := 0) (v := ?_) rfl (by kernel_rfl) (by kernel_rfl) (by kernel_rfl) (fun _ _ _ h => h) (Or.inl ⟨by rfl, ?_⟩) (by assumption) ?_
  rotate_left
  · (intro w hSw; obtain hSw := hSw; (try dsimp only at hSw); go_simp; try (with_reducible rfl))
  (try simp only [Act.put, List.setIfInBounds_toArray, List.set_cons_zero, List.set_cons_succ, List.getElem_toArray, List.getElem_cons_succ, List.getElem_cons_zero])
  refine wpAnyH_take (i := 1) (v := ?_) rfl (by kernel_rfl) (by kernel_rfl) (by kernel_rfl) (fun _ _ _ h => h) (Or.inl ⟨by rfl, ?_⟩) (by assumption) ?_
  rotate_left
  · (intro w hSw; obtain hSw := hSw; (try dsimp only at hSw); go_simp; try (with_reducible rfl))
  (try simp only [Act.put, List.setIfInBounds_toArray, List.set_cons_zero, List.set_cons_succ, List.getElem_toArray, List.getElem_cons_succ, List.getElem_cons_zero])
  refine wpAnyH_take (i := 3) (v := ?_) rfl (by kernel_rfl) (by kernel_rfl) (by kernel_rfl) (fun _ _ _ h => h) (Or.inl ⟨by rfl, ?_⟩) (by assumption) ?_
  rotate_left
  · (intro w hSw; obtain hSw := hSw; (try dsimp only at hSw); go_simp; try (with_reducible rfl))
  (try simp only [Act.put, List.setIfInBounds_toArray, List.set_cons_zero, List.set_cons_succ, List.getElem_toArray, List.getElem_cons_succ, List.getElem_cons_zero])
  refine wpAnyH_take (i := 4) (v := ?_) rfl (by kernel_rfl) (by kernel_rfl) (by kernel_rfl) (fun _ _ _ h => h) (Or.inl ⟨by rfl, ?_⟩) (by assumption) ?_
  rotate_left
  · (intro w hSw; obtain hSw := hSw; (try dsimp only at hSw); go_simp; try (with_reducible rfl))
  (try simp only [Act.put, List.setIfInBounds_toArray, List.set_cons_zero, List.set_cons_succ, List.getElem_toArray, List.getElem_cons_succ, List.getElem_cons_zero])
  refine wpAnyH_take (i := 5) (v := ?_) rfl (by kernel_rfl) (by kernel_rfl) (by kernel_rfl) (fun _ _ _ h => h) (Or.inl ⟨by rfl, ?_⟩) (by assumption) ?_
  rotate_left
  · (intro w hSw; obtain hSw := hSw; (try dsimp only at hSw); go_simp; try (with_reducible rfl))
  (try simp only [Act.put, List.setIfInBounds_toArray, List.set_cons_zero, List.set_cons_succ, List.getElem_toArray, List.getElem_cons_succ, List.getElem_cons_zero])
  refine wpAnyH_take (i := 7) (v := ?_) rfl (by kernel_rfl) (by kernel_rfl) (by kernel_rfl) (fun _ _ _ h => h) (Or.inl ⟨by rfl, ?_⟩) (by assumption) ?_
  rotate_left
  · (intro w hSw; obtain hSw := hSw; (try dsimp only at hSw); go_simp; try (with_reducible rfl))
  (try simp only [Act.put, List.setIfInBounds_toArray, List.set_cons_zero, List.set_cons_succ, List.getElem_toArray, List.getElem_cons_succ, List.getElem_cons_zero])
  refine wpAnyH_take (i := 8) (v := ?_) rfl (by kernel_rfl) (by kernel_rfl) (by kernel_rfl) (fun _ _ _ h => h) (Or.inl ⟨by rfl, ?_⟩) (by assumption) ?_
  rotate_left
  · (intro w hSw; obtain hSw := hSw; (try dsimp only at hSw); go_simp; try (with_reducible rfl))
  (try simp only [Act.put, List.setIfInBounds_toArray, List.set_cons_zero, List.set_cons_succ, List.getElem_toArray, List.getElem_cons_succ, List.getElem_cons_zero])
  replace RA : u5.drew.heap[A]? = some (.cells #[.slice none 0 0] 26 (0, 0)) := RA
  replace B : Below A w u5.drew := B.drew
  replace hs : Src u5.drew b a n cap := hs.drewN 1
  replace hX : IntsX b u5.drew x S := hX
  replace hC : IntsX b u5.drew (some ⟨gS, 0, none⟩) C := hC
  replace hQ : IntsX b u5.drew aQ Q := hQ
  replace RX : u5.drew.heap[Xb]? = some (.cells #[.slice x S.length c] 26 (0, 0)) := RX
  refine wpAnyH_ready (rs := [2]) (by kernel_rfl) (by simp) ?_
  refine AllReadyH.cons rfl (fun K hK => ?_) AllReadyH.nil
  have hXl := hX.lower (b := b) (by omega)
  go_simp
  (go_at_call 23; refine (bad_any b a n cap hn x S c hSp u5.drew hs hXl).mono ?_)
  have zlt := hs.lt
  rintro e u6 ⟨ax, T, cxT, rfl, hXT, hT, hs', hg⟩
  replace RA : u6.heap[A]? = some (.cells #[.slice none 0 0] 26 (0, 0)) := row_g RA hg (by simp; omega)
  replace B : Below A w u6 := below_g B (by omega) hg (by omega)
  replace hX : IntsX b u6 x S := hX.grownR hg (by intro g o e; have := hX.2 g o e; simp; omega)
  replace hC : IntsX b u6 (some ⟨gS, 0, none⟩) C := hC.grownR hg (by intro g o e; have := hC.2 g o e; simp; omega)
  replace hQ : IntsX b u6 aQ Q := hQ.grownR hg (by intro g o e; have := hQ.2 g o e; simp; omega)
  replace RX : u6.heap[Xb]? = some (.cells #[.slice x S.length c] 26 (0, 0)) := row_g RX hg (by simp; omega)
  replace hs := hs'
  clear hg zlt hs'
  clear hXl
  refine hK.out _ _ (cell_of1' RX) (fun hHeld => ?_)
  clear hK K
  (try simp only [Act.put, List.setIfInBounds_toArray, List.set_cons_zero, List.set_cons_succ, List.getElem_toArray, List.getElem_cons_succ, List.getElem_cons_zero])
  refine wpAnyH_ready (rs := [6]) (by kernel_rfl) (by simp) ?_
  refine AllReadyH.cons rfl (fun K hK => ?_) AllReadyH.nil
  have hXl := hX.lower (b := b) (by omega)
  have hCl2 := hC.lower (b := b) (by omega)
  have zU := hs.lt
  go_simp
  (go_at_call 24; refine (badCode_any b a n cap hn x S c hSp (some ⟨gS, 0, none⟩) C cS (fun e => by cases e) (by omega) u6 hs hXl hCl2).mono ?_)
  have zlt := hs.lt
  rintro e u7 ⟨g, cE, E, rfl, ownE, hE, hs', hg⟩
  replace RA : u7.heap[A]? = some (.cells #[.slice none 0 0] 26 (0, 0)) := row_g RA hg (by simp; omega)
  replace B : Below A w u7 := below_g B (by omega) hg (by omega)
  replace hX : IntsX b u7 x S := hX.grownR hg (by intro g o e; have := hX.2 g o e; simp; omega)
  replace hC : IntsX b u7 (some ⟨gS, 0, none⟩) C := hC.grownR hg (by intro g o e; have := hC.2 g o e; simp; omega)
  replace hQ : IntsX b u7 aQ Q := hQ.grownR hg (by intro g o e; have := hQ.2 g o e; simp; omega)
  replace RX : u7.heap[Xb]? = some (.cells #[.slice x S.length c] 26 (0, 0)) := row_g RX hg (by simp; omega)
  replace hXT : IntsX b u7 ax T := hXT.grownR hg (by intro g o e; have := hXT.2 g o e; simp; omega)
  replace hs := hs'
  clear hg zlt hs'
  have zg : u6.heap.size ≤ g := ownBlock_ge5 ownE rfl
  have hgb : b < g := by omega
  replace ownE := ownE.rebase (base' := w.heap.size) (by have := HA.out; omega)
  clear zU zg hXl hCl2
  refine hK.out _ _ (cell_of1' RX) (fun hHeld => ?_)
  clear hK K
  (try simp only [Act.put, List.setIfInBounds_toArray, List.set_cons_zero, List.set_cons_succ, List.getElem_toArray, List.getElem_cons_succ, List.getElem_cons_zero])
  refine wpAnyH_ready (rs := [9]) (by kernel_rfl) (by simp) ?_
  refine AllReadyH.cons rfl (fun K hK => ?_) AllReadyH.nil
  clear hs
  have xSt := cell_of1' RA
  have fSt := frozen_of_row u7 A 0 _ _ RA
  have zSt := row_lt RA
  go_simp
  replace RA : (u7.setCell ⟨A, 0, none⟩ (.slice ax T.length cxT)).heap[A]? = some (.cells #[.slice ax T.length cxT] 26 (0, 0)) := row_store1' _ RA
  replace B : Below A w (u7.setCell ⟨A, 0, none⟩ (.slice ax T.length cxT)) := B.setCell (by first | (simp; done) | (simp; omega)) _
  replace hX : IntsX b (u7.setCell ⟨A, 0, none⟩ (.slice ax T.length cxT)) x S := hX.set _ _ (by intro g o e; have := hX.2 g o e; omega)
  replace hC : IntsX b (u7.setCell ⟨A, 0, none⟩ (.slice ax T.length cxT)) (some ⟨gS, 0, none⟩) C := hC.set _ _ (by intro g o e; have := hC.2 g o e; omega)
  replace hQ : IntsX b (u7.setCell ⟨A, 0, none⟩ (.slice ax T.length cxT)) aQ Q := hQ.set _ _ (by intro g o e; have := hQ.2 g o e; omega)
  replace RX : (u7.setCell ⟨A, 0, none⟩ (.slice ax T.length cxT)).heap[Xb]? = some (.cells #[.slice x S.length c] 26 (0, 0)) := row_setO RX (by simp; omega) _
  replace hXT : IntsX b (u7.setCell ⟨A, 0, none⟩ (.slice ax T.length cxT)) ax T := hXT.set _ _ (by intro g o e; have := hXT.2 g o e; omega)
  replace ownE : OwnInts (u7.setCell ⟨A, 0, none⟩ (.slice ax T.length cxT)) w.heap.size (.slice (some ⟨g, 0, none⟩) E.length cE) E := own_setO ownE _ (fun e => by simp [Value.ownBlock] at e; omega) _
  clear xSt fSt zSt
  refine hK.out _ _ (cell_of1' RX) (fun hHeld => ?_)
  clear hK K
  (try simp only [Act.put, List.setIfInBounds_toArray, List.set_cons_zero, List.set_cons_succ, List.getElem_toArray, List.getElem_cons_succ, List.getElem_cons_zero])
  refine wpAnyH_take (i := 10) (v := ?_) rfl (by kernel_rfl) (by kernel_rfl) (by kernel_rfl) (fun _ _ _ h => h) (Or.inl ⟨by rfl, ?_⟩) (by assumption) ?_
  rotate_left
  · (intro w hSw; obtain hSw := hSw; (try dsimp only at hSw); go_simp; try (with_reducible rfl))
  (try simp only [Act.put, List.setIfInBounds_toArray, List.set_cons_zero, List.set_cons_succ, List.getElem_toArray, List.getElem_cons_succ, List.getElem_cons_zero])
  refine wpAnyH_take (i := 11) (v := ?_) rfl (by kernel_rfl) (by kernel_rfl) (by kernel_rfl) (fun _ _ _ h => h) (Or.inl ⟨by rfl, ?_⟩) (by assumption) ?_
  rotate_left
  · (intro w hSw; obtain hSw := hSw; (try dsimp only at hSw); go_simp; try (with_reducible rfl))
  (try simp only [Act.put, List.setIfInBounds_toArray, List.set_cons_zero, List.set_cons_succ, List.getElem_toArray, List.getElem_cons_succ, List.getElem_cons_zero])
  refine wpAnyH_take (i := 12) (v := ?_) rfl (by kernel_rfl) (by kernel_rfl) (by kernel_rfl) (fun _ _ _ h => h) (Or.inl ⟨by rfl, ?_⟩) (by assumption) ?_
  rotate_left
  · (intro w hSw; obtain hSw := hSw; (try dsimp only at hSw); go_simp; try (with_reducible rfl))
  (try simp only [Act.put, List.setIfInBounds_toArray, List.set_cons_zero, List.set_cons_succ, List.getElem_toArray, List.getElem_cons_succ, List.getElem_cons_zero])
  refine wpAnyH_done (by kernel_rfl) ?_ _
  (try simp only [Act.put, List.setIfInBounds_toArray, List.set_cons_zero, List.set_cons_succ, List.getElem_toArray, List.getElem_cons_succ, List.getElem_cons_zero])
  have xA := cell_of1' RA
  have zA := row_lt RA
  go_wp2_with (refine bodyPost_ret (by rw [results_cell_tmp3w rfl]; go_simp; try rfl) rfl ?_; exact ⟨ax, T, cxT, g, cE, E, aQ, Q, cQ, y, rfl, hXT.1, (fun g o e => by have := hXT.2 g o e; have := HA.out; omega), hT, ownE, hE, hQ.1, hQc, hQl, hy, by rw [← HA.out]; exact B⟩)

end Go.Proofs.Ytamebfbddoeflaa
