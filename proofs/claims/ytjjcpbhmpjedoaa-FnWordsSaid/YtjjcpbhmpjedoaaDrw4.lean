/-
  The contracts of what the model draws for ChangeDigit and WordOf. By an AI agent.
-/
import Derived.Test.YtjjcpbhmpjedoaaDrw3
namespace Go.Proofs.Ytjjcpbhmpjedoaa
open Go.RowKit Cv
set_option linter.unusedVariables false
set_option linter.unusedSimpArgs false
set_option maxRecDepth 100000

theorem ownBlock_ge {w : World} {base : Nat} {v : Value} {L : List Int} (h : OwnInts w base v L) {g : Nat} (e : v.ownBlock = some g) : base ≤ g := by
  obtain ⟨h1, h2⟩ := h
  rcases h2 with ⟨hv, _⟩ | ⟨g', _, _, hv, hg, _⟩
  · rw [hv] at e; simp [Value.ownBlock] at e
  · rw [hv] at e; simp [Value.ownBlock] at e; omega

set_option maxHeartbeats 4000000 in
theorem drawChange_any (a : Option Addr) (n cap : Nat) (hn : n ≤ 4096) (w : World) (hY : Byts w w.heap.size a n) :
    Calls Try.prog 29 #[.slice a n cap] w fun e w' => ∃ ax T cx u y z, e = .returned (.tuple #[.agg #[.slice ax T.length cx], .int .i64 u, .int .i64 y, .int .i64 z]) ∧ Ints w' ax T ∧ T.length ≤ 8 ∧ (-9223372036854775808 ≤ u ∧ u ≤ 9223372036854775807) ∧ (-9223372036854775808 ≤ y ∧ y ≤ 9223372036854775807) ∧ (-9223372036854775808 ≤ z ∧ z ≤ 9223372036854775807) ∧ Below w.heap.size w w' := by
  obtain ⟨A, hA⟩ : ∃ A, A = w.heap.size := ⟨_, rfl⟩
  obtain ⟨W, hW⟩ : ∃ W, W = w.alloc (.cells #[.slice none 0 0] 26) := ⟨_, rfl⟩
  have zW : W.heap.size = A + 1 := by rw [hW, hA]; simp
  have RA0 : W.heap[A]? = some (.cells #[.slice none 0 0] 26 (0, 0)) := by rw [hW, hA]; exact heap_alloc_new w _
  have B0 : Below A w W := by rw [hW, hA]; exact (Below.refl _ w).alloc (Nat.le_refl _) _
  have hY0 : Byts W W.heap.size a n := by rw [zW]; exact ((hY.mono (by omega)).keep fun b o v hb h => by rw [hW]; exact kept_cell ((Below.refl w.heap.size w).alloc (Nat.le_refl _) _) h (by have := World.block_lt_of_cell? w _ h; exact this))
  have hfr := from_any a n cap hn W hY0
  have HA := Lib.hid hA
  have HW := Lib.hid hW
  obtain ⟨b, hb⟩ : ∃ b, b = W.heap.size := ⟨_, rfl⟩
  rw [← hb] at hfr
  have hbA : b = A + 1 := by omega
  have HB := Lib.hid hb
  clear hA hW hY0
  go_enter Try.func29, Try.ntmps29
  go_wp2_with fail
  rw [← HW.out, ← HA.out]
  refine hfr.mono ?_
  rintro e w1 ⟨rfl, hs1, hb1⟩
  rw [hb] at hb1
  have RA1 := row_g RA0 (grown_of_below hb1 none) (by simp)
  have B1 : Below A w w1 := B0.trans (hb1.mono (by omega))
  have hd := draw_any b a n cap hn w1 hs1
  have hAb : A < b := by omega
  have z1 := hs1.lt
  clear hfr hb1 RA0 B0 hs1 hb zW hbA
  go_wp2_with fail
  refine hd.mono ?_
  rintro e w2 ⟨v, S, rfl, own2, hSp, hs2, hg2⟩
  obtain ⟨x, c, hv⟩ := own_shp own2
  subst hv
  have RA2 := row_g RA1 hg2 (by simp; omega)
  have B2 := below_g B1 (by omega) hg2 (by omega)
  have hX2 := intsX_own own2 z1
  have z2 := hs2.lt
  have HXs := Lib.hid (own_blk own2)
  clear hd hg2 RA1 B1 own2 z1
  obtain ⟨X, hX⟩ : ∃ X, X = w2.heap.size := ⟨_, rfl⟩
  obtain ⟨W3, hW3⟩ : ∃ W3, W3 = w2.alloc (.cells #[.slice x S.length c] 26) := ⟨_, rfl⟩
  have RX3 : W3.heap[X]? = some (.cells #[.slice x S.length c] 26 (0, 0)) := by rw [hW3, hX]; exact heap_alloc_new _ _
  have RA3 : W3.heap[A]? = some (.cells #[.slice none 0 0] 26 (0, 0)) := by rw [hW3]; exact row_g RA2 (World.grownBy_alloc w2 _ none) (by simp)
  have hs3 : Src W3 b a n cap := by rw [hW3]; exact hs2.alloc _
  have hX3 : IntsX b W3 x S := by rw [hW3]; exact hX2.below (B := 0) ((Below.refl _ _).alloc (Nat.le_refl _) _)
  have B3 : Below A w W3 := by rw [hW3]; exact B2.alloc (by omega) _
  rw [← hX] at z2 HXs
  have HX := Lib.hid hX
  have HW3 := Lib.hid hW3
  clear RA2 B2 hX2 hs2 hX hW3
  obtain ⟨N1, N2⟩ := nW_bd hSp
  have EN : IntKind.i64.wrap (prodTo S S.length - 1) = prodTo S S.length - 1 := IntWalk.i64_in _ ⟨by unfold nW at N1; omega, by unfold nW at N2; omega⟩
  unfold nW at N1 N2
  have hlo := hSp.lo
  have hhi := hSp.hi
  have EL : IntKind.i64.wrap ((S.length : Int) - 1) = (S.length : Int) - 1 := IntWalk.i64_in _ ⟨by omega, by omega⟩
  go_wp2_with fail
  rw [← HW3.out, ← HX.out]
  refine wp_region_held_drew (S := fun w' => w'.cell? ⟨X, 0, none⟩ = some (.slice x S.length c)) (by kernel_rfl) (cell_of1' RX3) (fun hHeld => ?_)
  refine wpAnyH_take (i := 0) (v := ?_) rfl (by kernel_rfl) (by kernel_rfl) (by kernel_rfl) (fun _ _ _ h => h) (Or.inl ⟨by rfl, ?_⟩) (by assumption) ?_
  rotate_left
  · (intro w hSw; (try dsimp only at hSw); go_simp; try (with_reducible rfl))
  (try simp only [Act.put, List.setIfInBounds_toArray, List.set_cons_zero, List.set_cons_succ])
  refine wpAnyH_take (i := 1) (v := ?_) rfl (by kernel_rfl) (by kernel_rfl) (by kernel_rfl) (fun _ _ _ h => h) (Or.inl ⟨by rfl, ?_⟩) (by assumption) ?_
  rotate_left
  · (intro w hSw; (try dsimp only at hSw); go_simp; try (with_reducible rfl))
  (try simp only [Act.put, List.setIfInBounds_toArray, List.set_cons_zero, List.set_cons_succ])
  refine wpAnyH_take (i := 5) (v := ?_) rfl (by kernel_rfl) (by kernel_rfl) (by kernel_rfl) (fun _ _ _ h => h) (Or.inl ⟨by rfl, ?_⟩) (by assumption) ?_
  rotate_left
  · (intro w hSw; (try dsimp only at hSw); go_simp; try (with_reducible rfl))
  (try simp only [Act.put, List.setIfInBounds_toArray, List.set_cons_zero, List.set_cons_succ])
  refine wpAnyH_take (i := 6) (v := ?_) rfl (by kernel_rfl) (by kernel_rfl) (by kernel_rfl) (fun _ _ _ h => h) (Or.inl ⟨by rfl, ?_⟩) (by assumption) ?_
  rotate_left
  · (intro w hSw; (try dsimp only at hSw); go_simp; try (with_reducible rfl))
  (try simp only [Act.put, List.setIfInBounds_toArray, List.set_cons_zero, List.set_cons_succ])
  refine wpAnyH_take (i := 7) (v := ?_) rfl (by kernel_rfl) (by kernel_rfl) (by kernel_rfl) (fun _ _ _ h => h) (Or.inl ⟨by rfl, ?_⟩) (by assumption) ?_
  rotate_left
  · (intro w hSw; (try dsimp only at hSw); go_simp; try (with_reducible rfl))
  (try simp only [Act.put, List.setIfInBounds_toArray, List.set_cons_zero, List.set_cons_succ])
  refine wpAnyH_take (i := 8) (v := ?_) rfl (by kernel_rfl) (by kernel_rfl) (by kernel_rfl) (fun _ _ _ h => h) (Or.inl ⟨by rfl, ?_⟩) (by assumption) ?_
  rotate_left
  · (intro w hSw; (try dsimp only at hSw); go_simp; try (with_reducible rfl))
  (try simp only [Act.put, List.setIfInBounds_toArray, List.set_cons_zero, List.set_cons_succ])
  refine wpAnyH_take (i := 9) (v := ?_) rfl (by kernel_rfl) (by kernel_rfl) (by kernel_rfl) (fun _ _ _ h => h) (Or.inl ⟨by rfl, ?_⟩) (by assumption) ?_
  rotate_left
  · (intro w hSw; (try dsimp only at hSw); go_simp; try (with_reducible rfl))
  (try simp only [Act.put, List.setIfInBounds_toArray, List.set_cons_zero, List.set_cons_succ])
  have RXD : W3.drew.heap[X]? = some (.cells #[.slice x S.length c] 26 (0, 0)) := RX3
  have RAD : W3.drew.heap[A]? = some (.cells #[.slice none 0 0] 26 (0, 0)) := RA3
  have hsD : Src W3.drew b a n cap := hs3.drewN 1
  have hXD : IntsX b W3.drew x S := hX3
  have BD : Below A w W3.drew := B3.drew
  refine wpAnyH_ready (rs := [2]) (by kernel_rfl) (by simp) ?_
  refine AllReadyH.cons rfl (fun K hK => ?_) AllReadyH.nil
  go_simp
  (go_at_call 65; refine (l01N_any x S c W3.drew hSp.hi hSp.bd hXD.1).mono ?_)
  rintro e u4 ⟨rfl, hb4⟩
  have RX4 := row_g RXD (grown_of_below hb4 none) (by simp)
  have RA4 := row_g RAD (grown_of_below hb4 none) (by simp)
  have hs4 := hsD.below hb4 hsD.lt
  have hX4 := hXD.below (B := 0) hb4
  have B4 := BD.trans (hb4.mono (by have := hsD.lt; omega))
  refine hK.out _ _ (cell_of1' RX4) (fun hHeld => ?_)
  clear hK K
  (try simp only [Act.put, List.setIfInBounds_toArray, List.set_cons_zero, List.set_cons_succ])
  refine wpAnyH_take (i := 3) (v := ?_) rfl (by kernel_rfl) (by kernel_rfl) (by kernel_rfl) (fun _ _ _ h => h) (Or.inl ⟨by rfl, ?_⟩) (by assumption) ?_
  rotate_left
  · (intro w hSw; (try dsimp only at hSw); go_simp; try (with_reducible rfl))
  (try simp only [Act.put, List.setIfInBounds_toArray, List.set_cons_zero, List.set_cons_succ])
  refine wpAnyH_ready (rs := [4]) (by kernel_rfl) (by simp) ?_
  refine AllReadyH.cons rfl (fun K hK => ?_) AllReadyH.nil
  go_simp
  (go_at_call 69; refine (near_any b a n cap hn (prodTo S S.length - 1) (by omega) u4 hs4).mono ?_)
  rintro e u5 ⟨y1, rfl, hy1, hs5, hg5⟩
  have RX5 := row_g RX4 hg5 (by simp; omega)
  have RA5 := row_g RA4 hg5 (by simp; omega)
  have hX5 := hX4.grown hg5
  have B5 := below_g B4 (by have := hs4.lt; omega) hg5 (by omega)
  refine hK.out _ _ (cell_of1' RX5) (fun hHeld => ?_)
  clear hK K
  (try simp only [Act.put, List.setIfInBounds_toArray, List.set_cons_zero, List.set_cons_succ])
  refine wpAnyH_ready (rs := [10]) (by kernel_rfl) (by simp) ?_
  refine AllReadyH.cons rfl (fun K hK => ?_) AllReadyH.nil
  go_simp
  (go_at_call 69; refine (near_any b a n cap hn ((S.length : Int) - 1) (by omega) u5 hs5).mono ?_)
  rintro e u7 ⟨y2, rfl, hy2, hs7, hg7⟩
  have RX7 := row_g RX5 hg7 (by simp; omega)
  have RA7 := row_g RA5 hg7 (by simp; omega)
  have hX7 := hX5.grown hg7
  have B7 := below_g B5 (by have := hs5.lt; omega) hg7 (by omega)
  refine hK.out _ _ (cell_of1' RX7) (fun hHeld => ?_)
  clear hK K
  (try simp only [Act.put, List.setIfInBounds_toArray, List.set_cons_zero, List.set_cons_succ])
  refine wpAnyH_take (i := 11) (v := ?_) rfl (by kernel_rfl) (by kernel_rfl) (by kernel_rfl) (fun _ _ _ h => h) (Or.inl ⟨by rfl, ?_⟩) (by assumption) ?_
  rotate_left
  · (intro w hSw; (try dsimp only at hSw); go_simp; try (with_reducible rfl))
  (try simp only [Act.put, List.setIfInBounds_toArray, List.set_cons_zero, List.set_cons_succ])
  refine wpAnyH_take (i := 12) (v := ?_) rfl (by kernel_rfl) (by kernel_rfl) (by kernel_rfl) (fun _ _ _ h => h) (Or.inl ⟨by rfl, ?_⟩) (by assumption) ?_
  rotate_left
  · (intro w hSw; (try dsimp only at hSw); go_simp; try (with_reducible rfl))
  (try simp only [Act.put, List.setIfInBounds_toArray, List.set_cons_zero, List.set_cons_succ])
  refine wpAnyH_done (by kernel_rfl) ?_ _
  (try simp only [List.getElem_toArray, List.getElem_cons_succ, List.getElem_cons_zero, Act.put, List.setIfInBounds_toArray, List.set_cons_zero, List.set_cons_succ])
  have hbd := bad_any b a n cap hn x S c hSp u7 hs7 hX7
  have xX7 := cell_of1' RX7
  clear EN EL
  go_wp2_with fail
  refine hbd.mono ?_
  rintro e w8 ⟨ax, T, cx, rfl, hX8, hT, hs8, hg8⟩
  have RA8 := row_g RA7 hg8 (by simp; omega)
  have B8 := below_g B7 (by have := hs7.lt; omega) hg8 (by omega)
  obtain ⟨w9, hw9⟩ : ∃ w9, w9 = w8.alloc (.cells #[.int .i64 0, .int .i64 1, .int .i64 1, .int .i64 2, .int .i64 3, .int .i64 4, .int .i64 (-1)] 2) := ⟨_, rfl⟩
  have I9 : Ints w9 (some ⟨w8.heap.size, 0, none⟩) [0, 1, 1, 2, 3, 4, -1] := by rw [hw9]; exact ints_new w8 _ _
  have hp := pick_n b a n cap hn w8.heap.size _ 7 rfl (by omega) (by omega) (by have := hs8.lt; omega) w9 (by rw [hw9]; exact hs8.alloc _) I9
  have RA9 : w9.heap[A]? = some (.cells #[.slice none 0 0] 26 (0, 0)) := by rw [hw9]; exact row_g RA8 (World.grownBy_alloc w8 _ none) (by simp)
  have hX9 : IntsX b w9 ax T := by rw [hw9]; exact hX8.below (B := 0) ((Below.refl _ _).alloc (Nat.le_refl _) _)
  have B9 : Below A w w9 := by rw [hw9]; exact B8.alloc (by have := hs8.lt; omega) _
  have z9 : b < w9.heap.size := by rw [hw9]; exact (hs8.alloc _).lt
  have HW9 := Lib.hid hw9
  clear hbd xX7 hw9 I9
  go_wp2_with fail
  rw [← HW9.out]
  refine hp.mono ?_
  rintro e w10 ⟨z, rfl, hz, hs10, hg10⟩
  have HZ : Hid (-9223372036854775808 ≤ z ∧ z ≤ 9223372036854775807) := Lib.hid (by simp only [List.mem_cons, List.not_mem_nil, or_false] at hz; omega)
  have RA10 := row_g RA9 hg10 (by simp; omega)
  have hX10 := hX9.grown hg10
  have B10 := below_g B9 (by omega) hg10 (by omega)
  have xA8 := cell_of1' RA10
  have fA8 := frozen_of_row w10 A 0 _ _ RA10
  have zA8 := row_lt RA10
  have hAx : ∀ g o, ax = some ⟨g, o, none⟩ → g ≠ A := fun g o e => by have := hX10.2 g o e; omega
  clear hp hz
  go_wp2_with fail
  refine bodyPost_ret (by rw [results_cell_tmp3w rfl]; go_simp; try rfl) rfl ?_
  exact ⟨ax, T, cx, y1, y2, z, rfl, (hX10.set _ _ hAx).1, hT, hy1, hy2, HZ.out, by rw [← HA.out]; exact B10.setCell (by simp) _⟩

set_option maxHeartbeats 4000000 in
theorem drawWordOf_any (a : Option Addr) (n cap : Nat) (hn : n ≤ 4096) (w : World) (hY : Byts w w.heap.size a n) :
    Calls Try.prog 32 #[.slice a n cap] w fun e w' => ∃ ax T cx ad D cd, e = .returned (.tuple #[.agg #[.slice ax T.length cx], .slice ad D.length cd]) ∧ Ints w' ax T ∧ Ints w' ad D ∧ T.length ≤ 8 ∧ D.length ≤ 9 ∧ Below w.heap.size w w' := by
  obtain ⟨A, hA⟩ : ∃ A, A = w.heap.size := ⟨_, rfl⟩
  obtain ⟨W, hW⟩ : ∃ W, W = w.alloc (.cells #[.slice none 0 0] 26) := ⟨_, rfl⟩
  have zW : W.heap.size = A + 1 := by rw [hW, hA]; simp
  have RA0 : W.heap[A]? = some (.cells #[.slice none 0 0] 26 (0, 0)) := by rw [hW, hA]; exact heap_alloc_new w _
  have B0 : Below A w W := by rw [hW, hA]; exact (Below.refl _ w).alloc (Nat.le_refl _) _
  have hY0 : Byts W W.heap.size a n := by rw [zW]; exact ((hY.mono (by omega)).keep fun b o v hb h => by rw [hW]; exact kept_cell ((Below.refl w.heap.size w).alloc (Nat.le_refl _) _) h (by have := World.block_lt_of_cell? w _ h; exact this))
  have hfr := from_any a n cap hn W hY0
  have HA := Lib.hid hA
  have HW := Lib.hid hW
  obtain ⟨b, hb⟩ : ∃ b, b = W.heap.size := ⟨_, rfl⟩
  rw [← hb] at hfr
  have hbA : b = A + 1 := by omega
  have HB := Lib.hid hb
  clear hA hW hY0
  go_enter Try.func32, Try.ntmps32
  go_wp2_with fail
  rw [← HW.out, ← HA.out]
  refine hfr.mono ?_
  rintro e w1 ⟨rfl, hs1, hb1⟩
  rw [hb] at hb1
  have RA1 := row_g RA0 (grown_of_below hb1 none) (by simp)
  have B1 : Below A w w1 := B0.trans (hb1.mono (by omega))
  have hd := draw_any b a n cap hn w1 hs1
  have hAb : A < b := by omega
  have z1 := hs1.lt
  clear hfr hb1 RA0 B0 hs1 hb zW hbA
  go_wp2_with fail
  refine hd.mono ?_
  rintro e w2 ⟨v, S, rfl, own2, hSp, hs2, hg2⟩
  obtain ⟨x, c, hv⟩ := own_shp own2
  subst hv
  have RA2 := row_g RA1 hg2 (by simp; omega)
  have B2 := below_g B1 (by omega) hg2 (by omega)
  have hX2 := intsX_own own2 z1
  have z2 := hs2.lt
  have HXs := Lib.hid (own_blk own2)
  clear hd hg2 RA1 B1 own2 z1
  obtain ⟨X, hX⟩ : ∃ X, X = w2.heap.size := ⟨_, rfl⟩
  obtain ⟨W3, hW3⟩ : ∃ W3, W3 = w2.alloc (.cells #[.slice x S.length c] 26) := ⟨_, rfl⟩
  have RX3 : W3.heap[X]? = some (.cells #[.slice x S.length c] 26 (0, 0)) := by rw [hW3, hX]; exact heap_alloc_new _ _
  have RA3 : W3.heap[A]? = some (.cells #[.slice none 0 0] 26 (0, 0)) := by rw [hW3]; exact row_g RA2 (World.grownBy_alloc w2 _ none) (by simp)
  have hs3 : Src W3 b a n cap := by rw [hW3]; exact hs2.alloc _
  have hX3 : IntsX b W3 x S := by rw [hW3]; exact hX2.below (B := 0) ((Below.refl _ _).alloc (Nat.le_refl _) _)
  have B3 : Below A w W3 := by rw [hW3]; exact B2.alloc (by omega) _
  rw [← hX] at z2 HXs
  have HX := Lib.hid hX
  have HW3 := Lib.hid hW3
  clear RA2 B2 hX2 hs2 hX hW3
  obtain ⟨N1, N2⟩ := nW_bd hSp
  unfold nW at N1 N2
  have hlo := hSp.lo
  have hhi := hSp.hi
  go_wp2_with fail
  rw [← HW3.out, ← HX.out]
  refine wp_region_held_drew (S := fun w' => w'.cell? ⟨X, 0, none⟩ = some (.slice x S.length c)) (by kernel_rfl) (cell_of1' RX3) (fun hHeld => ?_)
  refine wpAnyH_take (i := 0) (v := ?_) rfl (by kernel_rfl) (by kernel_rfl) (by kernel_rfl) (fun _ _ _ h => h) (Or.inl ⟨by rfl, ?_⟩) (by assumption) ?_
  rotate_left
  · (intro w hSw; (try dsimp only at hSw); go_simp; try (with_reducible rfl))
  (try simp only [Act.put, List.setIfInBounds_toArray, List.set_cons_zero, List.set_cons_succ])
  refine wpAnyH_take (i := 1) (v := ?_) rfl (by kernel_rfl) (by kernel_rfl) (by kernel_rfl) (fun _ _ _ h => h) (Or.inl ⟨by rfl, ?_⟩) (by assumption) ?_
  rotate_left
  · (intro w hSw; (try dsimp only at hSw); go_simp; try (with_reducible rfl))
  (try simp only [Act.put, List.setIfInBounds_toArray, List.set_cons_zero, List.set_cons_succ])
  refine wpAnyH_take (i := 2) (v := ?_) rfl (by kernel_rfl) (by kernel_rfl) (by kernel_rfl) (fun _ _ _ h => h) (Or.inl ⟨by rfl, ?_⟩) (by assumption) ?_
  rotate_left
  · (intro w hSw; (try dsimp only at hSw); go_simp; try (with_reducible rfl))
  (try simp only [Act.put, List.setIfInBounds_toArray, List.set_cons_zero, List.set_cons_succ])
  have RXD : W3.drew.heap[X]? = some (.cells #[.slice x S.length c] 26 (0, 0)) := RX3
  have RAD : W3.drew.heap[A]? = some (.cells #[.slice none 0 0] 26 (0, 0)) := RA3
  have hsD : Src W3.drew b a n cap := hs3.drewN 1
  have hXD : IntsX b W3.drew x S := hX3
  have BD : Below A w W3.drew := B3.drew
  refine wpAnyH_ready (rs := [3]) (by kernel_rfl) (by simp) ?_
  refine AllReadyH.cons rfl (fun K hK => ?_) AllReadyH.nil
  go_simp
  (go_at_call 65; refine (l01N_any x S c W3.drew hSp.hi hSp.bd hXD.1).mono ?_)
  rintro e u4 ⟨rfl, hb4⟩
  have RX4 := row_g RXD (grown_of_below hb4 none) (by simp)
  have RA4 := row_g RAD (grown_of_below hb4 none) (by simp)
  have hs4 := hsD.below hb4 hsD.lt
  have hX4 := hXD.below (B := 0) hb4
  have B4 := BD.trans (hb4.mono (by have := hsD.lt; omega))
  refine hK.out _ _ (cell_of1' RX4) (fun hHeld => ?_)
  clear hK K
  (try simp only [Act.put, List.setIfInBounds_toArray, List.set_cons_zero, List.set_cons_succ])
  refine wpAnyH_ready (rs := [4]) (by kernel_rfl) (by simp) ?_
  refine AllReadyH.cons rfl (fun K hK => ?_) AllReadyH.nil
  go_simp
  (go_at_call 73; refine (next_any b a n cap hn (prodTo S S.length) (by omega) u4 hs4).mono ?_)
  rintro e u5 ⟨y, rfl, y0, y1, y2, hs5, hg5⟩
  have RX5 := row_g RX4 hg5 (by simp; omega)
  have RA5 := row_g RA4 hg5 (by simp; omega)
  have hX5 := hX4.grown hg5
  have B5 := below_g B4 (by have := hs4.lt; omega) hg5 (by omega)
  refine hK.out _ _ (cell_of1' RX5) (fun hHeld => ?_)
  clear hK K
  (try simp only [Act.put, List.setIfInBounds_toArray, List.set_cons_zero, List.set_cons_succ])
  refine wpAnyH_ready (rs := [5]) (by kernel_rfl) (by simp) ?_
  refine AllReadyH.cons rfl (fun K hK => ?_) AllReadyH.nil
  go_simp
  (go_at_call 55; refine (l01Digits_any x S c hSp.hi hSp.bd y y0 (by omega) u5 hX5.1).mono ?_)
  rintro e u6 ⟨g, rfl, own6, hb6⟩
  have RX6 := row_g RX5 (grown_of_below hb6 none) (by simp)
  have RA6 := row_g RA5 (grown_of_below hb6 none) (by simp)
  have hs6 := hs5.below hb6 hs5.lt
  have hX6 := hX5.below (B := 0) hb6
  have B6 := B5.trans (hb6.mono (by have := hs5.lt; omega))
  have z5 := hs5.lt
  have zX5 := row_lt RX5
  refine hK.out _ _ (cell_of1' RX6) (fun hHeld => ?_)
  clear hK K
  (try simp only [Act.put, List.setIfInBounds_toArray, List.set_cons_zero, List.set_cons_succ])
  refine wpAnyH_take (i := 6) (v := ?_) rfl (by kernel_rfl) (by kernel_rfl) (by kernel_rfl) (fun _ _ _ h => h) (Or.inl ⟨by rfl, ?_⟩) (by assumption) ?_
  rotate_left
  · (intro w hSw; (try dsimp only at hSw); go_simp; try (with_reducible rfl))
  (try simp only [Act.put, List.setIfInBounds_toArray, List.set_cons_zero, List.set_cons_succ])
  refine wpAnyH_done (by kernel_rfl) ?_ _
  (try simp only [List.getElem_toArray, List.getElem_cons_succ, List.getElem_cons_zero, Act.put, List.setIfInBounds_toArray, List.set_cons_zero, List.set_cons_succ])
  obtain ⟨D, hD⟩ : ∃ D, D = digs S y := ⟨_, rfl⟩
  have hDl : D.length = S.length := by rw [hD]; simp [digs]
  rw [← hD] at own6
  have hgb := own6.base_le
  clear hD y0 y1 y2
  have hXg : X < g := by omega
  have hnx := next_any b a n cap hn 16 (by omega) u6 hs6
  go_wp2_with fail
  refine hnx.mono ?_
  rintro e u7 ⟨q, rfl, q0, q1, q2, hs7, hg7⟩
  have RX7 := row_g RX6 hg7 (by simp; omega)
  have RA7 := row_g RA6 hg7 (by simp; omega)
  have hX7 := hX6.grown hg7
  have B7 := below_g B6 (by have := hs6.lt; omega) hg7 (by omega)
  have own7 := own6.kept hg7 (.inr (by simp [Value.ownBlock]; omega))
  have hgu := own7.base_le
  clear hnx hg7 own6 q1 q2
  have HDl := Lib.hid hDl
  by_cases e0 : q = 0
  · have b0 : (q == 0) = true := by simpa using e0
    clear e0
    have hl9 : D.length ≤ 1073741824 := by omega
    have hz57 : u5.heap.size ≤ (u7.alloc (.cells #[.int .i64 0] 2)).heap.size := by simp; omega
    have hXg' : some X ≠ some g := fun e => by cases e; omega
    go_wp2_with (at_builtin; refine wpList_append_int_at rfl _ _ rfl u5.heap.size _ D rfl (own7.alloc _) u7.heap.size 0 rfl (cell_new _ _ _) hl9 hz57 ?_; intro v' w6 own' hgrow hnew; obtain ⟨a6, c6, hv6⟩ := own_shp own'; subst hv6; have RXn := row_g (row_g RX7 (World.grownBy_alloc u7 (.cells #[.int .i64 0] 2) none) (by simp)) hgrow hXg'; have xXn := cell_of1' RXn)
    have hgr' : (u7.alloc (.cells #[.int .i64 0] 2)).grownBy w6 (some g) := hgrow
    have RAn := row_g (row_g RA7 (World.grownBy_alloc u7 (.cells #[.int .i64 0] 2) none) (by simp)) hgr' (by simp; omega)
    have hsn : Src w6 b a n cap := (hs7.alloc _).grownO hgr' (fun g' e => by cases e; omega)
    have hXn := (hX7.below (B := 0) ((Below.refl _ _).alloc (Nat.le_refl _) (.cells #[.int .i64 0] 2))).grownO hgr' (fun g' o e => by have := HXs.out g' o e; omega)
    have Bn := below_g (B7.alloc (by have := hs7.lt; omega) (.cells #[.int .i64 0] 2)) (by have := hs7.lt; simp; omega) hgr' (by omega)
    have hbd := bad_any b a n cap hn x S c hSp w6 hsn hXn
    refine hbd.mono ?_
    rintro e w8 ⟨ax, T, cx, rfl, hX8, hT, hs8, hg8⟩
    have RA8 := row_g RAn hg8 (by simp; omega)
    have B8 := below_g Bn (by have := hsn.lt; omega) hg8 (by omega)
    have own8 := own'.kept hg8 (.inr (fun e => by have := ownBlock_ge own' e; omega))
    have xA8 := cell_of1' RA8
    have fA8 := frozen_of_row w8 A 0 _ _ RA8
    have zA8 := row_lt RA8
    have hAx : ∀ g o, ax = some ⟨g, o, none⟩ → g ≠ A := fun g o e => by have := hX8.2 g o e; omega
    go_wp2_with fail
    refine bodyPost_ret (by rw [results_cell_tmp rfl]; go_simp; try rfl) rfl ?_
    exact ⟨ax, T, cx, _, _, _, by rw [List.length_append, List.length_singleton, HDl.out], (hX8.set _ _ hAx).1, own_ints (own8.setBelow (by simp; omega) _), hT, by rw [List.length_append, List.length_singleton]; omega, by rw [← HA.out]; exact B8.setCell (by simp) _⟩
  have b0 : (q == 0) = false := by simpa using e0
  by_cases e1 : q = 1
  · have b1 : (q == 1) = true := by simpa using e1
    clear e0 e1
    have hnx := next_any b a n cap hn (S.length : Int) (by omega) u7 hs7
    go_wp2_with fail
    refine hnx.mono ?_
    rintro e u8 ⟨kk, rfl, k0, k1, k2, hs8', hg8'⟩
    obtain ⟨k, rfl⟩ : ∃ k : Nat, kk = k := ⟨kk.toNat, by omega⟩
    have hk : k < D.length := by have := k2 (by omega); omega
    have RX8' := row_g RX7 hg8' (by simp; omega)
    have RA8' := row_g RA7 hg8' (by simp; omega)
    have hX8' := hX7.grown hg8'
    have B8' := below_g B7 (by have := hs7.lt; omega) hg8' (by omega)
    have own8' := own7.kept hg8' (.inr (by simp [Value.ownBlock]; omega))
    clear hnx k1 k2
    obtain ⟨w9, hw9⟩ : ∃ w9, w9 = u8.alloc (.cells #[.int .i64 (-1), .int .i64 2, .int .i64 3, .int .i64 4] 2) := ⟨_, rfl⟩
    have I9 : Ints w9 (some ⟨u8.heap.size, 0, none⟩) [-1, 2, 3, 4] := by rw [hw9]; exact ints_new u8 _ _
    have hs9 : Src w9 b a n cap := by rw [hw9]; exact hs8'.alloc _
    have hp := pick_n b a n cap hn u8.heap.size _ 4 rfl (by omega) (by omega) (by have := hs8'.lt; omega) w9 hs9 I9
    have RA9 : w9.heap[A]? = some (.cells #[.slice none 0 0] 26 (0, 0)) := by rw [hw9]; exact row_g RA8' (World.grownBy_alloc u8 _ none) (by simp)
    have RX9 : w9.heap[X]? = some (.cells #[.slice x S.length c] 26 (0, 0)) := by rw [hw9]; exact row_g RX8' (World.grownBy_alloc u8 _ none) (by simp)
    have hX9 : IntsX b w9 x S := by rw [hw9]; exact hX8'.below (B := 0) ((Below.refl _ _).alloc (Nat.le_refl _) _)
    have B9 : Below A w w9 := by rw [hw9]; exact B8'.alloc (by have := hs8'.lt; omega) _
    have own9 : OwnInts w9 u5.heap.size (.slice (some ⟨g, 0, none⟩) S.length S.length) D := by rw [hw9]; exact own8'.alloc _
    have HW9 := Lib.hid hw9
    clear hw9 I9 hs8' hg8' RA8' RX8' hX8' B8' own8' own7 hs7 RA7 RX7 hX7 B7
    go_wp2_with fail
    rw [← HW9.out]
    refine hp.mono ?_
    rintro e w10 ⟨z, rfl, hz, hs10, hg10⟩
    have RA10 := row_g RA9 hg10 (by simp; omega)
    have RX10 := row_g RX9 hg10 (by simp; omega)
    have hX10 := hX9.grown hg10
    have B10 := below_g B9 (by have := hs9.lt; omega) hg10 (by omega)
    have own10 := own9.kept hg10 (.inr (by simp [Value.ownBlock]; omega))
    clear hp hz
    have hcell := own10.cell (k := k) hk
    have hfree := own10.free k
    have i1 : (0 : Int) ≤ (k : Int) := by omega
    have i2 : (k : Int) < (S.length : Int) := by omega
    have RAm := row_setO RA10 (p := ⟨g, k, none⟩) (by simp; omega) (.int .i64 z)
    have RXm := row_setO RX10 (p := ⟨g, k, none⟩) (by simp; omega) (.int .i64 z)
    have ownm := own10.stored k z
    have hsm := hs10.setO ⟨g, k, none⟩ (by simp; omega) (.int .i64 z)
    have Bm := B10.setCell (p := ⟨g, k, none⟩) (by simp; omega) (.int .i64 z)
    have hXm : IntsX b (w10.setCell ⟨g, k, none⟩ (.int .i64 z)) x S := hX10.grownO (grown_setCell (World.grownBy.refl w10 (some g)) k _) (fun g' o e => by have := HXs.out g' o e; omega)
    have xXm := cell_of1' RXm
    clear RA9 RX9 hX9 B9 own9 hs9
    go_wp2_with fail
    have hbd := bad_any b a n cap hn x S c hSp (w10.setCell ⟨g, k, none⟩ (.int .i64 z)) hsm hXm
    refine hbd.mono ?_
    rintro e w8 ⟨ax, T, cx, rfl, hX8, hT, hs8, hg8⟩
    have RA8 := row_g RAm hg8 (by simp; omega)
    have B8 := below_g Bm (by have := hsm.lt; omega) hg8 (by omega)
    have own8 := ownm.kept hg8 (.inr (fun e => by have := ownBlock_ge ownm e; omega))
    have xA8 := cell_of1' RA8
    have fA8 := frozen_of_row w8 A 0 _ _ RA8
    have zA8 := row_lt RA8
    have hAx : ∀ g o, ax = some ⟨g, o, none⟩ → g ≠ A := fun g o e => by have := hX8.2 g o e; omega
    go_wp2_with fail
    refine bodyPost_ret (by rw [results_cell_tmp rfl]; go_simp; try rfl) rfl ?_
    exact ⟨ax, T, cx, _, _, _, by rw [List.length_set, HDl.out], (hX8.set _ _ hAx).1, own_ints (own8.setBelow (by simp; omega) _), hT, by rw [List.length_set]; omega, by rw [← HA.out]; exact B8.setCell (by simp) _⟩
  · have b1 : (q == 1) = false := by simpa using e1
    clear e0 e1
    have hbd := bad_any b a n cap hn x S c hSp u7 hs7 hX7
    have xX7 := cell_of1' RX7
    go_wp2_with fail
    refine hbd.mono ?_
    rintro e w8 ⟨ax, T, cx, rfl, hX8, hT, hs8, hg8⟩
    have RA8 := row_g RA7 hg8 (by simp; omega)
    have B8 := below_g B7 (by have := hs7.lt; omega) hg8 (by omega)
    have own8 := own7.kept hg8 (.inr (fun e => by have := ownBlock_ge own7 e; omega))
    have xA8 := cell_of1' RA8
    have fA8 := frozen_of_row w8 A 0 _ _ RA8
    have zA8 := row_lt RA8
    have hAx : ∀ g o, ax = some ⟨g, o, none⟩ → g ≠ A := fun g o e => by have := hX8.2 g o e; omega
    go_wp2_with fail
    refine bodyPost_ret (by rw [results_cell_tmp rfl]; go_simp; try rfl) rfl ?_
    exact ⟨ax, T, cx, _, _, _, by rw [HDl.out], (hX8.set _ _ hAx).1, own_ints (own8.setBelow (by simp; omega) _), hT, by omega, by rw [← HA.out]; exact B8.setCell (by simp) _⟩

end Go.Proofs.Ytjjcpbhmpjedoaa
