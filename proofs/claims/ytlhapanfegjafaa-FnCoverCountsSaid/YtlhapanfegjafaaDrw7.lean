/-
  The contract of what the model draws for chapter 2: a space, a code and a radius. By an AI agent.
-/
import Derived.Test.YtlhapanfegjafaaDrw6
import Derived.Lib.MinMax
namespace Go.Proofs.Ytlhapanfegjafaa
open Go.RowKit Cv
set_option linter.unusedVariables false
set_option linter.unusedSimpArgs false
set_option maxRecDepth 100000

theorem own_cap0 {w : World} {base n cap : Nat} {a : Option Addr} {T : List Int} (h : OwnInts w base (.slice a n cap) T) (e : a = none) : cap = 0 := by
  subst e
  rcases h.2 with ⟨hv, _⟩ | ⟨g', _, _, hv, _⟩
  · simp only [Value.slice.injEq] at hv; exact hv.2.2
  · simp at hv

set_option maxHeartbeats 8000000 in
theorem l02With_of (hGr : ∀ (ao : Option Addr) (S : List Int) (cap : Nat) (r : Int) (w : World), Sp S → 1 ≤ r → r ≤ 8 → Ints w ao S → Calls Try.prog 16 #[.agg #[.slice ao S.length cap], .int .i64 r] w fun e w' => ∃ v L k, e = .returned (.tuple #[v, .int .i64 k]) ∧ OwnInts w' w.heap.size v L ∧ L.length ≤ 1048576 ∧ Below w.heap.size w w')
    (a : Option Addr) (n cap : Nat) (hn : n ≤ 4096) (w : World) (hY : Byts w w.heap.size a n) :
    Calls Try.prog 22 #[.slice a n cap] w fun e w' => ∃ ax T cx g cg F r, e = .returned (.tuple #[.agg #[.slice ax T.length cx], .slice (some ⟨g, 0, none⟩) F.length cg, .int .i64 r]) ∧ Ints w' ax T ∧ (∀ g o, ax = some ⟨g, o, none⟩ → w.heap.size ≤ g) ∧ T.length ≤ 8 ∧ OwnInts w' w.heap.size (.slice (some ⟨g, 0, none⟩) F.length cg) F ∧ F.length ≤ 1048577 ∧ (-9223372036854775808 ≤ r ∧ r ≤ 9223372036854775807) ∧ Below w.heap.size w w' := by
  obtain ⟨A, hA⟩ : ∃ A, A = w.heap.size := ⟨_, rfl⟩
  obtain ⟨W, hW⟩ : ∃ W, W = w.alloc (.cells #[.slice none 0 0] 26) := ⟨_, rfl⟩
  have zW : W.heap.size = A + 1 := by rw [hW, hA]; simp
  have RA0 : W.heap[A]? = some (.cells #[.slice none 0 0] 26 (0, 0)) := by rw [hW, hA]; exact heap_alloc_new w _
  have B0 : Below A w W := by rw [hW, hA]; exact (Below.refl _ w).alloc (Nat.le_refl _) _
  have hY0 : Byts W W.heap.size a n := by rw [zW]; exact ((hY.mono (by omega)).keep fun b o v hb h => by rw [hW]; exact kept_cell ((Below.refl w.heap.size w).alloc (Nat.le_refl _) _) h (by have := World.block_lt_of_cell? w _ h; exact this))
  have hfr := from_any a n cap hn W hY0
  have HA := Lib.hid hA
  have HW := Lib.hid hW
  obtain ⟨b, hb⟩ : ∃ b, b = W.heap.size := ⟨_, rfl⟩
  rw [← hb] at hfr
  have hbA : b = A + 1 := by omega
  have HB := Lib.hid hb
  clear hA hW hY0
  go_enter Try.func22, Try.ntmps22
  go_wp2_with fail
  rw [← HW.out, ← HA.out]
  refine hfr.mono ?_
  rintro e w1 ⟨rfl, hs1, hb1⟩
  rw [hb] at hb1
  have RA1 := row_g RA0 (grown_of_below hb1 none) (by simp)
  have B1 : Below A w w1 := B0.trans (hb1.mono (by omega))
  have hd := small_any b a n cap hn w1 hs1
  have hAb : A < b := by omega
  have z1 := hs1.lt
  clear hfr hb1 RA0 B0 hs1 hb zW hbA
  go_wp2_with fail
  refine hd.mono ?_
  rintro e w2 ⟨v, S, rfl, own2, hSp, hs2, hg2⟩
  obtain ⟨x, c, hv⟩ := own_shp own2
  subst hv
  have RA2 := row_g RA1 hg2 (by simp; omega)
  have B2 := below_g B1 (by omega) hg2 (by omega)
  have hX2 := intsX_own own2 z1
  have z2 := hs2.lt
  have HXs := Lib.hid (own_blk own2)
  clear hd hg2 RA1 B1 own2 z1
  obtain ⟨X, hX⟩ : ∃ X, X = w2.heap.size := ⟨_, rfl⟩
  obtain ⟨W3, hW3⟩ : ∃ W3, W3 = w2.alloc (.cells #[.slice x S.length c] 26) := ⟨_, rfl⟩
  have RX3 : W3.heap[X]? = some (.cells #[.slice x S.length c] 26 (0, 0)) := by rw [hW3, hX]; exact heap_alloc_new _ _
  have RA3 : W3.heap[A]? = some (.cells #[.slice none 0 0] 26 (0, 0)) := by rw [hW3]; exact row_g RA2 (World.grownBy_alloc w2 _ none) (by simp)
  have hs3 : Src W3 b a n cap := by rw [hW3]; exact hs2.alloc _
  have hX3 : IntsX b W3 x S := by rw [hW3]; exact hX2.below (B := 0) ((Below.refl _ _).alloc (Nat.le_refl _) _)
  have B3 : Below A w W3 := by rw [hW3]; exact B2.alloc (by omega) _
  rw [← hX] at z2 HXs
  have HX := Lib.hid hX
  have HW3 := Lib.hid hW3
  clear RA2 B2 hX2 hs2 hX hW3
  have hdc := drawCode_any b a n cap hn x S c hSp W3 hs3 hX3
  have xX3 := cell_of1' RX3
  have zbX : b < X := z2
  have zAX : A < X := by omega
  go_wp2_with fail
  rw [← HW3.out, ← HX.out]
  refine hdc.mono ?_
  rintro e w4 ⟨vC, C, rfl, ownC, hCL, hs4, hg4⟩
  obtain ⟨aC, cC, hvC⟩ := own_shp ownC
  subst hvC
  have RX4 := row_g RX3 hg4 (by simp; omega)
  have RA4 := row_g RA3 hg4 (by simp; omega)
  have hX4 := hX3.grown hg4
  have B4 := below_g B3 (by have := hs3.lt; omega) hg4 (by omega)
  have hXC4 := intsX_own ownC hs3.lt
  have haC := own_cap0 ownC
  have hCl : C.length ≤ 1048576 := by have := hCL.2; omega
  clear hdc ownC hCL hg4 RX3 RA3 hX3 B3 hs3 xX3
  have hnr := near_any b a n cap hn 8 (by omega) w4 hs4
  go_wp2_with fail
  refine hnr.mono ?_
  rintro e w5 ⟨y, rfl, hy, hs5, hg5⟩
  have RX5 := row_g RX4 hg5 (by simp; omega)
  have RA5 := row_g RA4 hg5 (by simp; omega)
  have hX5 := hX4.grown hg5
  have B5 := below_g B4 (by have := hs4.lt; omega) hg5 (by omega)
  have hXC5 := hXC4.grown hg5
  clear hnr hg5 RX4 RA4 hX4 hXC4 B4 hs4
  obtain ⟨u5, hu5⟩ : ∃ u, u = w5.alloc (.cells #[.int .i64 0, .int .i64 1, .int .i64 1, .int .i64 1, .int .i64 2, .int .i64 y] 2) := ⟨_, rfl⟩
  have RX6 : u5.heap[X]? = some (.cells #[.slice x S.length c] 26 (0, 0)) := by rw [hu5]; exact row_g RX5 (World.grownBy_alloc w5 _ none) (by simp)
  have RA6 : u5.heap[A]? = some (.cells #[.slice none 0 0] 26 (0, 0)) := by rw [hu5]; exact row_g RA5 (World.grownBy_alloc w5 _ none) (by simp)
  have hs6 : Src u5 b a n cap := by rw [hu5]; exact hs5.alloc _
  have hX6 : IntsX b u5 x S := by rw [hu5]; exact hX5.below (B := 0) ((Below.refl _ _).alloc (Nat.le_refl _) _)
  have hXC6 : IntsX b u5 aC C := by rw [hu5]; exact hXC5.below (B := 0) ((Below.refl _ _).alloc (Nat.le_refl _) _)
  have B6 : Below A w u5 := by rw [hu5]; exact B5.alloc (by have := hs5.lt; omega) _
  have I6 : Ints u5 (some ⟨w5.heap.size, 0, none⟩) [0, 1, 1, 1, 2, y] := by rw [hu5]; exact ints_new w5 _ _
  have hp6 := pick_n b a n cap hn w5.heap.size _ 6 rfl (by omega) (by omega) (by have := hs5.lt; omega) u5 hs6 I6
  have HU5 := Lib.hid hu5
  clear hu5 I6 RX5 RA5 hX5 hXC5 B5 hs5
  go_wp2_with fail
  rw [← HU5.out]
  refine hp6.mono ?_
  rintro e w7 ⟨r, rfl, hr, hs7, hg7⟩
  replace hr : -9223372036854775808 ≤ r ∧ r ≤ 9223372036854775807 := by simp only [List.mem_cons, List.not_mem_nil, or_false] at hr; omega
  have RX7 := row_g RX6 hg7 (by simp; omega)
  have RA7 := row_g RA6 hg7 (by simp; omega)
  have hX7 := hX6.grown hg7
  have B7 := below_g B6 (by have := hs6.lt; omega) hg7 (by omega)
  have hXC7 := hXC6.grown hg7
  clear hp6 hg7 RX6 RA6 hX6 hXC6 B6 hs6
  have hnx := next_any b a n cap hn 4 (by omega) w7 hs7
  go_wp2_with fail
  refine hnx.mono ?_
  rintro e w8 ⟨q, rfl, q0, q1, q2, hs8, hg8⟩
  have RX8 := row_g RX7 hg8 (by simp; omega)
  have RA8 := row_g RA7 hg8 (by simp; omega)
  have hX8 := hX7.grown hg8
  have B8 := below_g B7 (by have := hs7.lt; omega) hg8 (by omega)
  have hXC8 := hXC7.grown hg8
  clear hnx hg8 RX7 RA7 hX7 hXC7 B7 hs7 q0 q1 q2
  have xX8 := cell_of1' RX8
  by_cases e0 : q = 0
  · have b0 : (q == 0) = true := by simpa using e0
    clear e0
    have hG := hGr x S c (max (min r 8) 1) w8 hSp (by omega) (by omega) hX8.1
    go_wp2_with fail
    refine hG.mono ?_
    rintro e w9 ⟨v, D, k, rfl, ownD, hDl, hb9⟩
    obtain ⟨aD, cD, hvD⟩ := own_shp ownD
    subst hvD
    have RX9 := row_g RX8 (grown_of_below hb9 none) (by simp)
    have RA9 := row_g RA8 (grown_of_below hb9 none) (by simp)
    have hs9 := hs8.below hb9 hs8.lt
    have hX9 := hX8.below (B := 0) hb9
    have B9 := B8.trans (hb9.mono (by have := hs8.lt; omega))
    have hXC9 := intsX_own ownD hs8.lt
    have haD := own_cap0 ownD
    clear hG ownD hb9 RX8 RA8 hX8 hXC8 B8 hs8 xX8
    clear hGr
    go_wp2_with fail
    refine wp_region_held_drew (S := fun w' => w'.cell? ⟨X, 0, none⟩ = some (.slice x S.length c)) (by kernel_rfl) (cell_of1' RX9) (fun hHeld => ?_)
    refine wpAnyH_take (i := 0) (v := ?_) rfl (by kernel_rfl) (by kernel_rfl) (by kernel_rfl) (fun _ _ _ h => h) (Or.inl ⟨by rfl, ?_⟩) (by assumption) ?_
    rotate_left
    · (intro w hSw; (try dsimp only at hSw); go_simp; try (with_reducible rfl))
    (try simp only [Act.put, List.setIfInBounds_toArray, List.set_cons_zero, List.set_cons_succ])
    refine wpAnyH_take (i := 1) (v := ?_) rfl (by kernel_rfl) (by kernel_rfl) (by kernel_rfl) (fun _ _ _ h => h) (Or.inl ⟨by rfl, ?_⟩) (by assumption) ?_
    rotate_left
    · (intro w hSw; (try dsimp only at hSw); go_simp; try (with_reducible rfl))
    (try simp only [Act.put, List.setIfInBounds_toArray, List.set_cons_zero, List.set_cons_succ])
    refine wpAnyH_take (i := 3) (v := ?_) rfl (by kernel_rfl) (by kernel_rfl) (by kernel_rfl) (fun _ _ _ h => h) (Or.inl ⟨by rfl, ?_⟩) (by assumption) ?_
    rotate_left
    · (intro w hSw; (try dsimp only at hSw); go_simp; try (with_reducible rfl))
    (try simp only [Act.put, List.setIfInBounds_toArray, List.set_cons_zero, List.set_cons_succ])
    refine wpAnyH_take (i := 4) (v := ?_) rfl (by kernel_rfl) (by kernel_rfl) (by kernel_rfl) (fun _ _ _ h => h) (Or.inl ⟨by rfl, ?_⟩) (by assumption) ?_
    rotate_left
    · (intro w hSw; (try dsimp only at hSw); go_simp; try (with_reducible rfl))
    (try simp only [Act.put, List.setIfInBounds_toArray, List.set_cons_zero, List.set_cons_succ])
    refine wpAnyH_take (i := 5) (v := ?_) rfl (by kernel_rfl) (by kernel_rfl) (by kernel_rfl) (fun _ _ _ h => h) (Or.inl ⟨by rfl, ?_⟩) (by assumption) ?_
    rotate_left
    · (intro w hSw; (try dsimp only at hSw); go_simp; try (with_reducible rfl))
    (try simp only [Act.put, List.setIfInBounds_toArray, List.set_cons_zero, List.set_cons_succ])
    refine wpAnyH_take (i := 7) (v := ?_) rfl (by kernel_rfl) (by kernel_rfl) (by kernel_rfl) (fun _ _ _ h => h) (Or.inl ⟨by rfl, ?_⟩) (by assumption) ?_
    rotate_left
    · (intro w hSw; (try dsimp only at hSw); go_simp; try (with_reducible rfl))
    (try simp only [Act.put, List.setIfInBounds_toArray, List.set_cons_zero, List.set_cons_succ])
    have RXD : w9.drew.heap[X]? = some (.cells #[.slice x S.length c] 26 (0, 0)) := RX9
    have RAD : w9.drew.heap[A]? = some (.cells #[.slice none 0 0] 26 (0, 0)) := RA9
    have hsD : Src w9.drew b a n cap := hs9.drewN 1
    have hXD : IntsX b w9.drew x S := hX9
    have hXCD : IntsX b w9.drew aD D := hXC9
    have BD : Below A w w9.drew := B9.drew
    refine wpAnyH_ready (rs := [2]) (by kernel_rfl) (by simp) ?_
    refine AllReadyH.cons rfl (fun K hK => ?_) AllReadyH.nil
    go_simp
    (go_at_call 34; refine (bad_any b a n cap hn x S c hSp w9.drew hsD hXD).mono ?_)
    rintro e uP ⟨ax, T, cx, rfl, hXTP, hT, hsP, hgP⟩
    have RXP := row_g RXD hgP (by simp; omega)
    have RAP := row_g RAD hgP (by simp; omega)
    have hXP := hXD.grown hgP
    have BP := below_g BD (by have := hsD.lt; omega) hgP (by omega)
    have hXCP := hXCD.grown hgP
    refine hK.out _ _ (cell_of1' RXP) (fun hHeld => ?_)
    clear hK K
    (try simp only [Act.put, List.setIfInBounds_toArray, List.set_cons_zero, List.set_cons_succ])
    refine wpAnyH_ready (rs := [6]) (by kernel_rfl) (by simp) ?_
    refine AllReadyH.cons rfl (fun K hK => ?_) AllReadyH.nil
    go_simp
    (go_at_call 53; refine (badCode_any b a n cap hn x S c hSp aD D cD haD hDl uP hsP hXP hXCP).mono ?_)
    rintro e uQ ⟨g, cg, E, rfl, ownE, hE, hsQ, hgQ⟩
    have RXQ := row_g RXP hgQ (by simp; omega)
    have RAQ := row_g RAP hgQ (by simp; omega)
    have hXQ := hXP.grown hgQ
    have BQ := below_g BP (by have := hsP.lt; omega) hgQ (by omega)
    have hXTQ := hXTP.grown hgQ
    have zPb := hsP.lt
    have hgP2 : uP.heap.size ≤ g := ownBlock_ge5 ownE rfl
    have zAP := row_lt RAP
    refine hK.out _ _ (cell_of1' RXQ) (fun hHeld => ?_)
    clear hK K
    (try simp only [Act.put, List.setIfInBounds_toArray, List.set_cons_zero, List.set_cons_succ])
    refine wpAnyH_ready (rs := [8]) (by kernel_rfl) (by simp) ?_
    refine AllReadyH.cons rfl (fun K hK => ?_) AllReadyH.nil
    have xAe := cell_of1' RAQ
    have fAe := frozen_of_row uQ A 0 _ _ RAQ
    go_simp
    have hAx : ∀ g o, ax = some ⟨g, o, none⟩ → g ≠ A := fun g o e => by have := hXTQ.2 g o e; omega
    have HIe : Ints (uQ.setCell ⟨A, 0, none⟩ (.slice ax T.length cx)) ax T := ints_setA hXTQ.1 hAx
    have owne := (own_setO ownE A (fun e => by simp [Value.ownBlock] at e; omega) (.slice ax T.length cx)).rebase (base' := w.heap.size) (by have := HA.out; omega)
    have Be : Below A w (uQ.setCell ⟨A, 0, none⟩ (.slice ax T.length cx)) := BQ.setCell (by simp) _
    refine hK.out _ _ (show (uQ.setCell ⟨A, 0, none⟩ (.slice ax T.length cx)).cell? ⟨X, 0, none⟩ = _ from cell_set_other (cell_of1' RXQ) (by simp; omega)) (fun hHeld => ?_)
    clear hK K
    (try simp only [Act.put, List.setIfInBounds_toArray, List.set_cons_zero, List.set_cons_succ])
    have zAe := row_lt RAQ
    refine wpAnyH_take (i := 9) (v := ?_) rfl (by kernel_rfl) (by kernel_rfl) (by kernel_rfl) (fun _ _ _ h => h) (Or.inl ⟨by rfl, ?_⟩) (by assumption) ?_
    rotate_left
    · (intro w hSw; (try dsimp only at hSw); go_simp; try (with_reducible rfl))
    (try simp only [Act.put, List.setIfInBounds_toArray, List.set_cons_zero, List.set_cons_succ])
    refine wpAnyH_take (i := 10) (v := ?_) rfl (by kernel_rfl) (by kernel_rfl) (by kernel_rfl) (fun _ _ _ h => h) (Or.inl ⟨by rfl, ?_⟩) (by assumption) ?_
    rotate_left
    · (intro w hSw; (try dsimp only at hSw); go_simp; try (with_reducible rfl))
    (try simp only [Act.put, List.setIfInBounds_toArray, List.set_cons_zero, List.set_cons_succ])
    refine wpAnyH_done (by kernel_rfl) ?_ _
    (try simp only [List.getElem_toArray, List.getElem_cons_succ, List.getElem_cons_zero, Act.put, List.setIfInBounds_toArray, List.set_cons_zero, List.set_cons_succ])
    go_wp2_with fail
    refine bodyPost_ret (by rw [results_cell_tmp2w rfl]; go_simp; try rfl) rfl ?_
    exact ⟨ax, T, cx, g, cg, E, r, rfl, HIe, (fun g o e => by have := hXTQ.2 g o e; have := HA.out; omega), hT, owne, hE, hr, by rw [← HA.out]; exact Be⟩
  · have b0 : (q == 0) = false := by simpa using e0
    clear e0 xX8
    clear hGr
    go_wp2_with fail
    refine wp_region_held_drew (S := fun w' => w'.cell? ⟨X, 0, none⟩ = some (.slice x S.length c)) (by kernel_rfl) (cell_of1' RX8) (fun hHeld => ?_)
    refine wpAnyH_take (i := 0) (v := ?_) rfl (by kernel_rfl) (by kernel_rfl) (by kernel_rfl) (fun _ _ _ h => h) (Or.inl ⟨by rfl, ?_⟩) (by assumption) ?_
    rotate_left
    · (intro w hSw; (try dsimp only at hSw); go_simp; try (with_reducible rfl))
    (try simp only [Act.put, List.setIfInBounds_toArray, List.set_cons_zero, List.set_cons_succ])
    refine wpAnyH_take (i := 1) (v := ?_) rfl (by kernel_rfl) (by kernel_rfl) (by kernel_rfl) (fun _ _ _ h => h) (Or.inl ⟨by rfl, ?_⟩) (by assumption) ?_
    rotate_left
    · (intro w hSw; (try dsimp only at hSw); go_simp; try (with_reducible rfl))
    (try simp only [Act.put, List.setIfInBounds_toArray, List.set_cons_zero, List.set_cons_succ])
    refine wpAnyH_take (i := 3) (v := ?_) rfl (by kernel_rfl) (by kernel_rfl) (by kernel_rfl) (fun _ _ _ h => h) (Or.inl ⟨by rfl, ?_⟩) (by assumption) ?_
    rotate_left
    · (intro w hSw; (try dsimp only at hSw); go_simp; try (with_reducible rfl))
    (try simp only [Act.put, List.setIfInBounds_toArray, List.set_cons_zero, List.set_cons_succ])
    refine wpAnyH_take (i := 4) (v := ?_) rfl (by kernel_rfl) (by kernel_rfl) (by kernel_rfl) (fun _ _ _ h => h) (Or.inl ⟨by rfl, ?_⟩) (by assumption) ?_
    rotate_left
    · (intro w hSw; (try dsimp only at hSw); go_simp; try (with_reducible rfl))
    (try simp only [Act.put, List.setIfInBounds_toArray, List.set_cons_zero, List.set_cons_succ])
    refine wpAnyH_take (i := 5) (v := ?_) rfl (by kernel_rfl) (by kernel_rfl) (by kernel_rfl) (fun _ _ _ h => h) (Or.inl ⟨by rfl, ?_⟩) (by assumption) ?_
    rotate_left
    · (intro w hSw; (try dsimp only at hSw); go_simp; try (with_reducible rfl))
    (try simp only [Act.put, List.setIfInBounds_toArray, List.set_cons_zero, List.set_cons_succ])
    refine wpAnyH_take (i := 7) (v := ?_) rfl (by kernel_rfl) (by kernel_rfl) (by kernel_rfl) (fun _ _ _ h => h) (Or.inl ⟨by rfl, ?_⟩) (by assumption) ?_
    rotate_left
    · (intro w hSw; (try dsimp only at hSw); go_simp; try (with_reducible rfl))
    (try simp only [Act.put, List.setIfInBounds_toArray, List.set_cons_zero, List.set_cons_succ])
    have RXD : w8.drew.heap[X]? = some (.cells #[.slice x S.length c] 26 (0, 0)) := RX8
    have RAD : w8.drew.heap[A]? = some (.cells #[.slice none 0 0] 26 (0, 0)) := RA8
    have hsD : Src w8.drew b a n cap := hs8.drewN 1
    have hXD : IntsX b w8.drew x S := hX8
    have hXCD : IntsX b w8.drew aC C := hXC8
    have BD : Below A w w8.drew := B8.drew
    refine wpAnyH_ready (rs := [2]) (by kernel_rfl) (by simp) ?_
    refine AllReadyH.cons rfl (fun K hK => ?_) AllReadyH.nil
    go_simp
    (go_at_call 34; refine (bad_any b a n cap hn x S c hSp w8.drew hsD hXD).mono ?_)
    rintro e uP ⟨ax, T, cx, rfl, hXTP, hT, hsP, hgP⟩
    have RXP := row_g RXD hgP (by simp; omega)
    have RAP := row_g RAD hgP (by simp; omega)
    have hXP := hXD.grown hgP
    have BP := below_g BD (by have := hsD.lt; omega) hgP (by omega)
    have hXCP := hXCD.grown hgP
    refine hK.out _ _ (cell_of1' RXP) (fun hHeld => ?_)
    clear hK K
    (try simp only [Act.put, List.setIfInBounds_toArray, List.set_cons_zero, List.set_cons_succ])
    refine wpAnyH_ready (rs := [6]) (by kernel_rfl) (by simp) ?_
    refine AllReadyH.cons rfl (fun K hK => ?_) AllReadyH.nil
    go_simp
    (go_at_call 53; refine (badCode_any b a n cap hn x S c hSp aC C cC haC hCl uP hsP hXP hXCP).mono ?_)
    rintro e uQ ⟨g, cg, E, rfl, ownE, hE, hsQ, hgQ⟩
    have RXQ := row_g RXP hgQ (by simp; omega)
    have RAQ := row_g RAP hgQ (by simp; omega)
    have hXQ := hXP.grown hgQ
    have BQ := below_g BP (by have := hsP.lt; omega) hgQ (by omega)
    have hXTQ := hXTP.grown hgQ
    have zPb := hsP.lt
    have hgP2 : uP.heap.size ≤ g := ownBlock_ge5 ownE rfl
    have zAP := row_lt RAP
    refine hK.out _ _ (cell_of1' RXQ) (fun hHeld => ?_)
    clear hK K
    (try simp only [Act.put, List.setIfInBounds_toArray, List.set_cons_zero, List.set_cons_succ])
    refine wpAnyH_ready (rs := [8]) (by kernel_rfl) (by simp) ?_
    refine AllReadyH.cons rfl (fun K hK => ?_) AllReadyH.nil
    have xAe := cell_of1' RAQ
    have fAe := frozen_of_row uQ A 0 _ _ RAQ
    go_simp
    have hAx : ∀ g o, ax = some ⟨g, o, none⟩ → g ≠ A := fun g o e => by have := hXTQ.2 g o e; omega
    have HIe : Ints (uQ.setCell ⟨A, 0, none⟩ (.slice ax T.length cx)) ax T := ints_setA hXTQ.1 hAx
    have owne := (own_setO ownE A (fun e => by simp [Value.ownBlock] at e; omega) (.slice ax T.length cx)).rebase (base' := w.heap.size) (by have := HA.out; omega)
    have Be : Below A w (uQ.setCell ⟨A, 0, none⟩ (.slice ax T.length cx)) := BQ.setCell (by simp) _
    refine hK.out _ _ (show (uQ.setCell ⟨A, 0, none⟩ (.slice ax T.length cx)).cell? ⟨X, 0, none⟩ = _ from cell_set_other (cell_of1' RXQ) (by simp; omega)) (fun hHeld => ?_)
    clear hK K
    (try simp only [Act.put, List.setIfInBounds_toArray, List.set_cons_zero, List.set_cons_succ])
    have zAe := row_lt RAQ
    refine wpAnyH_take (i := 9) (v := ?_) rfl (by kernel_rfl) (by kernel_rfl) (by kernel_rfl) (fun _ _ _ h => h) (Or.inl ⟨by rfl, ?_⟩) (by assumption) ?_
    rotate_left
    · (intro w hSw; (try dsimp only at hSw); go_simp; try (with_reducible rfl))
    (try simp only [Act.put, List.setIfInBounds_toArray, List.set_cons_zero, List.set_cons_succ])
    refine wpAnyH_take (i := 10) (v := ?_) rfl (by kernel_rfl) (by kernel_rfl) (by kernel_rfl) (fun _ _ _ h => h) (Or.inl ⟨by rfl, ?_⟩) (by assumption) ?_
    rotate_left
    · (intro w hSw; (try dsimp only at hSw); go_simp; try (with_reducible rfl))
    (try simp only [Act.put, List.setIfInBounds_toArray, List.set_cons_zero, List.set_cons_succ])
    refine wpAnyH_done (by kernel_rfl) ?_ _
    (try simp only [List.getElem_toArray, List.getElem_cons_succ, List.getElem_cons_zero, Act.put, List.setIfInBounds_toArray, List.set_cons_zero, List.set_cons_succ])
    go_wp2_with fail
    refine bodyPost_ret (by rw [results_cell_tmp2w rfl]; go_simp; try rfl) rfl ?_
    exact ⟨ax, T, cx, g, cg, E, r, rfl, HIe, (fun g o e => by have := hXTQ.2 g o e; have := HA.out; omega), hT, owne, hE, hr, by rw [← HA.out]; exact Be⟩

end Go.Proofs.Ytlhapanfegjafaa
