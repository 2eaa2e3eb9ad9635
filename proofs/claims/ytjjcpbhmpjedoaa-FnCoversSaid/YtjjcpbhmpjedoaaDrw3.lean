/-
  The contracts of what the model draws for chapter 1. By an AI agent.
-/
import Derived.Test.YtjjcpbhmpjedoaaDrw2
import Derived.Test.YtjjcpbhmpjedoaaDigits
namespace Go.Proofs.Ytjjcpbhmpjedoaa
open Go.RowKit Cv
set_option linter.unusedVariables false
set_option linter.unusedSimpArgs false
set_option maxRecDepth 100000

theorem below_g {A b : Nat} {w w1 w2 : World} (B : Below A w w1) (hA : A ≤ w1.heap.size) (hg : w1.grownBy w2 (some b)) (hb : A ≤ b) : Below A w w2 := B.grown hg hA (fun k hk => by cases hk; exact hb)
theorem own_blk {base : Nat} {w : World} {a : Option Addr} {n cap : Nat} {S : List Int} (h : OwnInts w base (.slice a n cap) S) : ∀ g o, a = some ⟨g, o, none⟩ → g < w.heap.size := fun g o e => by
  subst e
  rcases h.2 with ⟨hv, _⟩ | ⟨g', _, _, hv, _, hh, _⟩
  · simp at hv
  · simp only [Value.slice.injEq, Option.some.injEq, Addr.mk.injEq] at hv
    have := (Array.getElem?_eq_some_iff.1 hh).1
    omega
theorem IntsX.grownO {b g' : Nat} {w w' : World} {ao : Option Addr} {S : List Int} (h : IntsX b w ao S) (hg : w.grownBy w' (some g')) (hne : ∀ g o, ao = some ⟨g, o, none⟩ → g ≠ g') : IntsX b w' ao S := by
  obtain ⟨h1, h2⟩ := h
  refine ⟨?_, h2⟩
  rcases h1 with h | ⟨g, o, rfl, hlt, hc⟩
  · exact .inl h
  · exact .inr ⟨g, o, rfl, Nat.lt_of_lt_of_le hlt hg.size, fun i hi => grown_cell hg (hc i hi) (hne g o rfl)⟩
theorem results_cell_tmp2w {fn : Func} {p u1 u2 : Tmp} {ty : TypeId} (h : fn.results = #[.cell p ty, .tmp u1, .tmp u2]) (tmps : Array Value) (P : Program) (w : World) :
    (results fn tmps).run P w =
      ((asAddr (tmps.getD p undef)).run P w).andThen fun a w₁ => ((loadVar ty a).run P w₁).andThen fun v w₂ => .ok (.tuple #[v, tmps.getD u1 undef, tmps.getD u2 undef]) w₂ := by
  simp only [results, h]
  simp [Sem.run_bind, Result.andThen]
theorem results_cell_tmp3w {fn : Func} {p u1 u2 u3 : Tmp} {ty : TypeId} (h : fn.results = #[.cell p ty, .tmp u1, .tmp u2, .tmp u3]) (tmps : Array Value) (P : Program) (w : World) :
    (results fn tmps).run P w =
      ((asAddr (tmps.getD p undef)).run P w).andThen fun a w₁ => ((loadVar ty a).run P w₁).andThen fun v w₂ => .ok (.tuple #[v, tmps.getD u1 undef, tmps.getD u2 undef, tmps.getD u3 undef]) w₂ := by
  simp only [results, h]
  simp [Sem.run_bind, Result.andThen]

set_option maxHeartbeats 2000000 in
theorem with_l01 (a : Option Addr) (n cap : Nat) (hn : n ≤ 4096) (w : World) (hY : Byts w w.heap.size a n) :
    Calls Try.prog 46 #[.slice a n cap] w fun e w' => ∃ ax T cx u y, e = .returned (.tuple #[.agg #[.slice ax T.length cx], .int .i64 u, .int .i64 y]) ∧ Ints w' ax T ∧ (∀ g o, ax = some ⟨g, o, none⟩ → w.heap.size ≤ g) ∧ T.length ≤ 8 ∧ (-9223372036854775808 ≤ u ∧ u ≤ 9223372036854775807) ∧ (-9223372036854775808 ≤ y ∧ y ≤ 9223372036854775807) ∧ Below w.heap.size w w' := by
  obtain ⟨A, hA⟩ : ∃ A, A = w.heap.size := ⟨_, rfl⟩
  obtain ⟨W, hW⟩ : ∃ W, W = w.alloc (.cells #[.slice none 0 0] 26) := ⟨_, rfl⟩
  have zW : W.heap.size = A + 1 := by rw [hW, hA]; simp
  have RA0 : W.heap[A]? = some (.cells #[.slice none 0 0] 26 (0, 0)) := by rw [hW, hA]; exact heap_alloc_new w _
  have B0 : Below A w W := by rw [hW, hA]; exact (Below.refl _ w).alloc (Nat.le_refl _) _
  have hY0 : Byts W W.heap.size a n := by rw [zW]; exact ((hY.mono (by omega)).keep fun b o v hb h => by rw [hW]; exact kept_cell ((Below.refl w.heap.size w).alloc (Nat.le_refl _) _) h (by have := World.block_lt_of_cell? w _ h; exact this))
  have hfr := from_any a n cap hn W hY0
  have HA := Lib.hid hA
  have HW := Lib.hid hW
  obtain ⟨b, hb⟩ : ∃ b, b = W.heap.size := ⟨_, rfl⟩
  rw [← hb] at hfr
  have hbA : b = A + 1 := by omega
  have HB := Lib.hid hb
  clear hA hW hY0
  go_enter Try.func46, Try.ntmps46
  go_wp2_with fail
  rw [← HW.out, ← HA.out]
  refine hfr.mono ?_
  rintro e w1 ⟨rfl, hs1, hb1⟩
  rw [hb] at hb1
  have RA1 := row_g RA0 (grown_of_below hb1 none) (by simp)
  have B1 : Below A w w1 := B0.trans (hb1.mono (by omega))
  have hd := draw_any b a n cap hn w1 hs1
  have hAb : A < b := by omega
  have z1 := hs1.lt
  clear hfr hb1 RA0 B0 hs1 hb zW hbA
  go_wp2_with fail
  refine hd.mono ?_
  rintro e w2 ⟨v, S, rfl, own2, hSp, hs2, hg2⟩
  obtain ⟨x, c, hv⟩ := own_shp own2
  subst hv
  have RA2 := row_g RA1 hg2 (by simp; omega)
  have B2 := below_g B1 (by omega) hg2 (by omega)
  have hX2 := intsX_own own2 z1
  have z2 := hs2.lt
  have HXs := Lib.hid (own_blk own2)
  clear hd hg2 RA1 B1 own2 z1
  obtain ⟨X, hX⟩ : ∃ X, X = w2.heap.size := ⟨_, rfl⟩
  obtain ⟨W3, hW3⟩ : ∃ W3, W3 = w2.alloc (.cells #[.slice x S.length c] 26) := ⟨_, rfl⟩
  have RX3 : W3.heap[X]? = some (.cells #[.slice x S.length c] 26 (0, 0)) := by rw [hW3, hX]; exact heap_alloc_new _ _
  have RA3 : W3.heap[A]? = some (.cells #[.slice none 0 0] 26 (0, 0)) := by rw [hW3]; exact row_g RA2 (World.grownBy_alloc w2 _ none) (by simp)
  have hs3 : Src W3 b a n cap := by rw [hW3]; exact hs2.alloc _
  have hX3 : IntsX b W3 x S := by rw [hW3]; exact hX2.below (B := 0) ((Below.refl _ _).alloc (Nat.le_refl _) _)
  have B3 : Below A w W3 := by rw [hW3]; exact B2.alloc (by omega) _
  rw [← hX] at z2 HXs
  have HX := Lib.hid hX
  have HW3 := Lib.hid hW3
  clear RA2 B2 hX2 hs2 hX hW3
  obtain ⟨N1, N2⟩ := nW_bd hSp
  have EN : IntKind.i64.wrap (prodTo S S.length - 1) = prodTo S S.length - 1 := IntWalk.i64_in _ ⟨by unfold nW at N1; omega, by unfold nW at N2; omega⟩
  unfold nW at N1 N2
  go_wp2_with fail
  rw [← HW3.out, ← HX.out]
  refine wp_region_held_drew (S := fun w' => w'.cell? ⟨X, 0, none⟩ = some (.slice x S.length c)) (by kernel_rfl) (cell_of1' RX3) (fun hHeld => ?_)
  refine wpAnyH_take (i := 0) (v := ?_) rfl (by kernel_rfl) (by kernel_rfl) (by kernel_rfl) (fun _ _ _ h => h) (Or.inl ⟨by rfl, ?_⟩) (by assumption) ?_
  rotate_left
  · (intro w hSw; (try dsimp only at hSw); go_simp; try (with_reducible rfl))
  (try simp only [Act.put, List.setIfInBounds_toArray, List.set_cons_zero, List.set_cons_succ])
  refine wpAnyH_take (i := 1) (v := ?_) rfl (by kernel_rfl) (by kernel_rfl) (by kernel_rfl) (fun _ _ _ h => h) (Or.inl ⟨by rfl, ?_⟩) (by assumption) ?_
  rotate_left
  · (intro w hSw; (try dsimp only at hSw); go_simp; try (with_reducible rfl))
  (try simp only [Act.put, List.setIfInBounds_toArray, List.set_cons_zero, List.set_cons_succ])
  refine wpAnyH_take (i := 5) (v := ?_) rfl (by kernel_rfl) (by kernel_rfl) (by kernel_rfl) (fun _ _ _ h => h) (Or.inl ⟨by rfl, ?_⟩) (by assumption) ?_
  rotate_left
  · (intro w hSw; (try dsimp only at hSw); go_simp; try (with_reducible rfl))
  (try simp only [Act.put, List.setIfInBounds_toArray, List.set_cons_zero, List.set_cons_succ])
  refine wpAnyH_take (i := 6) (v := ?_) rfl (by kernel_rfl) (by kernel_rfl) (by kernel_rfl) (fun _ _ _ h => h) (Or.inl ⟨by rfl, ?_⟩) (by assumption) ?_
  rotate_left
  · (intro w hSw; (try dsimp only at hSw); go_simp; try (with_reducible rfl))
  (try simp only [Act.put, List.setIfInBounds_toArray, List.set_cons_zero, List.set_cons_succ])
  have RXD : W3.drew.heap[X]? = some (.cells #[.slice x S.length c] 26 (0, 0)) := RX3
  have RAD : W3.drew.heap[A]? = some (.cells #[.slice none 0 0] 26 (0, 0)) := RA3
  have hsD : Src W3.drew b a n cap := hs3.drewN 1
  have hXD : IntsX b W3.drew x S := hX3
  have BD : Below A w W3.drew := B3.drew
  refine wpAnyH_ready (rs := [2]) (by kernel_rfl) (by simp) ?_
  refine AllReadyH.cons rfl (fun K hK => ?_) AllReadyH.nil
  go_simp
  (go_at_call 65; refine (l01N_any x S c W3.drew hSp.hi hSp.bd hXD.1).mono ?_)
  rintro e u4 ⟨rfl, hb4⟩
  have RX4 := row_g RXD (grown_of_below hb4 none) (by simp)
  have RA4 := row_g RAD (grown_of_below hb4 none) (by simp)
  have hs4 := hsD.below hb4 hsD.lt
  have hX4 := hXD.below (B := 0) hb4
  have B4 := BD.trans (hb4.mono (by have := hsD.lt; omega))
  refine hK.out _ _ (cell_of1' RX4) (fun hHeld => ?_)
  clear hK K
  (try simp only [Act.put, List.setIfInBounds_toArray, List.set_cons_zero, List.set_cons_succ])
  refine wpAnyH_take (i := 3) (v := ?_) rfl (by kernel_rfl) (by kernel_rfl) (by kernel_rfl) (fun _ _ _ h => h) (Or.inl ⟨by rfl, ?_⟩) (by assumption) ?_
  rotate_left
  · (intro w hSw; (try dsimp only at hSw); go_simp; try (with_reducible rfl))
  (try simp only [Act.put, List.setIfInBounds_toArray, List.set_cons_zero, List.set_cons_succ])
  refine wpAnyH_ready (rs := [4]) (by kernel_rfl) (by simp) ?_
  refine AllReadyH.cons rfl (fun K hK => ?_) AllReadyH.nil
  go_simp
  (go_at_call 69; refine (near_any b a n cap hn (prodTo S S.length - 1) (by omega) u4 hs4).mono ?_)
  rintro e u5 ⟨y1, rfl, hy1, hs5, hg5⟩
  have RX5 := row_g RX4 hg5 (by simp; omega)
  have RA5 := row_g RA4 hg5 (by simp; omega)
  have hX5 := hX4.grown hg5
  have B5 := below_g B4 (by have := hs4.lt; omega) hg5 (by omega)
  refine hK.out _ _ (cell_of1' RX5) (fun hHeld => ?_)
  clear hK K
  (try simp only [Act.put, List.setIfInBounds_toArray, List.set_cons_zero, List.set_cons_succ])
  refine wpAnyH_ready (rs := [7]) (by kernel_rfl) (by simp) ?_
  refine AllReadyH.cons rfl (fun K hK => ?_) AllReadyH.nil
  go_simp
  (go_at_call 65; refine (l01N_any x S c u5 hSp.hi hSp.bd hX5.1).mono ?_)
  rintro e u6 ⟨rfl, hb6⟩
  have RX6 := row_g RX5 (grown_of_below hb6 none) (by simp)
  have RA6 := row_g RA5 (grown_of_below hb6 none) (by simp)
  have hs6 := hs5.below hb6 hs5.lt
  have hX6 := hX5.below (B := 0) hb6
  have B6 := B5.trans (hb6.mono (by have := hs5.lt; omega))
  refine hK.out _ _ (cell_of1' RX6) (fun hHeld => ?_)
  clear hK K
  (try simp only [Act.put, List.setIfInBounds_toArray, List.set_cons_zero, List.set_cons_succ])
  refine wpAnyH_take (i := 8) (v := ?_) rfl (by kernel_rfl) (by kernel_rfl) (by kernel_rfl) (fun _ _ _ h => h) (Or.inl ⟨by rfl, ?_⟩) (by assumption) ?_
  rotate_left
  · (intro w hSw; (try dsimp only at hSw); go_simp; try (with_reducible rfl))
  (try simp only [Act.put, List.setIfInBounds_toArray, List.set_cons_zero, List.set_cons_succ])
  refine wpAnyH_ready (rs := [9]) (by kernel_rfl) (by simp) ?_
  refine AllReadyH.cons rfl (fun K hK => ?_) AllReadyH.nil
  go_simp
  (go_at_call 69; refine (near_any b a n cap hn (prodTo S S.length - 1) (by omega) u6 hs6).mono ?_)
  rintro e u7 ⟨y2, rfl, hy2, hs7, hg7⟩
  have RX7 := row_g RX6 hg7 (by simp; omega)
  have RA7 := row_g RA6 hg7 (by simp; omega)
  have hX7 := hX6.grown hg7
  have B7 := below_g B6 (by have := hs6.lt; omega) hg7 (by omega)
  refine hK.out _ _ (cell_of1' RX7) (fun hHeld => ?_)
  clear hK K
  (try simp only [Act.put, List.setIfInBounds_toArray, List.set_cons_zero, List.set_cons_succ])
  refine wpAnyH_take (i := 10) (v := ?_) rfl (by kernel_rfl) (by kernel_rfl) (by kernel_rfl) (fun _ _ _ h => h) (Or.inl ⟨by rfl, ?_⟩) (by assumption) ?_
  rotate_left
  · (intro w hSw; (try dsimp only at hSw); go_simp; try (with_reducible rfl))
  (try simp only [Act.put, List.setIfInBounds_toArray, List.set_cons_zero, List.set_cons_succ])
  refine wpAnyH_take (i := 11) (v := ?_) rfl (by kernel_rfl) (by kernel_rfl) (by kernel_rfl) (fun _ _ _ h => h) (Or.inl ⟨by rfl, ?_⟩) (by assumption) ?_
  rotate_left
  · (intro w hSw; (try dsimp only at hSw); go_simp; try (with_reducible rfl))
  (try simp only [Act.put, List.setIfInBounds_toArray, List.set_cons_zero, List.set_cons_succ])
  refine wpAnyH_done (by kernel_rfl) ?_ _
  (try simp only [List.getElem_toArray, List.getElem_cons_succ, List.getElem_cons_zero, Act.put, List.setIfInBounds_toArray, List.set_cons_zero, List.set_cons_succ])
  have hbd := bad_any b a n cap hn x S c hSp u7 hs7 hX7
  have xX7 := cell_of1' RX7
  clear EN
  go_wp2_with fail
  refine hbd.mono ?_
  rintro e w8 ⟨ax, T, cx, rfl, hX8, hT, hs8, hg8⟩
  have RA8 := row_g RA7 hg8 (by simp; omega)
  have B8 := below_g B7 (by have := hs7.lt; omega) hg8 (by omega)
  have xA8 := cell_of1' RA8
  have fA8 := frozen_of_row w8 A 0 _ _ RA8
  have zA8 := row_lt RA8
  have hAx : ∀ g o, ax = some ⟨g, o, none⟩ → g ≠ A := fun g o e => by have := hX8.2 g o e; omega
  clear hbd xX7
  go_wp2_with fail
  refine bodyPost_ret (by rw [results_cell_tmp2w rfl]; go_simp; try rfl) rfl ?_
  exact ⟨ax, T, cx, y1, y2, rfl, (hX8.set _ _ hAx).1, (fun g o e => by have := hX8.2 g o e; have := HA.out; omega), hT, hy1, hy2, by rw [← HA.out]; exact B8.setCell (by simp) _⟩

set_option maxHeartbeats 1000000 in
theorem drawSum_any (a : Option Addr) (n cap : Nat) (hn : n ≤ 4096) (w : World) (hY : Byts w w.heap.size a n) :
    Calls Try.prog 6 #[.slice a n cap] w fun e w' => ∃ ax T cx u y, e = .returned (.tuple #[.agg #[.slice ax T.length cx], .int .i64 u, .int .i64 y]) ∧ Ints w' ax T ∧ (∀ g o, ax = some ⟨g, o, none⟩ → w.heap.size ≤ g) ∧ T.length ≤ 8 ∧ (-9223372036854775808 ≤ u ∧ u ≤ 9223372036854775807) ∧ (-9223372036854775808 ≤ y ∧ y ≤ 9223372036854775807) ∧ Below w.heap.size w w' := by
  obtain ⟨A, hA⟩ : ∃ A, A = w.heap.size := ⟨_, rfl⟩
  obtain ⟨W, hW⟩ : ∃ W, W = w.alloc (.cells #[.slice none 0 0] 26) := ⟨_, rfl⟩
  have zW : W.heap.size = A + 1 := by rw [hW, hA]; simp
  have RA0 : W.heap[A]? = some (.cells #[.slice none 0 0] 26 (0, 0)) := by rw [hW, hA]; exact heap_alloc_new w _
  have B0 : Below A w W := by rw [hW, hA]; exact (Below.refl _ w).alloc (Nat.le_refl _) _
  have hY0 : Byts W W.heap.size a n := by rw [zW]; exact ((hY.mono (by omega)).keep fun b o v hb h => by rw [hW]; exact kept_cell ((Below.refl w.heap.size w).alloc (Nat.le_refl _) _) h (by have := World.block_lt_of_cell? w _ h; exact this))
  have hc := with_l01 a n cap hn W hY0
  have HA := Lib.hid hA
  have HW := Lib.hid hW
  clear hA hW hY0
  go_enter Try.func6, Try.ntmps6
  go_wp2_with fail
  rw [← HW.out, ← HA.out]
  refine hc.mono ?_
  rintro e w1 ⟨ax, T, cx, u, y, rfl, hI, hax, hT, hu, hy, hb1⟩
  have hNA : ∀ g o, ax = some ⟨g, o, none⟩ → g ≠ A := fun g o e => by have := hax g o e; omega
  have HXX := Lib.hid hax
  have RA1 := row_g RA0 (grown_of_below hb1 none) (by simp)
  have B1 : Below A w w1 := B0.trans (hb1.mono (by omega))
  have RA3 : (w1.alloc (.cells #[.slice ax T.length cx] 26)).heap[A]? = some (.cells #[.slice none 0 0] 26 (0, 0)) := row_g RA1 (World.grownBy_alloc w1 _ none) (by simp)
  have hI3 : Ints (w1.alloc (.cells #[.slice ax T.length cx] 26)) ax T := hI.below ((Below.refl _ _).alloc (Nat.le_refl _) _)
  have z1 := B1.size
  have B3 : Below A w (w1.alloc (.cells #[.slice ax T.length cx] 26)) := B1.alloc (by have := HA.out; omega) _
  have xA3 := cell_of1' RA3
  have fA3 := frozen_of_row _ A 0 _ _ RA3
  have zA3 := row_lt RA3
  have HI3 := Lib.hid hI3
  have HB3 := Lib.hid B3
  have HAX : Hid (Ints ((w1.alloc (.cells #[.slice ax T.length cx] 26)).setCell ⟨A, 0, none⟩ (.slice ax T.length cx)) ax T) := Lib.hid (by
    rcases hI3 with h | ⟨g, o, e, hl, hcc⟩
    · exact .inl h
    · refine .inr ⟨g, o, e, by simpa using hl, fun i hi => cell_set_other (hcc i hi) ?_⟩
      intro hgA
      have h1 := hcc i hi
      have h2 := hNA
      exact h2 g o e hgA)
  clear hc hb1 RA0 hI RA1 B1 hI3 B3 hNA hax z1
  go_wp2_with fail
  refine bodyPost_ret (by rw [results_cell_tmp2w rfl]; go_simp; try rfl) rfl ?_
  exact ⟨ax, T, cx, u, y, rfl, HAX.out, (fun g o e => by have := HXX.out g o e; have := B0.size; omega), hT, hu, hy, by rw [← HA.out]; exact HB3.out.setCell (by simp) _⟩

theorem ints_setA {w : World} {ax : Option Addr} {T : List Int} {A : Nat} {u : Value} (h : Ints w ax T) (hA : ∀ g o, ax = some ⟨g, o, none⟩ → g ≠ A) : Ints (w.setCell ⟨A, 0, none⟩ u) ax T := by
  rcases h with h | ⟨g, o, e, hl, hcc⟩
  · exact .inl h
  · exact .inr ⟨g, o, e, by simpa using hl, fun i hi => cell_set_other (hcc i hi) (hA g o e)⟩

set_option maxHeartbeats 4000000 in
theorem radius_any (a : Option Addr) (n cap : Nat) (hn : n ≤ 4096) (w : World) (hY : Byts w w.heap.size a n) :
    Calls Try.prog 60 #[.slice a n cap] w fun e w' => ∃ ax T cx u y, e = .returned (.tuple #[.agg #[.slice ax T.length cx], .int .i64 u, .int .i64 y]) ∧ Ints w' ax T ∧ (∀ g o, ax = some ⟨g, o, none⟩ → w.heap.size ≤ g) ∧ T.length ≤ 8 ∧ (-9223372036854775808 ≤ u ∧ u ≤ 9223372036854775807) ∧ (-9223372036854775808 ≤ y ∧ y ≤ 9223372036854775807) ∧ Below w.heap.size w w' := by
  obtain ⟨A, hA⟩ : ∃ A, A = w.heap.size := ⟨_, rfl⟩
  obtain ⟨W, hW⟩ : ∃ W, W = w.alloc (.cells #[.slice none 0 0] 26) := ⟨_, rfl⟩
  have zW : W.heap.size = A + 1 := by rw [hW, hA]; simp
  have RA0 : W.heap[A]? = some (.cells #[.slice none 0 0] 26 (0, 0)) := by rw [hW, hA]; exact heap_alloc_new w _
  have B0 : Below A w W := by rw [hW, hA]; exact (Below.refl _ w).alloc (Nat.le_refl _) _
  have hY0 : Byts W W.heap.size a n := by rw [zW]; exact ((hY.mono (by omega)).keep fun b o v hb h => by rw [hW]; exact kept_cell ((Below.refl w.heap.size w).alloc (Nat.le_refl _) _) h (by have := World.block_lt_of_cell? w _ h; exact this))
  have hc := with_l01 a n cap hn W hY0
  have HA := Lib.hid hA
  have HW := Lib.hid hW
  clear hA hW hY0
  go_enter Try.func60, Try.ntmps60
  go_wp2_with fail
  rw [← HW.out, ← HA.out]
  refine hc.mono ?_
  rintro e w1 ⟨ax, T, cx, u, y, rfl, hI, hax, hT, hu, hy, hb1⟩
  have hNA : ∀ g o, ax = some ⟨g, o, none⟩ → g ≠ A := fun g o e => by have := hax g o e; omega
  have HXX := Lib.hid hax
  have RA1 := row_g RA0 (grown_of_below hb1 none) (by simp)
  have B1 : Below A w w1 := B0.trans (hb1.mono (by omega))
  obtain ⟨X, hX⟩ : ∃ X, X = w1.heap.size := ⟨_, rfl⟩
  obtain ⟨E, hE⟩ : ∃ E, E = w1.alloc (.cells #[.slice ax T.length cx] 26) := ⟨_, rfl⟩
  obtain ⟨Z, hZ⟩ : ∃ Z, Z = E.heap.size := ⟨_, rfl⟩
  have zE : Z = X + 1 := by rw [hZ, hE, hX]; simp
  have RX : E.heap[X]? = some (.cells #[.slice ax T.length cx] 26 (0, 0)) := by rw [hE, hX]; exact heap_alloc_new _ _
  have RA : E.heap[A]? = some (.cells #[.slice none 0 0] 26 (0, 0)) := by rw [hE]; exact row_g RA1 (World.grownBy_alloc w1 _ none) (by simp)
  have hI3 : Ints E ax T := by rw [hE]; exact hI.below ((Below.refl _ _).alloc (Nat.le_refl _) _)
  have z1 := B1.size
  have zAX : A < X := by rw [hX]; exact row_lt RA1
  have BE : Below A w E := by rw [hE]; exact B1.alloc (by have := HA.out; omega) _
  have hyE : Byts E Z a n := (hY.mono (by have := HA.out; omega)).keep fun b o v hb h => by
    have h1 := World.block_lt_of_cell? w _ h
    exact kept_cell BE h (by rw [HA.out]; exact h1)
  have hax' : ∀ g o, ax = some ⟨g, o, none⟩ → w.heap.size ≤ g := fun g o e => by have := HXX.out g o e; have := B0.size; omega
  have hHX := Lib.hid hX
  have HE := Lib.hid hE
  have zX : X < Z := by omega
  have zA : A < Z := by omega
  clear hc hb1 RA0 RA1 hI B1 hX hE hax z1 hy
  have hI := hI3
  go_wp2_with fail
  rw [← HE.out, ← hHX.out]
  refine wp_region_held_drew (S := fun w' => w'.cell? ⟨X, 0, none⟩ = some (.slice ax T.length cx)) (by kernel_rfl) (cell_of1' RX) (fun hHeld => ?_)
  refine wpAnyH_take (i := 0) (v := ?_) rfl (by kernel_rfl) (by kernel_rfl) (by kernel_rfl) (fun _ _ _ h => h) (Or.inl ⟨by rfl, ?_⟩) (by assumption) ?_
  rotate_left
  · (intro w hSw; (try dsimp only at hSw); go_simp; try (with_reducible rfl))
  (try simp only [Act.put, List.setIfInBounds_toArray, List.set_cons_zero, List.set_cons_succ])
  refine wpAnyH_take (i := 1) (v := ?_) rfl (by kernel_rfl) (by kernel_rfl) (by kernel_rfl) (fun _ _ _ h => h) (Or.inl ⟨by rfl, ?_⟩) (by assumption) ?_
  rotate_left
  · (intro w hSw; (try dsimp only at hSw); go_simp; try (with_reducible rfl))
  (try simp only [Act.put, List.setIfInBounds_toArray, List.set_cons_zero, List.set_cons_succ])
  refine wpAnyH_take (i := 2) (v := ?_) rfl (by kernel_rfl) (by kernel_rfl) (by kernel_rfl) (fun _ _ _ h => h) (Or.inl ⟨by rfl, ?_⟩) (by assumption) ?_
  rotate_left
  · (intro w hSw; (try dsimp only at hSw); go_simp; try (with_reducible rfl))
  (try simp only [Act.put, List.setIfInBounds_toArray, List.set_cons_zero, List.set_cons_succ])
  refine wpAnyH_take (i := 4) (v := ?_) rfl (by kernel_rfl) (by kernel_rfl) (by kernel_rfl) (fun _ _ _ h => h) (Or.inl ⟨by rfl, ?_⟩) (by assumption) ?_
  rotate_left
  · (intro w hSw; (try dsimp only at hSw); go_simp; try (with_reducible rfl))
  (try simp only [Act.put, List.setIfInBounds_toArray, List.set_cons_zero, List.set_cons_succ])
  refine wpAnyH_ready (rs := [3, 6]) (by kernel_rfl) (by simp) ?_
  refine AllReadyH.cons rfl (fun K hK => ?_) ?_
  · go_simp
    obtain ⟨b1, hb1⟩ : ∃ b, b = E.drew.heap.size := ⟨_, rfl⟩
    have hzb1 : Z ≤ b1 := by rw [hb1]; exact Below.size ((Below.refl Z E).drew) |> fun h => by rw [hZ]; exact h
    have hfb1 := from_any a n cap hn E.drew ((hyE.keep fun b o v hb h => kept_cell ((Below.refl Z E).drew) h hb).mono (by rw [← hb1]; exact hzb1))
    rw [← hb1] at hfb1
    (go_at_call 67; refine hfb1.mono ?_)
    rintro e v1 ⟨rfl, hsb1_1, hbb1⟩
    rw [hb1] at hbb1
    have bz1 : Below Z E v1 := Below.trans ((Below.refl Z E).drew) (hbb1.mono (by rw [← hb1]; exact hzb1))
    clear hfb1 hb1
    refine hK.out _ _ (kept_cell (bz1) (cell_of1' RX) zX) (fun hHeld => ?_)
    clear hK K
    (try simp only [Act.put, List.setIfInBounds_toArray, List.set_cons_zero, List.set_cons_succ])
    refine wpAnyH_ready (rs := [5, 6]) (by kernel_rfl) (by simp) ?_
    refine AllReadyH.cons rfl (fun K hK => ?_) ?_
    · go_simp
      obtain ⟨b2, hb2⟩ : ∃ b, b = v1.heap.size := ⟨_, rfl⟩
      have hzb2 : Z ≤ b2 := by rw [hb2]; exact Below.size (bz1) |> fun h => by rw [hZ]; exact h
      have hfb2 := from_any a n cap hn v1 ((hyE.keep fun b o v hb h => kept_cell (bz1) h hb).mono (by rw [← hb2]; exact hzb2))
      rw [← hb2] at hfb2
      (go_at_call 67; refine hfb2.mono ?_)
      rintro e v2 ⟨rfl, hsb2_2, hbb2⟩
      rw [hb2] at hbb2
      have bz2 : Below Z E v2 := Below.trans (bz1) (hbb2.mono (by rw [← hb2]; exact hzb2))
      have hsb1_2 := hsb1_1.below hbb2 hsb1_1.lt
      have ltb1b2 : b1 < b2 := by rw [hb2]; exact hsb1_1.lt
      clear hfb2 hb2
      refine hK.out _ _ (kept_cell (bz2) (cell_of1' RX) zX) (fun hHeld => ?_)
      clear hK K
      (try simp only [Act.put, List.setIfInBounds_toArray, List.set_cons_zero, List.set_cons_succ])
      refine wpAnyH_ready (rs := [6]) (by kernel_rfl) (by simp) ?_
      refine AllReadyH.cons rfl (fun K hK => ?_) AllReadyH.nil
      go_simp
      obtain ⟨v3, hv3⟩ : ∃ u, u = v2.alloc (.cells #[.int .i64 1, .int .i64 2, .int .i64 3, .int .i64 8] 2) := ⟨_, rfl⟩
      rw [← hv3]
      have bz3 : Below Z E v3 := by rw [hv3]; exact Below.alloc (bz2) (by have := Below.size (bz2); rw [hZ]; exact this) _
      have I3 : Ints v3 (some ⟨v2.heap.size, 0, none⟩) [1, 2, 3, 8] := by rw [hv3]; exact ints_new v2 _ _
      have hsb1_3 : Src v3 b1 a n cap := by rw [hv3]; exact hsb1_2.alloc _
      have ltb1 : b1 < v2.heap.size := hsb1_2.lt
      have hsb2_3 : Src v3 b2 a n cap := by rw [hv3]; exact hsb2_2.alloc _
      have ltb2 : b2 < v2.heap.size := hsb2_2.lt
      have ltg3 : v2.heap.size < v3.heap.size := by rw [hv3]; exact lt_alloc _ _
      clear hv3
      refine hK.out _ _ (kept_cell (bz3) (cell_of1' RX) zX) (fun hHeld => ?_)
      clear hK K
      (try simp only [Act.put, List.setIfInBounds_toArray, List.set_cons_zero, List.set_cons_succ])
      refine wpAnyH_ready (rs := [7]) (by kernel_rfl) (by simp) ?_
      refine AllReadyH.cons rfl (fun K hK => ?_) AllReadyH.nil
      go_simp
      have hne : v2.heap.size ≠ b2 := by omega
      (go_at_call 71; refine (pick_n b2 a n cap hn v2.heap.size [1, 2, 3, 8] 4 rfl (by omega) (by omega) hne v3 hsb2_3 I3).mono ?_)
      rintro e v4 ⟨M, rfl, hM, hsb2_4, hg4⟩
      have hM' : 1 ≤ M ∧ M ≤ 8 := by simp only [List.mem_cons, List.not_mem_nil, or_false] at hM; omega
      have bz4 : Below Z E v4 := below_g (bz3) (by have := Below.size (bz3); rw [hZ]; exact this) hg4 hzb2
      have hsb1_4 := hsb1_3.grownO hg4 (fun g e => by cases e; omega)
      refine hK.out _ _ (kept_cell (bz4) (cell_of1' RX) zX) (fun hHeld => ?_)
      clear hK K
      (try simp only [Act.put, List.setIfInBounds_toArray, List.set_cons_zero, List.set_cons_succ])
      refine wpAnyH_ready (rs := [8]) (by kernel_rfl) (by simp) ?_
      refine AllReadyH.cons rfl (fun K hK => ?_) AllReadyH.nil
      go_simp
      (go_at_call 69; refine (near_any b1 a n cap hn M (by omega) v4 hsb1_4).mono ?_)
      rintro e v5 ⟨y2, rfl, hy2, hsz, hg5⟩
      have bz5 : Below Z E v5 := below_g (bz4) (by have := Below.size (bz4); rw [hZ]; exact this) hg5 hzb1
      refine hK.out _ _ (kept_cell (bz5) (cell_of1' RX) zX) (fun hHeld => ?_)
      clear hK K
      (try simp only [Act.put, List.setIfInBounds_toArray, List.set_cons_zero, List.set_cons_succ])
      refine wpAnyH_ready (rs := [9]) (by kernel_rfl) (by simp) ?_
      refine AllReadyH.cons rfl (fun K hK => ?_) AllReadyH.nil
      have RAe : v5.heap[A]? = some (.cells #[.slice none 0 0] 26 (0, 0)) := (bz5.block A zA).trans RA
      have xAe := cell_of1' RAe
      have fAe := frozen_of_row v5 A 0 _ _ RAe
      go_simp
      have HIe : Ints (v5.setCell ⟨A, 0, none⟩ (.slice ax T.length cx)) ax T := ints_setA (hI.below (by rw [← hZ]; exact bz5)) hNA
      have Be : Below A w (v5.setCell ⟨A, 0, none⟩ (.slice ax T.length cx)) := (BE.trans (bz5.mono (by omega))).setCell (by simp) _
      refine hK.out _ _ ((show (v5.setCell ⟨A, 0, none⟩ (.slice ax T.length cx)).cell? ⟨X, 0, none⟩ = _ from cell_set_other (kept_cell (bz5) (cell_of1' RX) zX) (by simp; omega))) (fun hHeld => ?_)
      clear hK K
      (try simp only [Act.put, List.setIfInBounds_toArray, List.set_cons_zero, List.set_cons_succ])
      have zAe := row_lt RAe
      refine wpAnyH_take (i := 10) (v := ?_) rfl (by kernel_rfl) (by kernel_rfl) (by kernel_rfl) (fun _ _ _ h => h) (Or.inl ⟨by rfl, ?_⟩) (by assumption) ?_
      rotate_left
      · (intro w hSw; (try dsimp only at hSw); go_simp; try (with_reducible rfl))
      (try simp only [Act.put, List.setIfInBounds_toArray, List.set_cons_zero, List.set_cons_succ])
      refine wpAnyH_take (i := 11) (v := ?_) rfl (by kernel_rfl) (by kernel_rfl) (by kernel_rfl) (fun _ _ _ h => h) (Or.inl ⟨by rfl, ?_⟩) (by assumption) ?_
      rotate_left
      · (intro w hSw; (try dsimp only at hSw); go_simp; try (with_reducible rfl))
      (try simp only [Act.put, List.setIfInBounds_toArray, List.set_cons_zero, List.set_cons_succ])
      refine wpAnyH_done (by kernel_rfl) ?_ _
      (try simp only [List.getElem_toArray, List.getElem_cons_succ, List.getElem_cons_zero, Act.put, List.setIfInBounds_toArray, List.set_cons_zero, List.set_cons_succ])
      go_wp2_with fail
      refine bodyPost_ret (by rw [results_cell_tmp2w rfl]; go_simp; try rfl) rfl ?_
      exact ⟨ax, T, cx, u, y2, rfl, HIe, hax', hT, hu, hy2, by rw [← HA.out]; exact Be⟩
    refine AllReadyH.cons rfl (fun K hK => ?_) AllReadyH.nil
    go_simp
    obtain ⟨v2, hv2⟩ : ∃ u, u = v1.alloc (.cells #[.int .i64 1, .int .i64 2, .int .i64 3, .int .i64 8] 2) := ⟨_, rfl⟩
    rw [← hv2]
    have bz2 : Below Z E v2 := by rw [hv2]; exact Below.alloc (bz1) (by have := Below.size (bz1); rw [hZ]; exact this) _
    have I2 : Ints v2 (some ⟨v1.heap.size, 0, none⟩) [1, 2, 3, 8] := by rw [hv2]; exact ints_new v1 _ _
    have hsb1_2 : Src v2 b1 a n cap := by rw [hv2]; exact hsb1_1.alloc _
    have ltb1 : b1 < v1.heap.size := hsb1_1.lt
    have ltg2 : v1.heap.size < v2.heap.size := by rw [hv2]; exact lt_alloc _ _
    clear hv2
    refine hK.out _ _ (kept_cell (bz2) (cell_of1' RX) zX) (fun hHeld => ?_)
    clear hK K
    (try simp only [Act.put, List.setIfInBounds_toArray, List.set_cons_zero, List.set_cons_succ])
    refine wpAnyH_ready (rs := [5]) (by kernel_rfl) (by simp) ?_
    refine AllReadyH.cons rfl (fun K hK => ?_) AllReadyH.nil
    go_simp
    obtain ⟨b2, hb2⟩ : ∃ b, b = v2.heap.size := ⟨_, rfl⟩
    have hzb2 : Z ≤ b2 := by rw [hb2]; exact Below.size (bz2) |> fun h => by rw [hZ]; exact h
    have hfb2 := from_any a n cap hn v2 ((hyE.keep fun b o v hb h => kept_cell (bz2) h hb).mono (by rw [← hb2]; exact hzb2))
    rw [← hb2] at hfb2
    (go_at_call 67; refine hfb2.mono ?_)
    rintro e v3 ⟨rfl, hsb2_3, hbb3⟩
    rw [hb2] at hbb3
    have bz3 : Below Z E v3 := Below.trans (bz2) (hbb3.mono (by rw [← hb2]; exact hzb2))
    have hsb1_3 := hsb1_2.below hbb3 hsb1_2.lt
    have ltb1b2 : b1 < b2 := by rw [hb2]; exact hsb1_2.lt
    have I3 := I2.below hbb3
    have ltgb2 : v1.heap.size < b2 := by rw [hb2]; exact ltg2
    clear hfb2 hb2
    refine hK.out _ _ (kept_cell (bz3) (cell_of1' RX) zX) (fun hHeld => ?_)
    clear hK K
    (try simp only [Act.put, List.setIfInBounds_toArray, List.set_cons_zero, List.set_cons_succ])
    refine wpAnyH_ready (rs := [7]) (by kernel_rfl) (by simp) ?_
    refine AllReadyH.cons rfl (fun K hK => ?_) AllReadyH.nil
    go_simp
    have hne : v1.heap.size ≠ b2 := by omega
    (go_at_call 71; refine (pick_n b2 a n cap hn v1.heap.size [1, 2, 3, 8] 4 rfl (by omega) (by omega) hne v3 hsb2_3 I3).mono ?_)
    rintro e v4 ⟨M, rfl, hM, hsb2_4, hg4⟩
    have hM' : 1 ≤ M ∧ M ≤ 8 := by simp only [List.mem_cons, List.not_mem_nil, or_false] at hM; omega
    have bz4 : Below Z E v4 := below_g (bz3) (by have := Below.size (bz3); rw [hZ]; exact this) hg4 hzb2
    have hsb1_4 := hsb1_3.grownO hg4 (fun g e => by cases e; omega)
    refine hK.out _ _ (kept_cell (bz4) (cell_of1' RX) zX) (fun hHeld => ?_)
    clear hK K
    (try simp only [Act.put, List.setIfInBounds_toArray, List.set_cons_zero, List.set_cons_succ])
    refine wpAnyH_ready (rs := [8]) (by kernel_rfl) (by simp) ?_
    refine AllReadyH.cons rfl (fun K hK => ?_) AllReadyH.nil
    go_simp
    (go_at_call 69; refine (near_any b1 a n cap hn M (by omega) v4 hsb1_4).mono ?_)
    rintro e v5 ⟨y2, rfl, hy2, hsz, hg5⟩
    have bz5 : Below Z E v5 := below_g (bz4) (by have := Below.size (bz4); rw [hZ]; exact this) hg5 hzb1
    refine hK.out _ _ (kept_cell (bz5) (cell_of1' RX) zX) (fun hHeld => ?_)
    clear hK K
    (try simp only [Act.put, List.setIfInBounds_toArray, List.set_cons_zero, List.set_cons_succ])
    refine wpAnyH_ready (rs := [9]) (by kernel_rfl) (by simp) ?_
    refine AllReadyH.cons rfl (fun K hK => ?_) AllReadyH.nil
    have RAe : v5.heap[A]? = some (.cells #[.slice none 0 0] 26 (0, 0)) := (bz5.block A zA).trans RA
    have xAe := cell_of1' RAe
    have fAe := frozen_of_row v5 A 0 _ _ RAe
    go_simp
    have HIe : Ints (v5.setCell ⟨A, 0, none⟩ (.slice ax T.length cx)) ax T := ints_setA (hI.below (by rw [← hZ]; exact bz5)) hNA
    have Be : Below A w (v5.setCell ⟨A, 0, none⟩ (.slice ax T.length cx)) := (BE.trans (bz5.mono (by omega))).setCell (by simp) _
    refine hK.out _ _ ((show (v5.setCell ⟨A, 0, none⟩ (.slice ax T.length cx)).cell? ⟨X, 0, none⟩ = _ from cell_set_other (kept_cell (bz5) (cell_of1' RX) zX) (by simp; omega))) (fun hHeld => ?_)
    clear hK K
    (try simp only [Act.put, List.setIfInBounds_toArray, List.set_cons_zero, List.set_cons_succ])
    have zAe := row_lt RAe
    refine wpAnyH_take (i := 10) (v := ?_) rfl (by kernel_rfl) (by kernel_rfl) (by kernel_rfl) (fun _ _ _ h => h) (Or.inl ⟨by rfl, ?_⟩) (by assumption) ?_
    rotate_left
    · (intro w hSw; (try dsimp only at hSw); go_simp; try (with_reducible rfl))
    (try simp only [Act.put, List.setIfInBounds_toArray, List.set_cons_zero, List.set_cons_succ])
    refine wpAnyH_take (i := 11) (v := ?_) rfl (by kernel_rfl) (by kernel_rfl) (by kernel_rfl) (fun _ _ _ h => h) (Or.inl ⟨by rfl, ?_⟩) (by assumption) ?_
    rotate_left
    · (intro w hSw; (try dsimp only at hSw); go_simp; try (with_reducible rfl))
    (try simp only [Act.put, List.setIfInBounds_toArray, List.set_cons_zero, List.set_cons_succ])
    refine wpAnyH_done (by kernel_rfl) ?_ _
    (try simp only [List.getElem_toArray, List.getElem_cons_succ, List.getElem_cons_zero, Act.put, List.setIfInBounds_toArray, List.set_cons_zero, List.set_cons_succ])
    go_wp2_with fail
    refine bodyPost_ret (by rw [results_cell_tmp2w rfl]; go_simp; try rfl) rfl ?_
    exact ⟨ax, T, cx, u, y2, rfl, HIe, hax', hT, hu, hy2, by rw [← HA.out]; exact Be⟩
  refine AllReadyH.cons rfl (fun K hK => ?_) AllReadyH.nil
  go_simp
  obtain ⟨v1, hv1⟩ : ∃ u, u = (E.alloc (.cells #[.int .i64 1, .int .i64 2, .int .i64 3, .int .i64 8] 2)).drew := ⟨_, rfl⟩
  rw [← hv1]
  have bz1 : Below Z E v1 := by rw [hv1, hZ]; exact ((Below.refl E.heap.size E).alloc (Nat.le_refl _) _).drew
  have I1 : Ints v1 (some ⟨E.heap.size, 0, none⟩) [1, 2, 3, 8] := by rw [hv1]; exact (show Ints (E.alloc (.cells #[.int .i64 1, .int .i64 2, .int .i64 3, .int .i64 8] 2)) _ _ from ints_new E _ _)
  have ltg1 : E.heap.size < v1.heap.size := by rw [hv1]; exact lt_alloc _ _
  clear hv1
  refine hK.out _ _ (kept_cell (bz1) (cell_of1' RX) zX) (fun hHeld => ?_)
  clear hK K
  (try simp only [Act.put, List.setIfInBounds_toArray, List.set_cons_zero, List.set_cons_succ])
  refine wpAnyH_ready (rs := [3]) (by kernel_rfl) (by simp) ?_
  refine AllReadyH.cons rfl (fun K hK => ?_) AllReadyH.nil
  go_simp
  obtain ⟨b1, hb1⟩ : ∃ b, b = v1.heap.size := ⟨_, rfl⟩
  have hzb1 : Z ≤ b1 := by rw [hb1]; exact Below.size (bz1) |> fun h => by rw [hZ]; exact h
  have hfb1 := from_any a n cap hn v1 ((hyE.keep fun b o v hb h => kept_cell (bz1) h hb).mono (by rw [← hb1]; exact hzb1))
  rw [← hb1] at hfb1
  (go_at_call 67; refine hfb1.mono ?_)
  rintro e v2 ⟨rfl, hsb1_2, hbb2⟩
  rw [hb1] at hbb2
  have bz2 : Below Z E v2 := Below.trans (bz1) (hbb2.mono (by rw [← hb1]; exact hzb1))
  have I2 := I1.below hbb2
  have ltgb1 : E.heap.size < b1 := by rw [hb1]; exact ltg1
  clear hfb1 hb1
  refine hK.out _ _ (kept_cell (bz2) (cell_of1' RX) zX) (fun hHeld => ?_)
  clear hK K
  (try simp only [Act.put, List.setIfInBounds_toArray, List.set_cons_zero, List.set_cons_succ])
  refine wpAnyH_ready (rs := [5]) (by kernel_rfl) (by simp) ?_
  refine AllReadyH.cons rfl (fun K hK => ?_) AllReadyH.nil
  go_simp
  obtain ⟨b2, hb2⟩ : ∃ b, b = v2.heap.size := ⟨_, rfl⟩
  have hzb2 : Z ≤ b2 := by rw [hb2]; exact Below.size (bz2) |> fun h => by rw [hZ]; exact h
  have hfb2 := from_any a n cap hn v2 ((hyE.keep fun b o v hb h => kept_cell (bz2) h hb).mono (by rw [← hb2]; exact hzb2))
  rw [← hb2] at hfb2
  (go_at_call 67; refine hfb2.mono ?_)
  rintro e v3 ⟨rfl, hsb2_3, hbb3⟩
  rw [hb2] at hbb3
  have bz3 : Below Z E v3 := Below.trans (bz2) (hbb3.mono (by rw [← hb2]; exact hzb2))
  have hsb1_3 := hsb1_2.below hbb3 hsb1_2.lt
  have ltb1b2 : b1 < b2 := by rw [hb2]; exact hsb1_2.lt
  have I3 := I2.below hbb3
  have ltgb2 : E.heap.size < b2 := by omega
  clear hfb2 hb2
  refine hK.out _ _ (kept_cell (bz3) (cell_of1' RX) zX) (fun hHeld => ?_)
  clear hK K
  (try simp only [Act.put, List.setIfInBounds_toArray, List.set_cons_zero, List.set_cons_succ])
  refine wpAnyH_ready (rs := [7]) (by kernel_rfl) (by simp) ?_
  refine AllReadyH.cons rfl (fun K hK => ?_) AllReadyH.nil
  go_simp
  have hne : E.heap.size ≠ b2 := by omega
  (go_at_call 71; refine (pick_n b2 a n cap hn E.heap.size [1, 2, 3, 8] 4 rfl (by omega) (by omega) hne v3 hsb2_3 I3).mono ?_)
  rintro e v4 ⟨M, rfl, hM, hsb2_4, hg4⟩
  have hM' : 1 ≤ M ∧ M ≤ 8 := by simp only [List.mem_cons, List.not_mem_nil, or_false] at hM; omega
  have bz4 : Below Z E v4 := below_g (bz3) (by have := Below.size (bz3); rw [hZ]; exact this) hg4 hzb2
  have hsb1_4 := hsb1_3.grownO hg4 (fun g e => by cases e; omega)
  refine hK.out _ _ (kept_cell (bz4) (cell_of1' RX) zX) (fun hHeld => ?_)
  clear hK K
  (try simp only [Act.put, List.setIfInBounds_toArray, List.set_cons_zero, List.set_cons_succ])
  refine wpAnyH_ready (rs := [8]) (by kernel_rfl) (by simp) ?_
  refine AllReadyH.cons rfl (fun K hK => ?_) AllReadyH.nil
  go_simp
  (go_at_call 69; refine (near_any b1 a n cap hn M (by omega) v4 hsb1_4).mono ?_)
  rintro e v5 ⟨y2, rfl, hy2, hsz, hg5⟩
  have bz5 : Below Z E v5 := below_g (bz4) (by have := Below.size (bz4); rw [hZ]; exact this) hg5 hzb1
  refine hK.out _ _ (kept_cell (bz5) (cell_of1' RX) zX) (fun hHeld => ?_)
  clear hK K
  (try simp only [Act.put, List.setIfInBounds_toArray, List.set_cons_zero, List.set_cons_succ])
  refine wpAnyH_ready (rs := [9]) (by kernel_rfl) (by simp) ?_
  refine AllReadyH.cons rfl (fun K hK => ?_) AllReadyH.nil
  have RAe : v5.heap[A]? = some (.cells #[.slice none 0 0] 26 (0, 0)) := (bz5.block A zA).trans RA
  have xAe := cell_of1' RAe
  have fAe := frozen_of_row v5 A 0 _ _ RAe
  go_simp
  have HIe : Ints (v5.setCell ⟨A, 0, none⟩ (.slice ax T.length cx)) ax T := ints_setA (hI.below (by rw [← hZ]; exact bz5)) hNA
  have Be : Below A w (v5.setCell ⟨A, 0, none⟩ (.slice ax T.length cx)) := (BE.trans (bz5.mono (by omega))).setCell (by simp) _
  refine hK.out _ _ ((show (v5.setCell ⟨A, 0, none⟩ (.slice ax T.length cx)).cell? ⟨X, 0, none⟩ = _ from cell_set_other (kept_cell (bz5) (cell_of1' RX) zX) (by simp; omega))) (fun hHeld => ?_)
  clear hK K
  (try simp only [Act.put, List.setIfInBounds_toArray, List.set_cons_zero, List.set_cons_succ])
  have zAe := row_lt RAe
  refine wpAnyH_take (i := 10) (v := ?_) rfl (by kernel_rfl) (by kernel_rfl) (by kernel_rfl) (fun _ _ _ h => h) (Or.inl ⟨by rfl, ?_⟩) (by assumption) ?_
  rotate_left
  · (intro w hSw; (try dsimp only at hSw); go_simp; try (with_reducible rfl))
  (try simp only [Act.put, List.setIfInBounds_toArray, List.set_cons_zero, List.set_cons_succ])
  refine wpAnyH_take (i := 11) (v := ?_) rfl (by kernel_rfl) (by kernel_rfl) (by kernel_rfl) (fun _ _ _ h => h) (Or.inl ⟨by rfl, ?_⟩) (by assumption) ?_
  rotate_left
  · (intro w hSw; (try dsimp only at hSw); go_simp; try (with_reducible rfl))
  (try simp only [Act.put, List.setIfInBounds_toArray, List.set_cons_zero, List.set_cons_succ])
  refine wpAnyH_done (by kernel_rfl) ?_ _
  (try simp only [List.getElem_toArray, List.getElem_cons_succ, List.getElem_cons_zero, Act.put, List.setIfInBounds_toArray, List.set_cons_zero, List.set_cons_succ])
  go_wp2_with fail
  refine bodyPost_ret (by rw [results_cell_tmp2w rfl]; go_simp; try rfl) rfl ?_
  exact ⟨ax, T, cx, u, y2, rfl, HIe, hax', hT, hu, hy2, by rw [← HA.out]; exact Be⟩

set_option maxHeartbeats 1000000 in
theorem drawBall_any (a : Option Addr) (n cap : Nat) (hn : n ≤ 4096) (w : World) (hY : Byts w w.heap.size a n) :
    Calls Try.prog 21 #[.slice a n cap] w fun e w' => ∃ ax T cx u y, e = .returned (.tuple #[.agg #[.slice ax T.length cx], .int .i64 u, .int .i64 y]) ∧ Ints w' ax T ∧ (∀ g o, ax = some ⟨g, o, none⟩ → w.heap.size ≤ g) ∧ T.length ≤ 8 ∧ (-9223372036854775808 ≤ u ∧ u ≤ 9223372036854775807) ∧ (-9223372036854775808 ≤ y ∧ y ≤ 9223372036854775807) ∧ Below w.heap.size w w' := by
  obtain ⟨A, hA⟩ : ∃ A, A = w.heap.size := ⟨_, rfl⟩
  obtain ⟨W, hW⟩ : ∃ W, W = w.alloc (.cells #[.slice none 0 0] 26) := ⟨_, rfl⟩
  have zW : W.heap.size = A + 1 := by rw [hW, hA]; simp
  have RA0 : W.heap[A]? = some (.cells #[.slice none 0 0] 26 (0, 0)) := by rw [hW, hA]; exact heap_alloc_new w _
  have B0 : Below A w W := by rw [hW, hA]; exact (Below.refl _ w).alloc (Nat.le_refl _) _
  have hY0 : Byts W W.heap.size a n := by rw [zW]; exact ((hY.mono (by omega)).keep fun b o v hb h => by rw [hW]; exact kept_cell ((Below.refl w.heap.size w).alloc (Nat.le_refl _) _) h (by have := World.block_lt_of_cell? w _ h; exact this))
  have hc := radius_any a n cap hn W hY0
  have HA := Lib.hid hA
  have HW := Lib.hid hW
  clear hA hW hY0
  go_enter Try.func21, Try.ntmps21
  go_wp2_with fail
  rw [← HW.out, ← HA.out]
  refine hc.mono ?_
  rintro e w1 ⟨ax, T, cx, u, y, rfl, hI, hax, hT, hu, hy, hb1⟩
  have hNA : ∀ g o, ax = some ⟨g, o, none⟩ → g ≠ A := fun g o e => by have := hax g o e; omega
  have HXX := Lib.hid hax
  have RA1 := row_g RA0 (grown_of_below hb1 none) (by simp)
  have B1 : Below A w w1 := B0.trans (hb1.mono (by omega))
  have RA3 : (w1.alloc (.cells #[.slice ax T.length cx] 26)).heap[A]? = some (.cells #[.slice none 0 0] 26 (0, 0)) := row_g RA1 (World.grownBy_alloc w1 _ none) (by simp)
  have hI3 : Ints (w1.alloc (.cells #[.slice ax T.length cx] 26)) ax T := hI.below ((Below.refl _ _).alloc (Nat.le_refl _) _)
  have z1 := B1.size
  have B3 : Below A w (w1.alloc (.cells #[.slice ax T.length cx] 26)) := B1.alloc (by have := HA.out; omega) _
  have xA3 := cell_of1' RA3
  have fA3 := frozen_of_row _ A 0 _ _ RA3
  have zA3 := row_lt RA3
  have HI3 := Lib.hid hI3
  have HB3 := Lib.hid B3
  have HAX : Hid (Ints ((w1.alloc (.cells #[.slice ax T.length cx] 26)).setCell ⟨A, 0, none⟩ (.slice ax T.length cx)) ax T) := Lib.hid (by
    rcases hI3 with h | ⟨g, o, e, hl, hcc⟩
    · exact .inl h
    · refine .inr ⟨g, o, e, by simpa using hl, fun i hi => cell_set_other (hcc i hi) ?_⟩
      intro hgA
      have h1 := hcc i hi
      have h2 := hNA
      exact h2 g o e hgA)
  clear hc hb1 RA0 hI RA1 B1 hI3 B3 hNA hax z1
  go_wp2_with fail
  refine bodyPost_ret (by rw [results_cell_tmp2w rfl]; go_simp; try rfl) rfl ?_
  exact ⟨ax, T, cx, u, y, rfl, HAX.out, (fun g o e => by have := HXX.out g o e; have := B0.size; omega), hT, hu, hy, by rw [← HA.out]; exact HB3.out.setCell (by simp) _⟩

end Go.Proofs.Ytjjcpbhmpjedoaa
