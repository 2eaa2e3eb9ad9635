/-
  Merged texts: DrwG, DrwT, DrwC. Never import this beside one of them. By an AI agent.
-/
import Derived.Test.YtlhapanfegjafaaDrw7
import Derived.Test.YtlhapanfegjafaaFcD
namespace Go.Proofs.Ytlhapanfegjafaa
open Go.RowKit Cv
set_option linter.unusedVariables false
set_option linter.unusedSimpArgs false
set_option maxRecDepth 100000

theorem results_cell_tmp1g {fn : Func} {p u1 : Tmp} {ty : TypeId} (h : fn.results = #[.cell p ty, .tmp u1]) (tmps : Array Value) (P : Program) (w : World) :
    (results fn tmps).run P w =
      ((asAddr (tmps.getD p undef)).run P w).andThen fun a w₁ => ((loadVar ty a).run P w₁).andThen fun v w₂ => .ok (.tuple #[v, tmps.getD u1 undef]) w₂ := by
  simp only [results, h]
  simp [Sem.run_bind, Result.andThen]

set_option maxHeartbeats 4000000 in
theorem drawGreedy_any (a : Option Addr) (n cap : Nat) (hn : n ≤ 4096) (w : World) (hY : Byts w w.heap.size a n) :
    Calls Try.prog 14 #[.slice a n cap] w fun e w' => ∃ ax T cx y, e = .returned (.tuple #[.agg #[.slice ax T.length cx], .int .i64 y]) ∧ Ints w' ax T ∧ (∀ g o, ax = some ⟨g, o, none⟩ → w.heap.size ≤ g) ∧ T.length ≤ 8 ∧ (-9223372036854775808 ≤ y ∧ y ≤ 9223372036854775807) ∧ Below w.heap.size w w' := by
  obtain ⟨A, hA⟩ : ∃ A, A = w.heap.size := ⟨_, rfl⟩
  obtain ⟨W, hW⟩ : ∃ W, W = w.alloc (.cells #[.slice none 0 0] 26) := ⟨_, rfl⟩
  have zW : W.heap.size = A + 1 := by rw [hW, hA]; simp
  have RA0 : W.heap[A]? = some (.cells #[.slice none 0 0] 26 (0, 0)) := by rw [hW, hA]; exact heap_alloc_new w _
  have B0 : Below A w W := by rw [hW, hA]; exact (Below.refl _ w).alloc (Nat.le_refl _) _
  have hY0 : Byts W W.heap.size a n := by rw [zW]; exact ((hY.mono (by omega)).keep fun b o v hb h => by rw [hW]; exact kept_cell ((Below.refl w.heap.size w).alloc (Nat.le_refl _) _) h (by have := World.block_lt_of_cell? w _ h; exact this))
  have hfr := from_any a n cap hn W hY0
  have HA := Lib.hid hA
  have HW := Lib.hid hW
  obtain ⟨b, hb⟩ : ∃ b, b = W.heap.size := ⟨_, rfl⟩
  rw [← hb] at hfr
  have hbA : b = A + 1 := by omega
  have HB := Lib.hid hb
  clear hA hW hY0
  go_enter Try.func14, Try.ntmps14
  go_wp2_with fail
  rw [← HW.out, ← HA.out]
  refine hfr.mono ?_
  rintro e w1 ⟨rfl, hs1, hb1⟩
  rw [hb] at hb1
  have RA1 := row_g RA0 (grown_of_below hb1 none) (by simp)
  have B1 : Below A w w1 := B0.trans (hb1.mono (by omega))
  have hd := small_any b a n cap hn w1 hs1
  have hAb : A < b := by omega
  have z1 := hs1.lt
  clear hfr hb1 RA0 B0 hs1 hb zW hbA
  go_wp2_with fail
  refine hd.mono ?_
  rintro e w2 ⟨v, S, rfl, own2, hSp, hs2, hg2⟩
  obtain ⟨x, c, hv⟩ := own_shp own2
  subst hv
  have RA2 := row_g RA1 hg2 (by simp; omega)
  have B2 := below_g B1 (by omega) hg2 (by omega)
  have hX2 := intsX_own own2 z1
  have hbd := bad_any b a n cap hn x S c hSp w2 hs2 hX2
  have z2 := hs2.lt
  clear hd hg2 RA1 B1 own2 z1 hs2 hX2
  go_wp2_with fail
  refine hbd.mono ?_
  rintro e w3 ⟨ax, T, cx, rfl, hX3, hT, hs3, hg3⟩
  have RA3 := row_g RA2 hg3 (by simp; omega)
  have B3 := below_g B2 (by omega) hg3 (by omega)
  have hnr := near_any b a n cap hn 8 (by omega) w3 hs3
  have z3 := hs3.lt
  clear hbd hg3 RA2 B2 z2 hs3
  go_wp2_with fail
  refine hnr.mono ?_
  rintro e w5 ⟨y, rfl, hy, hs5, hg5⟩
  have RA5 := row_g RA3 hg5 (by simp; omega)
  have hX5 := hX3.grown hg5
  have B5 := below_g B3 (by omega) hg5 (by omega)
  clear hnr hg5 RA3 hX3 B3 z3
  obtain ⟨u5, hu5⟩ : ∃ u, u = w5.alloc (.cells #[.int .i64 0, .int .i64 1, .int .i64 1, .int .i64 1, .int .i64 2, .int .i64 y] 2) := ⟨_, rfl⟩
  have RA6 : u5.heap[A]? = some (.cells #[.slice none 0 0] 26 (0, 0)) := by rw [hu5]; exact row_g RA5 (World.grownBy_alloc w5 _ none) (by simp)
  have hs6 : Src u5 b a n cap := by rw [hu5]; exact hs5.alloc _
  have hX6 : IntsX b u5 ax T := by rw [hu5]; exact hX5.below (B := 0) ((Below.refl _ _).alloc (Nat.le_refl _) _)
  have B6 : Below A w u5 := by rw [hu5]; exact B5.alloc (by have := hs5.lt; omega) _
  have I6 : Ints u5 (some ⟨w5.heap.size, 0, none⟩) [0, 1, 1, 1, 2, y] := by rw [hu5]; exact ints_new w5 _ _
  have hp6 := pick_n b a n cap hn w5.heap.size _ 6 rfl (by omega) (by omega) (by have := hs5.lt; omega) u5 hs6 I6
  have HU5 := Lib.hid hu5
  clear hu5 I6 RA5 hX5 B5 hs5
  go_wp2_with fail
  rw [← HU5.out]
  refine hp6.mono ?_
  rintro e w7 ⟨r, rfl, hr, hs7, hg7⟩
  replace hr : -9223372036854775808 ≤ r ∧ r ≤ 9223372036854775807 := by simp only [List.mem_cons, List.not_mem_nil, or_false] at hr; omega
  have RA7 := row_g RA6 hg7 (by simp; omega)
  have hX7 := hX6.grown hg7
  have B7 := below_g B6 (by have := hs6.lt; omega) hg7 (by omega)
  clear hp6 hg7 RA6 hX6 B6 hs6
  have xA7 := cell_of1' RA7
  have fA7 := frozen_of_row w7 A 0 _ _ RA7
  have zA7 := row_lt RA7
  have hAx : ∀ g o, ax = some ⟨g, o, none⟩ → g ≠ A := fun g o e => by have := hX7.2 g o e; omega
  go_wp2_with fail
  refine bodyPost_ret (by rw [results_cell_tmp1g rfl]; go_simp; try rfl) rfl ?_
  exact ⟨ax, T, cx, r, rfl, (hX7.set _ _ hAx).1, (fun g o e => by have := hX7.2 g o e; have := HA.out; omega), hT, hr, by rw [← HA.out]; exact B7.setCell (by simp) _⟩

end Go.Proofs.Ytlhapanfegjafaa

namespace Go.Proofs.Ytlhapanfegjafaa
open Go.RowKit Cv
set_option linter.unusedVariables false
set_option linter.unusedSimpArgs false
set_option maxRecDepth 100000

theorem results_cell_tmp3 {fn : Func} {p u1 u2 u3 : Tmp} {ty : TypeId} (h : fn.results = #[.cell p ty, .tmp u1, .tmp u2, .tmp u3]) (tmps : Array Value) (P : Program) (w : World) :
    (results fn tmps).run P w =
      ((asAddr (tmps.getD p undef)).run P w).andThen fun a w₁ => ((loadVar ty a).run P w₁).andThen fun v w₂ => .ok (.tuple #[v, tmps.getD u1 undef, tmps.getD u2 undef, tmps.getD u3 undef]) w₂ := by
  simp only [results, h]
  simp [Sem.run_bind, Result.andThen]

set_option maxHeartbeats 4000000 in
theorem drawTimes_any (a : Option Addr) (n cap : Nat) (hn : n ≤ 4096) (w : World) (hY : Byts w w.heap.size a n) :
    Calls Try.prog 11 #[.slice a n cap] w fun e w' => ∃ ax T cx g cg F x r, e = .returned (.tuple #[.agg #[.slice ax T.length cx], .slice (some ⟨g, 0, none⟩) F.length cg, .int .i64 x, .int .i64 r]) ∧ Ints w' ax T ∧ (∀ g o, ax = some ⟨g, o, none⟩ → w.heap.size ≤ g) ∧ T.length ≤ 8 ∧ OwnInts w' w.heap.size (.slice (some ⟨g, 0, none⟩) F.length cg) F ∧ F.length ≤ 1048577 ∧ (-9223372036854775808 ≤ x ∧ x ≤ 9223372036854775807) ∧ (-9223372036854775808 ≤ r ∧ r ≤ 9223372036854775807) ∧ Below w.heap.size w w' := by
  obtain ⟨A, hA⟩ : ∃ A, A = w.heap.size := ⟨_, rfl⟩
  obtain ⟨W, hW⟩ : ∃ W, W = w.alloc (.cells #[.slice none 0 0] 26) := ⟨_, rfl⟩
  have zW : W.heap.size = A + 1 := by rw [hW, hA]; simp
  have RA0 : W.heap[A]? = some (.cells #[.slice none 0 0] 26 (0, 0)) := by rw [hW, hA]; exact heap_alloc_new w _
  have B0 : Below A w W := by rw [hW, hA]; exact (Below.refl _ w).alloc (Nat.le_refl _) _
  have hY0 : Byts W W.heap.size a n := by rw [zW]; exact ((hY.mono (by omega)).keep fun b o v hb h => by rw [hW]; exact kept_cell ((Below.refl w.heap.size w).alloc (Nat.le_refl _) _) h (by have := World.block_lt_of_cell? w _ h; exact this))
  have hfr := from_any a n cap hn W hY0
  have HA := Lib.hid hA
  have HW := Lib.hid hW
  obtain ⟨b, hb⟩ : ∃ b, b = W.heap.size := ⟨_, rfl⟩
  rw [← hb] at hfr hY0
  have hbA : b = A + 1 := by omega
  have HB := Lib.hid hb
  clear hA hW
  go_enter Try.func11, Try.ntmps11
  go_wp2_with fail
  rw [← HW.out, ← HA.out]
  refine hfr.mono ?_
  rintro e w1 ⟨rfl, hs1, hb1⟩
  rw [hb] at hb1
  have RA1 := row_g RA0 (grown_of_below hb1 none) (by simp)
  have B1 : Below A w w1 := B0.trans (hb1.mono (by omega))
  have zb1 := hs1.lt
  have hY1 : Byts w1 w1.heap.size a n := (hY0.keep fun b' o v hb' h => kept_cell hb1 h (by omega)).mono (by omega)
  have hAb : A < b := by omega
  have hd := l02Word_any a n cap hn w1 hY1
  clear hfr hb1 RA0 B0 hb zW hbA hY hY0 hY1
  go_wp2_with fail
  refine hd.mono ?_
  rintro e w2 ⟨ax, T, cx, g, cg, E, r0, rfl, hI, hax, hT, ownE, hE, hr0, hb2⟩
  have RA2 := row_g RA1 (grown_of_below hb2 none) (by simp)
  have B2 : Below A w w2 := B1.trans (hb2.mono (by omega))
  have hs2 := hs1.below hb2 zb1
  have hX2 : IntsX b w2 ax T := ⟨hI, fun g o e => by have := hax g o e; omega⟩
  have hgz : w1.heap.size ≤ g := ownBlock_ge5 ownE rfl
  have hbg : b < g := by omega
  have hgz2 : g < w2.heap.size := ownE.base_le.2
  have z1 := B1.size
  have owE := ownE.rebase (base' := w.heap.size) (by have := HA.out; omega)
  clear hd hb2 RA1 B1 hs1 hI ownE hax
  obtain ⟨X, hX⟩ : ∃ X, X = w2.heap.size := ⟨_, rfl⟩
  obtain ⟨W3, hW3⟩ : ∃ W3, W3 = w2.alloc (.cells #[.slice ax T.length cx] 26) := ⟨_, rfl⟩
  have RX3 : W3.heap[X]? = some (.cells #[.slice ax T.length cx] 26 (0, 0)) := by rw [hW3, hX]; exact heap_alloc_new _ _
  have RA3 : W3.heap[A]? = some (.cells #[.slice none 0 0] 26 (0, 0)) := by rw [hW3]; exact row_g RA2 (World.grownBy_alloc w2 _ none) (by simp)
  have hs3 : Src W3 b a n cap := by rw [hW3]; exact hs2.alloc _
  have hX3 : IntsX b W3 ax T := by rw [hW3]; exact hX2.below (B := 0) ((Below.refl _ _).alloc (Nat.le_refl _) _)
  have B3 : Below A w W3 := by rw [hW3]; exact B2.alloc (by omega) _
  have own3 : OwnInts W3 w.heap.size (.slice (some ⟨g, 0, none⟩) E.length cg) E := by rw [hW3]; exact owE.alloc _
  rw [← hX] at hgz2
  have zbX : b < X := by omega
  have zAX : A < X := by omega
  have HX := Lib.hid hX
  have HW3 := Lib.hid hW3
  clear RA2 B2 hX2 hs2 hX hW3 owE z1 zb1
  go_wp2_with fail
  rw [← HW3.out, ← HX.out]
  refine wp_region_held_drew (S := fun w' => w'.cell? ⟨X, 0, none⟩ = some (.slice ax T.length cx)) (by kernel_rfl) (cell_of1' RX3) (fun hHeld => ?_)
  refine wpAnyH_take (i := 0) (v := ?_) rfl (by kernel_rfl) (by kernel_rfl) (by kernel_rfl) (fun _ _ _ h => h) (Or.inl ⟨by rfl, ?_⟩) (by assumption) ?_
  rotate_left
  · (intro w hSw; (try dsimp only at hSw); go_simp; try (with_reducible rfl))
  (try simp only [Act.put, List.setIfInBounds_toArray, List.set_cons_zero, List.set_cons_succ])
  refine wpAnyH_take (i := 1) (v := ?_) rfl (by kernel_rfl) (by kernel_rfl) (by kernel_rfl) (fun _ _ _ h => h) (Or.inl ⟨by rfl, ?_⟩) (by assumption) ?_
  rotate_left
  · (intro w hSw; (try dsimp only at hSw); go_simp; try (with_reducible rfl))
  (try simp only [Act.put, List.setIfInBounds_toArray, List.set_cons_zero, List.set_cons_succ])
  refine wpAnyH_take (i := 2) (v := ?_) rfl (by kernel_rfl) (by kernel_rfl) (by kernel_rfl) (fun _ _ _ h => h) (Or.inl ⟨by rfl, ?_⟩) (by assumption) ?_
  rotate_left
  · (intro w hSw; (try dsimp only at hSw); go_simp; try (with_reducible rfl))
  (try simp only [Act.put, List.setIfInBounds_toArray, List.set_cons_zero, List.set_cons_succ])
  refine wpAnyH_take (i := 3) (v := ?_) rfl (by kernel_rfl) (by kernel_rfl) (by kernel_rfl) (fun _ _ _ h => h) (Or.inl ⟨by rfl, ?_⟩) (by assumption) ?_
  rotate_left
  · (intro w hSw; (try dsimp only at hSw); go_simp; try (with_reducible rfl))
  (try simp only [Act.put, List.setIfInBounds_toArray, List.set_cons_zero, List.set_cons_succ])
  refine wpAnyH_take (i := 4) (v := ?_) rfl (by kernel_rfl) (by kernel_rfl) (by kernel_rfl) (fun _ _ _ h => h) (Or.inl ⟨by rfl, ?_⟩) (by assumption) ?_
  rotate_left
  · (intro w hSw; (try dsimp only at hSw); go_simp; try (with_reducible rfl))
  (try simp only [Act.put, List.setIfInBounds_toArray, List.set_cons_zero, List.set_cons_succ])
  have RXD : W3.drew.heap[X]? = some (.cells #[.slice ax T.length cx] 26 (0, 0)) := RX3
  have RAD : W3.drew.heap[A]? = some (.cells #[.slice none 0 0] 26 (0, 0)) := RA3
  have hsD : Src W3.drew b a n cap := hs3.drewN 1
  have hXD : IntsX b W3.drew ax T := hX3
  have ownD := own3.drew
  have BD : Below A w W3.drew := B3.drew
  refine wpAnyH_ready (rs := [5]) (by kernel_rfl) (by simp) ?_
  refine AllReadyH.cons rfl (fun K hK => ?_) AllReadyH.nil
  go_simp
  (go_at_call 30; refine (near_any b a n cap hn 8 (by omega) W3.drew hsD).mono ?_)
  rintro e uQ ⟨y, rfl, hy, hsQ, hgQ⟩
  have RXQ := row_g RXD hgQ (by simp; omega)
  have RAQ := row_g RAD hgQ (by simp; omega)
  have hXQ := hXD.grown hgQ
  have BQ := below_g BD (by have := hsD.lt; omega) hgQ (by omega)
  have ownQ := ownD.kept hgQ (.inr (by simp [Value.ownBlock]; omega))
  refine hK.out _ _ (cell_of1' RXQ) (fun hHeld => ?_)
  clear hK K
  (try simp only [Act.put, List.setIfInBounds_toArray, List.set_cons_zero, List.set_cons_succ])
  refine wpAnyH_ready (rs := [6]) (by kernel_rfl) (by simp) ?_
  refine AllReadyH.cons rfl (fun K hK => ?_) AllReadyH.nil
  go_simp
  have RX6 := row_g RXQ (World.grownBy_alloc uQ (.cells #[.int .i64 0, .int .i64 1, .int .i64 2, .int .i64 y] 2) none) (by simp)
  have RA6 := row_g RAQ (World.grownBy_alloc uQ (.cells #[.int .i64 0, .int .i64 1, .int .i64 2, .int .i64 y] 2) none) (by simp)
  have hs6 := hsQ.alloc (.cells #[.int .i64 0, .int .i64 1, .int .i64 2, .int .i64 y] 2)
  have hX6 := hXQ.below (B := 0) ((Below.refl _ uQ).alloc (Nat.le_refl _) (.cells #[.int .i64 0, .int .i64 1, .int .i64 2, .int .i64 y] 2))
  have B6 := BQ.alloc (by have := hsQ.lt; omega) (.cells #[.int .i64 0, .int .i64 1, .int .i64 2, .int .i64 y] 2)
  have own6 := ownQ.alloc (.cells #[.int .i64 0, .int .i64 1, .int .i64 2, .int .i64 y] 2)
  have I6 : Ints (uQ.alloc (.cells #[.int .i64 0, .int .i64 1, .int .i64 2, .int .i64 y] 2)) (some ⟨uQ.heap.size, 0, none⟩) [0, 1, 2, y] := ints_new uQ _ _
  refine hK.out _ _ (cell_of1' RX6) (fun hHeld => ?_)
  clear hK K
  (try simp only [Act.put, List.setIfInBounds_toArray, List.set_cons_zero, List.set_cons_succ])
  refine wpAnyH_ready (rs := [7]) (by kernel_rfl) (by simp) ?_
  refine AllReadyH.cons rfl (fun K hK => ?_) AllReadyH.nil
  go_simp
  (go_at_call 29; refine (pick_n b a n cap hn uQ.heap.size _ 4 rfl (by omega) (by omega) (by have := hsQ.lt; omega) _ hs6 I6).mono ?_)
  rintro e uP ⟨r, rfl, hr, hsP, hgP⟩
  replace hr : -9223372036854775808 ≤ r ∧ r ≤ 9223372036854775807 := by simp only [List.mem_cons, List.not_mem_nil, or_false] at hr; omega
  have RXP := row_g RX6 hgP (by simp; omega)
  have RAP := row_g RA6 hgP (by simp; omega)
  have hXP := hX6.grown hgP
  have BP := below_g B6 (by have := hs6.lt; omega) hgP (by omega)
  have ownP := own6.kept hgP (.inr (by simp [Value.ownBlock]; omega))
  refine hK.out _ _ (cell_of1' RXP) (fun hHeld => ?_)
  clear hK K
  (try simp only [Act.put, List.setIfInBounds_toArray, List.set_cons_zero, List.set_cons_succ])
  refine wpAnyH_ready (rs := [8]) (by kernel_rfl) (by simp) ?_
  refine AllReadyH.cons rfl (fun K hK => ?_) AllReadyH.nil
  have xAe := cell_of1' RAP
  have fAe := frozen_of_row uP A 0 _ _ RAP
  go_simp
  have hAx : ∀ g o, ax = some ⟨g, o, none⟩ → g ≠ A := fun g o e => by have := hXP.2 g o e; omega
  have HIe : Ints (uP.setCell ⟨A, 0, none⟩ (.slice ax T.length cx)) ax T := ints_setA hXP.1 hAx
  have owne := own_setO ownP A (fun e => by simp [Value.ownBlock] at e; omega) (.slice ax T.length cx)
  have Be : Below A w (uP.setCell ⟨A, 0, none⟩ (.slice ax T.length cx)) := BP.setCell (by simp) _
  refine hK.out _ _ (show (uP.setCell ⟨A, 0, none⟩ (.slice ax T.length cx)).cell? ⟨X, 0, none⟩ = _ from cell_set_other (cell_of1' RXP) (by simp; omega)) (fun hHeld => ?_)
  clear hK K
  (try simp only [Act.put, List.setIfInBounds_toArray, List.set_cons_zero, List.set_cons_succ])
  have zAe := row_lt RAP
  refine wpAnyH_take (i := 9) (v := ?_) rfl (by kernel_rfl) (by kernel_rfl) (by kernel_rfl) (fun _ _ _ h => h) (Or.inl ⟨by rfl, ?_⟩) (by assumption) ?_
  rotate_left
  · (intro w hSw; (try dsimp only at hSw); go_simp; try (with_reducible rfl))
  (try simp only [Act.put, List.setIfInBounds_toArray, List.set_cons_zero, List.set_cons_succ])
  refine wpAnyH_take (i := 10) (v := ?_) rfl (by kernel_rfl) (by kernel_rfl) (by kernel_rfl) (fun _ _ _ h => h) (Or.inl ⟨by rfl, ?_⟩) (by assumption) ?_
  rotate_left
  · (intro w hSw; (try dsimp only at hSw); go_simp; try (with_reducible rfl))
  (try simp only [Act.put, List.setIfInBounds_toArray, List.set_cons_zero, List.set_cons_succ])
  refine wpAnyH_take (i := 11) (v := ?_) rfl (by kernel_rfl) (by kernel_rfl) (by kernel_rfl) (fun _ _ _ h => h) (Or.inl ⟨by rfl, ?_⟩) (by assumption) ?_
  rotate_left
  · (intro w hSw; (try dsimp only at hSw); go_simp; try (with_reducible rfl))
  (try simp only [Act.put, List.setIfInBounds_toArray, List.set_cons_zero, List.set_cons_succ])
  refine wpAnyH_done (by kernel_rfl) ?_ _
  (try simp only [List.getElem_toArray, List.getElem_cons_succ, List.getElem_cons_zero, Act.put, List.setIfInBounds_toArray, List.set_cons_zero, List.set_cons_succ])
  go_wp2_with fail
  refine bodyPost_ret (by rw [results_cell_tmp3 rfl]; go_simp; try rfl) rfl ?_
  exact ⟨ax, T, cx, g, cg, E, r0, r, rfl, HIe, (fun g o e => by have := hXP.2 g o e; have := HA.out; omega), hT, owne, hE, hr0, hr, by rw [← HA.out]; exact Be⟩

end Go.Proofs.Ytlhapanfegjafaa

namespace Go.Proofs.Ytlhapanfegjafaa
open Go.RowKit Cv
set_option linter.unusedVariables false
set_option linter.unusedSimpArgs false
set_option maxRecDepth 100000

set_option maxHeartbeats 4000000 in
theorem drawCovC_any (a : Option Addr) (n cap : Nat) (hn : n ≤ 4096) (w : World) (hY : Byts w w.heap.size a n) :
    Calls Try.prog 5 #[.slice a n cap] w fun e w' => ∃ ax T cx g cg F r, e = .returned (.tuple #[.agg #[.slice ax T.length cx], .slice (some ⟨g, 0, none⟩) F.length cg, .int .i64 r]) ∧ Ints w' ax T ∧ (∀ g o, ax = some ⟨g, o, none⟩ → w.heap.size ≤ g) ∧ T.length ≤ 8 ∧ OwnInts w' w.heap.size (.slice (some ⟨g, 0, none⟩) F.length cg) F ∧ F.length ≤ 1048577 ∧ (-9223372036854775808 ≤ r ∧ r ≤ 9223372036854775807) ∧ Below w.heap.size w w' := by
  obtain ⟨A, hA⟩ : ∃ A, A = w.heap.size := ⟨_, rfl⟩
  obtain ⟨W, hW⟩ : ∃ W, W = w.alloc (.cells #[.slice none 0 0] 26) := ⟨_, rfl⟩
  have zW : W.heap.size = A + 1 := by rw [hW, hA]; simp
  have RA0 : W.heap[A]? = some (.cells #[.slice none 0 0] 26 (0, 0)) := by rw [hW, hA]; exact heap_alloc_new w _
  have B0 : Below A w W := by rw [hW, hA]; exact (Below.refl _ w).alloc (Nat.le_refl _) _
  have hY0 : Byts W W.heap.size a n := by rw [zW]; exact ((hY.mono (by omega)).keep fun b o v hb h => by rw [hW]; exact kept_cell ((Below.refl w.heap.size w).alloc (Nat.le_refl _) _) h (by have := World.block_lt_of_cell? w _ h; exact this))
  have hc := l02With_any a n cap hn W hY0
  have HA := Lib.hid hA
  have HW := Lib.hid hW
  clear hA hW hY0
  go_enter Try.func5, Try.ntmps5
  go_wp2_with fail
  rw [← HW.out, ← HA.out]
  refine hc.mono ?_
  rintro e w1 ⟨ax, T, cx, g, cg, E, r, rfl, hI, hax, hT, ownE, hE, hr, hb1⟩
  have RA1 := row_g RA0 (grown_of_below hb1 none) (by simp)
  have B1 : Below A w w1 := B0.trans (hb1.mono (by omega))
  have hax' : ∀ g o, ax = some ⟨g, o, none⟩ → A + 1 ≤ g := fun g o e => by have := hax g o e; omega
  have hgA : A + 1 ≤ g := by have : W.heap.size ≤ g := ownBlock_ge5 ownE rfl; omega
  have ownW := ownE.rebase (base' := w.heap.size) (by have := HA.out; omega)
  have hAx : ∀ g o, ax = some ⟨g, o, none⟩ → g ≠ A := fun g o e => by have := hax' g o e; omega
  clear hc hb1 RA0 B0 hax ownE zW
  have xA := cell_of1' RA1
  have fA := frozen_of_row w1 A 0 _ _ RA1
  have zA := row_lt RA1
  have HIe : Ints (w1.setCell ⟨A, 0, none⟩ (.slice ax T.length cx)) ax T := ints_setA hI hAx
  have owne := own_setO ownW A (fun e => by simp [Value.ownBlock] at e; omega) (.slice ax T.length cx)
  have Be : Below A w (w1.setCell ⟨A, 0, none⟩ (.slice ax T.length cx)) := B1.setCell (by simp) _
  go_wp2_with fail
  refine bodyPost_ret (by rw [results_cell_tmp2w rfl]; go_simp; try rfl) rfl ?_
  exact ⟨ax, T, cx, g, cg, E, r, rfl, HIe, (fun g o e => by have := hax' g o e; have := HA.out; omega), hT, owne, hE, hr, by rw [← HA.out]; exact Be⟩

end Go.Proofs.Ytlhapanfegjafaa
