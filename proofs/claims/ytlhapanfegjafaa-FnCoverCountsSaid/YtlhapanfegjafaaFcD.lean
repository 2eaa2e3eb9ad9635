/-
  Merged texts: Drw8, Drw9, DrwL. Never import this beside one of them. By an AI agent.
-/
import Derived.Test.YtlhapanfegjafaaDrw7
import Derived.Test.YtlhapanfegjafaaFcC
namespace Go.Proofs.Ytlhapanfegjafaa
open Go.RowKit Cv
set_option linter.unusedVariables false
set_option linter.unusedSimpArgs false
set_option maxRecDepth 100000

theorem l02With_any (a : Option Addr) (n cap : Nat) (hn : n ≤ 4096) (w : World) (hY : Byts w w.heap.size a n) :
    Calls Try.prog 22 #[.slice a n cap] w fun e w' => ∃ ax T cx g cg F r, e = .returned (.tuple #[.agg #[.slice ax T.length cx], .slice (some ⟨g, 0, none⟩) F.length cg, .int .i64 r]) ∧ Ints w' ax T ∧ (∀ g o, ax = some ⟨g, o, none⟩ → w.heap.size ≤ g) ∧ T.length ≤ 8 ∧ OwnInts w' w.heap.size (.slice (some ⟨g, 0, none⟩) F.length cg) F ∧ F.length ≤ 1048577 ∧ (-9223372036854775808 ≤ r ∧ r ≤ 9223372036854775807) ∧ Below w.heap.size w w' :=
  l02With_of (fun ao S cap r w hSp h1 h8 hS => (spec_GreedyCode ao S cap (by have := hSp.hi; omega) r (by omega) w hS).mono fun e w' ⟨v, he, ho, hb⟩ => ⟨v, vGr S r, _, he, ho, vGr_len S r, hb⟩) a n cap hn w hY

set_option maxHeartbeats 8000000 in
theorem l02Word_any (a : Option Addr) (n cap : Nat) (hn : n ≤ 4096) (w : World) (hY : Byts w w.heap.size a n) :
    Calls Try.prog 28 #[.slice a n cap] w fun e w' => ∃ ax T cx g cg F r, e = .returned (.tuple #[.agg #[.slice ax T.length cx], .slice (some ⟨g, 0, none⟩) F.length cg, .int .i64 r]) ∧ Ints w' ax T ∧ (∀ g o, ax = some ⟨g, o, none⟩ → w.heap.size ≤ g) ∧ T.length ≤ 8 ∧ OwnInts w' w.heap.size (.slice (some ⟨g, 0, none⟩) F.length cg) F ∧ F.length ≤ 1048577 ∧ (-9223372036854775808 ≤ r ∧ r ≤ 9223372036854775807) ∧ Below w.heap.size w w' := by
  obtain ⟨A, hA⟩ : ∃ A, A = w.heap.size := ⟨_, rfl⟩
  obtain ⟨W, hW⟩ : ∃ W, W = w.alloc (.cells #[.slice none 0 0] 26) := ⟨_, rfl⟩
  have zW : W.heap.size = A + 1 := by rw [hW, hA]; simp
  have RA0 : W.heap[A]? = some (.cells #[.slice none 0 0] 26 (0, 0)) := by rw [hW, hA]; exact heap_alloc_new w _
  have B0 : Below A w W := by rw [hW, hA]; exact (Below.refl _ w).alloc (Nat.le_refl _) _
  have hY0 : Byts W W.heap.size a n := by rw [zW]; exact ((hY.mono (by omega)).keep fun b o v hb h => by rw [hW]; exact kept_cell ((Below.refl w.heap.size w).alloc (Nat.le_refl _) _) h (by have := World.block_lt_of_cell? w _ h; exact this))
  have hfr := from_any a n cap hn W hY0
  have HA := Lib.hid hA
  have HW := Lib.hid hW
  obtain ⟨b, hb⟩ : ∃ b, b = W.heap.size := ⟨_, rfl⟩
  rw [← hb] at hfr hY0
  have hbA : b = A + 1 := by omega
  have HB := Lib.hid hb
  clear hA hW
  go_enter Try.func28, Try.ntmps28
  go_wp2_with fail
  rw [← HW.out, ← HA.out]
  refine hfr.mono ?_
  rintro e w1 ⟨rfl, hs1, hb1⟩
  rw [hb] at hb1
  have RA1 := row_g RA0 (grown_of_below hb1 none) (by simp)
  have B1 : Below A w w1 := B0.trans (hb1.mono (by omega))
  have zb1 := hs1.lt
  have hY1 : Byts w1 w1.heap.size a n := (hY0.keep fun b' o v hb' h => kept_cell hb1 h (by omega)).mono (by omega)
  have hAb : A < b := by omega
  have hd := l02With_any a n cap hn w1 hY1
  clear hfr hb1 RA0 B0 hb zW hbA hY hY0 hY1
  go_wp2_with fail
  refine hd.mono ?_
  rintro e w2 ⟨ax, T, cx, g, cg, E, r0, rfl, hI, hax, hT, ownE, hE, _, hb2⟩
  have RA2 := row_g RA1 (grown_of_below hb2 none) (by simp)
  have B2 : Below A w w2 := B1.trans (hb2.mono (by omega))
  have hs2 := hs1.below hb2 zb1
  have hX2 : IntsX b w2 ax T := ⟨hI, fun g o e => by have := hax g o e; omega⟩
  have hgz : w1.heap.size ≤ g := ownBlock_ge5 ownE rfl
  have hbg : b < g := by omega
  have hgz2 : g < w2.heap.size := ownE.base_le.2
  have z1 := B1.size
  have owE := ownE.rebase (base' := w.heap.size) (by have := HA.out; omega)
  clear hd hb2 RA1 B1 hs1 hI ownE hax
  obtain ⟨X, hX⟩ : ∃ X, X = w2.heap.size := ⟨_, rfl⟩
  obtain ⟨W3, hW3⟩ : ∃ W3, W3 = w2.alloc (.cells #[.slice ax T.length cx] 26) := ⟨_, rfl⟩
  have RX3 : W3.heap[X]? = some (.cells #[.slice ax T.length cx] 26 (0, 0)) := by rw [hW3, hX]; exact heap_alloc_new _ _
  have RA3 : W3.heap[A]? = some (.cells #[.slice none 0 0] 26 (0, 0)) := by rw [hW3]; exact row_g RA2 (World.grownBy_alloc w2 _ none) (by simp)
  have hs3 : Src W3 b a n cap := by rw [hW3]; exact hs2.alloc _
  have hX3 : IntsX b W3 ax T := by rw [hW3]; exact hX2.below (B := 0) ((Below.refl _ _).alloc (Nat.le_refl _) _)
  have B3 : Below A w W3 := by rw [hW3]; exact B2.alloc (by omega) _
  have own3 : OwnInts W3 w.heap.size (.slice (some ⟨g, 0, none⟩) E.length cg) E := by rw [hW3]; exact owE.alloc _
  rw [← hX] at hgz2
  have zbX : b < X := by omega
  have zAX : A < X := by omega
  have HX := Lib.hid hX
  have HW3 := Lib.hid hW3
  clear RA2 B2 hX2 hs2 hX hW3 owE z1 zb1
  have hIs := l01Is_any ax T cx W3 (by omega) hX3.1
  have xX3 := cell_of1' RX3
  go_wp2_with fail
  rw [← HW3.out, ← HX.out]
  refine hIs.mono ?_
  rintro e w4 ⟨rfl, hb4⟩
  have RX4 := row_g RX3 (grown_of_below hb4 none) (by simp)
  have RA4 := row_g RA3 (grown_of_below hb4 none) (by simp)
  have hs4 := hs3.below hb4 hs3.lt
  have hX4 := hX3.below (B := 0) hb4
  have own4 := own3.below hb4
  have B4 := B3.trans (hb4.mono (by have := hs3.lt; omega))
  clear hIs hb4 RX3 RA3 hX3 B3 hs3 own3 xX3
  have xX4 := cell_of1' RX4
  cases hq : isSp T with
  | true =>
    have hSp : Sp T := (isSp_iff T).1 hq
    obtain ⟨N1, N2⟩ := nW_bd hSp
    have hN := l01N_any ax T cx w4 hSp.hi hSp.bd hX4.1
    obtain ⟨M, hM⟩ : ∃ M, M = prodTo T T.length := ⟨_, rfl⟩
    unfold nW at N1 N2
    rw [← hM] at N1 N2
    have EN : IntKind.i64.wrap (M - 1) = M - 1 := IntWalk.i64_in _ ⟨by omega, by omega⟩
    try unfold nW at hN
    rw [← hM] at hN
    clear hM hSp hq
    go_wp2_with fail
    refine hN.mono ?_
    rintro e w5 ⟨rfl, hb5⟩
    have RX5 := row_g RX4 (grown_of_below hb5 none) (by simp)
    have RA5 := row_g RA4 (grown_of_below hb5 none) (by simp)
    have hs5 := hs4.below hb5 hs4.lt
    have hX5 := hX4.below (B := 0) hb5
    have own5 := own4.below hb5
    have B5 := B4.trans (hb5.mono (by have := hs4.lt; omega))
    clear hN hb5 RX4 RA4 hX4 B4 hs4 own4 xX4
    go_wp2_with fail
    refine wp_region_held_drew (S := fun w' => w'.cell? ⟨X, 0, none⟩ = some (.slice ax T.length cx)) (by kernel_rfl) (cell_of1' RX5) (fun hHeld => ?_)
    refine wpAnyH_take (i := 0) (v := ?_) rfl (by kernel_rfl) (by kernel_rfl) (by kernel_rfl) (fun _ _ _ h => h) (Or.inl ⟨by rfl, ?_⟩) (by assumption) ?_
    rotate_left
    · (intro w hSw; (try dsimp only at hSw); go_simp; try (with_reducible rfl))
    (try simp only [Act.put, List.setIfInBounds_toArray, List.set_cons_zero, List.set_cons_succ])
    refine wpAnyH_take (i := 1) (v := ?_) rfl (by kernel_rfl) (by kernel_rfl) (by kernel_rfl) (fun _ _ _ h => h) (Or.inl ⟨by rfl, ?_⟩) (by assumption) ?_
    rotate_left
    · (intro w hSw; (try dsimp only at hSw); go_simp; try (with_reducible rfl))
    (try simp only [Act.put, List.setIfInBounds_toArray, List.set_cons_zero, List.set_cons_succ])
    refine wpAnyH_take (i := 2) (v := ?_) rfl (by kernel_rfl) (by kernel_rfl) (by kernel_rfl) (fun _ _ _ h => h) (Or.inl ⟨by rfl, ?_⟩) (by assumption) ?_
    rotate_left
    · (intro w hSw; (try dsimp only at hSw); go_simp; try (with_reducible rfl))
    (try simp only [Act.put, List.setIfInBounds_toArray, List.set_cons_zero, List.set_cons_succ])
    refine wpAnyH_take (i := 3) (v := ?_) rfl (by kernel_rfl) (by kernel_rfl) (by kernel_rfl) (fun _ _ _ h => h) (Or.inl ⟨by rfl, ?_⟩) (by assumption) ?_
    rotate_left
    · (intro w hSw; (try dsimp only at hSw); go_simp; try (with_reducible rfl))
    (try simp only [Act.put, List.setIfInBounds_toArray, List.set_cons_zero, List.set_cons_succ])
    have RXD : w5.drew.heap[X]? = some (.cells #[.slice ax T.length cx] 26 (0, 0)) := RX5
    have RAD : w5.drew.heap[A]? = some (.cells #[.slice none 0 0] 26 (0, 0)) := RA5
    have hsD : Src w5.drew b a n cap := hs5.drewN 1
    have hXD : IntsX b w5.drew ax T := hX5
    have ownD := own5.drew
    have BD : Below A w w5.drew := B5.drew
    refine wpAnyH_ready (rs := [4]) (by kernel_rfl) (by simp) ?_
    refine AllReadyH.cons rfl (fun K hK => ?_) AllReadyH.nil
    go_simp
    (go_at_call 30; refine (near_any b a n cap hn (M - 1) (by omega) w5.drew hsD).mono ?_)
    rintro e uQ ⟨y, rfl, hy, hsQ, hgQ⟩
    have RXQ := row_g RXD hgQ (by simp; omega)
    have RAQ := row_g RAD hgQ (by simp; omega)
    have hXQ := hXD.grown hgQ
    have BQ := below_g BD (by have := hsD.lt; omega) hgQ (by omega)
    have ownQ := ownD.kept hgQ (.inr (by simp [Value.ownBlock]; omega))
    refine hK.out _ _ (cell_of1' RXQ) (fun hHeld => ?_)
    clear hK K
    (try simp only [Act.put, List.setIfInBounds_toArray, List.set_cons_zero, List.set_cons_succ])
    refine wpAnyH_ready (rs := [5]) (by kernel_rfl) (by simp) ?_
    refine AllReadyH.cons rfl (fun K hK => ?_) AllReadyH.nil
    have xAe := cell_of1' RAQ
    have fAe := frozen_of_row uQ A 0 _ _ RAQ
    go_simp
    have hAx : ∀ g o, ax = some ⟨g, o, none⟩ → g ≠ A := fun g o e => by have := hXQ.2 g o e; omega
    have HIe : Ints (uQ.setCell ⟨A, 0, none⟩ (.slice ax T.length cx)) ax T := ints_setA hXQ.1 hAx
    have owne := own_setO ownQ A (fun e => by simp [Value.ownBlock] at e; omega) (.slice ax T.length cx)
    have Be : Below A w (uQ.setCell ⟨A, 0, none⟩ (.slice ax T.length cx)) := BQ.setCell (by simp) _
    refine hK.out _ _ (show (uQ.setCell ⟨A, 0, none⟩ (.slice ax T.length cx)).cell? ⟨X, 0, none⟩ = _ from cell_set_other (cell_of1' RXQ) (by simp; omega)) (fun hHeld => ?_)
    clear hK K
    (try simp only [Act.put, List.setIfInBounds_toArray, List.set_cons_zero, List.set_cons_succ])
    have zAe := row_lt RAQ
    refine wpAnyH_take (i := 6) (v := ?_) rfl (by kernel_rfl) (by kernel_rfl) (by kernel_rfl) (fun _ _ _ h => h) (Or.inl ⟨by rfl, ?_⟩) (by assumption) ?_
    rotate_left
    · (intro w hSw; (try dsimp only at hSw); go_simp; try (with_reducible rfl))
    (try simp only [Act.put, List.setIfInBounds_toArray, List.set_cons_zero, List.set_cons_succ])
    refine wpAnyH_take (i := 7) (v := ?_) rfl (by kernel_rfl) (by kernel_rfl) (by kernel_rfl) (fun _ _ _ h => h) (Or.inl ⟨by rfl, ?_⟩) (by assumption) ?_
    rotate_left
    · (intro w hSw; (try dsimp only at hSw); go_simp; try (with_reducible rfl))
    (try simp only [Act.put, List.setIfInBounds_toArray, List.set_cons_zero, List.set_cons_succ])
    refine wpAnyH_done (by kernel_rfl) ?_ _
    (try simp only [List.getElem_toArray, List.getElem_cons_succ, List.getElem_cons_zero, Act.put, List.setIfInBounds_toArray, List.set_cons_zero, List.set_cons_succ])
    go_wp2_with fail
    refine bodyPost_ret (by rw [results_cell_tmp2w rfl]; go_simp; try rfl) rfl ?_
    exact ⟨ax, T, cx, g, cg, E, y, rfl, HIe, (fun g o e => by have := hXQ.2 g o e; have := HA.out; omega), hT, owne, hE, hy, by rw [← HA.out]; exact Be⟩
  | false =>
    clear xX4 hq
    go_wp2_with fail
    refine wp_region_held_drew (S := fun w' => w'.cell? ⟨X, 0, none⟩ = some (.slice ax T.length cx)) (by kernel_rfl) (cell_of1' RX4) (fun hHeld => ?_)
    refine wpAnyH_take (i := 0) (v := ?_) rfl (by kernel_rfl) (by kernel_rfl) (by kernel_rfl) (fun _ _ _ h => h) (Or.inl ⟨by rfl, ?_⟩) (by assumption) ?_
    rotate_left
    · (intro w hSw; (try dsimp only at hSw); go_simp; try (with_reducible rfl))
    (try simp only [Act.put, List.setIfInBounds_toArray, List.set_cons_zero, List.set_cons_succ])
    refine wpAnyH_take (i := 1) (v := ?_) rfl (by kernel_rfl) (by kernel_rfl) (by kernel_rfl) (fun _ _ _ h => h) (Or.inl ⟨by rfl, ?_⟩) (by assumption) ?_
    rotate_left
    · (intro w hSw; (try dsimp only at hSw); go_simp; try (with_reducible rfl))
    (try simp only [Act.put, List.setIfInBounds_toArray, List.set_cons_zero, List.set_cons_succ])
    refine wpAnyH_take (i := 2) (v := ?_) rfl (by kernel_rfl) (by kernel_rfl) (by kernel_rfl) (fun _ _ _ h => h) (Or.inl ⟨by rfl, ?_⟩) (by assumption) ?_
    rotate_left
    · (intro w hSw; (try dsimp only at hSw); go_simp; try (with_reducible rfl))
    (try simp only [Act.put, List.setIfInBounds_toArray, List.set_cons_zero, List.set_cons_succ])
    refine wpAnyH_take (i := 3) (v := ?_) rfl (by kernel_rfl) (by kernel_rfl) (by kernel_rfl) (fun _ _ _ h => h) (Or.inl ⟨by rfl, ?_⟩) (by assumption) ?_
    rotate_left
    · (intro w hSw; (try dsimp only at hSw); go_simp; try (with_reducible rfl))
    (try simp only [Act.put, List.setIfInBounds_toArray, List.set_cons_zero, List.set_cons_succ])
    have RXD : w4.drew.heap[X]? = some (.cells #[.slice ax T.length cx] 26 (0, 0)) := RX4
    have RAD : w4.drew.heap[A]? = some (.cells #[.slice none 0 0] 26 (0, 0)) := RA4
    have hsD : Src w4.drew b a n cap := hs4.drewN 1
    have hXD : IntsX b w4.drew ax T := hX4
    have ownD := own4.drew
    have BD : Below A w w4.drew := B4.drew
    refine wpAnyH_ready (rs := [4]) (by kernel_rfl) (by simp) ?_
    refine AllReadyH.cons rfl (fun K hK => ?_) AllReadyH.nil
    go_simp
    (go_at_call 30; refine (near_any b a n cap hn 3 (by omega) w4.drew hsD).mono ?_)
    rintro e uQ ⟨y, rfl, hy, hsQ, hgQ⟩
    have RXQ := row_g RXD hgQ (by simp; omega)
    have RAQ := row_g RAD hgQ (by simp; omega)
    have hXQ := hXD.grown hgQ
    have BQ := below_g BD (by have := hsD.lt; omega) hgQ (by omega)
    have ownQ := ownD.kept hgQ (.inr (by simp [Value.ownBlock]; omega))
    refine hK.out _ _ (cell_of1' RXQ) (fun hHeld => ?_)
    clear hK K
    (try simp only [Act.put, List.setIfInBounds_toArray, List.set_cons_zero, List.set_cons_succ])
    refine wpAnyH_ready (rs := [5]) (by kernel_rfl) (by simp) ?_
    refine AllReadyH.cons rfl (fun K hK => ?_) AllReadyH.nil
    have xAe := cell_of1' RAQ
    have fAe := frozen_of_row uQ A 0 _ _ RAQ
    go_simp
    have hAx : ∀ g o, ax = some ⟨g, o, none⟩ → g ≠ A := fun g o e => by have := hXQ.2 g o e; omega
    have HIe : Ints (uQ.setCell ⟨A, 0, none⟩ (.slice ax T.length cx)) ax T := ints_setA hXQ.1 hAx
    have owne := own_setO ownQ A (fun e => by simp [Value.ownBlock] at e; omega) (.slice ax T.length cx)
    have Be : Below A w (uQ.setCell ⟨A, 0, none⟩ (.slice ax T.length cx)) := BQ.setCell (by simp) _
    refine hK.out _ _ (show (uQ.setCell ⟨A, 0, none⟩ (.slice ax T.length cx)).cell? ⟨X, 0, none⟩ = _ from cell_set_other (cell_of1' RXQ) (by simp; omega)) (fun hHeld => ?_)
    clear hK K
    (try simp only [Act.put, List.setIfInBounds_toArray, List.set_cons_zero, List.set_cons_succ])
    have zAe := row_lt RAQ
    refine wpAnyH_take (i := 6) (v := ?_) rfl (by kernel_rfl) (by kernel_rfl) (by kernel_rfl) (fun _ _ _ h => h) (Or.inl ⟨by rfl, ?_⟩) (by assumption) ?_
    rotate_left
    · (intro w hSw; (try dsimp only at hSw); go_simp; try (with_reducible rfl))
    (try simp only [Act.put, List.setIfInBounds_toArray, List.set_cons_zero, List.set_cons_succ])
    refine wpAnyH_take (i := 7) (v := ?_) rfl (by kernel_rfl) (by kernel_rfl) (by kernel_rfl) (fun _ _ _ h => h) (Or.inl ⟨by rfl, ?_⟩) (by assumption) ?_
    rotate_left
    · (intro w hSw; (try dsimp only at hSw); go_simp; try (with_reducible rfl))
    (try simp only [Act.put, List.setIfInBounds_toArray, List.set_cons_zero, List.set_cons_succ])
    refine wpAnyH_done (by kernel_rfl) ?_ _
    (try simp only [List.getElem_toArray, List.getElem_cons_succ, List.getElem_cons_zero, Act.put, List.setIfInBounds_toArray, List.set_cons_zero, List.set_cons_succ])
    go_wp2_with fail
    refine bodyPost_ret (by rw [results_cell_tmp2w rfl]; go_simp; try rfl) rfl ?_
    exact ⟨ax, T, cx, g, cg, E, y, rfl, HIe, (fun g o e => by have := hXQ.2 g o e; have := HA.out; omega), hT, owne, hE, hy, by rw [← HA.out]; exact Be⟩

end Go.Proofs.Ytlhapanfegjafaa

namespace Go.Proofs.Ytlhapanfegjafaa
open Go.RowKit Cv
set_option linter.unusedVariables false
set_option linter.unusedSimpArgs false
set_option maxRecDepth 100000

theorem results_cell_tmp1w {fn : Func} {p u1 : Tmp} {ty : TypeId} (h : fn.results = #[.cell p ty, .tmp u1]) (tmps : Array Value) (P : Program) (w : World) :
    (results fn tmps).run P w =
      ((asAddr (tmps.getD p undef)).run P w).andThen fun a w₁ => ((loadVar ty a).run P w₁).andThen fun v w₂ => .ok (.tuple #[v, tmps.getD u1 undef]) w₂ := by
  simp only [results, h]
  simp [Sem.run_bind, Result.andThen]

end Go.Proofs.Ytlhapanfegjafaa

namespace Go.Proofs.Ytlhapanfegjafaa
open Go.RowKit Cv
set_option linter.unusedVariables false
set_option linter.unusedSimpArgs false
set_option maxRecDepth 100000

end Go.Proofs.Ytlhapanfegjafaa
