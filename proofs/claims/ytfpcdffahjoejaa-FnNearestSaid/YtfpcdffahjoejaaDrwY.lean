/-
  Merged texts: Drw8, Drw9, Lws, MathF. Never import this beside one of them. By an AI agent.
-/
import Derived.Test.YtfpcdffahjoejaaDrwX
import Derived.Test.YtfpcdffahjoejaaGrY
import Derived.Test.YtfpcdffahjoejaaHelp
import Derived.Test.YtfpcdffahjoejaaMath
namespace Go.Proofs.Ytfpcdffahjoejaa
open Go.RowKit Cv
set_option linter.unusedVariables false
set_option linter.unusedSimpArgs false
set_option maxRecDepth 100000

theorem l02With_any (a : Option Addr) (n cap : Nat) (hn : n ≤ 4096) (w : World) (hY : Byts w w.heap.size a n) :
    Calls Try.prog 88 #[.slice a n cap] w fun e w' => ∃ ax T cx g cg F r, e = .returned (.tuple #[.agg #[.slice ax T.length cx], .slice (some ⟨g, 0, none⟩) F.length cg, .int .i64 r]) ∧ Ints w' ax T ∧ (∀ g o, ax = some ⟨g, o, none⟩ → w.heap.size ≤ g) ∧ T.length ≤ 8 ∧ OwnInts w' w.heap.size (.slice (some ⟨g, 0, none⟩) F.length cg) F ∧ F.length ≤ 1048577 ∧ (-9223372036854775808 ≤ r ∧ r ≤ 9223372036854775807) ∧ Below w.heap.size w w' :=
  l02With_of (fun ao S cap r w hSp h1 h8 hS => (spec_GreedyCode ao S cap (by have := hSp.hi; omega) r (by omega) w hS).mono fun e w' ⟨v, he, ho, hb⟩ => ⟨v, vGr S r, _, he, ho, vGr_len S r, hb⟩) a n cap hn w hY

set_option maxHeartbeats 8000000 in
theorem l02Word_any (a : Option Addr) (n cap : Nat) (hn : n ≤ 4096) (w : World) (hY : Byts w w.heap.size a n) :
    Calls Try.prog 71 #[.slice a n cap] w fun e w' => ∃ ax T cx g cg F r, e = .returned (.tuple #[.agg #[.slice ax T.length cx], .slice (some ⟨g, 0, none⟩) F.length cg, .int .i64 r]) ∧ Ints w' ax T ∧ (∀ g o, ax = some ⟨g, o, none⟩ → w.heap.size ≤ g) ∧ T.length ≤ 8 ∧ OwnInts w' w.heap.size (.slice (some ⟨g, 0, none⟩) F.length cg) F ∧ F.length ≤ 1048577 ∧ (-9223372036854775808 ≤ r ∧ r ≤ 9223372036854775807) ∧ Below w.heap.size w w' := by
  obtain ⟨A, hA⟩ : ∃ A, A = w.heap.size := ⟨_, rfl⟩
  obtain ⟨W, hW⟩ : ∃ W, W = w.alloc (.cells #[.slice none 0 0] 26) := ⟨_, rfl⟩
  have zW : W.heap.size = A + 1 := by rw [hW, hA]; simp
  have RA0 : W.heap[A]? = some (.cells #[.slice none 0 0] 26 (0, 0)) := by rw [hW, hA]; exact heap_alloc_new w _
  have B0 : Below A w W := by rw [hW, hA]; exact (Below.refl _ w).alloc (Nat.le_refl _) _
  have hY0 : Byts W W.heap.size a n := by rw [zW]; exact ((hY.mono (by omega)).keep fun b o v hb h => by rw [hW]; exact kept_cell ((Below.refl w.heap.size w).alloc (Nat.le_refl _) _) h (by have := World.block_lt_of_cell? w _ h; exact this))
  have hfr := from_any a n cap hn W hY0
  have HA := Lib.hid hA
  have HW := Lib.hid hW
  obtain ⟨b, hb⟩ : ∃ b, b = W.heap.size := ⟨_, rfl⟩
  rw [← hb] at hfr hY0
  have hbA : b = A + 1 := by omega
  have HB := Lib.hid hb
  clear hA hW
  go_enter Try.func71, Try.ntmps71
  go_wp2_with fail
  rw [← HW.out, ← HA.out]
  refine hfr.mono ?_
  rintro e w1 ⟨rfl, hs1, hb1⟩
  rw [hb] at hb1
  have RA1 := row_g RA0 (grown_of_below hb1 none) (by simp)
  have B1 : Below A w w1 := B0.trans (hb1.mono (by omega))
  have zb1 := hs1.lt
  have hY1 : Byts w1 w1.heap.size a n := (hY0.keep fun b' o v hb' h => kept_cell hb1 h (by omega)).mono (by omega)
  have hAb : A < b := by omega
  have hd := l02With_any a n cap hn w1 hY1
  clear hfr hb1 RA0 B0 hb zW hbA hY hY0 hY1
  go_wp2_with fail
  refine hd.mono ?_
  rintro e w2 ⟨ax, T, cx, g, cg, E, r0, rfl, hI, hax, hT, ownE, hE, _, hb2⟩
  have RA2 := row_g RA1 (grown_of_below hb2 none) (by simp)
  have B2 : Below A w w2 := B1.trans (hb2.mono (by omega))
  have hs2 := hs1.below hb2 zb1
  have hX2 : IntsX b w2 ax T := ⟨hI, fun g o e => by have := hax g o e; omega⟩
  have hgz : w1.heap.size ≤ g := ownBlock_ge5 ownE rfl
  have hbg : b < g := by omega
  have hgz2 : g < w2.heap.size := ownE.base_le.2
  have z1 := B1.size
  have owE := ownE.rebase (base' := w.heap.size) (by have := HA.out; omega)
  clear hd hb2 RA1 B1 hs1 hI ownE hax
  obtain ⟨X, hX⟩ : ∃ X, X = w2.heap.size := ⟨_, rfl⟩
  obtain ⟨W3, hW3⟩ : ∃ W3, W3 = w2.alloc (.cells #[.slice ax T.length cx] 26) := ⟨_, rfl⟩
  have RX3 : W3.heap[X]? = some (.cells #[.slice ax T.length cx] 26 (0, 0)) := by rw [hW3, hX]; exact heap_alloc_new _ _
  have RA3 : W3.heap[A]? = some (.cells #[.slice none 0 0] 26 (0, 0)) := by rw [hW3]; exact row_g RA2 (World.grownBy_alloc w2 _ none) (by simp)
  have hs3 : Src W3 b a n cap := by rw [hW3]; exact hs2.alloc _
  have hX3 : IntsX b W3 ax T := by rw [hW3]; exact hX2.below (B := 0) ((Below.refl _ _).alloc (Nat.le_refl _) _)
  have B3 : Below A w W3 := by rw [hW3]; exact B2.alloc (by omega) _
  have own3 : OwnInts W3 w.heap.size (.slice (some ⟨g, 0, none⟩) E.length cg) E := by rw [hW3]; exact owE.alloc _
  rw [← hX] at hgz2
  have zbX : b < X := by omega
  have zAX : A < X := by omega
  have HX := Lib.hid hX
  have HW3 := Lib.hid hW3
  clear RA2 B2 hX2 hs2 hX hW3 owE z1 zb1
  have hIs := l01Is_any ax T cx W3 (by omega) hX3.1
  have xX3 := cell_of1' RX3
  go_wp2_with fail
  rw [← HW3.out, ← HX.out]
  refine hIs.mono ?_
  rintro e w4 ⟨rfl, hb4⟩
  have RX4 := row_g RX3 (grown_of_below hb4 none) (by simp)
  have RA4 := row_g RA3 (grown_of_below hb4 none) (by simp)
  have hs4 := hs3.below hb4 hs3.lt
  have hX4 := hX3.below (B := 0) hb4
  have own4 := own3.below hb4
  have B4 := B3.trans (hb4.mono (by have := hs3.lt; omega))
  clear hIs hb4 RX3 RA3 hX3 B3 hs3 own3 xX3
  have xX4 := cell_of1' RX4
  cases hq : isSp T with
  | true =>
    have hSp : Sp T := (isSp_iff T).1 hq
    obtain ⟨N1, N2⟩ := nW_bd hSp
    have hN := l01N_any ax T cx w4 hSp.hi hSp.bd hX4.1
    obtain ⟨M, hM⟩ : ∃ M, M = prodTo T T.length := ⟨_, rfl⟩
    unfold nW at N1 N2
    rw [← hM] at N1 N2
    have EN : IntKind.i64.wrap (M - 1) = M - 1 := IntWalk.i64_in _ ⟨by omega, by omega⟩
    try unfold nW at hN
    rw [← hM] at hN
    clear hM hSp hq
    go_wp2_with fail
    refine hN.mono ?_
    rintro e w5 ⟨rfl, hb5⟩
    have RX5 := row_g RX4 (grown_of_below hb5 none) (by simp)
    have RA5 := row_g RA4 (grown_of_below hb5 none) (by simp)
    have hs5 := hs4.below hb5 hs4.lt
    have hX5 := hX4.below (B := 0) hb5
    have own5 := own4.below hb5
    have B5 := B4.trans (hb5.mono (by have := hs4.lt; omega))
    clear hN hb5 RX4 RA4 hX4 B4 hs4 own4 xX4
    go_wp2_with fail
    refine wp_region_held_drew (S := fun w' => w'.cell? ⟨X, 0, none⟩ = some (.slice ax T.length cx)) (by kernel_rfl) (cell_of1' RX5) (fun hHeld => ?_)
    refine wpAnyH_take (i := 0) (v := ?_) rfl (by kernel_rfl) (by kernel_rfl) (by kernel_rfl) (fun _ _ _ h => h) (Or.inl ⟨by rfl, ?_⟩) (by assumption) ?_
    rotate_left
    · (intro w hSw; (try dsimp only at hSw); go_simp; try (with_reducible rfl))
    (try simp only [Act.put, List.setIfInBounds_toArray, List.set_cons_zero, List.set_cons_succ])
    refine wpAnyH_take (i := 1) (v := ?_) rfl (by kernel_rfl) (by kernel_rfl) (by kernel_rfl) (fun _ _ _ h => h) (Or.inl ⟨by rfl, ?_⟩) (by assumption) ?_
    rotate_left
    · (intro w hSw; (try dsimp only at hSw); go_simp; try (with_reducible rfl))
    (try simp only [Act.put, List.setIfInBounds_toArray, List.set_cons_zero, List.set_cons_succ])
    refine wpAnyH_take (i := 2) (v := ?_) rfl (by kernel_rfl) (by kernel_rfl) (by kernel_rfl) (fun _ _ _ h => h) (Or.inl ⟨by rfl, ?_⟩) (by assumption) ?_
    rotate_left
    · (intro w hSw; (try dsimp only at hSw); go_simp; try (with_reducible rfl))
    (try simp only [Act.put, List.setIfInBounds_toArray, List.set_cons_zero, List.set_cons_succ])
    refine wpAnyH_take (i := 3) (v := ?_) rfl (by kernel_rfl) (by kernel_rfl) (by kernel_rfl) (fun _ _ _ h => h) (Or.inl ⟨by rfl, ?_⟩) (by assumption) ?_
    rotate_left
    · (intro w hSw; (try dsimp only at hSw); go_simp; try (with_reducible rfl))
    (try simp only [Act.put, List.setIfInBounds_toArray, List.set_cons_zero, List.set_cons_succ])
    have RXD : w5.drew.heap[X]? = some (.cells #[.slice ax T.length cx] 26 (0, 0)) := RX5
    have RAD : w5.drew.heap[A]? = some (.cells #[.slice none 0 0] 26 (0, 0)) := RA5
    have hsD : Src w5.drew b a n cap := hs5.drewN 1
    have hXD : IntsX b w5.drew ax T := hX5
    have ownD := own5.drew
    have BD : Below A w w5.drew := B5.drew
    refine wpAnyH_ready (rs := [4]) (by kernel_rfl) (by simp) ?_
    refine AllReadyH.cons rfl (fun K hK => ?_) AllReadyH.nil
    go_simp
    (go_at_call 66; refine (near_any b a n cap hn (M - 1) (by omega) w5.drew hsD).mono ?_)
    rintro e uQ ⟨y, rfl, hy, hsQ, hgQ⟩
    have RXQ := row_g RXD hgQ (by simp; omega)
    have RAQ := row_g RAD hgQ (by simp; omega)
    have hXQ := hXD.grown hgQ
    have BQ := below_g BD (by have := hsD.lt; omega) hgQ (by omega)
    have ownQ := ownD.kept hgQ (.inr (by simp [Value.ownBlock]; omega))
    refine hK.out _ _ (cell_of1' RXQ) (fun hHeld => ?_)
    clear hK K
    (try simp only [Act.put, List.setIfInBounds_toArray, List.set_cons_zero, List.set_cons_succ])
    refine wpAnyH_ready (rs := [5]) (by kernel_rfl) (by simp) ?_
    refine AllReadyH.cons rfl (fun K hK => ?_) AllReadyH.nil
    have xAe := cell_of1' RAQ
    have fAe := frozen_of_row uQ A 0 _ _ RAQ
    go_simp
    have hAx : ∀ g o, ax = some ⟨g, o, none⟩ → g ≠ A := fun g o e => by have := hXQ.2 g o e; omega
    have HIe : Ints (uQ.setCell ⟨A, 0, none⟩ (.slice ax T.length cx)) ax T := ints_setA hXQ.1 hAx
    have owne := own_setO ownQ A (fun e => by simp [Value.ownBlock] at e; omega) (.slice ax T.length cx)
    have Be : Below A w (uQ.setCell ⟨A, 0, none⟩ (.slice ax T.length cx)) := BQ.setCell (by simp) _
    refine hK.out _ _ (show (uQ.setCell ⟨A, 0, none⟩ (.slice ax T.length cx)).cell? ⟨X, 0, none⟩ = _ from cell_set_other (cell_of1' RXQ) (by simp; omega)) (fun hHeld => ?_)
    clear hK K
    (try simp only [Act.put, List.setIfInBounds_toArray, List.set_cons_zero, List.set_cons_succ])
    have zAe := row_lt RAQ
    refine wpAnyH_take (i := 6) (v := ?_) rfl (by kernel_rfl) (by kernel_rfl) (by kernel_rfl) (fun _ _ _ h => h) (Or.inl ⟨by rfl, ?_⟩) (by assumption) ?_
    rotate_left
    · (intro w hSw; (try dsimp only at hSw); go_simp; try (with_reducible rfl))
    (try simp only [Act.put, List.setIfInBounds_toArray, List.set_cons_zero, List.set_cons_succ])
    refine wpAnyH_take (i := 7) (v := ?_) rfl (by kernel_rfl) (by kernel_rfl) (by kernel_rfl) (fun _ _ _ h => h) (Or.inl ⟨by rfl, ?_⟩) (by assumption) ?_
    rotate_left
    · (intro w hSw; (try dsimp only at hSw); go_simp; try (with_reducible rfl))
    (try simp only [Act.put, List.setIfInBounds_toArray, List.set_cons_zero, List.set_cons_succ])
    refine wpAnyH_done (by kernel_rfl) ?_ _
    (try simp only [List.getElem_toArray, List.getElem_cons_succ, List.getElem_cons_zero, Act.put, List.setIfInBounds_toArray, List.set_cons_zero, List.set_cons_succ])
    go_wp2_with fail
    refine bodyPost_ret (by rw [results_cell_tmp2w rfl]; go_simp; try rfl) rfl ?_
    exact ⟨ax, T, cx, g, cg, E, y, rfl, HIe, (fun g o e => by have := hXQ.2 g o e; have := HA.out; omega), hT, owne, hE, hy, by rw [← HA.out]; exact Be⟩
  | false =>
    clear xX4 hq
    go_wp2_with fail
    refine wp_region_held_drew (S := fun w' => w'.cell? ⟨X, 0, none⟩ = some (.slice ax T.length cx)) (by kernel_rfl) (cell_of1' RX4) (fun hHeld => ?_)
    refine wpAnyH_take (i := 0) (v := ?_) rfl (by kernel_rfl) (by kernel_rfl) (by kernel_rfl) (fun _ _ _ h => h) (Or.inl ⟨by rfl, ?_⟩) (by assumption) ?_
    rotate_left
    · (intro w hSw; (try dsimp only at hSw); go_simp; try (with_reducible rfl))
    (try simp only [Act.put, List.setIfInBounds_toArray, List.set_cons_zero, List.set_cons_succ])
    refine wpAnyH_take (i := 1) (v := ?_) rfl (by kernel_rfl) (by kernel_rfl) (by kernel_rfl) (fun _ _ _ h => h) (Or.inl ⟨by rfl, ?_⟩) (by assumption) ?_
    rotate_left
    · (intro w hSw; (try dsimp only at hSw); go_simp; try (with_reducible rfl))
    (try simp only [Act.put, List.setIfInBounds_toArray, List.set_cons_zero, List.set_cons_succ])
    refine wpAnyH_take (i := 2) (v := ?_) rfl (by kernel_rfl) (by kernel_rfl) (by kernel_rfl) (fun _ _ _ h => h) (Or.inl ⟨by rfl, ?_⟩) (by assumption) ?_
    rotate_left
    · (intro w hSw; (try dsimp only at hSw); go_simp; try (with_reducible rfl))
    (try simp only [Act.put, List.setIfInBounds_toArray, List.set_cons_zero, List.set_cons_succ])
    refine wpAnyH_take (i := 3) (v := ?_) rfl (by kernel_rfl) (by kernel_rfl) (by kernel_rfl) (fun _ _ _ h => h) (Or.inl ⟨by rfl, ?_⟩) (by assumption) ?_
    rotate_left
    · (intro w hSw; (try dsimp only at hSw); go_simp; try (with_reducible rfl))
    (try simp only [Act.put, List.setIfInBounds_toArray, List.set_cons_zero, List.set_cons_succ])
    have RXD : w4.drew.heap[X]? = some (.cells #[.slice ax T.length cx] 26 (0, 0)) := RX4
    have RAD : w4.drew.heap[A]? = some (.cells #[.slice none 0 0] 26 (0, 0)) := RA4
    have hsD : Src w4.drew b a n cap := hs4.drewN 1
    have hXD : IntsX b w4.drew ax T := hX4
    have ownD := own4.drew
    have BD : Below A w w4.drew := B4.drew
    refine wpAnyH_ready (rs := [4]) (by kernel_rfl) (by simp) ?_
    refine AllReadyH.cons rfl (fun K hK => ?_) AllReadyH.nil
    go_simp
    (go_at_call 66; refine (near_any b a n cap hn 3 (by omega) w4.drew hsD).mono ?_)
    rintro e uQ ⟨y, rfl, hy, hsQ, hgQ⟩
    have RXQ := row_g RXD hgQ (by simp; omega)
    have RAQ := row_g RAD hgQ (by simp; omega)
    have hXQ := hXD.grown hgQ
    have BQ := below_g BD (by have := hsD.lt; omega) hgQ (by omega)
    have ownQ := ownD.kept hgQ (.inr (by simp [Value.ownBlock]; omega))
    refine hK.out _ _ (cell_of1' RXQ) (fun hHeld => ?_)
    clear hK K
    (try simp only [Act.put, List.setIfInBounds_toArray, List.set_cons_zero, List.set_cons_succ])
    refine wpAnyH_ready (rs := [5]) (by kernel_rfl) (by simp) ?_
    refine AllReadyH.cons rfl (fun K hK => ?_) AllReadyH.nil
    have xAe := cell_of1' RAQ
    have fAe := frozen_of_row uQ A 0 _ _ RAQ
    go_simp
    have hAx : ∀ g o, ax = some ⟨g, o, none⟩ → g ≠ A := fun g o e => by have := hXQ.2 g o e; omega
    have HIe : Ints (uQ.setCell ⟨A, 0, none⟩ (.slice ax T.length cx)) ax T := ints_setA hXQ.1 hAx
    have owne := own_setO ownQ A (fun e => by simp [Value.ownBlock] at e; omega) (.slice ax T.length cx)
    have Be : Below A w (uQ.setCell ⟨A, 0, none⟩ (.slice ax T.length cx)) := BQ.setCell (by simp) _
    refine hK.out _ _ (show (uQ.setCell ⟨A, 0, none⟩ (.slice ax T.length cx)).cell? ⟨X, 0, none⟩ = _ from cell_set_other (cell_of1' RXQ) (by simp; omega)) (fun hHeld => ?_)
    clear hK K
    (try simp only [Act.put, List.setIfInBounds_toArray, List.set_cons_zero, List.set_cons_succ])
    have zAe := row_lt RAQ
    refine wpAnyH_take (i := 6) (v := ?_) rfl (by kernel_rfl) (by kernel_rfl) (by kernel_rfl) (fun _ _ _ h => h) (Or.inl ⟨by rfl, ?_⟩) (by assumption) ?_
    rotate_left
    · (intro w hSw; (try dsimp only at hSw); go_simp; try (with_reducible rfl))
    (try simp only [Act.put, List.setIfInBounds_toArray, List.set_cons_zero, List.set_cons_succ])
    refine wpAnyH_take (i := 7) (v := ?_) rfl (by kernel_rfl) (by kernel_rfl) (by kernel_rfl) (fun _ _ _ h => h) (Or.inl ⟨by rfl, ?_⟩) (by assumption) ?_
    rotate_left
    · (intro w hSw; (try dsimp only at hSw); go_simp; try (with_reducible rfl))
    (try simp only [Act.put, List.setIfInBounds_toArray, List.set_cons_zero, List.set_cons_succ])
    refine wpAnyH_done (by kernel_rfl) ?_ _
    (try simp only [List.getElem_toArray, List.getElem_cons_succ, List.getElem_cons_zero, Act.put, List.setIfInBounds_toArray, List.set_cons_zero, List.set_cons_succ])
    go_wp2_with fail
    refine bodyPost_ret (by rw [results_cell_tmp2w rfl]; go_simp; try rfl) rfl ?_
    exact ⟨ax, T, cx, g, cg, E, y, rfl, HIe, (fun g o e => by have := hXQ.2 g o e; have := HA.out; omega), hT, owne, hE, hy, by rw [← HA.out]; exact Be⟩

end Go.Proofs.Ytfpcdffahjoejaa

namespace Go.Proofs.Ytfpcdffahjoejaa
open Go.RowKit Cv
set_option linter.unusedVariables false
set_option linter.unusedSimpArgs false
set_option maxRecDepth 100000

theorem results_cell_tmp1w {fn : Func} {p u1 : Tmp} {ty : TypeId} (h : fn.results = #[.cell p ty, .tmp u1]) (tmps : Array Value) (P : Program) (w : World) :
    (results fn tmps).run P w =
      ((asAddr (tmps.getD p undef)).run P w).andThen fun a w₁ => ((loadVar ty a).run P w₁).andThen fun v w₂ => .ok (.tuple #[v, tmps.getD u1 undef]) w₂ := by
  simp only [results, h]
  simp [Sem.run_bind, Result.andThen]

set_option maxHeartbeats 4000000 in
theorem drawNear_any (a : Option Addr) (n cap : Nat) (hn : n ≤ 4096) (w : World) (hY : Byts w w.heap.size a n) :
    Calls Try.prog 34 #[.slice a n cap] w fun e w' => ∃ ax T cx g cg F r, e = .returned (.tuple #[.agg #[.slice ax T.length cx], .slice (some ⟨g, 0, none⟩) F.length cg, .int .i64 r]) ∧ Ints w' ax T ∧ (∀ g o, ax = some ⟨g, o, none⟩ → w.heap.size ≤ g) ∧ T.length ≤ 8 ∧ OwnInts w' w.heap.size (.slice (some ⟨g, 0, none⟩) F.length cg) F ∧ F.length ≤ 1048577 ∧ (-9223372036854775808 ≤ r ∧ r ≤ 9223372036854775807) ∧ Below w.heap.size w w' := by
  obtain ⟨A, hA⟩ : ∃ A, A = w.heap.size := ⟨_, rfl⟩
  obtain ⟨W, hW⟩ : ∃ W, W = w.alloc (.cells #[.slice none 0 0] 26) := ⟨_, rfl⟩
  have zW : W.heap.size = A + 1 := by rw [hW, hA]; simp
  have RA0 : W.heap[A]? = some (.cells #[.slice none 0 0] 26 (0, 0)) := by rw [hW, hA]; exact heap_alloc_new w _
  have B0 : Below A w W := by rw [hW, hA]; exact (Below.refl _ w).alloc (Nat.le_refl _) _
  have hY0 : Byts W W.heap.size a n := by rw [zW]; exact ((hY.mono (by omega)).keep fun b o v hb h => by rw [hW]; exact kept_cell ((Below.refl w.heap.size w).alloc (Nat.le_refl _) _) h (by have := World.block_lt_of_cell? w _ h; exact this))
  have hc := l02Word_any a n cap hn W hY0
  have HA := Lib.hid hA
  have HW := Lib.hid hW
  clear hA hW hY0
  go_enter Try.func34, Try.ntmps34
  go_wp2_with fail
  rw [← HW.out, ← HA.out]
  refine hc.mono ?_
  rintro e w1 ⟨ax, T, cx, g, cg, E, r, rfl, hI, hax, hT, ownE, hE, hr, hb1⟩
  have RA1 := row_g RA0 (grown_of_below hb1 none) (by simp)
  have B1 : Below A w w1 := B0.trans (hb1.mono (by omega))
  have hax' : ∀ g o, ax = some ⟨g, o, none⟩ → A + 1 ≤ g := fun g o e => by have := hax g o e; omega
  have hgA : A + 1 ≤ g := by have : W.heap.size ≤ g := ownBlock_ge5 ownE rfl; omega
  have ownW := ownE.rebase (base' := w.heap.size) (by have := HA.out; omega)
  have hAx : ∀ g o, ax = some ⟨g, o, none⟩ → g ≠ A := fun g o e => by have := hax' g o e; omega
  have hI1 := hI
  have own1 := ownW
  clear hI ownW
  clear hc hb1 RA0 B0 hax ownE zW
  have xA := cell_of1' RA1
  have fA := frozen_of_row w1 A 0 _ _ RA1
  have zA := row_lt RA1
  have HIe : Ints (w1.setCell ⟨A, 0, none⟩ (.slice ax T.length cx)) ax T := ints_setA hI1 hAx
  have owne := own_setO own1 A (fun e => by simp [Value.ownBlock] at e; omega) (.slice ax T.length cx)
  have Be : Below A w (w1.setCell ⟨A, 0, none⟩ (.slice ax T.length cx)) := B1.setCell (by simp) _
  go_wp2_with fail
  refine bodyPost_ret (by rw [results_cell_tmp2w rfl]; go_simp; try rfl) rfl ?_
  exact ⟨ax, T, cx, g, cg, E, r, rfl, HIe, (fun g o e => by have := hax' g o e; have := HA.out; omega), hT, owne, hE, hr, by rw [← HA.out]; exact Be⟩

set_option maxHeartbeats 4000000 in
theorem drawRadius2_any (a : Option Addr) (n cap : Nat) (hn : n ≤ 4096) (w : World) (hY : Byts w w.heap.size a n) :
    Calls Try.prog 79 #[.slice a n cap] w fun e w' => ∃ ax T cx g cg F, e = .returned (.tuple #[.agg #[.slice ax T.length cx], .slice (some ⟨g, 0, none⟩) F.length cg]) ∧ Ints w' ax T ∧ (∀ g o, ax = some ⟨g, o, none⟩ → w.heap.size ≤ g) ∧ T.length ≤ 8 ∧ OwnInts w' w.heap.size (.slice (some ⟨g, 0, none⟩) F.length cg) F ∧ F.length ≤ 1048577 ∧ Below w.heap.size w w' := by
  obtain ⟨A, hA⟩ : ∃ A, A = w.heap.size := ⟨_, rfl⟩
  obtain ⟨W, hW⟩ : ∃ W, W = w.alloc (.cells #[.slice none 0 0] 26) := ⟨_, rfl⟩
  have zW : W.heap.size = A + 1 := by rw [hW, hA]; simp
  have RA0 : W.heap[A]? = some (.cells #[.slice none 0 0] 26 (0, 0)) := by rw [hW, hA]; exact heap_alloc_new w _
  have B0 : Below A w W := by rw [hW, hA]; exact (Below.refl _ w).alloc (Nat.le_refl _) _
  have hY0 : Byts W W.heap.size a n := by rw [zW]; exact ((hY.mono (by omega)).keep fun b o v hb h => by rw [hW]; exact kept_cell ((Below.refl w.heap.size w).alloc (Nat.le_refl _) _) h (by have := World.block_lt_of_cell? w _ h; exact this))
  have hc := l02With_any a n cap hn W hY0
  have HA := Lib.hid hA
  have HW := Lib.hid hW
  clear hA hW hY0
  go_enter Try.func79, Try.ntmps79
  go_wp2_with fail
  rw [← HW.out, ← HA.out]
  refine hc.mono ?_
  rintro e w1 ⟨ax, T, cx, g, cg, E, r, rfl, hI, hax, hT, ownE, hE, hr, hb1⟩
  have RA1 := row_g RA0 (grown_of_below hb1 none) (by simp)
  have B1 : Below A w w1 := B0.trans (hb1.mono (by omega))
  have hax' : ∀ g o, ax = some ⟨g, o, none⟩ → A + 1 ≤ g := fun g o e => by have := hax g o e; omega
  have hgA : A + 1 ≤ g := by have : W.heap.size ≤ g := ownBlock_ge5 ownE rfl; omega
  have ownW := ownE.rebase (base' := w.heap.size) (by have := HA.out; omega)
  have hAx : ∀ g o, ax = some ⟨g, o, none⟩ → g ≠ A := fun g o e => by have := hax' g o e; omega
  clear hc hb1 RA0 B0 hax ownE zW
  obtain ⟨W3, hW3⟩ : ∃ W3, W3 = w1.alloc (.cells #[.slice ax T.length cx] 26) := ⟨_, rfl⟩
  have RX3 : W3.heap[w1.heap.size]? = some (.cells #[.slice ax T.length cx] 26 (0, 0)) := by rw [hW3]; exact heap_alloc_new _ _
  have RA3 : W3.heap[A]? = some (.cells #[.slice none 0 0] 26 (0, 0)) := by rw [hW3]; exact row_g RA1 (World.grownBy_alloc w1 _ none) (by simp)
  have hI3 : Ints W3 ax T := by rw [hW3]; exact hI.below ((Below.refl _ _).alloc (Nat.le_refl _) _)
  have own3 : OwnInts W3 w.heap.size (.slice (some ⟨g, 0, none⟩) E.length cg) E := by rw [hW3]; exact ownW.alloc _
  have B3 : Below A w W3 := by rw [hW3]; exact B1.alloc (by have := row_lt RA1; have := HA.out; omega) _
  have xX3 := cell_of1' RX3
  have HW3 := Lib.hid hW3
  clear hW3 RA1 B1 hI ownW RX3
  have xA := cell_of1' RA3
  have fA := frozen_of_row W3 A 0 _ _ RA3
  have zA := row_lt RA3
  have HIe : Ints (W3.setCell ⟨A, 0, none⟩ (.slice ax T.length cx)) ax T := ints_setA hI3 hAx
  have owne := own_setO own3 A (fun e => by simp [Value.ownBlock] at e; omega) (.slice ax T.length cx)
  have Be : Below A w (W3.setCell ⟨A, 0, none⟩ (.slice ax T.length cx)) := B3.setCell (by simp) _
  rw [HW3.out] at xX3 xA fA zA HIe owne Be
  go_wp2_with fail
  refine bodyPost_ret (by rw [results_cell_tmp1w rfl]; go_simp; try rfl) rfl ?_
  exact ⟨ax, T, cx, g, cg, E, rfl, HIe, (fun g o e => by have := hax' g o e; have := HA.out; omega), hT, owne, hE, by rw [← HA.out]; exact Be⟩

set_option maxHeartbeats 4000000 in
theorem drawFarthest_any (a : Option Addr) (n cap : Nat) (hn : n ≤ 4096) (w : World) (hY : Byts w w.heap.size a n) :
    Calls Try.prog 39 #[.slice a n cap] w fun e w' => ∃ ax T cx g cg F, e = .returned (.tuple #[.agg #[.slice ax T.length cx], .slice (some ⟨g, 0, none⟩) F.length cg]) ∧ Ints w' ax T ∧ (∀ g o, ax = some ⟨g, o, none⟩ → w.heap.size ≤ g) ∧ T.length ≤ 8 ∧ OwnInts w' w.heap.size (.slice (some ⟨g, 0, none⟩) F.length cg) F ∧ F.length ≤ 1048577 ∧ Below w.heap.size w w' := by
  obtain ⟨A, hA⟩ : ∃ A, A = w.heap.size := ⟨_, rfl⟩
  obtain ⟨W, hW⟩ : ∃ W, W = w.alloc (.cells #[.slice none 0 0] 26) := ⟨_, rfl⟩
  have zW : W.heap.size = A + 1 := by rw [hW, hA]; simp
  have RA0 : W.heap[A]? = some (.cells #[.slice none 0 0] 26 (0, 0)) := by rw [hW, hA]; exact heap_alloc_new w _
  have B0 : Below A w W := by rw [hW, hA]; exact (Below.refl _ w).alloc (Nat.le_refl _) _
  have hY0 : Byts W W.heap.size a n := by rw [zW]; exact ((hY.mono (by omega)).keep fun b o v hb h => by rw [hW]; exact kept_cell ((Below.refl w.heap.size w).alloc (Nat.le_refl _) _) h (by have := World.block_lt_of_cell? w _ h; exact this))
  have hc := drawRadius2_any a n cap hn W hY0
  have HA := Lib.hid hA
  have HW := Lib.hid hW
  clear hA hW hY0
  go_enter Try.func39, Try.ntmps39
  go_wp2_with fail
  rw [← HW.out, ← HA.out]
  refine hc.mono ?_
  rintro e w1 ⟨ax, T, cx, g, cg, E, rfl, hI, hax, hT, ownE, hE, hb1⟩
  have RA1 := row_g RA0 (grown_of_below hb1 none) (by simp)
  have B1 : Below A w w1 := B0.trans (hb1.mono (by omega))
  have hax' : ∀ g o, ax = some ⟨g, o, none⟩ → A + 1 ≤ g := fun g o e => by have := hax g o e; omega
  have hgA : A + 1 ≤ g := by have : W.heap.size ≤ g := ownBlock_ge5 ownE rfl; omega
  have ownW := ownE.rebase (base' := w.heap.size) (by have := HA.out; omega)
  have hAx : ∀ g o, ax = some ⟨g, o, none⟩ → g ≠ A := fun g o e => by have := hax' g o e; omega
  have hI1 := hI
  have own1 := ownW
  clear hI ownW
  clear hc hb1 RA0 B0 hax ownE zW
  have xA := cell_of1' RA1
  have fA := frozen_of_row w1 A 0 _ _ RA1
  have zA := row_lt RA1
  have HIe : Ints (w1.setCell ⟨A, 0, none⟩ (.slice ax T.length cx)) ax T := ints_setA hI1 hAx
  have owne := own_setO own1 A (fun e => by simp [Value.ownBlock] at e; omega) (.slice ax T.length cx)
  have Be : Below A w (w1.setCell ⟨A, 0, none⟩ (.slice ax T.length cx)) := B1.setCell (by simp) _
  go_wp2_with fail
  refine bodyPost_ret (by rw [results_cell_tmp1w rfl]; go_simp; try rfl) rfl ?_
  exact ⟨ax, T, cx, g, cg, E, rfl, HIe, (fun g o e => by have := hax' g o e; have := HA.out; omega), hT, owne, hE, by rw [← HA.out]; exact Be⟩

end Go.Proofs.Ytfpcdffahjoejaa

namespace Go.Proofs.Ytfpcdffahjoejaa
open Go.RowKit Cv
set_option linter.unusedVariables false
set_option linter.unusedSimpArgs false
set_option maxRecDepth 100000

theorem big_any (a : Option Addr) (n cap : Nat) (w : World) :
    Calls Try.prog 5 #[.slice a n cap] w fun e w' => e = .returned (.bool (decide (4096 < n))) ∧ Below w.heap.size w w' := by
  have e1 : decide ((4096 : Int) < (n : Int)) = decide (4096 < n) := by
    by_cases h : 4096 < n
    · rw [decide_eq_true h, decide_eq_true (by omega)]
    · rw [decide_eq_false h, decide_eq_false (by omega)]
  by_cases h : 4096 < n
  · have i1 : (4096 : Int) < (n : Int) := by omega
    rw [decide_eq_true h]
    clear e1 h
    go_enter Try.func5, Try.ntmps5
    go_wp2_with fail
    go_ret
    exact ⟨rfl, Below.refl _ _⟩
  · have i1 : ¬ (4096 : Int) < (n : Int) := by omega
    rw [decide_eq_false h]
    clear e1 h
    go_enter Try.func5, Try.ntmps5
    go_wp2_with fail
    go_ret
    exact ⟨rfl, Below.refl _ _⟩

theorem likeInts_same (a a' : Option Addr) (S : List Int) (c c' : Nat) (w : World) (hn : S.length ≤ 4294967296) (h : Ints w a S) (h' : Ints w a' S) :
    Calls Try.prog 17 #[.slice a S.length c, .slice a' S.length c'] w fun e w' => e = .returned (.bool true) ∧ Below w.heap.size w w' := by
  go_enter Try.func17, Try.ntmps17
  go_wp2
  go_loopw [5] (fun i wr => ∃ k : Nat, k ≤ S.length ∧ i = .int .i64 k ∧ Below w.heap.size w wr) (fun i _ => S.length - (intOf i).toNat)
  case atStart => exact ⟨0, Nat.zero_le _, rfl, Below.refl _ _⟩
  case round =>
    obtain ⟨k, hk, rfl, hbel⟩ := hrel
    by_cases hlt : k < S.length
    · obtain ⟨b, o, rfl, hb, hc⟩ := h.at hlt
      obtain ⟨b', o', rfl, hb', hc'⟩ := h'.at hlt
      have hck : wr.cell? ⟨b, o + k, none⟩ = some (.int .i64 (gi S k)) := (hbel.cell (p := ⟨b, o + k, none⟩) hb).trans (hc k hlt)
      have hck' : wr.cell? ⟨b', o' + k, none⟩ = some (.int .i64 (gi S k)) := (hbel.cell (p := ⟨b', o' + k, none⟩) hb').trans (hc' k hlt)
      clear hc hc'
      go_wp2
      go_quiet (fail)
      go_wp2
      go_roundw
      case rel => exact ⟨k + 1, by omega, by go_num, below_drewN hbel _⟩
      case measure => simp [intOf]; omega
    · go_wp2
      go_ret
      exact ⟨rfl, hbel⟩

/-- is x among the first k numbers of S -/
def hasTo (S : List Int) (x : Int) : Nat → Bool
  | 0 => false
  | k + 1 => hasTo S x k || gi S k == x
theorem hasTo_iff (S : List Int) (x : Int) : ∀ k, hasTo S x k = true ↔ ∃ j, j < k ∧ gi S j = x := by
  intro k
  induction k with
  | zero => simp [hasTo]
  | succ k ih =>
    simp only [hasTo, Bool.or_eq_true, ih, beq_iff_eq]
    constructor
    · rintro (⟨j, hj, e⟩ | e)
      · exact ⟨j, by omega, e⟩
      · exact ⟨k, by omega, e⟩
    · rintro ⟨j, hj, e⟩
      by_cases h : j = k
      · subst h; exact .inr e
      · exact .inl ⟨j, by omega, e⟩
theorem hasTo_mono {S : List Int} {x : Int} {k n : Nat} (h : k ≤ n) (hk : hasTo S x k = true) : hasTo S x n = true := by
  obtain ⟨j, hj, e⟩ := (hasTo_iff S x k).1 hk
  exact (hasTo_iff S x n).2 ⟨j, by omega, e⟩
theorem hasInt_any (a : Option Addr) (S : List Int) (c : Nat) (x : Int) (w : World) (hn : S.length ≤ 4294967296) (h : Ints w a S) :
    Calls Try.prog 28 #[.slice a S.length c, .int .i64 x] w fun e w' => e = .returned (.bool (hasTo S x S.length)) ∧ Below w.heap.size w w' := by
  obtain ⟨V, hV⟩ : ∃ V, V = hasTo S x S.length := ⟨_, rfl⟩
  rw [← hV]
  have HV := Lib.hid hV
  clear hV
  go_enter Try.func28, Try.ntmps28
  go_wp2
  go_loopw [5] (fun i wr => ∃ k : Nat, k ≤ S.length ∧ i = .int .i64 k ∧ Hid (hasTo S x k = false) ∧ Below w.heap.size w wr) (fun i _ => S.length - (intOf i).toNat)
  case atStart => exact ⟨0, Nat.zero_le _, rfl, Lib.hid rfl, Below.refl _ _⟩
  case round =>
    obtain ⟨k, hk, rfl, HK, hbel⟩ := hrel
    by_cases hlt : k < S.length
    · obtain ⟨b, o, rfl, hb, hc⟩ := h.at hlt
      have hck : wr.cell? ⟨b, o + k, none⟩ = some (.int .i64 (gi S k)) := (hbel.cell (p := ⟨b, o + k, none⟩) hb).trans (hc k hlt)
      clear hc
      by_cases he : gi S k = x
      · have hbe : (gi S k == x) = true := by simpa using he
        have hVt : Hid (V = true) := Lib.hid (by rw [HV.out]; exact (hasTo_iff S x _).2 ⟨k, hlt, he⟩)
        clear he
        go_wp2
        go_ret
        exact ⟨by rw [hVt.out]; rfl, hbel⟩
      · have hbe : (gi S k == x) = false := by simpa using he
        have HK' : Hid (hasTo S x (k + 1) = false) := Lib.hid (by show (hasTo S x k || gi S k == x) = false; rw [HK.out, hbe]; rfl)
        clear he
        go_wp2
        go_roundw
        case rel => exact ⟨k + 1, by omega, by go_num, HK', hbel⟩
        case measure => simp [intOf]; omega
    · have hVf : Hid (V = false) := Lib.hid (by rw [HV.out, show S.length = k by omega]; exact HK.out)
      go_wp2
      go_ret
      exact ⟨by rw [hVf.out]; rfl, hbel⟩

end Go.Proofs.Ytfpcdffahjoejaa

namespace Go.Proofs.Ytfpcdffahjoejaa
set_option linter.unusedVariables false
set_option linter.unusedSimpArgs false
namespace Cv

theorem minTo_at (f : Nat → Int) (k : Nat) : ∃ j, j ≤ k ∧ f j = minTo f k := by
  induction k with
  | zero => exact ⟨0, Nat.le_refl _, rfl⟩
  | succ k ih =>
    obtain ⟨j, hj, e⟩ := ih
    show ∃ j, _ ∧ f j = min (minTo f k) (f (k + 1))
    by_cases h : minTo f k ≤ f (k + 1)
    · exact ⟨j, by omega, by rw [Int.min_eq_left h]; exact e⟩
    · exact ⟨k + 1, by omega, by rw [Int.min_eq_right (by omega)]⟩
theorem farB_at (f : Nat → Int) (k : Nat) : f (farB f k).1.toNat = (farB f k).2 := by
  induction k with
  | zero => rfl
  | succ k ih =>
    simp only [farB]
    split
    · show f ((k + 1 : Nat) : Int).toNat = _
      rw [Int.toNat_natCast]
    · exact ih
theorem mem_nearOut {S C : List Int} {x m u : Int} (k : Nat) : u ∈ nearOut S C x m k ↔ ∃ j, j < k ∧ gi C j = u ∧ dist S u x = m := by
  induction k with
  | zero => simp [nearOut]
  | succ k ih =>
    simp only [nearOut, List.mem_append, ih]
    constructor
    · rintro (⟨j, hj, h1, h2⟩ | h)
      · exact ⟨j, by omega, h1, h2⟩
      · split at h
        · rename_i hd
          have e : u = gi C k := by simpa using h
          exact ⟨k, by omega, e.symm, by rw [e]; exact hd⟩
        · simp at h
    · rintro ⟨j, hj, h1, h2⟩
      by_cases e : j = k
      · subst e
        rw [h1, if_pos h2]
        exact .inr (by simp)
      · exact .inl ⟨j, by omega, h1, h2⟩
theorem near_own {S C : List Int} {x : Int} (h : eNear S C x = 0) {i : Nat} (hi : i < C.length) :
    eWords S [gi C i, x] = 0 ∧ vDist S (gi C i) x = dist S (gi C i) x ∧ toW S C x ≤ dist S (gi C i) x ∧ (dist S (gi C i) x = toW S C x ↔ gi C i ∈ vNear S C x) := by
  obtain ⟨h1, h2⟩ := eCW_zero h
  obtain ⟨hs, hc, _⟩ := eCode_zero h1
  obtain ⟨_, x0, x1⟩ := eWords1 h2
  have hw : eWords S [gi C i, x] = 0 := eWords_ok ((isSp_iff S).2 hs) fun k hk => by
    match k, hk with
    | 0, _ => exact hc i hi
    | 1, _ => exact ⟨x0, x1⟩
  refine ⟨hw, by unfold vDist; rw [if_pos hw], minTo_le _ _ i (by omega), ?_⟩
  unfold vNear
  rw [if_pos h, mem_nearOut]
  constructor
  · intro e; exact ⟨i, hi, rfl, e⟩
  · rintro ⟨j, _, _, e⟩; exact e
theorem near_some {S C : List Int} {x : Int} (h : eNear S C x = 0) (hc : 0 < C.length) : 0 < (vNear S C x).length := by
  obtain ⟨j, hj, e⟩ := minTo_at (fun k => dist S (gi C k) x) (C.length - 1)
  have := ((near_own h (i := j) (by omega)).2.2.2).1 e
  exact List.length_pos_of_mem this
theorem near_no {S C : List Int} {x : Int} (h : eNear S C x ≠ 0) : vNear S C x = [] ∧ eTo S C x = eNear S C x := by
  refine ⟨by unfold vNear; rw [if_neg h], ?_⟩
  unfold eTo eSome
  rw [if_neg (fun e => h e.1)]; rfl
theorem near_nil {S C : List Int} {x : Int} (h : eNear S C x = 0) (hc : C.length = 0) : vNear S C x = [] ∧ eTo S C x = 5 := by
  refine ⟨by unfold vNear; rw [if_pos h, hc]; rfl, ?_⟩
  unfold eTo eSome
  rw [if_pos ⟨h, hc⟩]
theorem near_to {S C : List Int} {x : Int} (h : eNear S C x = 0) (hc : 0 < C.length) : eTo S C x = 0 ∧ vTo S C x = toW S C x := by
  have e : eTo S C x = 0 := by
    unfold eTo eSome
    rw [if_neg (by omega)]; exact h
  exact ⟨e, by unfold vTo; rw [if_pos e]⟩
theorem far_to {S C : List Int} (h : eFull S C = 0) : eTo S C (vFarthest S C) = 0 ∧ vTo S C (vFarthest S C) = vRadius S C ∧ 0 ≤ vFarthest S C ∧ vFarthest S C < nW S := by
  obtain ⟨h1, hc⟩ := eFull_zero h
  obtain ⟨hs, _, _⟩ := eCode_zero h1
  have hn := nW_bd hs
  have hf : vFarthest S C = (farW S C).1 := by unfold vFarthest; rw [if_pos h]
  have hr : vRadius S C = (farW S C).2 := by unfold vRadius; rw [if_pos h]
  have hb := (farB_bd (fun (u : Nat) => toW S C (u : Int)) ((nW S).toNat - 1) 0 S.length (fun j _ => toW_bd S C j)).1
  have ha := farB_at (fun (u : Nat) => toW S C (u : Int)) ((nW S).toNat - 1)
  have b0 : 0 ≤ (farW S C).1 := hb.1
  have b1 : (farW S C).1 < nW S := by have := hb.2; show (farB _ _).1 < _; omega
  have hw : eWords S [(farW S C).1] = 0 := by rw [eWords_w hs, if_pos ⟨b0, b1⟩]
  have hn0 : eNear S C (farW S C).1 = 0 := by unfold eNear eCW orI; rw [if_pos h1]; exact hw
  obtain ⟨t1, t2⟩ := near_to hn0 hc
  rw [hf, hr]
  refine ⟨t1, ?_, b0, b1⟩
  rw [t2]
  have e : (((farW S C).1.toNat : Nat) : Int) = (farW S C).1 := by omega
  have ha' : toW S C (((farW S C).1.toNat : Nat) : Int) = (farW S C).2 := ha
  rw [e] at ha'
  exact ha'

end Cv
end Go.Proofs.Ytfpcdffahjoejaa
