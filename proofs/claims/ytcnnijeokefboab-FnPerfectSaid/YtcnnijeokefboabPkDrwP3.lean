/-
  The draws of chapter 6: a word to decode, numbers for a Hamming code. By an AI agent.
-/
import Derived.Test.YtcnnijeokefboabPkDrwP2
namespace Go.Proofs.Ytcnnijeokefboab
open Go.RowKit Cv
set_option linter.unusedVariables false
set_option linter.unusedSimpArgs false
set_option maxRecDepth 100000

set_option maxHeartbeats 8000000 in
theorem drawDecode_any (a : Option Addr) (n cap : Nat) (hn : n ≤ 4096) (w : World) (hY : Byts w w.heap.size a n) :
    Calls Try.prog 5 #[.slice a n cap] w fun e w' => ∃ ax T cx g cg F r y, e = .returned (.tuple #[.agg #[.slice ax T.length cx], .slice (some ⟨g, 0, none⟩) F.length cg, .int .i64 r, .int .i64 y]) ∧ Ints w' ax T ∧ (∀ g o, ax = some ⟨g, o, none⟩ → w.heap.size ≤ g) ∧ T.length ≤ 8 ∧ OwnInts w' w.heap.size (.slice (some ⟨g, 0, none⟩) F.length cg) F ∧ F.length ≤ 1048577 ∧ (-9223372036854775808 ≤ r ∧ r ≤ 9223372036854775807) ∧ (-9223372036854775808 ≤ y ∧ y ≤ 9223372036854775807) ∧ Below w.heap.size w w' := by
  obtain ⟨A, hA⟩ : ∃ A, A = w.heap.size := ⟨_, rfl⟩
  obtain ⟨W, hW⟩ : ∃ W, W = w.alloc (.cells #[.slice none 0 0] 26) := ⟨_, rfl⟩
  have zW : W.heap.size = A + 1 := by rw [hW, hA]; simp
  have RA : W.heap[A]? = some (.cells #[.slice none 0 0] 26 (0, 0)) := by rw [hW, hA]; exact heap_alloc_new w _
  have B : Below A w W := by rw [hW, hA]; exact (Below.refl _ w).alloc (Nat.le_refl _) _
  have hY0 : Byts W W.heap.size a n := by rw [zW]; exact ((hY.mono (by omega)).keep fun b o v hb h => by rw [hW]; exact kept_cell ((Below.refl w.heap.size w).alloc (Nat.le_refl _) _) h (by have := World.block_lt_of_cell? w _ h; exact this))
  have hfr := from_any a n cap hn W hY0
  have HA := Lib.hid hA
  have HW := Lib.hid hW
  obtain ⟨b, hb⟩ : ∃ b, b = W.heap.size := ⟨_, rfl⟩
  rw [← hb] at hfr hY0
  have hbA : b = A + 1 := by omega
  have HB := Lib.hid hb
  clear hA hW
  go_enter Try.func5, Try.ntmps5
  go_wp2_with fail
  rw [← HW.out, ← HA.out]
  refine hfr.mono ?_
  rintro e w1 ⟨rfl, hs, hb1⟩
  rw [hb] at hb1
  replace RA := row_g RA (grown_of_below hb1 none) (by simp)
  replace B := B.trans (hb1.mono (by omega))
  have hAb : A < b := by omega
  have hY1 : Byts w1 w1.heap.size a n := (hY0.keep fun b' o v hb' h => kept_cell hb1 h (by omega)).mono (by have := hs.lt; omega)
  clear hfr hb1 hb zW hbA hY hY0
  have hc := perfWith_any a n cap hn w1 hY1
  have zb1 := hs.lt
  have zw1 := B.size
  clear hY1
  go_wp2_with fail
  refine hc.mono ?_
  rintro e u1 ⟨ax, T, cx, g, cg, E, r, rfl, hI, hax, hT, ownE, hE, hr, hb⟩
  replace RA : u1.heap[A]? = some (.cells #[.slice none 0 0] 26 (0, 0)) := row_g RA (grown_of_below hb none) (by simp)
  replace B : Below A w u1 := B.trans (hb.mono (by first | exact B.size | (have := hs.lt; omega)))
  replace hs : Src u1 b a n cap := hs.below hb hs.lt
  have hX : IntsX b u1 ax T := ⟨hI, fun g o e => by have := hax g o e; omega⟩
  have zg : w1.heap.size ≤ g := ownBlock_ge5 ownE rfl
  have hgb : b < g := by omega
  have hgz : g < u1.heap.size := ownE.base_le.2
  replace ownE := ownE.rebase (base' := w.heap.size) (by have := HA.out; omega)
  clear hc hb hI hax zg zb1 zw1
  have hAl := row_lt RA
  have hbl := hs.lt
  obtain ⟨Xb, hXb⟩ : ∃ z, z = u1.heap.size := ⟨_, rfl⟩
  obtain ⟨u2, hu2⟩ : ∃ z, z = u1.alloc (.cells #[.slice ax T.length cx] 26) := ⟨_, rfl⟩
  have RX : u2.heap[Xb]? = some (.cells #[.slice ax T.length cx] 26 (0, 0)) := by rw [hu2, hXb]; exact heap_alloc_new _ _
  replace RA : u2.heap[A]? = some (.cells #[.slice none 0 0] 26 (0, 0)) := by rw [hu2]; exact row_g RA (World.grownBy_alloc _ _ none) (by simp)
  replace B : Below A w u2 := by rw [hu2]; exact B.alloc (by first | exact B.size | omega) _
  replace hs : Src u2 b a n cap := by rw [hu2]; exact hs.alloc _
  replace hX : IntsX b u2 ax T := by rw [hu2]; exact hX.below (B := 0) ((Below.refl _ _).alloc (Nat.le_refl _) _)
  replace ownE : OwnInts u2 w.heap.size (.slice (some ⟨g, 0, none⟩) E.length cg) E := by rw [hu2]; exact ownE.alloc _
  have HXb := Lib.hid hXb
  have Hu2 := Lib.hid hu2
  have hAX : A < Xb := by rw [hXb]; exact hAl
  have hbX : b < Xb := by rw [hXb]; exact hbl
  have hgX : g < Xb := by rw [hXb]; exact hgz
  clear hXb hu2 hAl hbl hgz
  have xX := cell_of1' RX
  have hc := l01Is_any ax T cx u2 (by omega) hX.1
  go_wp2_with fail
  rw [← Hu2.out, ← HXb.out]
  refine hc.mono ?_
  rintro e u3 ⟨rfl, hb⟩
  replace RA : u3.heap[A]? = some (.cells #[.slice none 0 0] 26 (0, 0)) := row_g RA (grown_of_below hb none) (by simp)
  replace B : Below A w u3 := B.trans (hb.mono (by first | exact B.size | (have := hs.lt; omega)))
  replace hs : Src u3 b a n cap := hs.below hb hs.lt
  replace hX : IntsX b u3 ax T := hX.below (B := 0) hb
  replace ownE : OwnInts u3 w.heap.size (.slice (some ⟨g, 0, none⟩) E.length cg) E := ownE.below hb
  replace RX : u3.heap[Xb]? = some (.cells #[.slice ax T.length cx] 26 (0, 0)) := row_g RX (grown_of_below hb none) (by simp)
  clear hc hb xX
  have xX := cell_of1' RX
  cases hq : isSp T with
  | true =>
    have hSp : Sp T := (isSp_iff T).1 hq
    obtain ⟨N1, N2⟩ := nW_bd hSp
    have hN := l01N_any ax T cx u3 hSp.hi hSp.bd hX.1
    obtain ⟨M, hM⟩ : ∃ M, M = prodTo T T.length := ⟨_, rfl⟩
    unfold nW at N1 N2
    rw [← hM] at N1 N2
    have EN : IntKind.i64.wrap (M - 1) = M - 1 := IntWalk.i64_in _ ⟨by omega, by omega⟩
    try unfold nW at hN
    rw [← hM] at hN
    clear hM hSp hq
    go_wp2_with fail
    refine hN.mono ?_
    rintro e u4 ⟨rfl, hb⟩
    replace RA : u4.heap[A]? = some (.cells #[.slice none 0 0] 26 (0, 0)) := row_g RA (grown_of_below hb none) (by simp)
    replace B : Below A w u4 := B.trans (hb.mono (by first | exact B.size | (have := hs.lt; omega)))
    replace hs : Src u4 b a n cap := hs.below hb hs.lt
    replace hX : IntsX b u4 ax T := hX.below (B := 0) hb
    replace ownE : OwnInts u4 w.heap.size (.slice (some ⟨g, 0, none⟩) E.length cg) E := ownE.below hb
    replace RX : u4.heap[Xb]? = some (.cells #[.slice ax T.length cx] 26 (0, 0)) := row_g RX (grown_of_below hb none) (by simp)
    clear hN hb xX
    go_wp2_with fail
    refine wp_region_held_drew (S := fun w' => w'.cell? ⟨Xb, 0, none⟩ = some (.slice ax T.length cx)) (by kernel_rfl) (cell_of1' RX) (fun hHeld => ?_)
    refine wpAnyH_take (i := 0) (v := ?_) rfl (by kernel_rfl) (by kernel_rfl) (by kernel_rfl) (fun _ _ _ h => h) (Or.inl ⟨by rfl, ?_⟩) (by assumption) ?_
    rotate_left
    · (intro w hSw; obtain hSw := hSw; (try dsimp only at hSw); go_simp; try (with_reducible rfl))
    (try simp only [Act.put, List.setIfInBounds_toArray, List.set_cons_zero, List.set_cons_succ, List.getElem_toArray, List.getElem_cons_succ, List.getElem_cons_zero])
    refine wpAnyH_take (i := 1) (v := ?_) rfl (by kernel_rfl) (by kernel_rfl) (by kernel_rfl) (fun _ _ _ h => h) (Or.inl ⟨by rfl, ?_⟩) (by assumption) ?_
    rotate_left
    · (intro w hSw; obtain hSw := hSw; (try dsimp only at hSw); go_simp; try (with_reducible rfl))
    (try simp only [Act.put, List.setIfInBounds_toArray, List.set_cons_zero, List.set_cons_succ, List.getElem_toArray, List.getElem_cons_succ, List.getElem_cons_zero])
    refine wpAnyH_take (i := 2) (v := ?_) rfl (by kernel_rfl) (by kernel_rfl) (by kernel_rfl) (fun _ _ _ h => h) (Or.inl ⟨by rfl, ?_⟩) (by assumption) ?_
    rotate_left
    · (intro w hSw; obtain hSw := hSw; (try dsimp only at hSw); go_simp; try (with_reducible rfl))
    (try simp only [Act.put, List.setIfInBounds_toArray, List.set_cons_zero, List.set_cons_succ, List.getElem_toArray, List.getElem_cons_succ, List.getElem_cons_zero])
    refine wpAnyH_take (i := 3) (v := ?_) rfl (by kernel_rfl) (by kernel_rfl) (by kernel_rfl) (fun _ _ _ h => h) (Or.inl ⟨by rfl, ?_⟩) (by assumption) ?_
    rotate_left
    · (intro w hSw; obtain hSw := hSw; (try dsimp only at hSw); go_simp; try (with_reducible rfl))
    (try simp only [Act.put, List.setIfInBounds_toArray, List.set_cons_zero, List.set_cons_succ, List.getElem_toArray, List.getElem_cons_succ, List.getElem_cons_zero])
    refine wpAnyH_take (i := 4) (v := ?_) rfl (by kernel_rfl) (by kernel_rfl) (by kernel_rfl) (fun _ _ _ h => h) (Or.inl ⟨by rfl, ?_⟩) (by assumption) ?_
    rotate_left
    · (intro w hSw; obtain hSw := hSw; (try dsimp only at hSw); go_simp; try (with_reducible rfl))
    (try simp only [Act.put, List.setIfInBounds_toArray, List.set_cons_zero, List.set_cons_succ, List.getElem_toArray, List.getElem_cons_succ, List.getElem_cons_zero])
    replace RA : u4.drew.heap[A]? = some (.cells #[.slice none 0 0] 26 (0, 0)) := RA
    replace B : Below A w u4.drew := B.drew
    replace hs : Src u4.drew b a n cap := hs.drewN 1
    replace hX : IntsX b u4.drew ax T := hX
    replace ownE : OwnInts u4.drew w.heap.size (.slice (some ⟨g, 0, none⟩) E.length cg) E := ownE.drew
    replace RX : u4.drew.heap[Xb]? = some (.cells #[.slice ax T.length cx] 26 (0, 0)) := RX
    refine wpAnyH_ready (rs := [5]) (by kernel_rfl) (by simp) ?_
    refine AllReadyH.cons rfl (fun K hK => ?_) AllReadyH.nil
    go_simp
    (go_at_call 27; refine (near_any b a n cap hn (M - 1) (by omega) u4.drew hs).mono ?_)
    have zlt := hs.lt
    rintro e u5 ⟨y, rfl, hy, hs', hg⟩
    replace RA : u5.heap[A]? = some (.cells #[.slice none 0 0] 26 (0, 0)) := row_g RA hg (by simp; omega)
    replace B : Below A w u5 := below_g B (by omega) hg (by omega)
    replace hX : IntsX b u5 ax T := hX.grownR hg (by intro g o e; have := hX.2 g o e; simp; omega)
    replace ownE : OwnInts u5 w.heap.size (.slice (some ⟨g, 0, none⟩) E.length cg) E := ownE.kept hg (.inr (by simp [Value.ownBlock]; omega))
    replace RX : u5.heap[Xb]? = some (.cells #[.slice ax T.length cx] 26 (0, 0)) := row_g RX hg (by simp; omega)
    replace hs := hs'
    clear hg zlt hs'
    refine hK.out _ _ (cell_of1' RX) (fun hHeld => ?_)
    clear hK K
    (try simp only [Act.put, List.setIfInBounds_toArray, List.set_cons_zero, List.set_cons_succ, List.getElem_toArray, List.getElem_cons_succ, List.getElem_cons_zero])
    refine wpAnyH_ready (rs := [6]) (by kernel_rfl) (by simp) ?_
    refine AllReadyH.cons rfl (fun K hK => ?_) AllReadyH.nil
    clear hs
    have xSt := cell_of1' RA
    have fSt := frozen_of_row u5 A 0 _ _ RA
    have zSt := row_lt RA
    go_simp
    replace RA : (u5.setCell ⟨A, 0, none⟩ (.slice ax T.length cx)).heap[A]? = some (.cells #[.slice ax T.length cx] 26 (0, 0)) := row_store1' _ RA
    replace B : Below A w (u5.setCell ⟨A, 0, none⟩ (.slice ax T.length cx)) := B.setCell (by first | (simp; done) | (simp; omega)) _
    replace hX : IntsX b (u5.setCell ⟨A, 0, none⟩ (.slice ax T.length cx)) ax T := hX.set _ _ (by intro g o e; have := hX.2 g o e; omega)
    replace ownE : OwnInts (u5.setCell ⟨A, 0, none⟩ (.slice ax T.length cx)) w.heap.size (.slice (some ⟨g, 0, none⟩) E.length cg) E := own_setO ownE _ (fun e => by simp [Value.ownBlock] at e; omega) _
    replace RX : (u5.setCell ⟨A, 0, none⟩ (.slice ax T.length cx)).heap[Xb]? = some (.cells #[.slice ax T.length cx] 26 (0, 0)) := row_setO RX (by simp; omega) _
    clear xSt fSt zSt
    refine hK.out _ _ (cell_of1' RX) (fun hHeld => ?_)
    clear hK K
    (try simp only [Act.put, List.setIfInBounds_toArray, List.set_cons_zero, List.set_cons_succ, List.getElem_toArray, List.getElem_cons_succ, List.getElem_cons_zero])
    refine wpAnyH_take (i := 7) (v := ?_) rfl (by kernel_rfl) (by kernel_rfl) (by kernel_rfl) (fun _ _ _ h => h) (Or.inl ⟨by rfl, ?_⟩) (by assumption) ?_
    rotate_left
    · (intro w hSw; obtain hSw := hSw; (try dsimp only at hSw); go_simp; try (with_reducible rfl))
    (try simp only [Act.put, List.setIfInBounds_toArray, List.set_cons_zero, List.set_cons_succ, List.getElem_toArray, List.getElem_cons_succ, List.getElem_cons_zero])
    refine wpAnyH_take (i := 8) (v := ?_) rfl (by kernel_rfl) (by kernel_rfl) (by kernel_rfl) (fun _ _ _ h => h) (Or.inl ⟨by rfl, ?_⟩) (by assumption) ?_
    rotate_left
    · (intro w hSw; obtain hSw := hSw; (try dsimp only at hSw); go_simp; try (with_reducible rfl))
    (try simp only [Act.put, List.setIfInBounds_toArray, List.set_cons_zero, List.set_cons_succ, List.getElem_toArray, List.getElem_cons_succ, List.getElem_cons_zero])
    refine wpAnyH_take (i := 9) (v := ?_) rfl (by kernel_rfl) (by kernel_rfl) (by kernel_rfl) (fun _ _ _ h => h) (Or.inl ⟨by rfl, ?_⟩) (by assumption) ?_
    rotate_left
    · (intro w hSw; obtain hSw := hSw; (try dsimp only at hSw); go_simp; try (with_reducible rfl))
    (try simp only [Act.put, List.setIfInBounds_toArray, List.set_cons_zero, List.set_cons_succ, List.getElem_toArray, List.getElem_cons_succ, List.getElem_cons_zero])
    refine wpAnyH_done (by kernel_rfl) ?_ _
    (try simp only [Act.put, List.setIfInBounds_toArray, List.set_cons_zero, List.set_cons_succ, List.getElem_toArray, List.getElem_cons_succ, List.getElem_cons_zero])
    have xA := cell_of1' RA
    have zA := row_lt RA
    go_wp2_with fail
    refine bodyPost_ret (by rw [results_cell_tmp3w rfl]; go_simp; try rfl) rfl ?_
    exact ⟨ax, T, cx, g, cg, E, r, y, rfl, hX.1, (fun g o e => by have := hX.2 g o e; have := HA.out; omega), hT, ownE, hE, hr, hy, by rw [← HA.out]; exact B⟩
  | false =>
    clear hq xX
    go_wp2_with fail
    refine wp_region_held_drew (S := fun w' => w'.cell? ⟨Xb, 0, none⟩ = some (.slice ax T.length cx)) (by kernel_rfl) (cell_of1' RX) (fun hHeld => ?_)
    refine wpAnyH_take (i := 0) (v := ?_) rfl (by kernel_rfl) (by kernel_rfl) (by kernel_rfl) (fun _ _ _ h => h) (Or.inl ⟨by rfl, ?_⟩) (by assumption) ?_
    rotate_left
    · (intro w hSw; obtain hSw := hSw; (try dsimp only at hSw); go_simp; try (with_reducible rfl))
    (try simp only [Act.put, List.setIfInBounds_toArray, List.set_cons_zero, List.set_cons_succ, List.getElem_toArray, List.getElem_cons_succ, List.getElem_cons_zero])
    refine wpAnyH_take (i := 1) (v := ?_) rfl (by kernel_rfl) (by kernel_rfl) (by kernel_rfl) (fun _ _ _ h => h) (Or.inl ⟨by rfl, ?_⟩) (by assumption) ?_
    rotate_left
    · (intro w hSw; obtain hSw := hSw; (try dsimp only at hSw); go_simp; try (with_reducible rfl))
    (try simp only [Act.put, List.setIfInBounds_toArray, List.set_cons_zero, List.set_cons_succ, List.getElem_toArray, List.getElem_cons_succ, List.getElem_cons_zero])
    refine wpAnyH_take (i := 2) (v := ?_) rfl (by kernel_rfl) (by kernel_rfl) (by kernel_rfl) (fun _ _ _ h => h) (Or.inl ⟨by rfl, ?_⟩) (by assumption) ?_
    rotate_left
    · (intro w hSw; obtain hSw := hSw; (try dsimp only at hSw); go_simp; try (with_reducible rfl))
    (try simp only [Act.put, List.setIfInBounds_toArray, List.set_cons_zero, List.set_cons_succ, List.getElem_toArray, List.getElem_cons_succ, List.getElem_cons_zero])
    refine wpAnyH_take (i := 3) (v := ?_) rfl (by kernel_rfl) (by kernel_rfl) (by kernel_rfl) (fun _ _ _ h => h) (Or.inl ⟨by rfl, ?_⟩) (by assumption) ?_
    rotate_left
    · (intro w hSw; obtain hSw := hSw; (try dsimp only at hSw); go_simp; try (with_reducible rfl))
    (try simp only [Act.put, List.setIfInBounds_toArray, List.set_cons_zero, List.set_cons_succ, List.getElem_toArray, List.getElem_cons_succ, List.getElem_cons_zero])
    refine wpAnyH_take (i := 4) (v := ?_) rfl (by kernel_rfl) (by kernel_rfl) (by kernel_rfl) (fun _ _ _ h => h) (Or.inl ⟨by rfl, ?_⟩) (by assumption) ?_
    rotate_left
    · (intro w hSw; obtain hSw := hSw; (try dsimp only at hSw); go_simp; try (with_reducible rfl))
    (try simp only [Act.put, List.setIfInBounds_toArray, List.set_cons_zero, List.set_cons_succ, List.getElem_toArray, List.getElem_cons_succ, List.getElem_cons_zero])
    replace RA : u3.drew.heap[A]? = some (.cells #[.slice none 0 0] 26 (0, 0)) := RA
    replace B : Below A w u3.drew := B.drew
    replace hs : Src u3.drew b a n cap := hs.drewN 1
    replace hX : IntsX b u3.drew ax T := hX
    replace ownE : OwnInts u3.drew w.heap.size (.slice (some ⟨g, 0, none⟩) E.length cg) E := ownE.drew
    replace RX : u3.drew.heap[Xb]? = some (.cells #[.slice ax T.length cx] 26 (0, 0)) := RX
    refine wpAnyH_ready (rs := [5]) (by kernel_rfl) (by simp) ?_
    refine AllReadyH.cons rfl (fun K hK => ?_) AllReadyH.nil
    go_simp
    (go_at_call 27; refine (near_any b a n cap hn 3 (by omega) u3.drew hs).mono ?_)
    have zlt := hs.lt
    rintro e u4 ⟨y, rfl, hy, hs', hg⟩
    replace RA : u4.heap[A]? = some (.cells #[.slice none 0 0] 26 (0, 0)) := row_g RA hg (by simp; omega)
    replace B : Below A w u4 := below_g B (by omega) hg (by omega)
    replace hX : IntsX b u4 ax T := hX.grownR hg (by intro g o e; have := hX.2 g o e; simp; omega)
    replace ownE : OwnInts u4 w.heap.size (.slice (some ⟨g, 0, none⟩) E.length cg) E := ownE.kept hg (.inr (by simp [Value.ownBlock]; omega))
    replace RX : u4.heap[Xb]? = some (.cells #[.slice ax T.length cx] 26 (0, 0)) := row_g RX hg (by simp; omega)
    replace hs := hs'
    clear hg zlt hs'
    refine hK.out _ _ (cell_of1' RX) (fun hHeld => ?_)
    clear hK K
    (try simp only [Act.put, List.setIfInBounds_toArray, List.set_cons_zero, List.set_cons_succ, List.getElem_toArray, List.getElem_cons_succ, List.getElem_cons_zero])
    refine wpAnyH_ready (rs := [6]) (by kernel_rfl) (by simp) ?_
    refine AllReadyH.cons rfl (fun K hK => ?_) AllReadyH.nil
    clear hs
    have xSt := cell_of1' RA
    have fSt := frozen_of_row u4 A 0 _ _ RA
    have zSt := row_lt RA
    go_simp
    replace RA : (u4.setCell ⟨A, 0, none⟩ (.slice ax T.length cx)).heap[A]? = some (.cells #[.slice ax T.length cx] 26 (0, 0)) := row_store1' _ RA
    replace B : Below A w (u4.setCell ⟨A, 0, none⟩ (.slice ax T.length cx)) := B.setCell (by first | (simp; done) | (simp; omega)) _
    replace hX : IntsX b (u4.setCell ⟨A, 0, none⟩ (.slice ax T.length cx)) ax T := hX.set _ _ (by intro g o e; have := hX.2 g o e; omega)
    replace ownE : OwnInts (u4.setCell ⟨A, 0, none⟩ (.slice ax T.length cx)) w.heap.size (.slice (some ⟨g, 0, none⟩) E.length cg) E := own_setO ownE _ (fun e => by simp [Value.ownBlock] at e; omega) _
    replace RX : (u4.setCell ⟨A, 0, none⟩ (.slice ax T.length cx)).heap[Xb]? = some (.cells #[.slice ax T.length cx] 26 (0, 0)) := row_setO RX (by simp; omega) _
    clear xSt fSt zSt
    refine hK.out _ _ (cell_of1' RX) (fun hHeld => ?_)
    clear hK K
    (try simp only [Act.put, List.setIfInBounds_toArray, List.set_cons_zero, List.set_cons_succ, List.getElem_toArray, List.getElem_cons_succ, List.getElem_cons_zero])
    refine wpAnyH_take (i := 7) (v := ?_) rfl (by kernel_rfl) (by kernel_rfl) (by kernel_rfl) (fun _ _ _ h => h) (Or.inl ⟨by rfl, ?_⟩) (by assumption) ?_
    rotate_left
    · (intro w hSw; obtain hSw := hSw; (try dsimp only at hSw); go_simp; try (with_reducible rfl))
    (try simp only [Act.put, List.setIfInBounds_toArray, List.set_cons_zero, List.set_cons_succ, List.getElem_toArray, List.getElem_cons_succ, List.getElem_cons_zero])
    refine wpAnyH_take (i := 8) (v := ?_) rfl (by kernel_rfl) (by kernel_rfl) (by kernel_rfl) (fun _ _ _ h => h) (Or.inl ⟨by rfl, ?_⟩) (by assumption) ?_
    rotate_left
    · (intro w hSw; obtain hSw := hSw; (try dsimp only at hSw); go_simp; try (with_reducible rfl))
    (try simp only [Act.put, List.setIfInBounds_toArray, List.set_cons_zero, List.set_cons_succ, List.getElem_toArray, List.getElem_cons_succ, List.getElem_cons_zero])
    refine wpAnyH_take (i := 9) (v := ?_) rfl (by kernel_rfl) (by kernel_rfl) (by kernel_rfl) (fun _ _ _ h => h) (Or.inl ⟨by rfl, ?_⟩) (by assumption) ?_
    rotate_left
    · (intro w hSw; obtain hSw := hSw; (try dsimp only at hSw); go_simp; try (with_reducible rfl))
    (try simp only [Act.put, List.setIfInBounds_toArray, List.set_cons_zero, List.set_cons_succ, List.getElem_toArray, List.getElem_cons_succ, List.getElem_cons_zero])
    refine wpAnyH_done (by kernel_rfl) ?_ _
    (try simp only [Act.put, List.setIfInBounds_toArray, List.set_cons_zero, List.set_cons_succ, List.getElem_toArray, List.getElem_cons_succ, List.getElem_cons_zero])
    have xA := cell_of1' RA
    have zA := row_lt RA
    go_wp2_with fail
    refine bodyPost_ret (by rw [results_cell_tmp3w rfl]; go_simp; try rfl) rfl ?_
    exact ⟨ax, T, cx, g, cg, E, r, y, rfl, hX.1, (fun g o e => by have := hX.2 g o e; have := HA.out; omega), hT, ownE, hE, hr, hy, by rw [← HA.out]; exact B⟩

set_option maxHeartbeats 2000000 in
theorem drawCols_any (a : Option Addr) (n cap : Nat) (hn : n ≤ 4096) (w : World) (hY : Byts w w.heap.size a n) :
    Calls Try.prog 39 #[.slice a n cap] w fun e w' => ∃ q m, e = .returned (.tuple #[.int .i64 q, .int .i64 m]) ∧ (-9223372036854775808 ≤ q ∧ q ≤ 9223372036854775807) ∧ (-9223372036854775808 ≤ m ∧ m ≤ 9223372036854775807) ∧ Below w.heap.size w w' := by
  have hfr := from_any a n cap hn w hY
  obtain ⟨b, hb⟩ : ∃ b, b = w.heap.size := ⟨_, rfl⟩
  rw [← hb] at hfr
  have HB := Lib.hid hb
  go_enter Try.func39, Try.ntmps39
  go_wp2_with fail
  refine hfr.mono ?_
  rintro e w1 ⟨rfl, hs, hb1⟩
  have B : Below b w w1 := by rw [hb]; exact hb1.mono (by omega)
  clear hfr hb1 hb hY
  have hc := near_any b a n cap hn 4 (by omega) w1 hs
  go_wp2_with fail
  refine hc.mono ?_
  rintro e w2 ⟨y, rfl, hy, hs2, hg2⟩
  have B2 := below_g B (by have := hs.lt; omega) hg2 (by omega)
  clear hc hg2 hs B
  obtain ⟨u5, hu5⟩ : ∃ u, u = w2.alloc (.cells #[.int .i64 2, .int .i64 3, .int .i64 2, .int .i64 3, .int .i64 y] 2) := ⟨_, rfl⟩
  have hs3 : Src u5 b a n cap := by rw [hu5]; exact hs2.alloc _
  have B3 : Below b w u5 := by rw [hu5]; exact B2.alloc (by have := hs2.lt; omega) _
  have I3 : Ints u5 (some ⟨w2.heap.size, 0, none⟩) [2, 3, 2, 3, y] := by rw [hu5]; exact ints_new w2 _ _
  have hc := pick_n b a n cap hn w2.heap.size _ 5 rfl (by omega) (by omega) (by have := hs2.lt; omega) u5 hs3 I3
  have HU := Lib.hid hu5
  clear hu5 I3 B2 hs2
  go_wp2_with fail
  rw [← HU.out]
  refine hc.mono ?_
  rintro e w4 ⟨q, rfl, hq, hs4, hg4⟩
  replace hq : -9223372036854775808 ≤ q ∧ q ≤ 9223372036854775807 := by simp only [List.mem_cons, List.not_mem_nil, or_false] at hq; omega
  have B4 := below_g B3 (by have := hs3.lt; omega) hg4 (by omega)
  clear hc hg4 hs3 B3
  have hc := near_any b a n cap hn 3 (by omega) w4 hs4
  go_wp2_with fail
  refine hc.mono ?_
  rintro e w5 ⟨m, rfl, hm, hs5, hg5⟩
  have B5 := below_g B4 (by have := hs4.lt; omega) hg5 (by omega)
  clear hc hg5 hs4 B4 hs5
  go_wp2_with fail
  go_ret2
  exact ⟨q, m, rfl, hq, hm, by rw [← HB.out]; exact B5⟩
set_option maxHeartbeats 2000000 in
theorem drawHam_any (a : Option Addr) (n cap : Nat) (hn : n ≤ 4096) (w : World) (hY : Byts w w.heap.size a n) :
    Calls Try.prog 13 #[.slice a n cap] w fun e w' => ∃ q m, e = .returned (.tuple #[.int .i64 q, .int .i64 m]) ∧ (-9223372036854775808 ≤ q ∧ q ≤ 9223372036854775807) ∧ (-9223372036854775808 ≤ m ∧ m ≤ 9223372036854775807) ∧ Below w.heap.size w w' := by
  have hc := drawCols_any a n cap hn w hY
  go_enter Try.func13, Try.ntmps13
  go_wp2_with fail
  refine hc.mono ?_
  rintro e w1 ⟨q, m, rfl, hq, hm, hb⟩
  clear hc
  go_wp2_with fail
  go_ret2
  exact ⟨q, m, rfl, hq, hm, hb⟩

end Go.Proofs.Ytcnnijeokefboab
