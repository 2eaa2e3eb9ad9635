/-
  The draws of chapter 6 from bytes. By an AI agent.
-/
import Derived.Test.YtcnnijeokefboabPkDrwP
namespace Go.Proofs.Ytcnnijeokefboab
open Go.RowKit Cv
set_option linter.unusedVariables false
set_option linter.unusedSimpArgs false
set_option maxRecDepth 100000

set_option maxHeartbeats 8000000 in
theorem perfWith_any (a : Option Addr) (n cap : Nat) (hn : n ≤ 4096) (w : World) (hY : Byts w w.heap.size a n) :
    Calls Try.prog 24 #[.slice a n cap] w fun e w' => ∃ ax T cx g cg F r, e = .returned (.tuple #[.agg #[.slice ax T.length cx], .slice (some ⟨g, 0, none⟩) F.length cg, .int .i64 r]) ∧ Ints w' ax T ∧ (∀ g o, ax = some ⟨g, o, none⟩ → w.heap.size ≤ g) ∧ T.length ≤ 8 ∧ OwnInts w' w.heap.size (.slice (some ⟨g, 0, none⟩) F.length cg) F ∧ F.length ≤ 1048577 ∧ (-9223372036854775808 ≤ r ∧ r ≤ 9223372036854775807) ∧ Below w.heap.size w w' := by
  obtain ⟨A, hA⟩ : ∃ A, A = w.heap.size := ⟨_, rfl⟩
  obtain ⟨W, hW⟩ : ∃ W, W = w.alloc (.cells #[.slice none 0 0] 26) := ⟨_, rfl⟩
  have zW : W.heap.size = A + 1 := by rw [hW, hA]; simp
  have RA : W.heap[A]? = some (.cells #[.slice none 0 0] 26 (0, 0)) := by rw [hW, hA]; exact heap_alloc_new w _
  have B : Below A w W := by rw [hW, hA]; exact (Below.refl _ w).alloc (Nat.le_refl _) _
  have hY0 : Byts W W.heap.size a n := by rw [zW]; exact ((hY.mono (by omega)).keep fun b o v hb h => by rw [hW]; exact kept_cell ((Below.refl w.heap.size w).alloc (Nat.le_refl _) _) h (by have := World.block_lt_of_cell? w _ h; exact this))
  have hfr := from_any a n cap hn W hY0
  have HA := Lib.hid hA
  have HW := Lib.hid hW
  obtain ⟨b, hb⟩ : ∃ b, b = W.heap.size := ⟨_, rfl⟩
  rw [← hb] at hfr hY0
  have hbA : b = A + 1 := by omega
  have HB := Lib.hid hb
  clear hA hW
  go_enter Try.func24, Try.ntmps24
  go_wp2_with fail
  rw [← HW.out, ← HA.out]
  refine hfr.mono ?_
  rintro e w1 ⟨rfl, hs, hb1⟩
  rw [hb] at hb1
  replace RA := row_g RA (grown_of_below hb1 none) (by simp)
  replace B := B.trans (hb1.mono (by omega))
  have hAb : A < b := by omega
  clear hfr hb1 hb zW hbA hY hY0
  have hc := perfDraw_any b a n cap hn w1 hs
  have zlt := hs.lt
  go_wp2_with fail
  refine hc.mono ?_
  rintro e u1 ⟨x, S, c, aC, C, cg, r, rfl, hX, hSp, hC, hcap, hL1, hL2, hbd, hr, hs', hg⟩
  replace RA : u1.heap[A]? = some (.cells #[.slice none 0 0] 26 (0, 0)) := row_g RA hg (by simp; omega)
  replace B : Below A w u1 := below_g B (by omega) hg (by omega)
  replace hs := hs'
  clear hc hg hs' zlt
  have hAl := row_lt RA
  have hbl := hs.lt
  obtain ⟨Xb, hXb⟩ : ∃ z, z = u1.heap.size := ⟨_, rfl⟩
  obtain ⟨u2, hu2⟩ : ∃ z, z = u1.alloc (.cells #[.slice x S.length c] 26) := ⟨_, rfl⟩
  have RX : u2.heap[Xb]? = some (.cells #[.slice x S.length c] 26 (0, 0)) := by rw [hu2, hXb]; exact heap_alloc_new _ _
  replace RA : u2.heap[A]? = some (.cells #[.slice none 0 0] 26 (0, 0)) := by rw [hu2]; exact row_g RA (World.grownBy_alloc _ _ none) (by simp)
  replace B : Below A w u2 := by rw [hu2]; exact B.alloc (by first | exact B.size | omega) _
  replace hs : Src u2 b a n cap := by rw [hu2]; exact hs.alloc _
  replace hX : IntsX b u2 x S := by rw [hu2]; exact hX.below (B := 0) ((Below.refl _ _).alloc (Nat.le_refl _) _)
  replace hC : IntsX b u2 aC C := by rw [hu2]; exact hC.below (B := 0) ((Below.refl _ _).alloc (Nat.le_refl _) _)
  have HXb := Lib.hid hXb
  have Hu2 := Lib.hid hu2
  have hAX : A < Xb := by rw [hXb]; exact hAl
  have hbX : b < Xb := by rw [hXb]; exact hbl
  clear hXb hu2 hAl hbl
  obtain ⟨N1, N2⟩ := nW_bd hSp
  unfold nW at N1 N2
  have hl : C.length ≤ 1048576 := by omega
  have zlt := hs.lt
  have hnx := next_any b a n cap hn 2 (by omega) u2 hs
  go_wp2_with fail
  rw [← Hu2.out, ← HXb.out]
  refine hnx.mono ?_
  rintro e u3 ⟨p, rfl, p0, p1, p2, hs', hg⟩
  replace RA : u3.heap[A]? = some (.cells #[.slice none 0 0] 26 (0, 0)) := row_g RA hg (by simp; omega)
  replace B : Below A w u3 := below_g B (by omega) hg (by omega)
  replace hX : IntsX b u3 x S := hX.grownR hg (by intro g o e; have := hX.2 g o e; simp; omega)
  replace hC : IntsX b u3 aC C := hC.grownR hg (by intro g o e; have := hC.2 g o e; simp; omega)
  replace RX : u3.heap[Xb]? = some (.cells #[.slice x S.length c] 26 (0, 0)) := row_g RX hg (by simp; omega)
  replace hs := hs'
  clear hnx hg hs' zlt p0 p1 p2
  by_cases hq0 : p = 0
  · have e0 : (p == 0) = true := by simpa using hq0
    clear hq0
    obtain ⟨bC, oC, rfl, _, _⟩ := hC.1.at hL1
    have xX := cell_of1' RX
    go_wp2_with fail
    refine wp_region_held_drew (S := fun w' => w'.cell? ⟨Xb, 0, none⟩ = some (.slice x S.length c)) (by kernel_rfl) (cell_of1' RX) (fun hHeld => ?_)
    refine wpAnyH_take (i := 0) (v := ?_) rfl (by kernel_rfl) (by kernel_rfl) (by kernel_rfl) (fun _ _ _ h => h) (Or.inl ⟨by rfl, ?_⟩) (by assumption) ?_
    rotate_left
    · (intro w hSw; obtain hSw := hSw; (try dsimp only at hSw); go_simp; try (with_reducible rfl))
    (try simp only [Act.put, List.setIfInBounds_toArray, List.set_cons_zero, List.set_cons_succ, List.getElem_toArray, List.getElem_cons_succ, List.getElem_cons_zero])
    refine wpAnyH_take (i := 1) (v := ?_) rfl (by kernel_rfl) (by kernel_rfl) (by kernel_rfl) (fun _ _ _ h => h) (Or.inl ⟨by rfl, ?_⟩) (by assumption) ?_
    rotate_left
    · (intro w hSw; obtain hSw := hSw; (try dsimp only at hSw); go_simp; try (with_reducible rfl))
    (try simp only [Act.put, List.setIfInBounds_toArray, List.set_cons_zero, List.set_cons_succ, List.getElem_toArray, List.getElem_cons_succ, List.getElem_cons_zero])
    refine wpAnyH_take (i := 2) (v := ?_) rfl (by kernel_rfl) (by kernel_rfl) (by kernel_rfl) (fun _ _ _ h => h) (Or.inl ⟨by rfl, ?_⟩) (by assumption) ?_
    rotate_left
    · (intro w hSw; obtain hSw := hSw; (try dsimp only at hSw); go_simp; try (with_reducible rfl))
    (try simp only [Act.put, List.setIfInBounds_toArray, List.set_cons_zero, List.set_cons_succ, List.getElem_toArray, List.getElem_cons_succ, List.getElem_cons_zero])
    refine wpAnyH_take (i := 3) (v := ?_) rfl (by kernel_rfl) (by kernel_rfl) (by kernel_rfl) (fun _ _ _ h => h) (Or.inl ⟨by rfl, ?_⟩) (by assumption) ?_
    rotate_left
    · (intro w hSw; obtain hSw := hSw; (try dsimp only at hSw); go_simp; try (with_reducible rfl))
    (try simp only [Act.put, List.setIfInBounds_toArray, List.set_cons_zero, List.set_cons_succ, List.getElem_toArray, List.getElem_cons_succ, List.getElem_cons_zero])
    replace RA : u3.drew.heap[A]? = some (.cells #[.slice none 0 0] 26 (0, 0)) := RA
    replace B : Below A w u3.drew := B.drew
    replace hs : Src u3.drew b a n cap := hs.drewN 1
    replace hX : IntsX b u3.drew x S := hX
    replace hC : IntsX b u3.drew (some ⟨bC, oC, none⟩) C := hC
    replace RX : u3.drew.heap[Xb]? = some (.cells #[.slice x S.length c] 26 (0, 0)) := RX
    refine wpAnyH_ready (rs := [4]) (by kernel_rfl) (by simp) ?_
    refine AllReadyH.cons rfl (fun K hK => ?_) AllReadyH.nil
    go_simp
    (go_at_call 26; refine (l01N_any x S c u3.drew hSp.hi hSp.bd hX.1).mono ?_)
    rintro e u4 ⟨rfl, hb⟩
    replace RA : u4.heap[A]? = some (.cells #[.slice none 0 0] 26 (0, 0)) := row_g RA (grown_of_below hb none) (by simp)
    replace B : Below A w u4 := B.trans (hb.mono (by first | exact B.size | (have := hs.lt; omega)))
    replace hs : Src u4 b a n cap := hs.below hb hs.lt
    replace hX : IntsX b u4 x S := hX.below (B := 0) hb
    replace hC : IntsX b u4 (some ⟨bC, oC, none⟩) C := hC.below (B := 0) hb
    replace RX : u4.heap[Xb]? = some (.cells #[.slice x S.length c] 26 (0, 0)) := row_g RX (grown_of_below hb none) (by simp)
    clear hb
    refine hK.out _ _ (cell_of1' RX) (fun hHeld => ?_)
    clear hK K
    (try simp only [Act.put, List.setIfInBounds_toArray, List.set_cons_zero, List.set_cons_succ, List.getElem_toArray, List.getElem_cons_succ, List.getElem_cons_zero])
    refine wpAnyH_ready (rs := [5]) (by kernel_rfl) (by simp) ?_
    refine AllReadyH.cons rfl (fun K hK => ?_) AllReadyH.nil
    go_simp
    (go_at_call 52; refine (next_any b a n cap hn (prodTo S S.length) (by omega) u4 hs).mono ?_)
    have zlt := hs.lt
    rintro e u5 ⟨y, rfl, y0, y1, y2, hs', hg⟩
    replace RA : u5.heap[A]? = some (.cells #[.slice none 0 0] 26 (0, 0)) := row_g RA hg (by simp; omega)
    replace B : Below A w u5 := below_g B (by omega) hg (by omega)
    replace hX : IntsX b u5 x S := hX.grownR hg (by intro g o e; have := hX.2 g o e; simp; omega)
    replace hC : IntsX b u5 (some ⟨bC, oC, none⟩) C := hC.grownR hg (by intro g o e; have := hC.2 g o e; simp; omega)
    replace RX : u5.heap[Xb]? = some (.cells #[.slice x S.length c] 26 (0, 0)) := row_g RX hg (by simp; omega)
    replace hs := hs'
    clear hg zlt hs'
    refine hK.out _ _ (cell_of1' RX) (fun hHeld => ?_)
    clear hK K
    (try simp only [Act.put, List.setIfInBounds_toArray, List.set_cons_zero, List.set_cons_succ, List.getElem_toArray, List.getElem_cons_succ, List.getElem_cons_zero])
    refine wpAnyH_ready (rs := [6]) (by kernel_rfl) (by simp) ?_
    refine AllReadyH.cons rfl (fun K hK => ?_) AllReadyH.nil
    have zU := hs.lt
    go_simp
    (go_at_call 53; refine (shifted_any x S c hSp ⟨bC, oC, none⟩ C cg hL2 hbd y (by omega) u5 hX.1 hC.1).mono ?_)
    rintro e u6 ⟨v7, rfl, o7, hb⟩
    replace RA : u6.heap[A]? = some (.cells #[.slice none 0 0] 26 (0, 0)) := row_g RA (grown_of_below hb none) (by simp)
    replace B : Below A w u6 := B.trans (hb.mono (by first | exact B.size | (have := hs.lt; omega)))
    replace hs : Src u6 b a n cap := hs.below hb hs.lt
    replace hX : IntsX b u6 x S := hX.below (B := 0) hb
    replace hC : IntsX b u6 (some ⟨bC, oC, none⟩) C := hC.below (B := 0) hb
    replace RX : u6.heap[Xb]? = some (.cells #[.slice x S.length c] 26 (0, 0)) := row_g RX (grown_of_below hb none) (by simp)
    clear hb
    obtain ⟨a7, c7, hv7⟩ := own_shp o7
    subst hv7
    have hl7 := putTo_lenp (fun i => sumW S (gi C i) y) C.length
    obtain ⟨C7, hC7⟩ : ∃ C7, C7 = putTo [] (fun i => sumW S (gi C i) y) C.length := ⟨_, rfl⟩
    rw [← hC7] at hl7 o7 ⊢
    have hcap7 := own_cap0p o7
    replace hC := intsX_own (b := b) (o7) zU
    replace hl7 : C7.length ≤ 1048576 := by omega
    clear hC7 o7 zU
    refine hK.out _ _ (cell_of1' RX) (fun hHeld => ?_)
    clear hK K
    (try simp only [Act.put, List.setIfInBounds_toArray, List.set_cons_zero, List.set_cons_succ, List.getElem_toArray, List.getElem_cons_succ, List.getElem_cons_zero])
    refine wpAnyH_take (i := 7) (v := ?_) rfl (by kernel_rfl) (by kernel_rfl) (by kernel_rfl) (fun _ _ _ h => h) (Or.inl ⟨by rfl, ?_⟩) (by assumption) ?_
    rotate_left
    · (intro w hSw; obtain hSw := hSw; (try dsimp only at hSw); go_simp; try (with_reducible rfl))
    (try simp only [Act.put, List.setIfInBounds_toArray, List.set_cons_zero, List.set_cons_succ, List.getElem_toArray, List.getElem_cons_succ, List.getElem_cons_zero])
    refine wpAnyH_done (by kernel_rfl) ?_ _
    (try simp only [Act.put, List.setIfInBounds_toArray, List.set_cons_zero, List.set_cons_succ, List.getElem_toArray, List.getElem_cons_succ, List.getElem_cons_zero])
    have xX := cell_of1' RX
    have zlt := hs.lt
    have hnx := next_any b a n cap hn 8 (by omega) u6 hs
    go_wp2_with fail
    refine hnx.mono ?_
    rintro e u7 ⟨q, rfl, q0, q1, q2, hs', hg⟩
    replace RA : u7.heap[A]? = some (.cells #[.slice none 0 0] 26 (0, 0)) := row_g RA hg (by simp; omega)
    replace B : Below A w u7 := below_g B (by omega) hg (by omega)
    replace hX : IntsX b u7 x S := hX.grownR hg (by intro g o e; have := hX.2 g o e; simp; omega)
    replace hC : IntsX b u7 a7 C7 := hC.grownR hg (by intro g o e; have := hC.2 g o e; simp; omega)
    replace RX : u7.heap[Xb]? = some (.cells #[.slice x S.length c] 26 (0, 0)) := row_g RX hg (by simp; omega)
    replace hs := hs'
    clear hnx hg hs' zlt q0 q1 q2 xX
    by_cases hq0 : q = 0
    · have e0 : (q == 0) = true := by simpa using hq0
      clear hq0
      have zlt := hs.lt
      have hnr := near_any b a n cap hn 8 (by omega) u7 hs
      go_wp2_with fail
      refine hnr.mono ?_
      rintro e u8 ⟨rN, rfl, hrN, hs', hg⟩
      replace RA : u8.heap[A]? = some (.cells #[.slice none 0 0] 26 (0, 0)) := row_g RA hg (by simp; omega)
      replace B : Below A w u8 := below_g B (by omega) hg (by omega)
      replace hX : IntsX b u8 x S := hX.grownR hg (by intro g o e; have := hX.2 g o e; simp; omega)
      replace hC : IntsX b u8 a7 C7 := hC.grownR hg (by intro g o e; have := hC.2 g o e; simp; omega)
      replace RX : u8.heap[Xb]? = some (.cells #[.slice x S.length c] 26 (0, 0)) := row_g RX hg (by simp; omega)
      replace hs := hs'
      clear hnr hg hs' zlt
      have xX := cell_of1' RX
      go_wp2_with fail
      refine wp_region_held_drew (S := fun w' => w'.cell? ⟨Xb, 0, none⟩ = some (.slice x S.length c)) (by kernel_rfl) (cell_of1' RX) (fun hHeld => ?_)
      refine wpAnyH_take (i := 0) (v := ?_) rfl (by kernel_rfl) (by kernel_rfl) (by kernel_rfl) (fun _ _ _ h => h) (Or.inl ⟨by rfl, ?_⟩) (by assumption) ?_
      rotate_left
      · (intro w hSw; obtain hSw := hSw; (try dsimp only at hSw); go_simp; try (with_reducible rfl))
      (try simp only [Act.put, List.setIfInBounds_toArray, List.set_cons_zero, List.set_cons_succ, List.getElem_toArray, List.getElem_cons_succ, List.getElem_cons_zero])
      refine wpAnyH_take (i := 1) (v := ?_) rfl (by kernel_rfl) (by kernel_rfl) (by kernel_rfl) (fun _ _ _ h => h) (Or.inl ⟨by rfl, ?_⟩) (by assumption) ?_
      rotate_left
      · (intro w hSw; obtain hSw := hSw; (try dsimp only at hSw); go_simp; try (with_reducible rfl))
      (try simp only [Act.put, List.setIfInBounds_toArray, List.set_cons_zero, List.set_cons_succ, List.getElem_toArray, List.getElem_cons_succ, List.getElem_cons_zero])
      refine wpAnyH_take (i := 3) (v := ?_) rfl (by kernel_rfl) (by kernel_rfl) (by kernel_rfl) (fun _ _ _ h => h) (Or.inl ⟨by rfl, ?_⟩) (by assumption) ?_
      rotate_left
      · (intro w hSw; obtain hSw := hSw; (try dsimp only at hSw); go_simp; try (with_reducible rfl))
      (try simp only [Act.put, List.setIfInBounds_toArray, List.set_cons_zero, List.set_cons_succ, List.getElem_toArray, List.getElem_cons_succ, List.getElem_cons_zero])
      refine wpAnyH_take (i := 4) (v := ?_) rfl (by kernel_rfl) (by kernel_rfl) (by kernel_rfl) (fun _ _ _ h => h) (Or.inl ⟨by rfl, ?_⟩) (by assumption) ?_
      rotate_left
      · (intro w hSw; obtain hSw := hSw; (try dsimp only at hSw); go_simp; try (with_reducible rfl))
      (try simp only [Act.put, List.setIfInBounds_toArray, List.set_cons_zero, List.set_cons_succ, List.getElem_toArray, List.getElem_cons_succ, List.getElem_cons_zero])
      refine wpAnyH_take (i := 5) (v := ?_) rfl (by kernel_rfl) (by kernel_rfl) (by kernel_rfl) (fun _ _ _ h => h) (Or.inl ⟨by rfl, ?_⟩) (by assumption) ?_
      rotate_left
      · (intro w hSw; obtain hSw := hSw; (try dsimp only at hSw); go_simp; try (with_reducible rfl))
      (try simp only [Act.put, List.setIfInBounds_toArray, List.set_cons_zero, List.set_cons_succ, List.getElem_toArray, List.getElem_cons_succ, List.getElem_cons_zero])
      refine wpAnyH_take (i := 7) (v := ?_) rfl (by kernel_rfl) (by kernel_rfl) (by kernel_rfl) (fun _ _ _ h => h) (Or.inl ⟨by rfl, ?_⟩) (by assumption) ?_
      rotate_left
      · (intro w hSw; obtain hSw := hSw; (try dsimp only at hSw); go_simp; try (with_reducible rfl))
      (try simp only [Act.put, List.setIfInBounds_toArray, List.set_cons_zero, List.set_cons_succ, List.getElem_toArray, List.getElem_cons_succ, List.getElem_cons_zero])
      replace RA : u8.drew.heap[A]? = some (.cells #[.slice none 0 0] 26 (0, 0)) := RA
      replace B : Below A w u8.drew := B.drew
      replace hs : Src u8.drew b a n cap := hs.drewN 1
      replace hX : IntsX b u8.drew x S := hX
      replace hC : IntsX b u8.drew a7 C7 := hC
      replace RX : u8.drew.heap[Xb]? = some (.cells #[.slice x S.length c] 26 (0, 0)) := RX
      refine wpAnyH_ready (rs := [2]) (by kernel_rfl) (by simp) ?_
      refine AllReadyH.cons rfl (fun K hK => ?_) AllReadyH.nil
      have hXl := hX.lower (b := b) (by omega)
      go_simp
      (go_at_call 56; refine (bad_any b a n cap hn x S c hSp u8.drew hs hXl).mono ?_)
      have zlt := hs.lt
      rintro e u9 ⟨ax, T, cxT, rfl, hXT, hT, hs', hg⟩
      replace RA : u9.heap[A]? = some (.cells #[.slice none 0 0] 26 (0, 0)) := row_g RA hg (by simp; omega)
      replace B : Below A w u9 := below_g B (by omega) hg (by omega)
      replace hX : IntsX b u9 x S := hX.grownR hg (by intro g o e; have := hX.2 g o e; simp; omega)
      replace hC : IntsX b u9 a7 C7 := hC.grownR hg (by intro g o e; have := hC.2 g o e; simp; omega)
      replace RX : u9.heap[Xb]? = some (.cells #[.slice x S.length c] 26 (0, 0)) := row_g RX hg (by simp; omega)
      replace hs := hs'
      clear hg zlt hs'
      clear hXl
      refine hK.out _ _ (cell_of1' RX) (fun hHeld => ?_)
      clear hK K
      (try simp only [Act.put, List.setIfInBounds_toArray, List.set_cons_zero, List.set_cons_succ, List.getElem_toArray, List.getElem_cons_succ, List.getElem_cons_zero])
      refine wpAnyH_ready (rs := [6]) (by kernel_rfl) (by simp) ?_
      refine AllReadyH.cons rfl (fun K hK => ?_) AllReadyH.nil
      have hXl := hX.lower (b := b) (by omega)
      have hCl := hC.lower (b := b) (by omega)
      have zU := hs.lt
      go_simp
      (go_at_call 57; refine (badCode_any b a n cap hn x S c hSp a7 C7 c7 hcap7 hl7 u9 hs hXl hCl).mono ?_)
      have zlt := hs.lt
      rintro e u10 ⟨g, cE, E, rfl, ownE, hE, hs', hg⟩
      replace RA : u10.heap[A]? = some (.cells #[.slice none 0 0] 26 (0, 0)) := row_g RA hg (by simp; omega)
      replace B : Below A w u10 := below_g B (by omega) hg (by omega)
      replace hX : IntsX b u10 x S := hX.grownR hg (by intro g o e; have := hX.2 g o e; simp; omega)
      replace hC : IntsX b u10 a7 C7 := hC.grownR hg (by intro g o e; have := hC.2 g o e; simp; omega)
      replace RX : u10.heap[Xb]? = some (.cells #[.slice x S.length c] 26 (0, 0)) := row_g RX hg (by simp; omega)
      replace hXT : IntsX b u10 ax T := hXT.grownR hg (by intro g o e; have := hXT.2 g o e; simp; omega)
      replace hs := hs'
      clear hg zlt hs'
      have zg : u9.heap.size ≤ g := ownBlock_ge5 ownE rfl
      have hgb : b < g := by omega
      replace ownE := ownE.rebase (base' := w.heap.size) (by have := HA.out; omega)
      clear zU zg hXl hCl
      refine hK.out _ _ (cell_of1' RX) (fun hHeld => ?_)
      clear hK K
      (try simp only [Act.put, List.setIfInBounds_toArray, List.set_cons_zero, List.set_cons_succ, List.getElem_toArray, List.getElem_cons_succ, List.getElem_cons_zero])
      refine wpAnyH_ready (rs := [8]) (by kernel_rfl) (by simp) ?_
      refine AllReadyH.cons rfl (fun K hK => ?_) AllReadyH.nil
      clear hs
      have xSt := cell_of1' RA
      have fSt := frozen_of_row u10 A 0 _ _ RA
      have zSt := row_lt RA
      go_simp
      replace RA : (u10.setCell ⟨A, 0, none⟩ (.slice ax T.length cxT)).heap[A]? = some (.cells #[.slice ax T.length cxT] 26 (0, 0)) := row_store1' _ RA
      replace B : Below A w (u10.setCell ⟨A, 0, none⟩ (.slice ax T.length cxT)) := B.setCell (by first | (simp; done) | (simp; omega)) _
      replace hX : IntsX b (u10.setCell ⟨A, 0, none⟩ (.slice ax T.length cxT)) x S := hX.set _ _ (by intro g o e; have := hX.2 g o e; omega)
      replace hC : IntsX b (u10.setCell ⟨A, 0, none⟩ (.slice ax T.length cxT)) a7 C7 := hC.set _ _ (by intro g o e; have := hC.2 g o e; omega)
      replace RX : (u10.setCell ⟨A, 0, none⟩ (.slice ax T.length cxT)).heap[Xb]? = some (.cells #[.slice x S.length c] 26 (0, 0)) := row_setO RX (by simp; omega) _
      replace hXT : IntsX b (u10.setCell ⟨A, 0, none⟩ (.slice ax T.length cxT)) ax T := hXT.set _ _ (by intro g o e; have := hXT.2 g o e; omega)
      replace ownE : OwnInts (u10.setCell ⟨A, 0, none⟩ (.slice ax T.length cxT)) w.heap.size (.slice (some ⟨g, 0, none⟩) E.length cE) E := own_setO ownE _ (fun e => by simp [Value.ownBlock] at e; omega) _
      clear xSt fSt zSt
      refine hK.out _ _ (cell_of1' RX) (fun hHeld => ?_)
      clear hK K
      (try simp only [Act.put, List.setIfInBounds_toArray, List.set_cons_zero, List.set_cons_succ, List.getElem_toArray, List.getElem_cons_succ, List.getElem_cons_zero])
      refine wpAnyH_take (i := 9) (v := ?_) rfl (by kernel_rfl) (by kernel_rfl) (by kernel_rfl) (fun _ _ _ h => h) (Or.inl ⟨by rfl, ?_⟩) (by assumption) ?_
      rotate_left
      · (intro w hSw; obtain hSw := hSw; (try dsimp only at hSw); go_simp; try (with_reducible rfl))
      (try simp only [Act.put, List.setIfInBounds_toArray, List.set_cons_zero, List.set_cons_succ, List.getElem_toArray, List.getElem_cons_succ, List.getElem_cons_zero])
      refine wpAnyH_take (i := 10) (v := ?_) rfl (by kernel_rfl) (by kernel_rfl) (by kernel_rfl) (fun _ _ _ h => h) (Or.inl ⟨by rfl, ?_⟩) (by assumption) ?_
      rotate_left
      · (intro w hSw; obtain hSw := hSw; (try dsimp only at hSw); go_simp; try (with_reducible rfl))
      (try simp only [Act.put, List.setIfInBounds_toArray, List.set_cons_zero, List.set_cons_succ, List.getElem_toArray, List.getElem_cons_succ, List.getElem_cons_zero])
      refine wpAnyH_done (by kernel_rfl) ?_ _
      (try simp only [Act.put, List.setIfInBounds_toArray, List.set_cons_zero, List.set_cons_succ, List.getElem_toArray, List.getElem_cons_succ, List.getElem_cons_zero])
      have xA := cell_of1' RA
      have zA := row_lt RA
      go_wp2_with fail
      refine bodyPost_ret (by rw [results_cell_tmp2w rfl]; go_simp; try rfl) rfl ?_
      exact ⟨ax, T, cxT, g, cE, E, rN, rfl, hXT.1, (fun g o e => by have := hXT.2 g o e; have := HA.out; omega), hT, ownE, hE, hrN, by rw [← HA.out]; exact B⟩
    · have e0 : (q == 0) = false := by simpa using hq0
      clear hq0
      by_cases hq1 : q = 1
      · have e0 : (q == 1) = true := by simpa using hq1
        clear hq1
        clear hC hX
        have zX0 := row_lt RX
        have zlt := hs.lt
        have hc := small_any b a n cap hn u7 hs
        go_wp2_with fail
        refine hc.mono ?_
        rintro e u8 ⟨vS, S2, rfl, oS, hSp2, hs', hg⟩
        obtain ⟨x2, c2, hvS⟩ := own_shp oS
        subst hvS
        have hX := intsX_own (b := Xb) oS zX0
        replace RA : u8.heap[A]? = some (.cells #[.slice none 0 0] 26 (0, 0)) := row_g RA hg (by simp; omega)
        replace B : Below A w u8 := below_g B (by omega) hg (by omega)
        replace RX : u8.heap[Xb]? = some (.cells #[.slice x S.length c] 26 (0, 0)) := row_g RX hg (by simp; omega)
        replace hs := hs'
        clear hc hg hs' zlt oS zX0
        have xX := cell_of1' RX
        have fX := frozen_of_row u8 Xb 0 _ _ RX
        have zX := row_lt RX
        replace RA : (u8.setCell ⟨Xb, 0, none⟩ (.slice x2 S2.length c2)).heap[A]? = some (.cells #[.slice none 0 0] 26 (0, 0)) := row_setO RA (by simp; omega) _
        replace B : Below A w (u8.setCell ⟨Xb, 0, none⟩ (.slice x2 S2.length c2)) := B.setCell (by first | (simp; done) | (simp; omega)) _
        replace hs : Src (u8.setCell ⟨Xb, 0, none⟩ (.slice x2 S2.length c2)) b a n cap := hs.setO _ (by simp; omega) _
        replace RX : (u8.setCell ⟨Xb, 0, none⟩ (.slice x2 S2.length c2)).heap[Xb]? = some (.cells #[.slice x2 S2.length c2] 26 (0, 0)) := row_store1' _ RX
        replace hX : IntsX Xb (u8.setCell ⟨Xb, 0, none⟩ (.slice x2 S2.length c2)) x2 S2 := hX.set _ _ (by intro g o e; have := hX.2 g o e; omega)
        have xX2 := cell_of1' RX
        have zlt := hs.lt
        have hXl := hX.lower (b := b) (by omega)
        have hc := drawCode_any b a n cap hn x2 S2 c2 hSp2 (u8.setCell ⟨Xb, 0, none⟩ (.slice x2 S2.length c2)) hs hXl
        go_wp2_with fail
        refine hc.mono ?_
        rintro e u9 ⟨vC, C2, rfl, oC, hCL, hs', hg⟩
        obtain ⟨a2, cg2, hvC⟩ := own_shp oC
        subst hvC
        have hC := intsX_own (b := b) oC zlt
        have hcap2 := own_cap0p oC
        have hl2 : C2.length ≤ 1048576 := by have := hCL.2; omega
        replace RA : u9.heap[A]? = some (.cells #[.slice none 0 0] 26 (0, 0)) := row_g RA hg (by simp; omega)
        replace B : Below A w u9 := below_g B (by omega) hg (by omega)
        replace RX : u9.heap[Xb]? = some (.cells #[.slice x2 S2.length c2] 26 (0, 0)) := row_g RX hg (by simp; omega)
        replace hX : IntsX Xb u9 x2 S2 := hX.grownR hg (by intro g o e; have := hX.2 g o e; simp; omega)
        replace hs := hs'
        clear hc hg hs' zlt oC hXl hCL xX2 xX fX zX
        have xX := cell_of1' RX
        go_wp2_with fail
        refine wp_region_held_drew (S := fun w' => w'.cell? ⟨Xb, 0, none⟩ = some (.slice x2 S2.length c2)) (by kernel_rfl) (cell_of1' RX) (fun hHeld => ?_)
        refine wpAnyH_take (i := 0) (v := ?_) rfl (by kernel_rfl) (by kernel_rfl) (by kernel_rfl) (fun _ _ _ h => h) (Or.inl ⟨by rfl, ?_⟩) (by assumption) ?_
        rotate_left
        · (intro w hSw; obtain hSw := hSw; (try dsimp only at hSw); go_simp; try (with_reducible rfl))
        (try simp only [Act.put, List.setIfInBounds_toArray, List.set_cons_zero, List.set_cons_succ, List.getElem_toArray, List.getElem_cons_succ, List.getElem_cons_zero])
        refine wpAnyH_take (i := 1) (v := ?_) rfl (by kernel_rfl) (by kernel_rfl) (by kernel_rfl) (fun _ _ _ h => h) (Or.inl ⟨by rfl, ?_⟩) (by assumption) ?_
        rotate_left
        · (intro w hSw; obtain hSw := hSw; (try dsimp only at hSw); go_simp; try (with_reducible rfl))
        (try simp only [Act.put, List.setIfInBounds_toArray, List.set_cons_zero, List.set_cons_succ, List.getElem_toArray, List.getElem_cons_succ, List.getElem_cons_zero])
        refine wpAnyH_take (i := 3) (v := ?_) rfl (by kernel_rfl) (by kernel_rfl) (by kernel_rfl) (fun _ _ _ h => h) (Or.inl ⟨by rfl, ?_⟩) (by assumption) ?_
        rotate_left
        · (intro w hSw; obtain hSw := hSw; (try dsimp only at hSw); go_simp; try (with_reducible rfl))
        (try simp only [Act.put, List.setIfInBounds_toArray, List.set_cons_zero, List.set_cons_succ, List.getElem_toArray, List.getElem_cons_succ, List.getElem_cons_zero])
        refine wpAnyH_take (i := 4) (v := ?_) rfl (by kernel_rfl) (by kernel_rfl) (by kernel_rfl) (fun _ _ _ h => h) (Or.inl ⟨by rfl, ?_⟩) (by assumption) ?_
        rotate_left
        · (intro w hSw; obtain hSw := hSw; (try dsimp only at hSw); go_simp; try (with_reducible rfl))
        (try simp only [Act.put, List.setIfInBounds_toArray, List.set_cons_zero, List.set_cons_succ, List.getElem_toArray, List.getElem_cons_succ, List.getElem_cons_zero])
        refine wpAnyH_take (i := 5) (v := ?_) rfl (by kernel_rfl) (by kernel_rfl) (by kernel_rfl) (fun _ _ _ h => h) (Or.inl ⟨by rfl, ?_⟩) (by assumption) ?_
        rotate_left
        · (intro w hSw; obtain hSw := hSw; (try dsimp only at hSw); go_simp; try (with_reducible rfl))
        (try simp only [Act.put, List.setIfInBounds_toArray, List.set_cons_zero, List.set_cons_succ, List.getElem_toArray, List.getElem_cons_succ, List.getElem_cons_zero])
        refine wpAnyH_take (i := 7) (v := ?_) rfl (by kernel_rfl) (by kernel_rfl) (by kernel_rfl) (fun _ _ _ h => h) (Or.inl ⟨by rfl, ?_⟩) (by assumption) ?_
        rotate_left
        · (intro w hSw; obtain hSw := hSw; (try dsimp only at hSw); go_simp; try (with_reducible rfl))
        (try simp only [Act.put, List.setIfInBounds_toArray, List.set_cons_zero, List.set_cons_succ, List.getElem_toArray, List.getElem_cons_succ, List.getElem_cons_zero])
        replace RA : u9.drew.heap[A]? = some (.cells #[.slice none 0 0] 26 (0, 0)) := RA
        replace B : Below A w u9.drew := B.drew
        replace hs : Src u9.drew b a n cap := hs.drewN 1
        replace RX : u9.drew.heap[Xb]? = some (.cells #[.slice x2 S2.length c2] 26 (0, 0)) := RX
        replace hX : IntsX Xb u9.drew x2 S2 := hX
        replace hC : IntsX b u9.drew a2 C2 := hC
        refine wpAnyH_ready (rs := [2]) (by kernel_rfl) (by simp) ?_
        refine AllReadyH.cons rfl (fun K hK => ?_) AllReadyH.nil
        have hXl := hX.lower (b := b) (by omega)
        go_simp
        (go_at_call 56; refine (bad_any b a n cap hn x2 S2 c2 hSp2 u9.drew hs hXl).mono ?_)
        have zlt := hs.lt
        rintro e u10 ⟨ax, T, cxT, rfl, hXT, hT, hs', hg⟩
        replace RA : u10.heap[A]? = some (.cells #[.slice none 0 0] 26 (0, 0)) := row_g RA hg (by simp; omega)
        replace B : Below A w u10 := below_g B (by omega) hg (by omega)
        replace RX : u10.heap[Xb]? = some (.cells #[.slice x2 S2.length c2] 26 (0, 0)) := row_g RX hg (by simp; omega)
        replace hX : IntsX Xb u10 x2 S2 := hX.grownR hg (by intro g o e; have := hX.2 g o e; simp; omega)
        replace hC : IntsX b u10 a2 C2 := hC.grownR hg (by intro g o e; have := hC.2 g o e; simp; omega)
        replace hs := hs'
        clear hg zlt hs'
        clear hXl
        refine hK.out _ _ (cell_of1' RX) (fun hHeld => ?_)
        clear hK K
        (try simp only [Act.put, List.setIfInBounds_toArray, List.set_cons_zero, List.set_cons_succ, List.getElem_toArray, List.getElem_cons_succ, List.getElem_cons_zero])
        refine wpAnyH_ready (rs := [6]) (by kernel_rfl) (by simp) ?_
        refine AllReadyH.cons rfl (fun K hK => ?_) AllReadyH.nil
        have hXl := hX.lower (b := b) (by omega)
        have hCl := hC.lower (b := b) (by omega)
        have zU := hs.lt
        go_simp
        (go_at_call 57; refine (badCode_any b a n cap hn x2 S2 c2 hSp2 a2 C2 cg2 hcap2 hl2 u10 hs hXl hCl).mono ?_)
        have zlt := hs.lt
        rintro e u11 ⟨g, cE, E, rfl, ownE, hE, hs', hg⟩
        replace RA : u11.heap[A]? = some (.cells #[.slice none 0 0] 26 (0, 0)) := row_g RA hg (by simp; omega)
        replace B : Below A w u11 := below_g B (by omega) hg (by omega)
        replace RX : u11.heap[Xb]? = some (.cells #[.slice x2 S2.length c2] 26 (0, 0)) := row_g RX hg (by simp; omega)
        replace hX : IntsX Xb u11 x2 S2 := hX.grownR hg (by intro g o e; have := hX.2 g o e; simp; omega)
        replace hC : IntsX b u11 a2 C2 := hC.grownR hg (by intro g o e; have := hC.2 g o e; simp; omega)
        replace hXT : IntsX b u11 ax T := hXT.grownR hg (by intro g o e; have := hXT.2 g o e; simp; omega)
        replace hs := hs'
        clear hg zlt hs'
        have zg : u10.heap.size ≤ g := ownBlock_ge5 ownE rfl
        have hgb : b < g := by omega
        replace ownE := ownE.rebase (base' := w.heap.size) (by have := HA.out; omega)
        clear zU zg hXl hCl
        refine hK.out _ _ (cell_of1' RX) (fun hHeld => ?_)
        clear hK K
        (try simp only [Act.put, List.setIfInBounds_toArray, List.set_cons_zero, List.set_cons_succ, List.getElem_toArray, List.getElem_cons_succ, List.getElem_cons_zero])
        refine wpAnyH_ready (rs := [8]) (by kernel_rfl) (by simp) ?_
        refine AllReadyH.cons rfl (fun K hK => ?_) AllReadyH.nil
        clear hs
        have xSt := cell_of1' RA
        have fSt := frozen_of_row u11 A 0 _ _ RA
        have zSt := row_lt RA
        go_simp
        replace RA : (u11.setCell ⟨A, 0, none⟩ (.slice ax T.length cxT)).heap[A]? = some (.cells #[.slice ax T.length cxT] 26 (0, 0)) := row_store1' _ RA
        replace B : Below A w (u11.setCell ⟨A, 0, none⟩ (.slice ax T.length cxT)) := B.setCell (by first | (simp; done) | (simp; omega)) _
        replace RX : (u11.setCell ⟨A, 0, none⟩ (.slice ax T.length cxT)).heap[Xb]? = some (.cells #[.slice x2 S2.length c2] 26 (0, 0)) := row_setO RX (by simp; omega) _
        replace hX : IntsX Xb (u11.setCell ⟨A, 0, none⟩ (.slice ax T.length cxT)) x2 S2 := hX.set _ _ (by intro g o e; have := hX.2 g o e; omega)
        replace hC : IntsX b (u11.setCell ⟨A, 0, none⟩ (.slice ax T.length cxT)) a2 C2 := hC.set _ _ (by intro g o e; have := hC.2 g o e; omega)
        replace hXT : IntsX b (u11.setCell ⟨A, 0, none⟩ (.slice ax T.length cxT)) ax T := hXT.set _ _ (by intro g o e; have := hXT.2 g o e; omega)
        replace ownE : OwnInts (u11.setCell ⟨A, 0, none⟩ (.slice ax T.length cxT)) w.heap.size (.slice (some ⟨g, 0, none⟩) E.length cE) E := own_setO ownE _ (fun e => by simp [Value.ownBlock] at e; omega) _
        clear xSt fSt zSt
        refine hK.out _ _ (cell_of1' RX) (fun hHeld => ?_)
        clear hK K
        (try simp only [Act.put, List.setIfInBounds_toArray, List.set_cons_zero, List.set_cons_succ, List.getElem_toArray, List.getElem_cons_succ, List.getElem_cons_zero])
        refine wpAnyH_take (i := 9) (v := ?_) rfl (by kernel_rfl) (by kernel_rfl) (by kernel_rfl) (fun _ _ _ h => h) (Or.inl ⟨by rfl, ?_⟩) (by assumption) ?_
        rotate_left
        · (intro w hSw; obtain hSw := hSw; (try dsimp only at hSw); go_simp; try (with_reducible rfl))
        (try simp only [Act.put, List.setIfInBounds_toArray, List.set_cons_zero, List.set_cons_succ, List.getElem_toArray, List.getElem_cons_succ, List.getElem_cons_zero])
        refine wpAnyH_take (i := 10) (v := ?_) rfl (by kernel_rfl) (by kernel_rfl) (by kernel_rfl) (fun _ _ _ h => h) (Or.inl ⟨by rfl, ?_⟩) (by assumption) ?_
        rotate_left
        · (intro w hSw; obtain hSw := hSw; (try dsimp only at hSw); go_simp; try (with_reducible rfl))
        (try simp only [Act.put, List.setIfInBounds_toArray, List.set_cons_zero, List.set_cons_succ, List.getElem_toArray, List.getElem_cons_succ, List.getElem_cons_zero])
        refine wpAnyH_done (by kernel_rfl) ?_ _
        (try simp only [Act.put, List.setIfInBounds_toArray, List.set_cons_zero, List.set_cons_succ, List.getElem_toArray, List.getElem_cons_succ, List.getElem_cons_zero])
        have xA := cell_of1' RA
        have zA := row_lt RA
        go_wp2_with fail
        refine bodyPost_ret (by rw [results_cell_tmp2w rfl]; go_simp; try rfl) rfl ?_
        exact ⟨ax, T, cxT, g, cE, E, r, rfl, hXT.1, (fun g o e => by have := hXT.2 g o e; have := HA.out; omega), hT, ownE, hE, (by omega), by rw [← HA.out]; exact B⟩
      · have e1 : (q == 1) = false := by simpa using hq1
        clear hq1
        have xX := cell_of1' RX
        go_wp2_with fail
        refine wp_region_held_drew (S := fun w' => w'.cell? ⟨Xb, 0, none⟩ = some (.slice x S.length c)) (by kernel_rfl) (cell_of1' RX) (fun hHeld => ?_)
        refine wpAnyH_take (i := 0) (v := ?_) rfl (by kernel_rfl) (by kernel_rfl) (by kernel_rfl) (fun _ _ _ h => h) (Or.inl ⟨by rfl, ?_⟩) (by assumption) ?_
        rotate_left
        · (intro w hSw; obtain hSw := hSw; (try dsimp only at hSw); go_simp; try (with_reducible rfl))
        (try simp only [Act.put, List.setIfInBounds_toArray, List.set_cons_zero, List.set_cons_succ, List.getElem_toArray, List.getElem_cons_succ, List.getElem_cons_zero])
        refine wpAnyH_take (i := 1) (v := ?_) rfl (by kernel_rfl) (by kernel_rfl) (by kernel_rfl) (fun _ _ _ h => h) (Or.inl ⟨by rfl, ?_⟩) (by assumption) ?_
        rotate_left
        · (intro w hSw; obtain hSw := hSw; (try dsimp only at hSw); go_simp; try (with_reducible rfl))
        (try simp only [Act.put, List.setIfInBounds_toArray, List.set_cons_zero, List.set_cons_succ, List.getElem_toArray, List.getElem_cons_succ, List.getElem_cons_zero])
        refine wpAnyH_take (i := 3) (v := ?_) rfl (by kernel_rfl) (by kernel_rfl) (by kernel_rfl) (fun _ _ _ h => h) (Or.inl ⟨by rfl, ?_⟩) (by assumption) ?_
        rotate_left
        · (intro w hSw; obtain hSw := hSw; (try dsimp only at hSw); go_simp; try (with_reducible rfl))
        (try simp only [Act.put, List.setIfInBounds_toArray, List.set_cons_zero, List.set_cons_succ, List.getElem_toArray, List.getElem_cons_succ, List.getElem_cons_zero])
        refine wpAnyH_take (i := 4) (v := ?_) rfl (by kernel_rfl) (by kernel_rfl) (by kernel_rfl) (fun _ _ _ h => h) (Or.inl ⟨by rfl, ?_⟩) (by assumption) ?_
        rotate_left
        · (intro w hSw; obtain hSw := hSw; (try dsimp only at hSw); go_simp; try (with_reducible rfl))
        (try simp only [Act.put, List.setIfInBounds_toArray, List.set_cons_zero, List.set_cons_succ, List.getElem_toArray, List.getElem_cons_succ, List.getElem_cons_zero])
        refine wpAnyH_take (i := 5) (v := ?_) rfl (by kernel_rfl) (by kernel_rfl) (by kernel_rfl) (fun _ _ _ h => h) (Or.inl ⟨by rfl, ?_⟩) (by assumption) ?_
        rotate_left
        · (intro w hSw; obtain hSw := hSw; (try dsimp only at hSw); go_simp; try (with_reducible rfl))
        (try simp only [Act.put, List.setIfInBounds_toArray, List.set_cons_zero, List.set_cons_succ, List.getElem_toArray, List.getElem_cons_succ, List.getElem_cons_zero])
        refine wpAnyH_take (i := 7) (v := ?_) rfl (by kernel_rfl) (by kernel_rfl) (by kernel_rfl) (fun _ _ _ h => h) (Or.inl ⟨by rfl, ?_⟩) (by assumption) ?_
        rotate_left
        · (intro w hSw; obtain hSw := hSw; (try dsimp only at hSw); go_simp; try (with_reducible rfl))
        (try simp only [Act.put, List.setIfInBounds_toArray, List.set_cons_zero, List.set_cons_succ, List.getElem_toArray, List.getElem_cons_succ, List.getElem_cons_zero])
        replace RA : u7.drew.heap[A]? = some (.cells #[.slice none 0 0] 26 (0, 0)) := RA
        replace B : Below A w u7.drew := B.drew
        replace hs : Src u7.drew b a n cap := hs.drewN 1
        replace hX : IntsX b u7.drew x S := hX
        replace hC : IntsX b u7.drew a7 C7 := hC
        replace RX : u7.drew.heap[Xb]? = some (.cells #[.slice x S.length c] 26 (0, 0)) := RX
        refine wpAnyH_ready (rs := [2]) (by kernel_rfl) (by simp) ?_
        refine AllReadyH.cons rfl (fun K hK => ?_) AllReadyH.nil
        have hXl := hX.lower (b := b) (by omega)
        go_simp
        (go_at_call 56; refine (bad_any b a n cap hn x S c hSp u7.drew hs hXl).mono ?_)
        have zlt := hs.lt
        rintro e u8 ⟨ax, T, cxT, rfl, hXT, hT, hs', hg⟩
        replace RA : u8.heap[A]? = some (.cells #[.slice none 0 0] 26 (0, 0)) := row_g RA hg (by simp; omega)
        replace B : Below A w u8 := below_g B (by omega) hg (by omega)
        replace hX : IntsX b u8 x S := hX.grownR hg (by intro g o e; have := hX.2 g o e; simp; omega)
        replace hC : IntsX b u8 a7 C7 := hC.grownR hg (by intro g o e; have := hC.2 g o e; simp; omega)
        replace RX : u8.heap[Xb]? = some (.cells #[.slice x S.length c] 26 (0, 0)) := row_g RX hg (by simp; omega)
        replace hs := hs'
        clear hg zlt hs'
        clear hXl
        refine hK.out _ _ (cell_of1' RX) (fun hHeld => ?_)
        clear hK K
        (try simp only [Act.put, List.setIfInBounds_toArray, List.set_cons_zero, List.set_cons_succ, List.getElem_toArray, List.getElem_cons_succ, List.getElem_cons_zero])
        refine wpAnyH_ready (rs := [6]) (by kernel_rfl) (by simp) ?_
        refine AllReadyH.cons rfl (fun K hK => ?_) AllReadyH.nil
        have hXl := hX.lower (b := b) (by omega)
        have hCl := hC.lower (b := b) (by omega)
        have zU := hs.lt
        go_simp
        (go_at_call 57; refine (badCode_any b a n cap hn x S c hSp a7 C7 c7 hcap7 hl7 u8 hs hXl hCl).mono ?_)
        have zlt := hs.lt
        rintro e u9 ⟨g, cE, E, rfl, ownE, hE, hs', hg⟩
        replace RA : u9.heap[A]? = some (.cells #[.slice none 0 0] 26 (0, 0)) := row_g RA hg (by simp; omega)
        replace B : Below A w u9 := below_g B (by omega) hg (by omega)
        replace hX : IntsX b u9 x S := hX.grownR hg (by intro g o e; have := hX.2 g o e; simp; omega)
        replace hC : IntsX b u9 a7 C7 := hC.grownR hg (by intro g o e; have := hC.2 g o e; simp; omega)
        replace RX : u9.heap[Xb]? = some (.cells #[.slice x S.length c] 26 (0, 0)) := row_g RX hg (by simp; omega)
        replace hXT : IntsX b u9 ax T := hXT.grownR hg (by intro g o e; have := hXT.2 g o e; simp; omega)
        replace hs := hs'
        clear hg zlt hs'
        have zg : u8.heap.size ≤ g := ownBlock_ge5 ownE rfl
        have hgb : b < g := by omega
        replace ownE := ownE.rebase (base' := w.heap.size) (by have := HA.out; omega)
        clear zU zg hXl hCl
        refine hK.out _ _ (cell_of1' RX) (fun hHeld => ?_)
        clear hK K
        (try simp only [Act.put, List.setIfInBounds_toArray, List.set_cons_zero, List.set_cons_succ, List.getElem_toArray, List.getElem_cons_succ, List.getElem_cons_zero])
        refine wpAnyH_ready (rs := [8]) (by kernel_rfl) (by simp) ?_
        refine AllReadyH.cons rfl (fun K hK => ?_) AllReadyH.nil
        clear hs
        have xSt := cell_of1' RA
        have fSt := frozen_of_row u9 A 0 _ _ RA
        have zSt := row_lt RA
        go_simp
        replace RA : (u9.setCell ⟨A, 0, none⟩ (.slice ax T.length cxT)).heap[A]? = some (.cells #[.slice ax T.length cxT] 26 (0, 0)) := row_store1' _ RA
        replace B : Below A w (u9.setCell ⟨A, 0, none⟩ (.slice ax T.length cxT)) := B.setCell (by first | (simp; done) | (simp; omega)) _
        replace hX : IntsX b (u9.setCell ⟨A, 0, none⟩ (.slice ax T.length cxT)) x S := hX.set _ _ (by intro g o e; have := hX.2 g o e; omega)
        replace hC : IntsX b (u9.setCell ⟨A, 0, none⟩ (.slice ax T.length cxT)) a7 C7 := hC.set _ _ (by intro g o e; have := hC.2 g o e; omega)
        replace RX : (u9.setCell ⟨A, 0, none⟩ (.slice ax T.length cxT)).heap[Xb]? = some (.cells #[.slice x S.length c] 26 (0, 0)) := row_setO RX (by simp; omega) _
        replace hXT : IntsX b (u9.setCell ⟨A, 0, none⟩ (.slice ax T.length cxT)) ax T := hXT.set _ _ (by intro g o e; have := hXT.2 g o e; omega)
        replace ownE : OwnInts (u9.setCell ⟨A, 0, none⟩ (.slice ax T.length cxT)) w.heap.size (.slice (some ⟨g, 0, none⟩) E.length cE) E := own_setO ownE _ (fun e => by simp [Value.ownBlock] at e; omega) _
        clear xSt fSt zSt
        refine hK.out _ _ (cell_of1' RX) (fun hHeld => ?_)
        clear hK K
        (try simp only [Act.put, List.setIfInBounds_toArray, List.set_cons_zero, List.set_cons_succ, List.getElem_toArray, List.getElem_cons_succ, List.getElem_cons_zero])
        refine wpAnyH_take (i := 9) (v := ?_) rfl (by kernel_rfl) (by kernel_rfl) (by kernel_rfl) (fun _ _ _ h => h) (Or.inl ⟨by rfl, ?_⟩) (by assumption) ?_
        rotate_left
        · (intro w hSw; obtain hSw := hSw; (try dsimp only at hSw); go_simp; try (with_reducible rfl))
        (try simp only [Act.put, List.setIfInBounds_toArray, List.set_cons_zero, List.set_cons_succ, List.getElem_toArray, List.getElem_cons_succ, List.getElem_cons_zero])
        refine wpAnyH_take (i := 10) (v := ?_) rfl (by kernel_rfl) (by kernel_rfl) (by kernel_rfl) (fun _ _ _ h => h) (Or.inl ⟨by rfl, ?_⟩) (by assumption) ?_
        rotate_left
        · (intro w hSw; obtain hSw := hSw; (try dsimp only at hSw); go_simp; try (with_reducible rfl))
        (try simp only [Act.put, List.setIfInBounds_toArray, List.set_cons_zero, List.set_cons_succ, List.getElem_toArray, List.getElem_cons_succ, List.getElem_cons_zero])
        refine wpAnyH_done (by kernel_rfl) ?_ _
        (try simp only [Act.put, List.setIfInBounds_toArray, List.set_cons_zero, List.set_cons_succ, List.getElem_toArray, List.getElem_cons_succ, List.getElem_cons_zero])
        have xA := cell_of1' RA
        have zA := row_lt RA
        go_wp2_with fail
        refine bodyPost_ret (by rw [results_cell_tmp2w rfl]; go_simp; try rfl) rfl ?_
        exact ⟨ax, T, cxT, g, cE, E, r, rfl, hXT.1, (fun g o e => by have := hXT.2 g o e; have := HA.out; omega), hT, ownE, hE, (by omega), by rw [← HA.out]; exact B⟩
  · have e0 : (p == 0) = false := by simpa using hq0
    clear hq0
    have xX := cell_of1' RX
    have zlt := hs.lt
    have hnx := next_any b a n cap hn 8 (by omega) u3 hs
    go_wp2_with fail
    refine hnx.mono ?_
    rintro e u4 ⟨q, rfl, q0, q1, q2, hs', hg⟩
    replace RA : u4.heap[A]? = some (.cells #[.slice none 0 0] 26 (0, 0)) := row_g RA hg (by simp; omega)
    replace B : Below A w u4 := below_g B (by omega) hg (by omega)
    replace hX : IntsX b u4 x S := hX.grownR hg (by intro g o e; have := hX.2 g o e; simp; omega)
    replace hC : IntsX b u4 aC C := hC.grownR hg (by intro g o e; have := hC.2 g o e; simp; omega)
    replace RX : u4.heap[Xb]? = some (.cells #[.slice x S.length c] 26 (0, 0)) := row_g RX hg (by simp; omega)
    replace hs := hs'
    clear hnx hg hs' zlt q0 q1 q2 xX
    by_cases hq0 : q = 0
    · have e0 : (q == 0) = true := by simpa using hq0
      clear hq0
      have zlt := hs.lt
      have hnr := near_any b a n cap hn 8 (by omega) u4 hs
      go_wp2_with fail
      refine hnr.mono ?_
      rintro e u5 ⟨rN, rfl, hrN, hs', hg⟩
      replace RA : u5.heap[A]? = some (.cells #[.slice none 0 0] 26 (0, 0)) := row_g RA hg (by simp; omega)
      replace B : Below A w u5 := below_g B (by omega) hg (by omega)
      replace hX : IntsX b u5 x S := hX.grownR hg (by intro g o e; have := hX.2 g o e; simp; omega)
      replace hC : IntsX b u5 aC C := hC.grownR hg (by intro g o e; have := hC.2 g o e; simp; omega)
      replace RX : u5.heap[Xb]? = some (.cells #[.slice x S.length c] 26 (0, 0)) := row_g RX hg (by simp; omega)
      replace hs := hs'
      clear hnr hg hs' zlt
      have xX := cell_of1' RX
      go_wp2_with fail
      refine wp_region_held_drew (S := fun w' => w'.cell? ⟨Xb, 0, none⟩ = some (.slice x S.length c)) (by kernel_rfl) (cell_of1' RX) (fun hHeld => ?_)
      refine wpAnyH_take (i := 0) (v := ?_) rfl (by kernel_rfl) (by kernel_rfl) (by kernel_rfl) (fun _ _ _ h => h) (Or.inl ⟨by rfl, ?_⟩) (by assumption) ?_
      rotate_left
      · (intro w hSw; obtain hSw := hSw; (try dsimp only at hSw); go_simp; try (with_reducible rfl))
      (try simp only [Act.put, List.setIfInBounds_toArray, List.set_cons_zero, List.set_cons_succ, List.getElem_toArray, List.getElem_cons_succ, List.getElem_cons_zero])
      refine wpAnyH_take (i := 1) (v := ?_) rfl (by kernel_rfl) (by kernel_rfl) (by kernel_rfl) (fun _ _ _ h => h) (Or.inl ⟨by rfl, ?_⟩) (by assumption) ?_
      rotate_left
      · (intro w hSw; obtain hSw := hSw; (try dsimp only at hSw); go_simp; try (with_reducible rfl))
      (try simp only [Act.put, List.setIfInBounds_toArray, List.set_cons_zero, List.set_cons_succ, List.getElem_toArray, List.getElem_cons_succ, List.getElem_cons_zero])
      refine wpAnyH_take (i := 3) (v := ?_) rfl (by kernel_rfl) (by kernel_rfl) (by kernel_rfl) (fun _ _ _ h => h) (Or.inl ⟨by rfl, ?_⟩) (by assumption) ?_
      rotate_left
      · (intro w hSw; obtain hSw := hSw; (try dsimp only at hSw); go_simp; try (with_reducible rfl))
      (try simp only [Act.put, List.setIfInBounds_toArray, List.set_cons_zero, List.set_cons_succ, List.getElem_toArray, List.getElem_cons_succ, List.getElem_cons_zero])
      refine wpAnyH_take (i := 4) (v := ?_) rfl (by kernel_rfl) (by kernel_rfl) (by kernel_rfl) (fun _ _ _ h => h) (Or.inl ⟨by rfl, ?_⟩) (by assumption) ?_
      rotate_left
      · (intro w hSw; obtain hSw := hSw; (try dsimp only at hSw); go_simp; try (with_reducible rfl))
      (try simp only [Act.put, List.setIfInBounds_toArray, List.set_cons_zero, List.set_cons_succ, List.getElem_toArray, List.getElem_cons_succ, List.getElem_cons_zero])
      refine wpAnyH_take (i := 5) (v := ?_) rfl (by kernel_rfl) (by kernel_rfl) (by kernel_rfl) (fun _ _ _ h => h) (Or.inl ⟨by rfl, ?_⟩) (by assumption) ?_
      rotate_left
      · (intro w hSw; obtain hSw := hSw; (try dsimp only at hSw); go_simp; try (with_reducible rfl))
      (try simp only [Act.put, List.setIfInBounds_toArray, List.set_cons_zero, List.set_cons_succ, List.getElem_toArray, List.getElem_cons_succ, List.getElem_cons_zero])
      refine wpAnyH_take (i := 7) (v := ?_) rfl (by kernel_rfl) (by kernel_rfl) (by kernel_rfl) (fun _ _ _ h => h) (Or.inl ⟨by rfl, ?_⟩) (by assumption) ?_
      rotate_left
      · (intro w hSw; obtain hSw := hSw; (try dsimp only at hSw); go_simp; try (with_reducible rfl))
      (try simp only [Act.put, List.setIfInBounds_toArray, List.set_cons_zero, List.set_cons_succ, List.getElem_toArray, List.getElem_cons_succ, List.getElem_cons_zero])
      replace RA : u5.drew.heap[A]? = some (.cells #[.slice none 0 0] 26 (0, 0)) := RA
      replace B : Below A w u5.drew := B.drew
      replace hs : Src u5.drew b a n cap := hs.drewN 1
      replace hX : IntsX b u5.drew x S := hX
      replace hC : IntsX b u5.drew aC C := hC
      replace RX : u5.drew.heap[Xb]? = some (.cells #[.slice x S.length c] 26 (0, 0)) := RX
      refine wpAnyH_ready (rs := [2]) (by kernel_rfl) (by simp) ?_
      refine AllReadyH.cons rfl (fun K hK => ?_) AllReadyH.nil
      have hXl := hX.lower (b := b) (by omega)
      go_simp
      (go_at_call 56; refine (bad_any b a n cap hn x S c hSp u5.drew hs hXl).mono ?_)
      have zlt := hs.lt
      rintro e u6 ⟨ax, T, cxT, rfl, hXT, hT, hs', hg⟩
      replace RA : u6.heap[A]? = some (.cells #[.slice none 0 0] 26 (0, 0)) := row_g RA hg (by simp; omega)
      replace B : Below A w u6 := below_g B (by omega) hg (by omega)
      replace hX : IntsX b u6 x S := hX.grownR hg (by intro g o e; have := hX.2 g o e; simp; omega)
      replace hC : IntsX b u6 aC C := hC.grownR hg (by intro g o e; have := hC.2 g o e; simp; omega)
      replace RX : u6.heap[Xb]? = some (.cells #[.slice x S.length c] 26 (0, 0)) := row_g RX hg (by simp; omega)
      replace hs := hs'
      clear hg zlt hs'
      clear hXl
      refine hK.out _ _ (cell_of1' RX) (fun hHeld => ?_)
      clear hK K
      (try simp only [Act.put, List.setIfInBounds_toArray, List.set_cons_zero, List.set_cons_succ, List.getElem_toArray, List.getElem_cons_succ, List.getElem_cons_zero])
      refine wpAnyH_ready (rs := [6]) (by kernel_rfl) (by simp) ?_
      refine AllReadyH.cons rfl (fun K hK => ?_) AllReadyH.nil
      have hXl := hX.lower (b := b) (by omega)
      have hCl := hC.lower (b := b) (by omega)
      have zU := hs.lt
      go_simp
      (go_at_call 57; refine (badCode_any b a n cap hn x S c hSp aC C cg hcap hl u6 hs hXl hCl).mono ?_)
      have zlt := hs.lt
      rintro e u7 ⟨g, cE, E, rfl, ownE, hE, hs', hg⟩
      replace RA : u7.heap[A]? = some (.cells #[.slice none 0 0] 26 (0, 0)) := row_g RA hg (by simp; omega)
      replace B : Below A w u7 := below_g B (by omega) hg (by omega)
      replace hX : IntsX b u7 x S := hX.grownR hg (by intro g o e; have := hX.2 g o e; simp; omega)
      replace hC : IntsX b u7 aC C := hC.grownR hg (by intro g o e; have := hC.2 g o e; simp; omega)
      replace RX : u7.heap[Xb]? = some (.cells #[.slice x S.length c] 26 (0, 0)) := row_g RX hg (by simp; omega)
      replace hXT : IntsX b u7 ax T := hXT.grownR hg (by intro g o e; have := hXT.2 g o e; simp; omega)
      replace hs := hs'
      clear hg zlt hs'
      have zg : u6.heap.size ≤ g := ownBlock_ge5 ownE rfl
      have hgb : b < g := by omega
      replace ownE := ownE.rebase (base' := w.heap.size) (by have := HA.out; omega)
      clear zU zg hXl hCl
      refine hK.out _ _ (cell_of1' RX) (fun hHeld => ?_)
      clear hK K
      (try simp only [Act.put, List.setIfInBounds_toArray, List.set_cons_zero, List.set_cons_succ, List.getElem_toArray, List.getElem_cons_succ, List.getElem_cons_zero])
      refine wpAnyH_ready (rs := [8]) (by kernel_rfl) (by simp) ?_
      refine AllReadyH.cons rfl (fun K hK => ?_) AllReadyH.nil
      clear hs
      have xSt := cell_of1' RA
      have fSt := frozen_of_row u7 A 0 _ _ RA
      have zSt := row_lt RA
      go_simp
      replace RA : (u7.setCell ⟨A, 0, none⟩ (.slice ax T.length cxT)).heap[A]? = some (.cells #[.slice ax T.length cxT] 26 (0, 0)) := row_store1' _ RA
      replace B : Below A w (u7.setCell ⟨A, 0, none⟩ (.slice ax T.length cxT)) := B.setCell (by first | (simp; done) | (simp; omega)) _
      replace hX : IntsX b (u7.setCell ⟨A, 0, none⟩ (.slice ax T.length cxT)) x S := hX.set _ _ (by intro g o e; have := hX.2 g o e; omega)
      replace hC : IntsX b (u7.setCell ⟨A, 0, none⟩ (.slice ax T.length cxT)) aC C := hC.set _ _ (by intro g o e; have := hC.2 g o e; omega)
      replace RX : (u7.setCell ⟨A, 0, none⟩ (.slice ax T.length cxT)).heap[Xb]? = some (.cells #[.slice x S.length c] 26 (0, 0)) := row_setO RX (by simp; omega) _
      replace hXT : IntsX b (u7.setCell ⟨A, 0, none⟩ (.slice ax T.length cxT)) ax T := hXT.set _ _ (by intro g o e; have := hXT.2 g o e; omega)
      replace ownE : OwnInts (u7.setCell ⟨A, 0, none⟩ (.slice ax T.length cxT)) w.heap.size (.slice (some ⟨g, 0, none⟩) E.length cE) E := own_setO ownE _ (fun e => by simp [Value.ownBlock] at e; omega) _
      clear xSt fSt zSt
      refine hK.out _ _ (cell_of1' RX) (fun hHeld => ?_)
      clear hK K
      (try simp only [Act.put, List.setIfInBounds_toArray, List.set_cons_zero, List.set_cons_succ, List.getElem_toArray, List.getElem_cons_succ, List.getElem_cons_zero])
      refine wpAnyH_take (i := 9) (v := ?_) rfl (by kernel_rfl) (by kernel_rfl) (by kernel_rfl) (fun _ _ _ h => h) (Or.inl ⟨by rfl, ?_⟩) (by assumption) ?_
      rotate_left
      · (intro w hSw; obtain hSw := hSw; (try dsimp only at hSw); go_simp; try (with_reducible rfl))
      (try simp only [Act.put, List.setIfInBounds_toArray, List.set_cons_zero, List.set_cons_succ, List.getElem_toArray, List.getElem_cons_succ, List.getElem_cons_zero])
      refine wpAnyH_take (i := 10) (v := ?_) rfl (by kernel_rfl) (by kernel_rfl) (by kernel_rfl) (fun _ _ _ h => h) (Or.inl ⟨by rfl, ?_⟩) (by assumption) ?_
      rotate_left
      · (intro w hSw; obtain hSw := hSw; (try dsimp only at hSw); go_simp; try (with_reducible rfl))
      (try simp only [Act.put, List.setIfInBounds_toArray, List.set_cons_zero, List.set_cons_succ, List.getElem_toArray, List.getElem_cons_succ, List.getElem_cons_zero])
      refine wpAnyH_done (by kernel_rfl) ?_ _
      (try simp only [Act.put, List.setIfInBounds_toArray, List.set_cons_zero, List.set_cons_succ, List.getElem_toArray, List.getElem_cons_succ, List.getElem_cons_zero])
      have xA := cell_of1' RA
      have zA := row_lt RA
      go_wp2_with fail
      refine bodyPost_ret (by rw [results_cell_tmp2w rfl]; go_simp; try rfl) rfl ?_
      exact ⟨ax, T, cxT, g, cE, E, rN, rfl, hXT.1, (fun g o e => by have := hXT.2 g o e; have := HA.out; omega), hT, ownE, hE, hrN, by rw [← HA.out]; exact B⟩
    · have e0 : (q == 0) = false := by simpa using hq0
      clear hq0
      by_cases hq1 : q = 1
      · have e0 : (q == 1) = true := by simpa using hq1
        clear hq1
        clear hC hX
        have zX0 := row_lt RX
        have zlt := hs.lt
        have hc := small_any b a n cap hn u4 hs
        go_wp2_with fail
        refine hc.mono ?_
        rintro e u5 ⟨vS, S2, rfl, oS, hSp2, hs', hg⟩
        obtain ⟨x2, c2, hvS⟩ := own_shp oS
        subst hvS
        have hX := intsX_own (b := Xb) oS zX0
        replace RA : u5.heap[A]? = some (.cells #[.slice none 0 0] 26 (0, 0)) := row_g RA hg (by simp; omega)
        replace B : Below A w u5 := below_g B (by omega) hg (by omega)
        replace RX : u5.heap[Xb]? = some (.cells #[.slice x S.length c] 26 (0, 0)) := row_g RX hg (by simp; omega)
        replace hs := hs'
        clear hc hg hs' zlt oS zX0
        have xX := cell_of1' RX
        have fX := frozen_of_row u5 Xb 0 _ _ RX
        have zX := row_lt RX
        replace RA : (u5.setCell ⟨Xb, 0, none⟩ (.slice x2 S2.length c2)).heap[A]? = some (.cells #[.slice none 0 0] 26 (0, 0)) := row_setO RA (by simp; omega) _
        replace B : Below A w (u5.setCell ⟨Xb, 0, none⟩ (.slice x2 S2.length c2)) := B.setCell (by first | (simp; done) | (simp; omega)) _
        replace hs : Src (u5.setCell ⟨Xb, 0, none⟩ (.slice x2 S2.length c2)) b a n cap := hs.setO _ (by simp; omega) _
        replace RX : (u5.setCell ⟨Xb, 0, none⟩ (.slice x2 S2.length c2)).heap[Xb]? = some (.cells #[.slice x2 S2.length c2] 26 (0, 0)) := row_store1' _ RX
        replace hX : IntsX Xb (u5.setCell ⟨Xb, 0, none⟩ (.slice x2 S2.length c2)) x2 S2 := hX.set _ _ (by intro g o e; have := hX.2 g o e; omega)
        have xX2 := cell_of1' RX
        have zlt := hs.lt
        have hXl := hX.lower (b := b) (by omega)
        have hc := drawCode_any b a n cap hn x2 S2 c2 hSp2 (u5.setCell ⟨Xb, 0, none⟩ (.slice x2 S2.length c2)) hs hXl
        go_wp2_with fail
        refine hc.mono ?_
        rintro e u6 ⟨vC, C2, rfl, oC, hCL, hs', hg⟩
        obtain ⟨a2, cg2, hvC⟩ := own_shp oC
        subst hvC
        have hC := intsX_own (b := b) oC zlt
        have hcap2 := own_cap0p oC
        have hl2 : C2.length ≤ 1048576 := by have := hCL.2; omega
        replace RA : u6.heap[A]? = some (.cells #[.slice none 0 0] 26 (0, 0)) := row_g RA hg (by simp; omega)
        replace B : Below A w u6 := below_g B (by omega) hg (by omega)
        replace RX : u6.heap[Xb]? = some (.cells #[.slice x2 S2.length c2] 26 (0, 0)) := row_g RX hg (by simp; omega)
        replace hX : IntsX Xb u6 x2 S2 := hX.grownR hg (by intro g o e; have := hX.2 g o e; simp; omega)
        replace hs := hs'
        clear hc hg hs' zlt oC hXl hCL xX2 xX fX zX
        have xX := cell_of1' RX
        go_wp2_with fail
        refine wp_region_held_drew (S := fun w' => w'.cell? ⟨Xb, 0, none⟩ = some (.slice x2 S2.length c2)) (by kernel_rfl) (cell_of1' RX) (fun hHeld => ?_)
        refine wpAnyH_take (i := 0) (v := ?_) rfl (by kernel_rfl) (by kernel_rfl) (by kernel_rfl) (fun _ _ _ h => h) (Or.inl ⟨by rfl, ?_⟩) (by assumption) ?_
        rotate_left
        · (intro w hSw; obtain hSw := hSw; (try dsimp only at hSw); go_simp; try (with_reducible rfl))
        (try simp only [Act.put, List.setIfInBounds_toArray, List.set_cons_zero, List.set_cons_succ, List.getElem_toArray, List.getElem_cons_succ, List.getElem_cons_zero])
        refine wpAnyH_take (i := 1) (v := ?_) rfl (by kernel_rfl) (by kernel_rfl) (by kernel_rfl) (fun _ _ _ h => h) (Or.inl ⟨by rfl, ?_⟩) (by assumption) ?_
        rotate_left
        · (intro w hSw; obtain hSw := hSw; (try dsimp only at hSw); go_simp; try (with_reducible rfl))
        (try simp only [Act.put, List.setIfInBounds_toArray, List.set_cons_zero, List.set_cons_succ, List.getElem_toArray, List.getElem_cons_succ, List.getElem_cons_zero])
        refine wpAnyH_take (i := 3) (v := ?_) rfl (by kernel_rfl) (by kernel_rfl) (by kernel_rfl) (fun _ _ _ h => h) (Or.inl ⟨by rfl, ?_⟩) (by assumption) ?_
        rotate_left
        · (intro w hSw; obtain hSw := hSw; (try dsimp only at hSw); go_simp; try (with_reducible rfl))
        (try simp only [Act.put, List.setIfInBounds_toArray, List.set_cons_zero, List.set_cons_succ, List.getElem_toArray, List.getElem_cons_succ, List.getElem_cons_zero])
        refine wpAnyH_take (i := 4) (v := ?_) rfl (by kernel_rfl) (by kernel_rfl) (by kernel_rfl) (fun _ _ _ h => h) (Or.inl ⟨by rfl, ?_⟩) (by assumption) ?_
        rotate_left
        · (intro w hSw; obtain hSw := hSw; (try dsimp only at hSw); go_simp; try (with_reducible rfl))
        (try simp only [Act.put, List.setIfInBounds_toArray, List.set_cons_zero, List.set_cons_succ, List.getElem_toArray, List.getElem_cons_succ, List.getElem_cons_zero])
        refine wpAnyH_take (i := 5) (v := ?_) rfl (by kernel_rfl) (by kernel_rfl) (by kernel_rfl) (fun _ _ _ h => h) (Or.inl ⟨by rfl, ?_⟩) (by assumption) ?_
        rotate_left
        · (intro w hSw; obtain hSw := hSw; (try dsimp only at hSw); go_simp; try (with_reducible rfl))
        (try simp only [Act.put, List.setIfInBounds_toArray, List.set_cons_zero, List.set_cons_succ, List.getElem_toArray, List.getElem_cons_succ, List.getElem_cons_zero])
        refine wpAnyH_take (i := 7) (v := ?_) rfl (by kernel_rfl) (by kernel_rfl) (by kernel_rfl) (fun _ _ _ h => h) (Or.inl ⟨by rfl, ?_⟩) (by assumption) ?_
        rotate_left
        · (intro w hSw; obtain hSw := hSw; (try dsimp only at hSw); go_simp; try (with_reducible rfl))
        (try simp only [Act.put, List.setIfInBounds_toArray, List.set_cons_zero, List.set_cons_succ, List.getElem_toArray, List.getElem_cons_succ, List.getElem_cons_zero])
        replace RA : u6.drew.heap[A]? = some (.cells #[.slice none 0 0] 26 (0, 0)) := RA
        replace B : Below A w u6.drew := B.drew
        replace hs : Src u6.drew b a n cap := hs.drewN 1
        replace RX : u6.drew.heap[Xb]? = some (.cells #[.slice x2 S2.length c2] 26 (0, 0)) := RX
        replace hX : IntsX Xb u6.drew x2 S2 := hX
        replace hC : IntsX b u6.drew a2 C2 := hC
        refine wpAnyH_ready (rs := [2]) (by kernel_rfl) (by simp) ?_
        refine AllReadyH.cons rfl (fun K hK => ?_) AllReadyH.nil
        have hXl := hX.lower (b := b) (by omega)
        go_simp
        (go_at_call 56; refine (bad_any b a n cap hn x2 S2 c2 hSp2 u6.drew hs hXl).mono ?_)
        have zlt := hs.lt
        rintro e u7 ⟨ax, T, cxT, rfl, hXT, hT, hs', hg⟩
        replace RA : u7.heap[A]? = some (.cells #[.slice none 0 0] 26 (0, 0)) := row_g RA hg (by simp; omega)
        replace B : Below A w u7 := below_g B (by omega) hg (by omega)
        replace RX : u7.heap[Xb]? = some (.cells #[.slice x2 S2.length c2] 26 (0, 0)) := row_g RX hg (by simp; omega)
        replace hX : IntsX Xb u7 x2 S2 := hX.grownR hg (by intro g o e; have := hX.2 g o e; simp; omega)
        replace hC : IntsX b u7 a2 C2 := hC.grownR hg (by intro g o e; have := hC.2 g o e; simp; omega)
        replace hs := hs'
        clear hg zlt hs'
        clear hXl
        refine hK.out _ _ (cell_of1' RX) (fun hHeld => ?_)
        clear hK K
        (try simp only [Act.put, List.setIfInBounds_toArray, List.set_cons_zero, List.set_cons_succ, List.getElem_toArray, List.getElem_cons_succ, List.getElem_cons_zero])
        refine wpAnyH_ready (rs := [6]) (by kernel_rfl) (by simp) ?_
        refine AllReadyH.cons rfl (fun K hK => ?_) AllReadyH.nil
        have hXl := hX.lower (b := b) (by omega)
        have hCl := hC.lower (b := b) (by omega)
        have zU := hs.lt
        go_simp
        (go_at_call 57; refine (badCode_any b a n cap hn x2 S2 c2 hSp2 a2 C2 cg2 hcap2 hl2 u7 hs hXl hCl).mono ?_)
        have zlt := hs.lt
        rintro e u8 ⟨g, cE, E, rfl, ownE, hE, hs', hg⟩
        replace RA : u8.heap[A]? = some (.cells #[.slice none 0 0] 26 (0, 0)) := row_g RA hg (by simp; omega)
        replace B : Below A w u8 := below_g B (by omega) hg (by omega)
        replace RX : u8.heap[Xb]? = some (.cells #[.slice x2 S2.length c2] 26 (0, 0)) := row_g RX hg (by simp; omega)
        replace hX : IntsX Xb u8 x2 S2 := hX.grownR hg (by intro g o e; have := hX.2 g o e; simp; omega)
        replace hC : IntsX b u8 a2 C2 := hC.grownR hg (by intro g o e; have := hC.2 g o e; simp; omega)
        replace hXT : IntsX b u8 ax T := hXT.grownR hg (by intro g o e; have := hXT.2 g o e; simp; omega)
        replace hs := hs'
        clear hg zlt hs'
        have zg : u7.heap.size ≤ g := ownBlock_ge5 ownE rfl
        have hgb : b < g := by omega
        replace ownE := ownE.rebase (base' := w.heap.size) (by have := HA.out; omega)
        clear zU zg hXl hCl
        refine hK.out _ _ (cell_of1' RX) (fun hHeld => ?_)
        clear hK K
        (try simp only [Act.put, List.setIfInBounds_toArray, List.set_cons_zero, List.set_cons_succ, List.getElem_toArray, List.getElem_cons_succ, List.getElem_cons_zero])
        refine wpAnyH_ready (rs := [8]) (by kernel_rfl) (by simp) ?_
        refine AllReadyH.cons rfl (fun K hK => ?_) AllReadyH.nil
        clear hs
        have xSt := cell_of1' RA
        have fSt := frozen_of_row u8 A 0 _ _ RA
        have zSt := row_lt RA
        go_simp
        replace RA : (u8.setCell ⟨A, 0, none⟩ (.slice ax T.length cxT)).heap[A]? = some (.cells #[.slice ax T.length cxT] 26 (0, 0)) := row_store1' _ RA
        replace B : Below A w (u8.setCell ⟨A, 0, none⟩ (.slice ax T.length cxT)) := B.setCell (by first | (simp; done) | (simp; omega)) _
        replace RX : (u8.setCell ⟨A, 0, none⟩ (.slice ax T.length cxT)).heap[Xb]? = some (.cells #[.slice x2 S2.length c2] 26 (0, 0)) := row_setO RX (by simp; omega) _
        replace hX : IntsX Xb (u8.setCell ⟨A, 0, none⟩ (.slice ax T.length cxT)) x2 S2 := hX.set _ _ (by intro g o e; have := hX.2 g o e; omega)
        replace hC : IntsX b (u8.setCell ⟨A, 0, none⟩ (.slice ax T.length cxT)) a2 C2 := hC.set _ _ (by intro g o e; have := hC.2 g o e; omega)
        replace hXT : IntsX b (u8.setCell ⟨A, 0, none⟩ (.slice ax T.length cxT)) ax T := hXT.set _ _ (by intro g o e; have := hXT.2 g o e; omega)
        replace ownE : OwnInts (u8.setCell ⟨A, 0, none⟩ (.slice ax T.length cxT)) w.heap.size (.slice (some ⟨g, 0, none⟩) E.length cE) E := own_setO ownE _ (fun e => by simp [Value.ownBlock] at e; omega) _
        clear xSt fSt zSt
        refine hK.out _ _ (cell_of1' RX) (fun hHeld => ?_)
        clear hK K
        (try simp only [Act.put, List.setIfInBounds_toArray, List.set_cons_zero, List.set_cons_succ, List.getElem_toArray, List.getElem_cons_succ, List.getElem_cons_zero])
        refine wpAnyH_take (i := 9) (v := ?_) rfl (by kernel_rfl) (by kernel_rfl) (by kernel_rfl) (fun _ _ _ h => h) (Or.inl ⟨by rfl, ?_⟩) (by assumption) ?_
        rotate_left
        · (intro w hSw; obtain hSw := hSw; (try dsimp only at hSw); go_simp; try (with_reducible rfl))
        (try simp only [Act.put, List.setIfInBounds_toArray, List.set_cons_zero, List.set_cons_succ, List.getElem_toArray, List.getElem_cons_succ, List.getElem_cons_zero])
        refine wpAnyH_take (i := 10) (v := ?_) rfl (by kernel_rfl) (by kernel_rfl) (by kernel_rfl) (fun _ _ _ h => h) (Or.inl ⟨by rfl, ?_⟩) (by assumption) ?_
        rotate_left
        · (intro w hSw; obtain hSw := hSw; (try dsimp only at hSw); go_simp; try (with_reducible rfl))
        (try simp only [Act.put, List.setIfInBounds_toArray, List.set_cons_zero, List.set_cons_succ, List.getElem_toArray, List.getElem_cons_succ, List.getElem_cons_zero])
        refine wpAnyH_done (by kernel_rfl) ?_ _
        (try simp only [Act.put, List.setIfInBounds_toArray, List.set_cons_zero, List.set_cons_succ, List.getElem_toArray, List.getElem_cons_succ, List.getElem_cons_zero])
        have xA := cell_of1' RA
        have zA := row_lt RA
        go_wp2_with fail
        refine bodyPost_ret (by rw [results_cell_tmp2w rfl]; go_simp; try rfl) rfl ?_
        exact ⟨ax, T, cxT, g, cE, E, r, rfl, hXT.1, (fun g o e => by have := hXT.2 g o e; have := HA.out; omega), hT, ownE, hE, (by omega), by rw [← HA.out]; exact B⟩
      · have e1 : (q == 1) = false := by simpa using hq1
        clear hq1
        have xX := cell_of1' RX
        go_wp2_with fail
        refine wp_region_held_drew (S := fun w' => w'.cell? ⟨Xb, 0, none⟩ = some (.slice x S.length c)) (by kernel_rfl) (cell_of1' RX) (fun hHeld => ?_)
        refine wpAnyH_take (i := 0) (v := ?_) rfl (by kernel_rfl) (by kernel_rfl) (by kernel_rfl) (fun _ _ _ h => h) (Or.inl ⟨by rfl, ?_⟩) (by assumption) ?_
        rotate_left
        · (intro w hSw; obtain hSw := hSw; (try dsimp only at hSw); go_simp; try (with_reducible rfl))
        (try simp only [Act.put, List.setIfInBounds_toArray, List.set_cons_zero, List.set_cons_succ, List.getElem_toArray, List.getElem_cons_succ, List.getElem_cons_zero])
        refine wpAnyH_take (i := 1) (v := ?_) rfl (by kernel_rfl) (by kernel_rfl) (by kernel_rfl) (fun _ _ _ h => h) (Or.inl ⟨by rfl, ?_⟩) (by assumption) ?_
        rotate_left
        · (intro w hSw; obtain hSw := hSw; (try dsimp only at hSw); go_simp; try (with_reducible rfl))
        (try simp only [Act.put, List.setIfInBounds_toArray, List.set_cons_zero, List.set_cons_succ, List.getElem_toArray, List.getElem_cons_succ, List.getElem_cons_zero])
        refine wpAnyH_take (i := 3) (v := ?_) rfl (by kernel_rfl) (by kernel_rfl) (by kernel_rfl) (fun _ _ _ h => h) (Or.inl ⟨by rfl, ?_⟩) (by assumption) ?_
        rotate_left
        · (intro w hSw; obtain hSw := hSw; (try dsimp only at hSw); go_simp; try (with_reducible rfl))
        (try simp only [Act.put, List.setIfInBounds_toArray, List.set_cons_zero, List.set_cons_succ, List.getElem_toArray, List.getElem_cons_succ, List.getElem_cons_zero])
        refine wpAnyH_take (i := 4) (v := ?_) rfl (by kernel_rfl) (by kernel_rfl) (by kernel_rfl) (fun _ _ _ h => h) (Or.inl ⟨by rfl, ?_⟩) (by assumption) ?_
        rotate_left
        · (intro w hSw; obtain hSw := hSw; (try dsimp only at hSw); go_simp; try (with_reducible rfl))
        (try simp only [Act.put, List.setIfInBounds_toArray, List.set_cons_zero, List.set_cons_succ, List.getElem_toArray, List.getElem_cons_succ, List.getElem_cons_zero])
        refine wpAnyH_take (i := 5) (v := ?_) rfl (by kernel_rfl) (by kernel_rfl) (by kernel_rfl) (fun _ _ _ h => h) (Or.inl ⟨by rfl, ?_⟩) (by assumption) ?_
        rotate_left
        · (intro w hSw; obtain hSw := hSw; (try dsimp only at hSw); go_simp; try (with_reducible rfl))
        (try simp only [Act.put, List.setIfInBounds_toArray, List.set_cons_zero, List.set_cons_succ, List.getElem_toArray, List.getElem_cons_succ, List.getElem_cons_zero])
        refine wpAnyH_take (i := 7) (v := ?_) rfl (by kernel_rfl) (by kernel_rfl) (by kernel_rfl) (fun _ _ _ h => h) (Or.inl ⟨by rfl, ?_⟩) (by assumption) ?_
        rotate_left
        · (intro w hSw; obtain hSw := hSw; (try dsimp only at hSw); go_simp; try (with_reducible rfl))
        (try simp only [Act.put, List.setIfInBounds_toArray, List.set_cons_zero, List.set_cons_succ, List.getElem_toArray, List.getElem_cons_succ, List.getElem_cons_zero])
        replace RA : u4.drew.heap[A]? = some (.cells #[.slice none 0 0] 26 (0, 0)) := RA
        replace B : Below A w u4.drew := B.drew
        replace hs : Src u4.drew b a n cap := hs.drewN 1
        replace hX : IntsX b u4.drew x S := hX
        replace hC : IntsX b u4.drew aC C := hC
        replace RX : u4.drew.heap[Xb]? = some (.cells #[.slice x S.length c] 26 (0, 0)) := RX
        refine wpAnyH_ready (rs := [2]) (by kernel_rfl) (by simp) ?_
        refine AllReadyH.cons rfl (fun K hK => ?_) AllReadyH.nil
        have hXl := hX.lower (b := b) (by omega)
        go_simp
        (go_at_call 56; refine (bad_any b a n cap hn x S c hSp u4.drew hs hXl).mono ?_)
        have zlt := hs.lt
        rintro e u5 ⟨ax, T, cxT, rfl, hXT, hT, hs', hg⟩
        replace RA : u5.heap[A]? = some (.cells #[.slice none 0 0] 26 (0, 0)) := row_g RA hg (by simp; omega)
        replace B : Below A w u5 := below_g B (by omega) hg (by omega)
        replace hX : IntsX b u5 x S := hX.grownR hg (by intro g o e; have := hX.2 g o e; simp; omega)
        replace hC : IntsX b u5 aC C := hC.grownR hg (by intro g o e; have := hC.2 g o e; simp; omega)
        replace RX : u5.heap[Xb]? = some (.cells #[.slice x S.length c] 26 (0, 0)) := row_g RX hg (by simp; omega)
        replace hs := hs'
        clear hg zlt hs'
        clear hXl
        refine hK.out _ _ (cell_of1' RX) (fun hHeld => ?_)
        clear hK K
        (try simp only [Act.put, List.setIfInBounds_toArray, List.set_cons_zero, List.set_cons_succ, List.getElem_toArray, List.getElem_cons_succ, List.getElem_cons_zero])
        refine wpAnyH_ready (rs := [6]) (by kernel_rfl) (by simp) ?_
        refine AllReadyH.cons rfl (fun K hK => ?_) AllReadyH.nil
        have hXl := hX.lower (b := b) (by omega)
        have hCl := hC.lower (b := b) (by omega)
        have zU := hs.lt
        go_simp
        (go_at_call 57; refine (badCode_any b a n cap hn x S c hSp aC C cg hcap hl u5 hs hXl hCl).mono ?_)
        have zlt := hs.lt
        rintro e u6 ⟨g, cE, E, rfl, ownE, hE, hs', hg⟩
        replace RA : u6.heap[A]? = some (.cells #[.slice none 0 0] 26 (0, 0)) := row_g RA hg (by simp; omega)
        replace B : Below A w u6 := below_g B (by omega) hg (by omega)
        replace hX : IntsX b u6 x S := hX.grownR hg (by intro g o e; have := hX.2 g o e; simp; omega)
        replace hC : IntsX b u6 aC C := hC.grownR hg (by intro g o e; have := hC.2 g o e; simp; omega)
        replace RX : u6.heap[Xb]? = some (.cells #[.slice x S.length c] 26 (0, 0)) := row_g RX hg (by simp; omega)
        replace hXT : IntsX b u6 ax T := hXT.grownR hg (by intro g o e; have := hXT.2 g o e; simp; omega)
        replace hs := hs'
        clear hg zlt hs'
        have zg : u5.heap.size ≤ g := ownBlock_ge5 ownE rfl
        have hgb : b < g := by omega
        replace ownE := ownE.rebase (base' := w.heap.size) (by have := HA.out; omega)
        clear zU zg hXl hCl
        refine hK.out _ _ (cell_of1' RX) (fun hHeld => ?_)
        clear hK K
        (try simp only [Act.put, List.setIfInBounds_toArray, List.set_cons_zero, List.set_cons_succ, List.getElem_toArray, List.getElem_cons_succ, List.getElem_cons_zero])
        refine wpAnyH_ready (rs := [8]) (by kernel_rfl) (by simp) ?_
        refine AllReadyH.cons rfl (fun K hK => ?_) AllReadyH.nil
        clear hs
        have xSt := cell_of1' RA
        have fSt := frozen_of_row u6 A 0 _ _ RA
        have zSt := row_lt RA
        go_simp
        replace RA : (u6.setCell ⟨A, 0, none⟩ (.slice ax T.length cxT)).heap[A]? = some (.cells #[.slice ax T.length cxT] 26 (0, 0)) := row_store1' _ RA
        replace B : Below A w (u6.setCell ⟨A, 0, none⟩ (.slice ax T.length cxT)) := B.setCell (by first | (simp; done) | (simp; omega)) _
        replace hX : IntsX b (u6.setCell ⟨A, 0, none⟩ (.slice ax T.length cxT)) x S := hX.set _ _ (by intro g o e; have := hX.2 g o e; omega)
        replace hC : IntsX b (u6.setCell ⟨A, 0, none⟩ (.slice ax T.length cxT)) aC C := hC.set _ _ (by intro g o e; have := hC.2 g o e; omega)
        replace RX : (u6.setCell ⟨A, 0, none⟩ (.slice ax T.length cxT)).heap[Xb]? = some (.cells #[.slice x S.length c] 26 (0, 0)) := row_setO RX (by simp; omega) _
        replace hXT : IntsX b (u6.setCell ⟨A, 0, none⟩ (.slice ax T.length cxT)) ax T := hXT.set _ _ (by intro g o e; have := hXT.2 g o e; omega)
        replace ownE : OwnInts (u6.setCell ⟨A, 0, none⟩ (.slice ax T.length cxT)) w.heap.size (.slice (some ⟨g, 0, none⟩) E.length cE) E := own_setO ownE _ (fun e => by simp [Value.ownBlock] at e; omega) _
        clear xSt fSt zSt
        refine hK.out _ _ (cell_of1' RX) (fun hHeld => ?_)
        clear hK K
        (try simp only [Act.put, List.setIfInBounds_toArray, List.set_cons_zero, List.set_cons_succ, List.getElem_toArray, List.getElem_cons_succ, List.getElem_cons_zero])
        refine wpAnyH_take (i := 9) (v := ?_) rfl (by kernel_rfl) (by kernel_rfl) (by kernel_rfl) (fun _ _ _ h => h) (Or.inl ⟨by rfl, ?_⟩) (by assumption) ?_
        rotate_left
        · (intro w hSw; obtain hSw := hSw; (try dsimp only at hSw); go_simp; try (with_reducible rfl))
        (try simp only [Act.put, List.setIfInBounds_toArray, List.set_cons_zero, List.set_cons_succ, List.getElem_toArray, List.getElem_cons_succ, List.getElem_cons_zero])
        refine wpAnyH_take (i := 10) (v := ?_) rfl (by kernel_rfl) (by kernel_rfl) (by kernel_rfl) (fun _ _ _ h => h) (Or.inl ⟨by rfl, ?_⟩) (by assumption) ?_
        rotate_left
        · (intro w hSw; obtain hSw := hSw; (try dsimp only at hSw); go_simp; try (with_reducible rfl))
        (try simp only [Act.put, List.setIfInBounds_toArray, List.set_cons_zero, List.set_cons_succ, List.getElem_toArray, List.getElem_cons_succ, List.getElem_cons_zero])
        refine wpAnyH_done (by kernel_rfl) ?_ _
        (try simp only [Act.put, List.setIfInBounds_toArray, List.set_cons_zero, List.set_cons_succ, List.getElem_toArray, List.getElem_cons_succ, List.getElem_cons_zero])
        have xA := cell_of1' RA
        have zA := row_lt RA
        go_wp2_with fail
        refine bodyPost_ret (by rw [results_cell_tmp2w rfl]; go_simp; try rfl) rfl ?_
        exact ⟨ax, T, cxT, g, cE, E, r, rfl, hXT.1, (fun g o e => by have := hXT.2 g o e; have := HA.out; omega), hT, ownE, hE, (by omega), by rw [← HA.out]; exact B⟩

set_option maxHeartbeats 4000000 in
theorem drawPerf_any (a : Option Addr) (n cap : Nat) (hn : n ≤ 4096) (w : World) (hY : Byts w w.heap.size a n) :
    Calls Try.prog 8 #[.slice a n cap] w fun e w' => ∃ ax T cx g cg F r, e = .returned (.tuple #[.agg #[.slice ax T.length cx], .slice (some ⟨g, 0, none⟩) F.length cg, .int .i64 r]) ∧ Ints w' ax T ∧ (∀ g o, ax = some ⟨g, o, none⟩ → w.heap.size ≤ g) ∧ T.length ≤ 8 ∧ OwnInts w' w.heap.size (.slice (some ⟨g, 0, none⟩) F.length cg) F ∧ F.length ≤ 1048577 ∧ (-9223372036854775808 ≤ r ∧ r ≤ 9223372036854775807) ∧ Below w.heap.size w w' := by
  obtain ⟨A, hA⟩ : ∃ A, A = w.heap.size := ⟨_, rfl⟩
  obtain ⟨W, hW⟩ : ∃ W, W = w.alloc (.cells #[.slice none 0 0] 26) := ⟨_, rfl⟩
  have zW : W.heap.size = A + 1 := by rw [hW, hA]; simp
  have RA0 : W.heap[A]? = some (.cells #[.slice none 0 0] 26 (0, 0)) := by rw [hW, hA]; exact heap_alloc_new w _
  have B0 : Below A w W := by rw [hW, hA]; exact (Below.refl _ w).alloc (Nat.le_refl _) _
  have hY0 : Byts W W.heap.size a n := by rw [zW]; exact ((hY.mono (by omega)).keep fun b o v hb h => by rw [hW]; exact kept_cell ((Below.refl w.heap.size w).alloc (Nat.le_refl _) _) h (by have := World.block_lt_of_cell? w _ h; exact this))
  have hc := perfWith_any a n cap hn W hY0
  have HA := Lib.hid hA
  have HW := Lib.hid hW
  clear hA hW hY0
  go_enter Try.func8, Try.ntmps8
  go_wp2_with fail
  rw [← HW.out, ← HA.out]
  refine hc.mono ?_
  rintro e w1 ⟨ax, T, cx, g, cg, E, r, rfl, hI, hax, hT, ownE, hE, hr, hb1⟩
  have RA1 := row_g RA0 (grown_of_below hb1 none) (by simp)
  have B1 : Below A w w1 := B0.trans (hb1.mono (by omega))
  have hax' : ∀ g o, ax = some ⟨g, o, none⟩ → A + 1 ≤ g := fun g o e => by have := hax g o e; omega
  have hgA : A + 1 ≤ g := by have : W.heap.size ≤ g := ownBlock_ge5 ownE rfl; omega
  have ownW := ownE.rebase (base' := w.heap.size) (by have := HA.out; omega)
  have hAx : ∀ g o, ax = some ⟨g, o, none⟩ → g ≠ A := fun g o e => by have := hax' g o e; omega
  clear hc hb1 RA0 B0 hax ownE zW
  have xA := cell_of1' RA1
  have fA := frozen_of_row w1 A 0 _ _ RA1
  have zA := row_lt RA1
  have HIe : Ints (w1.setCell ⟨A, 0, none⟩ (.slice ax T.length cx)) ax T := ints_setA hI hAx
  have owne := own_setO ownW A (fun e => by simp [Value.ownBlock] at e; omega) (.slice ax T.length cx)
  have Be : Below A w (w1.setCell ⟨A, 0, none⟩ (.slice ax T.length cx)) := B1.setCell (by simp) _
  go_wp2_with fail
  refine bodyPost_ret (by rw [results_cell_tmp2w rfl]; go_simp; try rfl) rfl ?_
  exact ⟨ax, T, cx, g, cg, E, r, rfl, HIe, (fun g o e => by have := hax' g o e; have := HA.out; omega), hT, owne, hE, hr, by rw [← HA.out]; exact Be⟩

end Go.Proofs.Ytcnnijeokefboab
