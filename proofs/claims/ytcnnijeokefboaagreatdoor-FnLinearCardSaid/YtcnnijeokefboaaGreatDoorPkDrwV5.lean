/-
  The draws of chapter 5 from bytes. By an AI agent.
-/
import Derived.Test.YtcnnijeokefboaaGreatDoorPkDrwU5
namespace Go.Proofs.YtcnnijeokefboaaGreatDoor
open Go.RowKit Cv
set_option linter.unusedVariables false
set_option linter.unusedSimpArgs false
set_option maxRecDepth 100000

set_option maxHeartbeats 8000000 in
theorem drawSpan_any (a : Option Addr) (n cap : Nat) (hn : n ≤ 4096) (w : World) (hY : Byts w w.heap.size a n) :
    Calls Tryz.prog 6 #[.slice a n cap] w fun e w' => ∃ ax T cx g cg F, e = .returned (.tuple #[.agg #[.slice ax T.length cx], .slice (some ⟨g, 0, none⟩) F.length cg]) ∧ Ints w' ax T ∧ (∀ g o, ax = some ⟨g, o, none⟩ → w.heap.size ≤ g) ∧ T.length ≤ 8 ∧ OwnInts w' w.heap.size (.slice (some ⟨g, 0, none⟩) F.length cg) F ∧ F.length ≤ 1048577 ∧ Below w.heap.size w w' := by
  obtain ⟨A, hA⟩ : ∃ A, A = w.heap.size := ⟨_, rfl⟩
  obtain ⟨W, hW⟩ : ∃ W, W = w.alloc (.cells #[.slice none 0 0] 26) := ⟨_, rfl⟩
  have zW : W.heap.size = A + 1 := by rw [hW, hA]; simp
  have RA : W.heap[A]? = some (.cells #[.slice none 0 0] 26 (0, 0)) := by rw [hW, hA]; exact heap_alloc_new w _
  have B : Below A w W := by rw [hW, hA]; exact (Below.refl _ w).alloc (Nat.le_refl _) _
  have hY0 : Byts W W.heap.size a n := by rw [zW]; exact ((hY.mono (by omega)).keep fun b o v hb h => by rw [hW]; exact kept_cell ((Below.refl w.heap.size w).alloc (Nat.le_refl _) _) h (by have := World.block_lt_of_cell? w _ h; exact this))
  have hfr := from_any a n cap hn W hY0
  have HA := Lib.hid hA
  have HW := Lib.hid hW
  obtain ⟨b, hb⟩ : ∃ b, b = W.heap.size := ⟨_, rfl⟩
  rw [← hb] at hfr hY0
  have hbA : b = A + 1 := by omega
  have HB := Lib.hid hb
  clear hA hW
  go_enter Tryz.func6, Tryz.ntmps6
  go_wp2_with fail
  rw [← HW.out, ← HA.out]
  refine hfr.mono ?_
  rintro e w1 ⟨rfl, hs, hb1⟩
  rw [hb] at hb1
  replace RA := row_g RA (grown_of_below hb1 none) (by simp)
  replace B := B.trans (hb1.mono (by omega))
  have hAb : A < b := by omega
  clear hfr hb1 hb zW hbA hY hY0
  have hc := space5_any b a n cap hn w1 hs
  have zlt := hs.lt
  have zsz := row_lt RA
  go_wp2_with fail
  refine hc.mono ?_
  rintro e u1 ⟨x, S, c, rfl, hX, hSp, hs', hg⟩
  replace hX := hX.lower (b := b) (by omega)
  replace RA : u1.heap[A]? = some (.cells #[.slice none 0 0] 26 (0, 0)) := row_g RA hg (by simp; omega)
  replace B : Below A w u1 := below_g B (by omega) hg (by omega)
  replace hs := hs'
  clear hc hg hs' zlt zsz
  have hAl := row_lt RA
  have hbl2 := hs.lt
  have hXl0 : ∀ g' o, x = some ⟨g', o, none⟩ → g' < u1.heap.size := fun g' o e => by
    rcases hX.1 with h | ⟨g2, o2, e2, hl2, _⟩
    · have := hSp.lo; omega
    · rw [e] at e2; cases e2; exact hl2
  obtain ⟨Xb, hXb⟩ : ∃ z, z = u1.heap.size := ⟨_, rfl⟩
  obtain ⟨u2, hu2⟩ : ∃ z, z = u1.alloc (.cells #[.slice x S.length c] 26) := ⟨_, rfl⟩
  have RX : u2.heap[Xb]? = some (.cells #[.slice x S.length c] 26 (0, 0)) := by rw [hu2, hXb]; exact heap_alloc_new _ _
  replace RA : u2.heap[A]? = some (.cells #[.slice none 0 0] 26 (0, 0)) := by rw [hu2]; exact row_g RA (World.grownBy_alloc _ _ none) (by simp)
  replace B : Below A w u2 := by rw [hu2]; exact B.alloc (by first | exact B.size | omega) _
  replace hs : Src u2 b a n cap := by rw [hu2]; exact hs.alloc _
  replace hX : IntsX b u2 x S := by rw [hu2]; exact hX.below (B := 0) ((Below.refl _ _).alloc (Nat.le_refl _) _)
  have HXb := Lib.hid hXb
  have Hu2 := Lib.hid hu2
  have hXlt : ∀ g' o, x = some ⟨g', o, none⟩ → g' < Xb := by rw [hXb]; exact hXl0
  have hAX : A < Xb := by rw [hXb]; exact hAl
  have hbX : b < Xb := by rw [hXb]; exact hbl2
  clear hXl0
  clear hXb hu2 hAl hbl2
  have S8 := hSp.hi
  have xX := cell_of1' RX
  have zU := hs.lt
  have zX1 := row_lt RX
  have hc := some5_any b a n cap hn x S c hSp u2 hs hX
  go_wp2_with fail
  rw [← Hu2.out, ← HXb.out]
  refine hc.mono ?_
  have zlt := hs.lt
  rintro e u3 ⟨g, cE, E, rfl, ownE, hL5, hLw, hs', hg⟩
  have zg : u2.heap.size ≤ g := ownBlock_ge5 ownE rfl
  replace RA : u3.heap[A]? = some (.cells #[.slice none 0 0] 26 (0, 0)) := row_g RA hg (by simp; omega)
  replace B : Below A w u3 := below_g B (by omega) hg (by omega)
  replace hX : IntsX b u3 x S := hX.grownR hg (by intro g o e; have := hX.2 g o e; simp; omega)
  replace RX : u3.heap[Xb]? = some (.cells #[.slice x S.length c] 26 (0, 0)) := row_g RX hg (by simp; omega)
  have hgb : b < g := by omega
  have hXg : Xb < g := by omega
  replace ownE := ownE.rebase (base' := w.heap.size) (by have := HA.out; omega)
  replace hs := hs'
  clear hc hg hs' zlt zU zg hLw xX zX1
  have xX := cell_of1' RX
  have zlt := hs.lt
  have hnx := next_any b a n cap hn 16 (by omega) u3 hs
  go_wp2_with fail
  refine hnx.mono ?_
  rintro e u4 ⟨q, rfl, q0, q1, q2, hs', hg⟩
  replace RA : u4.heap[A]? = some (.cells #[.slice none 0 0] 26 (0, 0)) := row_g RA hg (by simp; omega)
  replace B : Below A w u4 := below_g B (by omega) hg (by omega)
  replace hX : IntsX b u4 x S := hX.grownR hg (by intro g o e; have := hX.2 g o e; simp; omega)
  replace RX : u4.heap[Xb]? = some (.cells #[.slice x S.length c] 26 (0, 0)) := row_g RX hg (by simp; omega)
  replace ownE : OwnInts u4 w.heap.size (.slice (some ⟨g, 0, none⟩) E.length cE) E := ownE.kept hg (.inr (by simp [Value.ownBlock]; omega))
  replace hs := hs'
  clear hnx hg hs' zlt q0 q1 q2 xX
  have xX := cell_of1' RX
  by_cases hq0 : q = 0
  · have e0 : (q == 0) = true := by simpa using hq0
    clear hq0
    obtain ⟨N1, N2⟩ := nW_bd hSp
    have hN := l01N_any x S c u4 hSp.hi hSp.bd hX.1
    obtain ⟨M, hM⟩ : ∃ M, M = prodTo S S.length := ⟨_, rfl⟩
    unfold nW at N1 N2
    rw [← hM] at N1 N2
    try unfold nW at hN
    rw [← hM] at hN
    clear hM
    go_wp2_with fail
    refine hN.mono ?_
    rintro e u5 ⟨rfl, hb⟩
    replace RA : u5.heap[A]? = some (.cells #[.slice none 0 0] 26 (0, 0)) := row_g RA (grown_of_below hb none) (by simp)
    replace B : Below A w u5 := B.trans (hb.mono (by first | exact B.size | (have := hs.lt; omega)))
    replace hs : Src u5 b a n cap := hs.below hb hs.lt
    replace hX : IntsX b u5 x S := hX.below (B := 0) hb
    replace RX : u5.heap[Xb]? = some (.cells #[.slice x S.length c] 26 (0, 0)) := row_g RX (grown_of_below hb none) (by simp)
    replace ownE : OwnInts u5 w.heap.size (.slice (some ⟨g, 0, none⟩) E.length cE) E := ownE.below hb
    clear hN hb xX
    obtain ⟨v6, hv6⟩ : ∃ z, z = u5.alloc (.cells #[.int .i64 (-1), .int .i64 M] 2) := ⟨_, rfl⟩
    have I2 : Ints v6 (some ⟨u5.heap.size, 0, none⟩) [-1, M] := by rw [hv6]; exact ints_new _ [-1, M] _
    have zA1 := row_lt RA
    have zs1 := hs.lt
    replace RA : v6.heap[A]? = some (.cells #[.slice none 0 0] 26 (0, 0)) := by rw [hv6]; exact row_g RA (World.grownBy_alloc _ _ none) (by simp)
    replace B : Below A w v6 := by rw [hv6]; exact B.alloc (by omega) _
    replace hs : Src v6 b a n cap := by rw [hv6]; exact hs.alloc _
    replace hX : IntsX b v6 x S := by rw [hv6]; exact hX.below (B := 0) ((Below.refl _ _).alloc (Nat.le_refl _) _)
    replace RX : v6.heap[Xb]? = some (.cells #[.slice x S.length c] 26 (0, 0)) := by rw [hv6]; exact row_g RX (World.grownBy_alloc _ _ none) (by simp)
    replace ownE : OwnInts v6 w.heap.size (.slice (some ⟨g, 0, none⟩) E.length cE) E := by rw [hv6]; exact ownE.alloc _
    have hc := pick_n b a n cap hn u5.heap.size _ 2 rfl (by omega) (by omega) (by omega) v6 hs I2
    have Hv6 := Lib.hid hv6
    clear hv6 I2
    have zlt := hs.lt
    go_wp2_with fail
    rw [← Hv6.out]
    refine hc.mono ?_
    rintro e u7 ⟨z, rfl, hz, hs', hg⟩
    replace RA : u7.heap[A]? = some (.cells #[.slice none 0 0] 26 (0, 0)) := row_g RA hg (by simp; omega)
    replace B : Below A w u7 := below_g B (by omega) hg (by omega)
    replace hX : IntsX b u7 x S := hX.grownR hg (by intro g o e; have := hX.2 g o e; simp; omega)
    replace RX : u7.heap[Xb]? = some (.cells #[.slice x S.length c] 26 (0, 0)) := row_g RX hg (by simp; omega)
    replace ownE : OwnInts u7 w.heap.size (.slice (some ⟨g, 0, none⟩) E.length cE) E := ownE.kept hg (.inr (by simp [Value.ownBlock]; omega))
    replace hs := hs'
    clear hc hg hs' zlt zA1 zs1 hz
    have zs1 := hs.lt
    have hob : ∀ k, (Value.slice (some ⟨g, 0, none⟩) E.length cE).ownBlock = some k → k = g := fun k e => by simp [Value.ownBlock] at e; omega
    go_wp2_with (at_builtin; refine wpList_append_int_at rfl _ _ rfl w.heap.size _ E rfl (ownE.alloc _) u7.heap.size z rfl (cell_new _ _ _) (by omega) (by simp; have := HA.out; omega) ?_; intro v' wz own' hgrow hnew; obtain ⟨a6, cF, hv6⟩ := own_shp own'; rw [List.length_append, List.length_singleton] at hv6; subst hv6; have RA' := row_g (row_g RA (World.grownBy_alloc u7 (.cells #[.int .i64 z] 2) none) (by simp)) hgrow (fun e => by have := hob _ e.symm; omega); have RX' := row_g (row_g RX (World.grownBy_alloc u7 (.cells #[.int .i64 z] 2) none) (by simp)) hgrow (fun e => by have := hob _ e.symm; omega); have hX' : IntsX b wz x S := (hX.below (B := 0) ((Below.refl _ _).alloc (Nat.le_refl _) (.cells #[.int .i64 z] 2))).grownR hgrow (fun g' o e e2 => by have h1 := hXlt g' o e; have := hob _ e2.symm; omega); have hs'' : Src wz b a n cap := (hs.alloc (.cells #[.int .i64 z] 2)).grownO hgrow (fun g' e => by have := hob _ e; omega); have B' : Below A w wz := (B.alloc (by omega) (.cells #[.int .i64 z] 2)).grown hgrow (by simp; omega) (fun k' hk => by have := hob _ hk; omega); have xX2 := cell_of1' RX'; have hc2 := bad_any b a n cap hn x S c hSp wz hs'' hX')
    replace RA := RA'
    replace RX := RX'
    replace hX := hX'
    replace hs := hs''
    replace B := B'
    clear RA' RX' hX' hs'' B' hgrow xX2
    obtain ⟨E2, hE2⟩ : ∃ E2, E2 = E ++ [z] := ⟨_, rfl⟩
    have hl2 : E.length + 1 = E2.length := by rw [hE2, List.length_append, List.length_singleton]
    rw [hl2] at own' hnew ⊢
    rw [← hE2] at own'
    obtain ⟨g2, rfl⟩ := own_some5 own' (by omega)
    have hgb2 : b < g2 := by
      rcases hnew with e | e
      · have e2 : some g2 = some g := e
        have e3 := Option.some.inj e2
        omega
      · have e2 : some g2 = some (u7.alloc (.cells #[.int .i64 z] 2)).heap.size := e
        have e3 := Option.some.inj e2
        simp at e3
        omega
    clear hnew hE2
    have hE' : E2.length ≤ 6 := by omega
    clear hl2
    replace ownE := own'
    clear own'
    refine hc2.mono ?_
    have zlt := hs.lt
    rintro e u8 ⟨ax, T, cxT, rfl, hXT, hT, hs', hg⟩
    replace RA : u8.heap[A]? = some (.cells #[.slice none 0 0] 26 (0, 0)) := row_g RA hg (by simp; omega)
    replace B : Below A w u8 := below_g B (by omega) hg (by omega)
    replace hX : IntsX b u8 x S := hX.grownR hg (by intro g o e; have := hX.2 g o e; simp; omega)
    replace RX : u8.heap[Xb]? = some (.cells #[.slice x S.length c] 26 (0, 0)) := row_g RX hg (by simp; omega)
    replace ownE : OwnInts u8 w.heap.size (.slice (some ⟨g2, 0, none⟩) E2.length cF) E2 := ownE.kept hg (.inr (by simp [Value.ownBlock]; omega))
    clear hc2 hg hs' zlt hs
    have xA := cell_of1' RA
    have fA := frozen_of_row u8 A 0 _ _ RA
    have zA := row_lt RA
    have HIe : Ints (u8.setCell ⟨A, 0, none⟩ (.slice ax T.length cxT)) ax T := ints_setA hXT.1 (fun g o e => by have := hXT.2 g o e; omega)
    have owne := own_setO ownE A (fun e => by simp [Value.ownBlock] at e; omega) (.slice ax T.length cxT)
    have Be : Below A w (u8.setCell ⟨A, 0, none⟩ (.slice ax T.length cxT)) := B.setCell (by simp) _
    go_wp2_with fail
    refine bodyPost_ret (by rw [results_cell_tmp15 rfl]; go_simp; try rfl) rfl ?_
    exact ⟨ax, T, cxT, g2, cF, E2, rfl, HIe, (fun g o e => by have := hXT.2 g o e; have := HA.out; omega), hT, owne, (by omega), by rw [← HA.out]; exact Be⟩
  · have e0 : (q == 0) = false := by simpa using hq0
    clear hq0
    clear xX
    have xX := cell_of1' RX
    have zlt := hs.lt
    have hc := bad_any b a n cap hn x S c hSp u4 hs hX
    go_wp2_with fail
    refine hc.mono ?_
    rintro e u5 ⟨ax, T, cxT, rfl, hXT, hT, hs', hg⟩
    replace RA : u5.heap[A]? = some (.cells #[.slice none 0 0] 26 (0, 0)) := row_g RA hg (by simp; omega)
    replace B : Below A w u5 := below_g B (by omega) hg (by omega)
    replace hX : IntsX b u5 x S := hX.grownR hg (by intro g o e; have := hX.2 g o e; simp; omega)
    replace RX : u5.heap[Xb]? = some (.cells #[.slice x S.length c] 26 (0, 0)) := row_g RX hg (by simp; omega)
    replace ownE : OwnInts u5 w.heap.size (.slice (some ⟨g, 0, none⟩) E.length cE) E := ownE.kept hg (.inr (by simp [Value.ownBlock]; omega))
    clear hc hg hs' zlt hs xX
    have xA := cell_of1' RA
    have fA := frozen_of_row u5 A 0 _ _ RA
    have zA := row_lt RA
    have HIe : Ints (u5.setCell ⟨A, 0, none⟩ (.slice ax T.length cxT)) ax T := ints_setA hXT.1 (fun g o e => by have := hXT.2 g o e; omega)
    have owne := own_setO ownE A (fun e => by simp [Value.ownBlock] at e; omega) (.slice ax T.length cxT)
    have Be : Below A w (u5.setCell ⟨A, 0, none⟩ (.slice ax T.length cxT)) := B.setCell (by simp) _
    go_wp2_with fail
    refine bodyPost_ret (by rw [results_cell_tmp15 rfl]; go_simp; try rfl) rfl ?_
    exact ⟨ax, T, cxT, g, cE, E, rfl, HIe, (fun g o e => by have := hXT.2 g o e; have := HA.out; omega), hT, owne, (by omega), by rw [← HA.out]; exact Be⟩

end Go.Proofs.YtcnnijeokefboaaGreatDoor
