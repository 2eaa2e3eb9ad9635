/-
  The space of two spaces, as the model makes it. By an AI agent.
-/
import Derived.Test.YtcbkmmadejbbpaaWpA
import Derived.Laws.ResultCell
namespace Go.Proofs.Ytcbkmmadejbbpaa
open Go.RowKit Cv
set_option linter.unusedVariables false
set_option linter.unusedSimpArgs false
set_option maxRecDepth 100000

theorem box3 (w : World) (a b c : Value) (t : TypeId) : ∃ W, W = ((w.alloc (.cells #[a] t)).alloc (.cells #[b] t)).alloc (.cells #[c] t) ∧ W.cell? ⟨w.heap.size, 0, none⟩ = some a ∧ W.cell? ⟨w.heap.size + 1, 0, none⟩ = some b ∧ W.heap[w.heap.size + 2]? = some (.cells #[c] t (0, 0)) ∧ W.heap.size = w.heap.size + 3 ∧ Below w.heap.size w W := by
  have s1 : (w.alloc (.cells #[a] t)).heap.size = w.heap.size + 1 := World.size_alloc _ _
  have s2 : ((w.alloc (.cells #[a] t)).alloc (.cells #[b] t)).heap.size = w.heap.size + 2 := by rw [World.size_alloc, s1]
  have s3 : (((w.alloc (.cells #[a] t)).alloc (.cells #[b] t)).alloc (.cells #[c] t)).heap.size = w.heap.size + 3 := by rw [World.size_alloc, s2]
  have b2 : Below ((w.alloc (.cells #[a] t)).alloc (.cells #[b] t)).heap.size ((w.alloc (.cells #[a] t)).alloc (.cells #[b] t)) (((w.alloc (.cells #[a] t)).alloc (.cells #[b] t)).alloc (.cells #[c] t)) := (Below.refl _ _).alloc (Nat.le_refl _) _
  have b1 : Below (w.alloc (.cells #[a] t)).heap.size (w.alloc (.cells #[a] t)) (((w.alloc (.cells #[a] t)).alloc (.cells #[b] t)).alloc (.cells #[c] t)) := ((Below.refl _ _).alloc (Nat.le_refl _) _).trans (b2.mono (by omega))
  have b0 : Below w.heap.size w (((w.alloc (.cells #[a] t)).alloc (.cells #[b] t)).alloc (.cells #[c] t)) := ((Below.refl _ _).alloc (Nat.le_refl _) _).trans (b1.mono (by omega))
  have x1 := kept_cell b1 (cell_new w a t) (lt_alloc _ _)
  have x2 := kept_cell b2 (cell_new (w.alloc (.cells #[a] t)) b t) (lt_alloc _ _)
  have x3 := heap_alloc_last ((w.alloc (.cells #[a] t)).alloc (.cells #[b] t)) (.cells #[c] t)
  rw [s1] at x2
  rw [s2] at x3
  exact ⟨_, rfl, x1, x2, x3, s3, b0⟩
theorem row_alloc {w : World} {b : Nat} {o : Obj} (h : w.heap[b]? = some o) (o2 : Obj) : (w.alloc o2).heap[b]? = some o := by
  have hlt := (Array.getElem?_eq_some_iff.1 h).1
  rw [((Below.refl w.heap.size w).alloc (Nat.le_refl _) o2).block b hlt]; exact h
theorem row_below {w w' : World} {b n : Nat} {o : Obj} (h : w.heap[b]? = some o) (hb : Below n w w') (hn : b < n) : w'.heap[b]? = some o := by rw [hb.block b hn]; exact h
theorem row_kept {w w' : World} {b : Nat} {r : Option Nat} {o : Obj} (h : w.heap[b]? = some o) (hg : w.grownBy w' r) (hn : some b ≠ r) : w'.heap[b]? = some o := by
  have hlt := (Array.getElem?_eq_some_iff.1 h).1
  obtain ⟨_, _, _, _, hblk⟩ := hg
  rw [hblk b hlt hn]; exact h

theorem own_ne_row {w : World} {base g n c p : Nat} {L : List Int} {cs : Array Value} {fz : Nat × Nat} (h : OwnInts w base (.slice (some ⟨g, 0, none⟩) n c) L) (hp : w.heap[p]? = some (.cells cs 26 fz)) : g ≠ p := by
  rcases h.2 with ⟨hv, _⟩ | ⟨g', c', cur, hv, hb, hh, _⟩
  · simp at hv
  · simp only [Value.slice.injEq, Option.some.injEq, Addr.mk.injEq, and_true, true_and] at hv
    obtain ⟨rfl, _, _⟩ := hv
    intro e
    subst e
    rw [hh] at hp
    simp at hp

set_option maxHeartbeats 4000000 in
theorem l03Plus_any (as0 ax : Addr) (S X : List Int) (cap capx : Nat) (hn : S.length ≤ 65536) (hnx : X.length ≤ 65536) (w : World) (hS : Ints w (some as0) S) (hX : Ints w (some ax) X) :
    Calls Try.prog 48 #[.agg #[.slice (some as0) S.length cap], .agg #[.slice (some ax) X.length capx]] w fun e w' => ∃ v, e = .returned (.tuple #[.agg #[v], .bool (isSp (S ++ X))]) ∧ OwnInts w' w.heap.size v (S ++ X) ∧ Below w.heap.size w w' := by
  obtain ⟨W0, hW0, cS, cX, rR, z0, B0⟩ := box3 w (.slice (some as0) S.length cap) (.slice (some ax) X.length capx) (.slice none 0 0) 26
  go_enter Try.func48, Try.ntmps48
  have HW0 := Lib.hid hW0
  have z0a : w.heap.size + 3 ≤ W0.heap.size := by omega
  have z0b : W0.heap.size ≤ w.heap.size + 3 := by omega
  clear hW0 z0
  go_wp2_with fail
  rw [← HW0.out]
  refine wp_region_held_drew (S := fun w' => w'.cell? ⟨w.heap.size, 0, none⟩ = some (.slice (some as0) S.length cap) ∧ w'.cell? ⟨w.heap.size + 1, 0, none⟩ = some (.slice (some ax) X.length capx) ∧ w'.heap[w.heap.size + 2]? = some (.cells #[.slice none 0 0] 26 (0, 0))) (by kernel_rfl) ⟨cS, cX, rR⟩ (fun hHeld => ?_)
  refine wpAnyH_take (i := 0) (v := ?_) rfl (by kernel_rfl) (by kernel_rfl) (by kernel_rfl) (fun _ _ _ h => h) (Or.inl ⟨by rfl, ?_⟩) (by assumption) ?_
  rotate_left
  · (intro w hSw; obtain ⟨hSa, hSb, hSc⟩ := hSw; (try dsimp only at hSa hSb hSc); go_simp; try (with_reducible rfl))
  (try simp only [Act.put, List.setIfInBounds_toArray, List.set_cons_zero, List.set_cons_succ])
  refine wpAnyH_take (i := 1) (v := ?_) rfl (by kernel_rfl) (by kernel_rfl) (by kernel_rfl) (fun _ _ _ h => h) (Or.inl ⟨by rfl, ?_⟩) (by assumption) ?_
  rotate_left
  · (intro w hSw; obtain ⟨hSa, hSb, hSc⟩ := hSw; (try dsimp only at hSa hSb hSc); go_simp; try (with_reducible rfl))
  (try simp only [Act.put, List.setIfInBounds_toArray, List.set_cons_zero, List.set_cons_succ])
  refine wpAnyH_take (i := 3) (v := ?_) rfl (by kernel_rfl) (by kernel_rfl) (by kernel_rfl) (fun _ _ _ h => h) (Or.inl ⟨by rfl, ?_⟩) (by assumption) ?_
  rotate_left
  · (intro w hSw; obtain ⟨hSa, hSb, hSc⟩ := hSw; (try dsimp only at hSa hSb hSc); go_simp; try (with_reducible rfl))
  (try simp only [Act.put, List.setIfInBounds_toArray, List.set_cons_zero, List.set_cons_succ])
  refine wpAnyH_take (i := 4) (v := ?_) rfl (by kernel_rfl) (by kernel_rfl) (by kernel_rfl) (fun _ _ _ h => h) (Or.inl ⟨by rfl, ?_⟩) (by assumption) ?_
  rotate_left
  · (intro w hSw; obtain ⟨hSa, hSb, hSc⟩ := hSw; (try dsimp only at hSa hSb hSc); go_simp; try (with_reducible rfl))
  (try simp only [Act.put, List.setIfInBounds_toArray, List.set_cons_zero, List.set_cons_succ])
  refine wpAnyH_ready (rs := [2, 7]) (by kernel_rfl) (by simp) ?_
  refine AllReadyH.cons rfl (fun K hK => ?_) ?_
  · go_simp
    (go_at_call 98; refine (l01Own_any as0 S S.length cap rfl (by omega) _ (hS.below B0.drew)).mono ?_)
    rintro e w1 ⟨g, c, rfl, own, hb1⟩
    replace hb1 : Below W0.heap.size W0 w1 := (Below.refl _ W0).drew.trans hb1
    replace own : OwnInts w1 W0.heap.size (.slice (some ⟨g, 0, none⟩) S.length c) S := own
    have cS1 := kept_cell hb1 cS (by omega)
    have cX1 := kept_cell hb1 cX (by omega)
    have rR1 := row_below rR hb1 (by omega)
    have B1 := B0.trans (hb1.mono (by omega))
    have hs1 := hb1.size
    have hg := own.base_le
    refine hK.out _ _ (⟨cS1, cX1, rR1⟩) (fun hHeld => ?_)
    clear hK K
    (try simp only [Act.put, List.setIfInBounds_toArray, List.set_cons_zero, List.set_cons_succ])
    refine wpAnyH_ready (rs := [5, 7]) (by kernel_rfl) (by simp) ?_
    refine AllReadyH.cons rfl (fun K hK => ?_) ?_
    · rw [if_pos (by kernel_rfl)]
      refine wp_append_ints (.tmp 9) (.tmp 11) (by kernel_rfl) W0.heap.size _ S (by rfl) own ax X X.length capx rfl (by rfl) (hX.below B1) (by omega) (by omega) ?_
      intro v' w2 hown' hgrow hnil
      obtain ⟨g2, c2, hv⟩ := own_stays hown' hnil (fun h => absurd (Value.slice.inj h).1 (by simp))
      obtain ⟨M, hM⟩ : ∃ M, M = (S ++ X).length := ⟨_, rfl⟩
      rw [← hM] at hv
      subst hv
      replace hM := Lib.hid hM
      have cS2 := hgrow.cell (a := ⟨w.heap.size, 0, none⟩) cS1 (fun e => by have e2 := Option.some.inj e; simp at e2; omega)
      have cX2 := hgrow.cell (a := ⟨w.heap.size + 1, 0, none⟩) cX1 (fun e => by have e2 := Option.some.inj e; simp at e2; omega)
      have rR2 := row_kept rR1 hgrow (fun e => by have e2 := Option.some.inj e; simp at e2; omega)
      have hs2 := hgrow.size
      have B2 := grown_below B1 (by omega) hgrow own (by omega)
      refine hK.out _ _ (⟨cS2, cX2, rR2⟩) (fun hHeld => ?_)
      clear hK K
      (try simp only [Act.put, List.setIfInBounds_toArray, List.set_cons_zero, List.set_cons_succ])
      refine wpAnyH_take (i := 6) (v := ?_) rfl (by kernel_rfl) (by kernel_rfl) (by kernel_rfl) (fun _ _ _ h => h) (Or.inl ⟨by rfl, ?_⟩) (by assumption) ?_
      rotate_left
      · (intro w hSw; obtain ⟨hSa, hSb, hSc⟩ := hSw; (try dsimp only at hSa hSb hSc); go_simp; try (with_reducible rfl))
      (try simp only [Act.put, List.setIfInBounds_toArray, List.set_cons_zero, List.set_cons_succ])
      refine wpAnyH_ready (rs := [7]) (by kernel_rfl) (by simp) ?_
      refine AllReadyH.cons rfl (fun K hK => ?_) AllReadyH.nil
      go_simp
      have cS3 := kept_cell ((Below.refl w2.heap.size w2).alloc (Nat.le_refl _) (.cells #[.slice none 0 0] 26)) cS2 (by omega)
      have cX3 := kept_cell ((Below.refl w2.heap.size w2).alloc (Nat.le_refl _) (.cells #[.slice none 0 0] 26)) cX2 (by omega)
      have rR3 := row_alloc rR2 (.cells #[.slice none 0 0] 26)
      have rO3 := heap_alloc_last w2 (.cells #[.slice none 0 0] 26)
      refine hK.out _ _ (⟨cS3, cX3, rR3⟩) (fun hHeld => ?_)
      clear hK K
      (try simp only [Act.put, List.setIfInBounds_toArray, List.set_cons_zero, List.set_cons_succ])
      have B3 := B2.alloc (by omega) (.cells #[.slice none 0 0] 26)
      have own3 := hown'.alloc (.cells #[.slice none 0 0] 26)
      refine wpAnyH_ready (rs := [8]) (by kernel_rfl) (by simp) ?_
      refine AllReadyH.cons rfl (fun K hK => ?_) AllReadyH.nil
      go_simp
      obtain ⟨W4, hW4⟩ : ∃ W4, W4 = w2.alloc (.cells #[.slice (some ⟨g2, 0, none⟩) M c2] 26) := ⟨_, rfl⟩
      have s4 : W4.heap.size = w2.heap.size + 1 := by rw [hW4, World.size_alloc]
      have h24 : Below w2.heap.size w2 W4 := by rw [hW4]; exact (Below.refl _ _).alloc (Nat.le_refl _) _
      have cO4 : W4.cell? ⟨w2.heap.size, 0, none⟩ = some (.slice (some ⟨g2, 0, none⟩) M c2) := by rw [hW4]; exact cell_new _ _ _
      have cS4 := kept_cell h24 cS2 (by omega)
      have cX4 := kept_cell h24 cX2 (by omega)
      have rR4 := row_below rR2 h24 (by omega)
      have own4 : OwnInts W4 W0.heap.size (.slice (some ⟨g2, 0, none⟩) M c2) (S ++ X) := hown'.below h24
      have B4 := B2.trans (h24.mono (by omega))
      obtain ⟨q, hq⟩ : ∃ q, q = w2.heap.size := ⟨_, rfl⟩
      have hqlt : q < W4.heap.size := by omega
      have hq3 : w.heap.size + 3 ≤ q := by omega
      rw [← hq] at cO4 ⊢
      clear hq
      rw [← hW4]
      have HW4 := Lib.hid hW4
      clear hW4
      refine hK.out _ _ (⟨cS4, cX4, rR4⟩) (fun hHeld => ?_)
      clear hK K
      (try simp only [Act.put, List.setIfInBounds_toArray, List.set_cons_zero, List.set_cons_succ])
      refine wpAnyH_done (by kernel_rfl) ?_ _
      clear hgrow hnil hb1 own cS cX rR
      go_wp2_with fail
      have rc4 : W4.cell? ⟨w.heap.size + 1 + 1, 0, none⟩ = some (.slice none 0 0) := by rw [cell_of_row W4 (w.heap.size + 2) 0 _ _ _ rR4]; rfl
      have rf4 : W4.frozen? ⟨w.heap.size + 1 + 1, 0, none⟩ = false := by have h' := rR4; simp [World.frozen?, h']
      have hIs := l01Is_any (some ⟨g2, 0, none⟩) (S ++ X) c2 W4.drew (by rw [List.length_append]; omega) (own_ints (show OwnInts W4.drew W0.heap.size (.slice (some ⟨g2, 0, none⟩) (S ++ X).length c2) (S ++ X) from by rw [← hM.out]; exact own4))
      rw [← hM.out] at hIs
      refine wp_region_held_drew (S := fun w' => w'.cell? ⟨q, 0, none⟩ = some (.slice (some ⟨g2, 0, none⟩) M c2)) (by kernel_rfl) cO4 (fun hHeld => ?_)
      refine wpAnyH_take (i := 0) (v := ?_) rfl (by kernel_rfl) (by kernel_rfl) (by kernel_rfl) (fun _ _ _ h => h) (Or.inl ⟨by rfl, ?_⟩) (by assumption) ?_
      rotate_left
      · (intro w hSw; (try dsimp only at hSw); go_simp; try (with_reducible rfl))
      (try simp only [Act.put, List.setIfInBounds_toArray, List.set_cons_zero, List.set_cons_succ])
      refine wpAnyH_take (i := 1) (v := ?_) rfl (by kernel_rfl) (by kernel_rfl) (by kernel_rfl) (fun _ _ _ h => h) (Or.inl ⟨by rfl, ?_⟩) (by assumption) ?_
      rotate_left
      · (intro w hSw; (try dsimp only at hSw); go_simp; try (with_reducible rfl))
      (try simp only [Act.put, List.setIfInBounds_toArray, List.set_cons_zero, List.set_cons_succ])
      refine wpAnyH_ready (rs := [2]) (by kernel_rfl) (by simp) ?_
      refine AllReadyH.cons rfl (fun K hK => ?_) AllReadyH.nil
      go_simp
      (go_at_call 46; refine hIs.mono ?_)
      rintro e w5 ⟨rfl, hb5'⟩
      have hb5 : Below W4.heap.size W4 w5 := (Below.refl _ W4).drew.trans hb5'
      have cO5 := kept_cell hb5 cO4 hqlt
      have rc5 := kept_cell hb5 rc4 (by omega)
      have rf5 : w5.frozen? ⟨w.heap.size + 1 + 1, 0, none⟩ = false := (hb5.frozen (p := ⟨w.heap.size + 1 + 1, 0, none⟩) (by show w.heap.size + 1 + 1 < W4.heap.size; omega)).trans rf4
      have own5 := own4.below hb5
      have B5 := B4.trans (hb5.mono (by omega))
      refine hK.out _ _ (cO5) (fun hHeld => ?_)
      clear hK K
      (try simp only [Act.put, List.setIfInBounds_toArray, List.set_cons_zero, List.set_cons_succ])
      refine wpAnyH_ready (rs := [3]) (by kernel_rfl) (by simp) ?_
      refine AllReadyH.cons rfl (fun K hK => ?_) AllReadyH.nil
      go_simp
      refine hK.out _ _ (cell_set_other cO5 (show q ≠ w.heap.size + 1 + 1 by omega)) (fun hHeld => ?_)
      clear hK K
      (try simp only [Act.put, List.setIfInBounds_toArray, List.set_cons_zero, List.set_cons_succ])
      refine wpAnyH_take (i := 4) (v := ?_) rfl (by kernel_rfl) (by kernel_rfl) (by kernel_rfl) (fun _ _ _ h => h) (Or.inl ⟨by rfl, ?_⟩) (by assumption) ?_
      rotate_left
      · (intro w hSw; (try dsimp only at hSw); go_simp; try (with_reducible rfl))
      refine wpAnyH_done (by kernel_rfl) ?_ _
      have rs5 : (w5.setCell ⟨w.heap.size + 1 + 1, 0, none⟩ (.slice (some ⟨g2, 0, none⟩) M c2)).cell? ⟨w.heap.size + 1 + 1, 0, none⟩ = some (.slice (some ⟨g2, 0, none⟩) M c2) := World.cell?_setCell_same' _ _ _ (by rw [rc5]; rfl)
      go_wp2_with fail
      refine bodyPost_ret (by rw [results_cell_tmp rfl]; go_simp; try rfl) rfl ?_
      exact ⟨_, rfl, (own5.setBelow (show w.heap.size + 1 + 1 < W0.heap.size by omega) _).rebase (by omega), B5.setCell (by show w.heap.size ≤ w.heap.size + 1 + 1; omega) _⟩
    refine AllReadyH.cons rfl (fun K hK => ?_) AllReadyH.nil
    go_simp
    have cS3 := kept_cell ((Below.refl w1.heap.size w1).alloc (Nat.le_refl _) (.cells #[.slice none 0 0] 26)) cS1 (by omega)
    have cX3 := kept_cell ((Below.refl w1.heap.size w1).alloc (Nat.le_refl _) (.cells #[.slice none 0 0] 26)) cX1 (by omega)
    have rR3 := row_alloc rR1 (.cells #[.slice none 0 0] 26)
    have rO3 := heap_alloc_last w1 (.cells #[.slice none 0 0] 26)
    refine hK.out _ _ (⟨cS3, cX3, rR3⟩) (fun hHeld => ?_)
    clear hK K
    (try simp only [Act.put, List.setIfInBounds_toArray, List.set_cons_zero, List.set_cons_succ])
    have z1 : (w1.alloc (.cells #[.slice none 0 0] 26)).heap.size = w1.heap.size + 1 := World.size_alloc _ _
    have B1a := B1.alloc (by omega) (.cells #[.slice none 0 0] 26)
    have own1 := own.alloc (.cells #[.slice none 0 0] 26)
    refine wpAnyH_ready (rs := [5]) (by kernel_rfl) (by simp) ?_
    refine AllReadyH.cons rfl (fun K hK => ?_) AllReadyH.nil
    rw [if_pos (by kernel_rfl)]
    refine wp_append_ints (.tmp 9) (.tmp 11) (by kernel_rfl) W0.heap.size _ S (by rfl) own1 ax X X.length capx rfl (by rfl) (hX.below B1a) (by omega) (by omega) ?_
    intro v' w2 hown' hgrow hnil
    obtain ⟨g2, c2, hv⟩ := own_stays hown' hnil (fun h => absurd (Value.slice.inj h).1 (by simp))
    obtain ⟨M, hM⟩ : ∃ M, M = (S ++ X).length := ⟨_, rfl⟩
    rw [← hM] at hv
    subst hv
    replace hM := Lib.hid hM
    have cS2 := hgrow.cell (a := ⟨w.heap.size, 0, none⟩) cS3 (fun e => by have e2 := Option.some.inj e; simp at e2; omega)
    have cX2 := hgrow.cell (a := ⟨w.heap.size + 1, 0, none⟩) cX3 (fun e => by have e2 := Option.some.inj e; simp at e2; omega)
    have rR2 := row_kept rR3 hgrow (fun e => by have e2 := Option.some.inj e; simp at e2; omega)
    have hs2 := hgrow.size
    have rO2 := row_kept rO3 hgrow (fun e => by have e2 := Option.some.inj e; simp at e2; omega)
    have B2 := grown_below B1a (by omega) hgrow own1 (by omega)
    have rcO : w2.cell? ⟨w1.heap.size, 0, none⟩ = some (.slice none 0 0) := by rw [cell_of_row w2 (w1.heap.size) 0 _ _ _ rO2]; rfl
    have rfO : w2.frozen? ⟨w1.heap.size, 0, none⟩ = false := by have h' := rO2; simp [World.frozen?, h']
    have hplt := (Array.getElem?_eq_some_iff.1 rO2).1
    refine hK.out _ _ (⟨cS2, cX2, rR2⟩) (fun hHeld => ?_)
    clear hK K
    (try simp only [Act.put, List.setIfInBounds_toArray, List.set_cons_zero, List.set_cons_succ])
    refine wpAnyH_take (i := 6) (v := ?_) rfl (by kernel_rfl) (by kernel_rfl) (by kernel_rfl) (fun _ _ _ h => h) (Or.inl ⟨by rfl, ?_⟩) (by assumption) ?_
    rotate_left
    · (intro w hSw; obtain ⟨hSa, hSb, hSc⟩ := hSw; (try dsimp only at hSa hSb hSc); go_simp; try (with_reducible rfl))
    (try simp only [Act.put, List.setIfInBounds_toArray, List.set_cons_zero, List.set_cons_succ])
    refine wpAnyH_ready (rs := [8]) (by kernel_rfl) (by simp) ?_
    refine AllReadyH.cons rfl (fun K hK => ?_) AllReadyH.nil
    go_simp
    obtain ⟨W4, hW4⟩ : ∃ W4, W4 = w2.setCell ⟨w1.heap.size, 0, none⟩ (.slice (some ⟨g2, 0, none⟩) M c2) := ⟨_, rfl⟩
    have hset : w2.grownBy W4 (some (w1.heap.size)) := by rw [hW4]; exact grown_setCell ⟨rfl, rfl, rfl, Nat.le_refl _, fun _ _ _ => rfl⟩ _ _
    have s4 := hset.size
    have cO4 : W4.cell? ⟨w1.heap.size, 0, none⟩ = some (.slice (some ⟨g2, 0, none⟩) M c2) := by rw [hW4]; exact World.cell?_setCell_same' _ _ _ (by rw [rcO]; rfl)
    have cS4 := hset.cell (a := ⟨w.heap.size, 0, none⟩) cS2 (fun e => by have e2 := Option.some.inj e; simp at e2; omega)
    have cX4 := hset.cell (a := ⟨w.heap.size + 1, 0, none⟩) cX2 (fun e => by have e2 := Option.some.inj e; simp at e2; omega)
    have rR4 := row_kept rR2 hset (fun e => by have e2 := Option.some.inj e; omega)
    have hne := own_ne_row hown' rO2
    have own4 : OwnInts W4 W0.heap.size (.slice (some ⟨g2, 0, none⟩) M c2) (S ++ X) := hown'.kept hset (.inr (show some g2 ≠ some (w1.heap.size) from fun e => hne (Option.some.inj e)))
    have B4 := B2.grown hset (by omega) fun j hj => by cases hj; omega
    obtain ⟨q, hq⟩ : ∃ q, q = w1.heap.size := ⟨_, rfl⟩
    have hqlt : q < W4.heap.size := by omega
    have hq3 : w.heap.size + 3 ≤ q := by omega
    rw [← hq] at cO4 hW4 ⊢
    clear hq hset rcO rfO rO2
    rw [← hW4]
    have HW4 := Lib.hid hW4
    clear hW4
    refine hK.out _ _ (⟨cS4, cX4, rR4⟩) (fun hHeld => ?_)
    clear hK K
    (try simp only [Act.put, List.setIfInBounds_toArray, List.set_cons_zero, List.set_cons_succ])
    refine wpAnyH_done (by kernel_rfl) ?_ _
    clear hgrow hnil hb1 own cS cX rR
    go_wp2_with fail
    have rc4 : W4.cell? ⟨w.heap.size + 1 + 1, 0, none⟩ = some (.slice none 0 0) := by rw [cell_of_row W4 (w.heap.size + 2) 0 _ _ _ rR4]; rfl
    have rf4 : W4.frozen? ⟨w.heap.size + 1 + 1, 0, none⟩ = false := by have h' := rR4; simp [World.frozen?, h']
    have hIs := l01Is_any (some ⟨g2, 0, none⟩) (S ++ X) c2 W4.drew (by rw [List.length_append]; omega) (own_ints (show OwnInts W4.drew W0.heap.size (.slice (some ⟨g2, 0, none⟩) (S ++ X).length c2) (S ++ X) from by rw [← hM.out]; exact own4))
    rw [← hM.out] at hIs
    refine wp_region_held_drew (S := fun w' => w'.cell? ⟨q, 0, none⟩ = some (.slice (some ⟨g2, 0, none⟩) M c2)) (by kernel_rfl) cO4 (fun hHeld => ?_)
    refine wpAnyH_take (i := 0) (v := ?_) rfl (by kernel_rfl) (by kernel_rfl) (by kernel_rfl) (fun _ _ _ h => h) (Or.inl ⟨by rfl, ?_⟩) (by assumption) ?_
    rotate_left
    · (intro w hSw; (try dsimp only at hSw); go_simp; try (with_reducible rfl))
    (try simp only [Act.put, List.setIfInBounds_toArray, List.set_cons_zero, List.set_cons_succ])
    refine wpAnyH_take (i := 1) (v := ?_) rfl (by kernel_rfl) (by kernel_rfl) (by kernel_rfl) (fun _ _ _ h => h) (Or.inl ⟨by rfl, ?_⟩) (by assumption) ?_
    rotate_left
    · (intro w hSw; (try dsimp only at hSw); go_simp; try (with_reducible rfl))
    (try simp only [Act.put, List.setIfInBounds_toArray, List.set_cons_zero, List.set_cons_succ])
    refine wpAnyH_ready (rs := [2]) (by kernel_rfl) (by simp) ?_
    refine AllReadyH.cons rfl (fun K hK => ?_) AllReadyH.nil
    go_simp
    (go_at_call 46; refine hIs.mono ?_)
    rintro e w5 ⟨rfl, hb5'⟩
    have hb5 : Below W4.heap.size W4 w5 := (Below.refl _ W4).drew.trans hb5'
    have cO5 := kept_cell hb5 cO4 hqlt
    have rc5 := kept_cell hb5 rc4 (by omega)
    have rf5 : w5.frozen? ⟨w.heap.size + 1 + 1, 0, none⟩ = false := (hb5.frozen (p := ⟨w.heap.size + 1 + 1, 0, none⟩) (by show w.heap.size + 1 + 1 < W4.heap.size; omega)).trans rf4
    have own5 := own4.below hb5
    have B5 := B4.trans (hb5.mono (by omega))
    refine hK.out _ _ (cO5) (fun hHeld => ?_)
    clear hK K
    (try simp only [Act.put, List.setIfInBounds_toArray, List.set_cons_zero, List.set_cons_succ])
    refine wpAnyH_ready (rs := [3]) (by kernel_rfl) (by simp) ?_
    refine AllReadyH.cons rfl (fun K hK => ?_) AllReadyH.nil
    go_simp
    refine hK.out _ _ (cell_set_other cO5 (show q ≠ w.heap.size + 1 + 1 by omega)) (fun hHeld => ?_)
    clear hK K
    (try simp only [Act.put, List.setIfInBounds_toArray, List.set_cons_zero, List.set_cons_succ])
    refine wpAnyH_take (i := 4) (v := ?_) rfl (by kernel_rfl) (by kernel_rfl) (by kernel_rfl) (fun _ _ _ h => h) (Or.inl ⟨by rfl, ?_⟩) (by assumption) ?_
    rotate_left
    · (intro w hSw; (try dsimp only at hSw); go_simp; try (with_reducible rfl))
    refine wpAnyH_done (by kernel_rfl) ?_ _
    have rs5 : (w5.setCell ⟨w.heap.size + 1 + 1, 0, none⟩ (.slice (some ⟨g2, 0, none⟩) M c2)).cell? ⟨w.heap.size + 1 + 1, 0, none⟩ = some (.slice (some ⟨g2, 0, none⟩) M c2) := World.cell?_setCell_same' _ _ _ (by rw [rc5]; rfl)
    go_wp2_with fail
    refine bodyPost_ret (by rw [results_cell_tmp rfl]; go_simp; try rfl) rfl ?_
    exact ⟨_, rfl, (own5.setBelow (show w.heap.size + 1 + 1 < W0.heap.size by omega) _).rebase (by omega), B5.setCell (by show w.heap.size ≤ w.heap.size + 1 + 1; omega) _⟩
  refine AllReadyH.cons rfl (fun K hK => ?_) AllReadyH.nil
  go_simp
  have cS3 := kept_cell ((Below.refl W0.heap.size W0).alloc (Nat.le_refl _) (.cells #[.slice none 0 0] 26)) cS (by omega)
  have cX3 := kept_cell ((Below.refl W0.heap.size W0).alloc (Nat.le_refl _) (.cells #[.slice none 0 0] 26)) cX (by omega)
  have rR3 := row_alloc rR (.cells #[.slice none 0 0] 26)
  have rO3 := heap_alloc_last W0 (.cells #[.slice none 0 0] 26)
  refine hK.out _ _ (⟨cS3, cX3, rR3⟩) (fun hHeld => ?_)
  clear hK K
  (try simp only [Act.put, List.setIfInBounds_toArray, List.set_cons_zero, List.set_cons_succ])
  have z1 : (W0.alloc (.cells #[.slice none 0 0] 26)).heap.size = W0.heap.size + 1 := World.size_alloc _ _
  refine wpAnyH_ready (rs := [2]) (by kernel_rfl) (by simp) ?_
  refine AllReadyH.cons rfl (fun K hK => ?_) AllReadyH.nil
  go_simp
  (go_at_call 98; refine (l01Own_any as0 S S.length cap rfl (by omega) _ (hS.below (B0.alloc (by omega) (.cells #[.slice none 0 0] 26)).drew)).mono ?_)
  rintro e w1 ⟨g, c, rfl, own, hb1⟩
  replace hb1 : Below (W0.alloc (.cells #[.slice none 0 0] 26)).heap.size (W0.alloc (.cells #[.slice none 0 0] 26)) w1 := (Below.refl _ (W0.alloc (.cells #[.slice none 0 0] 26))).drew.trans hb1
  have hg : W0.heap.size + 1 ≤ g ∧ g < w1.heap.size := by have := own.base_le; rw [← z1]; exact this
  replace own : OwnInts w1 W0.heap.size (.slice (some ⟨g, 0, none⟩) S.length c) S := own.rebase (by show W0.heap.size ≤ (W0.alloc (.cells #[.slice none 0 0] 26)).heap.size; omega)
  have cS1 := kept_cell hb1 cS3 (by omega)
  have cX1 := kept_cell hb1 cX3 (by omega)
  have rR1 := row_below rR3 hb1 (by omega)
  have rO1 := row_below rO3 hb1 (by omega)
  have B1 := (B0.alloc (by omega) (.cells #[.slice none 0 0] 26)).trans (hb1.mono (by omega))
  have hs1 : W0.heap.size ≤ w1.heap.size := by have := hb1.size; omega
  refine hK.out _ _ (⟨cS1, cX1, rR1⟩) (fun hHeld => ?_)
  clear hK K
  (try simp only [Act.put, List.setIfInBounds_toArray, List.set_cons_zero, List.set_cons_succ])
  refine wpAnyH_ready (rs := [5]) (by kernel_rfl) (by simp) ?_
  refine AllReadyH.cons rfl (fun K hK => ?_) AllReadyH.nil
  rw [if_pos (by kernel_rfl)]
  refine wp_append_ints (.tmp 9) (.tmp 11) (by kernel_rfl) W0.heap.size _ S (by rfl) own ax X X.length capx rfl (by rfl) (hX.below B1) (by omega) (by omega) ?_
  intro v' w2 hown' hgrow hnil
  obtain ⟨g2, c2, hv⟩ := own_stays hown' hnil (fun h => absurd (Value.slice.inj h).1 (by simp))
  obtain ⟨M, hM⟩ : ∃ M, M = (S ++ X).length := ⟨_, rfl⟩
  rw [← hM] at hv
  subst hv
  replace hM := Lib.hid hM
  have cS2 := hgrow.cell (a := ⟨w.heap.size, 0, none⟩) cS1 (fun e => by have e2 := Option.some.inj e; simp at e2; omega)
  have cX2 := hgrow.cell (a := ⟨w.heap.size + 1, 0, none⟩) cX1 (fun e => by have e2 := Option.some.inj e; simp at e2; omega)
  have rR2 := row_kept rR1 hgrow (fun e => by have e2 := Option.some.inj e; simp at e2; omega)
  have hs2 := hgrow.size
  have rO2 := row_kept rO1 hgrow (fun e => by have e2 := Option.some.inj e; simp at e2; omega)
  have B2 := grown_below B1 (by omega) hgrow own (by omega)
  have rcO : w2.cell? ⟨W0.heap.size, 0, none⟩ = some (.slice none 0 0) := by rw [cell_of_row w2 (W0.heap.size) 0 _ _ _ rO2]; rfl
  have rfO : w2.frozen? ⟨W0.heap.size, 0, none⟩ = false := by have h' := rO2; simp [World.frozen?, h']
  have hplt := (Array.getElem?_eq_some_iff.1 rO2).1
  refine hK.out _ _ (⟨cS2, cX2, rR2⟩) (fun hHeld => ?_)
  clear hK K
  (try simp only [Act.put, List.setIfInBounds_toArray, List.set_cons_zero, List.set_cons_succ])
  refine wpAnyH_take (i := 6) (v := ?_) rfl (by kernel_rfl) (by kernel_rfl) (by kernel_rfl) (fun _ _ _ h => h) (Or.inl ⟨by rfl, ?_⟩) (by assumption) ?_
  rotate_left
  · (intro w hSw; obtain ⟨hSa, hSb, hSc⟩ := hSw; (try dsimp only at hSa hSb hSc); go_simp; try (with_reducible rfl))
  (try simp only [Act.put, List.setIfInBounds_toArray, List.set_cons_zero, List.set_cons_succ])
  refine wpAnyH_ready (rs := [8]) (by kernel_rfl) (by simp) ?_
  refine AllReadyH.cons rfl (fun K hK => ?_) AllReadyH.nil
  go_simp
  obtain ⟨W4, hW4⟩ : ∃ W4, W4 = w2.setCell ⟨W0.heap.size, 0, none⟩ (.slice (some ⟨g2, 0, none⟩) M c2) := ⟨_, rfl⟩
  have hset : w2.grownBy W4 (some (W0.heap.size)) := by rw [hW4]; exact grown_setCell ⟨rfl, rfl, rfl, Nat.le_refl _, fun _ _ _ => rfl⟩ _ _
  have s4 := hset.size
  have cO4 : W4.cell? ⟨W0.heap.size, 0, none⟩ = some (.slice (some ⟨g2, 0, none⟩) M c2) := by rw [hW4]; exact World.cell?_setCell_same' _ _ _ (by rw [rcO]; rfl)
  have cS4 := hset.cell (a := ⟨w.heap.size, 0, none⟩) cS2 (fun e => by have e2 := Option.some.inj e; simp at e2; omega)
  have cX4 := hset.cell (a := ⟨w.heap.size + 1, 0, none⟩) cX2 (fun e => by have e2 := Option.some.inj e; simp at e2; omega)
  have rR4 := row_kept rR2 hset (fun e => by have e2 := Option.some.inj e; omega)
  have hne := own_ne_row hown' rO2
  have own4 : OwnInts W4 W0.heap.size (.slice (some ⟨g2, 0, none⟩) M c2) (S ++ X) := hown'.kept hset (.inr (show some g2 ≠ some (W0.heap.size) from fun e => hne (Option.some.inj e)))
  have B4 := B2.grown hset (by omega) fun j hj => by cases hj; omega
  obtain ⟨q, hq⟩ : ∃ q, q = W0.heap.size := ⟨_, rfl⟩
  have hqlt : q < W4.heap.size := by omega
  have hq3 : w.heap.size + 3 ≤ q := by omega
  rw [← hq] at cO4 hW4 ⊢
  clear hq hset rcO rfO rO2
  rw [← hW4]
  have HW4 := Lib.hid hW4
  clear hW4
  refine hK.out _ _ (⟨cS4, cX4, rR4⟩) (fun hHeld => ?_)
  clear hK K
  (try simp only [Act.put, List.setIfInBounds_toArray, List.set_cons_zero, List.set_cons_succ])
  refine wpAnyH_done (by kernel_rfl) ?_ _
  clear hgrow hnil hb1 own cS cX rR
  go_wp2_with fail
  have rc4 : W4.cell? ⟨w.heap.size + 1 + 1, 0, none⟩ = some (.slice none 0 0) := by rw [cell_of_row W4 (w.heap.size + 2) 0 _ _ _ rR4]; rfl
  have rf4 : W4.frozen? ⟨w.heap.size + 1 + 1, 0, none⟩ = false := by have h' := rR4; simp [World.frozen?, h']
  have hIs := l01Is_any (some ⟨g2, 0, none⟩) (S ++ X) c2 W4.drew (by rw [List.length_append]; omega) (own_ints (show OwnInts W4.drew W0.heap.size (.slice (some ⟨g2, 0, none⟩) (S ++ X).length c2) (S ++ X) from by rw [← hM.out]; exact own4))
  rw [← hM.out] at hIs
  refine wp_region_held_drew (S := fun w' => w'.cell? ⟨q, 0, none⟩ = some (.slice (some ⟨g2, 0, none⟩) M c2)) (by kernel_rfl) cO4 (fun hHeld => ?_)
  refine wpAnyH_take (i := 0) (v := ?_) rfl (by kernel_rfl) (by kernel_rfl) (by kernel_rfl) (fun _ _ _ h => h) (Or.inl ⟨by rfl, ?_⟩) (by assumption) ?_
  rotate_left
  · (intro w hSw; (try dsimp only at hSw); go_simp; try (with_reducible rfl))
  (try simp only [Act.put, List.setIfInBounds_toArray, List.set_cons_zero, List.set_cons_succ])
  refine wpAnyH_take (i := 1) (v := ?_) rfl (by kernel_rfl) (by kernel_rfl) (by kernel_rfl) (fun _ _ _ h => h) (Or.inl ⟨by rfl, ?_⟩) (by assumption) ?_
  rotate_left
  · (intro w hSw; (try dsimp only at hSw); go_simp; try (with_reducible rfl))
  (try simp only [Act.put, List.setIfInBounds_toArray, List.set_cons_zero, List.set_cons_succ])
  refine wpAnyH_ready (rs := [2]) (by kernel_rfl) (by simp) ?_
  refine AllReadyH.cons rfl (fun K hK => ?_) AllReadyH.nil
  go_simp
  (go_at_call 46; refine hIs.mono ?_)
  rintro e w5 ⟨rfl, hb5'⟩
  have hb5 : Below W4.heap.size W4 w5 := (Below.refl _ W4).drew.trans hb5'
  have cO5 := kept_cell hb5 cO4 hqlt
  have rc5 := kept_cell hb5 rc4 (by omega)
  have rf5 : w5.frozen? ⟨w.heap.size + 1 + 1, 0, none⟩ = false := (hb5.frozen (p := ⟨w.heap.size + 1 + 1, 0, none⟩) (by show w.heap.size + 1 + 1 < W4.heap.size; omega)).trans rf4
  have own5 := own4.below hb5
  have B5 := B4.trans (hb5.mono (by omega))
  refine hK.out _ _ (cO5) (fun hHeld => ?_)
  clear hK K
  (try simp only [Act.put, List.setIfInBounds_toArray, List.set_cons_zero, List.set_cons_succ])
  refine wpAnyH_ready (rs := [3]) (by kernel_rfl) (by simp) ?_
  refine AllReadyH.cons rfl (fun K hK => ?_) AllReadyH.nil
  go_simp
  refine hK.out _ _ (cell_set_other cO5 (show q ≠ w.heap.size + 1 + 1 by omega)) (fun hHeld => ?_)
  clear hK K
  (try simp only [Act.put, List.setIfInBounds_toArray, List.set_cons_zero, List.set_cons_succ])
  refine wpAnyH_take (i := 4) (v := ?_) rfl (by kernel_rfl) (by kernel_rfl) (by kernel_rfl) (fun _ _ _ h => h) (Or.inl ⟨by rfl, ?_⟩) (by assumption) ?_
  rotate_left
  · (intro w hSw; (try dsimp only at hSw); go_simp; try (with_reducible rfl))
  refine wpAnyH_done (by kernel_rfl) ?_ _
  have rs5 : (w5.setCell ⟨w.heap.size + 1 + 1, 0, none⟩ (.slice (some ⟨g2, 0, none⟩) M c2)).cell? ⟨w.heap.size + 1 + 1, 0, none⟩ = some (.slice (some ⟨g2, 0, none⟩) M c2) := World.cell?_setCell_same' _ _ _ (by rw [rc5]; rfl)
  go_wp2_with fail
  refine bodyPost_ret (by rw [results_cell_tmp rfl]; go_simp; try rfl) rfl ?_
  exact ⟨_, rfl, (own5.setBelow (show w.heap.size + 1 + 1 < W0.heap.size by omega) _).rebase (by omega), B5.setCell (by show w.heap.size ≤ w.heap.size + 1 + 1; omega) _⟩

end Go.Proofs.Ytcbkmmadejbbpaa
