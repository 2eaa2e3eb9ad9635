/-
  More draws of chapter 10: a space, a word and a choice; a space and a number of places. By an AI agent.
-/
import Derived.Test.YtpmfedllbiblbaaGreatPk33
import Derived.Test.YtpmfedllbiblbaaGreatPkMisA
import Derived.Test.YtpmfedllbiblbaaGreatPkRow10
import Derived.Test.YtpmfedllbiblbaaGreatPk43
namespace Go.Proofs.YtpmfedllbiblbaaGreat
open Go.RowKit Cv
set_option linter.unusedVariables false
set_option linter.unusedSimpArgs false
set_option maxRecDepth 100000

theorem rowkeptC {w w' : World} {lo n : Nat} {e : TypeId} {v : Value} {xs : List Value} {b : Nat} (h : w.ownsRow lo e 1 v n xs) (hg : w.grownBy w' (some b)) (hb : b < lo) : w'.ownsRow lo e 1 v n xs :=
  World.ownsRow.kept h hg (by
    cases hv : v.ownBlock with
    | none => exact .inl rfl
    | some k => exact .inr (fun e => by have := (World.ownsRow.lt h k hv).1; injection e with e; omega))
theorem own_blkC {w : World} {base g n c : Nat} {T : List Int} (h : OwnInts w base (.slice (some ⟨g, 0, none⟩) n c) T) : base ≤ g ∧ g < w.heap.size := h.base_le
theorem own_frozC {w : World} {base g n c : Nat} {T : List Int} (h : OwnInts w base (.slice (some ⟨g, 0, none⟩) n c) T) (k : Nat) : w.frozen? ⟨g, k, none⟩ = false := h.free k
theorem own_atC {w : World} {base g n c : Nat} {T : List Int} (h : OwnInts w base (.slice (some ⟨g, 0, none⟩) n c) T) {k : Nat} (hk : k < T.length) : w.cell? ⟨g, k, none⟩ = some (.int .i64 (gi T k)) := by
  have := ints_at (own_ints h) rfl hk
  simpa using this

theorem row_setC {w : World} {O g : Nat} {o : Obj} (h : w.heap[O]? = some o) (hne : O ≠ g) (k : Nat) (u : Value) : (w.setCell ⟨g, k, none⟩ u).heap[O]? = some o := (Below.heap_setCell _ _ _ _ hne).trans h
theorem IntsX.setC {b g : Nat} {w : World} {ao : Option Addr} {S : List Int} (h : IntsX b w ao S) (hp : ∀ g' o, ao = some ⟨g', o, none⟩ → S ≠ [] → g' ≠ g) (k : Nat) (u : Value) : IntsX b (w.setCell ⟨g, k, none⟩ u) ao S := by
  obtain ⟨h1, h2⟩ := h
  refine ⟨?_, h2⟩
  rcases h1 with h | ⟨g', o, rfl, hlt, hc⟩
  · exact .inl h
  · by_cases e : S = []
    · exact .inl (by rw [e]; rfl)
    · exact .inr ⟨g', o, rfl, by simpa using hlt, fun i hi => cell_set_other (hc i hi) (hp g' o rfl e)⟩
theorem gi_setC (S : List Int) (k : Nat) (x : Int) (j : Nat) (h : j ≠ k) : gi (S.set k x) j = gi S j := by
  simp only [gi, List.getD_eq_getElem?_getD, List.getElem?_set]
  rw [if_neg (fun e => h e.symm)]
theorem inB_iffC {n low high : Int} (h : inB n low high = true) : low ≤ n ∧ n ≤ high := by simpa [inB] using h

set_option maxHeartbeats 8000000 in
theorem drawHc_any (a : Option Addr) (n cap : Nat) (hn : n ≤ 4096) (w : World) (hY : Byts w w.heap.size a n) :
    Calls Tryz.prog 22 #[.slice a n cap] w fun e w' => ∃ ax T cx x g F c, e = .returned (.tuple #[.agg #[.slice ax T.length cx], .int .i64 x, .slice (some ⟨g, 0, none⟩) F.length c]) ∧ Ints w' ax T ∧ (∀ g o, ax = some ⟨g, o, none⟩ → w.heap.size ≤ g) ∧ T.length ≤ 8 ∧ (-9223372036854775808 ≤ x ∧ x ≤ 9223372036854775807) ∧ F.length ≤ c ∧ c ≤ maxLen ∧ F.length ≤ 16 ∧ Ints w' (some ⟨g, 0, none⟩) F ∧ w.heap.size ≤ g ∧ Below w.heap.size w w' := by
  obtain ⟨A, hA⟩ : ∃ A, A = w.heap.size := ⟨_, rfl⟩
  obtain ⟨W, hW⟩ : ∃ W, W = w.alloc (.cells #[.slice none 0 0] 26) := ⟨_, rfl⟩
  have zW : W.heap.size = A + 1 := by rw [hW, hA]; simp
  have RA : W.heap[A]? = some (.cells #[.slice none 0 0] 26 (0, 0)) := by rw [hW, hA]; exact heap_alloc_new w _
  have B : Below A w W := by rw [hW, hA]; exact (Below.refl _ w).alloc (Nat.le_refl _) _
  have hY0 : Byts W W.heap.size a n := by rw [zW]; exact ((hY.mono (by omega)).keep fun b o v hb h => by rw [hW]; exact kept_cell ((Below.refl w.heap.size w).alloc (Nat.le_refl _) _) h (by have := World.block_lt_of_cell? w _ h; exact this))
  have hfr := from_any a n cap hn W hY0
  have HA := Lib.hid hA
  have HW := Lib.hid hW
  obtain ⟨b, hb⟩ : ∃ b, b = W.heap.size := ⟨_, rfl⟩
  rw [← hb] at hfr hY0
  have hbA : b = A + 1 := by omega
  have HB := Lib.hid hb
  clear hA hW
  go_enter Tryz.func22, Tryz.ntmps22
  go_wp2_with fail
  rw [← HW.out, ← HA.out]
  refine hfr.mono ?_
  rintro e w1 ⟨rfl, hs, hb1⟩
  rw [hb] at hb1
  replace RA := row_g RA (grown_of_below hb1 none) (by simp)
  replace B := B.trans (hb1.mono (by omega))
  have hAb : A < b := by omega
  have hY1 : Byts w1 w1.heap.size a n := (hY0.keep fun b' o v hb' h => kept_cell hb1 h (by omega)).mono (by have := hs.lt; omega)
  clear hfr hb1 hb zW hbA hY hY0
  have hc := l10Draw_any a n cap hn w1 hY1
  have zb1 := hs.lt
  have zw1 := B.size
  clear hY1
  go_wp2_with fail
  refine hc.mono ?_
  rintro e u1 ⟨ax, T, cx, t, rfl, hI, hax, hT, ht, hb⟩
  replace RA : u1.heap[A]? = some (.cells #[.slice none 0 0] 26 (0, 0)) := row_g RA (grown_of_below hb none) (by simp)
  replace B : Below A w u1 := B.trans (hb.mono (by first | exact B.size | (have := hs.lt; omega)))
  replace hs : Src u1 b a n cap := hs.below hb hs.lt
  have hX : IntsX b u1 ax T := ⟨hI, fun g o e => by have := hax g o e; omega⟩
  clear hc hb hI hax zb1 zw1
  have hAl := row_lt RA
  have hbl := hs.lt
  have hXl0 : ∀ g o, ax = some ⟨g, o, none⟩ → T ≠ [] → g < u1.heap.size := fun g o e hne => by
    rcases hX.1 with h | ⟨g', o', e', hl, _⟩
    · exact absurd (List.eq_nil_of_length_eq_zero h) hne
    · rw [e] at e'; cases e'; exact hl
  obtain ⟨Xb, hXb⟩ : ∃ z, z = u1.heap.size := ⟨_, rfl⟩
  obtain ⟨u2, hu2⟩ : ∃ z, z = u1.alloc (.cells #[.slice ax T.length cx] 26) := ⟨_, rfl⟩
  have RX : u2.heap[Xb]? = some (.cells #[.slice ax T.length cx] 26 (0, 0)) := by rw [hu2, hXb]; exact heap_alloc_new _ _
  replace RA : u2.heap[A]? = some (.cells #[.slice none 0 0] 26 (0, 0)) := by rw [hu2]; exact row_g RA (World.grownBy_alloc _ _ none) (by simp)
  replace B : Below A w u2 := by rw [hu2]; exact B.alloc (by first | exact B.size | omega) _
  replace hs : Src u2 b a n cap := by rw [hu2]; exact hs.alloc _
  replace hX : IntsX b u2 ax T := by rw [hu2]; exact hX.below (B := 0) ((Below.refl _ _).alloc (Nat.le_refl _) _)
  have HXb := Lib.hid hXb
  have Hu2 := Lib.hid hu2
  have hAX : A < Xb := by rw [hXb]; exact hAl
  have hbX : b < Xb := by rw [hXb]; exact hbl
  have hXl1 : ∀ g o, ax = some ⟨g, o, none⟩ → T ≠ [] → g < Xb := by rw [hXb]; exact hXl0
  clear hXb hu2 hAl hbl hXl0
  have xX := cell_of1' RX
  have hc := l10Code_any ax T cx (by omega) t u2 hX.1
  go_wp2_with fail
  rw [← Hu2.out, ← HXb.out]
  refine hc.mono ?_
  rintro e u3 ⟨rfl, hb⟩
  replace RA : u3.heap[A]? = some (.cells #[.slice none 0 0] 26 (0, 0)) := row_g RA (grown_of_below hb none) (by simp)
  replace B : Below A w u3 := B.trans (hb.mono (by first | exact B.size | (have := hs.lt; omega)))
  replace hs : Src u3 b a n cap := hs.below hb hs.lt
  replace hX : IntsX b u3 ax T := hX.below (B := 0) hb
  replace RX : u3.heap[Xb]? = some (.cells #[.slice ax T.length cx] 26 (0, 0)) := row_g RX (grown_of_below hb none) (by simp)
  clear hc hb xX
  by_cases hq : eC10 T t = 0
  · have b0 : (eC10 T t != 0) = false := by simp [hq]
    obtain ⟨hSp, ht1, ht3, htl⟩ := eC10_zero hq
    clear hq
    obtain ⟨tn, rfl⟩ : ∃ tn : Nat, t = (tn : Int) := ⟨t.toNat, by omega⟩
    have C1 := allC_ge hSp (t := tn) (by omega)
    have C2 := allC_le hSp (t := tn) (by omega) (by omega)
    have hCs : IsCs T.length tn (allC T tn) := allC_cs tn
    have HSp := Lib.hid hSp
    obtain ⟨N1, N2⟩ := nW_bd hSp
    unfold nW at N1 N2
    have xX := cell_of1' RX
    have hc := l10All_any ax T cx hSp tn (by omega) (by omega) u3 hX.1
    obtain ⟨E, hE⟩ : ∃ z, z = u3.heap.size := ⟨_, rfl⟩
    have hXE : Xb < E := by rw [hE]; exact row_lt RX
    rw [← hE] at hc
    generalize allC T tn = C at hc C1 C2 hCs ⊢
    obtain ⟨M, hM⟩ : ∃ M, M = prodTo T T.length := ⟨_, rfl⟩
    rw [← hM] at N1 N2
    have hwM : IntKind.i64.wrap (M - 1) = M - 1 := IntWalk.i64_in _ ⟨by omega, by omega⟩
    have hwt : IntKind.i64.wrap (2 * (tn : Int)) = ((2 * tn : Nat) : Int) := (IntWalk.i64_in _ ⟨by omega, by omega⟩).trans (by omega)
    have HM := Lib.hid hM
    clear hM hSp
    have hXl : Hid (T ≠ [] → ∀ g o, ax = some ⟨g, o, none⟩ → g < E) := Lib.hid fun hne g o e => by have := hXl1 g o e hne; omega
    clear hXl1
    go_wp2_with fail
    refine hc.mono ?_
    rintro e u4 ⟨gA, cA, rfl, hL, hb⟩
    rw [hE] at hb
    replace RA : u4.heap[A]? = some (.cells #[.slice none 0 0] 26 (0, 0)) := row_g RA (grown_of_below hb none) (by simp)
    replace B : Below A w u4 := B.trans (hb.mono (by first | exact B.size | (have := hs.lt; omega)))
    replace hs : Src u4 b a n cap := hs.below hb hs.lt
    replace hX : IntsX b u4 ax T := hX.below (B := 0) hb
    replace RX : u4.heap[Xb]? = some (.cells #[.slice ax T.length cx] 26 (0, 0)) := row_g RX (grown_of_below hb none) (by simp)
    clear hc hb xX hE
    obtain ⟨hvs, hvl, hRw, hEl⟩ := hL
    have hlenC : ((C.length : Int)) ≤ 832 := by omega
    go_wp2_with fail
    refine wp_region_held_drew (S := fun w' => w'.cell? ⟨Xb, 0, none⟩ = some (.slice ax T.length cx) ∧ w'.ownsRow E 24 1 (.slice (some ⟨gA, 0, none⟩) C.length cA) C.length hvs) (by kernel_rfl) (⟨cell_of1' RX, hRw⟩) (fun hHeld => ?_)
    refine wpAnyH_take (i := 0) (v := ?_) rfl (by kernel_rfl) (by kernel_rfl) (by kernel_rfl) (fun _ _ _ h => h) (Or.inl ⟨by rfl, ?_⟩) (by assumption) ?_
    rotate_left
    · (intro w hSw; obtain ⟨hSw0, hSw1⟩ := hSw; (try dsimp only at hSw0 hSw1); go_simp; try (with_reducible rfl))
    (try simp only [Act.put, List.setIfInBounds_toArray, List.set_cons_zero, List.set_cons_succ, List.getElem_toArray, List.getElem_cons_succ, List.getElem_cons_zero])
    refine wpAnyH_take (i := 1) (v := ?_) rfl (by kernel_rfl) (by kernel_rfl) (by kernel_rfl) (fun _ _ _ h => h) (Or.inl ⟨by rfl, ?_⟩) (by assumption) ?_
    rotate_left
    · (intro w hSw; obtain ⟨hSw0, hSw1⟩ := hSw; (try dsimp only at hSw0 hSw1); go_simp; try (with_reducible rfl))
    (try simp only [Act.put, List.setIfInBounds_toArray, List.set_cons_zero, List.set_cons_succ, List.getElem_toArray, List.getElem_cons_succ, List.getElem_cons_zero])
    refine wpAnyH_take (i := 2) (v := ?_) rfl (by kernel_rfl) (by kernel_rfl) (by kernel_rfl) (fun _ _ _ h => h) (Or.inl ⟨by rfl, ?_⟩) (by assumption) ?_
    rotate_left
    · (intro w hSw; obtain ⟨hSw0, hSw1⟩ := hSw; (try dsimp only at hSw0 hSw1); go_simp; try (with_reducible rfl))
    (try simp only [Act.put, List.setIfInBounds_toArray, List.set_cons_zero, List.set_cons_succ, List.getElem_toArray, List.getElem_cons_succ, List.getElem_cons_zero])
    refine wpAnyH_take (i := 3) (v := ?_) rfl (by kernel_rfl) (by kernel_rfl) (by kernel_rfl) (fun _ _ _ h => h) (Or.inl ⟨by rfl, ?_⟩) (by assumption) ?_
    rotate_left
    · (intro w hSw; obtain ⟨hSw0, hSw1⟩ := hSw; (try dsimp only at hSw0 hSw1); go_simp; try (with_reducible rfl))
    (try simp only [Act.put, List.setIfInBounds_toArray, List.set_cons_zero, List.set_cons_succ, List.getElem_toArray, List.getElem_cons_succ, List.getElem_cons_zero])
    refine wpAnyH_take (i := 7) (v := ?_) rfl (by kernel_rfl) (by kernel_rfl) (by kernel_rfl) (fun _ _ _ h => h) (Or.inl ⟨by rfl, ?_⟩) (by assumption) ?_
    rotate_left
    · (intro w hSw; obtain ⟨hSw0, hSw1⟩ := hSw; (try dsimp only at hSw0 hSw1); go_simp; try (with_reducible rfl))
    (try simp only [Act.put, List.setIfInBounds_toArray, List.set_cons_zero, List.set_cons_succ, List.getElem_toArray, List.getElem_cons_succ, List.getElem_cons_zero])
    refine wpAnyH_take (i := 8) (v := ?_) rfl (by kernel_rfl) (by kernel_rfl) (by kernel_rfl) (fun _ _ _ h => h) (Or.inl ⟨by rfl, ?_⟩) (by assumption) ?_
    rotate_left
    · (intro w hSw; obtain ⟨hSw0, hSw1⟩ := hSw; (try dsimp only at hSw0 hSw1); go_simp; try (with_reducible rfl))
    (try simp only [Act.put, List.setIfInBounds_toArray, List.set_cons_zero, List.set_cons_succ, List.getElem_toArray, List.getElem_cons_succ, List.getElem_cons_zero])
    replace RA : u4.drew.heap[A]? = some (.cells #[.slice none 0 0] 26 (0, 0)) := RA
    replace B : Below A w u4.drew := B.drew
    replace hs : Src u4.drew b a n cap := hs.drewN 1
    replace hX : IntsX b u4.drew ax T := hX
    replace RX : u4.drew.heap[Xb]? = some (.cells #[.slice ax T.length cx] 26 (0, 0)) := RX
    refine wpAnyH_ready (rs := [4]) (by kernel_rfl) (by simp) ?_
    refine AllReadyH.cons rfl (fun K hK => ?_) AllReadyH.nil
    have zlt := hs.lt
    go_simp
    (go_at_call 59; refine (next_any b a n cap hn (C.length : Int) (by omega) u4.drew hs).mono ?_)
    rintro e u5 ⟨r, rfl, r0, r1, r2, hs', hg⟩
    have hr := r2 (by omega)
    obtain ⟨i, rfl⟩ : ∃ i : Nat, r = (i : Int) := ⟨r.toNat, by omega⟩
    have hi : i < C.length := by omega
    obtain ⟨gc, cL, hvi, own⟩ := hEl i hi
    replace own : OwnInts u4.drew E (.slice (some ⟨gc, 0, none⟩) (rr C i).length cL) (rr C i) := by first | exact own | exact own.drew
    replace own := own.kept hg (.inr (fun e => by have := ownBlock_ge5 own e; omega))
    replace hRw : (u4.drew).ownsRow E 24 1 (.slice (some ⟨gA, 0, none⟩) C.length cA) C.length hvs := hRw
    have hEgc := own.base_le.1
    replace hRw := rowkeptC hRw hg (by omega)
    have hel := fun (w' : World) (h : w'.ownsRow E 24 1 (.slice (some ⟨gA, 0, none⟩) C.length cA) C.length hvs) => (h.cellAt i (by omega)).trans hvi
    replace RA : u5.heap[A]? = some (.cells #[.slice none 0 0] 26 (0, 0)) := row_g RA hg (by simp; omega)
    replace B : Below A w u5 := below_g B (by omega) hg (by omega)
    replace hX : IntsX b u5 ax T := hX.grownR hg (by intro g o e; have := hX.2 g o e; simp; omega)
    replace RX : u5.heap[Xb]? = some (.cells #[.slice ax T.length cx] 26 (0, 0)) := row_g RX hg (by simp; omega)
    replace hs := hs'
    clear hg zlt hs' r0 r1 r2 hr hEl
    refine hK.out _ _ (⟨cell_of1' RX, hRw⟩) (fun hHeld => ?_)
    clear hK K
    (try simp only [Act.put, List.setIfInBounds_toArray, List.set_cons_zero, List.set_cons_succ, List.getElem_toArray, List.getElem_cons_succ, List.getElem_cons_zero])
    refine wpAnyH_take (i := 5) (v := ?_) rfl (by kernel_rfl) (by kernel_rfl) (by kernel_rfl) (fun _ _ _ h => h) (Or.inl ⟨by rfl, ?_⟩) (by assumption) ?_
    rotate_left
    · (intro w hSw; obtain ⟨hSw0, hSw1⟩ := hSw; (try dsimp only at hSw0 hSw1); go_simp; try (with_reducible rfl))
    (try simp only [Act.put, List.setIfInBounds_toArray, List.set_cons_zero, List.set_cons_succ, List.getElem_toArray, List.getElem_cons_succ, List.getElem_cons_zero])
    refine wpAnyH_take (i := 6) (v := ?_) rfl (by kernel_rfl) (by kernel_rfl) (by kernel_rfl) (fun _ _ _ h => h) (Or.inl ⟨by rfl, ?_⟩) (by assumption) ?_
    rotate_left
    · (intro w hSw; have hz := hel w hSw.2; obtain ⟨hSw0, hSw1⟩ := hSw; (try dsimp only at hSw0); go_simp; try (with_reducible rfl))
    (try simp only [Act.put, List.setIfInBounds_toArray, List.set_cons_zero, List.set_cons_succ, List.getElem_toArray, List.getElem_cons_succ, List.getElem_cons_zero])
    refine wpAnyH_ready (rs := [9]) (by kernel_rfl) (by simp) ?_
    refine AllReadyH.cons rfl (fun K hK => ?_) AllReadyH.nil
    go_simp
    (go_at_call 54; refine (l01N_any ax T cx u5 HSp.out.hi HSp.out.bd hX.1).mono ?_)
    rintro e u6 ⟨rfl, hb⟩
    replace hRw := ls_row hRw hb
    replace RA : u6.heap[A]? = some (.cells #[.slice none 0 0] 26 (0, 0)) := row_g RA (grown_of_below hb none) (by simp)
    replace B : Below A w u6 := B.trans (hb.mono (by first | exact B.size | (have := hs.lt; omega)))
    replace hs : Src u6 b a n cap := hs.below hb hs.lt
    replace hX : IntsX b u6 ax T := hX.below (B := 0) hb
    replace RX : u6.heap[Xb]? = some (.cells #[.slice ax T.length cx] 26 (0, 0)) := row_g RX (grown_of_below hb none) (by simp)
    replace own : OwnInts u6 E (.slice (some ⟨gc, 0, none⟩) (rr C i).length cL) (rr C i) := own.below hb
    clear hb
    try rw [← HM.out]
    refine hK.out _ _ (⟨cell_of1' RX, hRw⟩) (fun hHeld => ?_)
    clear hK K
    (try simp only [Act.put, List.setIfInBounds_toArray, List.set_cons_zero, List.set_cons_succ, List.getElem_toArray, List.getElem_cons_succ, List.getElem_cons_zero])
    refine wpAnyH_take (i := 10) (v := ?_) rfl (by kernel_rfl) (by kernel_rfl) (by kernel_rfl) (fun _ _ _ h => h) (Or.inl ⟨by rfl, ?_⟩) (by assumption) ?_
    rotate_left
    · (intro w hSw; obtain ⟨hSw0, hSw1⟩ := hSw; (try dsimp only at hSw0 hSw1); go_simp; try (with_reducible rfl))
    (try simp only [Act.put, List.setIfInBounds_toArray, List.set_cons_zero, List.set_cons_succ, List.getElem_toArray, List.getElem_cons_succ, List.getElem_cons_zero])
    refine wpAnyH_ready (rs := [11]) (by kernel_rfl) (by simp) ?_
    refine AllReadyH.cons rfl (fun K hK => ?_) AllReadyH.nil
    have zlt := hs.lt
    go_simp
    (go_at_call 58; refine (near_any b a n cap hn (M - 1) (by omega) u6 hs).mono ?_)
    rintro e u7 ⟨x, rfl, hx, hs', hg⟩
    replace hRw := rowkeptC hRw hg (by omega)
    replace RA : u7.heap[A]? = some (.cells #[.slice none 0 0] 26 (0, 0)) := row_g RA hg (by simp; omega)
    replace B : Below A w u7 := below_g B (by omega) hg (by omega)
    replace hX : IntsX b u7 ax T := hX.grownR hg (by intro g o e; have := hX.2 g o e; simp; omega)
    replace RX : u7.heap[Xb]? = some (.cells #[.slice ax T.length cx] 26 (0, 0)) := row_g RX hg (by simp; omega)
    replace own : OwnInts u7 E (.slice (some ⟨gc, 0, none⟩) (rr C i).length cL) (rr C i) := own.kept hg (.inr (by simp [Value.ownBlock]; omega))
    replace hs := hs'
    clear hg zlt hs'
    refine hK.out _ _ (⟨cell_of1' RX, hRw⟩) (fun hHeld => ?_)
    clear hK K
    (try simp only [Act.put, List.setIfInBounds_toArray, List.set_cons_zero, List.set_cons_succ, List.getElem_toArray, List.getElem_cons_succ, List.getElem_cons_zero])
    refine wpAnyH_take (i := 12) (v := ?_) rfl (by kernel_rfl) (by kernel_rfl) (by kernel_rfl) (fun _ _ _ h => h) (Or.inl ⟨by rfl, ?_⟩) (by assumption) ?_
    rotate_left
    · (intro w hSw; obtain ⟨hSw0, hSw1⟩ := hSw; (try dsimp only at hSw0 hSw1); go_simp; try (with_reducible rfl))
    (try simp only [Act.put, List.setIfInBounds_toArray, List.set_cons_zero, List.set_cons_succ, List.getElem_toArray, List.getElem_cons_succ, List.getElem_cons_zero])
    refine wpAnyH_take (i := 13) (v := ?_) rfl (by kernel_rfl) (by kernel_rfl) (by kernel_rfl) (fun _ _ _ h => h) (Or.inl ⟨by rfl, ?_⟩) (by assumption) ?_
    rotate_left
    · (intro w hSw; obtain ⟨hSw0, hSw1⟩ := hSw; (try dsimp only at hSw0 hSw1); go_simp; try (with_reducible rfl))
    (try simp only [Act.put, List.setIfInBounds_toArray, List.set_cons_zero, List.set_cons_succ, List.getElem_toArray, List.getElem_cons_succ, List.getElem_cons_zero])
    refine wpAnyH_done (by kernel_rfl) ?_ _
    (try simp only [Act.put, List.setIfInBounds_toArray, List.set_cons_zero, List.set_cons_succ, List.getElem_toArray, List.getElem_cons_succ, List.getElem_cons_zero])
    have hcs := hCs (rr C i) (rr_mem hi)
    clear hRw hel hCs hvi
    obtain ⟨L, hL⟩ : ∃ z, z = rr C i := ⟨_, rfl⟩
    rw [← hL] at own hcs ⊢
    obtain ⟨hLl, hLp⟩ := hcs
    have HLp := Lib.hid hLp
    have HLl := Lib.hid hLl
    clear hEgc hL hLp hLl hvl hi C1 C2 hlenC
    go_upto_region 7 with fail
    go_cut [52] from 13 (fun s wx => ∃ q : Bool, s = .bool q ∧ (q = true → 0 ≤ x ∧ x ≤ M - 1) ∧ OwnInts wx E (.slice (some ⟨gc, 0, none⟩) L.length cL) L ∧ wx.heap[A]? = some (.cells #[.slice none 0 0] 26 (0, 0)) ∧ wx.heap[Xb]? = some (.cells #[.slice ax T.length cx] 26 (0, 0)) ∧ IntsX b wx ax T ∧ Src wx b a n cap ∧ Below A w wx)
    case first => as_aux_lemma =>
      have zlt := hs.lt
      have hnx := next_any b a n cap hn 2 (by omega) u7 hs
      go_wp2_with fail
      refine hnx.mono ?_
      rintro e u8 ⟨y, rfl, y0, y1, y2, hs', hg⟩
      replace RA : u8.heap[A]? = some (.cells #[.slice none 0 0] 26 (0, 0)) := row_g RA hg (by simp; omega)
      replace RX : u8.heap[Xb]? = some (.cells #[.slice ax T.length cx] 26 (0, 0)) := row_g RX hg (by simp; omega)
      replace hX := hX.grownR hg (by intro g o e; have := hX.2 g o e; simp; omega)
      replace own := own.kept hg (.inr (fun e => by have := ownBlock_ge5 own e; omega))
      replace B := below_g B (by omega) hg (by omega)
      replace hs := hs'
      clear hg hs' zlt
      clear hnx
      clear y0 y1 y2
      by_cases hy : y = 0
      · have e0 : (y == 0) = true := by simpa using hy
        clear hy
        have xX := cell_of1' RX
        have hc := l01N_any ax T cx u8 HSp.out.hi HSp.out.bd hX.1
        rw [← HM.out] at hc
        go_wp2_with fail
        refine hc.mono ?_
        rintro e u9 ⟨rfl, hb⟩
        replace RA : u9.heap[A]? = some (.cells #[.slice none 0 0] 26 (0, 0)) := row_g RA (grown_of_below hb none) (by simp)
        replace RX : u9.heap[Xb]? = some (.cells #[.slice ax T.length cx] 26 (0, 0)) := row_g RX (grown_of_below hb none) (by simp)
        replace hX := hX.below (B := 0) hb
        replace B := B.trans (hb.mono (by have := hs.lt; omega))
        replace own := own.below hb
        replace hs := hs.below hb hs.lt
        clear hb
        clear hc xX
        have hin := l01In_any x 0 (M - 1) u9
        go_wp2_with fail
        refine hin.mono ?_
        rintro e u99 ⟨rfl, rfl⟩
        clear hin
        go_wp2_with fail
        go_meet
        refine ⟨_, rfl, fun h => ?_, own, RA, RX, hX, hs, B⟩
        have := inB_iffC h; omega
      · have e0 : (y == 0) = false := by simpa using hy
        clear hy
        go_wp2_with fail
        go_meet
        exact ⟨_, rfl, (fun h => by cases h), own, RA, RX, hX, hs, B⟩
    case rest => as_aux_lemma =>
      clear own RA RX hX hs B
      obtain ⟨q, rfl, hqx, own, RA, RX, hX, hs, B⟩ := hcut
      go_upto_if 52 with fail
      go_cut [9, 11, 12] from 13 (fun v _ _ wx => ∃ F : List Int, v = .slice (some ⟨gc, 0, none⟩) F.length cL ∧ Hid (F.length = 2 * tn) ∧ OwnInts wx E (.slice (some ⟨gc, 0, none⟩) F.length cL) F ∧ wx.heap[A]? = some (.cells #[.slice none 0 0] 26 (0, 0)) ∧ wx.heap[Xb]? = some (.cells #[.slice ax T.length cx] 26 (0, 0)) ∧ IntsX b wx ax T ∧ Src wx b a n cap ∧ Below A w wx)
      case first => as_aux_lemma =>
        cases hq : q with
        | true =>
          obtain ⟨hx0, hx1⟩ := hqx hq
          clear hqx hq
          have xX := cell_of1' RX
          have hc := l01Digits_any ax T cx HSp.out.hi HSp.out.bd x hx0 (by omega) wc hX.1
          obtain ⟨E2, hE2⟩ : ∃ z, z = wc.heap.size := ⟨_, rfl⟩
          have hgE : gc < E2 := by rw [hE2]; exact (own_blkC own).2
          have hgE0 : E ≤ gc := (own_blkC own).1
          have hbE2 : b < E2 := by rw [hE2]; exact hs.lt
          rw [← hE2] at hc
          go_wp2_with fail
          refine hc.mono ?_
          rintro e u28 ⟨gd, rfl, od, hb⟩
          rw [hE2] at hb
          replace RA : u28.heap[A]? = some (.cells #[.slice none 0 0] 26 (0, 0)) := row_g RA (grown_of_below hb none) (by simp)
          replace RX : u28.heap[Xb]? = some (.cells #[.slice ax T.length cx] 26 (0, 0)) := row_g RX (grown_of_below hb none) (by simp)
          replace hX := hX.below (B := 0) hb
          replace B := B.trans (hb.mono (by have := hs.lt; omega))
          replace own := own.below hb
          replace hs := hs.below hb hs.lt
          clear hb
          clear hc xX hE2
          have hdl : (digs T x).length = T.length := digs_length _ _
          obtain ⟨Dg, hDg⟩ : ∃ z, z = digs T x := ⟨_, rfl⟩
          rw [← hDg] at od hdl
          clear hDg
          have hgd := (own_blkC od).1
          go_wp2_with fail
          go_loopw [12] (fun kv wr => ∃ (k : Nat) (F : List Int), kv = .int .i64 (k : Int) ∧ k ≤ tn ∧ Hid (F.length = L.length) ∧ Hid (∀ i, i < tn → gi F i = gi L i) ∧ OwnInts wr E (.slice (some ⟨gc, 0, none⟩) L.length cL) F ∧ OwnInts wr E2 (.slice (some ⟨gd, 0, none⟩) T.length T.length) Dg ∧ wr.heap[A]? = some (.cells #[.slice none 0 0] 26 (0, 0)) ∧ wr.heap[Xb]? = some (.cells #[.slice ax T.length cx] 26 (0, 0)) ∧ IntsX b wr ax T ∧ Src wr b a n cap ∧ Below A w wr) (fun kv _ => tn - (intOf kv).toNat)
          case atStart => exact ⟨0, L, rfl, Nat.zero_le _, Lib.hid rfl, Lib.hid (fun _ _ => rfl), own, od, RA, RX, hX, hs, B⟩
          case round =>
            clear own od RA RX hX hs B
            obtain ⟨k, F, rfl, hk, HFl, HF, own, od, RA, RX, hX, hs, B⟩ := hrel
            by_cases hlt : k < tn
            · have i1 : (k : Int) < (tn : Int) := by omega
              obtain ⟨p0, p1⟩ := HLp.out k hlt
              have hFk := HF.out k hlt
              have hFl := HFl.out
              have hL2 := HLl.out
              obtain ⟨p, hp⟩ : ∃ p : Nat, gi L k = (p : Int) := ⟨(gi L k).toNat, by omega⟩
              have c1 := own_atC own (k := k) (by omega)
              rw [hFk, hp] at c1
              have hpl : p < T.length := by omega
              have c2 := own_atC od (k := p) (by omega)
              have hw1 : IntKind.i64.wrap ((tn : Int) + (k : Int)) = ((tn + k : Nat) : Int) := (IntWalk.i64_in _ ⟨by omega, by omega⟩).trans (by omega)
              have f1 := own_frozC own (tn + k)
              have i2 : tn + k < L.length := by omega
              have c3 := own_atC own (k := tn + k) (by omega)
              clear hFl hL2
              go_wp2_with fail
              go_roundw
              case rel => exact ⟨k + 1, F.set (tn + k) (gi Dg p), (by go_num), by omega, Lib.hid (by rw [List.length_set]; exact HFl.out), Lib.hid (fun i hi => by rw [gi_setC F _ _ _ (by omega)]; exact HF.out i hi), own.stored (tn + k) _, od.kept (grown_setCell (World.grownBy.refl _ _) _ _) (.inr (fun e => by have h1 := (own_blkC od).1; have h2 : gd = gc := (by simpa [Value.ownBlock] using e); omega)), row_setC RA (by omega) _ _, row_setC RX (by omega) _ _, hX.setC (fun g o e hne => by have := hXl.out hne g o e; omega) _ _, hs.setO _ (by simp; omega) _, B.setCell (by simp; omega) _⟩
              case measure => simp [intOf]; omega
            · have i1 : ¬ (k : Int) < (tn : Int) := by omega
              go_wp2_with fail
              go_meet
              exact ⟨F, by rw [HFl.out], Lib.hid (HFl.out.trans HLl.out), by rw [HFl.out]; exact own, RA, RX, hX, hs, B⟩
        | false =>
          clear hqx hq
          go_wp2_with fail
          go_meet
          exact ⟨L, rfl, HLl, own, RA, RX, hX, hs, B⟩
      case rest => as_aux_lemma =>
        clear own RA RX hX hs B HLp hqx hwM N1 N2 HM
        obtain ⟨F, rfl, HFl, own, RA, RX, hX, hs, B⟩ := hcut
        have zg := own_blkC own
        have hF6 : F.length ≤ 6 := by have := HFl.out; omega
        have zlt := hs.lt
        have hnx := next_any b a n cap hn 16 (by omega) wc hs
        go_wp2_with fail
        refine hnx.mono ?_
        rintro e u48 ⟨s, rfl, s0, s1, s2, hs', hg⟩
        replace RA : u48.heap[A]? = some (.cells #[.slice none 0 0] 26 (0, 0)) := row_g RA hg (by simp; omega)
        replace RX : u48.heap[Xb]? = some (.cells #[.slice ax T.length cx] 26 (0, 0)) := row_g RX hg (by simp; omega)
        replace hX := hX.grownR hg (by intro g o e; have := hX.2 g o e; simp; omega)
        replace own := own.kept hg (.inr (fun e => by have := ownBlock_ge5 own e; omega))
        replace B := below_g B (by omega) hg (by omega)
        replace hs := hs'
        clear hg hs' zlt
        clear hnx
        clear s0 s1 s2
        by_cases hs0 : s = 0
        · have e0 : (s == 0) = true := by simpa using hs0
          clear hs0
          have hzE : E ≤ u48.heap.size := by have := own_blkC own; omega
          go_upto_region 18 with (at_builtin; refine wpList_append_int_at rfl _ _ rfl E _ F rfl (own.alloc _) u48.heap.size 0 rfl (cell_new _ _ _) (by omega) (by simp; omega) ?_; intro v' wz own' hgrow hnew; have RA' := row_g (row_g RA (World.grownBy_alloc u48 (.cells #[.int .i64 0] 2) none) (by simp)) hgrow (fun e => by have := ownBlock_ge5 own e.symm; omega); have RX' := row_g (row_g RX (World.grownBy_alloc u48 (.cells #[.int .i64 0] 2) none) (by simp)) hgrow (fun e => by have := ownBlock_ge5 own e.symm; omega); have xA' := cell_of1' RA'; have fA' := frozen_of_row wz A 0 _ _ RA'; have zA' := row_lt RA'; have xX' := cell_of1' RX')
          obtain ⟨g', c', hv', hob'⟩ := own_some own' (by simp)
          have hX' := (hX.below (B := 0) ((Below.refl _ _).alloc (Nat.le_refl _) (.cells #[.int .i64 0] 2))).grownE hgrow (fun hne g o e e2 => by have h1 := ownBlock_ge5 own e2.symm; have h2 := hXl.out hne g o e; omega)
          have B' : Below A w wz := (B.alloc (by have := row_lt RA; omega) (.cells #[.int .i64 0] 2)).grown hgrow (by simp; have := row_lt RA; omega) (fun k' hk => by have := ownBlock_ge5 own hk; omega)
          subst hv'
          clear RA RX hX hs own B xA' fA' zA' xX'
          have RA := RA'
          have RX := RX'
          have hX := hX'
          have own := own'
          have B := B'
          have xA := cell_of1' RA
          have fA := frozen_of_row wz A 0 _ _ RA
          have zA := row_lt RA
          have xX := cell_of1' RX
          have HIe : Ints (wz.setCell ⟨A, 0, none⟩ (.slice ax T.length cx)) ax T := ints_setA hX.1 (fun g o e => by have := hX.2 g o e; omega)
          have owne := own_ints (own_setO own A (fun e => by have := ownBlock_ge5 own e; omega) (.slice ax T.length cx))
          have zg := (own_blkC own).1
          have zc := own_cap own
          have Be : Below A w (wz.setCell ⟨A, 0, none⟩ (.slice ax T.length cx)) := B.setCell (by simp) _
          go_wp2_with (refine bodyPost_ret (by rw [results_cell_tmp2w rfl]; go_simp; try rfl) rfl ?_; exact ⟨ax, T, cx, x, g', (F ++ [0]), c', (by first | rfl | rw [List.length_set] | (rw [List.length_append]; rfl) | simp), HIe, (fun g o e => by have := hX.2 g o e; have := HA.out; omega), hT, hx, (by first | exact zc.1 | omega), zc.2, (by first | omega | (simp; omega)), owne, (by have := HA.out; omega), by rw [← HA.out]; exact Be⟩)
        · have e0 : (s == 0) = false := by simpa using hs0
          clear hs0
          by_cases hs1 : s = 1
          · have e1 : (s == 1) = true := by simpa using hs1
            clear hs1
            have zlt := hs.lt
            have hnx := next_any b a n cap hn ((2 * tn : Nat) : Int) (by omega) u48 hs
            go_wp2_with fail
            refine hnx.mono ?_
            rintro e u49 ⟨k, rfl, k0, k1, k2, hs', hg⟩
            replace RA : u49.heap[A]? = some (.cells #[.slice none 0 0] 26 (0, 0)) := row_g RA hg (by simp; omega)
            replace RX : u49.heap[Xb]? = some (.cells #[.slice ax T.length cx] 26 (0, 0)) := row_g RX hg (by simp; omega)
            replace hX := hX.grownR hg (by intro g o e; have := hX.2 g o e; simp; omega)
            replace own := own.kept hg (.inr (fun e => by have := ownBlock_ge5 own e; omega))
            replace B := below_g B (by omega) hg (by omega)
            replace hs := hs'
            clear hg hs' zlt
            clear hnx
            have hk := k2 (by omega)
            obtain ⟨i', rfl⟩ : ∃ i : Nat, k = (i : Int) := ⟨k.toNat, by omega⟩
            clear k0 k1 k2
            obtain ⟨u50, hu50⟩ : ∃ z, z = u49.alloc (.cells #[.int .i64 (-1), .int .i64 4, .int .i64 8, .int .i64 0] 2) := ⟨_, rfl⟩
            have I2 : Ints u50 (some ⟨u49.heap.size, 0, none⟩) [-1, 4, 8, 0] := by rw [hu50]; exact ints_new _ [-1, 4, 8, 0] _
            have zs1 := hs.lt
            have hb : Below u49.heap.size u49 u50 := by rw [hu50]; exact (Below.refl _ _).alloc (Nat.le_refl _) _
            replace RA : u50.heap[A]? = some (.cells #[.slice none 0 0] 26 (0, 0)) := row_g RA (grown_of_below hb none) (by simp)
            replace RX : u50.heap[Xb]? = some (.cells #[.slice ax T.length cx] 26 (0, 0)) := row_g RX (grown_of_below hb none) (by simp)
            replace hX := hX.below (B := 0) hb
            replace B := B.trans (hb.mono (by have := hs.lt; omega))
            replace own := own.below hb
            replace hs := hs.below hb hs.lt
            clear hb
            have hc := pick_n b a n cap hn u49.heap.size _ 4 rfl (by omega) (by omega) (by omega) u50 hs I2
            have Hu50 := Lib.hid hu50
            clear hu50 I2
            have zlt := hs.lt
            go_wp2_with fail
            rw [← Hu50.out]
            refine hc.mono ?_
            rintro e u51 ⟨z, rfl, hz, hs', hg⟩
            replace RA : u51.heap[A]? = some (.cells #[.slice none 0 0] 26 (0, 0)) := row_g RA hg (by simp; omega)
            replace RX : u51.heap[Xb]? = some (.cells #[.slice ax T.length cx] 26 (0, 0)) := row_g RX hg (by simp; omega)
            replace hX := hX.grownR hg (by intro g o e; have := hX.2 g o e; simp; omega)
            replace own := own.kept hg (.inr (fun e => by have := ownBlock_ge5 own e; omega))
            replace B := below_g B (by omega) hg (by omega)
            replace hs := hs'
            clear hg hs' zlt
            clear hc hz zs1
            have hFn := HFl.out
            have f1 := own_frozC own i'
            have c3 := own_atC own (k := i') (by omega)
            have i2 : i' < F.length := by omega
            clear hFn
            have own2 := own.stored i' z
            have RA2 := row_setC (g := gc) RA (by omega) i' (.int .i64 z)
            have RX2 := row_setC (g := gc) RX (by omega) i' (.int .i64 z)
            have hX2 := hX.setC (g := gc) (fun g o e hne => by have := hXl.out hne g o e; omega) i' (.int .i64 z)
            have B2 : Below A w (u51.setCell ⟨gc, i', none⟩ (.int .i64 z)) := B.setCell (by simp; omega) _
            go_upto_region 18 with fail
            obtain ⟨W2, hW2⟩ : ∃ z', z' = u51.setCell ⟨gc, i', none⟩ (.int .i64 z) := ⟨_, rfl⟩
            rw [← hW2] at own2 RA2 RX2 hX2 B2 ⊢
            have hsl : (F.set i' z).length = F.length := List.length_set
            rw [← hsl] at own2
            clear hW2 RA RX hX own B hs
            have RA := RA2
            have RX := RX2
            have hX := hX2
            have own := own2
            have B := B2
            have xA := cell_of1' RA
            have fA := frozen_of_row W2 A 0 _ _ RA
            have zA := row_lt RA
            have xX := cell_of1' RX
            have HIe : Ints (W2.setCell ⟨A, 0, none⟩ (.slice ax T.length cx)) ax T := ints_setA hX.1 (fun g o e => by have := hX.2 g o e; omega)
            have owne := own_ints (own_setO own A (fun e => by have := ownBlock_ge5 own e; omega) (.slice ax T.length cx))
            have zg := (own_blkC own).1
            have zc := own_cap own
            have Be : Below A w (W2.setCell ⟨A, 0, none⟩ (.slice ax T.length cx)) := B.setCell (by simp) _
            go_wp2_with (refine bodyPost_ret (by rw [results_cell_tmp2w rfl]; go_simp; try rfl) rfl ?_; exact ⟨ax, T, cx, x, gc, (F.set i' z), cL, (by first | rfl | rw [List.length_set] | (rw [List.length_append]; rfl) | simp), HIe, (fun g o e => by have := hX.2 g o e; have := HA.out; omega), hT, hx, (by first | exact zc.1 | omega), zc.2, (by first | omega | (simp; omega)), owne, (by have := HA.out; omega), by rw [← HA.out]; exact Be⟩)
          · have e1 : (s == 1) = false := by simpa using hs1
            clear hs1
            have xA := cell_of1' RA
            have fA := frozen_of_row u48 A 0 _ _ RA
            have zA := row_lt RA
            have xX := cell_of1' RX
            have HIe : Ints (u48.setCell ⟨A, 0, none⟩ (.slice ax T.length cx)) ax T := ints_setA hX.1 (fun g o e => by have := hX.2 g o e; omega)
            have owne := own_ints (own_setO own A (fun e => by have := ownBlock_ge5 own e; omega) (.slice ax T.length cx))
            have zg := (own_blkC own).1
            have zc := own_cap own
            have Be : Below A w (u48.setCell ⟨A, 0, none⟩ (.slice ax T.length cx)) := B.setCell (by simp) _
            go_wp2_with (refine bodyPost_ret (by rw [results_cell_tmp2w rfl]; go_simp; try rfl) rfl ?_; exact ⟨ax, T, cx, x, gc, F, cL, (by first | rfl | rw [List.length_set] | (rw [List.length_append]; rfl) | simp), HIe, (fun g o e => by have := hX.2 g o e; have := HA.out; omega), hT, hx, (by first | exact zc.1 | omega), zc.2, (by first | omega | (simp; omega)), owne, (by have := HA.out; omega), by rw [← HA.out]; exact Be⟩)
  · have b0 : (eC10 T t != 0) = true := by simp [hq]
    clear hq
    have hXE := row_lt RX
    go_wp2_with fail
    refine wp_region_held_drew (S := fun w' => w'.cell? ⟨Xb, 0, none⟩ = some (.slice ax T.length cx)) (by kernel_rfl) (cell_of1' RX) (fun hHeld => ?_)
    refine wpAnyH_take (i := 0) (v := ?_) rfl (by kernel_rfl) (by kernel_rfl) (by kernel_rfl) (fun _ _ _ h => h) (Or.inl ⟨by rfl, ?_⟩) (by assumption) ?_
    rotate_left
    · (intro w hSw; obtain hSw := hSw; (try dsimp only at hSw); go_simp; try (with_reducible rfl))
    (try simp only [Act.put, List.setIfInBounds_toArray, List.set_cons_zero, List.set_cons_succ, List.getElem_toArray, List.getElem_cons_succ, List.getElem_cons_zero])
    refine wpAnyH_take (i := 1) (v := ?_) rfl (by kernel_rfl) (by kernel_rfl) (by kernel_rfl) (fun _ _ _ h => h) (Or.inl ⟨by rfl, ?_⟩) (by assumption) ?_
    rotate_left
    · (intro w hSw; obtain hSw := hSw; (try dsimp only at hSw); go_simp; try (with_reducible rfl))
    (try simp only [Act.put, List.setIfInBounds_toArray, List.set_cons_zero, List.set_cons_succ, List.getElem_toArray, List.getElem_cons_succ, List.getElem_cons_zero])
    replace RA : u3.drew.heap[A]? = some (.cells #[.slice none 0 0] 26 (0, 0)) := RA
    replace B : Below A w u3.drew := B.drew
    replace hs : Src u3.drew b a n cap := hs.drewN 1
    replace hX : IntsX b u3.drew ax T := hX
    replace RX : u3.drew.heap[Xb]? = some (.cells #[.slice ax T.length cx] 26 (0, 0)) := RX
    refine wpAnyH_ready (rs := [2, 3]) (by kernel_rfl) (by simp) ?_
    refine AllReadyH.cons rfl (fun K hK => ?_) ?_
    · go_simp
      (go_at_call 58; refine (near_any b a n cap hn 3 (by omega) u3.drew hs).mono ?_)
      have zlt := hs.lt
      rintro e u4 ⟨x, rfl, hx, hs', hg⟩
      replace RA : u4.heap[A]? = some (.cells #[.slice none 0 0] 26 (0, 0)) := row_g RA hg (by simp; omega)
      replace B : Below A w u4 := below_g B (by omega) hg (by omega)
      replace hX : IntsX b u4 ax T := hX.grownR hg (by intro g o e; have := hX.2 g o e; simp; omega)
      replace RX : u4.heap[Xb]? = some (.cells #[.slice ax T.length cx] 26 (0, 0)) := row_g RX hg (by simp; omega)
      replace hs := hs'
      clear hg zlt hs'
      refine hK.out _ _ (cell_of1' RX) (fun hHeld => ?_)
      clear hK K
      (try simp only [Act.put, List.setIfInBounds_toArray, List.set_cons_zero, List.set_cons_succ, List.getElem_toArray, List.getElem_cons_succ, List.getElem_cons_zero])
      refine wpAnyH_ready (rs := [3, 4]) (by kernel_rfl) (by simp) ?_
      refine AllReadyH.cons rfl (fun K hK => ?_) ?_
      · have hXE := row_lt RX
        go_simp
        replace RA : (u4.alloc (.cells #[.int .i64 0, .int .i64 0] 2)).heap[A]? = some (.cells #[.slice none 0 0] 26 (0, 0)) := row_g RA (World.grownBy_alloc _ _ none) (by simp)
        replace B : Below A w (u4.alloc (.cells #[.int .i64 0, .int .i64 0] 2)) := B.alloc (by first | exact B.size | omega | (have := hs.lt; omega)) _
        replace hs : Src (u4.alloc (.cells #[.int .i64 0, .int .i64 0] 2)) b a n cap := hs.alloc _
        replace hX : IntsX b (u4.alloc (.cells #[.int .i64 0, .int .i64 0] 2)) ax T := hX.below (B := 0) ((Below.refl _ _).alloc (Nat.le_refl _) _)
        replace RX : (u4.alloc (.cells #[.int .i64 0, .int .i64 0] 2)).heap[Xb]? = some (.cells #[.slice ax T.length cx] 26 (0, 0)) := row_g RX (World.grownBy_alloc _ _ none) (by simp)
        have hC : IntsX Xb (u4.alloc (.cells #[.int .i64 0, .int .i64 0] 2)) (some ⟨u4.heap.size, 0, none⟩) [0, 0] := ⟨ints_new _ [0, 0] _, fun g o e => by cases e; exact hXE⟩
        clear hXE
        refine hK.out _ _ (cell_of1' RX) (fun hHeld => ?_)
        clear hK K
        (try simp only [Act.put, List.setIfInBounds_toArray, List.set_cons_zero, List.set_cons_succ, List.getElem_toArray, List.getElem_cons_succ, List.getElem_cons_zero])
        refine wpAnyH_ready (rs := [4]) (by kernel_rfl) (by simp) ?_
        refine AllReadyH.cons rfl (fun K hK => ?_) AllReadyH.nil
        clear hs
        have xSt := cell_of1' RA
        have fSt := frozen_of_row (u4.alloc (.cells #[.int .i64 0, .int .i64 0] 2)) A 0 _ _ RA
        have zSt := row_lt RA
        go_simp
        replace RA : ((u4.alloc (.cells #[.int .i64 0, .int .i64 0] 2)).setCell ⟨A, 0, none⟩ (.slice ax T.length cx)).heap[A]? = some (.cells #[.slice ax T.length cx] 26 (0, 0)) := row_store1' _ RA
        replace B : Below A w ((u4.alloc (.cells #[.int .i64 0, .int .i64 0] 2)).setCell ⟨A, 0, none⟩ (.slice ax T.length cx)) := B.setCell (by first | (simp; done) | (simp; omega)) _
        replace hX : IntsX b ((u4.alloc (.cells #[.int .i64 0, .int .i64 0] 2)).setCell ⟨A, 0, none⟩ (.slice ax T.length cx)) ax T := hX.set _ _ (by intro g o e; have := hX.2 g o e; omega)
        replace RX : ((u4.alloc (.cells #[.int .i64 0, .int .i64 0] 2)).setCell ⟨A, 0, none⟩ (.slice ax T.length cx)).heap[Xb]? = some (.cells #[.slice ax T.length cx] 26 (0, 0)) := row_setO RX (by simp; omega) _
        replace hC : IntsX Xb ((u4.alloc (.cells #[.int .i64 0, .int .i64 0] 2)).setCell ⟨A, 0, none⟩ (.slice ax T.length cx)) (some ⟨u4.heap.size, 0, none⟩) [0, 0] := hC.set _ _ (by intro g o e; have := hC.2 g o e; omega)
        clear xSt fSt zSt
        refine hK.out _ _ (cell_of1' RX) (fun hHeld => ?_)
        clear hK K
        (try simp only [Act.put, List.setIfInBounds_toArray, List.set_cons_zero, List.set_cons_succ, List.getElem_toArray, List.getElem_cons_succ, List.getElem_cons_zero])
        refine wpAnyH_take (i := 5) (v := ?_) rfl (by kernel_rfl) (by kernel_rfl) (by kernel_rfl) (fun _ _ _ h => h) (Or.inl ⟨by rfl, ?_⟩) (by assumption) ?_
        rotate_left
        · (intro w hSw; obtain hSw := hSw; (try dsimp only at hSw); go_simp; try (with_reducible rfl))
        (try simp only [Act.put, List.setIfInBounds_toArray, List.set_cons_zero, List.set_cons_succ, List.getElem_toArray, List.getElem_cons_succ, List.getElem_cons_zero])
        refine wpAnyH_take (i := 6) (v := ?_) rfl (by kernel_rfl) (by kernel_rfl) (by kernel_rfl) (fun _ _ _ h => h) (Or.inl ⟨by rfl, ?_⟩) (by assumption) ?_
        rotate_left
        · (intro w hSw; obtain hSw := hSw; (try dsimp only at hSw); go_simp; try (with_reducible rfl))
        (try simp only [Act.put, List.setIfInBounds_toArray, List.set_cons_zero, List.set_cons_succ, List.getElem_toArray, List.getElem_cons_succ, List.getElem_cons_zero])
        refine wpAnyH_done (by kernel_rfl) ?_ _
        (try simp only [Act.put, List.setIfInBounds_toArray, List.set_cons_zero, List.set_cons_succ, List.getElem_toArray, List.getElem_cons_succ, List.getElem_cons_zero])
        have xA := cell_of1' RA
        have zA := row_lt RA
        go_wp2_with fail
        refine bodyPost_ret (by rw [results_cell_tmp2w rfl]; go_simp; try rfl) rfl ?_
        exact ⟨ax, T, cx, x, _, [0, 0], 2, rfl, hX.1, (fun g o e => by have := hX.2 g o e; have := HA.out; omega), hT, hx, by simp, by decide, by simp, (by first | exact hC.1 | simpa using hC.1), (by have h1 := hC.2 _ _ rfl; have h2 := HA.out; (try simp at h1); (try simp); omega), by rw [← HA.out]; exact B⟩
      refine AllReadyH.cons rfl (fun K hK => ?_) AllReadyH.nil
      clear hs
      have xSt := cell_of1' RA
      have fSt := frozen_of_row u4 A 0 _ _ RA
      have zSt := row_lt RA
      go_simp
      replace RA : (u4.setCell ⟨A, 0, none⟩ (.slice ax T.length cx)).heap[A]? = some (.cells #[.slice ax T.length cx] 26 (0, 0)) := row_store1' _ RA
      replace B : Below A w (u4.setCell ⟨A, 0, none⟩ (.slice ax T.length cx)) := B.setCell (by first | (simp; done) | (simp; omega)) _
      replace hX : IntsX b (u4.setCell ⟨A, 0, none⟩ (.slice ax T.length cx)) ax T := hX.set _ _ (by intro g o e; have := hX.2 g o e; omega)
      replace RX : (u4.setCell ⟨A, 0, none⟩ (.slice ax T.length cx)).heap[Xb]? = some (.cells #[.slice ax T.length cx] 26 (0, 0)) := row_setO RX (by simp; omega) _
      clear xSt fSt zSt
      refine hK.out _ _ (cell_of1' RX) (fun hHeld => ?_)
      clear hK K
      (try simp only [Act.put, List.setIfInBounds_toArray, List.set_cons_zero, List.set_cons_succ, List.getElem_toArray, List.getElem_cons_succ, List.getElem_cons_zero])
      refine wpAnyH_take (i := 5) (v := ?_) rfl (by kernel_rfl) (by kernel_rfl) (by kernel_rfl) (fun _ _ _ h => h) (Or.inl ⟨by rfl, ?_⟩) (by assumption) ?_
      rotate_left
      · (intro w hSw; obtain hSw := hSw; (try dsimp only at hSw); go_simp; try (with_reducible rfl))
      (try simp only [Act.put, List.setIfInBounds_toArray, List.set_cons_zero, List.set_cons_succ, List.getElem_toArray, List.getElem_cons_succ, List.getElem_cons_zero])
      refine wpAnyH_ready (rs := [3]) (by kernel_rfl) (by simp) ?_
      refine AllReadyH.cons rfl (fun K hK => ?_) AllReadyH.nil
      have hXE := row_lt RX
      go_simp
      replace RA : ((u4.setCell ⟨A, 0, none⟩ (.slice ax T.length cx)).alloc (.cells #[.int .i64 0, .int .i64 0] 2)).heap[A]? = some (.cells #[.slice ax T.length cx] 26 (0, 0)) := row_g RA (World.grownBy_alloc _ _ none) (by simp)
      replace B : Below A w ((u4.setCell ⟨A, 0, none⟩ (.slice ax T.length cx)).alloc (.cells #[.int .i64 0, .int .i64 0] 2)) := B.alloc (by first | exact B.size | omega | (have := hs.lt; omega)) _
      replace hX : IntsX b ((u4.setCell ⟨A, 0, none⟩ (.slice ax T.length cx)).alloc (.cells #[.int .i64 0, .int .i64 0] 2)) ax T := hX.below (B := 0) ((Below.refl _ _).alloc (Nat.le_refl _) _)
      replace RX : ((u4.setCell ⟨A, 0, none⟩ (.slice ax T.length cx)).alloc (.cells #[.int .i64 0, .int .i64 0] 2)).heap[Xb]? = some (.cells #[.slice ax T.length cx] 26 (0, 0)) := row_g RX (World.grownBy_alloc _ _ none) (by simp)
      have hC : IntsX Xb ((u4.setCell ⟨A, 0, none⟩ (.slice ax T.length cx)).alloc (.cells #[.int .i64 0, .int .i64 0] 2)) (some ⟨(u4.setCell ⟨A, 0, none⟩ (.slice ax T.length cx)).heap.size, 0, none⟩) [0, 0] := ⟨ints_new _ [0, 0] _, fun g o e => by cases e; exact hXE⟩
      clear hXE
      refine hK.out _ _ (cell_of1' RX) (fun hHeld => ?_)
      clear hK K
      (try simp only [Act.put, List.setIfInBounds_toArray, List.set_cons_zero, List.set_cons_succ, List.getElem_toArray, List.getElem_cons_succ, List.getElem_cons_zero])
      refine wpAnyH_take (i := 6) (v := ?_) rfl (by kernel_rfl) (by kernel_rfl) (by kernel_rfl) (fun _ _ _ h => h) (Or.inl ⟨by rfl, ?_⟩) (by assumption) ?_
      rotate_left
      · (intro w hSw; obtain hSw := hSw; (try dsimp only at hSw); go_simp; try (with_reducible rfl))
      (try simp only [Act.put, List.setIfInBounds_toArray, List.set_cons_zero, List.set_cons_succ, List.getElem_toArray, List.getElem_cons_succ, List.getElem_cons_zero])
      refine wpAnyH_done (by kernel_rfl) ?_ _
      (try simp only [Act.put, List.setIfInBounds_toArray, List.set_cons_zero, List.set_cons_succ, List.getElem_toArray, List.getElem_cons_succ, List.getElem_cons_zero])
      have xA := cell_of1' RA
      have zA := row_lt RA
      go_wp2_with fail
      refine bodyPost_ret (by rw [results_cell_tmp2w rfl]; go_simp; try rfl) rfl ?_
      exact ⟨ax, T, cx, x, _, [0, 0], 2, rfl, hX.1, (fun g o e => by have := hX.2 g o e; have := HA.out; omega), hT, hx, by simp, by decide, by simp, (by first | exact hC.1 | simpa using hC.1), (by have h1 := hC.2 _ _ rfl; have h2 := HA.out; (try simp at h1); (try simp); omega), by rw [← HA.out]; exact B⟩
    refine AllReadyH.cons rfl (fun K hK => ?_) AllReadyH.nil
    have hXE := row_lt RX
    go_simp
    replace RA : (u3.drew.alloc (.cells #[.int .i64 0, .int .i64 0] 2)).heap[A]? = some (.cells #[.slice none 0 0] 26 (0, 0)) := row_g RA (World.grownBy_alloc _ _ none) (by simp)
    replace B : Below A w (u3.drew.alloc (.cells #[.int .i64 0, .int .i64 0] 2)) := B.alloc (by first | exact B.size | omega | (have := hs.lt; omega)) _
    replace hs : Src (u3.drew.alloc (.cells #[.int .i64 0, .int .i64 0] 2)) b a n cap := hs.alloc _
    replace hX : IntsX b (u3.drew.alloc (.cells #[.int .i64 0, .int .i64 0] 2)) ax T := hX.below (B := 0) ((Below.refl _ _).alloc (Nat.le_refl _) _)
    replace RX : (u3.drew.alloc (.cells #[.int .i64 0, .int .i64 0] 2)).heap[Xb]? = some (.cells #[.slice ax T.length cx] 26 (0, 0)) := row_g RX (World.grownBy_alloc _ _ none) (by simp)
    have hC : IntsX Xb (u3.drew.alloc (.cells #[.int .i64 0, .int .i64 0] 2)) (some ⟨u3.drew.heap.size, 0, none⟩) [0, 0] := ⟨ints_new _ [0, 0] _, fun g o e => by cases e; exact hXE⟩
    clear hXE
    refine hK.out _ _ (cell_of1' RX) (fun hHeld => ?_)
    clear hK K
    (try simp only [Act.put, List.setIfInBounds_toArray, List.set_cons_zero, List.set_cons_succ, List.getElem_toArray, List.getElem_cons_succ, List.getElem_cons_zero])
    refine wpAnyH_ready (rs := [2]) (by kernel_rfl) (by simp) ?_
    refine AllReadyH.cons rfl (fun K hK => ?_) AllReadyH.nil
    go_simp
    (go_at_call 58; refine (near_any b a n cap hn 3 (by omega) (u3.drew.alloc (.cells #[.int .i64 0, .int .i64 0] 2)) hs).mono ?_)
    have zlt := hs.lt
    rintro e u5 ⟨x, rfl, hx, hs', hg⟩
    replace RA : u5.heap[A]? = some (.cells #[.slice none 0 0] 26 (0, 0)) := row_g RA hg (by simp; omega)
    replace B : Below A w u5 := below_g B (by omega) hg (by omega)
    replace hX : IntsX b u5 ax T := hX.grownR hg (by intro g o e; have := hX.2 g o e; simp; omega)
    replace RX : u5.heap[Xb]? = some (.cells #[.slice ax T.length cx] 26 (0, 0)) := row_g RX hg (by simp; omega)
    replace hC : IntsX Xb u5 (some ⟨u3.drew.heap.size, 0, none⟩) [0, 0] := hC.grownR hg (by intro g o e; have := hC.2 g o e; simp; omega)
    replace hs := hs'
    clear hg zlt hs'
    refine hK.out _ _ (cell_of1' RX) (fun hHeld => ?_)
    clear hK K
    (try simp only [Act.put, List.setIfInBounds_toArray, List.set_cons_zero, List.set_cons_succ, List.getElem_toArray, List.getElem_cons_succ, List.getElem_cons_zero])
    refine wpAnyH_ready (rs := [4]) (by kernel_rfl) (by simp) ?_
    refine AllReadyH.cons rfl (fun K hK => ?_) AllReadyH.nil
    clear hs
    have xSt := cell_of1' RA
    have fSt := frozen_of_row u5 A 0 _ _ RA
    have zSt := row_lt RA
    go_simp
    replace RA : (u5.setCell ⟨A, 0, none⟩ (.slice ax T.length cx)).heap[A]? = some (.cells #[.slice ax T.length cx] 26 (0, 0)) := row_store1' _ RA
    replace B : Below A w (u5.setCell ⟨A, 0, none⟩ (.slice ax T.length cx)) := B.setCell (by first | (simp; done) | (simp; omega)) _
    replace hX : IntsX b (u5.setCell ⟨A, 0, none⟩ (.slice ax T.length cx)) ax T := hX.set _ _ (by intro g o e; have := hX.2 g o e; omega)
    replace RX : (u5.setCell ⟨A, 0, none⟩ (.slice ax T.length cx)).heap[Xb]? = some (.cells #[.slice ax T.length cx] 26 (0, 0)) := row_setO RX (by simp; omega) _
    replace hC : IntsX Xb (u5.setCell ⟨A, 0, none⟩ (.slice ax T.length cx)) (some ⟨u3.drew.heap.size, 0, none⟩) [0, 0] := hC.set _ _ (by intro g o e; have := hC.2 g o e; omega)
    clear xSt fSt zSt
    refine hK.out _ _ (cell_of1' RX) (fun hHeld => ?_)
    clear hK K
    (try simp only [Act.put, List.setIfInBounds_toArray, List.set_cons_zero, List.set_cons_succ, List.getElem_toArray, List.getElem_cons_succ, List.getElem_cons_zero])
    refine wpAnyH_take (i := 5) (v := ?_) rfl (by kernel_rfl) (by kernel_rfl) (by kernel_rfl) (fun _ _ _ h => h) (Or.inl ⟨by rfl, ?_⟩) (by assumption) ?_
    rotate_left
    · (intro w hSw; obtain hSw := hSw; (try dsimp only at hSw); go_simp; try (with_reducible rfl))
    (try simp only [Act.put, List.setIfInBounds_toArray, List.set_cons_zero, List.set_cons_succ, List.getElem_toArray, List.getElem_cons_succ, List.getElem_cons_zero])
    refine wpAnyH_take (i := 6) (v := ?_) rfl (by kernel_rfl) (by kernel_rfl) (by kernel_rfl) (fun _ _ _ h => h) (Or.inl ⟨by rfl, ?_⟩) (by assumption) ?_
    rotate_left
    · (intro w hSw; obtain hSw := hSw; (try dsimp only at hSw); go_simp; try (with_reducible rfl))
    (try simp only [Act.put, List.setIfInBounds_toArray, List.set_cons_zero, List.set_cons_succ, List.getElem_toArray, List.getElem_cons_succ, List.getElem_cons_zero])
    refine wpAnyH_done (by kernel_rfl) ?_ _
    (try simp only [Act.put, List.setIfInBounds_toArray, List.set_cons_zero, List.set_cons_succ, List.getElem_toArray, List.getElem_cons_succ, List.getElem_cons_zero])
    have xA := cell_of1' RA
    have zA := row_lt RA
    go_wp2_with fail
    refine bodyPost_ret (by rw [results_cell_tmp2w rfl]; go_simp; try rfl) rfl ?_
    exact ⟨ax, T, cx, x, _, [0, 0], 2, rfl, hX.1, (fun g o e => by have := hX.2 g o e; have := HA.out; omega), hT, hx, by simp, by decide, by simp, (by first | exact hC.1 | simpa using hC.1), (by have h1 := hC.2 _ _ rfl; have h2 := HA.out; (try simp at h1); (try simp); omega), by rw [← HA.out]; exact B⟩

set_option maxHeartbeats 8000000 in
theorem drawGu_any (a : Option Addr) (n cap : Nat) (hn : n ≤ 4096) (w : World) (hY : Byts w w.heap.size a n) :
    Calls Tryz.prog 17 #[.slice a n cap] w fun e w' => ∃ ax T cx y, e = .returned (.tuple #[.agg #[.slice ax T.length cx], .int .i64 y]) ∧ Ints w' ax T ∧ (∀ g o, ax = some ⟨g, o, none⟩ → w.heap.size ≤ g) ∧ T.length ≤ 8 ∧ (-9223372036854775808 ≤ y ∧ y ≤ 9223372036854775807) ∧ Below w.heap.size w w' := by
  obtain ⟨A, hA⟩ : ∃ A, A = w.heap.size := ⟨_, rfl⟩
  obtain ⟨W, hW⟩ : ∃ W, W = w.alloc (.cells #[.slice none 0 0] 26) := ⟨_, rfl⟩
  have zW : W.heap.size = A + 1 := by rw [hW, hA]; simp
  have RA0 : W.heap[A]? = some (.cells #[.slice none 0 0] 26 (0, 0)) := by rw [hW, hA]; exact heap_alloc_new w _
  have B0 : Below A w W := by rw [hW, hA]; exact (Below.refl _ w).alloc (Nat.le_refl _) _
  have hY0 : Byts W W.heap.size a n := by rw [zW]; exact ((hY.mono (by omega)).keep fun b o v hb h => by rw [hW]; exact kept_cell ((Below.refl w.heap.size w).alloc (Nat.le_refl _) _) h (by have := World.block_lt_of_cell? w _ h; exact this))
  have hc := l10Draw_any a n cap hn W hY0
  have HA := Lib.hid hA
  have HW := Lib.hid hW
  clear hA hW hY0
  go_enter Tryz.func17, Tryz.ntmps17
  go_wp2_with fail
  rw [← HW.out, ← HA.out]
  refine hc.mono ?_
  rintro e w1 ⟨ax, T, cx, y, rfl, hI, hax, hT, hy, hb1⟩
  have RA1 := row_g RA0 (grown_of_below hb1 none) (by simp)
  have B1 : Below A w w1 := B0.trans (hb1.mono (by omega))
  have hax' : ∀ g o, ax = some ⟨g, o, none⟩ → A + 1 ≤ g := fun g o e => by have := hax g o e; omega
  have hAx : ∀ g o, ax = some ⟨g, o, none⟩ → g ≠ A := fun g o e => by have := hax' g o e; omega
  clear hc hb1 RA0 B0 hax zW
  have xA := cell_of1' RA1
  have fA := frozen_of_row w1 A 0 _ _ RA1
  have zA := row_lt RA1
  have HIe : Ints (w1.setCell ⟨A, 0, none⟩ (.slice ax T.length cx)) ax T := ints_setA hI hAx
  have Be : Below A w (w1.setCell ⟨A, 0, none⟩ (.slice ax T.length cx)) := B1.setCell (by simp) _
  go_wp2_with fail
  refine bodyPost_ret (by rw [results_cell_tmp1a rfl]; go_simp; try rfl) rfl ?_
  exact ⟨ax, T, cx, y, rfl, HIe, (fun g o e => by have := hax' g o e; have := HA.out; omega), hT, hy, by rw [← HA.out]; exact Be⟩

end Go.Proofs.YtpmfedllbiblbaaGreat
