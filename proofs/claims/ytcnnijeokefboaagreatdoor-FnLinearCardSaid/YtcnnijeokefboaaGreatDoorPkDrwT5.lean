/-
  The draws of chapter 5 from bytes. By an AI agent.
-/
import Derived.Test.YtcnnijeokefboaaGreatDoorPkDrwS5
import Derived.Test.YtcnnijeokefboaaGreatDoorPkSpnS
namespace Go.Proofs.YtcnnijeokefboaaGreatDoor
open Go.RowKit Cv
set_option linter.unusedVariables false
set_option linter.unusedSimpArgs false
set_option maxRecDepth 100000

theorem own_cap05 {w : World} {base n cap : Nat} {a : Option Addr} {T : List Int} (h : OwnInts w base (.slice a n cap) T) (e : a = none) : cap = 0 := by
  subst e
  rcases h.2 with ⟨hv, _⟩ | ⟨g', _, _, hv, _⟩
  · simp only [Value.slice.injEq] at hv; exact hv.2.2
  · simp at hv
theorem own_some5 {w : World} {base n c : Nat} {a : Option Addr} {T : List Int} (h : OwnInts w base (.slice a n c) T) (h0 : 0 < T.length) : ∃ g, a = some ⟨g, 0, none⟩ := by
  rcases h.2 with ⟨hv, hl⟩ | ⟨g', cap', cur, hv, _⟩
  · simp at hl; simp [hl] at h0
  · simp only [Value.slice.injEq] at hv; exact ⟨g', hv.1⟩
theorem results_cell_tmp15 {fn : Func} {p u1 : Tmp} {ty : TypeId} (h : fn.results = #[.cell p ty, .tmp u1]) (tmps : Array Value) (P : Program) (w : World) :
    (results fn tmps).run P w =
      ((asAddr (tmps.getD p undef)).run P w).andThen fun a w₁ => ((loadVar ty a).run P w₁).andThen fun v w₂ => .ok (.tuple #[v, tmps.getD u1 undef]) w₂ := by
  simp only [results, h]
  simp [Sem.run_bind, Result.andThen]

set_option maxHeartbeats 8000000 in
theorem draw5_any (b : Nat) (a : Option Addr) (n cap : Nat) (hn : n ≤ 4096) (w : World) (hs : Src w b a n cap) :
    Calls Tryz.prog 81 #[.pointer (some ⟨b, 0, none⟩)] w fun e w' => ∃ x S c aC C cC, e = .returned (.tuple #[.agg #[.slice x S.length c], .slice aC C.length cC]) ∧ IntsX w.heap.size w' x S ∧ Sp S ∧ IntsX w.heap.size w' aC C ∧ (aC = none → cC = 0) ∧ C.length ≤ 1048576 ∧ Src w' b a n cap ∧ w.grownBy w' (some b) := by
  have hbl := hs.lt
  have G := World.grownBy.refl w (some b)
  obtain ⟨A, hA⟩ : ∃ z, z = w.heap.size := ⟨_, rfl⟩
  obtain ⟨u1, hu1⟩ : ∃ z, z = w.alloc (.cells #[.slice none 0 0] 26) := ⟨_, rfl⟩
  have RA : u1.heap[A]? = some (.cells #[.slice none 0 0] 26 (0, 0)) := by rw [hu1, hA]; exact heap_alloc_new _ _
  replace hs : Src u1 b a n cap := by rw [hu1]; exact hs.alloc _
  replace G : w.grownBy u1 (some b) := by rw [hu1]; exact grown_alloc G _
  have HA := Lib.hid hA
  have Hu1 := Lib.hid hu1
  have hAb : b < A := by rw [hA]; exact hbl
  clear hA hu1 hbl
  go_enter Tryz.func81, Tryz.ntmps81
  have hc := space5_any b a n cap hn u1 hs
  have zlt := hs.lt
  have zsz := row_lt RA
  go_wp2_with fail
  rw [← Hu1.out, ← HA.out]
  refine hc.mono ?_
  rintro e u2 ⟨x, S, c, rfl, hX, hSp, hs', hg⟩
  replace hX := hX.lower (b := A) (by omega)
  replace G : w.grownBy u2 (some b) := grown_trans G hg
  replace RA : u2.heap[A]? = some (.cells #[.slice none 0 0] 26 (0, 0)) := row_g RA hg (by simp; omega)
  replace hs := hs'
  clear hc hg hs' zlt zsz
  have hAl := row_lt RA
  have hbl2 := hs.lt
  obtain ⟨Xb, hXb⟩ : ∃ z, z = u2.heap.size := ⟨_, rfl⟩
  obtain ⟨u3, hu3⟩ : ∃ z, z = u2.alloc (.cells #[.slice x S.length c] 26) := ⟨_, rfl⟩
  have RX : u3.heap[Xb]? = some (.cells #[.slice x S.length c] 26 (0, 0)) := by rw [hu3, hXb]; exact heap_alloc_new _ _
  replace hs : Src u3 b a n cap := by rw [hu3]; exact hs.alloc _
  replace G : w.grownBy u3 (some b) := by rw [hu3]; exact grown_alloc G _
  replace RA : u3.heap[A]? = some (.cells #[.slice none 0 0] 26 (0, 0)) := by rw [hu3]; exact row_g RA (World.grownBy_alloc _ _ none) (by simp)
  replace hX : IntsX A u3 x S := by rw [hu3]; exact hX.below (B := 0) ((Below.refl _ _).alloc (Nat.le_refl _) _)
  have HXb := Lib.hid hXb
  have Hu3 := Lib.hid hu3
  have hAX : A < Xb := by rw [hXb]; exact hAl
  have hbX : b < Xb := by rw [hXb]; exact hbl2
  clear hXb hu3 hAl hbl2
  have S8 := hSp.hi
  have xX := cell_of1' RX
  have hc := l05Plain_any x S c (by omega) u3 hX.1
  go_wp2_with fail
  rw [← Hu3.out, ← HXb.out]
  refine hc.mono ?_
  rintro e u4 ⟨rfl, hb⟩
  replace hs : Src u4 b a n cap := hs.below hb hs.lt
  replace G : w.grownBy u4 (some b) := grown_trans G (grown_of_below hb _)
  replace RA : u4.heap[A]? = some (.cells #[.slice none 0 0] 26 (0, 0)) := row_g RA (grown_of_below hb none) (by simp)
  replace hX : IntsX A u4 x S := hX.below (B := 0) hb
  replace RX : u4.heap[Xb]? = some (.cells #[.slice x S.length c] 26 (0, 0)) := row_g RX (grown_of_below hb none) (by simp)
  clear hc hb xX
  have xX := cell_of1' RX
  cases hp : isPl S with
  | true =>
    have hP := pl_of hSp hp
    obtain ⟨N1, N2⟩ := nW_bd hSp
    clear hp xX
    go_wp2_with fail
    refine wp_region_held_drew (S := fun w' => w'.cell? ⟨Xb, 0, none⟩ = some (.slice x S.length c)) (by kernel_rfl) (cell_of1' RX) (fun hHeld => ?_)
    refine wpAnyH_take (i := 0) (v := ?_) rfl (by kernel_rfl) (by kernel_rfl) (by kernel_rfl) (fun _ _ _ h => h) (Or.inl ⟨by rfl, ?_⟩) (by assumption) ?_
    rotate_left
    · (intro w hSw; obtain hSw := hSw; (try dsimp only at hSw); go_simp; try (with_reducible rfl))
    (try simp only [Act.put, List.setIfInBounds_toArray, List.set_cons_zero, List.set_cons_succ, List.getElem_toArray, List.getElem_cons_succ, List.getElem_cons_zero])
    refine wpAnyH_take (i := 1) (v := ?_) rfl (by kernel_rfl) (by kernel_rfl) (by kernel_rfl) (fun _ _ _ h => h) (Or.inl ⟨by rfl, ?_⟩) (by assumption) ?_
    rotate_left
    · (intro w hSw; obtain hSw := hSw; (try dsimp only at hSw); go_simp; try (with_reducible rfl))
    (try simp only [Act.put, List.setIfInBounds_toArray, List.set_cons_zero, List.set_cons_succ, List.getElem_toArray, List.getElem_cons_succ, List.getElem_cons_zero])
    refine wpAnyH_take (i := 2) (v := ?_) rfl (by kernel_rfl) (by kernel_rfl) (by kernel_rfl) (fun _ _ _ h => h) (Or.inl ⟨by rfl, ?_⟩) (by assumption) ?_
    rotate_left
    · (intro w hSw; obtain hSw := hSw; (try dsimp only at hSw); go_simp; try (with_reducible rfl))
    (try simp only [Act.put, List.setIfInBounds_toArray, List.set_cons_zero, List.set_cons_succ, List.getElem_toArray, List.getElem_cons_succ, List.getElem_cons_zero])
    replace hs : Src u4.drew b a n cap := hs.drewN 1
    replace G : w.grownBy u4.drew (some b) := grown_drewN G 1
    replace RA : u4.drew.heap[A]? = some (.cells #[.slice none 0 0] 26 (0, 0)) := RA
    replace hX : IntsX A u4.drew x S := hX
    replace RX : u4.drew.heap[Xb]? = some (.cells #[.slice x S.length c] 26 (0, 0)) := RX
    refine wpAnyH_ready (rs := [3]) (by kernel_rfl) (by simp) ?_
    refine AllReadyH.cons rfl (fun K hK => ?_) AllReadyH.nil
    have hXl := hX.lower (b := b) (by omega)
    have zU := hs.lt
    go_simp
    (go_at_call 44; refine (some5_any b a n cap hn x S c hSp u4.drew hs hXl).mono ?_)
    have zlt := hs.lt
    rintro e u5 ⟨gL, cL, L, rfl, oL, hL5, hLw, hs', hg⟩
    replace G : w.grownBy u5 (some b) := grown_trans G hg
    replace RA : u5.heap[A]? = some (.cells #[.slice none 0 0] 26 (0, 0)) := row_g RA hg (by simp; omega)
    replace hX : IntsX A u5 x S := hX.grownR hg (by intro g o e; have := hX.2 g o e; simp; omega)
    replace RX : u5.heap[Xb]? = some (.cells #[.slice x S.length c] 26 (0, 0)) := row_g RX hg (by simp; omega)
    replace hs := hs'
    clear hg zlt hs'
    have hL := own_ints oL
    have zgL : u4.drew.heap.size ≤ gL := ownBlock_ge5 oL rfl
    clear oL hXl
    replace hL : IntsX b u5 (some ⟨gL, 0, none⟩) L := ⟨hL, fun g o e => by cases e; omega⟩
    clear zU zgL
    refine hK.out _ _ (cell_of1' RX) (fun hHeld => ?_)
    clear hK K
    (try simp only [Act.put, List.setIfInBounds_toArray, List.set_cons_zero, List.set_cons_succ, List.getElem_toArray, List.getElem_cons_succ, List.getElem_cons_zero])
    refine wpAnyH_ready (rs := [4]) (by kernel_rfl) (by simp) ?_
    refine AllReadyH.cons rfl (fun K hK => ?_) AllReadyH.nil
    have zA0 := row_lt RA
    go_simp
    (go_at_call 52; refine (l05Span_any x S c hP (some ⟨gL, 0, none⟩) L cL (by omega) hLw u5 hX.1 hL.1).mono ?_)
    rintro e u6 ⟨vC, rfl, oC, hb⟩
    replace hs : Src u6 b a n cap := hs.below hb hs.lt
    replace G : w.grownBy u6 (some b) := grown_trans G (grown_of_below hb _)
    replace RA : u6.heap[A]? = some (.cells #[.slice none 0 0] 26 (0, 0)) := row_g RA (grown_of_below hb none) (by simp)
    replace hX : IntsX A u6 x S := hX.below (B := 0) hb
    replace RX : u6.heap[Xb]? = some (.cells #[.slice x S.length c] 26 (0, 0)) := row_g RX (grown_of_below hb none) (by simp)
    replace hL : IntsX b u6 (some ⟨gL, 0, none⟩) L := hL.below (B := 0) hb
    clear hb
    have gp := gp_to hP hLw L.length (Nat.le_refl _)
    have hC0 : 0 < (sorted (spTo S L L.length)).length := by rw [sorted_len]; exact List.length_pos_of_mem gp.zero
    have hl : (sorted (spTo S L L.length)).length ≤ 1024 := by rw [sorted_len]; exact (spTo_len hP hLw _ (Nat.le_refl _)).2
    obtain ⟨C, hCe⟩ : ∃ C, C = sorted (spTo S L L.length) := ⟨_, rfl⟩
    rw [← hCe] at oC hC0 hl
    obtain ⟨aC, cC, hvC⟩ := own_shp oC
    subst hvC
    obtain ⟨gC, rfl⟩ := own_some5 oC hC0
    obtain ⟨zb, hzb⟩ : ∃ z, z = u5.heap.size := ⟨_, rfl⟩
    rw [← hzb] at oC zA0
    have hAz := zA0
    have zgC : zb ≤ gC := ownBlock_ge5 oC rfl
    have hbz : b < zb := by omega
    clear hCe gp hzb zA0 hL hLw hL5 hC0
    refine hK.out _ _ (cell_of1' RX) (fun hHeld => ?_)
    clear hK K
    (try simp only [Act.put, List.setIfInBounds_toArray, List.set_cons_zero, List.set_cons_succ, List.getElem_toArray, List.getElem_cons_succ, List.getElem_cons_zero])
    refine wpAnyH_take (i := 5) (v := ?_) rfl (by kernel_rfl) (by kernel_rfl) (by kernel_rfl) (fun _ _ _ h => h) (Or.inl ⟨by rfl, ?_⟩) (by assumption) ?_
    rotate_left
    · (intro w hSw; obtain hSw := hSw; (try dsimp only at hSw); go_simp; try (with_reducible rfl))
    (try simp only [Act.put, List.setIfInBounds_toArray, List.set_cons_zero, List.set_cons_succ, List.getElem_toArray, List.getElem_cons_succ, List.getElem_cons_zero])
    refine wpAnyH_done (by kernel_rfl) ?_ _
    (try simp only [Act.put, List.setIfInBounds_toArray, List.set_cons_zero, List.set_cons_succ, List.getElem_toArray, List.getElem_cons_succ, List.getElem_cons_zero])
    have xX := cell_of1' RX
    have zlt := hs.lt
    have hnx := next_any b a n cap hn 12 (by omega) u6 hs
    go_wp2_with fail
    refine hnx.mono ?_
    rintro e u7 ⟨q, rfl, q0, q1, q2, hs', hg⟩
    replace G : w.grownBy u7 (some b) := grown_trans G hg
    replace RA : u7.heap[A]? = some (.cells #[.slice none 0 0] 26 (0, 0)) := row_g RA hg (by simp; omega)
    replace hX : IntsX A u7 x S := hX.grownR hg (by intro g o e; have := hX.2 g o e; simp; omega)
    replace RX : u7.heap[Xb]? = some (.cells #[.slice x S.length c] 26 (0, 0)) := row_g RX hg (by simp; omega)
    replace oC : OwnInts u7 zb (.slice (some ⟨gC, 0, none⟩) C.length cC) C := oC.kept hg (.inr (by simp [Value.ownBlock]; omega))
    replace hs := hs'
    clear hnx hg hs' zlt q0 q1 q2 xX
    have xX := cell_of1' RX
    by_cases hq0 : q = 0
    · have e0 : (q == 0) = true := by simpa using hq0
      clear hq0
      clear oC hl
      have hXl := hX.lower (b := b) (by omega)
      have zlt := hs.lt
      have zA0 := row_lt RA
      have hc := drawCode_any b a n cap hn x S c hSp u7 hs hXl
      go_wp2_with fail
      refine hc.mono ?_
      rintro e u8 ⟨vC, C2, rfl, oC, hCL, hs', hg⟩
      obtain ⟨a2, c2, hvC⟩ := own_shp oC
      subst hvC
      have hl : C2.length ≤ 1024 := hCL.2
      replace G : w.grownBy u8 (some b) := grown_trans G hg
      replace RA : u8.heap[A]? = some (.cells #[.slice none 0 0] 26 (0, 0)) := row_g RA hg (by simp; omega)
      replace hX : IntsX A u8 x S := hX.grownR hg (by intro g o e; have := hX.2 g o e; simp; omega)
      replace RX : u8.heap[Xb]? = some (.cells #[.slice x S.length c] 26 (0, 0)) := row_g RX hg (by simp; omega)
      replace hs := hs'
      clear hc hg hs' zlt hXl hCL xX
      have xX := cell_of1' RX
      have hC := intsX_own (b := A) oC (by omega)
      have hcap := own_cap05 oC
      have hl' : C2.length ≤ 1048576 := by omega
      clear oC
      have xA := cell_of1' RA
      have fA := frozen_of_row u8 A 0 _ _ RA
      have zA := row_lt RA
      have nX : ∀ g o, x = some ⟨g, o, none⟩ → g ≠ A := fun g o e => by have := hX.2 g o e; omega
      have nC : ∀ g o, (a2 : Option Addr) = some ⟨g, o, none⟩ → g ≠ A := fun g o e => by have := hC.2 g o e; omega
      have IXe := hX.set A (.slice x S.length c) nX
      have ICe := hC.set A (.slice x S.length c) nC
      have hse := hs.setO ⟨A, 0, none⟩ (by simp; omega) (.slice x S.length c)
      have Ge := grown_set G ⟨A, 0, none⟩ (by simp; have := HA.out; omega) (.slice x S.length c)
      go_wp2_with fail
      refine bodyPost_ret (by rw [results_cell_tmp15 rfl]; go_simp; try rfl) rfl ?_
      exact ⟨x, S, c, a2, C2, c2, rfl, by rw [← HA.out]; exact IXe, hSp, by rw [← HA.out]; exact ICe, hcap, hl', hse, Ge⟩
    · have e0 : (q == 0) = false := by simpa using hq0
      clear hq0
      by_cases hq1 : q = 1
      · have e0 : (q == 1) = true := by simpa using hq1
        clear hq1
        have hN := l01N_any x S c u7 hSp.hi hSp.bd hX.1
        unfold nW at N1 N2
        go_wp2_with fail
        refine hN.mono ?_
        rintro e u8 ⟨rfl, hb⟩
        replace hs : Src u8 b a n cap := hs.below hb hs.lt
        replace G : w.grownBy u8 (some b) := grown_trans G (grown_of_below hb _)
        replace RA : u8.heap[A]? = some (.cells #[.slice none 0 0] 26 (0, 0)) := row_g RA (grown_of_below hb none) (by simp)
        replace hX : IntsX A u8 x S := hX.below (B := 0) hb
        replace RX : u8.heap[Xb]? = some (.cells #[.slice x S.length c] 26 (0, 0)) := row_g RX (grown_of_below hb none) (by simp)
        replace oC : OwnInts u8 zb (.slice (some ⟨gC, 0, none⟩) C.length cC) C := oC.below hb
        clear hN hb xX
        have zlt := hs.lt
        have hnx := next_any b a n cap hn (prodTo S S.length) (by omega) u8 hs
        go_wp2_with fail
        refine hnx.mono ?_
        rintro e u9 ⟨y, rfl, y0, y1, y2, hs', hg⟩
        replace G : w.grownBy u9 (some b) := grown_trans G hg
        replace RA : u9.heap[A]? = some (.cells #[.slice none 0 0] 26 (0, 0)) := row_g RA hg (by simp; omega)
        replace hX : IntsX A u9 x S := hX.grownR hg (by intro g o e; have := hX.2 g o e; simp; omega)
        replace RX : u9.heap[Xb]? = some (.cells #[.slice x S.length c] 26 (0, 0)) := row_g RX hg (by simp; omega)
        replace oC : OwnInts u9 zb (.slice (some ⟨gC, 0, none⟩) C.length cC) C := oC.kept hg (.inr (by simp [Value.ownBlock]; omega))
        replace hs := hs'
        clear hnx hg hs' zlt
        have hc := l01Put_any zb gC cC C y u9 (by omega) oC
        have hpl := (putL_len C y).2
        go_wp2_with fail
        refine hc.mono ?_
        rintro e u10 ⟨gP, cP, rfl, oP, hb⟩
        replace hs : Src u10 b a n cap := hs.below hb hs.lt
        replace G : w.grownBy u10 (some b) := grown_trans G (grown_of_below hb _)
        replace RA : u10.heap[A]? = some (.cells #[.slice none 0 0] 26 (0, 0)) := row_g RA (grown_of_below hb none) (by simp)
        replace hX : IntsX A u10 x S := hX.below (B := 0) hb
        replace RX : u10.heap[Xb]? = some (.cells #[.slice x S.length c] 26 (0, 0)) := row_g RX (grown_of_below hb none) (by simp)
        obtain ⟨P, hPe⟩ : ∃ P, P = putL C y := ⟨_, rfl⟩
        rw [← hPe] at oP hpl ⊢
        clear oC
        have oC := oP
        have hl2 : P.length ≤ 1025 := by omega
        clear hc hb oP hPe hpl
        have xX := cell_of1' RX
        have hC := intsX_own (b := A) oC (by omega)
        have hcap := own_cap05 oC
        have hl' : P.length ≤ 1048576 := by omega
        clear oC
        have xA := cell_of1' RA
        have fA := frozen_of_row u10 A 0 _ _ RA
        have zA := row_lt RA
        have nX : ∀ g o, x = some ⟨g, o, none⟩ → g ≠ A := fun g o e => by have := hX.2 g o e; omega
        have nC : ∀ g o, ((some ⟨gP, 0, none⟩) : Option Addr) = some ⟨g, o, none⟩ → g ≠ A := fun g o e => by have := hC.2 g o e; omega
        have IXe := hX.set A (.slice x S.length c) nX
        have ICe := hC.set A (.slice x S.length c) nC
        have hse := hs.setO ⟨A, 0, none⟩ (by simp; omega) (.slice x S.length c)
        have Ge := grown_set G ⟨A, 0, none⟩ (by simp; have := HA.out; omega) (.slice x S.length c)
        go_wp2_with fail
        refine bodyPost_ret (by rw [results_cell_tmp15 rfl]; go_simp; try rfl) rfl ?_
        exact ⟨x, S, c, (some ⟨gP, 0, none⟩), P, cP, rfl, by rw [← HA.out]; exact IXe, hSp, by rw [← HA.out]; exact ICe, hcap, hl', hse, Ge⟩
      · have e1 : (q == 1) = false := by simpa using hq1
        clear hq1
        have hC := intsX_own (b := A) oC (by omega)
        have hcap := own_cap05 oC
        have hl' : C.length ≤ 1048576 := by omega
        clear oC
        have xA := cell_of1' RA
        have fA := frozen_of_row u7 A 0 _ _ RA
        have zA := row_lt RA
        have nX : ∀ g o, x = some ⟨g, o, none⟩ → g ≠ A := fun g o e => by have := hX.2 g o e; omega
        have nC : ∀ g o, ((some ⟨gC, 0, none⟩) : Option Addr) = some ⟨g, o, none⟩ → g ≠ A := fun g o e => by have := hC.2 g o e; omega
        have IXe := hX.set A (.slice x S.length c) nX
        have ICe := hC.set A (.slice x S.length c) nC
        have hse := hs.setO ⟨A, 0, none⟩ (by simp; omega) (.slice x S.length c)
        have Ge := grown_set G ⟨A, 0, none⟩ (by simp; have := HA.out; omega) (.slice x S.length c)
        go_wp2_with fail
        refine bodyPost_ret (by rw [results_cell_tmp15 rfl]; go_simp; try rfl) rfl ?_
        exact ⟨x, S, c, (some ⟨gC, 0, none⟩), C, cC, rfl, by rw [← HA.out]; exact IXe, hSp, by rw [← HA.out]; exact ICe, hcap, hl', hse, Ge⟩
  | false =>
    clear xX
    go_wp2_with fail
    refine wp_region_held_drew (S := fun w' => w'.cell? ⟨Xb, 0, none⟩ = some (.slice x S.length c)) (by kernel_rfl) (cell_of1' RX) (fun hHeld => ?_)
    refine wpAnyH_take (i := 0) (v := ?_) rfl (by kernel_rfl) (by kernel_rfl) (by kernel_rfl) (fun _ _ _ h => h) (Or.inl ⟨by rfl, ?_⟩) (by assumption) ?_
    rotate_left
    · (intro w hSw; obtain hSw := hSw; (try dsimp only at hSw); go_simp; try (with_reducible rfl))
    (try simp only [Act.put, List.setIfInBounds_toArray, List.set_cons_zero, List.set_cons_succ, List.getElem_toArray, List.getElem_cons_succ, List.getElem_cons_zero])
    refine wpAnyH_take (i := 1) (v := ?_) rfl (by kernel_rfl) (by kernel_rfl) (by kernel_rfl) (fun _ _ _ h => h) (Or.inl ⟨by rfl, ?_⟩) (by assumption) ?_
    rotate_left
    · (intro w hSw; obtain hSw := hSw; (try dsimp only at hSw); go_simp; try (with_reducible rfl))
    (try simp only [Act.put, List.setIfInBounds_toArray, List.set_cons_zero, List.set_cons_succ, List.getElem_toArray, List.getElem_cons_succ, List.getElem_cons_zero])
    refine wpAnyH_take (i := 2) (v := ?_) rfl (by kernel_rfl) (by kernel_rfl) (by kernel_rfl) (fun _ _ _ h => h) (Or.inl ⟨by rfl, ?_⟩) (by assumption) ?_
    rotate_left
    · (intro w hSw; obtain hSw := hSw; (try dsimp only at hSw); go_simp; try (with_reducible rfl))
    (try simp only [Act.put, List.setIfInBounds_toArray, List.set_cons_zero, List.set_cons_succ, List.getElem_toArray, List.getElem_cons_succ, List.getElem_cons_zero])
    replace hs : Src u4.drew b a n cap := hs.drewN 1
    replace G : w.grownBy u4.drew (some b) := grown_drewN G 1
    replace RA : u4.drew.heap[A]? = some (.cells #[.slice none 0 0] 26 (0, 0)) := RA
    replace hX : IntsX A u4.drew x S := hX
    replace RX : u4.drew.heap[Xb]? = some (.cells #[.slice x S.length c] 26 (0, 0)) := RX
    refine wpAnyH_ready (rs := [3]) (by kernel_rfl) (by simp) ?_
    refine AllReadyH.cons rfl (fun K hK => ?_) AllReadyH.nil
    have hXl := hX.lower (b := b) (by omega)
    have zA0 := row_lt RA
    go_simp
    (go_at_call 122; refine (drawCode_any b a n cap hn x S c hSp u4.drew hs hXl).mono ?_)
    have zlt := hs.lt
    rintro e u5 ⟨vC, C, rfl, oC, hCL, hs', hg⟩
    replace G : w.grownBy u5 (some b) := grown_trans G hg
    replace RA : u5.heap[A]? = some (.cells #[.slice none 0 0] 26 (0, 0)) := row_g RA hg (by simp; omega)
    replace hX : IntsX A u5 x S := hX.grownR hg (by intro g o e; have := hX.2 g o e; simp; omega)
    replace RX : u5.heap[Xb]? = some (.cells #[.slice x S.length c] 26 (0, 0)) := row_g RX hg (by simp; omega)
    replace hs := hs'
    clear hg zlt hs'
    obtain ⟨aC, cC, hvC⟩ := own_shp oC
    subst hvC
    have hC := intsX_own (b := A) oC zA0
    have hcap := own_cap05 oC
    have hl : C.length ≤ 1048576 := by have := hCL.2; omega
    clear hXl zA0 oC hCL
    refine hK.out _ _ (cell_of1' RX) (fun hHeld => ?_)
    clear hK K
    (try simp only [Act.put, List.setIfInBounds_toArray, List.set_cons_zero, List.set_cons_succ, List.getElem_toArray, List.getElem_cons_succ, List.getElem_cons_zero])
    refine wpAnyH_ready (rs := [4]) (by kernel_rfl) (by simp) ?_
    refine AllReadyH.cons rfl (fun K hK => ?_) AllReadyH.nil
    have xSt := cell_of1' RA
    have fSt := frozen_of_row u5 A 0 _ _ RA
    have zSt := row_lt RA
    go_simp
    replace hs : Src (u5.setCell ⟨A, 0, none⟩ (.slice x S.length c)) b a n cap := hs.setO _ (by simp; omega) _
    replace G : w.grownBy (u5.setCell ⟨A, 0, none⟩ (.slice x S.length c)) (some b) := grown_set G _ (by simp; have := HA.out; omega) _
    replace RA : (u5.setCell ⟨A, 0, none⟩ (.slice x S.length c)).heap[A]? = some (.cells #[.slice x S.length c] 26 (0, 0)) := row_store1' _ RA
    replace hX : IntsX A (u5.setCell ⟨A, 0, none⟩ (.slice x S.length c)) x S := hX.set _ _ (by intro g o e; have := hX.2 g o e; omega)
    replace RX : (u5.setCell ⟨A, 0, none⟩ (.slice x S.length c)).heap[Xb]? = some (.cells #[.slice x S.length c] 26 (0, 0)) := row_setO RX (by simp; omega) _
    replace hC : IntsX A (u5.setCell ⟨A, 0, none⟩ (.slice x S.length c)) aC C := hC.set _ _ (by intro g o e; have := hC.2 g o e; omega)
    clear xSt fSt zSt
    refine hK.out _ _ (cell_of1' RX) (fun hHeld => ?_)
    clear hK K
    (try simp only [Act.put, List.setIfInBounds_toArray, List.set_cons_zero, List.set_cons_succ, List.getElem_toArray, List.getElem_cons_succ, List.getElem_cons_zero])
    refine wpAnyH_take (i := 5) (v := ?_) rfl (by kernel_rfl) (by kernel_rfl) (by kernel_rfl) (fun _ _ _ h => h) (Or.inl ⟨by rfl, ?_⟩) (by assumption) ?_
    rotate_left
    · (intro w hSw; obtain hSw := hSw; (try dsimp only at hSw); go_simp; try (with_reducible rfl))
    (try simp only [Act.put, List.setIfInBounds_toArray, List.set_cons_zero, List.set_cons_succ, List.getElem_toArray, List.getElem_cons_succ, List.getElem_cons_zero])
    refine wpAnyH_done (by kernel_rfl) ?_ _
    (try simp only [Act.put, List.setIfInBounds_toArray, List.set_cons_zero, List.set_cons_succ, List.getElem_toArray, List.getElem_cons_succ, List.getElem_cons_zero])
    have xA := cell_of1' RA
    have zA := row_lt RA
    go_wp2_with fail
    refine bodyPost_ret (by rw [results_cell_tmp15 rfl]; go_simp; try rfl) rfl ?_
    exact ⟨x, S, c, aC, C, cC, rfl, by rw [← HA.out]; exact hX, hSp, by rw [← HA.out]; exact hC, hcap, hl, hs, G⟩

end Go.Proofs.YtcnnijeokefboaaGreatDoor
