/-
  The contracts of the model's drawn spaces, and of what seldom is none. By an AI agent.
-/
import Derived.Test.YtamebfbddoeflaaPkDrw
import Derived.Test.YtamebfbddoeflaaPkPut
import Derived.Deep.RegionHeld3
namespace Go.Proofs.Ytamebfbddoeflaa
open Go.RowKit Cv
set_option linter.unusedVariables false
set_option linter.unusedSimpArgs false
set_option maxRecDepth 100000

/-- the length of the slice in a cell -/
def lenAt (w : World) (a : Addr) : Nat := match w.cell? a with
  | some (.slice _ n _) => n
  | _ => 0
/-- the numbers S lie at ao, behind the block b -/
def IntsX (b : Nat) (w : World) (ao : Option Addr) (S : List Int) : Prop := Ints w ao S ∧ ∀ g o, ao = some ⟨g, o, none⟩ → b < g
theorem IntsX.below {b B : Nat} {w w' : World} {ao : Option Addr} {S : List Int} (h : IntsX b w ao S) (hb : Below w.heap.size w w') : IntsX b w' ao S := ⟨h.1.below hb, h.2⟩
theorem IntsX.grown {b : Nat} {w w' : World} {ao : Option Addr} {S : List Int} (h : IntsX b w ao S) (hg : w.grownBy w' (some b)) : IntsX b w' ao S := by
  obtain ⟨h1, h2⟩ := h
  refine ⟨?_, h2⟩
  rcases h1 with h | ⟨g, o, rfl, hlt, hc⟩
  · exact .inl h
  · have := h2 g o rfl
    exact .inr ⟨g, o, rfl, Nat.lt_of_lt_of_le hlt hg.size, fun i hi => grown_cell hg (hc i hi) (by omega)⟩
theorem intsX_own {b base : Nat} {w : World} {a : Option Addr} {n cap : Nat} {S : List Int} (h : OwnInts w base (.slice a n cap) S) (hb : b < base) : IntsX b w a S := by
  refine ⟨own_ints h, fun g o e => ?_⟩
  subst e
  rcases h.2 with ⟨hv, _⟩ | ⟨g', _, _, hv, hg, _⟩
  · simp at hv
  · simp only [Value.slice.injEq, Option.some.injEq, Addr.mk.injEq] at hv; omega
theorem IntsX.set {b : Nat} {w : World} {ao : Option Addr} {S : List Int} (h : IntsX b w ao S) (p : Nat) (u : Value) (hp : ∀ g o, ao = some ⟨g, o, none⟩ → g ≠ p) : IntsX b (w.setCell ⟨p, 0, none⟩ u) ao S := by
  obtain ⟨h1, h2⟩ := h
  refine ⟨?_, h2⟩
  rcases h1 with h | ⟨g, o, rfl, hlt, hc⟩
  · exact .inl h
  · exact .inr ⟨g, o, rfl, by simpa using hlt, fun i hi => cell_set_other (hc i hi) (hp g o rfl)⟩

set_option maxHeartbeats 4000000 in
theorem bad_any (b : Nat) (a : Option Addr) (n cap : Nat) (hn : n ≤ 4096) (ao : Option Addr) (S : List Int) (capS : Nat) (hSp : Sp S) (w : World) (hs : Src w b a n cap) (hX : IntsX b w ao S) :
    Calls Try.prog 23 #[.pointer (some ⟨b, 0, none⟩), .agg #[.slice ao S.length capS]] w fun e w' => ∃ ax T cx, e = .returned (.agg #[.slice ax T.length cx]) ∧ IntsX b w' ax T ∧ T.length ≤ 8 ∧ Src w' b a n cap ∧ w.grownBy w' (some b) := by
  have hbl := hs.lt
  obtain ⟨s1, s8⟩ := And.intro hSp.lo hSp.hi
  obtain ⟨A, hA⟩ : ∃ A, A = w.heap.size := ⟨_, rfl⟩
  obtain ⟨W2, hW2⟩ : ∃ W2, W2 = (w.alloc (.cells #[.slice ao S.length capS] 26)).alloc (.cells #[.slice none 0 0] 26) := ⟨_, rfl⟩
  have hs2 : Src W2 b a n cap := by rw [hW2]; exact (hs.alloc _).alloc _
  have hG2 : w.grownBy W2 (some b) := by rw [hW2]; exact grown_alloc (grown_alloc (World.grownBy.refl w _) _) _
  have zW : W2.heap.size = A + 2 := by rw [hW2, hA]; simp
  have RA2 : W2.heap[A]? = some (.cells #[.slice ao S.length capS] 26 (0, 0)) := by
    rw [hW2, hA]; exact row_g (heap_alloc_new w _) (World.grownBy_alloc _ _ none) (by simp)
  have RR2 : W2.heap[A + 1]? = some (.cells #[.slice none 0 0] 26 (0, 0)) := by
    have e : (w.alloc (.cells #[.slice ao S.length capS] 26)).heap.size = A + 1 := by rw [hA]; simp
    rw [hW2, ← e]; exact heap_alloc_new _ _
  have hX2 : IntsX b W2 ao S := by rw [hW2]; exact (hX.below (B := 0) ((Below.refl _ _).alloc (Nat.le_refl _) _)).below (B := 0) ((Below.refl _ _).alloc (Nat.le_refl _) _)
  have hXA : Hid (∀ g o, ao = some ⟨g, o, none⟩ → g < A) := Lib.hid fun g o e => by
    rcases hX.1 with h | ⟨g', o', e', hl, _⟩
    · omega
    · rw [e] at e'; cases e'; rw [hA]; exact hl
  obtain ⟨g0, o0, hao⟩ : ∃ g0 o0, ao = some ⟨g0, o0, none⟩ := by
    rcases hX.1 with h | ⟨g', o', e', _⟩
    · omega
    · exact ⟨g', o', e'⟩
  subst hao
  have hown := l01Own_any ⟨g0, o0, none⟩ S S.length capS rfl (by omega) W2 hX2.1
  have xA2 := cell_of1' RA2
  have HA := Lib.hid hA
  have HW2 := Lib.hid hW2
  have hAb : b < A := by omega
  clear hA hW2 hs hbl hX hSp
  go_enter Try.func23, Try.ntmps23
  go_wp2_with fail
  rw [← HW2.out, ← HA.out]
  refine hown.mono ?_
  rintro e w3 ⟨g, c, rfl, own3, hb3⟩
  have g3 := grown_of_below hb3 none
  have hG3 := grown_trans hG2 (grown_of_below hb3 (some b))
  have RA3 := row_g RA2 g3 (by simp)
  have RR3 := row_g RR2 g3 (by simp)
  have hs3 := hs2.below hb3 hs2.lt
  have hX3 := hX2.below (B := 0) hb3
  have hgA : A + 2 ≤ g ∧ g < w3.heap.size := by have := own3.base_le; omega
  clear hown g3 hb3 RA2 RR2 hs2 hX2 hG2 xA2
  obtain ⟨O, hO⟩ : ∃ O, O = w3.heap.size := ⟨_, rfl⟩
  obtain ⟨W4, hW4⟩ : ∃ W4, W4 = w3.alloc (.cells #[.slice (some ⟨g, 0, none⟩) S.length c] 26) := ⟨_, rfl⟩
  have RO4 : W4.heap[O]? = some (.cells #[.slice (some ⟨g, 0, none⟩) S.length c] 26 (0, 0)) := by rw [hW4, hO]; exact heap_alloc_new _ _
  have RA4 := row_g RA3 (World.grownBy_alloc w3 (.cells #[.slice (some ⟨g, 0, none⟩) S.length c] 26) none) (by simp)
  have RR4 := row_g RR3 (World.grownBy_alloc w3 (.cells #[.slice (some ⟨g, 0, none⟩) S.length c] 26) none) (by simp)
  have own4 := own3.alloc (.cells #[.slice (some ⟨g, 0, none⟩) S.length c] 26)
  have hs4 := hs3.alloc (.cells #[.slice (some ⟨g, 0, none⟩) S.length c] 26)
  have hG4 := grown_alloc hG3 (.cells #[.slice (some ⟨g, 0, none⟩) S.length c] 26)
  have hX4 := hX3.below (B := 0) ((Below.refl _ _).alloc (Nat.le_refl _) (.cells #[.slice (some ⟨g, 0, none⟩) S.length c] 26))
  rw [← hW4] at RA4 RR4 own4 hs4 hG4 hX4
  rw [zW] at own4
  have HW4 := Lib.hid hW4
  have HO := Lib.hid hO
  rw [← hO] at hgA
  have hnx := next_any b a n cap hn 50 (by omega) W4 hs4
  clear hW4 hO RA3 RR3 own3 hs3 hX3 hG3 hs4
  go_wp2_with fail
  rw [← HW4.out, ← HO.out]
  refine hnx.mono ?_
  rintro e wr ⟨x, rfl, x0, x1, x2, hsr, hgr⟩
  have hG := grown_trans hG4 hgr
  have RA := row_g RA4 hgr (by simp; omega)
  have RR := row_g RR4 hgr (by simp; omega)
  have RO := row_g RO4 hgr (by simp; omega)
  have own := own4.kept hgr (.inr (by simp [Value.ownBlock]; omega))
  have hXr := hX4.grown hgr
  clear hnx hgr RA4 RR4 RO4 own4 hX4 hG4 x1 x2
  have xA := cell_of1' RA
  have xR := cell_of1' RR
  have xO := cell_of1' RO
  have fR := frozen_of_row wr (A + 1) 0 _ _ RR
  have zR := row_lt RR
  by_cases e0 : x = 0
  · have b0 : (x == 0) = true := by simpa using e0
    clear e0
    go_wp2_with fail
    refine bodyPost_ret (v := .agg #[.slice none 0 0]) (by simp [results, Try.results23, go_sem, xR, fR, zR]) rfl ?_
    exact ⟨none, [], 0, rfl, ⟨.inl rfl, fun g o e => by cases e⟩, by simp, hsr.setO _ (by simp; omega) _, grown_set hG _ (by simp; have := HA.out; omega) _⟩
  have b0 : (x == 0) = false := by simpa using e0
  by_cases e1 : x = 1
  · have b1 : (x == 1) = true := by simpa using e1
    clear e0 e1
    go_wp2_with fail
    refine wp_region_held_drew (S := fun w' => w'.cell? ⟨O, 0, none⟩ = some (.slice (some ⟨g, 0, none⟩) S.length c)) (by kernel_rfl) xO (fun hHeld => ?_)
    refine wpAnyH_take (i := 0) (v := ?_) rfl (by kernel_rfl) (by kernel_rfl) (by kernel_rfl) (fun _ _ _ h => h) (Or.inl ⟨by rfl, ?_⟩) (by assumption) ?_
    rotate_left
    · (intro w hSw; (try dsimp only at hSw); go_simp; try (with_reducible rfl))
    (try simp only [Act.put, List.setIfInBounds_toArray, List.set_cons_zero, List.set_cons_succ])
    refine wpAnyH_take (i := 1) (v := ?_) rfl (by kernel_rfl) (by kernel_rfl) (by kernel_rfl) (fun _ _ _ h => h) (Or.inl ⟨by rfl, ?_⟩) (by assumption) ?_
    rotate_left
    · (intro w hSw; (try dsimp only at hSw); go_simp; try (with_reducible rfl))
    (try simp only [Act.put, List.setIfInBounds_toArray, List.set_cons_zero, List.set_cons_succ])
    refine wpAnyH_take (i := 2) (v := ?_) rfl (by kernel_rfl) (by kernel_rfl) (by kernel_rfl) (fun _ _ _ h => h) (Or.inl ⟨by rfl, ?_⟩) (by assumption) ?_
    rotate_left
    · (intro w hSw; (try dsimp only at hSw); go_simp; try (with_reducible rfl))
    (try simp only [Act.put, List.setIfInBounds_toArray, List.set_cons_zero, List.set_cons_succ])
    refine wpAnyH_take (i := 3) (v := ?_) rfl (by kernel_rfl) (by kernel_rfl) (by kernel_rfl) (fun _ _ _ h => h) (Or.inl ⟨by rfl, ?_⟩) (by assumption) ?_
    rotate_left
    · (intro w hSw; (try dsimp only at hSw); go_simp; try (with_reducible rfl))
    (try simp only [Act.put, List.setIfInBounds_toArray, List.set_cons_zero, List.set_cons_succ])
    refine wpAnyH_take (i := 4) (v := ?_) rfl (by kernel_rfl) (by kernel_rfl) (by kernel_rfl) (fun _ _ _ h => h) (Or.inl ⟨by rfl, ?_⟩) (by assumption) ?_
    rotate_left
    · (intro w hSw; (try dsimp only at hSw); go_simp; try (with_reducible rfl))
    (try simp only [Act.put, List.setIfInBounds_toArray, List.set_cons_zero, List.set_cons_succ])
    refine wpAnyH_take (i := 5) (v := ?_) rfl (by kernel_rfl) (by kernel_rfl) (by kernel_rfl) (fun _ _ _ h => h) (Or.inl ⟨by rfl, ?_⟩) (by assumption) ?_
    rotate_left
    · (intro w hSw; (try dsimp only at hSw); go_simp; try (with_reducible rfl))
    (try simp only [Act.put, List.setIfInBounds_toArray, List.set_cons_zero, List.set_cons_succ])
    refine wpAnyH_take (i := 7) (v := ?_) rfl (by kernel_rfl) (by kernel_rfl) (by kernel_rfl) (fun _ _ _ h => h) (Or.inl ⟨by rfl, ?_⟩) (by assumption) ?_
    rotate_left
    · (intro w hSw; (try dsimp only at hSw); go_simp; try (with_reducible rfl))
    (try simp only [Act.put, List.setIfInBounds_toArray, List.set_cons_zero, List.set_cons_succ])
    refine wpAnyH_ready (rs := [6, 8]) (by kernel_rfl) (by simp) ?_
    refine AllReadyH.cons rfl (fun K hK => ?_) ?_
    · go_simp
      (go_at_call 51; refine (next_any b a n cap hn (S.length : Int) (by omega) wr.drew (hsr.drewN 1)).mono ?_)
      rintro e uA ⟨yA, rfl, y0, y1, y2, hsA, hgA⟩
      obtain ⟨k, rfl⟩ : ∃ k : Nat, yA = k := ⟨yA.toNat, by omega⟩
      have hk : k < S.length := by have := y2 (by omega); omega
      have ROA := row_g (show wr.drew.heap[O]? = _ from RO) hgA (by simp; omega)
      have RAA := row_g (show wr.drew.heap[A]? = _ from RA) hgA (by simp; omega)
      have RRA := row_g (show wr.drew.heap[A + 1]? = _ from RR) hgA (by simp; omega)
      have ownA := (own.drew).kept hgA (.inr (by simp [Value.ownBlock]; omega))
      have hGA := grown_trans (grown_drewN hG 1) hgA
      refine hK.out _ _ (cell_of1' ROA) (fun hHeld => ?_)
      clear hK K
      (try simp only [Act.put, List.setIfInBounds_toArray, List.set_cons_zero, List.set_cons_succ])
      refine wpAnyH_ready (rs := [8]) (by kernel_rfl) (by simp) ?_
      refine AllReadyH.cons rfl (fun K hK => ?_) AllReadyH.nil
      go_simp
      obtain ⟨uB, huB⟩ : ∃ u, u = uA.alloc (.cells #[.int .i64 1, .int .i64 5, .int .i64 0, .int .i64 (-1), .int .i64 1099511627776] 2) := ⟨_, rfl⟩
      rw [← huB]
      have ROB : uB.heap[O]? = some (.cells #[.slice (some ⟨g, 0, none⟩) S.length c] 26 (0, 0)) := by rw [huB]; exact row_g ROA (World.grownBy_alloc uA (.cells #[.int .i64 1, .int .i64 5, .int .i64 0, .int .i64 (-1), .int .i64 1099511627776] 2) none) (by simp)
      have RAB : uB.heap[A]? = some (.cells #[.slice (some ⟨g0, o0, none⟩) S.length capS] 26 (0, 0)) := by rw [huB]; exact row_g RAA (World.grownBy_alloc uA (.cells #[.int .i64 1, .int .i64 5, .int .i64 0, .int .i64 (-1), .int .i64 1099511627776] 2) none) (by simp)
      have RRB : uB.heap[A + 1]? = some (.cells #[.slice none 0 0] 26 (0, 0)) := by rw [huB]; exact row_g RRA (World.grownBy_alloc uA (.cells #[.int .i64 1, .int .i64 5, .int .i64 0, .int .i64 (-1), .int .i64 1099511627776] 2) none) (by simp)
      have ownB : OwnInts uB (A + 2) (.slice (some ⟨g, 0, none⟩) S.length c) S := by rw [huB]; exact ownA.alloc _
      have hsB : Src uB b a n cap := by rw [huB]; exact hsA.alloc _
      have hGB : w.grownBy uB (some b) := by rw [huB]; exact grown_alloc hGA _
      have IB : Ints uB (some ⟨uA.heap.size, 0, none⟩) [1, 5, 0, -1, 1099511627776] := by rw [huB]; exact ints_new uA _ _
      have zIB : b < uA.heap.size := hsA.lt
      clear huB
      refine hK.out _ _ (cell_of1' ROB) (fun hHeld => ?_)
      clear hK K
      (try simp only [Act.put, List.setIfInBounds_toArray, List.set_cons_zero, List.set_cons_succ])
      refine wpAnyH_ready (rs := [9]) (by kernel_rfl) (by simp) ?_
      refine AllReadyH.cons rfl (fun K hK => ?_) AllReadyH.nil
      go_simp
      (go_at_call 22; refine (pick_n b a n cap hn uA.heap.size _ 5 rfl (by omega) (by omega) (by omega) uB hsB IB).mono ?_)
      rintro e uC ⟨z, rfl, hz, hsC, hgC⟩
      have ROC := row_g ROB hgC (by simp; omega)
      have RAC := row_g RAB hgC (by simp; omega)
      have RRC := row_g RRB hgC (by simp; omega)
      have ownC := ownB.kept hgC (.inr (by simp [Value.ownBlock]; omega))
      have hGC := grown_trans hGB hgC
      refine hK.out _ _ (cell_of1' ROC) (fun hHeld => ?_)
      clear hK K
      (try simp only [Act.put, List.setIfInBounds_toArray, List.set_cons_zero, List.set_cons_succ])
      have i1 : (0 : Int) ≤ (k : Int) := by omega
      have i2 : (k : Int) < (S.length : Int) := by omega
      have hcell := ownC.cell (k := k) hk
      have hfree := ownC.free k
      refine wpAnyH_take (i := 10) (v := ?_) rfl (by kernel_rfl) (by kernel_rfl) (by kernel_rfl) (fun _ _ _ h => h) (Or.inl ⟨by rfl, ?_⟩) (by assumption) ?_
      rotate_left
      · (intro w hSw; (try dsimp only at hSw); go_simp; try (with_reducible rfl))
      (try simp only [Act.put, List.setIfInBounds_toArray, List.set_cons_zero, List.set_cons_succ])
      refine wpAnyH_ready (rs := [11]) (by kernel_rfl) (by simp) ?_
      refine AllReadyH.cons rfl (fun K hK => ?_) AllReadyH.nil
      go_simp
      have ROe := row_setO ROC (p := ⟨g, k, none⟩) (by simp; omega) (.int .i64 z)
      have RAe := row_setO RAC (p := ⟨g, k, none⟩) (by simp; omega) (.int .i64 z)
      have RRe := row_setO RRC (p := ⟨g, k, none⟩) (by simp; omega) (.int .i64 z)
      have owne := ownC.stored k z
      have hse := hsC.setO ⟨g, k, none⟩ (by simp; omega) (.int .i64 z)
      have hGe := grown_set hGC ⟨g, k, none⟩ (by simp; have := HA.out; omega) (.int .i64 z)
      refine hK.out _ _ (cell_of1' ROe) (fun hHeld => ?_)
      clear hK K
      (try simp only [Act.put, List.setIfInBounds_toArray, List.set_cons_zero, List.set_cons_succ])
      obtain ⟨we, hwe⟩ : ∃ we, we = uC.setCell ⟨g, k, none⟩ (.int .i64 z) := ⟨_, rfl⟩
      rw [← hwe] at ROe RAe RRe owne hse hGe ⊢
      have xOe := cell_of1' ROe
      have xRe := cell_of1' RRe
      have fRe := frozen_of_row we (A + 1) 0 _ _ RRe
      have zRe := row_lt RRe
      have hT : (S.set k z).length = S.length := List.length_set
      clear hwe hcell hfree
      refine wpAnyH_done (by kernel_rfl) ?_ _
      (try simp only [List.getElem_toArray, List.getElem_cons_succ, List.getElem_cons_zero, Act.put, List.setIfInBounds_toArray, List.set_cons_zero, List.set_cons_succ])
      go_wp2_with fail
      refine bodyPost_ret (v := .agg #[.slice (some ⟨g, 0, none⟩) S.length c]) (by simp [results, Try.results23, go_sem, xRe, fRe, zRe]) rfl ?_
      exact ⟨_, S.set k z, c, by rw [hT], (intsX_own owne (by omega)).set _ _ (fun g' o' e => by cases e; omega), by rw [hT]; exact s8, hse.setO _ (by simp; omega) _, grown_set hGe _ (by simp; have := HA.out; omega) _⟩
    refine AllReadyH.cons rfl (fun K hK => ?_) AllReadyH.nil
    go_simp
    obtain ⟨uA, huA⟩ : ∃ u, u = (wr.alloc (.cells #[.int .i64 1, .int .i64 5, .int .i64 0, .int .i64 (-1), .int .i64 1099511627776] 2)).drew := ⟨_, rfl⟩
    rw [← huA]
    have ROA : uA.heap[O]? = some (.cells #[.slice (some ⟨g, 0, none⟩) S.length c] 26 (0, 0)) := by rw [huA]; exact (show (wr.alloc (.cells #[.int .i64 1, .int .i64 5, .int .i64 0, .int .i64 (-1), .int .i64 1099511627776] 2)).heap[O]? = _ from row_g RO (World.grownBy_alloc wr (.cells #[.int .i64 1, .int .i64 5, .int .i64 0, .int .i64 (-1), .int .i64 1099511627776] 2) none) (by simp))
    have RAA : uA.heap[A]? = some (.cells #[.slice (some ⟨g0, o0, none⟩) S.length capS] 26 (0, 0)) := by rw [huA]; exact (show (wr.alloc (.cells #[.int .i64 1, .int .i64 5, .int .i64 0, .int .i64 (-1), .int .i64 1099511627776] 2)).heap[A]? = _ from row_g RA (World.grownBy_alloc wr (.cells #[.int .i64 1, .int .i64 5, .int .i64 0, .int .i64 (-1), .int .i64 1099511627776] 2) none) (by simp))
    have RRA : uA.heap[A + 1]? = some (.cells #[.slice none 0 0] 26 (0, 0)) := by rw [huA]; exact (show (wr.alloc (.cells #[.int .i64 1, .int .i64 5, .int .i64 0, .int .i64 (-1), .int .i64 1099511627776] 2)).heap[A + 1]? = _ from row_g RR (World.grownBy_alloc wr (.cells #[.int .i64 1, .int .i64 5, .int .i64 0, .int .i64 (-1), .int .i64 1099511627776] 2) none) (by simp))
    have ownA : OwnInts uA (A + 2) (.slice (some ⟨g, 0, none⟩) S.length c) S := by rw [huA]; exact (own.alloc _).drew
    have hsA : Src uA b a n cap := by rw [huA]; exact (hsr.alloc _).drewN 1
    have hGA : w.grownBy uA (some b) := by rw [huA]; exact grown_drewN (grown_alloc hG _) 1
    have IA : Ints uA (some ⟨wr.heap.size, 0, none⟩) [1, 5, 0, -1, 1099511627776] := by rw [huA]; exact (show Ints (wr.alloc (.cells #[.int .i64 1, .int .i64 5, .int .i64 0, .int .i64 (-1), .int .i64 1099511627776] 2)) _ _ from ints_new wr _ _)
    have zIA : b < wr.heap.size := hsr.lt
    clear huA
    refine hK.out _ _ (cell_of1' ROA) (fun hHeld => ?_)
    clear hK K
    (try simp only [Act.put, List.setIfInBounds_toArray, List.set_cons_zero, List.set_cons_succ])
    refine wpAnyH_ready (rs := [6]) (by kernel_rfl) (by simp) ?_
    refine AllReadyH.cons rfl (fun K hK => ?_) AllReadyH.nil
    go_simp
    (go_at_call 51; refine (next_any b a n cap hn (S.length : Int) (by omega) uA hsA).mono ?_)
    rintro e uB ⟨yB, rfl, y0, y1, y2, hsB, hgB⟩
    obtain ⟨k, rfl⟩ : ∃ k : Nat, yB = k := ⟨yB.toNat, by omega⟩
    have hk : k < S.length := by have := y2 (by omega); omega
    have ROB := row_g ROA hgB (by simp; omega)
    have RAB := row_g RAA hgB (by simp; omega)
    have RRB := row_g RRA hgB (by simp; omega)
    have ownB := ownA.kept hgB (.inr (by simp [Value.ownBlock]; omega))
    have hGB := grown_trans hGA hgB
    have IB := (IntsX.grown (b := b) ⟨IA, fun g' o' e => by cases e; exact zIA⟩ hgB).1
    refine hK.out _ _ (cell_of1' ROB) (fun hHeld => ?_)
    clear hK K
    (try simp only [Act.put, List.setIfInBounds_toArray, List.set_cons_zero, List.set_cons_succ])
    refine wpAnyH_ready (rs := [9]) (by kernel_rfl) (by simp) ?_
    refine AllReadyH.cons rfl (fun K hK => ?_) AllReadyH.nil
    go_simp
    (go_at_call 22; refine (pick_n b a n cap hn wr.heap.size _ 5 rfl (by omega) (by omega) (by omega) uB hsB IB).mono ?_)
    rintro e uC ⟨z, rfl, hz, hsC, hgC⟩
    have ROC := row_g ROB hgC (by simp; omega)
    have RAC := row_g RAB hgC (by simp; omega)
    have RRC := row_g RRB hgC (by simp; omega)
    have ownC := ownB.kept hgC (.inr (by simp [Value.ownBlock]; omega))
    have hGC := grown_trans hGB hgC
    refine hK.out _ _ (cell_of1' ROC) (fun hHeld => ?_)
    clear hK K
    (try simp only [Act.put, List.setIfInBounds_toArray, List.set_cons_zero, List.set_cons_succ])
    have i1 : (0 : Int) ≤ (k : Int) := by omega
    have i2 : (k : Int) < (S.length : Int) := by omega
    have hcell := ownC.cell (k := k) hk
    have hfree := ownC.free k
    refine wpAnyH_take (i := 10) (v := ?_) rfl (by kernel_rfl) (by kernel_rfl) (by kernel_rfl) (fun _ _ _ h => h) (Or.inl ⟨by rfl, ?_⟩) (by assumption) ?_
    rotate_left
    · (intro w hSw; (try dsimp only at hSw); go_simp; try (with_reducible rfl))
    (try simp only [Act.put, List.setIfInBounds_toArray, List.set_cons_zero, List.set_cons_succ])
    refine wpAnyH_ready (rs := [11]) (by kernel_rfl) (by simp) ?_
    refine AllReadyH.cons rfl (fun K hK => ?_) AllReadyH.nil
    go_simp
    have ROe := row_setO ROC (p := ⟨g, k, none⟩) (by simp; omega) (.int .i64 z)
    have RAe := row_setO RAC (p := ⟨g, k, none⟩) (by simp; omega) (.int .i64 z)
    have RRe := row_setO RRC (p := ⟨g, k, none⟩) (by simp; omega) (.int .i64 z)
    have owne := ownC.stored k z
    have hse := hsC.setO ⟨g, k, none⟩ (by simp; omega) (.int .i64 z)
    have hGe := grown_set hGC ⟨g, k, none⟩ (by simp; have := HA.out; omega) (.int .i64 z)
    refine hK.out _ _ (cell_of1' ROe) (fun hHeld => ?_)
    clear hK K
    (try simp only [Act.put, List.setIfInBounds_toArray, List.set_cons_zero, List.set_cons_succ])
    obtain ⟨we, hwe⟩ : ∃ we, we = uC.setCell ⟨g, k, none⟩ (.int .i64 z) := ⟨_, rfl⟩
    rw [← hwe] at ROe RAe RRe owne hse hGe ⊢
    have xOe := cell_of1' ROe
    have xRe := cell_of1' RRe
    have fRe := frozen_of_row we (A + 1) 0 _ _ RRe
    have zRe := row_lt RRe
    have hT : (S.set k z).length = S.length := List.length_set
    clear hwe hcell hfree
    refine wpAnyH_done (by kernel_rfl) ?_ _
    (try simp only [List.getElem_toArray, List.getElem_cons_succ, List.getElem_cons_zero, Act.put, List.setIfInBounds_toArray, List.set_cons_zero, List.set_cons_succ])
    go_wp2_with fail
    refine bodyPost_ret (v := .agg #[.slice (some ⟨g, 0, none⟩) S.length c]) (by simp [results, Try.results23, go_sem, xRe, fRe, zRe]) rfl ?_
    exact ⟨_, S.set k z, c, by rw [hT], (intsX_own owne (by omega)).set _ _ (fun g' o' e => by cases e; omega), by rw [hT]; exact s8, hse.setO _ (by simp; omega) _, grown_set hGe _ (by simp; have := HA.out; omega) _⟩
  have b1 : (x == 1) = false := by simpa using e1
  by_cases e2 : x = 2
  · have b2 : (x == 2) = true := by simpa using e2
    clear e0 e1 e2
    have hgO : ∀ g', (Value.slice (some ⟨g, 0, none⟩) S.length c).ownBlock = some g' → A + 2 ≤ g' ∧ g' ≠ O := fun g' e => by simp [Value.ownBlock] at e; omega
    have hSl : Hid (S.length ≤ 8) := Lib.hid s8
    go_wp2_with fail
    go_loopw [33] (fun _ wl => ∃ (T : List Int) (vS : Value), Hid (T.length ≤ 8) ∧ OwnInts wl (A + 2) vS T ∧ (∀ g', vS.ownBlock = some g' → A + 2 ≤ g' ∧ g' ≠ O) ∧ wl.heap[O]? = some (.cells #[vS] 26 (0, 0)) ∧ wl.heap[A + 1]? = some (.cells #[.slice none 0 0] 26 (0, 0)) ∧ Src wl b a n cap ∧ w.grownBy wl (some b)) (fun _ wl => 6 - lenAt wl ⟨O, 0, none⟩)
    case atStart => exact ⟨S, _, hSl, own, hgO, RO, RR, hsr, hG⟩
    case round =>
      clear own hgO RO RR RA xA xR xO fR zR hXr hsr hG
      obtain ⟨T, vS, HT, own, hvS, RO, RR, hsr, hG⟩ := hrel
      obtain ⟨aS, cS, hvs⟩ := own_shp own
      subst hvs
      have xO := cell_of1' RO
      have zO := row_lt RO
      by_cases hlt : T.length < 6
      · have i1 : (T.length : Int) < 6 := by omega
        have hl0 : lenAt wr ⟨O, 0, none⟩ = T.length := by unfold lenAt; rw [xO]
        have HL0 := Lib.hid hl0
        clear hl0
        go_wp2_with (at_builtin; refine wpList_append_int_at rfl _ _ rfl (A + 2) _ T rfl (own.alloc _) wr.heap.size 4 rfl (cell_new _ _ _) (by omega) (by have := zO; simp; omega) ?_; intro v' w6 own' hgrow hnew; obtain ⟨a6, c6, hv6⟩ := own_shp own'; rw [List.length_append, List.length_singleton] at hv6; subst hv6; have ROn := row_g (row_g RO (World.grownBy_alloc wr (.cells #[.int .i64 4] 2) none) (by simp)) hgrow (fun e => (hvS _ e.symm).2 rfl); have RRn := row_g (row_g RR (World.grownBy_alloc wr (.cells #[.int .i64 4] 2) none) (by simp)) hgrow (fun e => by have := (hvS _ e.symm).1; omega); have xO6 := cell_of1' ROn; have fO6 := frozen_of_row w6 O 0 _ _ ROn)
        have hvN : ∀ g', (Value.slice a6 (T.length + 1) c6).ownBlock = some g' → A + 2 ≤ g' ∧ g' ≠ O := fun g' hg => by
          rcases hnew with e | e
          · exact hvS g' (e.symm.trans hg)
          · rw [e] at hg
            have := Option.some.inj hg
            simp at this
            omega
        have hGn : w.grownBy w6 (some b) := grown_over (grown_alloc hG _) hgrow (fun g' hg => by have := (hvS g' hg).1; have := HA.out; omega)
        have hsn : Src w6 b a n cap := (hsr.alloc _).grownO hgrow (fun g' hg => by have := (hvS g' hg).1; omega)
        have xOn := cell_of1' (row_store1' (.slice a6 (T.length + 1) c6) ROn)
        have hl1 : lenAt (w6.setCell ⟨O, 0, none⟩ (.slice a6 (T.length + 1) c6)) ⟨O, 0, none⟩ = T.length + 1 := by unfold lenAt; rw [xOn]
        have HL1 := Lib.hid hl1
        clear hl1 xOn
        go_roundw
        case rel => exact ⟨T ++ [4], _, Lib.hid (by rw [List.length_append, List.length_singleton]; omega), own_setO own' O (fun e => (hvN _ e).2 rfl) _, hvN, row_store1' _ ROn, row_setO RRn (by simp; omega) _, hsn.setO _ (by simp; omega) _, grown_set hGn _ (by simp; have := HA.out; omega) _⟩
        case measure => rw [HL0.out, HL1.out]; omega
      · have i1 : ¬ (T.length : Int) < 6 := by omega
        have xR := cell_of1' RR
        have fR := frozen_of_row wr (A + 1) 0 _ _ RR
        have zR := row_lt RR
        go_wp2_with fail
        refine bodyPost_ret (v := .agg #[.slice aS T.length cS]) (by simp [results, Try.results23, go_sem, xR, fR, zR]) rfl ?_
        exact ⟨aS, T, ⟨cS, rfl⟩, (intsX_own own (by omega)).set _ _ (fun g' o' e => by have := (hvS g' (by rw [e]; rfl)).1; omega), HT.out, hsr.setO _ (by simp; omega) _, grown_set hG _ (by simp; have := HA.out; omega) _⟩
  · have b2 : (x == 2) = false := by simpa using e2
    clear e0 e1 e2
    go_wp2_with fail
    refine bodyPost_ret (v := .agg #[.slice (some ⟨g0, o0, none⟩) S.length capS]) (by simp [results, Try.results23, go_sem, xR, fR, zR]) rfl ?_
    exact ⟨_, S, capS, rfl, hXr.set _ _ (fun g o e => by have := hXA.out g o e; omega), s8, hsr.setO _ (by simp; omega) _, grown_set hG _ (by simp; have := HA.out; omega) _⟩

end Go.Proofs.Ytamebfbddoeflaa
