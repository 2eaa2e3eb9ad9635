/-
  The contracts of the new desk, and of the laws' helpers on two desks. By an AI agent.
-/
import Derived.Test.YtgaelpcghljihaaDesk
namespace Go.Proofs.Ytgaelpcghljihaa
open Go.RowKit Cv
set_option linter.unusedVariables false
set_option linter.unusedSimpArgs false
set_option maxRecDepth 100000

theorem eqLottery_same (v p d h : Int) (w : World) :
    Calls Try.prog 54 #[.agg #[.int .i64 v, .int .i64 p, .int .i64 d, .int .i64 h], .agg #[.int .i64 v, .int .i64 p, .int .i64 d, .int .i64 h]] w fun e w' => e = .returned (.bool true) ∧ Below w.heap.size w w' := by
  go_enter Try.func54, Try.ntmps54
  go_wp2_with fail
  go_ret
  exact ⟨rfl, by go_grown⟩

theorem eqDesk_same (aS aS' : Option Addr) (S : List Int) (cS cS' : Nat) (aC aC' : Option Addr) (C : List Int) (cC cC' : Nat) (v p d h : Int) (aT aT' : Option Addr) (T : List Int) (cT cT' : Nat) (w : World) (hnS : S.length ≤ 4294967296) (hnC : C.length ≤ 4294967296) (hnT : T.length ≤ 4294967296)
    (hS : Ints w aS S) (hS' : Ints w aS' S) (hC : Ints w aC C) (hC' : Ints w aC' C) (hT : Ints w aT T) (hT' : Ints w aT' T) :
    Calls Try.prog 17 #[.agg #[.slice aS S.length cS, .slice aC C.length cC, .int .i64 v, .int .i64 p, .int .i64 d, .int .i64 h, .slice aT T.length cT], .agg #[.slice aS' S.length cS', .slice aC' C.length cC', .int .i64 v, .int .i64 p, .int .i64 d, .int .i64 h, .slice aT' T.length cT']] w fun e w' => e = .returned (.bool true) ∧ Below w.heap.size w w' := by
  have B0 : Below w.heap.size w ((w.alloc (.cells #[.slice aS S.length cS, .slice aC C.length cC, .int .i64 v, .int .i64 p, .int .i64 d, .int .i64 h, .slice aT T.length cT] 28)).alloc (.cells #[.slice aS' S.length cS', .slice aC' C.length cC', .int .i64 v, .int .i64 p, .int .i64 d, .int .i64 h, .slice aT' T.length cT'] 28)) := by go_grown
  have D0 := (deskAt_new w (.slice aS S.length cS) (.slice aC C.length cC) v p d h (.slice aT T.length cT) 28).below ((Below.refl _ _).alloc (Nat.le_refl _) (.cells #[.slice aS' S.length cS', .slice aC' C.length cC', .int .i64 v, .int .i64 p, .int .i64 d, .int .i64 h, .slice aT' T.length cT'] 28))
  have E0 := deskAt_new (w.alloc (.cells #[.slice aS S.length cS, .slice aC C.length cC, .int .i64 v, .int .i64 p, .int .i64 d, .int .i64 h, .slice aT T.length cT] 28)) (.slice aS' S.length cS') (.slice aC' C.length cC') v p d h (.slice aT' T.length cT') 28
  simp only [World.size_alloc] at E0
  go_enter Try.func17, Try.ntmps17
  go_wp2_with fail
  refine (eqSpace_same aS aS' S cS cS' _ hnS (hS.below B0) (hS'.below B0)).mono ?_
  rintro e w1 ⟨rfl, hb⟩
  replace D0 := D0.below hb
  replace E0 := E0.below hb
  replace B0 := B0.trans (hb.mono B0.size)
  obtain ⟨c0, c1, c2, c3, c4, c5, c6, lt⟩ := id D0
  obtain ⟨e0, e1, e2, e3, e4, e5, e6, lt'⟩ := id E0
  clear hb
  go_wp2_with fail
  refine (eqInt64S_same aC aC' C cC cC' _ hnC (hC.below B0) (hC'.below B0)).mono ?_
  rintro e w2 ⟨rfl, hb⟩
  replace D0 := D0.below hb
  replace E0 := E0.below hb
  replace B0 := B0.trans (hb.mono B0.size)
  clear c0 c1 c2 c3 c4 c5 c6 lt e0 e1 e2 e3 e4 e5 e6 lt' hb
  obtain ⟨c0, c1, c2, c3, c4, c5, c6, lt⟩ := id D0
  obtain ⟨e0, e1, e2, e3, e4, e5, e6, lt'⟩ := id E0
  go_wp2_with fail
  refine (eqLottery_same v p d h _).mono ?_
  rintro e w3 ⟨rfl, hb⟩
  replace D0 := D0.below hb
  replace E0 := E0.below hb
  replace B0 := B0.trans (hb.mono B0.size)
  clear c0 c1 c2 c3 c4 c5 c6 lt e0 e1 e2 e3 e4 e5 e6 lt' hb
  obtain ⟨c0, c1, c2, c3, c4, c5, c6, lt⟩ := id D0
  obtain ⟨e0, e1, e2, e3, e4, e5, e6, lt'⟩ := id E0
  go_wp2_with fail
  refine (eqInt64S_same aT aT' T cT cT' _ hnT (hT.below B0) (hT'.below B0)).mono ?_
  rintro e w4 ⟨rfl, hb⟩
  replace B0 := B0.trans (hb.mono B0.size)
  go_wp2_with fail
  go_ret
  exact ⟨rfl, B0⟩

theorem l11New_any (w : World) :
    Calls Try.prog 53 #[] w fun e w' => ∃ bS bC aT, e = .returned (.agg #[.slice (some ⟨bS, 0, none⟩) 3 3, .slice (some ⟨bC, 0, none⟩) 2 2, .int .i64 5, .int .i64 2, .int .i64 2, .int .i64 1, .slice aT 0 0]) ∧ (aT = none ∨ aT ≠ none) ∧ OwnInts w' w.heap.size (.slice (some ⟨bS, 0, none⟩) 3 3) [2, 2, 2] ∧ OwnInts w' w.heap.size (.slice (some ⟨bC, 0, none⟩) 2 2) [0, 7] ∧ bS < bC ∧ Below w.heap.size w w' := by
  have oS : OwnInts ((w.alloc (.cells #[.slice (some ⟨w.heap.size + 1, 0, none⟩) 3 3, .slice (some ⟨w.heap.size + 1 + 1, 0, none⟩) 2 2, .int .i64 5, .int .i64 2, .int .i64 2, .int .i64 1, .slice (some ⟨w.heap.size + 1 + 1 + 1, 0, none⟩) 0 0] 28)).alloc (.cells #[.int .i64 2, .int .i64 2, .int .i64 2] 2)) w.heap.size (.slice (some ⟨w.heap.size + 1, 0, none⟩) 3 3) [2, 2, 2] := by have := World.ownsRow_lit (w.alloc (.cells #[.slice (some ⟨w.heap.size + 1, 0, none⟩) 3 3, .slice (some ⟨w.heap.size + 1 + 1, 0, none⟩) 2 2, .int .i64 5, .int .i64 2, .int .i64 2, .int .i64 1, .slice (some ⟨w.heap.size + 1 + 1 + 1, 0, none⟩) 0 0] 28)) (base := w.heap.size) (e := 2) (size := 1) #[.int .i64 2, .int .i64 2, .int .i64 2] 3 (by simp; try omega) (by simp [maxLen]) (by simp); simp only [World.size_alloc] at this; exact this
  have oC : OwnInts (((w.alloc (.cells #[.slice (some ⟨w.heap.size + 1, 0, none⟩) 3 3, .slice (some ⟨w.heap.size + 1 + 1, 0, none⟩) 2 2, .int .i64 5, .int .i64 2, .int .i64 2, .int .i64 1, .slice (some ⟨w.heap.size + 1 + 1 + 1, 0, none⟩) 0 0] 28)).alloc (.cells #[.int .i64 2, .int .i64 2, .int .i64 2] 2)).alloc (.cells #[.int .i64 0, .int .i64 7] 2)) w.heap.size (.slice (some ⟨w.heap.size + 1 + 1, 0, none⟩) 2 2) [0, 7] := by have := World.ownsRow_lit ((w.alloc (.cells #[.slice (some ⟨w.heap.size + 1, 0, none⟩) 3 3, .slice (some ⟨w.heap.size + 1 + 1, 0, none⟩) 2 2, .int .i64 5, .int .i64 2, .int .i64 2, .int .i64 1, .slice (some ⟨w.heap.size + 1 + 1 + 1, 0, none⟩) 0 0] 28)).alloc (.cells #[.int .i64 2, .int .i64 2, .int .i64 2] 2)) (base := w.heap.size) (e := 2) (size := 1) #[.int .i64 0, .int .i64 7] 2 (by simp; try omega) (by simp [maxLen]) (by simp); simp only [World.size_alloc] at this; exact this
  have bR : Below (w.alloc (.cells #[.slice (some ⟨w.heap.size + 1, 0, none⟩) 3 3, .slice (some ⟨w.heap.size + 1 + 1, 0, none⟩) 2 2, .int .i64 5, .int .i64 2, .int .i64 2, .int .i64 1, .slice (some ⟨w.heap.size + 1 + 1 + 1, 0, none⟩) 0 0] 28)).heap.size (w.alloc (.cells #[.slice (some ⟨w.heap.size + 1, 0, none⟩) 3 3, .slice (some ⟨w.heap.size + 1 + 1, 0, none⟩) 2 2, .int .i64 5, .int .i64 2, .int .i64 2, .int .i64 1, .slice (some ⟨w.heap.size + 1 + 1 + 1, 0, none⟩) 0 0] 28)) ((((w.alloc (.cells #[.slice (some ⟨w.heap.size + 1, 0, none⟩) 3 3, .slice (some ⟨w.heap.size + 1 + 1, 0, none⟩) 2 2, .int .i64 5, .int .i64 2, .int .i64 2, .int .i64 1, .slice (some ⟨w.heap.size + 1 + 1 + 1, 0, none⟩) 0 0] 28)).alloc (.cells #[.int .i64 2, .int .i64 2, .int .i64 2] 2)).alloc (.cells #[.int .i64 0, .int .i64 7] 2)).alloc (.cells #[] 2)) := by go_grown
  have HR := Lib.hid ((bR.block w.heap.size (by simp)).trans (heap_alloc_new w _))
  clear bR
  go_enter Try.func53, Try.ntmps53
  go_wp2_with fail
  refine bodyPost_ret (v := .agg #[.slice (some ⟨w.heap.size + 1, 0, none⟩) 3 3, .slice (some ⟨w.heap.size + 1 + 1, 0, none⟩) 2 2, .int .i64 5, .int .i64 2, .int .i64 2, .int .i64 1, .slice (some ⟨w.heap.size + 1 + 1 + 1, 0, none⟩) 0 0]) (results_cell_row (P := Try.prog) (by rfl) _ _ (w.heap.size) _ _ (0, 0) _ (by rfl) HR.out Try.underlying28 rfl (by kernel_rfl)) rfl ?_
  exact ⟨_, _, _, rfl, by simp, (oS.alloc _).alloc _, oC.alloc _, by omega, by go_grown⟩
theorem NewDesk_any (w : World) :
    Calls Try.prog 16 #[] w fun e w' => ∃ bS bC aT, e = .returned (.agg #[.slice (some ⟨bS, 0, none⟩) 3 3, .slice (some ⟨bC, 0, none⟩) 2 2, .int .i64 5, .int .i64 2, .int .i64 2, .int .i64 1, .slice aT 0 0]) ∧ aT = none ∧ OwnInts w' w.heap.size (.slice (some ⟨bS, 0, none⟩) 3 3) [2, 2, 2] ∧ OwnInts w' w.heap.size (.slice (some ⟨bC, 0, none⟩) 2 2) [0, 7] ∧ bS < bC ∧ Below w.heap.size w w' := by
  have oS : OwnInts ((w.alloc (.cells #[.slice (some ⟨w.heap.size + 1, 0, none⟩) 3 3, .slice (some ⟨w.heap.size + 1 + 1, 0, none⟩) 2 2, .int .i64 5, .int .i64 2, .int .i64 2, .int .i64 1, .slice none 0 0] 28)).alloc (.cells #[.int .i64 2, .int .i64 2, .int .i64 2] 2)) w.heap.size (.slice (some ⟨w.heap.size + 1, 0, none⟩) 3 3) [2, 2, 2] := by have := World.ownsRow_lit (w.alloc (.cells #[.slice (some ⟨w.heap.size + 1, 0, none⟩) 3 3, .slice (some ⟨w.heap.size + 1 + 1, 0, none⟩) 2 2, .int .i64 5, .int .i64 2, .int .i64 2, .int .i64 1, .slice none 0 0] 28)) (base := w.heap.size) (e := 2) (size := 1) #[.int .i64 2, .int .i64 2, .int .i64 2] 3 (by simp; try omega) (by simp [maxLen]) (by simp); simp only [World.size_alloc] at this; exact this
  have oC : OwnInts (((w.alloc (.cells #[.slice (some ⟨w.heap.size + 1, 0, none⟩) 3 3, .slice (some ⟨w.heap.size + 1 + 1, 0, none⟩) 2 2, .int .i64 5, .int .i64 2, .int .i64 2, .int .i64 1, .slice none 0 0] 28)).alloc (.cells #[.int .i64 2, .int .i64 2, .int .i64 2] 2)).alloc (.cells #[.int .i64 0, .int .i64 7] 2)) w.heap.size (.slice (some ⟨w.heap.size + 1 + 1, 0, none⟩) 2 2) [0, 7] := by have := World.ownsRow_lit ((w.alloc (.cells #[.slice (some ⟨w.heap.size + 1, 0, none⟩) 3 3, .slice (some ⟨w.heap.size + 1 + 1, 0, none⟩) 2 2, .int .i64 5, .int .i64 2, .int .i64 2, .int .i64 1, .slice none 0 0] 28)).alloc (.cells #[.int .i64 2, .int .i64 2, .int .i64 2] 2)) (base := w.heap.size) (e := 2) (size := 1) #[.int .i64 0, .int .i64 7] 2 (by simp; try omega) (by simp [maxLen]) (by simp); simp only [World.size_alloc] at this; exact this
  have bR : Below (w.alloc (.cells #[.slice (some ⟨w.heap.size + 1, 0, none⟩) 3 3, .slice (some ⟨w.heap.size + 1 + 1, 0, none⟩) 2 2, .int .i64 5, .int .i64 2, .int .i64 2, .int .i64 1, .slice none 0 0] 28)).heap.size (w.alloc (.cells #[.slice (some ⟨w.heap.size + 1, 0, none⟩) 3 3, .slice (some ⟨w.heap.size + 1 + 1, 0, none⟩) 2 2, .int .i64 5, .int .i64 2, .int .i64 2, .int .i64 1, .slice none 0 0] 28)) (((w.alloc (.cells #[.slice (some ⟨w.heap.size + 1, 0, none⟩) 3 3, .slice (some ⟨w.heap.size + 1 + 1, 0, none⟩) 2 2, .int .i64 5, .int .i64 2, .int .i64 2, .int .i64 1, .slice none 0 0] 28)).alloc (.cells #[.int .i64 2, .int .i64 2, .int .i64 2] 2)).alloc (.cells #[.int .i64 0, .int .i64 7] 2)) := by go_grown
  have HR := Lib.hid ((bR.block w.heap.size (by simp)).trans (heap_alloc_new w _))
  clear bR
  go_enter Try.func16, Try.ntmps16
  go_wp2_with fail
  refine bodyPost_ret (v := .agg #[.slice (some ⟨w.heap.size + 1, 0, none⟩) 3 3, .slice (some ⟨w.heap.size + 1 + 1, 0, none⟩) 2 2, .int .i64 5, .int .i64 2, .int .i64 2, .int .i64 1, .slice none 0 0]) (results_cell_row (P := Try.prog) (by rfl) _ _ (w.heap.size) _ _ (0, 0) _ (by rfl) HR.out Try.underlying28 rfl (by kernel_rfl)) rfl ?_
  exact ⟨_, _, _, rfl, by simp, (oS.alloc _), oC, by omega, by go_grown⟩

theorem cell_grown {w w' : World} {b o : Nat} {v : Value} {row : Option Nat} (h : w.cell? ⟨b, o, none⟩ = some v) (hg : w.grownBy w' row) (hl : b < w.heap.size) (hne : some b ≠ row) : w'.cell? ⟨b, o, none⟩ = some v := by
  have e := hg.block b hl hne
  simp only [World.cell?, e] at h ⊢
  exact h

theorem eqDesk_new (bS bC bS' bC' : Nat) (aT aT' : Option Addr) (w : World) (hS : Ints w (some ⟨bS, 0, none⟩) [2, 2, 2]) (hS' : Ints w (some ⟨bS', 0, none⟩) [2, 2, 2]) (hC : Ints w (some ⟨bC, 0, none⟩) [0, 7]) (hC' : Ints w (some ⟨bC', 0, none⟩) [0, 7]) :
    Calls Try.prog 17 #[.agg #[.slice (some ⟨bS, 0, none⟩) 3 3, .slice (some ⟨bC, 0, none⟩) 2 2, .int .i64 5, .int .i64 2, .int .i64 2, .int .i64 1, .slice aT 0 0], .agg #[.slice (some ⟨bS', 0, none⟩) 3 3, .slice (some ⟨bC', 0, none⟩) 2 2, .int .i64 5, .int .i64 2, .int .i64 2, .int .i64 1, .slice aT' 0 0]] w fun e w' => e = .returned (.bool true) ∧ Below w.heap.size w w' :=
  eqDesk_same (some ⟨bS, 0, none⟩) (some ⟨bS', 0, none⟩) [2, 2, 2] 3 3 (some ⟨bC, 0, none⟩) (some ⟨bC', 0, none⟩) [0, 7] 2 2 5 2 2 1 aT aT' [] 0 0 w (by simp) (by simp) (by simp) hS hS' hC hC' (.inl rfl) (.inl rfl)

theorem markDesk_new (bS bC : Nat) (w : World) (base : Nat) (hSC : bS ≠ bC) (oS : OwnInts w base (.slice (some ⟨bS, 0, none⟩) 3 3) [2, 2, 2]) (oC : OwnInts w base (.slice (some ⟨bC, 0, none⟩) 2 2) [0, 7]) :
    Calls Try.prog 18 #[.agg #[.slice (some ⟨bS, 0, none⟩) 3 3, .slice (some ⟨bC, 0, none⟩) 2 2, .int .i64 5, .int .i64 2, .int .i64 2, .int .i64 1, .slice none 0 0], .int .i64 1] w fun e w' => e = .returned (.int .i64 6) ∧ ∃ w1, OwnInts w' base (.slice (some ⟨bS, 0, none⟩) 3 3) (marks 1 3) ∧ OwnInts w' base (.slice (some ⟨bC, 0, none⟩) 2 2) (marks 4 2) ∧ w.grownBy w1 (some bS) ∧ w1.grownBy w' (some bC) := by
  have D0 := deskAt_new w (.slice (some ⟨bS, 0, none⟩) 3 3) (.slice (some ⟨bC, 0, none⟩) 2 2) 5 2 2 1 (.slice none 0 0) 28
  have lS := oS.base_le.2
  have lC := oC.base_le.2
  go_enter Try.func18, Try.ntmps18
  go_wp2_with fail
  refine (markSpace_gen (some ⟨bS, 0, none⟩) base 3 3 [2, 2, 2] 1 _ (by omega) (by omega) (by omega) rfl (oS.alloc _)).mono ?_
  rintro e w1 ⟨rfl, oS1, g1⟩
  have oC1 := (oC.alloc (.cells #[.slice (some ⟨bS, 0, none⟩) 3 3, .slice (some ⟨bC, 0, none⟩) 2 2, .int .i64 5, .int .i64 2, .int .i64 2, .int .i64 1, .slice none 0 0] 28)).kept g1 (.inr (fun e => hSC (Option.some.inj e.symm)))
  have k1 : ∀ o v, (w.alloc (.cells #[.slice (some ⟨bS, 0, none⟩) 3 3, .slice (some ⟨bC, 0, none⟩) 2 2, .int .i64 5, .int .i64 2, .int .i64 2, .int .i64 1, .slice none 0 0] 28)).cell? ⟨w.heap.size, o, none⟩ = some v → w1.cell? ⟨w.heap.size, o, none⟩ = some v := fun o v h => cell_grown h g1 (by simp) (fun e => by have e' : w.heap.size = bS := Option.some.inj e; omega)
  have c1 := k1 _ _ D0.c1
  have c6 := k1 _ _ D0.c6
  have z1 : w.heap.size < w1.heap.size := by have := g1.size; simp at this; omega
  clear k1
  go_wp2_with fail
  refine (markInt64S_own (some ⟨bC, 0, none⟩) base 2 2 [0, 7] 4 _ (by omega) (by omega) (by omega) rfl oC1).mono ?_
  rintro e w2 ⟨rfl, oC2, g2⟩
  have oS2 := oS1.kept g2 (.inr (fun e => hSC (Option.some.inj e)))
  replace c6 : w2.cell? ⟨w.heap.size, 6, none⟩ = some (.slice none 0 0) := cell_grown c6 g2 z1 (fun e => by have e' : w.heap.size = bC := Option.some.inj e; omega)
  go_wp2_with fail
  refine (markInt64S_nil 0 none 6 _ (by omega) (by omega)).mono ?_
  rintro e w3 ⟨rfl, rfl⟩
  go_wp2_with fail
  go_ret
  exact ⟨rfl, w1, oS2, oC2, grown_trans (World.grownBy_alloc w _ _) g1, g2⟩

theorem heldDesk_new (bS bC : Nat) (w : World) (hS : Ints w (some ⟨bS, 0, none⟩) (marks 1 3)) (hC : Ints w (some ⟨bC, 0, none⟩) (marks 4 2)) :
    Calls Try.prog 19 #[.agg #[.slice (some ⟨bS, 0, none⟩) 3 3, .slice (some ⟨bC, 0, none⟩) 2 2, .int .i64 5, .int .i64 2, .int .i64 2, .int .i64 1, .slice none 0 0], .int .i64 1] w fun e w' => e = .returned (.int .i64 6) ∧ Below w.heap.size w w' := by
  have D0 := deskAt_new w (.slice (some ⟨bS, 0, none⟩) 3 3) (.slice (some ⟨bC, 0, none⟩) 2 2) 5 2 2 1 (.slice none 0 0) 28
  have B0 : Below w.heap.size w (w.alloc (.cells #[.slice (some ⟨bS, 0, none⟩) 3 3, .slice (some ⟨bC, 0, none⟩) 2 2, .int .i64 5, .int .i64 2, .int .i64 2, .int .i64 1, .slice none 0 0] 28)) := by go_grown
  go_enter Try.func19, Try.ntmps19
  go_wp2_with fail
  refine (heldSpace_any (some ⟨bS, 0, none⟩) 3 3 1 _ (by omega) (by omega) (by omega) (hS.below B0)).mono ?_
  rintro e w1 ⟨rfl, hb⟩
  replace D0 := D0.below hb
  replace B0 := B0.trans (hb.mono B0.size)
  obtain ⟨c0, c1, c2, c3, c4, c5, c6, lt⟩ := D0
  clear hb
  go_wp2_with fail
  refine (heldInt64S_any (some ⟨bC, 0, none⟩) 2 2 4 _ (by omega) (by omega) (by omega) (hC.below B0)).mono ?_
  rintro e w2 ⟨rfl, rfl⟩
  go_wp2_with fail
  refine (heldInt64S_any none 0 0 6 _ (by omega) (by omega) (by omega) (.inl rfl)).mono ?_
  rintro e w2 ⟨rfl, rfl⟩
  go_wp2_with fail
  go_ret
  exact ⟨rfl, B0⟩

theorem spec_NewDesk (w : World) :
    Calls Try.prog 15 #[] w fun e w' => ∃ bS bC aT, e = .returned (.agg #[.slice (some ⟨bS, 0, none⟩) 3 3, .slice (some ⟨bC, 0, none⟩) 2 2, .int .i64 5, .int .i64 2, .int .i64 2, .int .i64 1, .slice aT 0 0]) ∧ OwnInts w' w.heap.size (.slice (some ⟨bS, 0, none⟩) 3 3) [2, 2, 2] ∧ OwnInts w' w.heap.size (.slice (some ⟨bC, 0, none⟩) 2 2) [0, 7] ∧ Below w.heap.size w w' := by
  go_enter Try.func15, Try.ntmps15
  go_wp2_with fail
  refine (l11New_any _).mono ?_
  rintro e w1 ⟨bS, bC, aT, rfl, _, oS, oC, _, hb⟩
  have Q4 : w1.heap[w.heap.size]? = some (.cells #[.slice none 0 0, .slice none 0 0, .int .i64 0, .int .i64 0, .int .i64 0, .int .i64 0, .slice none 0 0] 28 (0, 0)) := (hb.block _ (by simp)).trans (heap_alloc_new w _)
  have B1 : Below w.heap.size w w1 := Below.trans (by go_grown) (hb.mono (by simp))
  have y0 : w1.cell? ⟨w.heap.size, 0, none⟩ = some (.slice none 0 0) := by rw [cell_of_row _ _ _ _ _ _ Q4]; rfl
  have G0 := frozen_of_row w1 (w.heap.size) 0 _ _ Q4
  have y1 : w1.cell? ⟨w.heap.size, 1, none⟩ = some (.slice none 0 0) := by rw [cell_of_row _ _ _ _ _ _ Q4]; rfl
  have G1 := frozen_of_row w1 (w.heap.size) 1 _ _ Q4
  have y2 : w1.cell? ⟨w.heap.size, 2, none⟩ = some (.int .i64 0) := by rw [cell_of_row _ _ _ _ _ _ Q4]; rfl
  have G2 := frozen_of_row w1 (w.heap.size) 2 _ _ Q4
  have y3 : w1.cell? ⟨w.heap.size, 3, none⟩ = some (.int .i64 0) := by rw [cell_of_row _ _ _ _ _ _ Q4]; rfl
  have G3 := frozen_of_row w1 (w.heap.size) 3 _ _ Q4
  have y4 : w1.cell? ⟨w.heap.size, 4, none⟩ = some (.int .i64 0) := by rw [cell_of_row _ _ _ _ _ _ Q4]; rfl
  have G4 := frozen_of_row w1 (w.heap.size) 4 _ _ Q4
  have y5 : w1.cell? ⟨w.heap.size, 5, none⟩ = some (.int .i64 0) := by rw [cell_of_row _ _ _ _ _ _ Q4]; rfl
  have G5 := frozen_of_row w1 (w.heap.size) 5 _ _ Q4
  have y6 : w1.cell? ⟨w.heap.size, 6, none⟩ = some (.slice none 0 0) := by rw [cell_of_row _ _ _ _ _ _ Q4]; rfl
  have G6 := frozen_of_row w1 (w.heap.size) 6 _ _ Q4
  clear hb
  go_wp2_with fail
  have Q7 := row_store7 6 (.slice aT 0 0) (row_store7 5 (.int .i64 1) (row_store7 4 (.int .i64 2) (row_store7 3 (.int .i64 2) (row_store7 2 (.int .i64 5) (row_store7 1 (.slice (some ⟨bC, 0, none⟩) 2 2) (row_store7 0 (.slice (some ⟨bS, 0, none⟩) 3 3) (Q4)))))))
  simp only [List.setIfInBounds_toArray, List.set_cons_zero, List.set_cons_succ] at Q7
  refine bodyPost_ret (v := .agg #[.slice (some ⟨bS, 0, none⟩) 3 3, .slice (some ⟨bC, 0, none⟩) 2 2, .int .i64 5, .int .i64 2, .int .i64 2, .int .i64 1, .slice aT 0 0]) (results_cell_row (P := Try.prog) (by rfl) _ _ (w.heap.size) _ _ (0, 0) _ (by rfl) Q7 Try.underlying28 rfl (by kernel_rfl)) rfl ?_
  exact ⟨bS, bC, aT, rfl, ((((((((oS).setBelow (a := ⟨w.heap.size, 0, none⟩) (by simp) (.slice (some ⟨bS, 0, none⟩) 3 3)).setBelow (a := ⟨w.heap.size, 1, none⟩) (by simp) (.slice (some ⟨bC, 0, none⟩) 2 2)).setBelow (a := ⟨w.heap.size, 2, none⟩) (by simp) (.int .i64 5)).setBelow (a := ⟨w.heap.size, 3, none⟩) (by simp) (.int .i64 2)).setBelow (a := ⟨w.heap.size, 4, none⟩) (by simp) (.int .i64 2)).setBelow (a := ⟨w.heap.size, 5, none⟩) (by simp) (.int .i64 1)).setBelow (a := ⟨w.heap.size, 6, none⟩) (by simp) (.slice aT 0 0)).rebase (by simp), ((((((((oC).setBelow (a := ⟨w.heap.size, 0, none⟩) (by simp) (.slice (some ⟨bS, 0, none⟩) 3 3)).setBelow (a := ⟨w.heap.size, 1, none⟩) (by simp) (.slice (some ⟨bC, 0, none⟩) 2 2)).setBelow (a := ⟨w.heap.size, 2, none⟩) (by simp) (.int .i64 5)).setBelow (a := ⟨w.heap.size, 3, none⟩) (by simp) (.int .i64 2)).setBelow (a := ⟨w.heap.size, 4, none⟩) (by simp) (.int .i64 2)).setBelow (a := ⟨w.heap.size, 5, none⟩) (by simp) (.int .i64 1)).setBelow (a := ⟨w.heap.size, 6, none⟩) (by simp) (.slice aT 0 0)).rebase (by simp), (((((((B1).setCell (p := ⟨w.heap.size, 0, none⟩) (by simp) (.slice (some ⟨bS, 0, none⟩) 3 3)).setCell (p := ⟨w.heap.size, 1, none⟩) (by simp) (.slice (some ⟨bC, 0, none⟩) 2 2)).setCell (p := ⟨w.heap.size, 2, none⟩) (by simp) (.int .i64 5)).setCell (p := ⟨w.heap.size, 3, none⟩) (by simp) (.int .i64 2)).setCell (p := ⟨w.heap.size, 4, none⟩) (by simp) (.int .i64 2)).setCell (p := ⟨w.heap.size, 5, none⟩) (by simp) (.int .i64 1)).setCell (p := ⟨w.heap.size, 6, none⟩) (by simp) (.slice aT 0 0)⟩
theorem impl_NewDesk (w : World) :
    Calls Try.prog 16 #[] w fun e w' => ∃ bS bC, e = .returned (.agg #[.slice (some ⟨bS, 0, none⟩) 3 3, .slice (some ⟨bC, 0, none⟩) 2 2, .int .i64 5, .int .i64 2, .int .i64 2, .int .i64 1, .slice none 0 0]) ∧ OwnInts w' w.heap.size (.slice (some ⟨bS, 0, none⟩) 3 3) [2, 2, 2] ∧ OwnInts w' w.heap.size (.slice (some ⟨bC, 0, none⟩) 2 2) [0, 7] ∧ bS < bC ∧ Below w.heap.size w w' :=
  (NewDesk_any w).mono fun e w' ⟨bS, bC, aT, h1, h2, h3⟩ => by subst h2; exact ⟨bS, bC, h1, h3⟩

end Go.Proofs.Ytgaelpcghljihaa
