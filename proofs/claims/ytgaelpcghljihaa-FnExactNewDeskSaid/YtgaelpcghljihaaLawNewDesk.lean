/-
  NewDesk answers as its model, in memory of its own. By an AI agent.
-/
import Derived.Test.YtgaelpcghljihaaDesk2
namespace Go.Proofs.Ytgaelpcghljihaa
open Go.RowKit Cv
set_option linter.unusedVariables false
set_option linter.unusedSimpArgs false

theorem DeskAt.grown {w w' : World} {b : Nat} {s c : Value} {v p d h : Int} {t : Value} {row : Option Nat} (l : DeskAt w b s c v p d h t) (hg : w.grownBy w' row) (hne : some b ≠ row) : DeskAt w' b s c v p d h t :=
  ⟨cell_grown l.c0 hg l.lt hne, cell_grown l.c1 hg l.lt hne, cell_grown l.c2 hg l.lt hne, cell_grown l.c3 hg l.lt hne, cell_grown l.c4 hg l.lt hne, cell_grown l.c5 hg l.lt hne, cell_grown l.c6 hg l.lt hne, Nat.lt_of_lt_of_le l.lt hg.size⟩

set_option maxRecDepth 100000 in
set_option maxHeartbeats 4000000 in
theorem law_NewDesk (w : World) :
    Calls Try.prog 3 #[] w fun e w' => e = .returned (.bool true) ∧ Below w.heap.size w w' := by
  go_enter Try.func3, Try.ntmps3
  go_wp2_with fail
  refine (spec_NewDesk _).mono ?_
  rintro e w1 ⟨bS1, bC1, aT1, rfl, oS1, oC1, B⟩
  have D1 := deskAt_new w1 (.slice (some ⟨bS1, 0, none⟩) 3 3) (.slice (some ⟨bC1, 0, none⟩) 2 2) 5 2 2 1 (.slice aT1 0 0) 28
  have lS1 := oS1.base_le
  have lC1 := oC1.base_le
  go_wp2_with fail
  refine (impl_NewDesk _).mono ?_
  rintro e w2 ⟨bS2, bC2, rfl, oS2, oC2, hlt, hb⟩
  have hq : Below w1.heap.size w1 w2 := Below.trans ((Below.refl _ _).alloc (Nat.le_refl _) _) (hb.mono (by simp))
  replace D1 := D1.below hb
  replace oS1 := oS1.below hq
  replace oC1 := oC1.below hq
  replace B := B.trans (hq.mono B.size)
  have lS2 := oS2.base_le
  have lC2 := oC2.base_le
  simp only [World.size_alloc] at lS2 lC2
  have D2 := deskAt_new w2 (.slice (some ⟨bS2, 0, none⟩) 3 3) (.slice (some ⟨bC2, 0, none⟩) 2 2) 5 2 2 1 (.slice none 0 0) 28
  have D1a := D1
  obtain ⟨c0, c1, c2, c3, c4, c5, c6, lt1⟩ := D1a
  clear hb hq
  go_wp2_with fail
  refine (eqDesk_new bS2 bC2 bS1 bC1 none aT1 _ (own_ints (oS2.alloc _)) (own_ints (oS1.alloc _)) (own_ints (oC2.alloc _)) (own_ints (oC1.alloc _))).mono ?_
  rintro e w3 ⟨rfl, hb⟩
  have hq : Below w2.heap.size w2 w3 := Below.trans ((Below.refl _ _).alloc (Nat.le_refl _) _) (hb.mono (by simp))
  replace D1 := D1.below hq
  replace D2 := D2.below hb
  replace oS1 := oS1.below hq
  replace oC1 := oC1.below hq
  replace oS2 := oS2.below hq
  replace oC2 := oC2.below hq
  replace B := B.trans (hq.mono B.size)
  have s3 := D2.lt
  have D2a := D2
  clear c0 c1 c2 c3 c4 c5 c6 lt1 hb hq
  obtain ⟨c0, c1, c2, c3, c4, c5, c6, lt1⟩ := D2a
  have o2 : w1.heap.size + 1 ≤ w3.heap.size := by omega
  go_wp2_with fail
  refine (markDesk_new bS2 bC2 _ _ (by omega) oS2 oC2).mono ?_
  rintro e w4 ⟨rfl, wm, nS, nC, g1, g2⟩
  replace D1 := (D1.grown g1 (fun e => by have e' : w1.heap.size = bS2 := Option.some.inj e; omega)).grown g2 (fun e => by have e' : w1.heap.size = bC2 := Option.some.inj e; omega)
  replace D2 := (D2.grown g1 (fun e => by have e' : w2.heap.size = bS2 := Option.some.inj e; omega)).grown g2 (fun e => by have e' : w2.heap.size = bC2 := Option.some.inj e; omega)
  replace oS1 := (oS1.kept g1 (.inr (fun e => by have e' : bS1 = bS2 := Option.some.inj e; omega))).kept g2 (.inr (fun e => by have e' : bS1 = bC2 := Option.some.inj e; omega))
  replace oC1 := (oC1.kept g1 (.inr (fun e => by have e' : bC1 = bS2 := Option.some.inj e; omega))).kept g2 (.inr (fun e => by have e' : bC1 = bC2 := Option.some.inj e; omega))
  have zm := g1.size
  replace B := (B.grown g1 B.size (fun k e => by cases e; omega)).grown g2 (Nat.le_trans B.size g1.size) (fun k e => by cases e; omega)
  have D2a := D2
  clear c0 c1 c2 c3 c4 c5 c6 lt1 oS2 oC2
  obtain ⟨c0, c1, c2, c3, c4, c5, c6, lt1⟩ := D2a
  go_wp2_with fail
  refine (heldDesk_new bS2 bC2 _ (own_ints nS) (own_ints nC)).mono ?_
  rintro e w5 ⟨rfl, hb⟩
  replace D1 := D1.below hb
  replace D2 := D2.below hb
  replace oS1 := oS1.below hb
  replace oC1 := oC1.below hb
  replace nS := nS.below hb
  replace nC := nC.below hb
  replace B := B.trans (hb.mono B.size)
  clear hb c0 c1 c2 c3 c4 c5 c6 lt1 g1 g2 zm
  go_wp2_with fail
  refine (impl_NewDesk _).mono ?_
  rintro e w6 ⟨bS6, bC6, rfl, oS6, oC6, _, hb⟩
  replace D1 := D1.below hb
  replace D2 := D2.below hb
  replace oS1 := oS1.below hb
  replace oC1 := oC1.below hb
  replace nS := nS.below hb
  replace nC := nC.below hb
  replace B := B.trans (hb.mono B.size)
  have D6 := deskAt_new w6 (.slice (some ⟨bS6, 0, none⟩) 3 3) (.slice (some ⟨bC6, 0, none⟩) 2 2) 5 2 2 1 (.slice none 0 0) 28
  have D1a := D1
  obtain ⟨c0, c1, c2, c3, c4, c5, c6, lt1⟩ := D1a
  clear hb
  go_wp2_with fail
  refine (eqDesk_new bS6 bC6 bS1 bC1 none aT1 _ (own_ints (oS6.alloc _)) (own_ints (oS1.alloc _)) (own_ints (oC6.alloc _)) (own_ints (oC1.alloc _))).mono ?_
  rintro e w7 ⟨rfl, hb⟩
  have hq : Below w6.heap.size w6 w7 := Below.trans ((Below.refl _ _).alloc (Nat.le_refl _) _) (hb.mono (by simp))
  replace D2 := D2.below hq
  replace nS := nS.below hq
  replace nC := nC.below hq
  replace B := B.trans (hq.mono B.size)
  clear c0 c1 c2 c3 c4 c5 c6 lt1 hb hq
  obtain ⟨c0, c1, c2, c3, c4, c5, c6, lt1⟩ := D2
  go_wp2_with fail
  refine (heldDesk_new bS2 bC2 _ (own_ints nS) (own_ints nC)).mono ?_
  rintro e w8 ⟨rfl, hb⟩
  replace B := B.trans (hb.mono B.size)
  go_wp2_with fail
  go_ret
  exact ⟨rfl, B⟩

end Go.Proofs.Ytgaelpcghljihaa
