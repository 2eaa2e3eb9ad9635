/-
  The contract of the model of OrderPlaces. By an AI agent.
-/
import Derived.Test.YtdacokgmcenjoaaOpS
namespace Go.Proofs.Ytdacokgmcenjoaa
open Go.RowKit Go.Shelf Cv
set_option linter.unusedVariables false
set_option linter.unusedSimpArgs false
set_option maxRecDepth 100000

set_option maxHeartbeats 4000000 in
theorem spec_OrderPlaces_e1 (as0 : Addr) (S : List Int) (cap : Nat) (hn : S.length ≤ 4294967296) (ac : Addr) (C : List Int) (capc : Nat) (hnc : C.length ≤ 4294967296) (ap : Addr) (p : List Int) (capp : Nat) (hnp : p.length ≤ 4294967296) (w : World) (hS : Ints w (some as0) S) (hC : Ints w (some ac) C) (hp : Ints w (some ap) p) (E : Int) (hE : eCode S C = E) (hE0 : E ≠ 0) :
    Calls Try.prog 16 #[.agg #[.slice (some as0) S.length cap], .slice (some ac) C.length capc, .slice (some ap) p.length capp] w fun e w' => ∃ m vs v, e = .returned (.tuple #[.agg #[vs], v, .int .i64 (eOrd S C p)]) ∧ w.heap.size ≤ m ∧ RowIn vs w.heap.size m ∧ OwnInts w' w.heap.size vs (vOrdS S C p) ∧ OwnInts w' m v (vOrdC S C p) ∧ m ≤ w'.heap.size ∧ Below w.heap.size w w' := by
  obtain ⟨W0, hW0, cS, rR, z0, B0⟩ := box2r w (.slice (some as0) S.length cap) (.slice none 0 0) 28
  have HW0 := Lib.hid hW0
  have z0a : w.heap.size + 2 ≤ W0.heap.size := by omega
  have h1 := l01Given_any (some as0) S cap hn (some ac) C capc hnc W0 (hS.below B0) (hC.below B0)
  rw [hE] at h1
  have H1 := Lib.hid h1
  clear hW0 z0 h1
  have hEb : (E != 0) = true := by simpa using hE0
  have hEc : (E == 0) = false := by simpa using hE0
  have HE : Hid (eOrd S C p = E) := Lib.hid (by unfold eOrd; rw [if_neg (by rw [hE]; exact hE0), hE])
  have HS0 : Hid (vOrdS S C p = []) := Lib.hid (by unfold vOrdS; rw [if_neg (by rw [HE.out]; exact hE0)])
  have HC0 : Hid (vOrdC S C p = []) := Lib.hid (by unfold vOrdC; rw [if_neg (by rw [HE.out]; exact hE0)])
  clear hE hE0
  go_enter Try.func16, Try.ntmps16
  go_wp2_with fail
  rw [← HW0.out]
  refine H1.out.mono ?_
  rintro e w1 ⟨rfl, hb1⟩
  have s1 : w.heap.size + 2 ≤ w1.heap.size := by have := hb1.size; omega
  have cS1 := kept_cell hb1 cS (by omega)
  have rR1 := row_block rR hb1 (by omega)
  have B1 := B0.trans (hb1.mono (by omega))
  clear H1 hb1 cS rR B0
  have rc : w1.cell? ⟨w.heap.size + 1, 0, none⟩ = some (.slice none 0 0) := by rw [cell_of_row w1 (w.heap.size + 1) 0 _ _ _ rR1]; rfl
  have rf : w1.frozen? ⟨w.heap.size + 1, 0, none⟩ = false := by have h' := rR1; simp [World.frozen?, h']
  have rs : (w1.setCell ⟨w.heap.size + 1, 0, none⟩ (.slice none 0 0)).cell? ⟨w.heap.size + 1, 0, none⟩ = some (.slice none 0 0) := World.cell?_setCell_same' _ _ _ (by rw [rc]; rfl)
  have B9 : Below w.heap.size w (w1.setCell ⟨w.heap.size + 1, 0, none⟩ (.slice none 0 0)) := B1.setCell (show w.heap.size ≤ w.heap.size + 1 by omega) _
  go_wp2_with fail
  refine bodyPost_ret (by rw [results_cell_tmp2o rfl]; go_simp; try rfl) rfl ?_
  exact ⟨w.heap.size, .slice none 0 0, _, by rw [HE.out], Nat.le_refl _, fun k hk => (by cases hk), by rw [HS0.out]; exact own_nil _ _, by rw [HC0.out]; exact own_nil _ _, B9.size, B9⟩

set_option maxHeartbeats 4000000 in
theorem spec_OrderPlaces_e2 (as0 : Addr) (S : List Int) (cap : Nat) (hn : S.length ≤ 4294967296) (ac : Addr) (C : List Int) (capc : Nat) (hnc : C.length ≤ 4294967296) (ap : Addr) (p : List Int) (capp : Nat) (hnp : p.length ≤ 4294967296) (w : World) (hS : Ints w (some as0) S) (hC : Ints w (some ac) C) (hp : Ints w (some ap) p) (hE : eCode S C = 0) (ho : isOrd p S.length = false) :
    Calls Try.prog 16 #[.agg #[.slice (some as0) S.length cap], .slice (some ac) C.length capc, .slice (some ap) p.length capp] w fun e w' => ∃ m vs v, e = .returned (.tuple #[.agg #[vs], v, .int .i64 (eOrd S C p)]) ∧ w.heap.size ≤ m ∧ RowIn vs w.heap.size m ∧ OwnInts w' w.heap.size vs (vOrdS S C p) ∧ OwnInts w' m v (vOrdC S C p) ∧ m ≤ w'.heap.size ∧ Below w.heap.size w w' := by
  obtain ⟨W0, hW0, cS, rR, z0, B0⟩ := box2r w (.slice (some as0) S.length cap) (.slice none 0 0) 28
  have HW0 := Lib.hid hW0
  have z0a : w.heap.size + 2 ≤ W0.heap.size := by omega
  have h1 := l01Given_any (some as0) S cap hn (some ac) C capc hnc W0 (hS.below B0) (hC.below B0)
  rw [hE] at h1
  have H1 := Lib.hid h1
  clear hW0 z0 h1
  have hSp := (eCode_zero hE).1
  have hS1 := hSp.lo
  have hS8 := hSp.hi
  have HO := Lib.hid ho
  have HE : Hid (eOrd S C p = 2) := Lib.hid (by unfold eOrd; rw [if_pos hE, if_neg (by rw [ho]; decide)])
  have HS0 : Hid (vOrdS S C p = []) := Lib.hid (by unfold vOrdS; rw [if_neg (by rw [HE.out]; decide)])
  have HC0 : Hid (vOrdC S C p = []) := Lib.hid (by unfold vOrdC; rw [if_neg (by rw [HE.out]; decide)])
  clear hE ho hSp
  go_enter Try.func16, Try.ntmps16
  go_wp2_with fail
  rw [← HW0.out]
  refine H1.out.mono ?_
  rintro e w1 ⟨rfl, hb1⟩
  have s1 : w.heap.size + 2 ≤ w1.heap.size := by have := hb1.size; omega
  have cS1 := kept_cell hb1 cS (by omega)
  have rR1 := row_block rR hb1 (by omega)
  have B1 := B0.trans (hb1.mono (by omega))
  clear H1 hb1 cS rR B0
  go_wp2_with fail
  have h2 := l03Order_any (some ap) p capp hnp S.length hS1 hS8 w1 (hp.below B1)
  rw [HO.out] at h2
  refine h2.mono ?_
  rintro e w2 ⟨rfl, hb2⟩
  have rR2 := row_block rR1 hb2 (by omega)
  have B2 := B1.trans (hb2.mono B1.size)
  clear h2 hb2 rR1 cS1 B1
  have rc : w2.cell? ⟨w.heap.size + 1, 0, none⟩ = some (.slice none 0 0) := by rw [cell_of_row w2 (w.heap.size + 1) 0 _ _ _ rR2]; rfl
  have rf : w2.frozen? ⟨w.heap.size + 1, 0, none⟩ = false := by have h' := rR2; simp [World.frozen?, h']
  have rs : (w2.setCell ⟨w.heap.size + 1, 0, none⟩ (.slice none 0 0)).cell? ⟨w.heap.size + 1, 0, none⟩ = some (.slice none 0 0) := World.cell?_setCell_same' _ _ _ (by rw [rc]; rfl)
  have B9 : Below w.heap.size w (w2.setCell ⟨w.heap.size + 1, 0, none⟩ (.slice none 0 0)) := B2.setCell (show w.heap.size ≤ w.heap.size + 1 by omega) _
  go_wp2_with fail
  refine bodyPost_ret (by rw [results_cell_tmp2o rfl]; go_simp; try rfl) rfl ?_
  exact ⟨w.heap.size, .slice none 0 0, _, by rw [HE.out], Nat.le_refl _, fun k hk => (by cases hk), by rw [HS0.out]; exact own_nil _ _, by rw [HC0.out]; exact own_nil _ _, B9.size, B9⟩

set_option maxHeartbeats 4000000 in
theorem spec_OrderPlaces_ok (as0 : Addr) (S : List Int) (cap : Nat) (hn : S.length ≤ 4294967296) (ac : Addr) (C : List Int) (capc : Nat) (hnc : C.length ≤ 4294967296) (ap : Addr) (p : List Int) (capp : Nat) (hnp : p.length ≤ 4294967296) (w : World) (hS : Ints w (some as0) S) (hC : Ints w (some ac) C) (hp : Ints w (some ap) p) (hE : eCode S C = 0) (ho : isOrd p S.length = true) :
    Calls Try.prog 16 #[.agg #[.slice (some as0) S.length cap], .slice (some ac) C.length capc, .slice (some ap) p.length capp] w fun e w' => ∃ m vs v, e = .returned (.tuple #[.agg #[vs], v, .int .i64 (eOrd S C p)]) ∧ w.heap.size ≤ m ∧ RowIn vs w.heap.size m ∧ OwnInts w' w.heap.size vs (vOrdS S C p) ∧ OwnInts w' m v (vOrdC S C p) ∧ m ≤ w'.heap.size ∧ Below w.heap.size w w' := by
  obtain ⟨W0, hW0, cS, rR, z0, B0⟩ := box2r w (.slice (some as0) S.length cap) (.slice none 0 0) 28
  have HW0 := Lib.hid hW0
  have z0a : w.heap.size + 2 ≤ W0.heap.size := by omega
  have h1 := l01Given_any (some as0) S cap hn (some ac) C capc hnc W0 (hS.below B0) (hC.below B0)
  rw [hE] at h1
  have H1 := Lib.hid h1
  clear hW0 z0 h1
  obtain ⟨hSp, hc1, hc2⟩ := eCode_zero hE
  have hS1 := hSp.lo
  have hS8 := hSp.hi
  have HSp := Lib.hid hSp
  have hlenC := code_len hSp hc1 hc2
  have NW := nW_bd hSp
  have HC9 : Hid (∀ i, i < C.length → 0 ≤ gi C i ∧ gi C i ≤ 9223372036854775807) := Lib.hid fun i hi => by have := hc1 i hi; omega
  have HO := Lib.hid ho
  have HE : Hid (eOrd S C p = 0) := Lib.hid (by unfold eOrd; rw [if_pos hE, if_pos ho])
  have HVS : Hid (vOrdS S C p = plcD p S) := Lib.hid (by unfold vOrdS; rw [if_pos HE.out])
  have HVC : Hid (vOrdC S C p = putTo [] (fun i => ordW S p (gi C i)) C.length) := Lib.hid (by unfold vOrdC; rw [if_pos HE.out])
  have HPL := Lib.hid (fun W (h1 : Ints W (some as0) S) (h2 : Ints W (some ac) C) (h3 : Ints W (some ap) p) => l03Places_any as0 S cap hSp ac C capc hlenC HC9.out ap p capp ho W h1 h2 h3)
  clear hE hSp hc1 hc2 ho
  go_enter Try.func16, Try.ntmps16
  go_wp2_with fail
  rw [← HW0.out]
  refine H1.out.mono ?_
  rintro e w1 ⟨rfl, hb1⟩
  have s1 : w.heap.size + 2 ≤ w1.heap.size := by have := hb1.size; omega
  have cS1 := kept_cell hb1 cS (by omega)
  have rR1 := row_block rR hb1 (by omega)
  have B1 := B0.trans (hb1.mono (by omega))
  clear H1 hb1 cS rR B0
  go_wp2_with fail
  have h2 := l03Order_any (some ap) p capp hnp S.length hS1 hS8 w1 (hp.below B1)
  rw [HO.out] at h2
  refine h2.mono ?_
  rintro e w2 ⟨rfl, hb2⟩
  have cS2 := kept_cell hb2 cS1 (by omega)
  have rR2 := row_block rR1 hb2 (by omega)
  have B2 := B1.trans (hb2.mono B1.size)
  have s2 : w.heap.size + 2 ≤ w2.heap.size := by have := hb2.size; omega
  clear h2 hb2 rR1 cS1 B1 s1
  go_wp2_with fail
  refine (HPL.out w2 (hS.below B2) (hC.below B2) (hp.below B2)).mono ?_
  rintro e w3 ⟨m, vs, v, rfl, hm, rin, own, oC, hm3, hb3⟩
  rw [← HVS.out] at own
  rw [← HVC.out] at oC
  have rR3 := row_block rR2 hb3 (by omega)
  have B3 := B2.trans (hb3.mono B2.size)
  have s3 := hb3.size
  obtain ⟨aS, kS, hvS, _⟩ := own.ints
  subst hvS
  obtain ⟨aV, kV, hvV, _⟩ := oC.ints
  subst hvV
  have b34 : Below w3.heap.size w3 (w3.alloc (.cells #[.slice aS (vOrdS S C p).length kS] 28)) := (Below.refl _ _).alloc (Nat.le_refl _) _
  obtain ⟨w4, hw4⟩ : ∃ w4, w4 = w3.alloc (.cells #[.slice aS (vOrdS S C p).length kS] 28) := ⟨_, rfl⟩
  rw [← hw4] at b34
  have x4 : w4.cell? ⟨w3.heap.size, 0, none⟩ = some (.slice aS (vOrdS S C p).length kS) := by rw [hw4]; exact cell_new _ _ _
  have rR4 := row_block rR3 b34 (by omega)
  have own4 := own.below b34
  have oC4 := oC.below b34
  have B4 := B3.trans (b34.mono B3.size)
  have s4 := b34.size
  have rc : w4.cell? ⟨w.heap.size + 1, 0, none⟩ = some (.slice none 0 0) := by rw [cell_of_row w4 (w.heap.size + 1) 0 _ _ _ rR4]; rfl
  have rf : w4.frozen? ⟨w.heap.size + 1, 0, none⟩ = false := by have h' := rR4; simp [World.frozen?, h']
  have rs : (w4.setCell ⟨w.heap.size + 1, 0, none⟩ (.slice aS (vOrdS S C p).length kS)).cell? ⟨w.heap.size + 1, 0, none⟩ = some (.slice aS (vOrdS S C p).length kS) := World.cell?_setCell_same' _ _ _ (by rw [rc]; rfl)
  have B9 : Below w.heap.size w (w4.setCell ⟨w.heap.size + 1, 0, none⟩ (.slice aS (vOrdS S C p).length kS)) := B4.setCell (by show w.heap.size ≤ w.heap.size + 1; omega) _
  have oS9 := own4.setBelow (a := ⟨w.heap.size + 1, 0, none⟩) (by show w.heap.size + 1 < w2.heap.size; omega) (.slice aS (vOrdS S C p).length kS)
  have oC9 := oC4.setBelow (a := ⟨w.heap.size + 1, 0, none⟩) (by show w.heap.size + 1 < m; omega) (.slice aS (vOrdS S C p).length kS)
  have HW4 := Lib.hid hw4
  clear hw4 b34 own oC rR2 rR3 cS2 own4 oC4
  go_wp2_with (rw [← HW4.out])
  refine bodyPost_ret (by rw [results_cell_tmp2o rfl]; go_simp; try rfl) rfl ?_
  exact ⟨m, _, _, by rw [HE.out], by omega, rin.mono (by omega), oS9.rebase (by omega), oC9, by simp; omega, B9⟩

theorem spec_OrderPlaces (as0 : Addr) (S : List Int) (cap : Nat) (hn : S.length ≤ 4294967296) (ac : Addr) (C : List Int) (capc : Nat) (hnc : C.length ≤ 4294967296) (ap : Addr) (p : List Int) (capp : Nat) (hnp : p.length ≤ 4294967296) (w : World) (hS : Ints w (some as0) S) (hC : Ints w (some ac) C) (hp : Ints w (some ap) p) :
    Calls Try.prog 16 #[.agg #[.slice (some as0) S.length cap], .slice (some ac) C.length capc, .slice (some ap) p.length capp] w fun e w' => ∃ m vs v, e = .returned (.tuple #[.agg #[vs], v, .int .i64 (eOrd S C p)]) ∧ w.heap.size ≤ m ∧ RowIn vs w.heap.size m ∧ OwnInts w' w.heap.size vs (vOrdS S C p) ∧ OwnInts w' m v (vOrdC S C p) ∧ m ≤ w'.heap.size ∧ Below w.heap.size w w' := by
  by_cases h1 : eCode S C = 0
  · cases h2 : isOrd p S.length with
    | true => exact spec_OrderPlaces_ok as0 S cap hn ac C capc hnc ap p capp hnp w hS hC hp h1 h2
    | false => exact spec_OrderPlaces_e2 as0 S cap hn ac C capc hnc ap p capp hnp w hS hC hp h1 h2
  · exact spec_OrderPlaces_e1 as0 S cap hn ac C capc hnc ap p capp hnp w hS hC hp _ rfl h1

end Go.Proofs.Ytdacokgmcenjoaa
