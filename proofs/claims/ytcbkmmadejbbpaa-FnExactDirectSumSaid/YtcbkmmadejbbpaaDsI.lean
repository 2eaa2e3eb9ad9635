/-
  The contract of the program's DirectSum, way by way. By an AI agent.
-/
import Derived.Test.YtcbkmmadejbbpaaDsU
import Derived.Test.YtcbkmmadejbbpaaCat
import Derived.Test.YtcbkmmadejbbpaaErr
import Derived.Test.YtcbkmmadejbbpaaJn9
import Derived.Deep.RegionHeld3
namespace Go.Proofs.Ytcbkmmadejbbpaa
open Go.RowKit Cv
set_option linter.unusedVariables false
set_option linter.unusedSimpArgs false
set_option maxRecDepth 100000

theorem eDs_or {S C X O : List Int} (h1 : isSp S = true) (h2 : isSp X = true) (h : orI (eCode S C) (eCode X O) ≠ 0) : eDs S C X O = orI (eCode S C) (eCode X O) := by
  unfold orI at h ⊢
  by_cases h3 : eCode S C = 0
  · rw [if_pos h3] at h ⊢; exact eDs_c2 h1 h2 h3 h
  · rw [if_neg h3]; exact eDs_c1 h1 h2 h3
theorem or_zero {x y : Int} (h : orI x y = 0) : x = 0 ∧ y = 0 := by
  unfold orI at h
  split at h
  · rename_i hx; exact ⟨hx, h⟩
  · rename_i hx; exact absurd h hx
/-- the two lists that are put behind one another -/
def two (S X : List Int) : Nat → List Int := fun k => if k = 0 then S else X
theorem cat_two (S X : List Int) : catTo (two S X) 2 = S ++ X := by simp [catTo, two]

theorem eBo_sp {S C X D : List Int} (h : eBo S C X D = 0) : isSp S = true ∧ isSp X = true := by
  unfold eBo at h
  split at h
  · rename_i h1; exact h1
  · omega
theorem eDs_bo {S C X D : List Int} (h : eBo S C X D ≠ 0) : eDs S C X D = eBo S C X D := by
  by_cases hs : isSp S = true ∧ isSp X = true
  · rw [eBo_or hs.1 hs.2] at h ⊢; exact eDs_or hs.1 hs.2 h
  · rw [eDs_inv hs]; unfold eBo; rw [if_neg hs]

set_option maxHeartbeats 4000000 in
theorem impl_DirectSum_er (as0 : Addr) (S : List Int) (cap : Nat) (hn : S.length ≤ 4294967296) (ac : Addr) (C : List Int) (capc : Nat) (hnc : C.length ≤ 4294967296) (ax : Addr) (X : List Int) (capx : Nat) (hnx : X.length ≤ 4294967296) (ad : Addr) (D : List Int) (capd : Nat) (hnd : D.length ≤ 4294967296) (w : World) (hS : Ints w (some as0) S) (hC : Ints w (some ac) C) (hX : Ints w (some ax) X) (hD : Ints w (some ad) D) (E : Int) (hE : eBo S C X D = E) (hE0 : E ≠ 0) :
    Calls Try.prog 16 #[.agg #[.slice (some as0) S.length cap], .slice (some ac) C.length capc, .agg #[.slice (some ax) X.length capx], .slice (some ad) D.length capd] w fun e w' => ∃ m vs v, e = .returned (.tuple #[.agg #[vs], v, .int .i64 (eDs S C X D)]) ∧ w.heap.size ≤ m ∧ RowIn vs w.heap.size m ∧ OwnInts w' w.heap.size vs (vDsS S C X D) ∧ OwnInts w' m v (vDsC S C X D) ∧ m ≤ w'.heap.size ∧ Below w.heap.size w w' := by
  obtain ⟨W0, hW0, cS, cX, rR, z0, B0⟩ := box3 w (.slice (some as0) S.length cap) (.slice (some ax) X.length capx) (.slice none 0 0) 26
  have HW0 := Lib.hid hW0
  have z0a : w.heap.size + 3 ≤ W0.heap.size := by omega
  clear hW0 z0
  have HE : Hid (eDs S C X D = E) := Lib.hid (by rw [← hE]; exact eDs_bo (by rw [hE]; exact hE0))
  have HS0 : Hid (vDsS S C X D = []) := Lib.hid (by unfold vDsS; rw [if_neg (by rw [HE.out]; exact hE0)])
  have HC0 : Hid (vDsC S C X D = []) := Lib.hid (by unfold vDsC; rw [if_neg (by rw [HE.out]; exact hE0)])
  have hEb : (E != 0) = true := by simpa using hE0
  have HBO := Lib.hid hE
  clear hE hE0
  go_enter Try.func16, Try.ntmps16
  go_wp2_with fail
  rw [← HW0.out]
  have h1 := bothError_any (some as0) S cap hn (some ac) C capc hnc (some ax) X capx hnx (some ad) D capd hnd W0 (hS.below B0) (hC.below B0) (hX.below B0) (hD.below B0)
  rw [HBO.out] at h1
  refine h1.mono ?_
  rintro e w5 ⟨rfl, hb5⟩
  have s5 : w.heap.size + 3 ≤ w5.heap.size := by have := hb5.size; omega
  have cS5 := kept_cell hb5 cS (by omega)
  have cX5 := kept_cell hb5 cX (by omega)
  have rR5 := row_below rR hb5 (by omega)
  have B5 := B0.trans (hb5.mono (by omega))
  clear h1 hb5
  have rc : w5.cell? ⟨w.heap.size + 1 + 1, 0, none⟩ = some (.slice none 0 0) := by rw [cell_of_row w5 (w.heap.size + 2) 0 _ _ _ rR5]; rfl
  have rf : w5.frozen? ⟨w.heap.size + 1 + 1, 0, none⟩ = false := by have h' := rR5; simp [World.frozen?, h']
  have rs : (w5.setCell ⟨w.heap.size + 1 + 1, 0, none⟩ (.slice none 0 0)).cell? ⟨w.heap.size + 1 + 1, 0, none⟩ = some (.slice none 0 0) := World.cell?_setCell_same' _ _ _ (by rw [rc]; rfl)
  have B9 : Below w.heap.size w (w5.setCell ⟨w.heap.size + 1 + 1, 0, none⟩ (.slice none 0 0)) := B5.setCell (show w.heap.size ≤ w.heap.size + 1 + 1 by omega) _
  go_wp2_with fail
  refine bodyPost_ret (by rw [results_cell_tmp2 rfl]; go_simp; try rfl) rfl ?_
  exact ⟨w.heap.size, .slice none 0 0, _, by rw [HE.out], Nat.le_refl _, fun k hk => (by cases hk), by rw [HS0.out]; exact own_nil _ _, by rw [HC0.out]; exact own_nil _ _, B9.size, B9⟩


set_option maxHeartbeats 4000000 in
theorem impl_DirectSum_e5 (as0 : Addr) (S : List Int) (cap : Nat) (hn : S.length ≤ 4294967296) (ac : Addr) (C : List Int) (capc : Nat) (hnc : C.length ≤ 4294967296) (ax : Addr) (X : List Int) (capx : Nat) (hnx : X.length ≤ 4294967296) (ad : Addr) (D : List Int) (capd : Nat) (hnd : D.length ≤ 4294967296) (w : World) (hS : Ints w (some as0) S) (hC : Ints w (some ac) C) (hX : Ints w (some ax) X) (hD : Ints w (some ad) D) (hs : isSp S = true) (hx : isSp X = true) (hE : orI (eCode S C) (eCode X D) = 0) (hsx : isSp (S ++ X) = false) :
    Calls Try.prog 16 #[.agg #[.slice (some as0) S.length cap], .slice (some ac) C.length capc, .agg #[.slice (some ax) X.length capx], .slice (some ad) D.length capd] w fun e w' => ∃ m vs v, e = .returned (.tuple #[.agg #[vs], v, .int .i64 (eDs S C X D)]) ∧ w.heap.size ≤ m ∧ RowIn vs w.heap.size m ∧ OwnInts w' w.heap.size vs (vDsS S C X D) ∧ OwnInts w' m v (vDsC S C X D) ∧ m ≤ w'.heap.size ∧ Below w.heap.size w w' := by
  obtain ⟨W0, hW0, cS, cX, rR, z0, B0⟩ := box3 w (.slice (some as0) S.length cap) (.slice (some ax) X.length capx) (.slice none 0 0) 26
  have HW0 := Lib.hid hW0
  have z0a : w.heap.size + 3 ≤ W0.heap.size := by omega
  clear hW0 z0
  have HE : Hid (eDs S C X D = 3) := Lib.hid (eDs_big hs hx (or_zero hE).1 (or_zero hE).2 hsx)
  have HS0 : Hid (vDsS S C X D = []) := Lib.hid (by unfold vDsS; rw [if_neg (by rw [HE.out]; decide)])
  have HC0 : Hid (vDsC S C X D = []) := Lib.hid (by unfold vDsC; rw [if_neg (by rw [HE.out]; decide)])
  have HBO : Hid (eBo S C X D = 0) := Lib.hid (by rw [eBo_or hs hx]; exact hE)
  have hSp := (isSp_iff S).1 hs
  have hXp := (isSp_iff X).1 hx
  have hS8 := hSp.hi
  have hS1 := hSp.lo
  have hX8 := hXp.hi
  have HXp := Lib.hid hXp
  clear hE hSp hXp
  go_enter Try.func16, Try.ntmps16
  go_wp2_with fail
  rw [← HW0.out]
  have h1 := bothError_any (some as0) S cap hn (some ac) C capc hnc (some ax) X capx hnx (some ad) D capd hnd W0 (hS.below B0) (hC.below B0) (hX.below B0) (hD.below B0)
  rw [HBO.out] at h1
  refine h1.mono ?_
  rintro e w5 ⟨rfl, hb5⟩
  have s5 : w.heap.size + 3 ≤ w5.heap.size := by have := hb5.size; omega
  have cS5 := kept_cell hb5 cS (by omega)
  have cX5 := kept_cell hb5 cX (by omega)
  have rR5 := row_below rR hb5 (by omega)
  have B5 := B0.trans (hb5.mono (by omega))
  clear h1 hb5
  have hc2 := concat_n w5.heap.size 2 (by omega) (fun k => if k = 0 then as0 else ax) (two S X) (fun k => if k = 0 then cap else capx) (w5.alloc (.cells #[.slice (some as0) S.length cap, .slice (some ax) X.length capx] 22)) (lt_alloc _ _)
    (fun k hk => by
      have : k = 0 ∨ k = 1 := by omega
      rcases this with rfl | rfl <;> simp [two])
    (fun k hk => by
      have : k = 0 ∨ k = 1 := by omega
      rcases this with rfl | rfl
      · exact ⟨hS.below (B5.alloc (by omega) _), by show S.length ≤ 65536; omega⟩
      · exact ⟨hX.below (B5.alloc (by omega) _), by show X.length ≤ 65536; omega⟩)
    (by rw [cat_two]; simp; omega)
  rw [cat_two] at hc2
  obtain ⟨M, hM⟩ : ∃ M, M = (S ++ X).length := ⟨_, rfl⟩
  have HM := Lib.hid hM
  have hM16 : M ≤ 16 := by rw [hM]; simp; omega
  rw [← hM] at hc2
  have HCC := Lib.hid hc2
  clear hM hc2
  go_wp2_with fail
  refine HCC.out.mono ?_
  rintro e w6 ⟨g6, k6, rfl, own6, hb6⟩
  have h56 : Below w5.heap.size w5 w6 := Below.trans ((Below.refl _ w5).alloc (Nat.le_refl _) _) (hb6.mono (by simp))
  have s6 : w.heap.size + 3 ≤ w6.heap.size := by have := h56.size; omega
  have s56 := h56.size
  have cX6 := kept_cell h56 cX5 (by omega)
  have rR6 := row_below rR5 h56 (by omega)
  have B6 := B5.trans (h56.mono (by omega))
  have row6 := own6.rowIn
  have hg6 := own6.base_le
  simp only [World.size_alloc] at hg6
  clear hb6 h56 cS5 cX5 rR5 B5 HCC
  have cO7 := cell_new w6 (.slice (some ⟨g6, 0, none⟩) M k6) 26
  have cX7 := kept_cell ((Below.refl w6.heap.size w6).alloc (Nat.le_refl _) (.cells #[.slice (some ⟨g6, 0, none⟩) M k6] 26)) cX6 (by omega)
  have rR7 := row_alloc rR6 (.cells #[.slice (some ⟨g6, 0, none⟩) M k6] 26)
  have own7 := own6.alloc (.cells #[.slice (some ⟨g6, 0, none⟩) M k6] 26)
  have B7 := B6.alloc (by omega) (.cells #[.slice (some ⟨g6, 0, none⟩) M k6] 26)
  have hsp := IsSpace_any (some ⟨g6, 0, none⟩) (S ++ X) k6 (w6.alloc (.cells #[.slice (some ⟨g6, 0, none⟩) M k6] 26)) (by have := HM.out; omega) (own_ints own7)
  rw [← HM.out, hsx] at hsp
  have HSX := Lib.hid hsp
  clear hsp
  go_wp2_with fail
  refine HSX.out.mono ?_
  rintro e w8 ⟨rfl, hb8⟩
  have s78 := hb8.size
  rw [World.size_alloc] at s78
  have cO8 := kept_cell hb8 cO7 (by simp)
  have cX8 := kept_cell hb8 cX7 (by simp; omega)
  have rR8 := row_below rR7 hb8 (by simp; omega)
  have own8 := own7.below hb8
  have B8 := B7.trans (hb8.mono (by simp; omega))
  clear hb8 cO7 cX7 rR7 own7 B7 HSX own6 rR6 cX6 B6
  have rc : w8.cell? ⟨w.heap.size + 1 + 1, 0, none⟩ = some (.slice none 0 0) := by rw [cell_of_row w8 (w.heap.size + 2) 0 _ _ _ rR8]; rfl
  have rf : w8.frozen? ⟨w.heap.size + 1 + 1, 0, none⟩ = false := by have h' := rR8; simp [World.frozen?, h']
  have rs : (w8.setCell ⟨w.heap.size + 1 + 1, 0, none⟩ (.slice none 0 0)).cell? ⟨w.heap.size + 1 + 1, 0, none⟩ = some (.slice none 0 0) := World.cell?_setCell_same' _ _ _ (by rw [rc]; rfl)
  have B9 : Below w.heap.size w (w8.setCell ⟨w.heap.size + 1 + 1, 0, none⟩ (.slice none 0 0)) := B8.setCell (show w.heap.size ≤ w.heap.size + 1 + 1 by omega) _
  go_wp2_with fail
  refine bodyPost_ret (by rw [results_cell_tmp2 rfl]; go_simp; try rfl) rfl ?_
  exact ⟨w.heap.size, .slice none 0 0, _, by rw [HE.out], Nat.le_refl _, fun k hk => (by cases hk), by rw [HS0.out]; exact own_nil _ _, by rw [HC0.out]; exact own_nil _ _, B9.size, B9⟩


/-- a row that lies below m stays where nothing below m is turned -/
theorem own_across {W W' : World} {base g n c m : Nat} {L : List Int} (h : OwnInts W base (.slice (some ⟨g, 0, none⟩) n c) L) (hb : Below m W W') (hg : g < m) : OwnInts W' base (.slice (some ⟨g, 0, none⟩) n c) L := by
  refine ⟨h.1, ?_⟩
  rcases h.2 with ⟨hv, _⟩ | ⟨g', c', cur, hv, h1, h2, r⟩
  · simp at hv
  · simp only [Value.slice.injEq, Option.some.injEq, Addr.mk.injEq, and_true, true_and] at hv
    obtain ⟨rfl, rfl, rfl⟩ := hv
    exact .inr ⟨g, _, cur, rfl, h1, by rw [hb.block g hg]; exact h2, r⟩

set_option maxHeartbeats 4000000 in
theorem impl_DirectSum_ok (as0 : Addr) (S : List Int) (cap : Nat) (hn : S.length ≤ 4294967296) (ac : Addr) (C : List Int) (capc : Nat) (hnc : C.length ≤ 4294967296) (ax : Addr) (X : List Int) (capx : Nat) (hnx : X.length ≤ 4294967296) (ad : Addr) (D : List Int) (capd : Nat) (hnd : D.length ≤ 4294967296) (w : World) (hS : Ints w (some as0) S) (hC : Ints w (some ac) C) (hX : Ints w (some ax) X) (hD : Ints w (some ad) D) (hs : isSp S = true) (hx : isSp X = true) (hE : orI (eCode S C) (eCode X D) = 0) (hsx : isSp (S ++ X) = true) :
    Calls Try.prog 16 #[.agg #[.slice (some as0) S.length cap], .slice (some ac) C.length capc, .agg #[.slice (some ax) X.length capx], .slice (some ad) D.length capd] w fun e w' => ∃ m vs v, e = .returned (.tuple #[.agg #[vs], v, .int .i64 (eDs S C X D)]) ∧ w.heap.size ≤ m ∧ RowIn vs w.heap.size m ∧ OwnInts w' w.heap.size vs (vDsS S C X D) ∧ OwnInts w' m v (vDsC S C X D) ∧ m ≤ w'.heap.size ∧ Below w.heap.size w w' := by
  obtain ⟨W0, hW0, cS, cX, rR, z0, B0⟩ := box3 w (.slice (some as0) S.length cap) (.slice (some ax) X.length capx) (.slice none 0 0) 26
  have HW0 := Lib.hid hW0
  have z0a : w.heap.size + 3 ≤ W0.heap.size := by omega
  clear hW0 z0
  have HE : Hid (eDs S C X D = 0) := Lib.hid (eDs_ok hs hx (or_zero hE).1 (or_zero hE).2 hsx)
  have HVS : Hid (vDsS S C X D = S ++ X) := Lib.hid (by unfold vDsS; rw [if_pos HE.out])
  have HVC : Hid (vDsC S C X D = dsTo C D (nW X) C.length) := Lib.hid (by unfold vDsC; rw [if_pos HE.out])
  obtain ⟨N, hN⟩ : ∃ N : Nat, nW X = (N : Int) := ⟨(nW X).toNat, by have := nW_bd ((isSp_iff X).1 hx); omega⟩
  have hN2 : N ≤ 1024 := by have := nW_bd ((isSp_iff X).1 hx); omega
  have HN := Lib.hid hN
  have hcl := code_len0 (or_zero hE).1
  have hdl := code_len0 (or_zero hE).2
  have HCb : Hid (∀ i, i < C.length → 0 ≤ gi C i ∧ gi C i < 1024) := Lib.hid fun i hi => by have h1 := (eCode_zero (or_zero hE).1).2.1 i hi; have h2 := nW_bd ((isSp_iff S).1 hs); omega
  have HDb : Hid (∀ i, i < D.length → 0 ≤ gi D i ∧ gi D i < 1024) := Lib.hid fun i hi => by have h1 := (eCode_zero (or_zero hE).2).2.1 i hi; have h2 := nW_bd ((isSp_iff X).1 hx); omega
  clear hN
  have HBO : Hid (eBo S C X D = 0) := Lib.hid (by rw [eBo_or hs hx]; exact hE)
  have hSp := (isSp_iff S).1 hs
  have hXp := (isSp_iff X).1 hx
  have hS8 := hSp.hi
  have hS1 := hSp.lo
  have hX8 := hXp.hi
  have HXp := Lib.hid hXp
  clear hE hSp hXp
  go_enter Try.func16, Try.ntmps16
  go_wp2_with fail
  rw [← HW0.out]
  have h1 := bothError_any (some as0) S cap hn (some ac) C capc hnc (some ax) X capx hnx (some ad) D capd hnd W0 (hS.below B0) (hC.below B0) (hX.below B0) (hD.below B0)
  rw [HBO.out] at h1
  refine h1.mono ?_
  rintro e w5 ⟨rfl, hb5⟩
  have s5 : w.heap.size + 3 ≤ w5.heap.size := by have := hb5.size; omega
  have cS5 := kept_cell hb5 cS (by omega)
  have cX5 := kept_cell hb5 cX (by omega)
  have rR5 := row_below rR hb5 (by omega)
  have B5 := B0.trans (hb5.mono (by omega))
  clear h1 hb5
  have hc2 := concat_n w5.heap.size 2 (by omega) (fun k => if k = 0 then as0 else ax) (two S X) (fun k => if k = 0 then cap else capx) (w5.alloc (.cells #[.slice (some as0) S.length cap, .slice (some ax) X.length capx] 22)) (lt_alloc _ _)
    (fun k hk => by
      have : k = 0 ∨ k = 1 := by omega
      rcases this with rfl | rfl <;> simp [two])
    (fun k hk => by
      have : k = 0 ∨ k = 1 := by omega
      rcases this with rfl | rfl
      · exact ⟨hS.below (B5.alloc (by omega) _), by show S.length ≤ 65536; omega⟩
      · exact ⟨hX.below (B5.alloc (by omega) _), by show X.length ≤ 65536; omega⟩)
    (by rw [cat_two]; simp; omega)
  rw [cat_two] at hc2
  obtain ⟨M, hM⟩ : ∃ M, M = (S ++ X).length := ⟨_, rfl⟩
  have HM := Lib.hid hM
  have hM16 : M ≤ 16 := by rw [hM]; simp; omega
  rw [← hM] at hc2
  have HCC := Lib.hid hc2
  clear hM hc2
  go_wp2_with fail
  refine HCC.out.mono ?_
  rintro e w6 ⟨g6, k6, rfl, own6, hb6⟩
  have h56 : Below w5.heap.size w5 w6 := Below.trans ((Below.refl _ w5).alloc (Nat.le_refl _) _) (hb6.mono (by simp))
  have s6 : w.heap.size + 3 ≤ w6.heap.size := by have := h56.size; omega
  have s56 := h56.size
  have cX6 := kept_cell h56 cX5 (by omega)
  have rR6 := row_below rR5 h56 (by omega)
  have B6 := B5.trans (h56.mono (by omega))
  have row6 := own6.rowIn
  have hg6 := own6.base_le
  simp only [World.size_alloc] at hg6
  clear hb6 h56 cS5 cX5 rR5 B5 HCC
  have cO7 := cell_new w6 (.slice (some ⟨g6, 0, none⟩) M k6) 26
  have cX7 := kept_cell ((Below.refl w6.heap.size w6).alloc (Nat.le_refl _) (.cells #[.slice (some ⟨g6, 0, none⟩) M k6] 26)) cX6 (by omega)
  have rR7 := row_alloc rR6 (.cells #[.slice (some ⟨g6, 0, none⟩) M k6] 26)
  have own7 := own6.alloc (.cells #[.slice (some ⟨g6, 0, none⟩) M k6] 26)
  have B7 := B6.alloc (by omega) (.cells #[.slice (some ⟨g6, 0, none⟩) M k6] 26)
  have hsp := IsSpace_any (some ⟨g6, 0, none⟩) (S ++ X) k6 (w6.alloc (.cells #[.slice (some ⟨g6, 0, none⟩) M k6] 26)) (by have := HM.out; omega) (own_ints own7)
  rw [← HM.out, hsx] at hsp
  have HSX := Lib.hid hsp
  clear hsp
  go_wp2_with fail
  refine HSX.out.mono ?_
  rintro e w8 ⟨rfl, hb8⟩
  have s78 := hb8.size
  rw [World.size_alloc] at s78
  have cO8 := kept_cell hb8 cO7 (by simp)
  have cX8 := kept_cell hb8 cX7 (by simp; omega)
  have rR8 := row_below rR7 hb8 (by simp; omega)
  have own8 := own7.below hb8
  have B8 := B7.trans (hb8.mono (by simp; omega))
  clear hb8 cO7 cX7 rR7 own7 B7 HSX own6 rR6 cX6 B6
  obtain ⟨q, hq⟩ : ∃ q, q = w6.heap.size := ⟨_, rfl⟩
  rw [← hq] at cO8 row6 s78 s6 ⊢
  have sq8 : q + 1 ≤ w8.heap.size := by omega
  have cOW := kept_cell ((Below.refl w8.heap.size w8).alloc (Nat.le_refl _) (.cells #[] 2)) cO8 (by omega)
  have cXW := kept_cell ((Below.refl w8.heap.size w8).alloc (Nat.le_refl _) (.cells #[] 2)) cX8 (by omega)
  have rRW := row_alloc rR8 (.cells #[] 2)
  have ownW := own8.alloc (.cells #[] 2)
  have BW := B8.alloc (by omega) (.cells #[] 2)
  have hg7 : g6 < w8.heap.size := by omega
  clear hq B8
  obtain ⟨m, hm⟩ : ∃ m, m = w8.heap.size := ⟨_, rfl⟩
  rw [← hm] at hg7 sq8
  have oW := own_empty w8 m (by omega) rfl
  have HMQ := Lib.hid hm
  have HX8 := Lib.hid cX8
  have HO8 := Lib.hid cO8
  have HR8 := Lib.hid rR8
  have HOS := Lib.hid own8
  clear cX8 cO8 rR8 own8
  have bWm : Below m w8 (w8.alloc (.cells #[] 2)) := by rw [hm]; exact (Below.refl _ w8).alloc (Nat.le_refl _) _
  have sWm : m ≤ (w8.alloc (.cells #[] 2)).heap.size := by rw [hm]; simp
  go_wp2_with fail
  go_loopw [13, 41] (fun v i wr => ∃ k : Nat, k ≤ C.length ∧ i = .int .i64 k ∧ OwnInts wr m v (dsTo C D (N : Int) k) ∧ Below m w8 wr ∧ m ≤ wr.heap.size ∧ Below w.heap.size w wr) (fun _ i _ => C.length - (intOf i).toNat)
  case atStart => exact ⟨0, Nat.zero_le _, rfl, oW, bWm, sWm, BW⟩
  case round =>
    clear oW bWm sWm BW cOW cXW rRW ownW
    obtain ⟨k, hk, rfl, own, Bm, sm, B⟩ := hrel
    by_cases hlt : k < C.length
    · obtain ⟨bc, oc, he, hbc, hcc⟩ := hC.at hlt
      obtain rfl : ac = ⟨bc, oc, none⟩ := by simpa using he
      have hck := kept_cell B (hcc k hlt) hbc
      obtain ⟨x1, x2⟩ := HCb.out k hlt
      clear hcc he
      rw [← dsIn_zero] at own
      go_wp2_with fail
      go_loopw [13, 47] (fun v i wi => ∃ j : Nat, j ≤ D.length ∧ i = .int .i64 j ∧ OwnInts wi m v (dsIn C D (N : Int) k j) ∧ Below m w8 wi ∧ m ≤ wi.heap.size ∧ Below w.heap.size w wi) (fun _ i _ => D.length - (intOf i).toNat)
      case atStart => exact ⟨0, Nat.zero_le _, rfl, own, Bm, sm, B⟩
      case round =>
        clear own Bm sm B hck
        obtain ⟨j, hj, rfl, own, Bm, sm, B⟩ := hrel
        by_cases hlj : j < D.length
        · obtain ⟨bd, od, he, hbd, hcd⟩ := hD.at hlj
          obtain rfl : ad = ⟨bd, od, none⟩ := by simpa using he
          have hdk := kept_cell B (hcd j hlj) hbd
          obtain ⟨y1, y2⟩ := HDb.out j hlj
          clear hcd he
          have cXr : wr.cell? ⟨w.heap.size + 1, 0, none⟩ = some (.slice (some ax) X.length capx) := kept_cell Bm HX8.out (by omega)
          have hwc := wordCount_sp (some ax) X capx wr HXp.out (hX.below B)
          rw [HN.out] at hwc
          have HWC := Lib.hid hwc
          obtain ⟨x, hx'⟩ : ∃ x, x = gi C k := ⟨_, rfl⟩
          obtain ⟨y, hy'⟩ : ∃ y, y = gi D j := ⟨_, rfl⟩
          rw [← hx'] at x1 x2
          rw [← hy'] at hdk y1 y2
          have HXY := Lib.hid (And.intro hx' hy')
          have p1 : 0 ≤ x * (N : Int) := Int.mul_nonneg x1 (by omega)
          have p2 : x * (N : Int) ≤ 1024 * 1024 := Int.mul_le_mul (by omega) (by omega) (by omega) (by omega)
          have E1 : IntKind.i64.wrap (x * (N : Int)) = x * (N : Int) := IntWalk.i64_in _ ⟨by omega, by omega⟩
          have E2 : IntKind.i64.wrap (x * (N : Int) + y) = x * (N : Int) + y := IntWalk.i64_in _ ⟨by omega, by omega⟩
          have hdl2 := dsIn_len C D (N : Int) k j (by omega) hdl hj
          have H2 : Hid (dsIn C D (N : Int) k (j + 1) = dsIn C D (N : Int) k j ++ [x * (N : Int) + y]) := Lib.hid (by rw [hx', hy']; exact dsIn_succ C D (N : Int) k j hlj)
          rw [← hx']
          clear hwc hx' hy' p1 p2
          go_wp2_with fail
          refine HWC.out.mono ?_
          rintro e w9 ⟨rfl, hb9⟩
          replace own := own.below hb9
          have Bm9 := Bm.trans (hb9.mono sm)
          have B9 := B.trans (hb9.mono B.size)
          have s9 : m ≤ w9.heap.size := by have := hb9.size; omega
          clear hb9 Bm B cXr HWC hdk
          go_wp2_with (at_builtin; refine wpList_append_int rfl _ _ rfl m _ _ rfl (own.alloc _) w9.heap.size _ rfl (cell_new _ _ _) (by omega) (by rw [World.size_alloc]; omega) ?_; intro v' w10 hown' hgrow)
          have B10 := grown_below (B9.alloc B9.size _) (by rw [World.size_alloc]; omega) hgrow (own.alloc _) (by omega)
          have Bm10 := grown_below (Bm9.alloc s9 _) (by rw [World.size_alloc]; omega) hgrow (own.alloc _) (Nat.le_refl _)
          have s10 : m ≤ w10.heap.size := by have := hgrow.size; simp at this; omega
          clear own hgrow E1 E2
          go_wp2_with fail
          go_roundw
          case rel => exact ⟨j + 1, by omega, by go_num, by rw [H2.out]; exact hown', Bm10, s10, B10⟩
          case measure => simp [intOf]; omega
        · have ej : Hid (j = D.length) := Lib.hid (by omega)
          go_wp2_with fail
          go_roundw
          case rel => exact ⟨k + 1, by omega, by go_num, by rw [← dsIn_all, ← ej.out]; exact own, Bm, sm, B⟩
          case measure => simp [intOf]; omega
    · have ek : Hid (k = C.length) := Lib.hid (by omega)
      have cOr : wr.cell? ⟨q, 0, none⟩ = some (.slice (some ⟨g6, 0, none⟩) M k6) := kept_cell Bm HO8.out (by omega)
      have rRr := row_below HR8.out Bm (by omega)
      have rc : wr.cell? ⟨w.heap.size + 1 + 1, 0, none⟩ = some (.slice none 0 0) := by rw [cell_of_row wr (w.heap.size + 2) 0 _ _ _ rRr]; rfl
      have rf : wr.frozen? ⟨w.heap.size + 1 + 1, 0, none⟩ = false := by have h' := rRr; simp [World.frozen?, h']
      have rs : (wr.setCell ⟨w.heap.size + 1 + 1, 0, none⟩ (.slice (some ⟨g6, 0, none⟩) M k6)).cell? ⟨w.heap.size + 1 + 1, 0, none⟩ = some (.slice (some ⟨g6, 0, none⟩) M k6) := World.cell?_setCell_same' _ _ _ (by rw [rc]; rfl)
      have B9 : Below w.heap.size w (wr.setCell ⟨w.heap.size + 1 + 1, 0, none⟩ (.slice (some ⟨g6, 0, none⟩) M k6)) := B.setCell (show w.heap.size ≤ w.heap.size + 1 + 1 by omega) _
      have ownS := own_across HOS.out Bm hg7
      go_wp2_with fail
      refine bodyPost_ret (by rw [results_cell_tmp2 rfl]; go_simp; try rfl) rfl ?_
      refine ⟨m, .slice (some ⟨g6, 0, none⟩) M k6, _, by rw [HE.out], by omega, fun z hz => by have := row6 z hz; simp at this; omega, ?_, ?_, by simpa using sm, B9⟩
      · rw [HVS.out]; exact (ownS.setBelow (by simp; omega) _).rebase (by simp; omega)
      · rw [HVC.out, HN.out, ← ek.out]; exact (own.setBelow (show w.heap.size + 1 + 1 < m by omega) _)

theorem impl_DirectSum (as0 : Addr) (S : List Int) (cap : Nat) (hn : S.length ≤ 4294967296) (ac : Addr) (C : List Int) (capc : Nat) (hnc : C.length ≤ 4294967296) (ax : Addr) (X : List Int) (capx : Nat) (hnx : X.length ≤ 4294967296) (ad : Addr) (D : List Int) (capd : Nat) (hnd : D.length ≤ 4294967296) (w : World) (hS : Ints w (some as0) S) (hC : Ints w (some ac) C) (hX : Ints w (some ax) X) (hD : Ints w (some ad) D) :
    Calls Try.prog 16 #[.agg #[.slice (some as0) S.length cap], .slice (some ac) C.length capc, .agg #[.slice (some ax) X.length capx], .slice (some ad) D.length capd] w fun e w' => ∃ m vs v, e = .returned (.tuple #[.agg #[vs], v, .int .i64 (eDs S C X D)]) ∧ w.heap.size ≤ m ∧ RowIn vs w.heap.size m ∧ OwnInts w' w.heap.size vs (vDsS S C X D) ∧ OwnInts w' m v (vDsC S C X D) ∧ m ≤ w'.heap.size ∧ Below w.heap.size w w' := by
  by_cases hB : eBo S C X D = 0
  · obtain ⟨hs, hx⟩ := eBo_sp hB
    have hE : orI (eCode S C) (eCode X D) = 0 := by rw [← eBo_or hs hx]; exact hB
    cases hsx : isSp (S ++ X) with
    | false => exact impl_DirectSum_e5 as0 S cap hn ac C capc hnc ax X capx hnx ad D capd hnd w hS hC hX hD hs hx hE hsx
    | true => exact impl_DirectSum_ok as0 S cap hn ac C capc hnc ax X capx hnx ad D capd hnd w hS hC hX hD hs hx hE hsx
  · exact impl_DirectSum_er as0 S cap hn ac C capc hnc ax X capx hnx ad D capd hnd w hS hC hX hD _ rfl hB

end Go.Proofs.Ytcbkmmadejbbpaa
