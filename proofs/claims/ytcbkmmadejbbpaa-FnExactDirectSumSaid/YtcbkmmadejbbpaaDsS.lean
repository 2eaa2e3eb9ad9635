/-
  The contract of the model of DirectSum, way by way. By an AI agent.
-/
import Derived.Test.YtcbkmmadejbbpaaPlus
import Derived.Test.YtcbkmmadejbbpaaMark
import Derived.Test.YtcbkmmadejbbpaaCode2
namespace Go.Proofs.Ytcbkmmadejbbpaa
open Go.RowKit Cv
set_option linter.unusedVariables false
set_option linter.unusedSimpArgs false
set_option maxRecDepth 100000

theorem results_cell_tmp2 {fn : Func} {p u1 u2 : Tmp} {ty : TypeId} (h : fn.results = #[.cell p ty, .tmp u1, .tmp u2]) (tmps : Array Value) (P : Program) (w : World) :
    (results fn tmps).run P w =
      ((asAddr (tmps.getD p undef)).run P w).andThen fun a w₁ => ((loadVar ty a).run P w₁).andThen fun v w₂ => .ok (.tuple #[v, tmps.getD u1 undef, tmps.getD u2 undef]) w₂ := by
  simp only [results, h]
  simp [Sem.run_bind, Result.andThen]

set_option maxHeartbeats 2000000 in
theorem spec_DirectSum_e1 (as0 : Addr) (S : List Int) (cap : Nat) (hn : S.length ≤ 4294967296) (ac : Addr) (C : List Int) (capc : Nat) (hnc : C.length ≤ 4294967296) (ax : Addr) (X : List Int) (capx : Nat) (hnx : X.length ≤ 4294967296) (ad : Addr) (D : List Int) (capd : Nat) (hnd : D.length ≤ 4294967296) (w : World) (hS : Ints w (some as0) S) (hC : Ints w (some ac) C) (hX : Ints w (some ax) X) (hD : Ints w (some ad) D) (hs : isSp S = false) :
    Calls Try.prog 13 #[.agg #[.slice (some as0) S.length cap], .slice (some ac) C.length capc, .agg #[.slice (some ax) X.length capx], .slice (some ad) D.length capd] w fun e w' => ∃ m vs v, e = .returned (.tuple #[.agg #[vs], v, .int .i64 (eDs S C X D)]) ∧ w.heap.size ≤ m ∧ RowIn vs w.heap.size m ∧ OwnInts w' w.heap.size vs (vDsS S C X D) ∧ OwnInts w' m v (vDsC S C X D) ∧ m ≤ w'.heap.size ∧ Below w.heap.size w w' := by
  obtain ⟨W0, hW0, cS, cX, rR, z0, B0⟩ := box3 w (.slice (some as0) S.length cap) (.slice (some ax) X.length capx) (.slice none 0 0) 26
  have HW0 := Lib.hid hW0
  have z0a : w.heap.size + 3 ≤ W0.heap.size := by omega
  clear hW0 z0
  have HE : Hid (eDs S C X D = 1) := Lib.hid (eDs_inv (by simp [hs]))
  have HS0 : Hid (vDsS S C X D = []) := Lib.hid (by unfold vDsS; rw [if_neg (by rw [HE.out]; decide)])
  have HC0 : Hid (vDsC S C X D = []) := Lib.hid (by unfold vDsC; rw [if_neg (by rw [HE.out]; decide)])
  go_enter Try.func13, Try.ntmps13
  go_wp2_with fail
  rw [← HW0.out]
  have h1 := l01Is_any (some as0) S cap W0 hn (hS.below B0)
  rw [hs] at h1
  refine h1.mono ?_
  rintro e w1 ⟨rfl, hb1⟩
  have s1 : w.heap.size + 3 ≤ w1.heap.size := by have := hb1.size; omega
  have cS1 := kept_cell hb1 cS (by omega)
  have cX1 := kept_cell hb1 cX (by omega)
  have rR1 := row_below rR hb1 (by omega)
  have B1 := B0.trans (hb1.mono (by omega))
  clear h1 hb1
  have rc : w1.cell? ⟨w.heap.size + 1 + 1, 0, none⟩ = some (.slice none 0 0) := by rw [cell_of_row w1 (w.heap.size + 2) 0 _ _ _ rR1]; rfl
  have rf : w1.frozen? ⟨w.heap.size + 1 + 1, 0, none⟩ = false := by have h' := rR1; simp [World.frozen?, h']
  have rs : (w1.setCell ⟨w.heap.size + 1 + 1, 0, none⟩ (.slice none 0 0)).cell? ⟨w.heap.size + 1 + 1, 0, none⟩ = some (.slice none 0 0) := World.cell?_setCell_same' _ _ _ (by rw [rc]; rfl)
  have B9 : Below w.heap.size w (w1.setCell ⟨w.heap.size + 1 + 1, 0, none⟩ (.slice none 0 0)) := B1.setCell (show w.heap.size ≤ w.heap.size + 1 + 1 by omega) _
  go_wp2_with fail
  refine bodyPost_ret (by rw [results_cell_tmp2 rfl]; go_simp; try rfl) rfl ?_
  exact ⟨w.heap.size, .slice none 0 0, _, by rw [HE.out], Nat.le_refl _, fun k hk => (by cases hk), by rw [HS0.out]; exact own_nil _ _, by rw [HC0.out]; exact own_nil _ _, B9.size, B9⟩

set_option maxHeartbeats 2000000 in
theorem spec_DirectSum_e2 (as0 : Addr) (S : List Int) (cap : Nat) (hn : S.length ≤ 4294967296) (ac : Addr) (C : List Int) (capc : Nat) (hnc : C.length ≤ 4294967296) (ax : Addr) (X : List Int) (capx : Nat) (hnx : X.length ≤ 4294967296) (ad : Addr) (D : List Int) (capd : Nat) (hnd : D.length ≤ 4294967296) (w : World) (hS : Ints w (some as0) S) (hC : Ints w (some ac) C) (hX : Ints w (some ax) X) (hD : Ints w (some ad) D) (hs : isSp S = true) (hx : isSp X = false) :
    Calls Try.prog 13 #[.agg #[.slice (some as0) S.length cap], .slice (some ac) C.length capc, .agg #[.slice (some ax) X.length capx], .slice (some ad) D.length capd] w fun e w' => ∃ m vs v, e = .returned (.tuple #[.agg #[vs], v, .int .i64 (eDs S C X D)]) ∧ w.heap.size ≤ m ∧ RowIn vs w.heap.size m ∧ OwnInts w' w.heap.size vs (vDsS S C X D) ∧ OwnInts w' m v (vDsC S C X D) ∧ m ≤ w'.heap.size ∧ Below w.heap.size w w' := by
  obtain ⟨W0, hW0, cS, cX, rR, z0, B0⟩ := box3 w (.slice (some as0) S.length cap) (.slice (some ax) X.length capx) (.slice none 0 0) 26
  have HW0 := Lib.hid hW0
  have z0a : w.heap.size + 3 ≤ W0.heap.size := by omega
  clear hW0 z0
  have HE : Hid (eDs S C X D = 1) := Lib.hid (eDs_inv (by simp [hx]))
  have HS0 : Hid (vDsS S C X D = []) := Lib.hid (by unfold vDsS; rw [if_neg (by rw [HE.out]; decide)])
  have HC0 : Hid (vDsC S C X D = []) := Lib.hid (by unfold vDsC; rw [if_neg (by rw [HE.out]; decide)])
  go_enter Try.func13, Try.ntmps13
  go_wp2_with fail
  rw [← HW0.out]
  have h1 := l01Is_any (some as0) S cap W0 hn (hS.below B0)
  rw [hs] at h1
  refine h1.mono ?_
  rintro e w1 ⟨rfl, hb1⟩
  have s1 : w.heap.size + 3 ≤ w1.heap.size := by have := hb1.size; omega
  have cS1 := kept_cell hb1 cS (by omega)
  have cX1 := kept_cell hb1 cX (by omega)
  have rR1 := row_below rR hb1 (by omega)
  have B1 := B0.trans (hb1.mono (by omega))
  clear h1 hb1
  go_wp2_with fail
  have h2 := l01Is_any (some ax) X capx w1 hnx (hX.below B1)
  rw [hx] at h2
  refine h2.mono ?_
  rintro e w2 ⟨rfl, hb2⟩
  have s2 : w.heap.size + 3 ≤ w2.heap.size := by have := hb2.size; omega
  have cS2 := kept_cell hb2 cS1 (by omega)
  have cX2 := kept_cell hb2 cX1 (by omega)
  have rR2 := row_below rR1 hb2 (by omega)
  have B2 := B1.trans (hb2.mono (by omega))
  clear h2 hb2
  have rc : w2.cell? ⟨w.heap.size + 1 + 1, 0, none⟩ = some (.slice none 0 0) := by rw [cell_of_row w2 (w.heap.size + 2) 0 _ _ _ rR2]; rfl
  have rf : w2.frozen? ⟨w.heap.size + 1 + 1, 0, none⟩ = false := by have h' := rR2; simp [World.frozen?, h']
  have rs : (w2.setCell ⟨w.heap.size + 1 + 1, 0, none⟩ (.slice none 0 0)).cell? ⟨w.heap.size + 1 + 1, 0, none⟩ = some (.slice none 0 0) := World.cell?_setCell_same' _ _ _ (by rw [rc]; rfl)
  have B9 : Below w.heap.size w (w2.setCell ⟨w.heap.size + 1 + 1, 0, none⟩ (.slice none 0 0)) := B2.setCell (show w.heap.size ≤ w.heap.size + 1 + 1 by omega) _
  go_wp2_with fail
  refine bodyPost_ret (by rw [results_cell_tmp2 rfl]; go_simp; try rfl) rfl ?_
  exact ⟨w.heap.size, .slice none 0 0, _, by rw [HE.out], Nat.le_refl _, fun k hk => (by cases hk), by rw [HS0.out]; exact own_nil _ _, by rw [HC0.out]; exact own_nil _ _, B9.size, B9⟩

set_option maxHeartbeats 2000000 in
theorem spec_DirectSum_e3 (as0 : Addr) (S : List Int) (cap : Nat) (hn : S.length ≤ 4294967296) (ac : Addr) (C : List Int) (capc : Nat) (hnc : C.length ≤ 4294967296) (ax : Addr) (X : List Int) (capx : Nat) (hnx : X.length ≤ 4294967296) (ad : Addr) (D : List Int) (capd : Nat) (hnd : D.length ≤ 4294967296) (w : World) (hS : Ints w (some as0) S) (hC : Ints w (some ac) C) (hX : Ints w (some ax) X) (hD : Ints w (some ad) D) (hs : isSp S = true) (hx : isSp X = true) (hc : codeB S C = false) :
    Calls Try.prog 13 #[.agg #[.slice (some as0) S.length cap], .slice (some ac) C.length capc, .agg #[.slice (some ax) X.length capx], .slice (some ad) D.length capd] w fun e w' => ∃ m vs v, e = .returned (.tuple #[.agg #[vs], v, .int .i64 (eDs S C X D)]) ∧ w.heap.size ≤ m ∧ RowIn vs w.heap.size m ∧ OwnInts w' w.heap.size vs (vDsS S C X D) ∧ OwnInts w' m v (vDsC S C X D) ∧ m ≤ w'.heap.size ∧ Below w.heap.size w w' := by
  obtain ⟨W0, hW0, cS, cX, rR, z0, B0⟩ := box3 w (.slice (some as0) S.length cap) (.slice (some ax) X.length capx) (.slice none 0 0) 26
  have HW0 := Lib.hid hW0
  have z0a : w.heap.size + 3 ≤ W0.heap.size := by omega
  clear hW0 z0
  have HA := Lib.hid hs
  have HB := Lib.hid hx
  have HE : Hid (eDs S C X D = 2) := Lib.hid (by rw [eDs_c1 hs hx (by rw [eCode_bad hs hc]; decide), eCode_bad hs hc])
  have HS0 : Hid (vDsS S C X D = []) := Lib.hid (by unfold vDsS; rw [if_neg (by rw [HE.out]; decide)])
  have HC0 : Hid (vDsC S C X D = []) := Lib.hid (by unfold vDsC; rw [if_neg (by rw [HE.out]; decide)])
  go_enter Try.func13, Try.ntmps13
  go_wp2_with fail
  rw [← HW0.out]
  have h1 := l01Is_any (some as0) S cap W0 hn (hS.below B0)
  rw [hs] at h1
  refine h1.mono ?_
  rintro e w1 ⟨rfl, hb1⟩
  have s1 : w.heap.size + 3 ≤ w1.heap.size := by have := hb1.size; omega
  have cS1 := kept_cell hb1 cS (by omega)
  have cX1 := kept_cell hb1 cX (by omega)
  have rR1 := row_below rR hb1 (by omega)
  have B1 := B0.trans (hb1.mono (by omega))
  clear h1 hb1
  go_wp2_with fail
  have h2 := l01Is_any (some ax) X capx w1 hnx (hX.below B1)
  rw [hx] at h2
  refine h2.mono ?_
  rintro e w2 ⟨rfl, hb2⟩
  have s2 : w.heap.size + 3 ≤ w2.heap.size := by have := hb2.size; omega
  have cS2 := kept_cell hb2 cS1 (by omega)
  have cX2 := kept_cell hb2 cX1 (by omega)
  have rR2 := row_below rR1 hb2 (by omega)
  have B2 := B1.trans (hb2.mono (by omega))
  clear h2 hb2
  go_wp2_with fail
  have h3 := l01Code_any (some as0) S cap ((isSp_iff S).1 HA.out) (some ac) C capc hnc w2 (hS.below B2) (hC.below B2)
  rw [hc] at h3
  refine h3.mono ?_
  rintro e w3 ⟨rfl, hb3⟩
  have s3 : w.heap.size + 3 ≤ w3.heap.size := by have := hb3.size; omega
  have cS3 := kept_cell hb3 cS2 (by omega)
  have cX3 := kept_cell hb3 cX2 (by omega)
  have rR3 := row_below rR2 hb3 (by omega)
  have B3 := B2.trans (hb3.mono (by omega))
  clear h3 hb3
  have rc : w3.cell? ⟨w.heap.size + 1 + 1, 0, none⟩ = some (.slice none 0 0) := by rw [cell_of_row w3 (w.heap.size + 2) 0 _ _ _ rR3]; rfl
  have rf : w3.frozen? ⟨w.heap.size + 1 + 1, 0, none⟩ = false := by have h' := rR3; simp [World.frozen?, h']
  have rs : (w3.setCell ⟨w.heap.size + 1 + 1, 0, none⟩ (.slice none 0 0)).cell? ⟨w.heap.size + 1 + 1, 0, none⟩ = some (.slice none 0 0) := World.cell?_setCell_same' _ _ _ (by rw [rc]; rfl)
  have B9 : Below w.heap.size w (w3.setCell ⟨w.heap.size + 1 + 1, 0, none⟩ (.slice none 0 0)) := B3.setCell (show w.heap.size ≤ w.heap.size + 1 + 1 by omega) _
  go_wp2_with fail
  refine bodyPost_ret (by rw [results_cell_tmp2 rfl]; go_simp; try rfl) rfl ?_
  exact ⟨w.heap.size, .slice none 0 0, _, by rw [HE.out], Nat.le_refl _, fun k hk => (by cases hk), by rw [HS0.out]; exact own_nil _ _, by rw [HC0.out]; exact own_nil _ _, B9.size, B9⟩

set_option maxHeartbeats 2000000 in
theorem spec_DirectSum_e4 (as0 : Addr) (S : List Int) (cap : Nat) (hn : S.length ≤ 4294967296) (ac : Addr) (C : List Int) (capc : Nat) (hnc : C.length ≤ 4294967296) (ax : Addr) (X : List Int) (capx : Nat) (hnx : X.length ≤ 4294967296) (ad : Addr) (D : List Int) (capd : Nat) (hnd : D.length ≤ 4294967296) (w : World) (hS : Ints w (some as0) S) (hC : Ints w (some ac) C) (hX : Ints w (some ax) X) (hD : Ints w (some ad) D) (hs : isSp S = true) (hx : isSp X = true) (hc : codeB S C = true) (hd : codeB X D = false) :
    Calls Try.prog 13 #[.agg #[.slice (some as0) S.length cap], .slice (some ac) C.length capc, .agg #[.slice (some ax) X.length capx], .slice (some ad) D.length capd] w fun e w' => ∃ m vs v, e = .returned (.tuple #[.agg #[vs], v, .int .i64 (eDs S C X D)]) ∧ w.heap.size ≤ m ∧ RowIn vs w.heap.size m ∧ OwnInts w' w.heap.size vs (vDsS S C X D) ∧ OwnInts w' m v (vDsC S C X D) ∧ m ≤ w'.heap.size ∧ Below w.heap.size w w' := by
  obtain ⟨W0, hW0, cS, cX, rR, z0, B0⟩ := box3 w (.slice (some as0) S.length cap) (.slice (some ax) X.length capx) (.slice none 0 0) 26
  have HW0 := Lib.hid hW0
  have z0a : w.heap.size + 3 ≤ W0.heap.size := by omega
  clear hW0 z0
  have HA := Lib.hid hs
  have HB := Lib.hid hx
  have HE : Hid (eDs S C X D = 2) := Lib.hid (by rw [eDs_c2 hs hx (eCode_ok hs hc) (by rw [eCode_bad hx hd]; decide), eCode_bad hx hd])
  have HS0 : Hid (vDsS S C X D = []) := Lib.hid (by unfold vDsS; rw [if_neg (by rw [HE.out]; decide)])
  have HC0 : Hid (vDsC S C X D = []) := Lib.hid (by unfold vDsC; rw [if_neg (by rw [HE.out]; decide)])
  go_enter Try.func13, Try.ntmps13
  go_wp2_with fail
  rw [← HW0.out]
  have h1 := l01Is_any (some as0) S cap W0 hn (hS.below B0)
  rw [hs] at h1
  refine h1.mono ?_
  rintro e w1 ⟨rfl, hb1⟩
  have s1 : w.heap.size + 3 ≤ w1.heap.size := by have := hb1.size; omega
  have cS1 := kept_cell hb1 cS (by omega)
  have cX1 := kept_cell hb1 cX (by omega)
  have rR1 := row_below rR hb1 (by omega)
  have B1 := B0.trans (hb1.mono (by omega))
  clear h1 hb1
  go_wp2_with fail
  have h2 := l01Is_any (some ax) X capx w1 hnx (hX.below B1)
  rw [hx] at h2
  refine h2.mono ?_
  rintro e w2 ⟨rfl, hb2⟩
  have s2 : w.heap.size + 3 ≤ w2.heap.size := by have := hb2.size; omega
  have cS2 := kept_cell hb2 cS1 (by omega)
  have cX2 := kept_cell hb2 cX1 (by omega)
  have rR2 := row_below rR1 hb2 (by omega)
  have B2 := B1.trans (hb2.mono (by omega))
  clear h2 hb2
  go_wp2_with fail
  have h3 := l01Code_any (some as0) S cap ((isSp_iff S).1 HA.out) (some ac) C capc hnc w2 (hS.below B2) (hC.below B2)
  rw [hc] at h3
  refine h3.mono ?_
  rintro e w3 ⟨rfl, hb3⟩
  have s3 : w.heap.size + 3 ≤ w3.heap.size := by have := hb3.size; omega
  have cS3 := kept_cell hb3 cS2 (by omega)
  have cX3 := kept_cell hb3 cX2 (by omega)
  have rR3 := row_below rR2 hb3 (by omega)
  have B3 := B2.trans (hb3.mono (by omega))
  clear h3 hb3
  go_wp2_with fail
  have h4 := l01Code_any (some ax) X capx ((isSp_iff X).1 HB.out) (some ad) D capd hnd w3 (hX.below B3) (hD.below B3)
  rw [hd] at h4
  refine h4.mono ?_
  rintro e w4 ⟨rfl, hb4⟩
  have s4 : w.heap.size + 3 ≤ w4.heap.size := by have := hb4.size; omega
  have cS4 := kept_cell hb4 cS3 (by omega)
  have cX4 := kept_cell hb4 cX3 (by omega)
  have rR4 := row_below rR3 hb4 (by omega)
  have B4 := B3.trans (hb4.mono (by omega))
  clear h4 hb4
  have rc : w4.cell? ⟨w.heap.size + 1 + 1, 0, none⟩ = some (.slice none 0 0) := by rw [cell_of_row w4 (w.heap.size + 2) 0 _ _ _ rR4]; rfl
  have rf : w4.frozen? ⟨w.heap.size + 1 + 1, 0, none⟩ = false := by have h' := rR4; simp [World.frozen?, h']
  have rs : (w4.setCell ⟨w.heap.size + 1 + 1, 0, none⟩ (.slice none 0 0)).cell? ⟨w.heap.size + 1 + 1, 0, none⟩ = some (.slice none 0 0) := World.cell?_setCell_same' _ _ _ (by rw [rc]; rfl)
  have B9 : Below w.heap.size w (w4.setCell ⟨w.heap.size + 1 + 1, 0, none⟩ (.slice none 0 0)) := B4.setCell (show w.heap.size ≤ w.heap.size + 1 + 1 by omega) _
  go_wp2_with fail
  refine bodyPost_ret (by rw [results_cell_tmp2 rfl]; go_simp; try rfl) rfl ?_
  exact ⟨w.heap.size, .slice none 0 0, _, by rw [HE.out], Nat.le_refl _, fun k hk => (by cases hk), by rw [HS0.out]; exact own_nil _ _, by rw [HC0.out]; exact own_nil _ _, B9.size, B9⟩

set_option maxHeartbeats 2000000 in
theorem spec_DirectSum_e5 (as0 : Addr) (S : List Int) (cap : Nat) (hn : S.length ≤ 4294967296) (ac : Addr) (C : List Int) (capc : Nat) (hnc : C.length ≤ 4294967296) (ax : Addr) (X : List Int) (capx : Nat) (hnx : X.length ≤ 4294967296) (ad : Addr) (D : List Int) (capd : Nat) (hnd : D.length ≤ 4294967296) (w : World) (hS : Ints w (some as0) S) (hC : Ints w (some ac) C) (hX : Ints w (some ax) X) (hD : Ints w (some ad) D) (hs : isSp S = true) (hx : isSp X = true) (hc : codeB S C = true) (hd : codeB X D = true) (hsx : isSp (S ++ X) = false) :
    Calls Try.prog 13 #[.agg #[.slice (some as0) S.length cap], .slice (some ac) C.length capc, .agg #[.slice (some ax) X.length capx], .slice (some ad) D.length capd] w fun e w' => ∃ m vs v, e = .returned (.tuple #[.agg #[vs], v, .int .i64 (eDs S C X D)]) ∧ w.heap.size ≤ m ∧ RowIn vs w.heap.size m ∧ OwnInts w' w.heap.size vs (vDsS S C X D) ∧ OwnInts w' m v (vDsC S C X D) ∧ m ≤ w'.heap.size ∧ Below w.heap.size w w' := by
  obtain ⟨W0, hW0, cS, cX, rR, z0, B0⟩ := box3 w (.slice (some as0) S.length cap) (.slice (some ax) X.length capx) (.slice none 0 0) 26
  have HW0 := Lib.hid hW0
  have z0a : w.heap.size + 3 ≤ W0.heap.size := by omega
  clear hW0 z0
  have HA := Lib.hid hs
  have HB := Lib.hid hx
  have lS : S.length ≤ 65536 := by have := ((isSp_iff S).1 hs).hi; omega
  have lX : X.length ≤ 65536 := by have := ((isSp_iff X).1 hx).hi; omega
  have HE : Hid (eDs S C X D = 3) := Lib.hid (eDs_big hs hx (eCode_ok hs hc) (eCode_ok hx hd) hsx)
  have HS0 : Hid (vDsS S C X D = []) := Lib.hid (by unfold vDsS; rw [if_neg (by rw [HE.out]; decide)])
  have HC0 : Hid (vDsC S C X D = []) := Lib.hid (by unfold vDsC; rw [if_neg (by rw [HE.out]; decide)])
  go_enter Try.func13, Try.ntmps13
  go_wp2_with fail
  rw [← HW0.out]
  have h1 := l01Is_any (some as0) S cap W0 hn (hS.below B0)
  rw [hs] at h1
  refine h1.mono ?_
  rintro e w1 ⟨rfl, hb1⟩
  have s1 : w.heap.size + 3 ≤ w1.heap.size := by have := hb1.size; omega
  have cS1 := kept_cell hb1 cS (by omega)
  have cX1 := kept_cell hb1 cX (by omega)
  have rR1 := row_below rR hb1 (by omega)
  have B1 := B0.trans (hb1.mono (by omega))
  clear h1 hb1
  go_wp2_with fail
  have h2 := l01Is_any (some ax) X capx w1 hnx (hX.below B1)
  rw [hx] at h2
  refine h2.mono ?_
  rintro e w2 ⟨rfl, hb2⟩
  have s2 : w.heap.size + 3 ≤ w2.heap.size := by have := hb2.size; omega
  have cS2 := kept_cell hb2 cS1 (by omega)
  have cX2 := kept_cell hb2 cX1 (by omega)
  have rR2 := row_below rR1 hb2 (by omega)
  have B2 := B1.trans (hb2.mono (by omega))
  clear h2 hb2
  go_wp2_with fail
  have h3 := l01Code_any (some as0) S cap ((isSp_iff S).1 HA.out) (some ac) C capc hnc w2 (hS.below B2) (hC.below B2)
  rw [hc] at h3
  refine h3.mono ?_
  rintro e w3 ⟨rfl, hb3⟩
  have s3 : w.heap.size + 3 ≤ w3.heap.size := by have := hb3.size; omega
  have cS3 := kept_cell hb3 cS2 (by omega)
  have cX3 := kept_cell hb3 cX2 (by omega)
  have rR3 := row_below rR2 hb3 (by omega)
  have B3 := B2.trans (hb3.mono (by omega))
  clear h3 hb3
  go_wp2_with fail
  have h4 := l01Code_any (some ax) X capx ((isSp_iff X).1 HB.out) (some ad) D capd hnd w3 (hX.below B3) (hD.below B3)
  rw [hd] at h4
  refine h4.mono ?_
  rintro e w4 ⟨rfl, hb4⟩
  have s4 : w.heap.size + 3 ≤ w4.heap.size := by have := hb4.size; omega
  have cS4 := kept_cell hb4 cS3 (by omega)
  have cX4 := kept_cell hb4 cX3 (by omega)
  have rR4 := row_below rR3 hb4 (by omega)
  have B4 := B3.trans (hb4.mono (by omega))
  clear h4 hb4
  go_wp2_with fail
  have h5 := l03Plus_any as0 ax S X cap capx lS lX w4 (hS.below B4) (hX.below B4)
  rw [hsx] at h5
  refine h5.mono ?_
  rintro e w5 ⟨v5, rfl, own5, hb5⟩
  obtain ⟨a5, k5, hv⟩ := own5.shape
  obtain ⟨M, hM⟩ : ∃ M, M = (S ++ X).length := ⟨_, rfl⟩
  rw [← hM] at hv
  subst hv
  replace hM := Lib.hid hM
  have s5 : w.heap.size + 3 ≤ w5.heap.size := by have := hb5.size; omega
  have rR5 := row_below rR4 hb5 (by omega)
  have cX5 := kept_cell hb5 cX4 (by omega)
  have B5 := B4.trans (hb5.mono (by omega))
  have rR6 := row_alloc rR5 (.cells #[.slice a5 M k5] 26)
  have B6 := B5.alloc (by omega) (.cells #[.slice a5 M k5] 26)
  clear h5 hb5
  have rc : (w5.alloc (.cells #[.slice a5 M k5] 26)).cell? ⟨w.heap.size + 1 + 1, 0, none⟩ = some (.slice none 0 0) := by rw [cell_of_row (w5.alloc (.cells #[.slice a5 M k5] 26)) (w.heap.size + 2) 0 _ _ _ rR6]; rfl
  have rf : (w5.alloc (.cells #[.slice a5 M k5] 26)).frozen? ⟨w.heap.size + 1 + 1, 0, none⟩ = false := by have h' := rR6; simp [World.frozen?, h']
  have rs : ((w5.alloc (.cells #[.slice a5 M k5] 26)).setCell ⟨w.heap.size + 1 + 1, 0, none⟩ (.slice none 0 0)).cell? ⟨w.heap.size + 1 + 1, 0, none⟩ = some (.slice none 0 0) := World.cell?_setCell_same' _ _ _ (by rw [rc]; rfl)
  have B9 : Below w.heap.size w ((w5.alloc (.cells #[.slice a5 M k5] 26)).setCell ⟨w.heap.size + 1 + 1, 0, none⟩ (.slice none 0 0)) := B6.setCell (show w.heap.size ≤ w.heap.size + 1 + 1 by omega) _
  go_wp2_with fail
  refine bodyPost_ret (by rw [results_cell_tmp2 rfl]; go_simp; try rfl) rfl ?_
  exact ⟨w.heap.size, .slice none 0 0, _, by rw [HE.out], Nat.le_refl _, fun k hk => (by cases hk), by rw [HS0.out]; exact own_nil _ _, by rw [HC0.out]; exact own_nil _ _, B9.size, B9⟩

set_option maxHeartbeats 2000000 in
theorem spec_DirectSum_ok (as0 : Addr) (S : List Int) (cap : Nat) (hn : S.length ≤ 4294967296) (ac : Addr) (C : List Int) (capc : Nat) (hnc : C.length ≤ 4294967296) (ax : Addr) (X : List Int) (capx : Nat) (hnx : X.length ≤ 4294967296) (ad : Addr) (D : List Int) (capd : Nat) (hnd : D.length ≤ 4294967296) (w : World) (hS : Ints w (some as0) S) (hC : Ints w (some ac) C) (hX : Ints w (some ax) X) (hD : Ints w (some ad) D) (hs : isSp S = true) (hx : isSp X = true) (hc : codeB S C = true) (hd : codeB X D = true) (hsx : isSp (S ++ X) = true) :
    Calls Try.prog 13 #[.agg #[.slice (some as0) S.length cap], .slice (some ac) C.length capc, .agg #[.slice (some ax) X.length capx], .slice (some ad) D.length capd] w fun e w' => ∃ m vs v, e = .returned (.tuple #[.agg #[vs], v, .int .i64 (eDs S C X D)]) ∧ w.heap.size ≤ m ∧ RowIn vs w.heap.size m ∧ OwnInts w' w.heap.size vs (vDsS S C X D) ∧ OwnInts w' m v (vDsC S C X D) ∧ m ≤ w'.heap.size ∧ Below w.heap.size w w' := by
  obtain ⟨W0, hW0, cS, cX, rR, z0, B0⟩ := box3 w (.slice (some as0) S.length cap) (.slice (some ax) X.length capx) (.slice none 0 0) 26
  have HW0 := Lib.hid hW0
  have z0a : w.heap.size + 3 ≤ W0.heap.size := by omega
  clear hW0 z0
  have HA := Lib.hid hs
  have HB := Lib.hid hx
  have lS : S.length ≤ 65536 := by have := ((isSp_iff S).1 hs).hi; omega
  have lX : X.length ≤ 65536 := by have := ((isSp_iff X).1 hx).hi; omega
  have HE : Hid (eDs S C X D = 0) := Lib.hid (eDs_ok hs hx (eCode_ok hs hc) (eCode_ok hx hd) hsx)
  have HVS : Hid (vDsS S C X D = S ++ X) := Lib.hid (by unfold vDsS; rw [if_pos HE.out])
  have HVC : Hid (vDsC S C X D = dsTo C D (nW X) C.length) := Lib.hid (by unfold vDsC; rw [if_pos HE.out])
  have HN : Hid (0 ≤ nW X ∧ nW X ≤ 1024) := Lib.hid (by have := nW_bd ((isSp_iff X).1 hx); omega)
  have HCb : Hid (C.length ≤ 1024 ∧ ∀ i, i < C.length → 0 ≤ gi C i ∧ gi C i < 1024) := Lib.hid ⟨code_len0 (eCode_ok hs hc), fun i hi => by have h1 := (eCode_zero (eCode_ok hs hc)).2.1 i hi; have h2 := nW_bd ((isSp_iff S).1 hs); omega⟩
  have HDb : Hid (D.length ≤ 1024 ∧ ∀ i, i < D.length → 0 ≤ gi D i ∧ gi D i < 1024) := Lib.hid ⟨code_len0 (eCode_ok hx hd), fun i hi => by have h1 := (eCode_zero (eCode_ok hx hd)).2.1 i hi; have h2 := nW_bd ((isSp_iff X).1 hx); omega⟩
  go_enter Try.func13, Try.ntmps13
  go_wp2_with fail
  rw [← HW0.out]
  have h1 := l01Is_any (some as0) S cap W0 hn (hS.below B0)
  rw [hs] at h1
  refine h1.mono ?_
  rintro e w1 ⟨rfl, hb1⟩
  have s1 : w.heap.size + 3 ≤ w1.heap.size := by have := hb1.size; omega
  have cS1 := kept_cell hb1 cS (by omega)
  have cX1 := kept_cell hb1 cX (by omega)
  have rR1 := row_below rR hb1 (by omega)
  have B1 := B0.trans (hb1.mono (by omega))
  clear h1 hb1
  go_wp2_with fail
  have h2 := l01Is_any (some ax) X capx w1 hnx (hX.below B1)
  rw [hx] at h2
  refine h2.mono ?_
  rintro e w2 ⟨rfl, hb2⟩
  have s2 : w.heap.size + 3 ≤ w2.heap.size := by have := hb2.size; omega
  have cS2 := kept_cell hb2 cS1 (by omega)
  have cX2 := kept_cell hb2 cX1 (by omega)
  have rR2 := row_below rR1 hb2 (by omega)
  have B2 := B1.trans (hb2.mono (by omega))
  clear h2 hb2
  go_wp2_with fail
  have h3 := l01Code_any (some as0) S cap ((isSp_iff S).1 HA.out) (some ac) C capc hnc w2 (hS.below B2) (hC.below B2)
  rw [hc] at h3
  refine h3.mono ?_
  rintro e w3 ⟨rfl, hb3⟩
  have s3 : w.heap.size + 3 ≤ w3.heap.size := by have := hb3.size; omega
  have cS3 := kept_cell hb3 cS2 (by omega)
  have cX3 := kept_cell hb3 cX2 (by omega)
  have rR3 := row_below rR2 hb3 (by omega)
  have B3 := B2.trans (hb3.mono (by omega))
  clear h3 hb3
  go_wp2_with fail
  have h4 := l01Code_any (some ax) X capx ((isSp_iff X).1 HB.out) (some ad) D capd hnd w3 (hX.below B3) (hD.below B3)
  rw [hd] at h4
  refine h4.mono ?_
  rintro e w4 ⟨rfl, hb4⟩
  have s4 : w.heap.size + 3 ≤ w4.heap.size := by have := hb4.size; omega
  have cS4 := kept_cell hb4 cS3 (by omega)
  have cX4 := kept_cell hb4 cX3 (by omega)
  have rR4 := row_below rR3 hb4 (by omega)
  have B4 := B3.trans (hb4.mono (by omega))
  clear h4 hb4
  go_wp2_with fail
  have h5 := l03Plus_any as0 ax S X cap capx lS lX w4 (hS.below B4) (hX.below B4)
  rw [hsx] at h5
  refine h5.mono ?_
  rintro e w5 ⟨v5, rfl, own5, hb5⟩
  obtain ⟨a5, k5, hv⟩ := own5.shape
  obtain ⟨M, hM⟩ : ∃ M, M = (S ++ X).length := ⟨_, rfl⟩
  rw [← hM] at hv
  subst hv
  replace hM := Lib.hid hM
  have s5 : w.heap.size + 3 ≤ w5.heap.size := by have := hb5.size; omega
  have rR5 := row_below rR4 hb5 (by omega)
  have cX5 := kept_cell hb5 cX4 (by omega)
  have B5 := B4.trans (hb5.mono (by omega))
  have rR6 := row_alloc rR5 (.cells #[.slice a5 M k5] 26)
  have B6 := B5.alloc (by omega) (.cells #[.slice a5 M k5] 26)
  clear h5 hb5
  have cO6 := cell_new w5 (.slice a5 M k5) 26
  have cX6 := kept_cell ((Below.refl w5.heap.size w5).alloc (Nat.le_refl _) (.cells #[.slice a5 M k5] 26)) cX5 (by omega)
  have own6 := own5.alloc (.cells #[.slice a5 M k5] 26)
  have row5 := own5.rowIn
  have s45 : w.heap.size ≤ w4.heap.size := by omega
  have s6 : (w5.alloc (.cells #[.slice a5 M k5] 26)).heap.size = w5.heap.size + 1 := World.size_alloc _ _
  go_wp2_with fail
  obtain ⟨W6, hW6⟩ : ∃ W6, W6 = (w5.alloc (.cells #[.slice a5 M k5] 26)) := ⟨_, rfl⟩
  rw [← hW6] at cO6 cX6 own6 rR6 B6 s6 ⊢
  obtain ⟨q, hq⟩ : ∃ q, q = w5.heap.size := ⟨_, rfl⟩
  rw [← hq] at cO6 row5 s6 ⊢
  have s6a : q + 1 ≤ W6.heap.size := by omega
  have s6b : W6.heap.size ≤ q + 1 := by omega
  have sq : w.heap.size + 3 ≤ q := by omega
  clear hW6 hq s6 own5
  refine wp_region_held_drew (S := fun w' => w'.cell? ⟨q, 0, none⟩ = some (.slice a5 M k5) ∧ w'.cell? ⟨w.heap.size + 1, 0, none⟩ = some (.slice (some ax) X.length capx)) (by kernel_rfl) ⟨cO6, cX6⟩ (fun hHeld => ?_)
  refine wpAnyH_take (i := 0) (v := ?_) rfl (by kernel_rfl) (by kernel_rfl) (by kernel_rfl) (fun _ _ _ h => h) (Or.inl ⟨by rfl, ?_⟩) (by assumption) ?_
  rotate_left
  · (intro w hSw; obtain ⟨hSa, hSb⟩ := hSw; (try dsimp only at hSa hSb); go_simp; try (with_reducible rfl))
  (try simp only [Act.put, List.setIfInBounds_toArray, List.set_cons_zero, List.set_cons_succ])
  refine wpAnyH_take (i := 1) (v := ?_) rfl (by kernel_rfl) (by kernel_rfl) (by kernel_rfl) (fun _ _ _ h => h) (Or.inl ⟨by rfl, ?_⟩) (by assumption) ?_
  rotate_left
  · (intro w hSw; obtain ⟨hSa, hSb⟩ := hSw; (try dsimp only at hSa hSb); go_simp; try (with_reducible rfl))
  (try simp only [Act.put, List.setIfInBounds_toArray, List.set_cons_zero, List.set_cons_succ])
  refine wpAnyH_take (i := 2) (v := ?_) rfl (by kernel_rfl) (by kernel_rfl) (by kernel_rfl) (fun _ _ _ h => h) (Or.inl ⟨by rfl, ?_⟩) (by assumption) ?_
  rotate_left
  · (intro w hSw; obtain ⟨hSa, hSb⟩ := hSw; (try dsimp only at hSa hSb); go_simp; try (with_reducible rfl))
  (try simp only [Act.put, List.setIfInBounds_toArray, List.set_cons_zero, List.set_cons_succ])
  refine wpAnyH_take (i := 3) (v := ?_) rfl (by kernel_rfl) (by kernel_rfl) (by kernel_rfl) (fun _ _ _ h => h) (Or.inl ⟨by rfl, ?_⟩) (by assumption) ?_
  rotate_left
  · (intro w hSw; obtain ⟨hSa, hSb⟩ := hSw; (try dsimp only at hSa hSb); go_simp; try (with_reducible rfl))
  (try simp only [Act.put, List.setIfInBounds_toArray, List.set_cons_zero, List.set_cons_succ])
  refine wpAnyH_ready (rs := [4]) (by kernel_rfl) (by simp) ?_
  refine AllReadyH.cons rfl (fun K hK => ?_) AllReadyH.nil
  go_simp
  (go_at_call 50; refine (l01N_sp (some ax) X capx _ ((isSp_iff X).1 HB.out) (hX.below B6.drew)).mono ?_)
  rintro e w7 ⟨rfl, hb7'⟩
  have hb7 : Below W6.heap.size W6 w7 := (Below.refl _ W6).drew.trans hb7'
  have cO7 := kept_cell hb7 cO6 (by omega)
  have cX7 := kept_cell hb7 cX6 (by omega)
  have rR7 := row_below rR6 hb7 (by omega)
  have own7 := own6.below hb7
  have B7 := B6.trans (hb7.mono (by omega))
  have s7 := hb7.size
  refine hK.out _ _ (⟨cO7, cX7⟩) (fun hHeld => ?_)
  clear hK K
  (try simp only [Act.put, List.setIfInBounds_toArray, List.set_cons_zero, List.set_cons_succ])
  refine wpAnyH_ready (rs := [5]) (by kernel_rfl) (by simp) ?_
  refine AllReadyH.cons rfl (fun K hK => ?_) AllReadyH.nil
  go_simp
  (go_at_call 49; refine (l03Sum_any (some ac) (some ad) C D capc capd (nW X) HN.out HCb.out HDb.out _ (hC.below B7) (hD.below B7)).mono ?_)
  rintro e w8 ⟨v8, rfl, own8, hb8⟩
  have cO8 := kept_cell hb8 cO7 (by omega)
  have cX8 := kept_cell hb8 cX7 (by omega)
  have rR8 := row_below rR7 hb8 (by omega)
  have ownS8 := own7.below hb8
  have B8 := B7.trans (hb8.mono (by omega))
  have s8 := hb8.size
  refine hK.out _ _ (⟨cO8, cX8⟩) (fun hHeld => ?_)
  clear hK K
  (try simp only [Act.put, List.setIfInBounds_toArray, List.set_cons_zero, List.set_cons_succ])
  have rc : w8.cell? ⟨w.heap.size + 1 + 1, 0, none⟩ = some (.slice none 0 0) := by rw [cell_of_row w8 (w.heap.size + 2) 0 _ _ _ rR8]; rfl
  have rf : w8.frozen? ⟨w.heap.size + 1 + 1, 0, none⟩ = false := by have h' := rR8; simp [World.frozen?, h']
  have rs : (w8.setCell ⟨w.heap.size + 1 + 1, 0, none⟩ (.slice a5 M k5)).cell? ⟨w.heap.size + 1 + 1, 0, none⟩ = some (.slice a5 M k5) := World.cell?_setCell_same' _ _ _ (by rw [rc]; rfl)
  refine wpAnyH_ready (rs := [6]) (by kernel_rfl) (by simp) ?_
  refine AllReadyH.cons rfl (fun K hK => ?_) AllReadyH.nil
  go_simp
  refine hK.out _ _ (⟨cell_set_other cO8 (show q ≠ w.heap.size + 1 + 1 by omega), cell_set_other cX8 (show w.heap.size + 1 ≠ w.heap.size + 1 + 1 by omega)⟩) (fun hHeld => ?_)
  clear hK K
  (try simp only [Act.put, List.setIfInBounds_toArray, List.set_cons_zero, List.set_cons_succ])
  refine wpAnyH_take (i := 7) (v := ?_) rfl (by kernel_rfl) (by kernel_rfl) (by kernel_rfl) (fun _ _ _ h => h) (Or.inl ⟨by rfl, ?_⟩) (by assumption) ?_
  rotate_left
  · (intro w hSw; obtain ⟨hSa, hSb⟩ := hSw; (try dsimp only at hSa hSb); go_simp; try (with_reducible rfl))
  (try simp only [Act.put, List.setIfInBounds_toArray, List.set_cons_zero, List.set_cons_succ])
  refine wpAnyH_take (i := 8) (v := ?_) rfl (by kernel_rfl) (by kernel_rfl) (by kernel_rfl) (fun _ _ _ h => h) (Or.inl ⟨by rfl, ?_⟩) (by assumption) ?_
  rotate_left
  · (intro w hSw; obtain ⟨hSa, hSb⟩ := hSw; (try dsimp only at hSa hSb); go_simp; try (with_reducible rfl))
  (try simp only [Act.put, List.setIfInBounds_toArray, List.set_cons_zero, List.set_cons_succ])
  refine wpAnyH_done (by kernel_rfl) ?_ _
  simp only [List.getElem_toArray, List.getElem_cons_succ, List.getElem_cons_zero, Act.put, List.setIfInBounds_toArray, List.set_cons_zero, List.set_cons_succ]
  have B9 : Below w.heap.size w (w8.setCell ⟨w.heap.size + 1 + 1, 0, none⟩ (.slice a5 M k5)) := B8.setCell (show w.heap.size ≤ w.heap.size + 1 + 1 by omega) _
  have z8 : w8.heap.size ≤ (w8.setCell ⟨w.heap.size + 1 + 1, 0, none⟩ (.slice a5 M k5)).heap.size := by simp
  have z9 : W6.heap.size ≤ (w8.setCell ⟨w.heap.size + 1 + 1, 0, none⟩ (.slice a5 M k5)).heap.size := Nat.le_trans (Nat.le_trans s7 s8) z8
  go_wp2_with fail
  refine bodyPost_ret (by rw [results_cell_tmp2 rfl]; go_simp; try rfl) rfl ?_
  refine ⟨W6.heap.size, .slice a5 M k5, v8, by rw [HE.out], by omega, fun k hk => by have := row5 k hk; omega, ?_, ?_, z9, B9⟩
  · rw [HVS.out]; exact (ownS8.setBelow (show w.heap.size + 1 + 1 < w4.heap.size by omega) _).rebase s45
  · rw [HVC.out]; exact (own8.setBelow (show w.heap.size + 1 + 1 < w7.heap.size by omega) _).rebase s7

end Go.Proofs.Ytcbkmmadejbbpaa
