/-
  The contract of the model's JoinOverPlace. By an AI agent.
-/
import Derived.Test.YtfgpenldeckoaaaJnI9
import Derived.Test.YtfgpenldeckoaaaWpA
import Derived.Test.YtfgpenldeckoaaaNrm9
import Derived.Deep.AppendLies
import Derived.Deep.RegionLaw
namespace Go.Proofs.Ytfgpenldeckoaaa
open Go.RowKit Cv
set_option linter.unusedVariables false
set_option linter.unusedSimpArgs false
set_option maxRecDepth 100000

theorem step_append_j9 {ops : Array Oper} {o : Oper} {a : Act} {w : World} {K : Act → World → Prop} {Q : Exit → Act → World → Prop} {E : Prop} (hgd : o.guard = none) (s x : Operand)
    (ho : o.op = .call { callee := .builtin .append, args := #[s, x], argTypes := #[22, 22] })
    (base : Nat) (v : Value) (L : List Int) (hs : a.eval s = v) (hown : OwnInts w base v L) (b : Nat) (y : Int) (hx : a.eval x = .slice (some ⟨b, 0, none⟩) 1 1) (hc : w.cell? ⟨b, 0, none⟩ = some (.int .i64 y))
    (hlen : L.length ≤ 1073741824) (hbase : base ≤ w.heap.size)
    (h : ∀ g cap w', OwnInts w' base (.slice (some ⟨g, 0, none⟩) (L.length + 1) cap) (L ++ [y]) → w.grownBy w' v.ownBlock → (v.ownBlock = some g ∨ g = w.heap.size) → K (a.put o.dst (.slice (some ⟨g, 0, none⟩) (L.length + 1) cap)) w') :
    if Region.wanted o (yielded ops a.tmps) = true then Oper.wp Try.prog o a w K Q else E := by
  obtain ⟨i0, hi, hz0, hz1, hz2⟩ := info_parts infoI64
  refine step_append_lies w hgd s x 22 ho base 2 i0 (.int .i64 0) 1 8 Try.underlying22 hi hz0 hz1 hz2 rfl (by decide) v L.length (L.map (Value.int .i64)) hs hown ⟨b, 0, none⟩ 1 1 [.int .i64 y] hx rfl ?_ ?_ (by decide) (by unfold maxLen; omega) (by omega) hbase _ rfl ?_
  · intro j u hj
    match j, hj with
    | 0, hj => simp at hj; subst hj; simpa [Addr.add] using hc
  · intro u hu; simp at hu; subst hu; rfl
  · intro g cap w' h1 h2 h3 _
    have e : (L ++ [y]).length = L.length + 1 := by simp
    exact h g cap w' (by
      unfold OwnInts
      rw [e, List.map_append]
      exact h1) h2 h3

theorem ints_drop1 {w : World} {xb xo yo : Nat} {X : List Int} (hX : Ints w (some ⟨xb, xo, none⟩) X) (hx1 : 1 ≤ X.length) (hy : X.length = 1 ∨ yo = xo + 1) : Ints w (some ⟨xb, yo, none⟩) (X.drop 1) := by
  rcases hy with hy | rfl
  · exact .inl (by simp; omega)
  obtain ⟨b', o', e, hbl, hc⟩ := hX.at (i := 0) (by omega)
  simp only [Option.some.injEq, Addr.mk.injEq, and_true] at e
  obtain ⟨rfl, rfl⟩ := e
  refine .inr ⟨xb, xo + 1, rfl, hbl, fun i hi => ?_⟩
  simp at hi
  have := hc (1 + i) (by omega)
  rw [show xo + 1 + i = xo + (1 + i) from by omega, this]
  simp [gi, Nat.add_comm]

set_option maxHeartbeats 8000000 in
theorem spec_JoinOverPlace_sF (as0 : Addr) (S : List Int) (cap : Nat) (hn : S.length ≤ 4294967296) (ac : Option Addr) (C : List Int) (capc : Nat) (hnc : C.length ≤ 4294967296) (ax : Addr) (X : List Int) (capx : Nat) (hnx : X.length ≤ 4294967296) (hcx : X.length ≤ capx) (ad : Option Addr) (D : List Int) (capd : Nat) (hnd : D.length ≤ 4294967296) (w : World) (hS : Ints w (some as0) S) (hC : Ints w ac C) (hX : Ints w (some ax) X) (hD : Ints w ad D) (h1 : isSp S = false) :
    Calls Try.prog 28 #[.agg #[.slice (some as0) S.length cap], .slice ac C.length capc, .agg #[.slice (some ax) X.length capx], .slice ad D.length capd] w fun e w' => ∃ m vs v, e = .returned (.tuple #[.agg #[vs], v, .int .i64 (eJn S C X D)]) ∧ w.heap.size ≤ m ∧ RowIn vs w.heap.size m ∧ OwnInts w' w.heap.size vs (vJnS S C X D) ∧ OwnInts w' m v (vJnC S C X D) ∧ m ≤ w'.heap.size ∧ Below w.heap.size w w' := by
  obtain ⟨W0, hW0, cS, cX, rR, z0, B0⟩ := box3_9 w (.slice (some as0) S.length cap) (.slice (some ax) X.length capx) (.slice none 0 0) 28
  have HW0 := Lib.hid hW0
  have z0a : w.heap.size + 3 ≤ W0.heap.size := by omega
  have hbo : eBo S C X D = 1 := by unfold eBo; simp [h1]
  obtain ⟨x1, x2, x3⟩ := eJn_1 (S := S) (C := C) (X := X) (D := D) (by rw [hbo]; decide)
  rw [hbo] at x1
  have HE := Lib.hid x1
  have HS0 := Lib.hid x2
  have HC0 := Lib.hid x3
  have H1 := Lib.hid h1
  clear hW0 z0 h1 hbo x1 x2 x3
  go_enter Try.func28, Try.ntmps28
  go_wp2_with fail
  rw [← HW0.out]
  refine (l01Is_any _ S cap _ hn (hS.below B0)).mono ?_
  rw [H1.out]
  rintro e w1 ⟨rfl, hb1⟩
  have s1 : w.heap.size + 3 ≤ w1.heap.size := by have := hb1.size; omega
  have cS1 := kept_cell hb1 cS (by omega)
  have cX1 := kept_cell hb1 cX (by omega)
  have rR1 := row_below9 rR hb1 (by omega)
  have B1 := B0.trans (hb1.mono (by have := B0.size; omega))
  clear hb1 cS cX rR
  have rc : w1.cell? ⟨w.heap.size + 1 + 1, 0, none⟩ = some (.slice none 0 0) := by rw [cell_of_row w1 (w.heap.size + 2) 0 _ _ _ rR1]; rfl
  have rf : w1.frozen? ⟨w.heap.size + 1 + 1, 0, none⟩ = false := by have h' := rR1; simp [World.frozen?, h']
  have rs : (w1.setCell ⟨w.heap.size + 1 + 1, 0, none⟩ (.slice none 0 0)).cell? ⟨w.heap.size + 1 + 1, 0, none⟩ = some (.slice none 0 0) := World.cell?_setCell_same' _ _ _ (by rw [rc]; rfl)
  have B9 : Below w.heap.size w (w1.setCell ⟨w.heap.size + 1 + 1, 0, none⟩ (.slice none 0 0)) := B1.setCell (show w.heap.size ≤ w.heap.size + 1 + 1 by omega) _
  go_wp2_with fail
  refine bodyPost_ret (by rw [results_sp9 rfl]; go_simp; try rfl) rfl ?_
  exact ⟨w.heap.size, .slice none 0 0, _, by rw [HE.out], Nat.le_refl _, fun k hk => (by cases hk), by rw [HS0.out]; exact own_nil _ _, by rw [HC0.out]; exact own_nil _ _, B9.size, B9⟩

set_option maxHeartbeats 8000000 in
theorem spec_JoinOverPlace_xF (as0 : Addr) (S : List Int) (cap : Nat) (hn : S.length ≤ 4294967296) (ac : Option Addr) (C : List Int) (capc : Nat) (hnc : C.length ≤ 4294967296) (ax : Addr) (X : List Int) (capx : Nat) (hnx : X.length ≤ 4294967296) (hcx : X.length ≤ capx) (ad : Option Addr) (D : List Int) (capd : Nat) (hnd : D.length ≤ 4294967296) (w : World) (hS : Ints w (some as0) S) (hC : Ints w ac C) (hX : Ints w (some ax) X) (hD : Ints w ad D) (h1 : isSp S = true) (h2 : isSp X = false) :
    Calls Try.prog 28 #[.agg #[.slice (some as0) S.length cap], .slice ac C.length capc, .agg #[.slice (some ax) X.length capx], .slice ad D.length capd] w fun e w' => ∃ m vs v, e = .returned (.tuple #[.agg #[vs], v, .int .i64 (eJn S C X D)]) ∧ w.heap.size ≤ m ∧ RowIn vs w.heap.size m ∧ OwnInts w' w.heap.size vs (vJnS S C X D) ∧ OwnInts w' m v (vJnC S C X D) ∧ m ≤ w'.heap.size ∧ Below w.heap.size w w' := by
  obtain ⟨W0, hW0, cS, cX, rR, z0, B0⟩ := box3_9 w (.slice (some as0) S.length cap) (.slice (some ax) X.length capx) (.slice none 0 0) 28
  have HW0 := Lib.hid hW0
  have z0a : w.heap.size + 3 ≤ W0.heap.size := by omega
  have hbo : eBo S C X D = 1 := by unfold eBo; simp [h1, h2]
  obtain ⟨x1, x2, x3⟩ := eJn_1 (S := S) (C := C) (X := X) (D := D) (by rw [hbo]; decide)
  rw [hbo] at x1
  have HE := Lib.hid x1
  have HS0 := Lib.hid x2
  have HC0 := Lib.hid x3
  have H1 := Lib.hid h1
  have H2 := Lib.hid h2
  clear hW0 z0 h1 h2 hbo x1 x2 x3
  go_enter Try.func28, Try.ntmps28
  go_wp2_with fail
  rw [← HW0.out]
  refine (l01Is_any _ S cap _ hn (hS.below B0)).mono ?_
  rw [H1.out]
  rintro e w1 ⟨rfl, hb1⟩
  have s1 : w.heap.size + 3 ≤ w1.heap.size := by have := hb1.size; omega
  have cS1 := kept_cell hb1 cS (by omega)
  have cX1 := kept_cell hb1 cX (by omega)
  have rR1 := row_below9 rR hb1 (by omega)
  have B1 := B0.trans (hb1.mono (by have := B0.size; omega))
  clear hb1 cS cX rR
  go_wp2_with fail
  refine (l01Is_any _ X capx _ hnx (hX.below B1)).mono ?_
  rw [H2.out]
  rintro e w2 ⟨rfl, hb2⟩
  have s2 : w.heap.size + 3 ≤ w2.heap.size := by have := hb2.size; omega
  have cS2 := kept_cell hb2 cS1 (by omega)
  have cX2 := kept_cell hb2 cX1 (by omega)
  have rR2 := row_below9 rR1 hb2 (by omega)
  have B2 := B1.trans (hb2.mono (by have := B1.size; omega))
  clear hb2 cS1 cX1 rR1
  have rc : w2.cell? ⟨w.heap.size + 1 + 1, 0, none⟩ = some (.slice none 0 0) := by rw [cell_of_row w2 (w.heap.size + 2) 0 _ _ _ rR2]; rfl
  have rf : w2.frozen? ⟨w.heap.size + 1 + 1, 0, none⟩ = false := by have h' := rR2; simp [World.frozen?, h']
  have rs : (w2.setCell ⟨w.heap.size + 1 + 1, 0, none⟩ (.slice none 0 0)).cell? ⟨w.heap.size + 1 + 1, 0, none⟩ = some (.slice none 0 0) := World.cell?_setCell_same' _ _ _ (by rw [rc]; rfl)
  have B9 : Below w.heap.size w (w2.setCell ⟨w.heap.size + 1 + 1, 0, none⟩ (.slice none 0 0)) := B2.setCell (show w.heap.size ≤ w.heap.size + 1 + 1 by omega) _
  go_wp2_with fail
  refine bodyPost_ret (by rw [results_sp9 rfl]; go_simp; try rfl) rfl ?_
  exact ⟨w.heap.size, .slice none 0 0, _, by rw [HE.out], Nat.le_refl _, fun k hk => (by cases hk), by rw [HS0.out]; exact own_nil _ _, by rw [HC0.out]; exact own_nil _ _, B9.size, B9⟩

set_option maxHeartbeats 8000000 in
theorem spec_JoinOverPlace_cF (as0 : Addr) (S : List Int) (cap : Nat) (hn : S.length ≤ 4294967296) (ac : Option Addr) (C : List Int) (capc : Nat) (hnc : C.length ≤ 4294967296) (ax : Addr) (X : List Int) (capx : Nat) (hnx : X.length ≤ 4294967296) (hcx : X.length ≤ capx) (ad : Option Addr) (D : List Int) (capd : Nat) (hnd : D.length ≤ 4294967296) (w : World) (hS : Ints w (some as0) S) (hC : Ints w ac C) (hX : Ints w (some ax) X) (hD : Ints w ad D) (h1 : isSp S = true) (h2 : isSp X = true) (h3 : codeB S C = false) :
    Calls Try.prog 28 #[.agg #[.slice (some as0) S.length cap], .slice ac C.length capc, .agg #[.slice (some ax) X.length capx], .slice ad D.length capd] w fun e w' => ∃ m vs v, e = .returned (.tuple #[.agg #[vs], v, .int .i64 (eJn S C X D)]) ∧ w.heap.size ≤ m ∧ RowIn vs w.heap.size m ∧ OwnInts w' w.heap.size vs (vJnS S C X D) ∧ OwnInts w' m v (vJnC S C X D) ∧ m ≤ w'.heap.size ∧ Below w.heap.size w w' := by
  obtain ⟨W0, hW0, cS, cX, rR, z0, B0⟩ := box3_9 w (.slice (some as0) S.length cap) (.slice (some ax) X.length capx) (.slice none 0 0) 28
  have HW0 := Lib.hid hW0
  have z0a : w.heap.size + 3 ≤ W0.heap.size := by omega
  have hbo : eBo S C X D = 2 := by unfold eBo; simp [h1, h2, h3]
  obtain ⟨x1, x2, x3⟩ := eJn_1 (S := S) (C := C) (X := X) (D := D) (by rw [hbo]; decide)
  rw [hbo] at x1
  have HE := Lib.hid x1
  have HS0 := Lib.hid x2
  have HC0 := Lib.hid x3
  have HSS := Lib.hid ((isSp_iff S).1 h1)
  have H1 := Lib.hid h1
  have H2 := Lib.hid h2
  have H3 := Lib.hid h3
  clear hW0 z0 h1 h2 h3 hbo x1 x2 x3
  go_enter Try.func28, Try.ntmps28
  go_wp2_with fail
  rw [← HW0.out]
  refine (l01Is_any _ S cap _ hn (hS.below B0)).mono ?_
  rw [H1.out]
  rintro e w1 ⟨rfl, hb1⟩
  have s1 : w.heap.size + 3 ≤ w1.heap.size := by have := hb1.size; omega
  have cS1 := kept_cell hb1 cS (by omega)
  have cX1 := kept_cell hb1 cX (by omega)
  have rR1 := row_below9 rR hb1 (by omega)
  have B1 := B0.trans (hb1.mono (by have := B0.size; omega))
  clear hb1 cS cX rR
  go_wp2_with fail
  refine (l01Is_any _ X capx _ hnx (hX.below B1)).mono ?_
  rw [H2.out]
  rintro e w2 ⟨rfl, hb2⟩
  have s2 : w.heap.size + 3 ≤ w2.heap.size := by have := hb2.size; omega
  have cS2 := kept_cell hb2 cS1 (by omega)
  have cX2 := kept_cell hb2 cX1 (by omega)
  have rR2 := row_below9 rR1 hb2 (by omega)
  have B2 := B1.trans (hb2.mono (by have := B1.size; omega))
  clear hb2 cS1 cX1 rR1
  go_wp2_with fail
  refine (l01Code_any _ S cap HSS.out ac C capc hnc _ (hS.below B2) (hC.below B2)).mono ?_
  rw [H3.out]
  rintro e w3 ⟨rfl, hb3⟩
  have s3 : w.heap.size + 3 ≤ w3.heap.size := by have := hb3.size; omega
  have cS3 := kept_cell hb3 cS2 (by omega)
  have cX3 := kept_cell hb3 cX2 (by omega)
  have rR3 := row_below9 rR2 hb3 (by omega)
  have B3 := B2.trans (hb3.mono (by have := B2.size; omega))
  clear hb3 cS2 cX2 rR2
  have rc : w3.cell? ⟨w.heap.size + 1 + 1, 0, none⟩ = some (.slice none 0 0) := by rw [cell_of_row w3 (w.heap.size + 2) 0 _ _ _ rR3]; rfl
  have rf : w3.frozen? ⟨w.heap.size + 1 + 1, 0, none⟩ = false := by have h' := rR3; simp [World.frozen?, h']
  have rs : (w3.setCell ⟨w.heap.size + 1 + 1, 0, none⟩ (.slice none 0 0)).cell? ⟨w.heap.size + 1 + 1, 0, none⟩ = some (.slice none 0 0) := World.cell?_setCell_same' _ _ _ (by rw [rc]; rfl)
  have B9 : Below w.heap.size w (w3.setCell ⟨w.heap.size + 1 + 1, 0, none⟩ (.slice none 0 0)) := B3.setCell (show w.heap.size ≤ w.heap.size + 1 + 1 by omega) _
  go_wp2_with fail
  refine bodyPost_ret (by rw [results_sp9 rfl]; go_simp; try rfl) rfl ?_
  exact ⟨w.heap.size, .slice none 0 0, _, by rw [HE.out], Nat.le_refl _, fun k hk => (by cases hk), by rw [HS0.out]; exact own_nil _ _, by rw [HC0.out]; exact own_nil _ _, B9.size, B9⟩

set_option maxHeartbeats 8000000 in
theorem spec_JoinOverPlace_dF (as0 : Addr) (S : List Int) (cap : Nat) (hn : S.length ≤ 4294967296) (ac : Option Addr) (C : List Int) (capc : Nat) (hnc : C.length ≤ 4294967296) (ax : Addr) (X : List Int) (capx : Nat) (hnx : X.length ≤ 4294967296) (hcx : X.length ≤ capx) (ad : Option Addr) (D : List Int) (capd : Nat) (hnd : D.length ≤ 4294967296) (w : World) (hS : Ints w (some as0) S) (hC : Ints w ac C) (hX : Ints w (some ax) X) (hD : Ints w ad D) (h1 : isSp S = true) (h2 : isSp X = true) (h3 : codeB S C = true) (h4 : codeB X D = false) :
    Calls Try.prog 28 #[.agg #[.slice (some as0) S.length cap], .slice ac C.length capc, .agg #[.slice (some ax) X.length capx], .slice ad D.length capd] w fun e w' => ∃ m vs v, e = .returned (.tuple #[.agg #[vs], v, .int .i64 (eJn S C X D)]) ∧ w.heap.size ≤ m ∧ RowIn vs w.heap.size m ∧ OwnInts w' w.heap.size vs (vJnS S C X D) ∧ OwnInts w' m v (vJnC S C X D) ∧ m ≤ w'.heap.size ∧ Below w.heap.size w w' := by
  obtain ⟨W0, hW0, cS, cX, rR, z0, B0⟩ := box3_9 w (.slice (some as0) S.length cap) (.slice (some ax) X.length capx) (.slice none 0 0) 28
  have HW0 := Lib.hid hW0
  have z0a : w.heap.size + 3 ≤ W0.heap.size := by omega
  have hbo : eBo S C X D = 2 := by unfold eBo; simp [h1, h2, h3, h4]
  obtain ⟨x1, x2, x3⟩ := eJn_1 (S := S) (C := C) (X := X) (D := D) (by rw [hbo]; decide)
  rw [hbo] at x1
  have HE := Lib.hid x1
  have HS0 := Lib.hid x2
  have HC0 := Lib.hid x3
  have HSS := Lib.hid ((isSp_iff S).1 h1)
  have HXX := Lib.hid ((isSp_iff X).1 h2)
  have H1 := Lib.hid h1
  have H2 := Lib.hid h2
  have H3 := Lib.hid h3
  have H4 := Lib.hid h4
  clear hW0 z0 h1 h2 h3 h4 hbo x1 x2 x3
  go_enter Try.func28, Try.ntmps28
  go_wp2_with fail
  rw [← HW0.out]
  refine (l01Is_any _ S cap _ hn (hS.below B0)).mono ?_
  rw [H1.out]
  rintro e w1 ⟨rfl, hb1⟩
  have s1 : w.heap.size + 3 ≤ w1.heap.size := by have := hb1.size; omega
  have cS1 := kept_cell hb1 cS (by omega)
  have cX1 := kept_cell hb1 cX (by omega)
  have rR1 := row_below9 rR hb1 (by omega)
  have B1 := B0.trans (hb1.mono (by have := B0.size; omega))
  clear hb1 cS cX rR
  go_wp2_with fail
  refine (l01Is_any _ X capx _ hnx (hX.below B1)).mono ?_
  rw [H2.out]
  rintro e w2 ⟨rfl, hb2⟩
  have s2 : w.heap.size + 3 ≤ w2.heap.size := by have := hb2.size; omega
  have cS2 := kept_cell hb2 cS1 (by omega)
  have cX2 := kept_cell hb2 cX1 (by omega)
  have rR2 := row_below9 rR1 hb2 (by omega)
  have B2 := B1.trans (hb2.mono (by have := B1.size; omega))
  clear hb2 cS1 cX1 rR1
  go_wp2_with fail
  refine (l01Code_any _ S cap HSS.out ac C capc hnc _ (hS.below B2) (hC.below B2)).mono ?_
  rw [H3.out]
  rintro e w3 ⟨rfl, hb3⟩
  have s3 : w.heap.size + 3 ≤ w3.heap.size := by have := hb3.size; omega
  have cS3 := kept_cell hb3 cS2 (by omega)
  have cX3 := kept_cell hb3 cX2 (by omega)
  have rR3 := row_below9 rR2 hb3 (by omega)
  have B3 := B2.trans (hb3.mono (by have := B2.size; omega))
  clear hb3 cS2 cX2 rR2
  go_wp2_with fail
  refine (l01Code_any _ X capx HXX.out ad D capd hnd _ (hX.below B3) (hD.below B3)).mono ?_
  rw [H4.out]
  rintro e w4 ⟨rfl, hb4⟩
  have s4 : w.heap.size + 3 ≤ w4.heap.size := by have := hb4.size; omega
  have cS4 := kept_cell hb4 cS3 (by omega)
  have cX4 := kept_cell hb4 cX3 (by omega)
  have rR4 := row_below9 rR3 hb4 (by omega)
  have B4 := B3.trans (hb4.mono (by have := B3.size; omega))
  clear hb4 cS3 cX3 rR3
  have rc : w4.cell? ⟨w.heap.size + 1 + 1, 0, none⟩ = some (.slice none 0 0) := by rw [cell_of_row w4 (w.heap.size + 2) 0 _ _ _ rR4]; rfl
  have rf : w4.frozen? ⟨w.heap.size + 1 + 1, 0, none⟩ = false := by have h' := rR4; simp [World.frozen?, h']
  have rs : (w4.setCell ⟨w.heap.size + 1 + 1, 0, none⟩ (.slice none 0 0)).cell? ⟨w.heap.size + 1 + 1, 0, none⟩ = some (.slice none 0 0) := World.cell?_setCell_same' _ _ _ (by rw [rc]; rfl)
  have B9 : Below w.heap.size w (w4.setCell ⟨w.heap.size + 1 + 1, 0, none⟩ (.slice none 0 0)) := B4.setCell (show w.heap.size ≤ w.heap.size + 1 + 1 by omega) _
  go_wp2_with fail
  refine bodyPost_ret (by rw [results_sp9 rfl]; go_simp; try rfl) rfl ?_
  exact ⟨w.heap.size, .slice none 0 0, _, by rw [HE.out], Nat.le_refl _, fun k hk => (by cases hk), by rw [HS0.out]; exact own_nil _ _, by rw [HC0.out]; exact own_nil _ _, B9.size, B9⟩

set_option maxHeartbeats 8000000 in
theorem spec_JoinOverPlace_e5 (as0 : Addr) (S : List Int) (cap : Nat) (hn : S.length ≤ 4294967296) (ac : Option Addr) (C : List Int) (capc : Nat) (hnc : C.length ≤ 4294967296) (ax : Addr) (X : List Int) (capx : Nat) (hnx : X.length ≤ 4294967296) (hcx : X.length ≤ capx) (ad : Option Addr) (D : List Int) (capd : Nat) (hnd : D.length ≤ 4294967296) (w : World) (hS : Ints w (some as0) S) (hC : Ints w ac C) (hX : Ints w (some ax) X) (hD : Ints w ad D) (h1 : isSp S = true) (h2 : isSp X = true) (h3 : codeB S C = true) (h4 : codeB X D = true) (hl : jnB S X = false) :
    Calls Try.prog 28 #[.agg #[.slice (some as0) S.length cap], .slice ac C.length capc, .agg #[.slice (some ax) X.length capx], .slice ad D.length capd] w fun e w' => ∃ m vs v, e = .returned (.tuple #[.agg #[vs], v, .int .i64 (eJn S C X D)]) ∧ w.heap.size ≤ m ∧ RowIn vs w.heap.size m ∧ OwnInts w' w.heap.size vs (vJnS S C X D) ∧ OwnInts w' m v (vJnC S C X D) ∧ m ≤ w'.heap.size ∧ Below w.heap.size w w' := by
  obtain ⟨W0, hW0, cS, cX, rR, z0, B0⟩ := box3_9 w (.slice (some as0) S.length cap) (.slice (some ax) X.length capx) (.slice none 0 0) 28
  have HW0 := Lib.hid hW0
  have z0a : w.heap.size + 3 ≤ W0.heap.size := by omega
  have hz : eBo S C X D = 0 := by unfold eBo; simp [h1, h2, h3, h4]
  obtain ⟨x1, x2, x3⟩ := eJn_2 hz hl
  have HE := Lib.hid x1
  have HS0 := Lib.hid x2
  have HC0 := Lib.hid x3
  obtain ⟨hcs, hcx0⟩ := eBo_zero hz
  have HSS := Lib.hid (eCode_zero hcs).1
  have HXX := Lib.hid (eCode_zero hcx0).1
  have hlo := (eCode_zero hcs).1.lo
  have hhi := (eCode_zero hcs).1.hi
  have hxlo := (eCode_zero hcx0).1.lo
  have hxhi := (eCode_zero hcx0).1.hi
  obtain ⟨sb, so, hso, hsbl, hsc⟩ := hS.at (i := S.length - 1) (by omega)
  obtain rfl := Option.some.inj hso
  obtain ⟨xb, xo, hxo, hxbl, hxc⟩ := hX.at (i := 0) (by omega)
  obtain rfl := Option.some.inj hxo
  have hsl := hsc (S.length - 1) (by omega)
  have hx0 := hxc 0 (by omega)
  rw [Nat.add_zero] at hx0
  obtain ⟨ls, hls⟩ : ∃ ls, ls = gi S (S.length - 1) := ⟨_, rfl⟩
  obtain ⟨q, hq⟩ : ∃ q, q = gi X 0 := ⟨_, rfl⟩
  have hq4 := (eCode_zero hcx0).1.bd 0 (by omega)
  rw [← hq] at hq4
  rw [← hls] at hsl
  rw [← hq] at hx0
  obtain ⟨q2, q4⟩ := hq4
  have HQ := Lib.hid hq
  have i1 : (0 : Int) ≤ (S.length : Int) - 1 := by omega
  have i2 : (S.length : Int) - 1 < (S.length : Int) := by omega
  have HI : Hid (((S.length : Int) - 1).toNat = S.length - 1) := Lib.hid (by omega)
  have e3 : ((S.length : Int) - 1).toNat = S.length - 1 := HI.out
  have i3 : 0 < X.length := by omega
  have H1 := Lib.hid h1
  have H2 := Lib.hid h2
  have H3 := Lib.hid h3
  have H4 := Lib.hid h4
  have hne : (ls != q) = true := by have h := hl; unfold jnB at h; rw [← hls, ← hq] at h; simpa using h
  clear hW0 z0 h1 h2 h3 h4 hz x1 x2 x3 hl hcs hcx0 hso hxo hsc hxc hls hq
  go_enter Try.func28, Try.ntmps28
  go_wp2_with fail
  rw [← HW0.out]
  refine (l01Is_any _ S cap _ hn (hS.below B0)).mono ?_
  rw [H1.out]
  rintro e w1 ⟨rfl, hb1⟩
  have s1 : w.heap.size + 3 ≤ w1.heap.size := by have := hb1.size; omega
  have cS1 := kept_cell hb1 cS (by omega)
  have cX1 := kept_cell hb1 cX (by omega)
  have rR1 := row_below9 rR hb1 (by omega)
  have B1 := B0.trans (hb1.mono (by have := B0.size; omega))
  clear hb1 cS cX rR
  go_wp2_with fail
  refine (l01Is_any _ X capx _ hnx (hX.below B1)).mono ?_
  rw [H2.out]
  rintro e w2 ⟨rfl, hb2⟩
  have s2 : w.heap.size + 3 ≤ w2.heap.size := by have := hb2.size; omega
  have cS2 := kept_cell hb2 cS1 (by omega)
  have cX2 := kept_cell hb2 cX1 (by omega)
  have rR2 := row_below9 rR1 hb2 (by omega)
  have B2 := B1.trans (hb2.mono (by have := B1.size; omega))
  clear hb2 cS1 cX1 rR1
  go_wp2_with fail
  refine (l01Code_any _ S cap HSS.out ac C capc hnc _ (hS.below B2) (hC.below B2)).mono ?_
  rw [H3.out]
  rintro e w3 ⟨rfl, hb3⟩
  have s3 : w.heap.size + 3 ≤ w3.heap.size := by have := hb3.size; omega
  have cS3 := kept_cell hb3 cS2 (by omega)
  have cX3 := kept_cell hb3 cX2 (by omega)
  have rR3 := row_below9 rR2 hb3 (by omega)
  have B3 := B2.trans (hb3.mono (by have := B2.size; omega))
  clear hb3 cS2 cX2 rR2
  go_wp2_with fail
  refine (l01Code_any _ X capx HXX.out ad D capd hnd _ (hX.below B3) (hD.below B3)).mono ?_
  rw [H4.out]
  rintro e w4 ⟨rfl, hb4⟩
  have s4 : w.heap.size + 3 ≤ w4.heap.size := by have := hb4.size; omega
  have cS4 := kept_cell hb4 cS3 (by omega)
  have cX4 := kept_cell hb4 cX3 (by omega)
  have rR4 := row_below9 rR3 hb4 (by omega)
  have B4 := B3.trans (hb4.mono (by have := B3.size; omega))
  clear hb4 cS3 cX3 rR3
  have hsl1 := kept_cell B4 hsl hsbl
  have hx01 := kept_cell B4 hx0 hxbl
  go_wp2_with fail
  go_quiet (fail)
  obtain ⟨w6, hw6⟩ : ∃ z, z = w4.drewN nq := ⟨_, rfl⟩
  have hb6 : Below w4.heap.size w4 w6 := by rw [hw6]; exact below_drewN (Below.refl _ _) nq
  rw [← hw6]
  have s6 : w.heap.size + 3 ≤ w6.heap.size := by have := hb6.size; omega
  have cS6 := kept_cell hb6 cS4 (by omega)
  have cX6 := kept_cell hb6 cX4 (by omega)
  have rR6 := row_below9 rR4 hb6 (by omega)
  have B6 := B4.trans (hb6.mono B4.size)
  have hsl6 := kept_cell hb6 hsl1 (lt_of_below B4 hsbl)
  have hx06 := kept_cell hb6 hx01 (lt_of_below B4 hxbl)
  clear hw6 hb6 cS4 cX4 rR4 B4 hsl1 hx01
  have rc : w6.cell? ⟨w.heap.size + 1 + 1, 0, none⟩ = some (.slice none 0 0) := by rw [cell_of_row w6 (w.heap.size + 2) 0 _ _ _ rR6]; rfl
  have rf : w6.frozen? ⟨w.heap.size + 1 + 1, 0, none⟩ = false := by have h' := rR6; simp [World.frozen?, h']
  have rs : (w6.setCell ⟨w.heap.size + 1 + 1, 0, none⟩ (.slice none 0 0)).cell? ⟨w.heap.size + 1 + 1, 0, none⟩ = some (.slice none 0 0) := World.cell?_setCell_same' _ _ _ (by rw [rc]; rfl)
  have B9 : Below w.heap.size w (w6.setCell ⟨w.heap.size + 1 + 1, 0, none⟩ (.slice none 0 0)) := B6.setCell (show w.heap.size ≤ w.heap.size + 1 + 1 by omega) _
  go_wp2_with fail
  refine bodyPost_ret (by rw [results_sp9 rfl]; go_simp; try rfl) rfl ?_
  exact ⟨w.heap.size, .slice none 0 0, _, by rw [HE.out], Nat.le_refl _, fun k hk => (by cases hk), by rw [HS0.out]; exact own_nil _ _, by rw [HC0.out]; exact own_nil _ _, B9.size, B9⟩

set_option maxHeartbeats 8000000 in
theorem spec_JoinOverPlace_e3a (as0 : Addr) (S : List Int) (cap : Nat) (hn : S.length ≤ 4294967296) (ac : Option Addr) (C : List Int) (capc : Nat) (hnc : C.length ≤ 4294967296) (ax : Addr) (X : List Int) (capx : Nat) (hnx : X.length ≤ 4294967296) (hcx : X.length ≤ capx) (ad : Option Addr) (D : List Int) (capd : Nat) (hnd : D.length ≤ 4294967296) (w : World) (hS : Ints w (some as0) S) (hC : Ints w ac C) (hX : Ints w (some ax) X) (hD : Ints w ad D) (h1 : isSp S = true) (h2 : isSp X = true) (h3 : codeB S C = true) (h4 : codeB X D = true) (hl : jnB S X = true) (hs : isSp (jnS S X) = false) (hcp : ¬ capx = 1) :
    Calls Try.prog 28 #[.agg #[.slice (some as0) S.length cap], .slice ac C.length capc, .agg #[.slice (some ax) X.length capx], .slice ad D.length capd] w fun e w' => ∃ m vs v, e = .returned (.tuple #[.agg #[vs], v, .int .i64 (eJn S C X D)]) ∧ w.heap.size ≤ m ∧ RowIn vs w.heap.size m ∧ OwnInts w' w.heap.size vs (vJnS S C X D) ∧ OwnInts w' m v (vJnC S C X D) ∧ m ≤ w'.heap.size ∧ Below w.heap.size w w' := by
  obtain ⟨W0, hW0, cS, cX, rR, z0, B0⟩ := box3_9 w (.slice (some as0) S.length cap) (.slice (some ax) X.length capx) (.slice none 0 0) 28
  have HW0 := Lib.hid hW0
  have z0a : w.heap.size + 3 ≤ W0.heap.size := by omega
  have hz : eBo S C X D = 0 := by unfold eBo; simp [h1, h2, h3, h4]
  obtain ⟨x1, x2, x3⟩ := eJn_3 hz hl hs
  have HE := Lib.hid x1
  have HS0 := Lib.hid x2
  have HC0 := Lib.hid x3
  obtain ⟨hcs, hcx0⟩ := eBo_zero hz
  have HSS := Lib.hid (eCode_zero hcs).1
  have HXX := Lib.hid (eCode_zero hcx0).1
  have hlo := (eCode_zero hcs).1.lo
  have hhi := (eCode_zero hcs).1.hi
  have hxlo := (eCode_zero hcx0).1.lo
  have hxhi := (eCode_zero hcx0).1.hi
  obtain ⟨sb, so, hso, hsbl, hsc⟩ := hS.at (i := S.length - 1) (by omega)
  obtain rfl := Option.some.inj hso
  obtain ⟨xb, xo, hxo, hxbl, hxc⟩ := hX.at (i := 0) (by omega)
  obtain rfl := Option.some.inj hxo
  have hsl := hsc (S.length - 1) (by omega)
  have hx0 := hxc 0 (by omega)
  rw [Nat.add_zero] at hx0
  obtain ⟨ls, hls⟩ : ∃ ls, ls = gi S (S.length - 1) := ⟨_, rfl⟩
  obtain ⟨q, hq⟩ : ∃ q, q = gi X 0 := ⟨_, rfl⟩
  have hq4 := (eCode_zero hcx0).1.bd 0 (by omega)
  rw [← hq] at hq4
  rw [← hls] at hsl
  rw [← hq] at hx0
  obtain ⟨q2, q4⟩ := hq4
  have HQ := Lib.hid hq
  have i1 : (0 : Int) ≤ (S.length : Int) - 1 := by omega
  have i2 : (S.length : Int) - 1 < (S.length : Int) := by omega
  have HI : Hid (((S.length : Int) - 1).toNat = S.length - 1) := Lib.hid (by omega)
  have e3 : ((S.length : Int) - 1).toNat = S.length - 1 := HI.out
  have i3 : 0 < X.length := by omega
  have hnb : (ls != q) = false := by have h := hl; unfold jnB at h; rw [← hls, ← hq] at h; simpa using h
  obtain ⟨n, hnl⟩ : ∃ n, n = (jnS S X).length := ⟨_, rfl⟩
  have HNl := Lib.hid hnl
  have hn16 : n ≤ 16 := by rw [hnl]; unfold jnS; simp; omega
  have hx1n : 1 ≤ X.length := by omega
  have i4 : (1 : Int) ≤ (X.length : Int) := by omega
  have hcx1 : ¬ capx = 1 := hcp
  have H1 := Lib.hid h1
  have H2 := Lib.hid h2
  have H3 := Lib.hid h3
  have H4 := Lib.hid h4
  have HIS := Lib.hid hs
  clear hW0 z0 h1 h2 h3 h4 hz x1 x2 x3 hl hcs hcx0 hso hxo hsc hxc hls hq hs hnl
  go_enter Try.func28, Try.ntmps28
  go_wp2_with fail
  rw [← HW0.out]
  refine (l01Is_any _ S cap _ hn (hS.below B0)).mono ?_
  rw [H1.out]
  rintro e w1 ⟨rfl, hb1⟩
  have s1 : w.heap.size + 3 ≤ w1.heap.size := by have := hb1.size; omega
  have cS1 := kept_cell hb1 cS (by omega)
  have cX1 := kept_cell hb1 cX (by omega)
  have rR1 := row_below9 rR hb1 (by omega)
  have B1 := B0.trans (hb1.mono (by have := B0.size; omega))
  clear hb1 cS cX rR
  go_wp2_with fail
  refine (l01Is_any _ X capx _ hnx (hX.below B1)).mono ?_
  rw [H2.out]
  rintro e w2 ⟨rfl, hb2⟩
  have s2 : w.heap.size + 3 ≤ w2.heap.size := by have := hb2.size; omega
  have cS2 := kept_cell hb2 cS1 (by omega)
  have cX2 := kept_cell hb2 cX1 (by omega)
  have rR2 := row_below9 rR1 hb2 (by omega)
  have B2 := B1.trans (hb2.mono (by have := B1.size; omega))
  clear hb2 cS1 cX1 rR1
  go_wp2_with fail
  refine (l01Code_any _ S cap HSS.out ac C capc hnc _ (hS.below B2) (hC.below B2)).mono ?_
  rw [H3.out]
  rintro e w3 ⟨rfl, hb3⟩
  have s3 : w.heap.size + 3 ≤ w3.heap.size := by have := hb3.size; omega
  have cS3 := kept_cell hb3 cS2 (by omega)
  have cX3 := kept_cell hb3 cX2 (by omega)
  have rR3 := row_below9 rR2 hb3 (by omega)
  have B3 := B2.trans (hb3.mono (by have := B2.size; omega))
  clear hb3 cS2 cX2 rR2
  go_wp2_with fail
  refine (l01Code_any _ X capx HXX.out ad D capd hnd _ (hX.below B3) (hD.below B3)).mono ?_
  rw [H4.out]
  rintro e w4 ⟨rfl, hb4⟩
  have s4 : w.heap.size + 3 ≤ w4.heap.size := by have := hb4.size; omega
  have cS4 := kept_cell hb4 cS3 (by omega)
  have cX4 := kept_cell hb4 cX3 (by omega)
  have rR4 := row_below9 rR3 hb4 (by omega)
  have B4 := B3.trans (hb4.mono (by have := B3.size; omega))
  clear hb4 cS3 cX3 rR3
  have hsl1 := kept_cell B4 hsl hsbl
  have hx01 := kept_cell B4 hx0 hxbl
  go_wp2_with fail
  go_quiet (fail)
  obtain ⟨w6, hw6⟩ : ∃ z, z = w4.drewN nq := ⟨_, rfl⟩
  have hb6 : Below w4.heap.size w4 w6 := by rw [hw6]; exact below_drewN (Below.refl _ _) nq
  rw [← hw6]
  have s6 : w.heap.size + 3 ≤ w6.heap.size := by have := hb6.size; omega
  have cS6 := kept_cell hb6 cS4 (by omega)
  have cX6 := kept_cell hb6 cX4 (by omega)
  have rR6 := row_below9 rR4 hb6 (by omega)
  have B6 := B4.trans (hb6.mono B4.size)
  have hsl6 := kept_cell hb6 hsl1 (lt_of_below B4 hsbl)
  have hx06 := kept_cell hb6 hx01 (lt_of_below B4 hxbl)
  clear hw6 hb6 cS4 cX4 rR4 B4 hsl1 hx01
  go_upto_region 7 with fail
  go_cut [11] from 54 to 61 (fun sx wx => ∃ (qb g cg : Nat), sx = .pointer (some ⟨qb, 0, none⟩) ∧ wx.cell? ⟨qb, 0, none⟩ = some (.slice (some ⟨g, 0, none⟩) n cg) ∧ w6.heap.size ≤ qb ∧ qb < wx.heap.size ∧ OwnInts wx w6.heap.size (.slice (some ⟨g, 0, none⟩) n cg) (jnS S X) ∧ g ≠ qb ∧ Below w6.heap.size w6 wx)
  case first =>
    clear rR6
    refine wp_region_held_drew (S := fun w' => w'.cell? ⟨w.heap.size, 0, none⟩ = some (.slice (some ⟨sb, so, none⟩) S.length cap) ∧ w'.cell? ⟨w.heap.size + 1, 0, none⟩ = some (.slice (some ⟨xb, xo, none⟩) X.length capx)) (by kernel_rfl) (⟨cS6, cX6⟩) (fun hHeld => ?_)
    refine wpAnyH_take (i := 0) (v := ?_) rfl (by kernel_rfl) (by kernel_rfl) (by kernel_rfl) (fun _ _ _ h => h) (Or.inl ⟨by rfl, ?_⟩) (by assumption) ?_
    rotate_left
    · (intro w hSw; obtain ⟨hSw0, hSw1⟩ := hSw; (try dsimp only at hSw0 hSw1); go_simp; try (with_reducible rfl))
    (try simp only [Act.put, List.setIfInBounds_toArray, List.set_cons_zero, List.set_cons_succ, List.getElem_toArray, List.getElem_cons_succ, List.getElem_cons_zero])
    refine wpAnyH_take (i := 1) (v := ?_) rfl (by kernel_rfl) (by kernel_rfl) (by kernel_rfl) (fun _ _ _ h => h) (Or.inl ⟨by rfl, ?_⟩) (by assumption) ?_
    rotate_left
    · (intro w hSw; obtain ⟨hSw0, hSw1⟩ := hSw; (try dsimp only at hSw0 hSw1); go_simp; try (with_reducible rfl))
    (try simp only [Act.put, List.setIfInBounds_toArray, List.set_cons_zero, List.set_cons_succ, List.getElem_toArray, List.getElem_cons_succ, List.getElem_cons_zero])
    refine wpAnyH_take (i := 3) (v := ?_) rfl (by kernel_rfl) (by kernel_rfl) (by kernel_rfl) (fun _ _ _ h => h) (Or.inl ⟨by rfl, ?_⟩) (by assumption) ?_
    rotate_left
    · (intro w hSw; obtain ⟨hSw0, hSw1⟩ := hSw; (try dsimp only at hSw0 hSw1); go_simp; try (with_reducible rfl))
    (try simp only [Act.put, List.setIfInBounds_toArray, List.set_cons_zero, List.set_cons_succ, List.getElem_toArray, List.getElem_cons_succ, List.getElem_cons_zero])
    refine wpAnyH_take (i := 4) (v := ?_) rfl (by kernel_rfl) (by kernel_rfl) (by kernel_rfl) (fun _ _ _ h => h) (Or.inl ⟨by rfl, ?_⟩) (by assumption) ?_
    rotate_left
    · (intro w hSw; obtain ⟨hSw0, hSw1⟩ := hSw; (try dsimp only at hSw0 hSw1); go_simp; try (with_reducible rfl))
    (try simp only [Act.put, List.setIfInBounds_toArray, List.set_cons_zero, List.set_cons_succ, List.getElem_toArray, List.getElem_cons_succ, List.getElem_cons_zero])
    refine wpAnyH_take (i := 5) (v := ?_) rfl (by kernel_rfl) (by kernel_rfl) (by kernel_rfl) (fun _ _ _ h => h) (Or.inl ⟨by rfl, ?_⟩) (by assumption) ?_
    rotate_left
    · (intro w hSw; obtain ⟨hSw0, hSw1⟩ := hSw; (try dsimp only at hSw0 hSw1); go_simp; try (with_reducible rfl))
    (try simp only [Act.put, List.setIfInBounds_toArray, List.set_cons_zero, List.set_cons_succ, List.getElem_toArray, List.getElem_cons_succ, List.getElem_cons_zero])
    refine wpAnyH_ready (rs := [2, 8]) (by kernel_rfl) (by simp) ?_
    refine AllReadyH.cons rfl (fun K hK => ?_) ?_
    · go_simp
      (go_at_call 59; refine (l01Own_any ⟨sb, so, none⟩ S S.length cap rfl (by omega) _ (hS.below (B6.trans (Below.mono (Below.refl w6.heap.size w6).drew B6.size)))).mono ?_)
      rintro e x1 ⟨g1, c1, rfl, ow1, hb1⟩
      have H1 : Below w6.heap.size w6 x1 := Below.trans (Below.refl w6.heap.size w6).drew (hb1.mono (Below.size (Below.refl w6.heap.size w6).drew))
      have hgg1 : w6.heap.size ≤ g1 := by have h1 := ow1.base_le.1; have h2 := Below.size (Below.refl w6.heap.size w6).drew; omega
      replace ow1 := ow1.rebase (base' := w6.heap.size) (Below.size (Below.refl w6.heap.size w6).drew)
      refine hK.out _ _ (⟨kept_cell H1 cS6 (by omega), kept_cell H1 cX6 (by omega)⟩) (fun hHeld => ?_)
      clear hK K
      (try simp only [Act.put, List.setIfInBounds_toArray, List.set_cons_zero, List.set_cons_succ, List.getElem_toArray, List.getElem_cons_succ, List.getElem_cons_zero])
      refine wpAnyH_ready (rs := [6, 8]) (by kernel_rfl) (by simp) ?_
      refine AllReadyH.cons rfl (fun K hK => ?_) ?_
      · rw [if_pos (by kernel_rfl)]
        have Hz2 := Below.size H1
        refine wp_append_ints (.tmp 56) (.tmp 59) (by kernel_rfl) w6.heap.size _ S (by rfl) ow1 ⟨xb, xo + 1, none⟩ (X.drop 1) (X.length - 1) (capx - 1) (by simp) (by rfl) (ints_drop1 (hX.below (B6.trans (Below.mono H1 B6.size))) (by omega) (Or.inr rfl)) (by omega) (by simpa using Hz2) ?_
        intro v2 x2 hown2 hgrow2 hnil2
        obtain ⟨g2, c2, hv2⟩ := own_stays hown2 hnil2 (fun h => absurd (Value.slice.inj h).1 (by simp))
        rw [show (S ++ X.drop 1).length = n from HNl.out.symm] at hv2
        subst hv2
        replace hown2 : OwnInts x2 w6.heap.size (.slice (some ⟨g2, 0, none⟩) n c2) (jnS S X) := hown2
        have H2 : Below w6.heap.size w6 x2 := grown_below H1 Hz2 hgrow2 ow1 (Nat.le_refl _)
        clear hnil2
        refine hK.out _ _ (⟨kept_cell H2 cS6 (by omega), kept_cell H2 cX6 (by omega)⟩) (fun hHeld => ?_)
        clear hK K
        (try simp only [Act.put, List.setIfInBounds_toArray, List.set_cons_zero, List.set_cons_succ, List.getElem_toArray, List.getElem_cons_succ, List.getElem_cons_zero])
        refine wpAnyH_take (i := 7) (v := ?_) rfl (by kernel_rfl) (by kernel_rfl) (by kernel_rfl) (fun _ _ _ h => h) (Or.inl ⟨by rfl, ?_⟩) (by assumption) ?_
        rotate_left
        · (intro w hSw; obtain ⟨hSw0, hSw1⟩ := hSw; (try dsimp only at hSw0 hSw1); go_simp; try (with_reducible rfl))
        (try simp only [Act.put, List.setIfInBounds_toArray, List.set_cons_zero, List.set_cons_succ, List.getElem_toArray, List.getElem_cons_succ, List.getElem_cons_zero])
        refine wpAnyH_ready (rs := [8]) (by kernel_rfl) (by simp) ?_
        refine AllReadyH.cons rfl (fun K hK => ?_) AllReadyH.nil
        go_simp
        have owq := hown2
        have H3 : Below w6.heap.size w6 (x2.alloc (.cells #[.slice none 0 0] 28)) := Below.alloc H2 (Below.size H2) _
        replace hown2 := hown2.below ((Below.refl _ x2).alloc (Nat.le_refl _) (.cells #[.slice none 0 0] 28))
        have r8 : RowC (x2.alloc (.cells #[.slice none 0 0] 28)) (x2.heap.size) (.cells #[.slice none 0 0] 28 (0, 0)) := rowC_new _ _ _ (by simp)
        refine hK.out _ _ (⟨kept_cell H3 cS6 (by omega), kept_cell H3 cX6 (by omega)⟩) (fun hHeld => ?_)
        clear hK K
        (try simp only [Act.put, List.setIfInBounds_toArray, List.set_cons_zero, List.set_cons_succ, List.getElem_toArray, List.getElem_cons_succ, List.getElem_cons_zero])
        refine wpAnyH_ready (rs := [9]) (by kernel_rfl) (by simp) ?_
        refine AllReadyH.cons rfl (fun K hK => ?_) AllReadyH.nil
        go_simp
        have rc : (x2.alloc (.cells #[.slice none 0 0] 28)).cell? ⟨x2.heap.size, 0, none⟩ = some (.slice none 0 0) := cell_of19j r8.1
        have rf : (x2.alloc (.cells #[.slice none 0 0] 28)).frozen? ⟨x2.heap.size, 0, none⟩ = false := frozen_of_row _ _ 0 _ _ r8.1
        go_simp
        have hqb : w6.heap.size ≤ x2.heap.size := by have := Below.size H2; omega
        have Hs : Below w6.heap.size w6 (x2.alloc (.cells #[.slice (some ⟨g2, 0, none⟩) n c2] 28)) := Below.alloc H2 (Below.size H2) _
        refine hK.out _ _ (⟨kept_cell Hs cS6 (by omega), kept_cell Hs cX6 (by omega)⟩) (fun hHeld => ?_)
        clear hK K
        (try simp only [Act.put, List.setIfInBounds_toArray, List.set_cons_zero, List.set_cons_succ, List.getElem_toArray, List.getElem_cons_succ, List.getElem_cons_zero])
        refine wpAnyH_done (by kernel_rfl) ?_ _
        (try simp only [Act.put, List.setIfInBounds_toArray, List.set_cons_zero, List.set_cons_succ, List.getElem_toArray, List.getElem_cons_succ, List.getElem_cons_zero])
        have hne : g2 ≠ x2.heap.size := fun e => by rw [e] at hown2; exact own_not_sp9 hown2 r8.1
        have ow9 := OwnInts.alloc owq (.cells #[.slice (some ⟨g2, 0, none⟩) n c2] 28)
        go_wp2_with fail
        go_meet
        exact ⟨_, g2, c2, rfl, cell_new _ _ _, hqb, lt_alloc _ _, ow9, hne, Hs⟩
      refine AllReadyH.cons rfl (fun K hK => ?_) AllReadyH.nil
      go_simp
      have owq := ow1
      have H2 : Below w6.heap.size w6 (x1.alloc (.cells #[.slice none 0 0] 28)) := Below.alloc H1 (Below.size H1) _
      replace ow1 := ow1.below ((Below.refl _ x1).alloc (Nat.le_refl _) (.cells #[.slice none 0 0] 28))
      have r8 : RowC (x1.alloc (.cells #[.slice none 0 0] 28)) (x1.heap.size) (.cells #[.slice none 0 0] 28 (0, 0)) := rowC_new _ _ _ (by simp)
      refine hK.out _ _ (⟨kept_cell H2 cS6 (by omega), kept_cell H2 cX6 (by omega)⟩) (fun hHeld => ?_)
      clear hK K
      (try simp only [Act.put, List.setIfInBounds_toArray, List.set_cons_zero, List.set_cons_succ, List.getElem_toArray, List.getElem_cons_succ, List.getElem_cons_zero])
      refine wpAnyH_ready (rs := [6]) (by kernel_rfl) (by simp) ?_
      refine AllReadyH.cons rfl (fun K hK => ?_) AllReadyH.nil
      rw [if_pos (by kernel_rfl)]
      have hgq3 : g1 ≠ x1.heap.size := fun e => by rw [e] at ow1; exact own_not_sp9 ow1 r8.1
      have Hz3 := Below.size H2
      refine wp_append_ints (.tmp 56) (.tmp 59) (by kernel_rfl) w6.heap.size _ S (by rfl) ow1 ⟨xb, xo + 1, none⟩ (X.drop 1) (X.length - 1) (capx - 1) (by simp) (by rfl) (ints_drop1 (hX.below (B6.trans (Below.mono H2 B6.size))) (by omega) (Or.inr rfl)) (by omega) (by simpa using Hz3) ?_
      intro v3 x3 hown3 hgrow3 hnil3
      obtain ⟨g3, c3, hv3⟩ := own_stays hown3 hnil3 (fun h => absurd (Value.slice.inj h).1 (by simp))
      rw [show (S ++ X.drop 1).length = n from HNl.out.symm] at hv3
      subst hv3
      replace hown3 : OwnInts x3 w6.heap.size (.slice (some ⟨g3, 0, none⟩) n c3) (jnS S X) := hown3
      have H3 : Below w6.heap.size w6 x3 := grown_below H2 Hz3 hgrow3 ow1 (Nat.le_refl _)
      replace r8 : RowC x3 (x1.heap.size) (.cells #[.slice none 0 0] 28 (0, 0)) := ⟨row_kept9 r8.1 hgrow3 (fun e => hgq3 (by simpa [Value.ownBlock, eq_comm] using e)), Nat.lt_of_lt_of_le r8.2 hgrow3.size⟩
      clear hnil3
      refine hK.out _ _ (⟨kept_cell H3 cS6 (by omega), kept_cell H3 cX6 (by omega)⟩) (fun hHeld => ?_)
      clear hK K
      (try simp only [Act.put, List.setIfInBounds_toArray, List.set_cons_zero, List.set_cons_succ, List.getElem_toArray, List.getElem_cons_succ, List.getElem_cons_zero])
      refine wpAnyH_take (i := 7) (v := ?_) rfl (by kernel_rfl) (by kernel_rfl) (by kernel_rfl) (fun _ _ _ h => h) (Or.inl ⟨by rfl, ?_⟩) (by assumption) ?_
      rotate_left
      · (intro w hSw; obtain ⟨hSw0, hSw1⟩ := hSw; (try dsimp only at hSw0 hSw1); go_simp; try (with_reducible rfl))
      (try simp only [Act.put, List.setIfInBounds_toArray, List.set_cons_zero, List.set_cons_succ, List.getElem_toArray, List.getElem_cons_succ, List.getElem_cons_zero])
      refine wpAnyH_ready (rs := [9]) (by kernel_rfl) (by simp) ?_
      refine AllReadyH.cons rfl (fun K hK => ?_) AllReadyH.nil
      go_simp
      have rc : x3.cell? ⟨x1.heap.size, 0, none⟩ = some (.slice none 0 0) := cell_of19j r8.1
      have rf : x3.frozen? ⟨x1.heap.size, 0, none⟩ = false := frozen_of_row _ _ 0 _ _ r8.1
      go_simp
      have hqb : w6.heap.size ≤ x1.heap.size := by have := Below.size H1; omega
      have Hs : Below w6.heap.size w6 (x3.setCell ⟨x1.heap.size, 0, none⟩ (.slice (some ⟨g3, 0, none⟩) n c3)) := Below.setCell H3 hqb _
      refine hK.out _ _ (⟨kept_cell Hs cS6 (by omega), kept_cell Hs cX6 (by omega)⟩) (fun hHeld => ?_)
      clear hK K
      (try simp only [Act.put, List.setIfInBounds_toArray, List.set_cons_zero, List.set_cons_succ, List.getElem_toArray, List.getElem_cons_succ, List.getElem_cons_zero])
      refine wpAnyH_done (by kernel_rfl) ?_ _
      (try simp only [Act.put, List.setIfInBounds_toArray, List.set_cons_zero, List.set_cons_succ, List.getElem_toArray, List.getElem_cons_succ, List.getElem_cons_zero])
      have hne : g3 ≠ x1.heap.size := fun e => by rw [e] at hown3; exact own_not_sp9 hown3 r8.1
      go_wp2_with fail
      go_meet
      exact ⟨_, g3, c3, rfl, cell_of19j (row_store9j _ r8.1), hqb, by simpa using r8.2, own_stored_oj9 hown3 (.inr (by simp [Value.ownBlock]; exact hne)) 0 _, hne, Hs⟩
    refine AllReadyH.cons rfl (fun K hK => ?_) AllReadyH.nil
    go_simp
    have H1 : Below w6.heap.size w6 (w6.drew.alloc (.cells #[.slice none 0 0] 28)) := Below.alloc (Below.refl w6.heap.size w6).drew (Below.size (Below.refl w6.heap.size w6).drew) _
    have r8 : RowC (w6.drew.alloc (.cells #[.slice none 0 0] 28)) (w6.heap.size) (.cells #[.slice none 0 0] 28 (0, 0)) := rowC_new _ _ _ (by simp)
    refine hK.out _ _ (⟨kept_cell H1 cS6 (by omega), kept_cell H1 cX6 (by omega)⟩) (fun hHeld => ?_)
    clear hK K
    (try simp only [Act.put, List.setIfInBounds_toArray, List.set_cons_zero, List.set_cons_succ, List.getElem_toArray, List.getElem_cons_succ, List.getElem_cons_zero])
    refine wpAnyH_ready (rs := [2]) (by kernel_rfl) (by simp) ?_
    refine AllReadyH.cons rfl (fun K hK => ?_) AllReadyH.nil
    go_simp
    (go_at_call 59; refine (l01Own_any ⟨sb, so, none⟩ S S.length cap rfl (by omega) _ (hS.below (B6.trans (Below.mono H1 B6.size)))).mono ?_)
    rintro e x2 ⟨g2, c2, rfl, ow2, hb2⟩
    have H2 : Below w6.heap.size w6 x2 := Below.trans H1 (hb2.mono (Below.size H1))
    replace r8 := r8.below hb2
    have hgg2 : w6.heap.size ≤ g2 := by have h1 := ow2.base_le.1; have h2 := Below.size H1; omega
    replace ow2 := ow2.rebase (base' := w6.heap.size) (Below.size H1)
    refine hK.out _ _ (⟨kept_cell H2 cS6 (by omega), kept_cell H2 cX6 (by omega)⟩) (fun hHeld => ?_)
    clear hK K
    (try simp only [Act.put, List.setIfInBounds_toArray, List.set_cons_zero, List.set_cons_succ, List.getElem_toArray, List.getElem_cons_succ, List.getElem_cons_zero])
    refine wpAnyH_ready (rs := [6]) (by kernel_rfl) (by simp) ?_
    refine AllReadyH.cons rfl (fun K hK => ?_) AllReadyH.nil
    rw [if_pos (by kernel_rfl)]
    have hgq3 : g2 ≠ w6.heap.size := fun e => by rw [e] at ow2; exact own_not_sp9 ow2 r8.1
    have Hz3 := Below.size H2
    refine wp_append_ints (.tmp 56) (.tmp 59) (by kernel_rfl) w6.heap.size _ S (by rfl) ow2 ⟨xb, xo + 1, none⟩ (X.drop 1) (X.length - 1) (capx - 1) (by simp) (by rfl) (ints_drop1 (hX.below (B6.trans (Below.mono H2 B6.size))) (by omega) (Or.inr rfl)) (by omega) (by simpa using Hz3) ?_
    intro v3 x3 hown3 hgrow3 hnil3
    obtain ⟨g3, c3, hv3⟩ := own_stays hown3 hnil3 (fun h => absurd (Value.slice.inj h).1 (by simp))
    rw [show (S ++ X.drop 1).length = n from HNl.out.symm] at hv3
    subst hv3
    replace hown3 : OwnInts x3 w6.heap.size (.slice (some ⟨g3, 0, none⟩) n c3) (jnS S X) := hown3
    have H3 : Below w6.heap.size w6 x3 := grown_below H2 Hz3 hgrow3 ow2 (Nat.le_refl _)
    replace r8 : RowC x3 (w6.heap.size) (.cells #[.slice none 0 0] 28 (0, 0)) := ⟨row_kept9 r8.1 hgrow3 (fun e => hgq3 (by simpa [Value.ownBlock, eq_comm] using e)), Nat.lt_of_lt_of_le r8.2 hgrow3.size⟩
    clear hnil3
    refine hK.out _ _ (⟨kept_cell H3 cS6 (by omega), kept_cell H3 cX6 (by omega)⟩) (fun hHeld => ?_)
    clear hK K
    (try simp only [Act.put, List.setIfInBounds_toArray, List.set_cons_zero, List.set_cons_succ, List.getElem_toArray, List.getElem_cons_succ, List.getElem_cons_zero])
    refine wpAnyH_take (i := 7) (v := ?_) rfl (by kernel_rfl) (by kernel_rfl) (by kernel_rfl) (fun _ _ _ h => h) (Or.inl ⟨by rfl, ?_⟩) (by assumption) ?_
    rotate_left
    · (intro w hSw; obtain ⟨hSw0, hSw1⟩ := hSw; (try dsimp only at hSw0 hSw1); go_simp; try (with_reducible rfl))
    (try simp only [Act.put, List.setIfInBounds_toArray, List.set_cons_zero, List.set_cons_succ, List.getElem_toArray, List.getElem_cons_succ, List.getElem_cons_zero])
    refine wpAnyH_ready (rs := [9]) (by kernel_rfl) (by simp) ?_
    refine AllReadyH.cons rfl (fun K hK => ?_) AllReadyH.nil
    go_simp
    have rc : x3.cell? ⟨w6.heap.size, 0, none⟩ = some (.slice none 0 0) := cell_of19j r8.1
    have rf : x3.frozen? ⟨w6.heap.size, 0, none⟩ = false := frozen_of_row _ _ 0 _ _ r8.1
    go_simp
    have hqb : w6.heap.size ≤ w6.heap.size := by omega
    have Hs : Below w6.heap.size w6 (x3.setCell ⟨w6.heap.size, 0, none⟩ (.slice (some ⟨g3, 0, none⟩) n c3)) := Below.setCell H3 hqb _
    refine hK.out _ _ (⟨kept_cell Hs cS6 (by omega), kept_cell Hs cX6 (by omega)⟩) (fun hHeld => ?_)
    clear hK K
    (try simp only [Act.put, List.setIfInBounds_toArray, List.set_cons_zero, List.set_cons_succ, List.getElem_toArray, List.getElem_cons_succ, List.getElem_cons_zero])
    refine wpAnyH_done (by kernel_rfl) ?_ _
    (try simp only [Act.put, List.setIfInBounds_toArray, List.set_cons_zero, List.set_cons_succ, List.getElem_toArray, List.getElem_cons_succ, List.getElem_cons_zero])
    have hne : g3 ≠ w6.heap.size := fun e => by rw [e] at hown3; exact own_not_sp9 hown3 r8.1
    go_wp2_with fail
    go_meet
    exact ⟨_, g3, c3, rfl, cell_of19j (row_store9j _ r8.1), hqb, by simpa using r8.2, own_stored_oj9 hown3 (.inr (by simp [Value.ownBlock]; exact hne)) 0 _, hne, Hs⟩
  case rest =>
  obtain ⟨qb, g, cg, rfl, cY, hqb1, hqb2, oY, hgq, hb3⟩ := hcut
  replace hb3 : Below w6.heap.size w6 wc := hb3
  have cX7 := kept_cell hb3 cX6 (by omega)
  have rR7 := row_below9 rR6 hb3 (by omega)
  have hx07 := kept_cell hb3 hx06 (lt_of_below B6 hxbl)
  have B7 := B6.trans (hb3.mono B6.size)
  have s7 : w.heap.size + 3 ≤ wc.heap.size := Nat.le_trans s6 hb3.size
  have hs71 : w6.heap.size ≤ wc.heap.size := hb3.size
  clear hb3 cX6 rR6 cS6 hx06
  go_wp2_with fail
  refine (l01Is_n9 _ (jnS S X) n cg HNl.out wc (by omega) (own_ints oY)).mono ?_
  rw [HIS.out]
  rintro e w8 ⟨rfl, hb8⟩
  have s8 : w.heap.size + 3 ≤ w8.heap.size := Nat.le_trans s7 hb8.size
  have cX8 := kept_cell hb8 cX7 (by omega)
  have rR8 := row_below9 rR7 hb8 (by omega)
  have cY8 := kept_cell hb8 cY hqb2
  have lY8 := lt_of_below hb8 hqb2
  have oY8 := oY.below hb8
  have hx08 := kept_cell hb8 hx07 (lt_of_below B7 hxbl)
  have lx08 := lt_of_below (B7.trans (hb8.mono B7.size)) hxbl
  have B8 := B7.trans (hb8.mono B7.size)
  have hs81 : w6.heap.size ≤ w8.heap.size := Nat.le_trans hs71 hb8.size
  clear hb8 cX7 rR7 cY hqb2 oY B7 hx07
  have rc : w8.cell? ⟨w.heap.size + 1 + 1, 0, none⟩ = some (.slice none 0 0) := by rw [cell_of_row w8 (w.heap.size + 2) 0 _ _ _ rR8]; rfl
  have rf : w8.frozen? ⟨w.heap.size + 1 + 1, 0, none⟩ = false := by have h' := rR8; simp [World.frozen?, h']
  have rs : (w8.setCell ⟨w.heap.size + 1 + 1, 0, none⟩ (.slice none 0 0)).cell? ⟨w.heap.size + 1 + 1, 0, none⟩ = some (.slice none 0 0) := World.cell?_setCell_same' _ _ _ (by rw [rc]; rfl)
  have B9 : Below w.heap.size w (w8.setCell ⟨w.heap.size + 1 + 1, 0, none⟩ (.slice none 0 0)) := B8.setCell (show w.heap.size ≤ w.heap.size + 1 + 1 by omega) _
  go_wp2_with fail
  refine bodyPost_ret (by rw [results_sp9 rfl]; go_simp; try rfl) rfl ?_
  exact ⟨w.heap.size, .slice none 0 0, _, by rw [HE.out], Nat.le_refl _, fun k hk => (by cases hk), by rw [HS0.out]; exact own_nil _ _, by rw [HC0.out]; exact own_nil _ _, B9.size, B9⟩

set_option maxHeartbeats 8000000 in
theorem spec_JoinOverPlace_oka (as0 : Addr) (S : List Int) (cap : Nat) (hn : S.length ≤ 4294967296) (ac : Option Addr) (C : List Int) (capc : Nat) (hnc : C.length ≤ 4294967296) (ax : Addr) (X : List Int) (capx : Nat) (hnx : X.length ≤ 4294967296) (hcx : X.length ≤ capx) (ad : Option Addr) (D : List Int) (capd : Nat) (hnd : D.length ≤ 4294967296) (w : World) (hS : Ints w (some as0) S) (hC : Ints w ac C) (hX : Ints w (some ax) X) (hD : Ints w ad D) (h1 : isSp S = true) (h2 : isSp X = true) (h3 : codeB S C = true) (h4 : codeB X D = true) (hl : jnB S X = true) (hs : isSp (jnS S X) = true) (hcp : ¬ capx = 1) :
    Calls Try.prog 28 #[.agg #[.slice (some as0) S.length cap], .slice ac C.length capc, .agg #[.slice (some ax) X.length capx], .slice ad D.length capd] w fun e w' => ∃ m vs v, e = .returned (.tuple #[.agg #[vs], v, .int .i64 (eJn S C X D)]) ∧ w.heap.size ≤ m ∧ RowIn vs w.heap.size m ∧ OwnInts w' w.heap.size vs (vJnS S C X D) ∧ OwnInts w' m v (vJnC S C X D) ∧ m ≤ w'.heap.size ∧ Below w.heap.size w w' := by
  obtain ⟨W0, hW0, cS, cX, rR, z0, B0⟩ := box3_9 w (.slice (some as0) S.length cap) (.slice (some ax) X.length capx) (.slice none 0 0) 28
  have HW0 := Lib.hid hW0
  have z0a : w.heap.size + 3 ≤ W0.heap.size := by omega
  have hz : eBo S C X D = 0 := by unfold eBo; simp [h1, h2, h3, h4]
  obtain ⟨x1, x2, x3⟩ := eJn_ok hz hl hs
  have HE := Lib.hid x1
  have HS0 := Lib.hid x2
  have HC0 := Lib.hid x3
  obtain ⟨hcs, hcx0⟩ := eBo_zero hz
  have HSS := Lib.hid (eCode_zero hcs).1
  have HXX := Lib.hid (eCode_zero hcx0).1
  have hlo := (eCode_zero hcs).1.lo
  have hhi := (eCode_zero hcs).1.hi
  have hxlo := (eCode_zero hcx0).1.lo
  have hxhi := (eCode_zero hcx0).1.hi
  obtain ⟨sb, so, hso, hsbl, hsc⟩ := hS.at (i := S.length - 1) (by omega)
  obtain rfl := Option.some.inj hso
  obtain ⟨xb, xo, hxo, hxbl, hxc⟩ := hX.at (i := 0) (by omega)
  obtain rfl := Option.some.inj hxo
  have hsl := hsc (S.length - 1) (by omega)
  have hx0 := hxc 0 (by omega)
  rw [Nat.add_zero] at hx0
  obtain ⟨ls, hls⟩ : ∃ ls, ls = gi S (S.length - 1) := ⟨_, rfl⟩
  obtain ⟨q, hq⟩ : ∃ q, q = gi X 0 := ⟨_, rfl⟩
  have hq4 := (eCode_zero hcx0).1.bd 0 (by omega)
  rw [← hq] at hq4
  rw [← hls] at hsl
  rw [← hq] at hx0
  obtain ⟨q2, q4⟩ := hq4
  have HQ := Lib.hid hq
  have i1 : (0 : Int) ≤ (S.length : Int) - 1 := by omega
  have i2 : (S.length : Int) - 1 < (S.length : Int) := by omega
  have HI : Hid (((S.length : Int) - 1).toNat = S.length - 1) := Lib.hid (by omega)
  have e3 : ((S.length : Int) - 1).toNat = S.length - 1 := HI.out
  have i3 : 0 < X.length := by omega
  have hnb : (ls != q) = false := by have h := hl; unfold jnB at h; rw [← hls, ← hq] at h; simpa using h
  obtain ⟨n, hnl⟩ : ∃ n, n = (jnS S X).length := ⟨_, rfl⟩
  have HNl := Lib.hid hnl
  have hn16 : n ≤ 16 := by rw [hnl]; unfold jnS; simp; omega
  have hx1n : 1 ≤ X.length := by omega
  have i4 : (1 : Int) ≤ (X.length : Int) := by omega
  have hcx1 : ¬ capx = 1 := hcp
  have lC := code_len0 hcs
  have lD := code_len0 hcx0
  have hNX := nW_bd HXX.out
  have hNS := nW_bd HSS.out
  have HCb : Hid (∀ i, i < C.length → 0 ≤ gi C i ∧ gi C i < 1024) := Lib.hid fun i hi => by have := (eCode_zero hcs).2.1 i hi; omega
  have HDb : Hid (∀ i, i < D.length → 0 ≤ gi D i ∧ gi D i < 1024) := Lib.hid fun i hi => by have := (eCode_zero hcx0).2.1 i hi; omega
  obtain ⟨NX, hNXe⟩ : ∃ NX : Nat, nW X = (NX : Int) := ⟨(nW X).toNat, by omega⟩
  have HNX := Lib.hid (Lib.hid hNXe)
  have HJQ : Hid (jnW (gi X 0) (jnQ X) C D C.length = jnW q ((NX : Int) / q) C D C.length) := Lib.hid (by unfold jnQ; rw [hNXe, ← hq])
  have hqd : gi X 0 ≤ nW X := by
    have h := prodTo_mono X X.length 1 HXX.out.bd HXX.out.lo
    simp only [prodTo, Int.one_mul] at h
    exact h
  rw [hNXe, ← hq] at hqd
  have hNX2 : NX ≤ 1024 := by omega
  have r1 : 1 ≤ (NX : Int) / q := by
    have := Int.ediv_le_ediv (show 0 < q by omega) hqd
    rwa [Int.ediv_self (by omega)] at this
  have r2 : (NX : Int) / q ≤ 1024 := Int.le_trans (Int.ediv_le_self _ (by omega)) (by omega)
  have EWQ : IntKind.i64.wrap ((NX : Int) / q) = (NX : Int) / q := IntWalk.i64_in _ ⟨by omega, by omega⟩
  have hqz : ¬ q = 0 := by omega
  have hqb : (q == 0) = false := by simpa using hqz
  have E9 : (NX : Int).tdiv q = (NX : Int) / q := Int.tdiv_eq_ediv_of_nonneg (by omega)
  have H1 := Lib.hid h1
  have H2 := Lib.hid h2
  have H3 := Lib.hid h3
  have H4 := Lib.hid h4
  have HIS := Lib.hid hs
  clear hW0 z0 h1 h2 h3 h4 hz x1 x2 x3 hl hcs hcx0 hso hxo hsc hxc hls hq hs hnl hNXe hqd hNS hNX
  go_enter Try.func28, Try.ntmps28
  go_wp2_with fail
  rw [← HW0.out]
  refine (l01Is_any _ S cap _ hn (hS.below B0)).mono ?_
  rw [H1.out]
  rintro e w1 ⟨rfl, hb1⟩
  have s1 : w.heap.size + 3 ≤ w1.heap.size := by have := hb1.size; omega
  have cS1 := kept_cell hb1 cS (by omega)
  have cX1 := kept_cell hb1 cX (by omega)
  have rR1 := row_below9 rR hb1 (by omega)
  have B1 := B0.trans (hb1.mono (by have := B0.size; omega))
  clear hb1 cS cX rR
  go_wp2_with fail
  refine (l01Is_any _ X capx _ hnx (hX.below B1)).mono ?_
  rw [H2.out]
  rintro e w2 ⟨rfl, hb2⟩
  have s2 : w.heap.size + 3 ≤ w2.heap.size := by have := hb2.size; omega
  have cS2 := kept_cell hb2 cS1 (by omega)
  have cX2 := kept_cell hb2 cX1 (by omega)
  have rR2 := row_below9 rR1 hb2 (by omega)
  have B2 := B1.trans (hb2.mono (by have := B1.size; omega))
  clear hb2 cS1 cX1 rR1
  go_wp2_with fail
  refine (l01Code_any _ S cap HSS.out ac C capc hnc _ (hS.below B2) (hC.below B2)).mono ?_
  rw [H3.out]
  rintro e w3 ⟨rfl, hb3⟩
  have s3 : w.heap.size + 3 ≤ w3.heap.size := by have := hb3.size; omega
  have cS3 := kept_cell hb3 cS2 (by omega)
  have cX3 := kept_cell hb3 cX2 (by omega)
  have rR3 := row_below9 rR2 hb3 (by omega)
  have B3 := B2.trans (hb3.mono (by have := B2.size; omega))
  clear hb3 cS2 cX2 rR2
  go_wp2_with fail
  refine (l01Code_any _ X capx HXX.out ad D capd hnd _ (hX.below B3) (hD.below B3)).mono ?_
  rw [H4.out]
  rintro e w4 ⟨rfl, hb4⟩
  have s4 : w.heap.size + 3 ≤ w4.heap.size := by have := hb4.size; omega
  have cS4 := kept_cell hb4 cS3 (by omega)
  have cX4 := kept_cell hb4 cX3 (by omega)
  have rR4 := row_below9 rR3 hb4 (by omega)
  have B4 := B3.trans (hb4.mono (by have := B3.size; omega))
  clear hb4 cS3 cX3 rR3
  have hsl1 := kept_cell B4 hsl hsbl
  have hx01 := kept_cell B4 hx0 hxbl
  go_wp2_with fail
  go_quiet (fail)
  obtain ⟨w6, hw6⟩ : ∃ z, z = w4.drewN nq := ⟨_, rfl⟩
  have hb6 : Below w4.heap.size w4 w6 := by rw [hw6]; exact below_drewN (Below.refl _ _) nq
  rw [← hw6]
  have s6 : w.heap.size + 3 ≤ w6.heap.size := by have := hb6.size; omega
  have cS6 := kept_cell hb6 cS4 (by omega)
  have cX6 := kept_cell hb6 cX4 (by omega)
  have rR6 := row_below9 rR4 hb6 (by omega)
  have B6 := B4.trans (hb6.mono B4.size)
  have hsl6 := kept_cell hb6 hsl1 (lt_of_below B4 hsbl)
  have hx06 := kept_cell hb6 hx01 (lt_of_below B4 hxbl)
  clear hw6 hb6 cS4 cX4 rR4 B4 hsl1 hx01
  go_upto_region 7 with fail
  go_cut [11] from 54 to 61 (fun sx wx => ∃ (qb g cg : Nat), sx = .pointer (some ⟨qb, 0, none⟩) ∧ wx.cell? ⟨qb, 0, none⟩ = some (.slice (some ⟨g, 0, none⟩) n cg) ∧ w6.heap.size ≤ qb ∧ qb < wx.heap.size ∧ OwnInts wx w6.heap.size (.slice (some ⟨g, 0, none⟩) n cg) (jnS S X) ∧ g ≠ qb ∧ Below w6.heap.size w6 wx)
  case first =>
    clear rR6
    refine wp_region_held_drew (S := fun w' => w'.cell? ⟨w.heap.size, 0, none⟩ = some (.slice (some ⟨sb, so, none⟩) S.length cap) ∧ w'.cell? ⟨w.heap.size + 1, 0, none⟩ = some (.slice (some ⟨xb, xo, none⟩) X.length capx)) (by kernel_rfl) (⟨cS6, cX6⟩) (fun hHeld => ?_)
    refine wpAnyH_take (i := 0) (v := ?_) rfl (by kernel_rfl) (by kernel_rfl) (by kernel_rfl) (fun _ _ _ h => h) (Or.inl ⟨by rfl, ?_⟩) (by assumption) ?_
    rotate_left
    · (intro w hSw; obtain ⟨hSw0, hSw1⟩ := hSw; (try dsimp only at hSw0 hSw1); go_simp; try (with_reducible rfl))
    (try simp only [Act.put, List.setIfInBounds_toArray, List.set_cons_zero, List.set_cons_succ, List.getElem_toArray, List.getElem_cons_succ, List.getElem_cons_zero])
    refine wpAnyH_take (i := 1) (v := ?_) rfl (by kernel_rfl) (by kernel_rfl) (by kernel_rfl) (fun _ _ _ h => h) (Or.inl ⟨by rfl, ?_⟩) (by assumption) ?_
    rotate_left
    · (intro w hSw; obtain ⟨hSw0, hSw1⟩ := hSw; (try dsimp only at hSw0 hSw1); go_simp; try (with_reducible rfl))
    (try simp only [Act.put, List.setIfInBounds_toArray, List.set_cons_zero, List.set_cons_succ, List.getElem_toArray, List.getElem_cons_succ, List.getElem_cons_zero])
    refine wpAnyH_take (i := 3) (v := ?_) rfl (by kernel_rfl) (by kernel_rfl) (by kernel_rfl) (fun _ _ _ h => h) (Or.inl ⟨by rfl, ?_⟩) (by assumption) ?_
    rotate_left
    · (intro w hSw; obtain ⟨hSw0, hSw1⟩ := hSw; (try dsimp only at hSw0 hSw1); go_simp; try (with_reducible rfl))
    (try simp only [Act.put, List.setIfInBounds_toArray, List.set_cons_zero, List.set_cons_succ, List.getElem_toArray, List.getElem_cons_succ, List.getElem_cons_zero])
    refine wpAnyH_take (i := 4) (v := ?_) rfl (by kernel_rfl) (by kernel_rfl) (by kernel_rfl) (fun _ _ _ h => h) (Or.inl ⟨by rfl, ?_⟩) (by assumption) ?_
    rotate_left
    · (intro w hSw; obtain ⟨hSw0, hSw1⟩ := hSw; (try dsimp only at hSw0 hSw1); go_simp; try (with_reducible rfl))
    (try simp only [Act.put, List.setIfInBounds_toArray, List.set_cons_zero, List.set_cons_succ, List.getElem_toArray, List.getElem_cons_succ, List.getElem_cons_zero])
    refine wpAnyH_take (i := 5) (v := ?_) rfl (by kernel_rfl) (by kernel_rfl) (by kernel_rfl) (fun _ _ _ h => h) (Or.inl ⟨by rfl, ?_⟩) (by assumption) ?_
    rotate_left
    · (intro w hSw; obtain ⟨hSw0, hSw1⟩ := hSw; (try dsimp only at hSw0 hSw1); go_simp; try (with_reducible rfl))
    (try simp only [Act.put, List.setIfInBounds_toArray, List.set_cons_zero, List.set_cons_succ, List.getElem_toArray, List.getElem_cons_succ, List.getElem_cons_zero])
    refine wpAnyH_ready (rs := [2, 8]) (by kernel_rfl) (by simp) ?_
    refine AllReadyH.cons rfl (fun K hK => ?_) ?_
    · go_simp
      (go_at_call 59; refine (l01Own_any ⟨sb, so, none⟩ S S.length cap rfl (by omega) _ (hS.below (B6.trans (Below.mono (Below.refl w6.heap.size w6).drew B6.size)))).mono ?_)
      rintro e x1 ⟨g1, c1, rfl, ow1, hb1⟩
      have H1 : Below w6.heap.size w6 x1 := Below.trans (Below.refl w6.heap.size w6).drew (hb1.mono (Below.size (Below.refl w6.heap.size w6).drew))
      have hgg1 : w6.heap.size ≤ g1 := by have h1 := ow1.base_le.1; have h2 := Below.size (Below.refl w6.heap.size w6).drew; omega
      replace ow1 := ow1.rebase (base' := w6.heap.size) (Below.size (Below.refl w6.heap.size w6).drew)
      refine hK.out _ _ (⟨kept_cell H1 cS6 (by omega), kept_cell H1 cX6 (by omega)⟩) (fun hHeld => ?_)
      clear hK K
      (try simp only [Act.put, List.setIfInBounds_toArray, List.set_cons_zero, List.set_cons_succ, List.getElem_toArray, List.getElem_cons_succ, List.getElem_cons_zero])
      refine wpAnyH_ready (rs := [6, 8]) (by kernel_rfl) (by simp) ?_
      refine AllReadyH.cons rfl (fun K hK => ?_) ?_
      · rw [if_pos (by kernel_rfl)]
        have Hz2 := Below.size H1
        refine wp_append_ints (.tmp 56) (.tmp 59) (by kernel_rfl) w6.heap.size _ S (by rfl) ow1 ⟨xb, xo + 1, none⟩ (X.drop 1) (X.length - 1) (capx - 1) (by simp) (by rfl) (ints_drop1 (hX.below (B6.trans (Below.mono H1 B6.size))) (by omega) (Or.inr rfl)) (by omega) (by simpa using Hz2) ?_
        intro v2 x2 hown2 hgrow2 hnil2
        obtain ⟨g2, c2, hv2⟩ := own_stays hown2 hnil2 (fun h => absurd (Value.slice.inj h).1 (by simp))
        rw [show (S ++ X.drop 1).length = n from HNl.out.symm] at hv2
        subst hv2
        replace hown2 : OwnInts x2 w6.heap.size (.slice (some ⟨g2, 0, none⟩) n c2) (jnS S X) := hown2
        have H2 : Below w6.heap.size w6 x2 := grown_below H1 Hz2 hgrow2 ow1 (Nat.le_refl _)
        clear hnil2
        refine hK.out _ _ (⟨kept_cell H2 cS6 (by omega), kept_cell H2 cX6 (by omega)⟩) (fun hHeld => ?_)
        clear hK K
        (try simp only [Act.put, List.setIfInBounds_toArray, List.set_cons_zero, List.set_cons_succ, List.getElem_toArray, List.getElem_cons_succ, List.getElem_cons_zero])
        refine wpAnyH_take (i := 7) (v := ?_) rfl (by kernel_rfl) (by kernel_rfl) (by kernel_rfl) (fun _ _ _ h => h) (Or.inl ⟨by rfl, ?_⟩) (by assumption) ?_
        rotate_left
        · (intro w hSw; obtain ⟨hSw0, hSw1⟩ := hSw; (try dsimp only at hSw0 hSw1); go_simp; try (with_reducible rfl))
        (try simp only [Act.put, List.setIfInBounds_toArray, List.set_cons_zero, List.set_cons_succ, List.getElem_toArray, List.getElem_cons_succ, List.getElem_cons_zero])
        refine wpAnyH_ready (rs := [8]) (by kernel_rfl) (by simp) ?_
        refine AllReadyH.cons rfl (fun K hK => ?_) AllReadyH.nil
        go_simp
        have owq := hown2
        have H3 : Below w6.heap.size w6 (x2.alloc (.cells #[.slice none 0 0] 28)) := Below.alloc H2 (Below.size H2) _
        replace hown2 := hown2.below ((Below.refl _ x2).alloc (Nat.le_refl _) (.cells #[.slice none 0 0] 28))
        have r8 : RowC (x2.alloc (.cells #[.slice none 0 0] 28)) (x2.heap.size) (.cells #[.slice none 0 0] 28 (0, 0)) := rowC_new _ _ _ (by simp)
        refine hK.out _ _ (⟨kept_cell H3 cS6 (by omega), kept_cell H3 cX6 (by omega)⟩) (fun hHeld => ?_)
        clear hK K
        (try simp only [Act.put, List.setIfInBounds_toArray, List.set_cons_zero, List.set_cons_succ, List.getElem_toArray, List.getElem_cons_succ, List.getElem_cons_zero])
        refine wpAnyH_ready (rs := [9]) (by kernel_rfl) (by simp) ?_
        refine AllReadyH.cons rfl (fun K hK => ?_) AllReadyH.nil
        go_simp
        have rc : (x2.alloc (.cells #[.slice none 0 0] 28)).cell? ⟨x2.heap.size, 0, none⟩ = some (.slice none 0 0) := cell_of19j r8.1
        have rf : (x2.alloc (.cells #[.slice none 0 0] 28)).frozen? ⟨x2.heap.size, 0, none⟩ = false := frozen_of_row _ _ 0 _ _ r8.1
        go_simp
        have hqb : w6.heap.size ≤ x2.heap.size := by have := Below.size H2; omega
        have Hs : Below w6.heap.size w6 (x2.alloc (.cells #[.slice (some ⟨g2, 0, none⟩) n c2] 28)) := Below.alloc H2 (Below.size H2) _
        refine hK.out _ _ (⟨kept_cell Hs cS6 (by omega), kept_cell Hs cX6 (by omega)⟩) (fun hHeld => ?_)
        clear hK K
        (try simp only [Act.put, List.setIfInBounds_toArray, List.set_cons_zero, List.set_cons_succ, List.getElem_toArray, List.getElem_cons_succ, List.getElem_cons_zero])
        refine wpAnyH_done (by kernel_rfl) ?_ _
        (try simp only [Act.put, List.setIfInBounds_toArray, List.set_cons_zero, List.set_cons_succ, List.getElem_toArray, List.getElem_cons_succ, List.getElem_cons_zero])
        have hne : g2 ≠ x2.heap.size := fun e => by rw [e] at hown2; exact own_not_sp9 hown2 r8.1
        have ow9 := OwnInts.alloc owq (.cells #[.slice (some ⟨g2, 0, none⟩) n c2] 28)
        go_wp2_with fail
        go_meet
        exact ⟨_, g2, c2, rfl, cell_new _ _ _, hqb, lt_alloc _ _, ow9, hne, Hs⟩
      refine AllReadyH.cons rfl (fun K hK => ?_) AllReadyH.nil
      go_simp
      have owq := ow1
      have H2 : Below w6.heap.size w6 (x1.alloc (.cells #[.slice none 0 0] 28)) := Below.alloc H1 (Below.size H1) _
      replace ow1 := ow1.below ((Below.refl _ x1).alloc (Nat.le_refl _) (.cells #[.slice none 0 0] 28))
      have r8 : RowC (x1.alloc (.cells #[.slice none 0 0] 28)) (x1.heap.size) (.cells #[.slice none 0 0] 28 (0, 0)) := rowC_new _ _ _ (by simp)
      refine hK.out _ _ (⟨kept_cell H2 cS6 (by omega), kept_cell H2 cX6 (by omega)⟩) (fun hHeld => ?_)
      clear hK K
      (try simp only [Act.put, List.setIfInBounds_toArray, List.set_cons_zero, List.set_cons_succ, List.getElem_toArray, List.getElem_cons_succ, List.getElem_cons_zero])
      refine wpAnyH_ready (rs := [6]) (by kernel_rfl) (by simp) ?_
      refine AllReadyH.cons rfl (fun K hK => ?_) AllReadyH.nil
      rw [if_pos (by kernel_rfl)]
      have hgq3 : g1 ≠ x1.heap.size := fun e => by rw [e] at ow1; exact own_not_sp9 ow1 r8.1
      have Hz3 := Below.size H2
      refine wp_append_ints (.tmp 56) (.tmp 59) (by kernel_rfl) w6.heap.size _ S (by rfl) ow1 ⟨xb, xo + 1, none⟩ (X.drop 1) (X.length - 1) (capx - 1) (by simp) (by rfl) (ints_drop1 (hX.below (B6.trans (Below.mono H2 B6.size))) (by omega) (Or.inr rfl)) (by omega) (by simpa using Hz3) ?_
      intro v3 x3 hown3 hgrow3 hnil3
      obtain ⟨g3, c3, hv3⟩ := own_stays hown3 hnil3 (fun h => absurd (Value.slice.inj h).1 (by simp))
      rw [show (S ++ X.drop 1).length = n from HNl.out.symm] at hv3
      subst hv3
      replace hown3 : OwnInts x3 w6.heap.size (.slice (some ⟨g3, 0, none⟩) n c3) (jnS S X) := hown3
      have H3 : Below w6.heap.size w6 x3 := grown_below H2 Hz3 hgrow3 ow1 (Nat.le_refl _)
      replace r8 : RowC x3 (x1.heap.size) (.cells #[.slice none 0 0] 28 (0, 0)) := ⟨row_kept9 r8.1 hgrow3 (fun e => hgq3 (by simpa [Value.ownBlock, eq_comm] using e)), Nat.lt_of_lt_of_le r8.2 hgrow3.size⟩
      clear hnil3
      refine hK.out _ _ (⟨kept_cell H3 cS6 (by omega), kept_cell H3 cX6 (by omega)⟩) (fun hHeld => ?_)
      clear hK K
      (try simp only [Act.put, List.setIfInBounds_toArray, List.set_cons_zero, List.set_cons_succ, List.getElem_toArray, List.getElem_cons_succ, List.getElem_cons_zero])
      refine wpAnyH_take (i := 7) (v := ?_) rfl (by kernel_rfl) (by kernel_rfl) (by kernel_rfl) (fun _ _ _ h => h) (Or.inl ⟨by rfl, ?_⟩) (by assumption) ?_
      rotate_left
      · (intro w hSw; obtain ⟨hSw0, hSw1⟩ := hSw; (try dsimp only at hSw0 hSw1); go_simp; try (with_reducible rfl))
      (try simp only [Act.put, List.setIfInBounds_toArray, List.set_cons_zero, List.set_cons_succ, List.getElem_toArray, List.getElem_cons_succ, List.getElem_cons_zero])
      refine wpAnyH_ready (rs := [9]) (by kernel_rfl) (by simp) ?_
      refine AllReadyH.cons rfl (fun K hK => ?_) AllReadyH.nil
      go_simp
      have rc : x3.cell? ⟨x1.heap.size, 0, none⟩ = some (.slice none 0 0) := cell_of19j r8.1
      have rf : x3.frozen? ⟨x1.heap.size, 0, none⟩ = false := frozen_of_row _ _ 0 _ _ r8.1
      go_simp
      have hqb : w6.heap.size ≤ x1.heap.size := by have := Below.size H1; omega
      have Hs : Below w6.heap.size w6 (x3.setCell ⟨x1.heap.size, 0, none⟩ (.slice (some ⟨g3, 0, none⟩) n c3)) := Below.setCell H3 hqb _
      refine hK.out _ _ (⟨kept_cell Hs cS6 (by omega), kept_cell Hs cX6 (by omega)⟩) (fun hHeld => ?_)
      clear hK K
      (try simp only [Act.put, List.setIfInBounds_toArray, List.set_cons_zero, List.set_cons_succ, List.getElem_toArray, List.getElem_cons_succ, List.getElem_cons_zero])
      refine wpAnyH_done (by kernel_rfl) ?_ _
      (try simp only [Act.put, List.setIfInBounds_toArray, List.set_cons_zero, List.set_cons_succ, List.getElem_toArray, List.getElem_cons_succ, List.getElem_cons_zero])
      have hne : g3 ≠ x1.heap.size := fun e => by rw [e] at hown3; exact own_not_sp9 hown3 r8.1
      go_wp2_with fail
      go_meet
      exact ⟨_, g3, c3, rfl, cell_of19j (row_store9j _ r8.1), hqb, by simpa using r8.2, own_stored_oj9 hown3 (.inr (by simp [Value.ownBlock]; exact hne)) 0 _, hne, Hs⟩
    refine AllReadyH.cons rfl (fun K hK => ?_) AllReadyH.nil
    go_simp
    have H1 : Below w6.heap.size w6 (w6.drew.alloc (.cells #[.slice none 0 0] 28)) := Below.alloc (Below.refl w6.heap.size w6).drew (Below.size (Below.refl w6.heap.size w6).drew) _
    have r8 : RowC (w6.drew.alloc (.cells #[.slice none 0 0] 28)) (w6.heap.size) (.cells #[.slice none 0 0] 28 (0, 0)) := rowC_new _ _ _ (by simp)
    refine hK.out _ _ (⟨kept_cell H1 cS6 (by omega), kept_cell H1 cX6 (by omega)⟩) (fun hHeld => ?_)
    clear hK K
    (try simp only [Act.put, List.setIfInBounds_toArray, List.set_cons_zero, List.set_cons_succ, List.getElem_toArray, List.getElem_cons_succ, List.getElem_cons_zero])
    refine wpAnyH_ready (rs := [2]) (by kernel_rfl) (by simp) ?_
    refine AllReadyH.cons rfl (fun K hK => ?_) AllReadyH.nil
    go_simp
    (go_at_call 59; refine (l01Own_any ⟨sb, so, none⟩ S S.length cap rfl (by omega) _ (hS.below (B6.trans (Below.mono H1 B6.size)))).mono ?_)
    rintro e x2 ⟨g2, c2, rfl, ow2, hb2⟩
    have H2 : Below w6.heap.size w6 x2 := Below.trans H1 (hb2.mono (Below.size H1))
    replace r8 := r8.below hb2
    have hgg2 : w6.heap.size ≤ g2 := by have h1 := ow2.base_le.1; have h2 := Below.size H1; omega
    replace ow2 := ow2.rebase (base' := w6.heap.size) (Below.size H1)
    refine hK.out _ _ (⟨kept_cell H2 cS6 (by omega), kept_cell H2 cX6 (by omega)⟩) (fun hHeld => ?_)
    clear hK K
    (try simp only [Act.put, List.setIfInBounds_toArray, List.set_cons_zero, List.set_cons_succ, List.getElem_toArray, List.getElem_cons_succ, List.getElem_cons_zero])
    refine wpAnyH_ready (rs := [6]) (by kernel_rfl) (by simp) ?_
    refine AllReadyH.cons rfl (fun K hK => ?_) AllReadyH.nil
    rw [if_pos (by kernel_rfl)]
    have hgq3 : g2 ≠ w6.heap.size := fun e => by rw [e] at ow2; exact own_not_sp9 ow2 r8.1
    have Hz3 := Below.size H2
    refine wp_append_ints (.tmp 56) (.tmp 59) (by kernel_rfl) w6.heap.size _ S (by rfl) ow2 ⟨xb, xo + 1, none⟩ (X.drop 1) (X.length - 1) (capx - 1) (by simp) (by rfl) (ints_drop1 (hX.below (B6.trans (Below.mono H2 B6.size))) (by omega) (Or.inr rfl)) (by omega) (by simpa using Hz3) ?_
    intro v3 x3 hown3 hgrow3 hnil3
    obtain ⟨g3, c3, hv3⟩ := own_stays hown3 hnil3 (fun h => absurd (Value.slice.inj h).1 (by simp))
    rw [show (S ++ X.drop 1).length = n from HNl.out.symm] at hv3
    subst hv3
    replace hown3 : OwnInts x3 w6.heap.size (.slice (some ⟨g3, 0, none⟩) n c3) (jnS S X) := hown3
    have H3 : Below w6.heap.size w6 x3 := grown_below H2 Hz3 hgrow3 ow2 (Nat.le_refl _)
    replace r8 : RowC x3 (w6.heap.size) (.cells #[.slice none 0 0] 28 (0, 0)) := ⟨row_kept9 r8.1 hgrow3 (fun e => hgq3 (by simpa [Value.ownBlock, eq_comm] using e)), Nat.lt_of_lt_of_le r8.2 hgrow3.size⟩
    clear hnil3
    refine hK.out _ _ (⟨kept_cell H3 cS6 (by omega), kept_cell H3 cX6 (by omega)⟩) (fun hHeld => ?_)
    clear hK K
    (try simp only [Act.put, List.setIfInBounds_toArray, List.set_cons_zero, List.set_cons_succ, List.getElem_toArray, List.getElem_cons_succ, List.getElem_cons_zero])
    refine wpAnyH_take (i := 7) (v := ?_) rfl (by kernel_rfl) (by kernel_rfl) (by kernel_rfl) (fun _ _ _ h => h) (Or.inl ⟨by rfl, ?_⟩) (by assumption) ?_
    rotate_left
    · (intro w hSw; obtain ⟨hSw0, hSw1⟩ := hSw; (try dsimp only at hSw0 hSw1); go_simp; try (with_reducible rfl))
    (try simp only [Act.put, List.setIfInBounds_toArray, List.set_cons_zero, List.set_cons_succ, List.getElem_toArray, List.getElem_cons_succ, List.getElem_cons_zero])
    refine wpAnyH_ready (rs := [9]) (by kernel_rfl) (by simp) ?_
    refine AllReadyH.cons rfl (fun K hK => ?_) AllReadyH.nil
    go_simp
    have rc : x3.cell? ⟨w6.heap.size, 0, none⟩ = some (.slice none 0 0) := cell_of19j r8.1
    have rf : x3.frozen? ⟨w6.heap.size, 0, none⟩ = false := frozen_of_row _ _ 0 _ _ r8.1
    go_simp
    have hqb : w6.heap.size ≤ w6.heap.size := by omega
    have Hs : Below w6.heap.size w6 (x3.setCell ⟨w6.heap.size, 0, none⟩ (.slice (some ⟨g3, 0, none⟩) n c3)) := Below.setCell H3 hqb _
    refine hK.out _ _ (⟨kept_cell Hs cS6 (by omega), kept_cell Hs cX6 (by omega)⟩) (fun hHeld => ?_)
    clear hK K
    (try simp only [Act.put, List.setIfInBounds_toArray, List.set_cons_zero, List.set_cons_succ, List.getElem_toArray, List.getElem_cons_succ, List.getElem_cons_zero])
    refine wpAnyH_done (by kernel_rfl) ?_ _
    (try simp only [Act.put, List.setIfInBounds_toArray, List.set_cons_zero, List.set_cons_succ, List.getElem_toArray, List.getElem_cons_succ, List.getElem_cons_zero])
    have hne : g3 ≠ w6.heap.size := fun e => by rw [e] at hown3; exact own_not_sp9 hown3 r8.1
    go_wp2_with fail
    go_meet
    exact ⟨_, g3, c3, rfl, cell_of19j (row_store9j _ r8.1), hqb, by simpa using r8.2, own_stored_oj9 hown3 (.inr (by simp [Value.ownBlock]; exact hne)) 0 _, hne, Hs⟩
  case rest =>
  obtain ⟨qb, g, cg, rfl, cY, hqb1, hqb2, oY, hgq, hb3⟩ := hcut
  replace hb3 : Below w6.heap.size w6 wc := hb3
  have cX7 := kept_cell hb3 cX6 (by omega)
  have rR7 := row_below9 rR6 hb3 (by omega)
  have hx07 := kept_cell hb3 hx06 (lt_of_below B6 hxbl)
  have B7 := B6.trans (hb3.mono B6.size)
  have s7 : w.heap.size + 3 ≤ wc.heap.size := Nat.le_trans s6 hb3.size
  have hs71 : w6.heap.size ≤ wc.heap.size := hb3.size
  clear hb3 cX6 rR6 cS6 hx06
  go_wp2_with fail
  refine (l01Is_n9 _ (jnS S X) n cg HNl.out wc (by omega) (own_ints oY)).mono ?_
  rw [HIS.out]
  rintro e w8 ⟨rfl, hb8⟩
  have s8 : w.heap.size + 3 ≤ w8.heap.size := Nat.le_trans s7 hb8.size
  have cX8 := kept_cell hb8 cX7 (by omega)
  have rR8 := row_below9 rR7 hb8 (by omega)
  have cY8 := kept_cell hb8 cY hqb2
  have lY8 := lt_of_below hb8 hqb2
  have oY8 := oY.below hb8
  have hx08 := kept_cell hb8 hx07 (lt_of_below B7 hxbl)
  have lx08 := lt_of_below (B7.trans (hb8.mono B7.size)) hxbl
  have B8 := B7.trans (hb8.mono B7.size)
  have hs81 : w6.heap.size ≤ w8.heap.size := Nat.le_trans hs71 hb8.size
  clear hb8 cX7 rR7 cY hqb2 oY B7 hx07
  go_upto_region 10 with fail
  go_cut [12, 13, 14] from 66 to 77 (fun q' r' v' wx => q' = .int .i64 q ∧ r' = .int .i64 ((NX : Int) / q) ∧ OwnInts wx w8.heap.size v' [] ∧ Below w8.heap.size w8 wx)
  case first =>
    clear rR8 cY8 oY8
    refine wp_region_held_drew (S := fun w' => w'.cell? ⟨w.heap.size + 1, 0, none⟩ = some (.slice (some ⟨xb, xo, none⟩) X.length capx) ∧ w'.cell? ⟨xb, xo, none⟩ = some (.int .i64 q)) (by kernel_rfl) (⟨cX8, hx08⟩) (fun hHeld => ?_)
    refine wpAnyH_take (i := 0) (v := ?_) rfl (by kernel_rfl) (by kernel_rfl) (by kernel_rfl) (fun _ _ _ h => h) (Or.inl ⟨by rfl, ?_⟩) (by assumption) ?_
    rotate_left
    · (intro w hSw; obtain ⟨hSw0, hSw1⟩ := hSw; (try dsimp only at hSw0 hSw1); go_simp; try (with_reducible rfl))
    (try simp only [Act.put, List.setIfInBounds_toArray, List.set_cons_zero, List.set_cons_succ, List.getElem_toArray, List.getElem_cons_succ, List.getElem_cons_zero])
    refine wpAnyH_take (i := 1) (v := ?_) rfl (by kernel_rfl) (by kernel_rfl) (by kernel_rfl) (fun _ _ _ h => h) (Or.inl ⟨by rfl, ?_⟩) (by assumption) ?_
    rotate_left
    · (intro w hSw; obtain ⟨hSw0, hSw1⟩ := hSw; (try dsimp only at hSw0 hSw1); go_simp; try (with_reducible rfl))
    (try simp only [Act.put, List.setIfInBounds_toArray, List.set_cons_zero, List.set_cons_succ, List.getElem_toArray, List.getElem_cons_succ, List.getElem_cons_zero])
    refine wpAnyH_take (i := 2) (v := ?_) rfl (by kernel_rfl) (by kernel_rfl) (by kernel_rfl) (fun _ _ _ h => h) (Or.inl ⟨by rfl, ?_⟩) (by assumption) ?_
    rotate_left
    · (intro w hSw; obtain ⟨hSw0, hSw1⟩ := hSw; (try dsimp only at hSw0 hSw1); go_simp; try (with_reducible rfl))
    (try simp only [Act.put, List.setIfInBounds_toArray, List.set_cons_zero, List.set_cons_succ, List.getElem_toArray, List.getElem_cons_succ, List.getElem_cons_zero])
    refine wpAnyH_take (i := 3) (v := ?_) rfl (by kernel_rfl) (by kernel_rfl) (by kernel_rfl) (fun _ _ _ h => h) (Or.inl ⟨by rfl, ?_⟩) (by assumption) ?_
    rotate_left
    · (intro w hSw; obtain ⟨hSw0, hSw1⟩ := hSw; (try dsimp only at hSw0 hSw1); go_simp; try (with_reducible rfl))
    (try simp only [Act.put, List.setIfInBounds_toArray, List.set_cons_zero, List.set_cons_succ, List.getElem_toArray, List.getElem_cons_succ, List.getElem_cons_zero])
    refine wpAnyH_take (i := 4) (v := ?_) rfl (by kernel_rfl) (by kernel_rfl) (by kernel_rfl) (fun _ _ _ h => h) (Or.inl ⟨by rfl, ?_⟩) (by assumption) ?_
    rotate_left
    · (intro w hSw; obtain ⟨hSw0, hSw1⟩ := hSw; (try dsimp only at hSw0 hSw1); go_simp; try (with_reducible rfl))
    (try simp only [Act.put, List.setIfInBounds_toArray, List.set_cons_zero, List.set_cons_succ, List.getElem_toArray, List.getElem_cons_succ, List.getElem_cons_zero])
    refine wpAnyH_take (i := 6) (v := ?_) rfl (by kernel_rfl) (by kernel_rfl) (by kernel_rfl) (fun _ _ _ h => h) (Or.inl ⟨by rfl, ?_⟩) (by assumption) ?_
    rotate_left
    · (intro w hSw; obtain ⟨hSw0, hSw1⟩ := hSw; (try dsimp only at hSw0 hSw1); go_simp; try (with_reducible rfl))
    (try simp only [Act.put, List.setIfInBounds_toArray, List.set_cons_zero, List.set_cons_succ, List.getElem_toArray, List.getElem_cons_succ, List.getElem_cons_zero])
    refine wpAnyH_take (i := 7) (v := ?_) rfl (by kernel_rfl) (by kernel_rfl) (by kernel_rfl) (fun _ _ _ h => h) (Or.inl ⟨by rfl, ?_⟩) (by assumption) ?_
    rotate_left
    · (intro w hSw; obtain ⟨hSw0, hSw1⟩ := hSw; (try dsimp only at hSw0 hSw1); go_simp; try (with_reducible rfl))
    (try simp only [Act.put, List.setIfInBounds_toArray, List.set_cons_zero, List.set_cons_succ, List.getElem_toArray, List.getElem_cons_succ, List.getElem_cons_zero])
    refine wpAnyH_take (i := 8) (v := ?_) rfl (by kernel_rfl) (by kernel_rfl) (by kernel_rfl) (fun _ _ _ h => h) (Or.inl ⟨by rfl, ?_⟩) (by assumption) ?_
    rotate_left
    · (intro w hSw; obtain ⟨hSw0, hSw1⟩ := hSw; (try dsimp only at hSw0 hSw1); go_simp; try (with_reducible rfl))
    (try simp only [Act.put, List.setIfInBounds_toArray, List.set_cons_zero, List.set_cons_succ, List.getElem_toArray, List.getElem_cons_succ, List.getElem_cons_zero])
    refine wpAnyH_take (i := 9) (v := ?_) rfl (by kernel_rfl) (by kernel_rfl) (by kernel_rfl) (fun _ _ _ h => h) (Or.inl ⟨by rfl, ?_⟩) (by assumption) ?_
    rotate_left
    · (intro w hSw; obtain ⟨hSw0, hSw1⟩ := hSw; (try dsimp only at hSw0 hSw1); go_simp; try (with_reducible rfl))
    (try simp only [Act.put, List.setIfInBounds_toArray, List.set_cons_zero, List.set_cons_succ, List.getElem_toArray, List.getElem_cons_succ, List.getElem_cons_zero])
    refine wpAnyH_ready (rs := [5, 11]) (by kernel_rfl) (by simp) ?_
    refine AllReadyH.cons rfl (fun K hK => ?_) ?_
    · go_simp
      (go_at_call 60; refine (l01N_natz _ X capx NX HNX.out _ HXX.out (hX.below (B8.trans (Below.mono (Below.refl w8.heap.size w8).drew B8.size)))).mono ?_)
      rintro e x1 ⟨rfl, hb1⟩
      have H1 : Below w8.heap.size w8 x1 := Below.trans (Below.refl w8.heap.size w8).drew (hb1.mono (Below.size (Below.refl w8.heap.size w8).drew))
      refine hK.out _ _ (⟨kept_cell H1 cX8 (by omega), kept_cell H1 hx08 lx08⟩) (fun hHeld => ?_)
      clear hK K
      (try simp only [Act.put, List.setIfInBounds_toArray, List.set_cons_zero, List.set_cons_succ, List.getElem_toArray, List.getElem_cons_succ, List.getElem_cons_zero])
      refine wpAnyH_take (i := 10) (v := ?_) rfl (by kernel_rfl) (by kernel_rfl) (by kernel_rfl) (fun _ _ _ h => h) (Or.inl ⟨by rfl, ?_⟩) (by assumption) ?_
      rotate_left
      · (intro w hSw; obtain ⟨hSw0, hSw1⟩ := hSw; (try dsimp only at hSw0 hSw1); go_simp; try (with_reducible rfl))
      (try simp only [Act.put, List.setIfInBounds_toArray, List.set_cons_zero, List.set_cons_succ, List.getElem_toArray, List.getElem_cons_succ, List.getElem_cons_zero])
      refine wpAnyH_take (i := 12) (v := ?_) rfl (by kernel_rfl) (by kernel_rfl) (by kernel_rfl) (fun _ _ _ h => h) (Or.inl ⟨by rfl, ?_⟩) (by assumption) ?_
      rotate_left
      · (intro w hSw; obtain ⟨hSw0, hSw1⟩ := hSw; (try dsimp only at hSw0 hSw1); go_simp; try (with_reducible rfl))
      (try simp only [Act.put, List.setIfInBounds_toArray, List.set_cons_zero, List.set_cons_succ, List.getElem_toArray, List.getElem_cons_succ, List.getElem_cons_zero])
      refine wpAnyH_take (i := 13) (v := ?_) rfl (by kernel_rfl) (by kernel_rfl) (by kernel_rfl) (fun _ _ _ h => h) (Or.inl ⟨by rfl, ?_⟩) (by assumption) ?_
      rotate_left
      · (intro w hSw; obtain ⟨hSw0, hSw1⟩ := hSw; (try dsimp only at hSw0 hSw1); go_simp; try (with_reducible rfl))
      (try simp only [Act.put, List.setIfInBounds_toArray, List.set_cons_zero, List.set_cons_succ, List.getElem_toArray, List.getElem_cons_succ, List.getElem_cons_zero])
      refine wpAnyH_ready (rs := [11]) (by kernel_rfl) (by simp) ?_
      refine AllReadyH.cons rfl (fun K hK => ?_) AllReadyH.nil
      go_simp
      have H2 : Below w8.heap.size w8 (x1.alloc (.cells #[] 2)) := Below.alloc H1 (Below.size H1) _
      have oe : OwnInts (x1.alloc (.cells #[] 2)) w8.heap.size (.slice (some ⟨x1.heap.size, 0, none⟩) 0 0) [] := own_empty x1 w8.heap.size (Below.size H1) rfl
      refine hK.out _ _ (⟨kept_cell H2 cX8 (by omega), kept_cell H2 hx08 lx08⟩) (fun hHeld => ?_)
      clear hK K
      (try simp only [Act.put, List.setIfInBounds_toArray, List.set_cons_zero, List.set_cons_succ, List.getElem_toArray, List.getElem_cons_succ, List.getElem_cons_zero])
      refine wpAnyH_take (i := 14) (v := ?_) rfl (by kernel_rfl) (by kernel_rfl) (by kernel_rfl) (fun _ _ _ h => h) (Or.inl ⟨by rfl, ?_⟩) (by assumption) ?_
      rotate_left
      · (intro w hSw; obtain ⟨hSw0, hSw1⟩ := hSw; (try dsimp only at hSw0 hSw1); go_simp; try (with_reducible rfl))
      (try simp only [Act.put, List.setIfInBounds_toArray, List.set_cons_zero, List.set_cons_succ, List.getElem_toArray, List.getElem_cons_succ, List.getElem_cons_zero])
      refine wpAnyH_done (by kernel_rfl) ?_ _
      (try simp only [Act.put, List.setIfInBounds_toArray, List.set_cons_zero, List.set_cons_succ, List.getElem_toArray, List.getElem_cons_succ, List.getElem_cons_zero])
      have Hf := H2
      go_wp2_with fail
      go_meet
      exact ⟨rfl, rfl, oe, Hf⟩
    refine AllReadyH.cons rfl (fun K hK => ?_) AllReadyH.nil
    go_simp
    have H1 : Below w8.heap.size w8 (w8.drew.alloc (.cells #[] 2)) := Below.alloc (Below.refl w8.heap.size w8).drew (Below.size (Below.refl w8.heap.size w8).drew) _
    have oe : OwnInts (w8.drew.alloc (.cells #[] 2)) w8.heap.size (.slice (some ⟨w8.heap.size, 0, none⟩) 0 0) [] := own_empty w8.drew w8.heap.size (Below.size (Below.refl w8.heap.size w8).drew) rfl
    refine hK.out _ _ (⟨kept_cell H1 cX8 (by omega), kept_cell H1 hx08 lx08⟩) (fun hHeld => ?_)
    clear hK K
    (try simp only [Act.put, List.setIfInBounds_toArray, List.set_cons_zero, List.set_cons_succ, List.getElem_toArray, List.getElem_cons_succ, List.getElem_cons_zero])
    refine wpAnyH_ready (rs := [5]) (by kernel_rfl) (by simp) ?_
    refine AllReadyH.cons rfl (fun K hK => ?_) AllReadyH.nil
    go_simp
    (go_at_call 60; refine (l01N_natz _ X capx NX HNX.out _ HXX.out (hX.below (B8.trans (Below.mono H1 B8.size)))).mono ?_)
    rintro e x2 ⟨rfl, hb2⟩
    have H2 : Below w8.heap.size w8 x2 := Below.trans H1 (hb2.mono (Below.size H1))
    replace oe := oe.below hb2
    refine hK.out _ _ (⟨kept_cell H2 cX8 (by omega), kept_cell H2 hx08 lx08⟩) (fun hHeld => ?_)
    clear hK K
    (try simp only [Act.put, List.setIfInBounds_toArray, List.set_cons_zero, List.set_cons_succ, List.getElem_toArray, List.getElem_cons_succ, List.getElem_cons_zero])
    refine wpAnyH_take (i := 10) (v := ?_) rfl (by kernel_rfl) (by kernel_rfl) (by kernel_rfl) (fun _ _ _ h => h) (Or.inl ⟨by rfl, ?_⟩) (by assumption) ?_
    rotate_left
    · (intro w hSw; obtain ⟨hSw0, hSw1⟩ := hSw; (try dsimp only at hSw0 hSw1); go_simp; try (with_reducible rfl))
    (try simp only [Act.put, List.setIfInBounds_toArray, List.set_cons_zero, List.set_cons_succ, List.getElem_toArray, List.getElem_cons_succ, List.getElem_cons_zero])
    refine wpAnyH_take (i := 12) (v := ?_) rfl (by kernel_rfl) (by kernel_rfl) (by kernel_rfl) (fun _ _ _ h => h) (Or.inl ⟨by rfl, ?_⟩) (by assumption) ?_
    rotate_left
    · (intro w hSw; obtain ⟨hSw0, hSw1⟩ := hSw; (try dsimp only at hSw0 hSw1); go_simp; try (with_reducible rfl))
    (try simp only [Act.put, List.setIfInBounds_toArray, List.set_cons_zero, List.set_cons_succ, List.getElem_toArray, List.getElem_cons_succ, List.getElem_cons_zero])
    refine wpAnyH_take (i := 13) (v := ?_) rfl (by kernel_rfl) (by kernel_rfl) (by kernel_rfl) (fun _ _ _ h => h) (Or.inl ⟨by rfl, ?_⟩) (by assumption) ?_
    rotate_left
    · (intro w hSw; obtain ⟨hSw0, hSw1⟩ := hSw; (try dsimp only at hSw0 hSw1); go_simp; try (with_reducible rfl))
    (try simp only [Act.put, List.setIfInBounds_toArray, List.set_cons_zero, List.set_cons_succ, List.getElem_toArray, List.getElem_cons_succ, List.getElem_cons_zero])
    refine wpAnyH_take (i := 14) (v := ?_) rfl (by kernel_rfl) (by kernel_rfl) (by kernel_rfl) (fun _ _ _ h => h) (Or.inl ⟨by rfl, ?_⟩) (by assumption) ?_
    rotate_left
    · (intro w hSw; obtain ⟨hSw0, hSw1⟩ := hSw; (try dsimp only at hSw0 hSw1); go_simp; try (with_reducible rfl))
    (try simp only [Act.put, List.setIfInBounds_toArray, List.set_cons_zero, List.set_cons_succ, List.getElem_toArray, List.getElem_cons_succ, List.getElem_cons_zero])
    refine wpAnyH_done (by kernel_rfl) ?_ _
    (try simp only [Act.put, List.setIfInBounds_toArray, List.set_cons_zero, List.set_cons_succ, List.getElem_toArray, List.getElem_cons_succ, List.getElem_cons_zero])
    have Hf := H2
    go_wp2_with fail
    go_meet
    exact ⟨rfl, rfl, oe, Hf⟩
  case rest =>
  obtain ⟨rfl, rfl, oe, hb9⟩ := hcut
  replace hb9 : Below w8.heap.size w8 wc := hb9
  have s9 := hb9.size
  obtain ⟨r, hr⟩ : ∃ r, r = (NX : Int) / q := ⟨_, rfl⟩
  rw [← hr] at r1 r2 HJQ ⊢
  clear hr cX8 hx08 lx08 EWQ E9 HNX hNX2
  have hrz : ¬ r = 0 := by omega
  have hrb : (r == 0) = false := by simpa using hrz
  go_wp2_with fail
  go_loopw [14, 80] (fun v i wr => ∃ k : Nat, k ≤ C.length ∧ i = .int .i64 k ∧ OwnInts wr w8.heap.size v (jnW q r C D k) ∧ Below w8.heap.size w8 wr) (fun _ i _ => C.length - (intOf i).toNat)
  case atStart => exact ⟨0, Nat.zero_le _, rfl, oe, hb9⟩
  case round =>
    clear oe hb9
    obtain ⟨k, hk, rfl, own, B⟩ := hrel
    by_cases hlt : k < C.length
    · obtain ⟨b, o, rfl, hbl, hc⟩ := hC.at hlt
      have hck := kept_cell B (kept_cell B8 (hc k hlt) hbl) (lt_of_below B8 hbl)
      obtain ⟨u1, u2⟩ := HCb.out k hlt
      have HY : Hid (∀ i, gi C k % q = gi D i / r → jnI q r C D k i ++ [gi C k * r + gi D i % r] = jnI q r C D k (i + 1)) := Lib.hid fun i h => jnI_yes q r C D k i h
      have HN : Hid (∀ i, ¬ gi C k % q = gi D i / r → jnI q r C D k i = jnI q r C D k (i + 1)) := Lib.hid fun i h => jnI_no q r C D k i h
      have HL : Hid (∀ i, i ≤ D.length → (jnI q r C D k i).length ≤ 1049600) := Lib.hid fun i h => jnI_len q r C D k i lD h (by omega)
      have HA := Lib.hid (jnI_all q r C D k)
      rw [← jnI_0] at own
      obtain ⟨G, hG⟩ : ∃ G : Nat → List Int, G = jnI q r C D k := ⟨_, rfl⟩
      rw [← hG] at own HY HN HL HA
      obtain ⟨u, hu⟩ : ∃ u, u = gi C k := ⟨_, rfl⟩
      rw [← hu] at hck u1 u2 HY HN
      have HU := Lib.hid hu.symm
      have p1 : 0 ≤ u * r := Int.mul_nonneg u1 (by omega)
      have p2 : u * r ≤ 1024 * 1024 := Int.mul_le_mul (by omega) r2 (by omega) (by omega)
      have E1 : u.tmod q = u % q := Int.tmod_eq_emod_of_nonneg u1
      have m1 : 0 ≤ u % q := Int.emod_nonneg _ hqz
      have m2 : u % q < q := Int.emod_lt_of_pos _ (by omega)
      obtain ⟨wo, hwo⟩ : ∃ z, z = wr := ⟨_, rfl⟩
      subst hwo
      clear hc hG hu
      go_wp2_with fail
      go_loopw [14, 85] (fun v i wi => ∃ a : Nat, a ≤ D.length ∧ i = .int .i64 a ∧ OwnInts wi w8.heap.size v (G a) ∧ Below w8.heap.size w8 wi) (fun _ i _ => D.length - (intOf i).toNat)
      case atStart => exact ⟨0, Nat.zero_le _, rfl, own, B⟩
      case round =>
        clear own B hck
        obtain ⟨a, ha, rfl, own, B⟩ := hrel
        by_cases hla : a < D.length
        · obtain ⟨db, d0, rfl, hdl, hdc⟩ := hD.at hla
          have hdk := kept_cell B (kept_cell B8 (hdc a hla) hdl) (lt_of_below B8 hdl)
          have hldk := lt_of_below B (lt_of_below B8 hdl)
          obtain ⟨b2, o2, hbe, hbl2, hc2⟩ := hC.at hlt
          simp only [Option.some.injEq, Addr.mk.injEq, and_true] at hbe
          obtain ⟨rfl, rfl⟩ := hbe
          have hck := kept_cell B (kept_cell B8 (hc2 k hlt) hbl2) (lt_of_below B8 hbl2)
          have hlck := lt_of_below B (lt_of_below B8 hbl2)
          rw [HU.out] at hck
          obtain ⟨x1, x2⟩ := HDb.out a hla
          have hy := HY.out a
          have hnn := HN.out a
          have hl := HL.out a ha
          obtain ⟨x, hx⟩ : ∃ x, x = gi D a := ⟨_, rfl⟩
          rw [← hx] at hdk x1 x2 hy hnn
          have E2 : x.tdiv r = x / r := Int.tdiv_eq_ediv_of_nonneg x1
          have E3 : x.tmod r = x % r := Int.tmod_eq_emod_of_nonneg x1
          have d1 : 0 ≤ x / r := Int.ediv_nonneg x1 (by omega)
          have d2 : x / r ≤ x := Int.ediv_le_self _ x1
          have n1 : 0 ≤ x % r := Int.emod_nonneg _ hrz
          have n2 : x % r < r := Int.emod_lt_of_pos _ (by omega)
          have Bs := B.size
          obtain ⟨L, hL⟩ : ∃ L, L = G a := ⟨_, rfl⟩
          rw [← hL] at own hy hnn hl
          clear hdc hx hL hc2
          by_cases heq : u % q = x / r
          · have hb : (u % q == x / r) = true := by simpa using heq
            have HY2 := Lib.hid (hy heq)
            clear hy hnn heq
            go_wp2_with fail
            go_quiet (fail)
            obtain ⟨w9, hw9⟩ : ∃ z, z = wr.drewN nq := ⟨_, rfl⟩
            have hb9 : Below wr.heap.size wr w9 := by rw [hw9]; exact below_drewN (Below.refl _ _) nq
            rw [← hw9]
            have own2 := own.below hb9
            have B2 := B.trans (hb9.mono Bs)
            have Bs2 := B2.size
            have hck9 := kept_cell hb9 hck hlck
            have hdk9 := kept_cell hb9 hdk hldk
            clear own B E1 E2 hb hw9 hb9 hck hdk hlck hldk
            have EP1 : IntKind.i64.wrap (u * r) = u * r := IntWalk.i64_in _ ⟨by omega, by omega⟩
            have EP2 : IntKind.i64.wrap (u * r + x % r) = u * r + x % r := IntWalk.i64_in _ ⟨by omega, by omega⟩
            go_wp2_with fail
            go_region_law (refine step_append_j9 rfl (.tmp 101) (.tmp 115) rfl w8.heap.size _ L (by simp [Act.eval, Act.put]) (own2.alloc _) w9.heap.size (u * r + x % r) (by simp [Act.eval, Act.put]) (by simp [EP1, EP2]) (by omega) (by simp; omega) ?_; intro g5 cap5 w5 own5 hg5 hat5)
            all_goals
              have B5 : Below w8.heap.size w8 w5 := grown_below (B2.alloc Bs2 _).drew (by simp; omega) hg5 (own2.alloc _).drew (Nat.le_refl _)
              go_wp2
              go_roundw
              case rel => exact ⟨a + 1, by omega, by go_num, by rw [← HY2.out]; simpa using own5, B5⟩
              case measure => simp [intOf]; omega
          · have hb : (u % q == x / r) = false := by simpa using heq
            have HN2 := Lib.hid (hnn heq)
            clear hy hnn heq
            go_wp2_with fail
            go_quiet (fail)
            clear E1 E2 hb
            go_wp2_with fail
            go_roundw
            case rel => exact ⟨a + 1, by omega, by go_num, by rw [← HN2.out]; exact own.below (below_drewN (Below.refl wr.heap.size wr) nq), below_drewN B nq⟩
            case measure => simp [intOf]; omega
        · have haD : Hid (a = D.length) := Lib.hid (by omega)
          rw [haD.out, HA.out] at own
          go_wp2_with fail
          go_roundw
          case rel => exact ⟨k + 1, by omega, by go_num, own, B⟩
          case measure => simp [intOf]; omega
    · have hkC : Hid (k = C.length) := Lib.hid (by omega)
      rw [hkC.out] at own
      have rR9 := row_below9 rR8 B (by omega)
      have cY9 := kept_cell B cY8 lY8
      have oY9 := oY8.below B
      have s9' := B.size
      have hgb := oY8.base_le
      have B9 := B8.trans (B.mono B8.size)
      have rc : wr.cell? ⟨w.heap.size + 1 + 1, 0, none⟩ = some (.slice none 0 0) := by rw [cell_of_row wr (w.heap.size + 2) 0 _ _ _ rR9]; rfl
      have rf : wr.frozen? ⟨w.heap.size + 1 + 1, 0, none⟩ = false := by have h' := rR9; simp [World.frozen?, h']
      have rs : (wr.setCell ⟨w.heap.size + 1 + 1, 0, none⟩ (.slice (some ⟨g, 0, none⟩) n cg)).cell? ⟨w.heap.size + 1 + 1, 0, none⟩ = some (.slice (some ⟨g, 0, none⟩) n cg) := World.cell?_setCell_same' _ _ _ (by rw [rc]; rfl)
      have B10 : Below w.heap.size w (wr.setCell ⟨w.heap.size + 1 + 1, 0, none⟩ (.slice (some ⟨g, 0, none⟩) n cg)) := B9.setCell (show w.heap.size ≤ w.heap.size + 1 + 1 by omega) _
      go_wp2_with fail
      refine bodyPost_ret (by rw [results_sp9 rfl]; go_simp; try rfl) rfl ?_
      refine ⟨w8.heap.size, .slice (some ⟨g, 0, none⟩) n cg, _, by rw [HE.out], by omega, fun z hz => by simp [Value.ownBlock] at hz; omega, ?_, ?_, by simp; omega, B10⟩
      · rw [HS0.out]; exact (own_stored_oj9 oY9 (.inr (by simp [Value.ownBlock]; omega)) 0 _).rebase (by omega)
      · rw [HC0.out, HJQ.out]; exact own.setBelow (show w.heap.size + 1 + 1 < w8.heap.size by omega) _

set_option maxHeartbeats 8000000 in
theorem spec_JoinOverPlace_e3b (as0 : Addr) (S : List Int) (cap : Nat) (hn : S.length ≤ 4294967296) (ac : Option Addr) (C : List Int) (capc : Nat) (hnc : C.length ≤ 4294967296) (ax : Addr) (X : List Int) (hnx : X.length ≤ 4294967296) (hcx : X.length ≤ 1) (ad : Option Addr) (D : List Int) (capd : Nat) (hnd : D.length ≤ 4294967296) (w : World) (hS : Ints w (some as0) S) (hC : Ints w ac C) (hX : Ints w (some ax) X) (hD : Ints w ad D) (h1 : isSp S = true) (h2 : isSp X = true) (h3 : codeB S C = true) (h4 : codeB X D = true) (hl : jnB S X = true) (hs : isSp (jnS S X) = false)  :
    Calls Try.prog 28 #[.agg #[.slice (some as0) S.length cap], .slice ac C.length capc, .agg #[.slice (some ax) X.length 1], .slice ad D.length capd] w fun e w' => ∃ m vs v, e = .returned (.tuple #[.agg #[vs], v, .int .i64 (eJn S C X D)]) ∧ w.heap.size ≤ m ∧ RowIn vs w.heap.size m ∧ OwnInts w' w.heap.size vs (vJnS S C X D) ∧ OwnInts w' m v (vJnC S C X D) ∧ m ≤ w'.heap.size ∧ Below w.heap.size w w' := by
  obtain ⟨W0, hW0, cS, cX, rR, z0, B0⟩ := box3_9 w (.slice (some as0) S.length cap) (.slice (some ax) X.length 1) (.slice none 0 0) 28
  have HW0 := Lib.hid hW0
  have z0a : w.heap.size + 3 ≤ W0.heap.size := by omega
  have hz : eBo S C X D = 0 := by unfold eBo; simp [h1, h2, h3, h4]
  obtain ⟨x1, x2, x3⟩ := eJn_3 hz hl hs
  have HE := Lib.hid x1
  have HS0 := Lib.hid x2
  have HC0 := Lib.hid x3
  obtain ⟨hcs, hcx0⟩ := eBo_zero hz
  have HSS := Lib.hid (eCode_zero hcs).1
  have HXX := Lib.hid (eCode_zero hcx0).1
  have hlo := (eCode_zero hcs).1.lo
  have hhi := (eCode_zero hcs).1.hi
  have hxlo := (eCode_zero hcx0).1.lo
  have hxhi := (eCode_zero hcx0).1.hi
  obtain ⟨sb, so, hso, hsbl, hsc⟩ := hS.at (i := S.length - 1) (by omega)
  obtain rfl := Option.some.inj hso
  obtain ⟨xb, xo, hxo, hxbl, hxc⟩ := hX.at (i := 0) (by omega)
  obtain rfl := Option.some.inj hxo
  have hsl := hsc (S.length - 1) (by omega)
  have hx0 := hxc 0 (by omega)
  rw [Nat.add_zero] at hx0
  obtain ⟨ls, hls⟩ : ∃ ls, ls = gi S (S.length - 1) := ⟨_, rfl⟩
  obtain ⟨q, hq⟩ : ∃ q, q = gi X 0 := ⟨_, rfl⟩
  have hq4 := (eCode_zero hcx0).1.bd 0 (by omega)
  rw [← hq] at hq4
  rw [← hls] at hsl
  rw [← hq] at hx0
  obtain ⟨q2, q4⟩ := hq4
  have HQ := Lib.hid hq
  have i1 : (0 : Int) ≤ (S.length : Int) - 1 := by omega
  have i2 : (S.length : Int) - 1 < (S.length : Int) := by omega
  have HI : Hid (((S.length : Int) - 1).toNat = S.length - 1) := Lib.hid (by omega)
  have e3 : ((S.length : Int) - 1).toNat = S.length - 1 := HI.out
  have i3 : 0 < X.length := by omega
  have hnb : (ls != q) = false := by have h := hl; unfold jnB at h; rw [← hls, ← hq] at h; simpa using h
  obtain ⟨n, hnl⟩ : ∃ n, n = (jnS S X).length := ⟨_, rfl⟩
  have HNl := Lib.hid hnl
  have hn16 : n ≤ 16 := by rw [hnl]; unfold jnS; simp; omega
  have hx1n : 1 ≤ X.length := by omega
  have i4 : (1 : Int) ≤ (X.length : Int) := by omega
  have HX1 : Hid (X.length = 1) := Lib.hid (by omega)
  have H1 := Lib.hid h1
  have H2 := Lib.hid h2
  have H3 := Lib.hid h3
  have H4 := Lib.hid h4
  have HIS := Lib.hid hs
  clear hW0 z0 h1 h2 h3 h4 hz x1 x2 x3 hl hcs hcx0 hso hxo hsc hxc hls hq hs hnl
  go_enter Try.func28, Try.ntmps28
  go_wp2_with fail
  rw [← HW0.out]
  refine (l01Is_any _ S cap _ hn (hS.below B0)).mono ?_
  rw [H1.out]
  rintro e w1 ⟨rfl, hb1⟩
  have s1 : w.heap.size + 3 ≤ w1.heap.size := by have := hb1.size; omega
  have cS1 := kept_cell hb1 cS (by omega)
  have cX1 := kept_cell hb1 cX (by omega)
  have rR1 := row_below9 rR hb1 (by omega)
  have B1 := B0.trans (hb1.mono (by have := B0.size; omega))
  clear hb1 cS cX rR
  go_wp2_with fail
  refine (l01Is_any _ X 1 _ hnx (hX.below B1)).mono ?_
  rw [H2.out]
  rintro e w2 ⟨rfl, hb2⟩
  have s2 : w.heap.size + 3 ≤ w2.heap.size := by have := hb2.size; omega
  have cS2 := kept_cell hb2 cS1 (by omega)
  have cX2 := kept_cell hb2 cX1 (by omega)
  have rR2 := row_below9 rR1 hb2 (by omega)
  have B2 := B1.trans (hb2.mono (by have := B1.size; omega))
  clear hb2 cS1 cX1 rR1
  go_wp2_with fail
  refine (l01Code_any _ S cap HSS.out ac C capc hnc _ (hS.below B2) (hC.below B2)).mono ?_
  rw [H3.out]
  rintro e w3 ⟨rfl, hb3⟩
  have s3 : w.heap.size + 3 ≤ w3.heap.size := by have := hb3.size; omega
  have cS3 := kept_cell hb3 cS2 (by omega)
  have cX3 := kept_cell hb3 cX2 (by omega)
  have rR3 := row_below9 rR2 hb3 (by omega)
  have B3 := B2.trans (hb3.mono (by have := B2.size; omega))
  clear hb3 cS2 cX2 rR2
  go_wp2_with fail
  refine (l01Code_any _ X 1 HXX.out ad D capd hnd _ (hX.below B3) (hD.below B3)).mono ?_
  rw [H4.out]
  rintro e w4 ⟨rfl, hb4⟩
  have s4 : w.heap.size + 3 ≤ w4.heap.size := by have := hb4.size; omega
  have cS4 := kept_cell hb4 cS3 (by omega)
  have cX4 := kept_cell hb4 cX3 (by omega)
  have rR4 := row_below9 rR3 hb4 (by omega)
  have B4 := B3.trans (hb4.mono (by have := B3.size; omega))
  clear hb4 cS3 cX3 rR3
  have hsl1 := kept_cell B4 hsl hsbl
  have hx01 := kept_cell B4 hx0 hxbl
  go_wp2_with fail
  go_quiet (fail)
  obtain ⟨w6, hw6⟩ : ∃ z, z = w4.drewN nq := ⟨_, rfl⟩
  have hb6 : Below w4.heap.size w4 w6 := by rw [hw6]; exact below_drewN (Below.refl _ _) nq
  rw [← hw6]
  have s6 : w.heap.size + 3 ≤ w6.heap.size := by have := hb6.size; omega
  have cS6 := kept_cell hb6 cS4 (by omega)
  have cX6 := kept_cell hb6 cX4 (by omega)
  have rR6 := row_below9 rR4 hb6 (by omega)
  have B6 := B4.trans (hb6.mono B4.size)
  have hsl6 := kept_cell hb6 hsl1 (lt_of_below B4 hsbl)
  have hx06 := kept_cell hb6 hx01 (lt_of_below B4 hxbl)
  clear hw6 hb6 cS4 cX4 rR4 B4 hsl1 hx01
  go_upto_region 7 with fail
  go_cut [11] from 54 to 61 (fun sx wx => ∃ (qb g cg : Nat), sx = .pointer (some ⟨qb, 0, none⟩) ∧ wx.cell? ⟨qb, 0, none⟩ = some (.slice (some ⟨g, 0, none⟩) n cg) ∧ w6.heap.size ≤ qb ∧ qb < wx.heap.size ∧ OwnInts wx w6.heap.size (.slice (some ⟨g, 0, none⟩) n cg) (jnS S X) ∧ g ≠ qb ∧ Below w6.heap.size w6 wx)
  case first =>
    clear rR6
    refine wp_region_held_drew (S := fun w' => w'.cell? ⟨w.heap.size, 0, none⟩ = some (.slice (some ⟨sb, so, none⟩) S.length cap) ∧ w'.cell? ⟨w.heap.size + 1, 0, none⟩ = some (.slice (some ⟨xb, xo, none⟩) X.length 1)) (by kernel_rfl) (⟨cS6, cX6⟩) (fun hHeld => ?_)
    refine wpAnyH_take (i := 0) (v := ?_) rfl (by kernel_rfl) (by kernel_rfl) (by kernel_rfl) (fun _ _ _ h => h) (Or.inl ⟨by rfl, ?_⟩) (by assumption) ?_
    rotate_left
    · (intro w hSw; obtain ⟨hSw0, hSw1⟩ := hSw; (try dsimp only at hSw0 hSw1); go_simp; try (with_reducible rfl))
    (try simp only [Act.put, List.setIfInBounds_toArray, List.set_cons_zero, List.set_cons_succ, List.getElem_toArray, List.getElem_cons_succ, List.getElem_cons_zero])
    refine wpAnyH_take (i := 1) (v := ?_) rfl (by kernel_rfl) (by kernel_rfl) (by kernel_rfl) (fun _ _ _ h => h) (Or.inl ⟨by rfl, ?_⟩) (by assumption) ?_
    rotate_left
    · (intro w hSw; obtain ⟨hSw0, hSw1⟩ := hSw; (try dsimp only at hSw0 hSw1); go_simp; try (with_reducible rfl))
    (try simp only [Act.put, List.setIfInBounds_toArray, List.set_cons_zero, List.set_cons_succ, List.getElem_toArray, List.getElem_cons_succ, List.getElem_cons_zero])
    refine wpAnyH_take (i := 3) (v := ?_) rfl (by kernel_rfl) (by kernel_rfl) (by kernel_rfl) (fun _ _ _ h => h) (Or.inl ⟨by rfl, ?_⟩) (by assumption) ?_
    rotate_left
    · (intro w hSw; obtain ⟨hSw0, hSw1⟩ := hSw; (try dsimp only at hSw0 hSw1); go_simp; try (with_reducible rfl))
    (try simp only [Act.put, List.setIfInBounds_toArray, List.set_cons_zero, List.set_cons_succ, List.getElem_toArray, List.getElem_cons_succ, List.getElem_cons_zero])
    refine wpAnyH_take (i := 4) (v := ?_) rfl (by kernel_rfl) (by kernel_rfl) (by kernel_rfl) (fun _ _ _ h => h) (Or.inl ⟨by rfl, ?_⟩) (by assumption) ?_
    rotate_left
    · (intro w hSw; obtain ⟨hSw0, hSw1⟩ := hSw; (try dsimp only at hSw0 hSw1); go_simp; try (with_reducible rfl))
    (try simp only [Act.put, List.setIfInBounds_toArray, List.set_cons_zero, List.set_cons_succ, List.getElem_toArray, List.getElem_cons_succ, List.getElem_cons_zero])
    refine wpAnyH_take (i := 5) (v := ?_) rfl (by kernel_rfl) (by kernel_rfl) (by kernel_rfl) (fun _ _ _ h => h) (Or.inl ⟨by rfl, ?_⟩) (by assumption) ?_
    rotate_left
    · (intro w hSw; obtain ⟨hSw0, hSw1⟩ := hSw; (try dsimp only at hSw0 hSw1); go_simp; try (with_reducible rfl))
    (try simp only [Act.put, List.setIfInBounds_toArray, List.set_cons_zero, List.set_cons_succ, List.getElem_toArray, List.getElem_cons_succ, List.getElem_cons_zero])
    refine wpAnyH_ready (rs := [2, 8]) (by kernel_rfl) (by simp) ?_
    refine AllReadyH.cons rfl (fun K hK => ?_) ?_
    · go_simp
      (go_at_call 59; refine (l01Own_any ⟨sb, so, none⟩ S S.length cap rfl (by omega) _ (hS.below (B6.trans (Below.mono (Below.refl w6.heap.size w6).drew B6.size)))).mono ?_)
      rintro e x1 ⟨g1, c1, rfl, ow1, hb1⟩
      have H1 : Below w6.heap.size w6 x1 := Below.trans (Below.refl w6.heap.size w6).drew (hb1.mono (Below.size (Below.refl w6.heap.size w6).drew))
      have hgg1 : w6.heap.size ≤ g1 := by have h1 := ow1.base_le.1; have h2 := Below.size (Below.refl w6.heap.size w6).drew; omega
      replace ow1 := ow1.rebase (base' := w6.heap.size) (Below.size (Below.refl w6.heap.size w6).drew)
      refine hK.out _ _ (⟨kept_cell H1 cS6 (by omega), kept_cell H1 cX6 (by omega)⟩) (fun hHeld => ?_)
      clear hK K
      (try simp only [Act.put, List.setIfInBounds_toArray, List.set_cons_zero, List.set_cons_succ, List.getElem_toArray, List.getElem_cons_succ, List.getElem_cons_zero])
      refine wpAnyH_ready (rs := [6, 8]) (by kernel_rfl) (by simp) ?_
      refine AllReadyH.cons rfl (fun K hK => ?_) ?_
      · rw [if_pos (by kernel_rfl)]
        have Hz2 := Below.size H1
        refine wp_append_ints (.tmp 56) (.tmp 59) (by kernel_rfl) w6.heap.size _ S (by rfl) ow1 ⟨xb, xo, none⟩ (X.drop 1) 0 0 (by have := HX1.out; simp; omega) (by rfl) (ints_drop1 (hX.below (B6.trans (Below.mono H1 B6.size))) (by omega) (Or.inl HX1.out)) (by omega) (by simpa using Hz2) ?_
        intro v2 x2 hown2 hgrow2 hnil2
        obtain ⟨g2, c2, hv2⟩ := own_stays hown2 hnil2 (fun h => absurd (Value.slice.inj h).1 (by simp))
        rw [show (S ++ X.drop 1).length = n from HNl.out.symm] at hv2
        subst hv2
        replace hown2 : OwnInts x2 w6.heap.size (.slice (some ⟨g2, 0, none⟩) n c2) (jnS S X) := hown2
        have H2 : Below w6.heap.size w6 x2 := grown_below H1 Hz2 hgrow2 ow1 (Nat.le_refl _)
        clear hnil2
        refine hK.out _ _ (⟨kept_cell H2 cS6 (by omega), kept_cell H2 cX6 (by omega)⟩) (fun hHeld => ?_)
        clear hK K
        (try simp only [Act.put, List.setIfInBounds_toArray, List.set_cons_zero, List.set_cons_succ, List.getElem_toArray, List.getElem_cons_succ, List.getElem_cons_zero])
        refine wpAnyH_take (i := 7) (v := ?_) rfl (by kernel_rfl) (by kernel_rfl) (by kernel_rfl) (fun _ _ _ h => h) (Or.inl ⟨by rfl, ?_⟩) (by assumption) ?_
        rotate_left
        · (intro w hSw; obtain ⟨hSw0, hSw1⟩ := hSw; (try dsimp only at hSw0 hSw1); go_simp; try (with_reducible rfl))
        (try simp only [Act.put, List.setIfInBounds_toArray, List.set_cons_zero, List.set_cons_succ, List.getElem_toArray, List.getElem_cons_succ, List.getElem_cons_zero])
        refine wpAnyH_ready (rs := [8]) (by kernel_rfl) (by simp) ?_
        refine AllReadyH.cons rfl (fun K hK => ?_) AllReadyH.nil
        go_simp
        have owq := hown2
        have H3 : Below w6.heap.size w6 (x2.alloc (.cells #[.slice none 0 0] 28)) := Below.alloc H2 (Below.size H2) _
        replace hown2 := hown2.below ((Below.refl _ x2).alloc (Nat.le_refl _) (.cells #[.slice none 0 0] 28))
        have r8 : RowC (x2.alloc (.cells #[.slice none 0 0] 28)) (x2.heap.size) (.cells #[.slice none 0 0] 28 (0, 0)) := rowC_new _ _ _ (by simp)
        refine hK.out _ _ (⟨kept_cell H3 cS6 (by omega), kept_cell H3 cX6 (by omega)⟩) (fun hHeld => ?_)
        clear hK K
        (try simp only [Act.put, List.setIfInBounds_toArray, List.set_cons_zero, List.set_cons_succ, List.getElem_toArray, List.getElem_cons_succ, List.getElem_cons_zero])
        refine wpAnyH_ready (rs := [9]) (by kernel_rfl) (by simp) ?_
        refine AllReadyH.cons rfl (fun K hK => ?_) AllReadyH.nil
        go_simp
        have rc : (x2.alloc (.cells #[.slice none 0 0] 28)).cell? ⟨x2.heap.size, 0, none⟩ = some (.slice none 0 0) := cell_of19j r8.1
        have rf : (x2.alloc (.cells #[.slice none 0 0] 28)).frozen? ⟨x2.heap.size, 0, none⟩ = false := frozen_of_row _ _ 0 _ _ r8.1
        go_simp
        have hqb : w6.heap.size ≤ x2.heap.size := by have := Below.size H2; omega
        have Hs : Below w6.heap.size w6 (x2.alloc (.cells #[.slice (some ⟨g2, 0, none⟩) n c2] 28)) := Below.alloc H2 (Below.size H2) _
        refine hK.out _ _ (⟨kept_cell Hs cS6 (by omega), kept_cell Hs cX6 (by omega)⟩) (fun hHeld => ?_)
        clear hK K
        (try simp only [Act.put, List.setIfInBounds_toArray, List.set_cons_zero, List.set_cons_succ, List.getElem_toArray, List.getElem_cons_succ, List.getElem_cons_zero])
        refine wpAnyH_done (by kernel_rfl) ?_ _
        (try simp only [Act.put, List.setIfInBounds_toArray, List.set_cons_zero, List.set_cons_succ, List.getElem_toArray, List.getElem_cons_succ, List.getElem_cons_zero])
        have hne : g2 ≠ x2.heap.size := fun e => by rw [e] at hown2; exact own_not_sp9 hown2 r8.1
        have ow9 := OwnInts.alloc owq (.cells #[.slice (some ⟨g2, 0, none⟩) n c2] 28)
        go_wp2_with fail
        go_meet
        exact ⟨_, g2, c2, rfl, cell_new _ _ _, hqb, lt_alloc _ _, ow9, hne, Hs⟩
      refine AllReadyH.cons rfl (fun K hK => ?_) AllReadyH.nil
      go_simp
      have owq := ow1
      have H2 : Below w6.heap.size w6 (x1.alloc (.cells #[.slice none 0 0] 28)) := Below.alloc H1 (Below.size H1) _
      replace ow1 := ow1.below ((Below.refl _ x1).alloc (Nat.le_refl _) (.cells #[.slice none 0 0] 28))
      have r8 : RowC (x1.alloc (.cells #[.slice none 0 0] 28)) (x1.heap.size) (.cells #[.slice none 0 0] 28 (0, 0)) := rowC_new _ _ _ (by simp)
      refine hK.out _ _ (⟨kept_cell H2 cS6 (by omega), kept_cell H2 cX6 (by omega)⟩) (fun hHeld => ?_)
      clear hK K
      (try simp only [Act.put, List.setIfInBounds_toArray, List.set_cons_zero, List.set_cons_succ, List.getElem_toArray, List.getElem_cons_succ, List.getElem_cons_zero])
      refine wpAnyH_ready (rs := [6]) (by kernel_rfl) (by simp) ?_
      refine AllReadyH.cons rfl (fun K hK => ?_) AllReadyH.nil
      rw [if_pos (by kernel_rfl)]
      have hgq3 : g1 ≠ x1.heap.size := fun e => by rw [e] at ow1; exact own_not_sp9 ow1 r8.1
      have Hz3 := Below.size H2
      refine wp_append_ints (.tmp 56) (.tmp 59) (by kernel_rfl) w6.heap.size _ S (by rfl) ow1 ⟨xb, xo, none⟩ (X.drop 1) 0 0 (by have := HX1.out; simp; omega) (by rfl) (ints_drop1 (hX.below (B6.trans (Below.mono H2 B6.size))) (by omega) (Or.inl HX1.out)) (by omega) (by simpa using Hz3) ?_
      intro v3 x3 hown3 hgrow3 hnil3
      obtain ⟨g3, c3, hv3⟩ := own_stays hown3 hnil3 (fun h => absurd (Value.slice.inj h).1 (by simp))
      rw [show (S ++ X.drop 1).length = n from HNl.out.symm] at hv3
      subst hv3
      replace hown3 : OwnInts x3 w6.heap.size (.slice (some ⟨g3, 0, none⟩) n c3) (jnS S X) := hown3
      have H3 : Below w6.heap.size w6 x3 := grown_below H2 Hz3 hgrow3 ow1 (Nat.le_refl _)
      replace r8 : RowC x3 (x1.heap.size) (.cells #[.slice none 0 0] 28 (0, 0)) := ⟨row_kept9 r8.1 hgrow3 (fun e => hgq3 (by simpa [Value.ownBlock, eq_comm] using e)), Nat.lt_of_lt_of_le r8.2 hgrow3.size⟩
      clear hnil3
      refine hK.out _ _ (⟨kept_cell H3 cS6 (by omega), kept_cell H3 cX6 (by omega)⟩) (fun hHeld => ?_)
      clear hK K
      (try simp only [Act.put, List.setIfInBounds_toArray, List.set_cons_zero, List.set_cons_succ, List.getElem_toArray, List.getElem_cons_succ, List.getElem_cons_zero])
      refine wpAnyH_take (i := 7) (v := ?_) rfl (by kernel_rfl) (by kernel_rfl) (by kernel_rfl) (fun _ _ _ h => h) (Or.inl ⟨by rfl, ?_⟩) (by assumption) ?_
      rotate_left
      · (intro w hSw; obtain ⟨hSw0, hSw1⟩ := hSw; (try dsimp only at hSw0 hSw1); go_simp; try (with_reducible rfl))
      (try simp only [Act.put, List.setIfInBounds_toArray, List.set_cons_zero, List.set_cons_succ, List.getElem_toArray, List.getElem_cons_succ, List.getElem_cons_zero])
      refine wpAnyH_ready (rs := [9]) (by kernel_rfl) (by simp) ?_
      refine AllReadyH.cons rfl (fun K hK => ?_) AllReadyH.nil
      go_simp
      have rc : x3.cell? ⟨x1.heap.size, 0, none⟩ = some (.slice none 0 0) := cell_of19j r8.1
      have rf : x3.frozen? ⟨x1.heap.size, 0, none⟩ = false := frozen_of_row _ _ 0 _ _ r8.1
      go_simp
      have hqb : w6.heap.size ≤ x1.heap.size := by have := Below.size H1; omega
      have Hs : Below w6.heap.size w6 (x3.setCell ⟨x1.heap.size, 0, none⟩ (.slice (some ⟨g3, 0, none⟩) n c3)) := Below.setCell H3 hqb _
      refine hK.out _ _ (⟨kept_cell Hs cS6 (by omega), kept_cell Hs cX6 (by omega)⟩) (fun hHeld => ?_)
      clear hK K
      (try simp only [Act.put, List.setIfInBounds_toArray, List.set_cons_zero, List.set_cons_succ, List.getElem_toArray, List.getElem_cons_succ, List.getElem_cons_zero])
      refine wpAnyH_done (by kernel_rfl) ?_ _
      (try simp only [Act.put, List.setIfInBounds_toArray, List.set_cons_zero, List.set_cons_succ, List.getElem_toArray, List.getElem_cons_succ, List.getElem_cons_zero])
      have hne : g3 ≠ x1.heap.size := fun e => by rw [e] at hown3; exact own_not_sp9 hown3 r8.1
      go_wp2_with fail
      go_meet
      exact ⟨_, g3, c3, rfl, cell_of19j (row_store9j _ r8.1), hqb, by simpa using r8.2, own_stored_oj9 hown3 (.inr (by simp [Value.ownBlock]; exact hne)) 0 _, hne, Hs⟩
    refine AllReadyH.cons rfl (fun K hK => ?_) AllReadyH.nil
    go_simp
    have H1 : Below w6.heap.size w6 (w6.drew.alloc (.cells #[.slice none 0 0] 28)) := Below.alloc (Below.refl w6.heap.size w6).drew (Below.size (Below.refl w6.heap.size w6).drew) _
    have r8 : RowC (w6.drew.alloc (.cells #[.slice none 0 0] 28)) (w6.heap.size) (.cells #[.slice none 0 0] 28 (0, 0)) := rowC_new _ _ _ (by simp)
    refine hK.out _ _ (⟨kept_cell H1 cS6 (by omega), kept_cell H1 cX6 (by omega)⟩) (fun hHeld => ?_)
    clear hK K
    (try simp only [Act.put, List.setIfInBounds_toArray, List.set_cons_zero, List.set_cons_succ, List.getElem_toArray, List.getElem_cons_succ, List.getElem_cons_zero])
    refine wpAnyH_ready (rs := [2]) (by kernel_rfl) (by simp) ?_
    refine AllReadyH.cons rfl (fun K hK => ?_) AllReadyH.nil
    go_simp
    (go_at_call 59; refine (l01Own_any ⟨sb, so, none⟩ S S.length cap rfl (by omega) _ (hS.below (B6.trans (Below.mono H1 B6.size)))).mono ?_)
    rintro e x2 ⟨g2, c2, rfl, ow2, hb2⟩
    have H2 : Below w6.heap.size w6 x2 := Below.trans H1 (hb2.mono (Below.size H1))
    replace r8 := r8.below hb2
    have hgg2 : w6.heap.size ≤ g2 := by have h1 := ow2.base_le.1; have h2 := Below.size H1; omega
    replace ow2 := ow2.rebase (base' := w6.heap.size) (Below.size H1)
    refine hK.out _ _ (⟨kept_cell H2 cS6 (by omega), kept_cell H2 cX6 (by omega)⟩) (fun hHeld => ?_)
    clear hK K
    (try simp only [Act.put, List.setIfInBounds_toArray, List.set_cons_zero, List.set_cons_succ, List.getElem_toArray, List.getElem_cons_succ, List.getElem_cons_zero])
    refine wpAnyH_ready (rs := [6]) (by kernel_rfl) (by simp) ?_
    refine AllReadyH.cons rfl (fun K hK => ?_) AllReadyH.nil
    rw [if_pos (by kernel_rfl)]
    have hgq3 : g2 ≠ w6.heap.size := fun e => by rw [e] at ow2; exact own_not_sp9 ow2 r8.1
    have Hz3 := Below.size H2
    refine wp_append_ints (.tmp 56) (.tmp 59) (by kernel_rfl) w6.heap.size _ S (by rfl) ow2 ⟨xb, xo, none⟩ (X.drop 1) 0 0 (by have := HX1.out; simp; omega) (by rfl) (ints_drop1 (hX.below (B6.trans (Below.mono H2 B6.size))) (by omega) (Or.inl HX1.out)) (by omega) (by simpa using Hz3) ?_
    intro v3 x3 hown3 hgrow3 hnil3
    obtain ⟨g3, c3, hv3⟩ := own_stays hown3 hnil3 (fun h => absurd (Value.slice.inj h).1 (by simp))
    rw [show (S ++ X.drop 1).length = n from HNl.out.symm] at hv3
    subst hv3
    replace hown3 : OwnInts x3 w6.heap.size (.slice (some ⟨g3, 0, none⟩) n c3) (jnS S X) := hown3
    have H3 : Below w6.heap.size w6 x3 := grown_below H2 Hz3 hgrow3 ow2 (Nat.le_refl _)
    replace r8 : RowC x3 (w6.heap.size) (.cells #[.slice none 0 0] 28 (0, 0)) := ⟨row_kept9 r8.1 hgrow3 (fun e => hgq3 (by simpa [Value.ownBlock, eq_comm] using e)), Nat.lt_of_lt_of_le r8.2 hgrow3.size⟩
    clear hnil3
    refine hK.out _ _ (⟨kept_cell H3 cS6 (by omega), kept_cell H3 cX6 (by omega)⟩) (fun hHeld => ?_)
    clear hK K
    (try simp only [Act.put, List.setIfInBounds_toArray, List.set_cons_zero, List.set_cons_succ, List.getElem_toArray, List.getElem_cons_succ, List.getElem_cons_zero])
    refine wpAnyH_take (i := 7) (v := ?_) rfl (by kernel_rfl) (by kernel_rfl) (by kernel_rfl) (fun _ _ _ h => h) (Or.inl ⟨by rfl, ?_⟩) (by assumption) ?_
    rotate_left
    · (intro w hSw; obtain ⟨hSw0, hSw1⟩ := hSw; (try dsimp only at hSw0 hSw1); go_simp; try (with_reducible rfl))
    (try simp only [Act.put, List.setIfInBounds_toArray, List.set_cons_zero, List.set_cons_succ, List.getElem_toArray, List.getElem_cons_succ, List.getElem_cons_zero])
    refine wpAnyH_ready (rs := [9]) (by kernel_rfl) (by simp) ?_
    refine AllReadyH.cons rfl (fun K hK => ?_) AllReadyH.nil
    go_simp
    have rc : x3.cell? ⟨w6.heap.size, 0, none⟩ = some (.slice none 0 0) := cell_of19j r8.1
    have rf : x3.frozen? ⟨w6.heap.size, 0, none⟩ = false := frozen_of_row _ _ 0 _ _ r8.1
    go_simp
    have hqb : w6.heap.size ≤ w6.heap.size := by omega
    have Hs : Below w6.heap.size w6 (x3.setCell ⟨w6.heap.size, 0, none⟩ (.slice (some ⟨g3, 0, none⟩) n c3)) := Below.setCell H3 hqb _
    refine hK.out _ _ (⟨kept_cell Hs cS6 (by omega), kept_cell Hs cX6 (by omega)⟩) (fun hHeld => ?_)
    clear hK K
    (try simp only [Act.put, List.setIfInBounds_toArray, List.set_cons_zero, List.set_cons_succ, List.getElem_toArray, List.getElem_cons_succ, List.getElem_cons_zero])
    refine wpAnyH_done (by kernel_rfl) ?_ _
    (try simp only [Act.put, List.setIfInBounds_toArray, List.set_cons_zero, List.set_cons_succ, List.getElem_toArray, List.getElem_cons_succ, List.getElem_cons_zero])
    have hne : g3 ≠ w6.heap.size := fun e => by rw [e] at hown3; exact own_not_sp9 hown3 r8.1
    go_wp2_with fail
    go_meet
    exact ⟨_, g3, c3, rfl, cell_of19j (row_store9j _ r8.1), hqb, by simpa using r8.2, own_stored_oj9 hown3 (.inr (by simp [Value.ownBlock]; exact hne)) 0 _, hne, Hs⟩
  case rest =>
  obtain ⟨qb, g, cg, rfl, cY, hqb1, hqb2, oY, hgq, hb3⟩ := hcut
  replace hb3 : Below w6.heap.size w6 wc := hb3
  have cX7 := kept_cell hb3 cX6 (by omega)
  have rR7 := row_below9 rR6 hb3 (by omega)
  have hx07 := kept_cell hb3 hx06 (lt_of_below B6 hxbl)
  have B7 := B6.trans (hb3.mono B6.size)
  have s7 : w.heap.size + 3 ≤ wc.heap.size := Nat.le_trans s6 hb3.size
  have hs71 : w6.heap.size ≤ wc.heap.size := hb3.size
  clear hb3 cX6 rR6 cS6 hx06
  go_wp2_with fail
  refine (l01Is_n9 _ (jnS S X) n cg HNl.out wc (by omega) (own_ints oY)).mono ?_
  rw [HIS.out]
  rintro e w8 ⟨rfl, hb8⟩
  have s8 : w.heap.size + 3 ≤ w8.heap.size := Nat.le_trans s7 hb8.size
  have cX8 := kept_cell hb8 cX7 (by omega)
  have rR8 := row_below9 rR7 hb8 (by omega)
  have cY8 := kept_cell hb8 cY hqb2
  have lY8 := lt_of_below hb8 hqb2
  have oY8 := oY.below hb8
  have hx08 := kept_cell hb8 hx07 (lt_of_below B7 hxbl)
  have lx08 := lt_of_below (B7.trans (hb8.mono B7.size)) hxbl
  have B8 := B7.trans (hb8.mono B7.size)
  have hs81 : w6.heap.size ≤ w8.heap.size := Nat.le_trans hs71 hb8.size
  clear hb8 cX7 rR7 cY hqb2 oY B7 hx07
  have rc : w8.cell? ⟨w.heap.size + 1 + 1, 0, none⟩ = some (.slice none 0 0) := by rw [cell_of_row w8 (w.heap.size + 2) 0 _ _ _ rR8]; rfl
  have rf : w8.frozen? ⟨w.heap.size + 1 + 1, 0, none⟩ = false := by have h' := rR8; simp [World.frozen?, h']
  have rs : (w8.setCell ⟨w.heap.size + 1 + 1, 0, none⟩ (.slice none 0 0)).cell? ⟨w.heap.size + 1 + 1, 0, none⟩ = some (.slice none 0 0) := World.cell?_setCell_same' _ _ _ (by rw [rc]; rfl)
  have B9 : Below w.heap.size w (w8.setCell ⟨w.heap.size + 1 + 1, 0, none⟩ (.slice none 0 0)) := B8.setCell (show w.heap.size ≤ w.heap.size + 1 + 1 by omega) _
  go_wp2_with fail
  refine bodyPost_ret (by rw [results_sp9 rfl]; go_simp; try rfl) rfl ?_
  exact ⟨w.heap.size, .slice none 0 0, _, by rw [HE.out], Nat.le_refl _, fun k hk => (by cases hk), by rw [HS0.out]; exact own_nil _ _, by rw [HC0.out]; exact own_nil _ _, B9.size, B9⟩

set_option maxHeartbeats 8000000 in
theorem spec_JoinOverPlace_okb (as0 : Addr) (S : List Int) (cap : Nat) (hn : S.length ≤ 4294967296) (ac : Option Addr) (C : List Int) (capc : Nat) (hnc : C.length ≤ 4294967296) (ax : Addr) (X : List Int) (hnx : X.length ≤ 4294967296) (hcx : X.length ≤ 1) (ad : Option Addr) (D : List Int) (capd : Nat) (hnd : D.length ≤ 4294967296) (w : World) (hS : Ints w (some as0) S) (hC : Ints w ac C) (hX : Ints w (some ax) X) (hD : Ints w ad D) (h1 : isSp S = true) (h2 : isSp X = true) (h3 : codeB S C = true) (h4 : codeB X D = true) (hl : jnB S X = true) (hs : isSp (jnS S X) = true)  :
    Calls Try.prog 28 #[.agg #[.slice (some as0) S.length cap], .slice ac C.length capc, .agg #[.slice (some ax) X.length 1], .slice ad D.length capd] w fun e w' => ∃ m vs v, e = .returned (.tuple #[.agg #[vs], v, .int .i64 (eJn S C X D)]) ∧ w.heap.size ≤ m ∧ RowIn vs w.heap.size m ∧ OwnInts w' w.heap.size vs (vJnS S C X D) ∧ OwnInts w' m v (vJnC S C X D) ∧ m ≤ w'.heap.size ∧ Below w.heap.size w w' := by
  obtain ⟨W0, hW0, cS, cX, rR, z0, B0⟩ := box3_9 w (.slice (some as0) S.length cap) (.slice (some ax) X.length 1) (.slice none 0 0) 28
  have HW0 := Lib.hid hW0
  have z0a : w.heap.size + 3 ≤ W0.heap.size := by omega
  have hz : eBo S C X D = 0 := by unfold eBo; simp [h1, h2, h3, h4]
  obtain ⟨x1, x2, x3⟩ := eJn_ok hz hl hs
  have HE := Lib.hid x1
  have HS0 := Lib.hid x2
  have HC0 := Lib.hid x3
  obtain ⟨hcs, hcx0⟩ := eBo_zero hz
  have HSS := Lib.hid (eCode_zero hcs).1
  have HXX := Lib.hid (eCode_zero hcx0).1
  have hlo := (eCode_zero hcs).1.lo
  have hhi := (eCode_zero hcs).1.hi
  have hxlo := (eCode_zero hcx0).1.lo
  have hxhi := (eCode_zero hcx0).1.hi
  obtain ⟨sb, so, hso, hsbl, hsc⟩ := hS.at (i := S.length - 1) (by omega)
  obtain rfl := Option.some.inj hso
  obtain ⟨xb, xo, hxo, hxbl, hxc⟩ := hX.at (i := 0) (by omega)
  obtain rfl := Option.some.inj hxo
  have hsl := hsc (S.length - 1) (by omega)
  have hx0 := hxc 0 (by omega)
  rw [Nat.add_zero] at hx0
  obtain ⟨ls, hls⟩ : ∃ ls, ls = gi S (S.length - 1) := ⟨_, rfl⟩
  obtain ⟨q, hq⟩ : ∃ q, q = gi X 0 := ⟨_, rfl⟩
  have hq4 := (eCode_zero hcx0).1.bd 0 (by omega)
  rw [← hq] at hq4
  rw [← hls] at hsl
  rw [← hq] at hx0
  obtain ⟨q2, q4⟩ := hq4
  have HQ := Lib.hid hq
  have i1 : (0 : Int) ≤ (S.length : Int) - 1 := by omega
  have i2 : (S.length : Int) - 1 < (S.length : Int) := by omega
  have HI : Hid (((S.length : Int) - 1).toNat = S.length - 1) := Lib.hid (by omega)
  have e3 : ((S.length : Int) - 1).toNat = S.length - 1 := HI.out
  have i3 : 0 < X.length := by omega
  have hnb : (ls != q) = false := by have h := hl; unfold jnB at h; rw [← hls, ← hq] at h; simpa using h
  obtain ⟨n, hnl⟩ : ∃ n, n = (jnS S X).length := ⟨_, rfl⟩
  have HNl := Lib.hid hnl
  have hn16 : n ≤ 16 := by rw [hnl]; unfold jnS; simp; omega
  have hx1n : 1 ≤ X.length := by omega
  have i4 : (1 : Int) ≤ (X.length : Int) := by omega
  have HX1 : Hid (X.length = 1) := Lib.hid (by omega)
  have lC := code_len0 hcs
  have lD := code_len0 hcx0
  have hNX := nW_bd HXX.out
  have hNS := nW_bd HSS.out
  have HCb : Hid (∀ i, i < C.length → 0 ≤ gi C i ∧ gi C i < 1024) := Lib.hid fun i hi => by have := (eCode_zero hcs).2.1 i hi; omega
  have HDb : Hid (∀ i, i < D.length → 0 ≤ gi D i ∧ gi D i < 1024) := Lib.hid fun i hi => by have := (eCode_zero hcx0).2.1 i hi; omega
  obtain ⟨NX, hNXe⟩ : ∃ NX : Nat, nW X = (NX : Int) := ⟨(nW X).toNat, by omega⟩
  have HNX := Lib.hid (Lib.hid hNXe)
  have HJQ : Hid (jnW (gi X 0) (jnQ X) C D C.length = jnW q ((NX : Int) / q) C D C.length) := Lib.hid (by unfold jnQ; rw [hNXe, ← hq])
  have hqd : gi X 0 ≤ nW X := by
    have h := prodTo_mono X X.length 1 HXX.out.bd HXX.out.lo
    simp only [prodTo, Int.one_mul] at h
    exact h
  rw [hNXe, ← hq] at hqd
  have hNX2 : NX ≤ 1024 := by omega
  have r1 : 1 ≤ (NX : Int) / q := by
    have := Int.ediv_le_ediv (show 0 < q by omega) hqd
    rwa [Int.ediv_self (by omega)] at this
  have r2 : (NX : Int) / q ≤ 1024 := Int.le_trans (Int.ediv_le_self _ (by omega)) (by omega)
  have EWQ : IntKind.i64.wrap ((NX : Int) / q) = (NX : Int) / q := IntWalk.i64_in _ ⟨by omega, by omega⟩
  have hqz : ¬ q = 0 := by omega
  have hqb : (q == 0) = false := by simpa using hqz
  have E9 : (NX : Int).tdiv q = (NX : Int) / q := Int.tdiv_eq_ediv_of_nonneg (by omega)
  have H1 := Lib.hid h1
  have H2 := Lib.hid h2
  have H3 := Lib.hid h3
  have H4 := Lib.hid h4
  have HIS := Lib.hid hs
  clear hW0 z0 h1 h2 h3 h4 hz x1 x2 x3 hl hcs hcx0 hso hxo hsc hxc hls hq hs hnl hNXe hqd hNS hNX
  go_enter Try.func28, Try.ntmps28
  go_wp2_with fail
  rw [← HW0.out]
  refine (l01Is_any _ S cap _ hn (hS.below B0)).mono ?_
  rw [H1.out]
  rintro e w1 ⟨rfl, hb1⟩
  have s1 : w.heap.size + 3 ≤ w1.heap.size := by have := hb1.size; omega
  have cS1 := kept_cell hb1 cS (by omega)
  have cX1 := kept_cell hb1 cX (by omega)
  have rR1 := row_below9 rR hb1 (by omega)
  have B1 := B0.trans (hb1.mono (by have := B0.size; omega))
  clear hb1 cS cX rR
  go_wp2_with fail
  refine (l01Is_any _ X 1 _ hnx (hX.below B1)).mono ?_
  rw [H2.out]
  rintro e w2 ⟨rfl, hb2⟩
  have s2 : w.heap.size + 3 ≤ w2.heap.size := by have := hb2.size; omega
  have cS2 := kept_cell hb2 cS1 (by omega)
  have cX2 := kept_cell hb2 cX1 (by omega)
  have rR2 := row_below9 rR1 hb2 (by omega)
  have B2 := B1.trans (hb2.mono (by have := B1.size; omega))
  clear hb2 cS1 cX1 rR1
  go_wp2_with fail
  refine (l01Code_any _ S cap HSS.out ac C capc hnc _ (hS.below B2) (hC.below B2)).mono ?_
  rw [H3.out]
  rintro e w3 ⟨rfl, hb3⟩
  have s3 : w.heap.size + 3 ≤ w3.heap.size := by have := hb3.size; omega
  have cS3 := kept_cell hb3 cS2 (by omega)
  have cX3 := kept_cell hb3 cX2 (by omega)
  have rR3 := row_below9 rR2 hb3 (by omega)
  have B3 := B2.trans (hb3.mono (by have := B2.size; omega))
  clear hb3 cS2 cX2 rR2
  go_wp2_with fail
  refine (l01Code_any _ X 1 HXX.out ad D capd hnd _ (hX.below B3) (hD.below B3)).mono ?_
  rw [H4.out]
  rintro e w4 ⟨rfl, hb4⟩
  have s4 : w.heap.size + 3 ≤ w4.heap.size := by have := hb4.size; omega
  have cS4 := kept_cell hb4 cS3 (by omega)
  have cX4 := kept_cell hb4 cX3 (by omega)
  have rR4 := row_below9 rR3 hb4 (by omega)
  have B4 := B3.trans (hb4.mono (by have := B3.size; omega))
  clear hb4 cS3 cX3 rR3
  have hsl1 := kept_cell B4 hsl hsbl
  have hx01 := kept_cell B4 hx0 hxbl
  go_wp2_with fail
  go_quiet (fail)
  obtain ⟨w6, hw6⟩ : ∃ z, z = w4.drewN nq := ⟨_, rfl⟩
  have hb6 : Below w4.heap.size w4 w6 := by rw [hw6]; exact below_drewN (Below.refl _ _) nq
  rw [← hw6]
  have s6 : w.heap.size + 3 ≤ w6.heap.size := by have := hb6.size; omega
  have cS6 := kept_cell hb6 cS4 (by omega)
  have cX6 := kept_cell hb6 cX4 (by omega)
  have rR6 := row_below9 rR4 hb6 (by omega)
  have B6 := B4.trans (hb6.mono B4.size)
  have hsl6 := kept_cell hb6 hsl1 (lt_of_below B4 hsbl)
  have hx06 := kept_cell hb6 hx01 (lt_of_below B4 hxbl)
  clear hw6 hb6 cS4 cX4 rR4 B4 hsl1 hx01
  go_upto_region 7 with fail
  go_cut [11] from 54 to 61 (fun sx wx => ∃ (qb g cg : Nat), sx = .pointer (some ⟨qb, 0, none⟩) ∧ wx.cell? ⟨qb, 0, none⟩ = some (.slice (some ⟨g, 0, none⟩) n cg) ∧ w6.heap.size ≤ qb ∧ qb < wx.heap.size ∧ OwnInts wx w6.heap.size (.slice (some ⟨g, 0, none⟩) n cg) (jnS S X) ∧ g ≠ qb ∧ Below w6.heap.size w6 wx)
  case first =>
    clear rR6
    refine wp_region_held_drew (S := fun w' => w'.cell? ⟨w.heap.size, 0, none⟩ = some (.slice (some ⟨sb, so, none⟩) S.length cap) ∧ w'.cell? ⟨w.heap.size + 1, 0, none⟩ = some (.slice (some ⟨xb, xo, none⟩) X.length 1)) (by kernel_rfl) (⟨cS6, cX6⟩) (fun hHeld => ?_)
    refine wpAnyH_take (i := 0) (v := ?_) rfl (by kernel_rfl) (by kernel_rfl) (by kernel_rfl) (fun _ _ _ h => h) (Or.inl ⟨by rfl, ?_⟩) (by assumption) ?_
    rotate_left
    · (intro w hSw; obtain ⟨hSw0, hSw1⟩ := hSw; (try dsimp only at hSw0 hSw1); go_simp; try (with_reducible rfl))
    (try simp only [Act.put, List.setIfInBounds_toArray, List.set_cons_zero, List.set_cons_succ, List.getElem_toArray, List.getElem_cons_succ, List.getElem_cons_zero])
    refine wpAnyH_take (i := 1) (v := ?_) rfl (by kernel_rfl) (by kernel_rfl) (by kernel_rfl) (fun _ _ _ h => h) (Or.inl ⟨by rfl, ?_⟩) (by assumption) ?_
    rotate_left
    · (intro w hSw; obtain ⟨hSw0, hSw1⟩ := hSw; (try dsimp only at hSw0 hSw1); go_simp; try (with_reducible rfl))
    (try simp only [Act.put, List.setIfInBounds_toArray, List.set_cons_zero, List.set_cons_succ, List.getElem_toArray, List.getElem_cons_succ, List.getElem_cons_zero])
    refine wpAnyH_take (i := 3) (v := ?_) rfl (by kernel_rfl) (by kernel_rfl) (by kernel_rfl) (fun _ _ _ h => h) (Or.inl ⟨by rfl, ?_⟩) (by assumption) ?_
    rotate_left
    · (intro w hSw; obtain ⟨hSw0, hSw1⟩ := hSw; (try dsimp only at hSw0 hSw1); go_simp; try (with_reducible rfl))
    (try simp only [Act.put, List.setIfInBounds_toArray, List.set_cons_zero, List.set_cons_succ, List.getElem_toArray, List.getElem_cons_succ, List.getElem_cons_zero])
    refine wpAnyH_take (i := 4) (v := ?_) rfl (by kernel_rfl) (by kernel_rfl) (by kernel_rfl) (fun _ _ _ h => h) (Or.inl ⟨by rfl, ?_⟩) (by assumption) ?_
    rotate_left
    · (intro w hSw; obtain ⟨hSw0, hSw1⟩ := hSw; (try dsimp only at hSw0 hSw1); go_simp; try (with_reducible rfl))
    (try simp only [Act.put, List.setIfInBounds_toArray, List.set_cons_zero, List.set_cons_succ, List.getElem_toArray, List.getElem_cons_succ, List.getElem_cons_zero])
    refine wpAnyH_take (i := 5) (v := ?_) rfl (by kernel_rfl) (by kernel_rfl) (by kernel_rfl) (fun _ _ _ h => h) (Or.inl ⟨by rfl, ?_⟩) (by assumption) ?_
    rotate_left
    · (intro w hSw; obtain ⟨hSw0, hSw1⟩ := hSw; (try dsimp only at hSw0 hSw1); go_simp; try (with_reducible rfl))
    (try simp only [Act.put, List.setIfInBounds_toArray, List.set_cons_zero, List.set_cons_succ, List.getElem_toArray, List.getElem_cons_succ, List.getElem_cons_zero])
    refine wpAnyH_ready (rs := [2, 8]) (by kernel_rfl) (by simp) ?_
    refine AllReadyH.cons rfl (fun K hK => ?_) ?_
    · go_simp
      (go_at_call 59; refine (l01Own_any ⟨sb, so, none⟩ S S.length cap rfl (by omega) _ (hS.below (B6.trans (Below.mono (Below.refl w6.heap.size w6).drew B6.size)))).mono ?_)
      rintro e x1 ⟨g1, c1, rfl, ow1, hb1⟩
      have H1 : Below w6.heap.size w6 x1 := Below.trans (Below.refl w6.heap.size w6).drew (hb1.mono (Below.size (Below.refl w6.heap.size w6).drew))
      have hgg1 : w6.heap.size ≤ g1 := by have h1 := ow1.base_le.1; have h2 := Below.size (Below.refl w6.heap.size w6).drew; omega
      replace ow1 := ow1.rebase (base' := w6.heap.size) (Below.size (Below.refl w6.heap.size w6).drew)
      refine hK.out _ _ (⟨kept_cell H1 cS6 (by omega), kept_cell H1 cX6 (by omega)⟩) (fun hHeld => ?_)
      clear hK K
      (try simp only [Act.put, List.setIfInBounds_toArray, List.set_cons_zero, List.set_cons_succ, List.getElem_toArray, List.getElem_cons_succ, List.getElem_cons_zero])
      refine wpAnyH_ready (rs := [6, 8]) (by kernel_rfl) (by simp) ?_
      refine AllReadyH.cons rfl (fun K hK => ?_) ?_
      · rw [if_pos (by kernel_rfl)]
        have Hz2 := Below.size H1
        refine wp_append_ints (.tmp 56) (.tmp 59) (by kernel_rfl) w6.heap.size _ S (by rfl) ow1 ⟨xb, xo, none⟩ (X.drop 1) 0 0 (by have := HX1.out; simp; omega) (by rfl) (ints_drop1 (hX.below (B6.trans (Below.mono H1 B6.size))) (by omega) (Or.inl HX1.out)) (by omega) (by simpa using Hz2) ?_
        intro v2 x2 hown2 hgrow2 hnil2
        obtain ⟨g2, c2, hv2⟩ := own_stays hown2 hnil2 (fun h => absurd (Value.slice.inj h).1 (by simp))
        rw [show (S ++ X.drop 1).length = n from HNl.out.symm] at hv2
        subst hv2
        replace hown2 : OwnInts x2 w6.heap.size (.slice (some ⟨g2, 0, none⟩) n c2) (jnS S X) := hown2
        have H2 : Below w6.heap.size w6 x2 := grown_below H1 Hz2 hgrow2 ow1 (Nat.le_refl _)
        clear hnil2
        refine hK.out _ _ (⟨kept_cell H2 cS6 (by omega), kept_cell H2 cX6 (by omega)⟩) (fun hHeld => ?_)
        clear hK K
        (try simp only [Act.put, List.setIfInBounds_toArray, List.set_cons_zero, List.set_cons_succ, List.getElem_toArray, List.getElem_cons_succ, List.getElem_cons_zero])
        refine wpAnyH_take (i := 7) (v := ?_) rfl (by kernel_rfl) (by kernel_rfl) (by kernel_rfl) (fun _ _ _ h => h) (Or.inl ⟨by rfl, ?_⟩) (by assumption) ?_
        rotate_left
        · (intro w hSw; obtain ⟨hSw0, hSw1⟩ := hSw; (try dsimp only at hSw0 hSw1); go_simp; try (with_reducible rfl))
        (try simp only [Act.put, List.setIfInBounds_toArray, List.set_cons_zero, List.set_cons_succ, List.getElem_toArray, List.getElem_cons_succ, List.getElem_cons_zero])
        refine wpAnyH_ready (rs := [8]) (by kernel_rfl) (by simp) ?_
        refine AllReadyH.cons rfl (fun K hK => ?_) AllReadyH.nil
        go_simp
        have owq := hown2
        have H3 : Below w6.heap.size w6 (x2.alloc (.cells #[.slice none 0 0] 28)) := Below.alloc H2 (Below.size H2) _
        replace hown2 := hown2.below ((Below.refl _ x2).alloc (Nat.le_refl _) (.cells #[.slice none 0 0] 28))
        have r8 : RowC (x2.alloc (.cells #[.slice none 0 0] 28)) (x2.heap.size) (.cells #[.slice none 0 0] 28 (0, 0)) := rowC_new _ _ _ (by simp)
        refine hK.out _ _ (⟨kept_cell H3 cS6 (by omega), kept_cell H3 cX6 (by omega)⟩) (fun hHeld => ?_)
        clear hK K
        (try simp only [Act.put, List.setIfInBounds_toArray, List.set_cons_zero, List.set_cons_succ, List.getElem_toArray, List.getElem_cons_succ, List.getElem_cons_zero])
        refine wpAnyH_ready (rs := [9]) (by kernel_rfl) (by simp) ?_
        refine AllReadyH.cons rfl (fun K hK => ?_) AllReadyH.nil
        go_simp
        have rc : (x2.alloc (.cells #[.slice none 0 0] 28)).cell? ⟨x2.heap.size, 0, none⟩ = some (.slice none 0 0) := cell_of19j r8.1
        have rf : (x2.alloc (.cells #[.slice none 0 0] 28)).frozen? ⟨x2.heap.size, 0, none⟩ = false := frozen_of_row _ _ 0 _ _ r8.1
        go_simp
        have hqb : w6.heap.size ≤ x2.heap.size := by have := Below.size H2; omega
        have Hs : Below w6.heap.size w6 (x2.alloc (.cells #[.slice (some ⟨g2, 0, none⟩) n c2] 28)) := Below.alloc H2 (Below.size H2) _
        refine hK.out _ _ (⟨kept_cell Hs cS6 (by omega), kept_cell Hs cX6 (by omega)⟩) (fun hHeld => ?_)
        clear hK K
        (try simp only [Act.put, List.setIfInBounds_toArray, List.set_cons_zero, List.set_cons_succ, List.getElem_toArray, List.getElem_cons_succ, List.getElem_cons_zero])
        refine wpAnyH_done (by kernel_rfl) ?_ _
        (try simp only [Act.put, List.setIfInBounds_toArray, List.set_cons_zero, List.set_cons_succ, List.getElem_toArray, List.getElem_cons_succ, List.getElem_cons_zero])
        have hne : g2 ≠ x2.heap.size := fun e => by rw [e] at hown2; exact own_not_sp9 hown2 r8.1
        have ow9 := OwnInts.alloc owq (.cells #[.slice (some ⟨g2, 0, none⟩) n c2] 28)
        go_wp2_with fail
        go_meet
        exact ⟨_, g2, c2, rfl, cell_new _ _ _, hqb, lt_alloc _ _, ow9, hne, Hs⟩
      refine AllReadyH.cons rfl (fun K hK => ?_) AllReadyH.nil
      go_simp
      have owq := ow1
      have H2 : Below w6.heap.size w6 (x1.alloc (.cells #[.slice none 0 0] 28)) := Below.alloc H1 (Below.size H1) _
      replace ow1 := ow1.below ((Below.refl _ x1).alloc (Nat.le_refl _) (.cells #[.slice none 0 0] 28))
      have r8 : RowC (x1.alloc (.cells #[.slice none 0 0] 28)) (x1.heap.size) (.cells #[.slice none 0 0] 28 (0, 0)) := rowC_new _ _ _ (by simp)
      refine hK.out _ _ (⟨kept_cell H2 cS6 (by omega), kept_cell H2 cX6 (by omega)⟩) (fun hHeld => ?_)
      clear hK K
      (try simp only [Act.put, List.setIfInBounds_toArray, List.set_cons_zero, List.set_cons_succ, List.getElem_toArray, List.getElem_cons_succ, List.getElem_cons_zero])
      refine wpAnyH_ready (rs := [6]) (by kernel_rfl) (by simp) ?_
      refine AllReadyH.cons rfl (fun K hK => ?_) AllReadyH.nil
      rw [if_pos (by kernel_rfl)]
      have hgq3 : g1 ≠ x1.heap.size := fun e => by rw [e] at ow1; exact own_not_sp9 ow1 r8.1
      have Hz3 := Below.size H2
      refine wp_append_ints (.tmp 56) (.tmp 59) (by kernel_rfl) w6.heap.size _ S (by rfl) ow1 ⟨xb, xo, none⟩ (X.drop 1) 0 0 (by have := HX1.out; simp; omega) (by rfl) (ints_drop1 (hX.below (B6.trans (Below.mono H2 B6.size))) (by omega) (Or.inl HX1.out)) (by omega) (by simpa using Hz3) ?_
      intro v3 x3 hown3 hgrow3 hnil3
      obtain ⟨g3, c3, hv3⟩ := own_stays hown3 hnil3 (fun h => absurd (Value.slice.inj h).1 (by simp))
      rw [show (S ++ X.drop 1).length = n from HNl.out.symm] at hv3
      subst hv3
      replace hown3 : OwnInts x3 w6.heap.size (.slice (some ⟨g3, 0, none⟩) n c3) (jnS S X) := hown3
      have H3 : Below w6.heap.size w6 x3 := grown_below H2 Hz3 hgrow3 ow1 (Nat.le_refl _)
      replace r8 : RowC x3 (x1.heap.size) (.cells #[.slice none 0 0] 28 (0, 0)) := ⟨row_kept9 r8.1 hgrow3 (fun e => hgq3 (by simpa [Value.ownBlock, eq_comm] using e)), Nat.lt_of_lt_of_le r8.2 hgrow3.size⟩
      clear hnil3
      refine hK.out _ _ (⟨kept_cell H3 cS6 (by omega), kept_cell H3 cX6 (by omega)⟩) (fun hHeld => ?_)
      clear hK K
      (try simp only [Act.put, List.setIfInBounds_toArray, List.set_cons_zero, List.set_cons_succ, List.getElem_toArray, List.getElem_cons_succ, List.getElem_cons_zero])
      refine wpAnyH_take (i := 7) (v := ?_) rfl (by kernel_rfl) (by kernel_rfl) (by kernel_rfl) (fun _ _ _ h => h) (Or.inl ⟨by rfl, ?_⟩) (by assumption) ?_
      rotate_left
      · (intro w hSw; obtain ⟨hSw0, hSw1⟩ := hSw; (try dsimp only at hSw0 hSw1); go_simp; try (with_reducible rfl))
      (try simp only [Act.put, List.setIfInBounds_toArray, List.set_cons_zero, List.set_cons_succ, List.getElem_toArray, List.getElem_cons_succ, List.getElem_cons_zero])
      refine wpAnyH_ready (rs := [9]) (by kernel_rfl) (by simp) ?_
      refine AllReadyH.cons rfl (fun K hK => ?_) AllReadyH.nil
      go_simp
      have rc : x3.cell? ⟨x1.heap.size, 0, none⟩ = some (.slice none 0 0) := cell_of19j r8.1
      have rf : x3.frozen? ⟨x1.heap.size, 0, none⟩ = false := frozen_of_row _ _ 0 _ _ r8.1
      go_simp
      have hqb : w6.heap.size ≤ x1.heap.size := by have := Below.size H1; omega
      have Hs : Below w6.heap.size w6 (x3.setCell ⟨x1.heap.size, 0, none⟩ (.slice (some ⟨g3, 0, none⟩) n c3)) := Below.setCell H3 hqb _
      refine hK.out _ _ (⟨kept_cell Hs cS6 (by omega), kept_cell Hs cX6 (by omega)⟩) (fun hHeld => ?_)
      clear hK K
      (try simp only [Act.put, List.setIfInBounds_toArray, List.set_cons_zero, List.set_cons_succ, List.getElem_toArray, List.getElem_cons_succ, List.getElem_cons_zero])
      refine wpAnyH_done (by kernel_rfl) ?_ _
      (try simp only [Act.put, List.setIfInBounds_toArray, List.set_cons_zero, List.set_cons_succ, List.getElem_toArray, List.getElem_cons_succ, List.getElem_cons_zero])
      have hne : g3 ≠ x1.heap.size := fun e => by rw [e] at hown3; exact own_not_sp9 hown3 r8.1
      go_wp2_with fail
      go_meet
      exact ⟨_, g3, c3, rfl, cell_of19j (row_store9j _ r8.1), hqb, by simpa using r8.2, own_stored_oj9 hown3 (.inr (by simp [Value.ownBlock]; exact hne)) 0 _, hne, Hs⟩
    refine AllReadyH.cons rfl (fun K hK => ?_) AllReadyH.nil
    go_simp
    have H1 : Below w6.heap.size w6 (w6.drew.alloc (.cells #[.slice none 0 0] 28)) := Below.alloc (Below.refl w6.heap.size w6).drew (Below.size (Below.refl w6.heap.size w6).drew) _
    have r8 : RowC (w6.drew.alloc (.cells #[.slice none 0 0] 28)) (w6.heap.size) (.cells #[.slice none 0 0] 28 (0, 0)) := rowC_new _ _ _ (by simp)
    refine hK.out _ _ (⟨kept_cell H1 cS6 (by omega), kept_cell H1 cX6 (by omega)⟩) (fun hHeld => ?_)
    clear hK K
    (try simp only [Act.put, List.setIfInBounds_toArray, List.set_cons_zero, List.set_cons_succ, List.getElem_toArray, List.getElem_cons_succ, List.getElem_cons_zero])
    refine wpAnyH_ready (rs := [2]) (by kernel_rfl) (by simp) ?_
    refine AllReadyH.cons rfl (fun K hK => ?_) AllReadyH.nil
    go_simp
    (go_at_call 59; refine (l01Own_any ⟨sb, so, none⟩ S S.length cap rfl (by omega) _ (hS.below (B6.trans (Below.mono H1 B6.size)))).mono ?_)
    rintro e x2 ⟨g2, c2, rfl, ow2, hb2⟩
    have H2 : Below w6.heap.size w6 x2 := Below.trans H1 (hb2.mono (Below.size H1))
    replace r8 := r8.below hb2
    have hgg2 : w6.heap.size ≤ g2 := by have h1 := ow2.base_le.1; have h2 := Below.size H1; omega
    replace ow2 := ow2.rebase (base' := w6.heap.size) (Below.size H1)
    refine hK.out _ _ (⟨kept_cell H2 cS6 (by omega), kept_cell H2 cX6 (by omega)⟩) (fun hHeld => ?_)
    clear hK K
    (try simp only [Act.put, List.setIfInBounds_toArray, List.set_cons_zero, List.set_cons_succ, List.getElem_toArray, List.getElem_cons_succ, List.getElem_cons_zero])
    refine wpAnyH_ready (rs := [6]) (by kernel_rfl) (by simp) ?_
    refine AllReadyH.cons rfl (fun K hK => ?_) AllReadyH.nil
    rw [if_pos (by kernel_rfl)]
    have hgq3 : g2 ≠ w6.heap.size := fun e => by rw [e] at ow2; exact own_not_sp9 ow2 r8.1
    have Hz3 := Below.size H2
    refine wp_append_ints (.tmp 56) (.tmp 59) (by kernel_rfl) w6.heap.size _ S (by rfl) ow2 ⟨xb, xo, none⟩ (X.drop 1) 0 0 (by have := HX1.out; simp; omega) (by rfl) (ints_drop1 (hX.below (B6.trans (Below.mono H2 B6.size))) (by omega) (Or.inl HX1.out)) (by omega) (by simpa using Hz3) ?_
    intro v3 x3 hown3 hgrow3 hnil3
    obtain ⟨g3, c3, hv3⟩ := own_stays hown3 hnil3 (fun h => absurd (Value.slice.inj h).1 (by simp))
    rw [show (S ++ X.drop 1).length = n from HNl.out.symm] at hv3
    subst hv3
    replace hown3 : OwnInts x3 w6.heap.size (.slice (some ⟨g3, 0, none⟩) n c3) (jnS S X) := hown3
    have H3 : Below w6.heap.size w6 x3 := grown_below H2 Hz3 hgrow3 ow2 (Nat.le_refl _)
    replace r8 : RowC x3 (w6.heap.size) (.cells #[.slice none 0 0] 28 (0, 0)) := ⟨row_kept9 r8.1 hgrow3 (fun e => hgq3 (by simpa [Value.ownBlock, eq_comm] using e)), Nat.lt_of_lt_of_le r8.2 hgrow3.size⟩
    clear hnil3
    refine hK.out _ _ (⟨kept_cell H3 cS6 (by omega), kept_cell H3 cX6 (by omega)⟩) (fun hHeld => ?_)
    clear hK K
    (try simp only [Act.put, List.setIfInBounds_toArray, List.set_cons_zero, List.set_cons_succ, List.getElem_toArray, List.getElem_cons_succ, List.getElem_cons_zero])
    refine wpAnyH_take (i := 7) (v := ?_) rfl (by kernel_rfl) (by kernel_rfl) (by kernel_rfl) (fun _ _ _ h => h) (Or.inl ⟨by rfl, ?_⟩) (by assumption) ?_
    rotate_left
    · (intro w hSw; obtain ⟨hSw0, hSw1⟩ := hSw; (try dsimp only at hSw0 hSw1); go_simp; try (with_reducible rfl))
    (try simp only [Act.put, List.setIfInBounds_toArray, List.set_cons_zero, List.set_cons_succ, List.getElem_toArray, List.getElem_cons_succ, List.getElem_cons_zero])
    refine wpAnyH_ready (rs := [9]) (by kernel_rfl) (by simp) ?_
    refine AllReadyH.cons rfl (fun K hK => ?_) AllReadyH.nil
    go_simp
    have rc : x3.cell? ⟨w6.heap.size, 0, none⟩ = some (.slice none 0 0) := cell_of19j r8.1
    have rf : x3.frozen? ⟨w6.heap.size, 0, none⟩ = false := frozen_of_row _ _ 0 _ _ r8.1
    go_simp
    have hqb : w6.heap.size ≤ w6.heap.size := by omega
    have Hs : Below w6.heap.size w6 (x3.setCell ⟨w6.heap.size, 0, none⟩ (.slice (some ⟨g3, 0, none⟩) n c3)) := Below.setCell H3 hqb _
    refine hK.out _ _ (⟨kept_cell Hs cS6 (by omega), kept_cell Hs cX6 (by omega)⟩) (fun hHeld => ?_)
    clear hK K
    (try simp only [Act.put, List.setIfInBounds_toArray, List.set_cons_zero, List.set_cons_succ, List.getElem_toArray, List.getElem_cons_succ, List.getElem_cons_zero])
    refine wpAnyH_done (by kernel_rfl) ?_ _
    (try simp only [Act.put, List.setIfInBounds_toArray, List.set_cons_zero, List.set_cons_succ, List.getElem_toArray, List.getElem_cons_succ, List.getElem_cons_zero])
    have hne : g3 ≠ w6.heap.size := fun e => by rw [e] at hown3; exact own_not_sp9 hown3 r8.1
    go_wp2_with fail
    go_meet
    exact ⟨_, g3, c3, rfl, cell_of19j (row_store9j _ r8.1), hqb, by simpa using r8.2, own_stored_oj9 hown3 (.inr (by simp [Value.ownBlock]; exact hne)) 0 _, hne, Hs⟩
  case rest =>
  obtain ⟨qb, g, cg, rfl, cY, hqb1, hqb2, oY, hgq, hb3⟩ := hcut
  replace hb3 : Below w6.heap.size w6 wc := hb3
  have cX7 := kept_cell hb3 cX6 (by omega)
  have rR7 := row_below9 rR6 hb3 (by omega)
  have hx07 := kept_cell hb3 hx06 (lt_of_below B6 hxbl)
  have B7 := B6.trans (hb3.mono B6.size)
  have s7 : w.heap.size + 3 ≤ wc.heap.size := Nat.le_trans s6 hb3.size
  have hs71 : w6.heap.size ≤ wc.heap.size := hb3.size
  clear hb3 cX6 rR6 cS6 hx06
  go_wp2_with fail
  refine (l01Is_n9 _ (jnS S X) n cg HNl.out wc (by omega) (own_ints oY)).mono ?_
  rw [HIS.out]
  rintro e w8 ⟨rfl, hb8⟩
  have s8 : w.heap.size + 3 ≤ w8.heap.size := Nat.le_trans s7 hb8.size
  have cX8 := kept_cell hb8 cX7 (by omega)
  have rR8 := row_below9 rR7 hb8 (by omega)
  have cY8 := kept_cell hb8 cY hqb2
  have lY8 := lt_of_below hb8 hqb2
  have oY8 := oY.below hb8
  have hx08 := kept_cell hb8 hx07 (lt_of_below B7 hxbl)
  have lx08 := lt_of_below (B7.trans (hb8.mono B7.size)) hxbl
  have B8 := B7.trans (hb8.mono B7.size)
  have hs81 : w6.heap.size ≤ w8.heap.size := Nat.le_trans hs71 hb8.size
  clear hb8 cX7 rR7 cY hqb2 oY B7 hx07
  go_upto_region 10 with fail
  go_cut [12, 13, 14] from 66 to 77 (fun q' r' v' wx => q' = .int .i64 q ∧ r' = .int .i64 ((NX : Int) / q) ∧ OwnInts wx w8.heap.size v' [] ∧ Below w8.heap.size w8 wx)
  case first =>
    clear rR8 cY8 oY8
    refine wp_region_held_drew (S := fun w' => w'.cell? ⟨w.heap.size + 1, 0, none⟩ = some (.slice (some ⟨xb, xo, none⟩) X.length 1) ∧ w'.cell? ⟨xb, xo, none⟩ = some (.int .i64 q)) (by kernel_rfl) (⟨cX8, hx08⟩) (fun hHeld => ?_)
    refine wpAnyH_take (i := 0) (v := ?_) rfl (by kernel_rfl) (by kernel_rfl) (by kernel_rfl) (fun _ _ _ h => h) (Or.inl ⟨by rfl, ?_⟩) (by assumption) ?_
    rotate_left
    · (intro w hSw; obtain ⟨hSw0, hSw1⟩ := hSw; (try dsimp only at hSw0 hSw1); go_simp; try (with_reducible rfl))
    (try simp only [Act.put, List.setIfInBounds_toArray, List.set_cons_zero, List.set_cons_succ, List.getElem_toArray, List.getElem_cons_succ, List.getElem_cons_zero])
    refine wpAnyH_take (i := 1) (v := ?_) rfl (by kernel_rfl) (by kernel_rfl) (by kernel_rfl) (fun _ _ _ h => h) (Or.inl ⟨by rfl, ?_⟩) (by assumption) ?_
    rotate_left
    · (intro w hSw; obtain ⟨hSw0, hSw1⟩ := hSw; (try dsimp only at hSw0 hSw1); go_simp; try (with_reducible rfl))
    (try simp only [Act.put, List.setIfInBounds_toArray, List.set_cons_zero, List.set_cons_succ, List.getElem_toArray, List.getElem_cons_succ, List.getElem_cons_zero])
    refine wpAnyH_take (i := 2) (v := ?_) rfl (by kernel_rfl) (by kernel_rfl) (by kernel_rfl) (fun _ _ _ h => h) (Or.inl ⟨by rfl, ?_⟩) (by assumption) ?_
    rotate_left
    · (intro w hSw; obtain ⟨hSw0, hSw1⟩ := hSw; (try dsimp only at hSw0 hSw1); go_simp; try (with_reducible rfl))
    (try simp only [Act.put, List.setIfInBounds_toArray, List.set_cons_zero, List.set_cons_succ, List.getElem_toArray, List.getElem_cons_succ, List.getElem_cons_zero])
    refine wpAnyH_take (i := 3) (v := ?_) rfl (by kernel_rfl) (by kernel_rfl) (by kernel_rfl) (fun _ _ _ h => h) (Or.inl ⟨by rfl, ?_⟩) (by assumption) ?_
    rotate_left
    · (intro w hSw; obtain ⟨hSw0, hSw1⟩ := hSw; (try dsimp only at hSw0 hSw1); go_simp; try (with_reducible rfl))
    (try simp only [Act.put, List.setIfInBounds_toArray, List.set_cons_zero, List.set_cons_succ, List.getElem_toArray, List.getElem_cons_succ, List.getElem_cons_zero])
    refine wpAnyH_take (i := 4) (v := ?_) rfl (by kernel_rfl) (by kernel_rfl) (by kernel_rfl) (fun _ _ _ h => h) (Or.inl ⟨by rfl, ?_⟩) (by assumption) ?_
    rotate_left
    · (intro w hSw; obtain ⟨hSw0, hSw1⟩ := hSw; (try dsimp only at hSw0 hSw1); go_simp; try (with_reducible rfl))
    (try simp only [Act.put, List.setIfInBounds_toArray, List.set_cons_zero, List.set_cons_succ, List.getElem_toArray, List.getElem_cons_succ, List.getElem_cons_zero])
    refine wpAnyH_take (i := 6) (v := ?_) rfl (by kernel_rfl) (by kernel_rfl) (by kernel_rfl) (fun _ _ _ h => h) (Or.inl ⟨by rfl, ?_⟩) (by assumption) ?_
    rotate_left
    · (intro w hSw; obtain ⟨hSw0, hSw1⟩ := hSw; (try dsimp only at hSw0 hSw1); go_simp; try (with_reducible rfl))
    (try simp only [Act.put, List.setIfInBounds_toArray, List.set_cons_zero, List.set_cons_succ, List.getElem_toArray, List.getElem_cons_succ, List.getElem_cons_zero])
    refine wpAnyH_take (i := 7) (v := ?_) rfl (by kernel_rfl) (by kernel_rfl) (by kernel_rfl) (fun _ _ _ h => h) (Or.inl ⟨by rfl, ?_⟩) (by assumption) ?_
    rotate_left
    · (intro w hSw; obtain ⟨hSw0, hSw1⟩ := hSw; (try dsimp only at hSw0 hSw1); go_simp; try (with_reducible rfl))
    (try simp only [Act.put, List.setIfInBounds_toArray, List.set_cons_zero, List.set_cons_succ, List.getElem_toArray, List.getElem_cons_succ, List.getElem_cons_zero])
    refine wpAnyH_take (i := 8) (v := ?_) rfl (by kernel_rfl) (by kernel_rfl) (by kernel_rfl) (fun _ _ _ h => h) (Or.inl ⟨by rfl, ?_⟩) (by assumption) ?_
    rotate_left
    · (intro w hSw; obtain ⟨hSw0, hSw1⟩ := hSw; (try dsimp only at hSw0 hSw1); go_simp; try (with_reducible rfl))
    (try simp only [Act.put, List.setIfInBounds_toArray, List.set_cons_zero, List.set_cons_succ, List.getElem_toArray, List.getElem_cons_succ, List.getElem_cons_zero])
    refine wpAnyH_take (i := 9) (v := ?_) rfl (by kernel_rfl) (by kernel_rfl) (by kernel_rfl) (fun _ _ _ h => h) (Or.inl ⟨by rfl, ?_⟩) (by assumption) ?_
    rotate_left
    · (intro w hSw; obtain ⟨hSw0, hSw1⟩ := hSw; (try dsimp only at hSw0 hSw1); go_simp; try (with_reducible rfl))
    (try simp only [Act.put, List.setIfInBounds_toArray, List.set_cons_zero, List.set_cons_succ, List.getElem_toArray, List.getElem_cons_succ, List.getElem_cons_zero])
    refine wpAnyH_ready (rs := [5, 11]) (by kernel_rfl) (by simp) ?_
    refine AllReadyH.cons rfl (fun K hK => ?_) ?_
    · go_simp
      (go_at_call 60; refine (l01N_natz _ X 1 NX HNX.out _ HXX.out (hX.below (B8.trans (Below.mono (Below.refl w8.heap.size w8).drew B8.size)))).mono ?_)
      rintro e x1 ⟨rfl, hb1⟩
      have H1 : Below w8.heap.size w8 x1 := Below.trans (Below.refl w8.heap.size w8).drew (hb1.mono (Below.size (Below.refl w8.heap.size w8).drew))
      refine hK.out _ _ (⟨kept_cell H1 cX8 (by omega), kept_cell H1 hx08 lx08⟩) (fun hHeld => ?_)
      clear hK K
      (try simp only [Act.put, List.setIfInBounds_toArray, List.set_cons_zero, List.set_cons_succ, List.getElem_toArray, List.getElem_cons_succ, List.getElem_cons_zero])
      refine wpAnyH_take (i := 10) (v := ?_) rfl (by kernel_rfl) (by kernel_rfl) (by kernel_rfl) (fun _ _ _ h => h) (Or.inl ⟨by rfl, ?_⟩) (by assumption) ?_
      rotate_left
      · (intro w hSw; obtain ⟨hSw0, hSw1⟩ := hSw; (try dsimp only at hSw0 hSw1); go_simp; try (with_reducible rfl))
      (try simp only [Act.put, List.setIfInBounds_toArray, List.set_cons_zero, List.set_cons_succ, List.getElem_toArray, List.getElem_cons_succ, List.getElem_cons_zero])
      refine wpAnyH_take (i := 12) (v := ?_) rfl (by kernel_rfl) (by kernel_rfl) (by kernel_rfl) (fun _ _ _ h => h) (Or.inl ⟨by rfl, ?_⟩) (by assumption) ?_
      rotate_left
      · (intro w hSw; obtain ⟨hSw0, hSw1⟩ := hSw; (try dsimp only at hSw0 hSw1); go_simp; try (with_reducible rfl))
      (try simp only [Act.put, List.setIfInBounds_toArray, List.set_cons_zero, List.set_cons_succ, List.getElem_toArray, List.getElem_cons_succ, List.getElem_cons_zero])
      refine wpAnyH_take (i := 13) (v := ?_) rfl (by kernel_rfl) (by kernel_rfl) (by kernel_rfl) (fun _ _ _ h => h) (Or.inl ⟨by rfl, ?_⟩) (by assumption) ?_
      rotate_left
      · (intro w hSw; obtain ⟨hSw0, hSw1⟩ := hSw; (try dsimp only at hSw0 hSw1); go_simp; try (with_reducible rfl))
      (try simp only [Act.put, List.setIfInBounds_toArray, List.set_cons_zero, List.set_cons_succ, List.getElem_toArray, List.getElem_cons_succ, List.getElem_cons_zero])
      refine wpAnyH_ready (rs := [11]) (by kernel_rfl) (by simp) ?_
      refine AllReadyH.cons rfl (fun K hK => ?_) AllReadyH.nil
      go_simp
      have H2 : Below w8.heap.size w8 (x1.alloc (.cells #[] 2)) := Below.alloc H1 (Below.size H1) _
      have oe : OwnInts (x1.alloc (.cells #[] 2)) w8.heap.size (.slice (some ⟨x1.heap.size, 0, none⟩) 0 0) [] := own_empty x1 w8.heap.size (Below.size H1) rfl
      refine hK.out _ _ (⟨kept_cell H2 cX8 (by omega), kept_cell H2 hx08 lx08⟩) (fun hHeld => ?_)
      clear hK K
      (try simp only [Act.put, List.setIfInBounds_toArray, List.set_cons_zero, List.set_cons_succ, List.getElem_toArray, List.getElem_cons_succ, List.getElem_cons_zero])
      refine wpAnyH_take (i := 14) (v := ?_) rfl (by kernel_rfl) (by kernel_rfl) (by kernel_rfl) (fun _ _ _ h => h) (Or.inl ⟨by rfl, ?_⟩) (by assumption) ?_
      rotate_left
      · (intro w hSw; obtain ⟨hSw0, hSw1⟩ := hSw; (try dsimp only at hSw0 hSw1); go_simp; try (with_reducible rfl))
      (try simp only [Act.put, List.setIfInBounds_toArray, List.set_cons_zero, List.set_cons_succ, List.getElem_toArray, List.getElem_cons_succ, List.getElem_cons_zero])
      refine wpAnyH_done (by kernel_rfl) ?_ _
      (try simp only [Act.put, List.setIfInBounds_toArray, List.set_cons_zero, List.set_cons_succ, List.getElem_toArray, List.getElem_cons_succ, List.getElem_cons_zero])
      have Hf := H2
      go_wp2_with fail
      go_meet
      exact ⟨rfl, rfl, oe, Hf⟩
    refine AllReadyH.cons rfl (fun K hK => ?_) AllReadyH.nil
    go_simp
    have H1 : Below w8.heap.size w8 (w8.drew.alloc (.cells #[] 2)) := Below.alloc (Below.refl w8.heap.size w8).drew (Below.size (Below.refl w8.heap.size w8).drew) _
    have oe : OwnInts (w8.drew.alloc (.cells #[] 2)) w8.heap.size (.slice (some ⟨w8.heap.size, 0, none⟩) 0 0) [] := own_empty w8.drew w8.heap.size (Below.size (Below.refl w8.heap.size w8).drew) rfl
    refine hK.out _ _ (⟨kept_cell H1 cX8 (by omega), kept_cell H1 hx08 lx08⟩) (fun hHeld => ?_)
    clear hK K
    (try simp only [Act.put, List.setIfInBounds_toArray, List.set_cons_zero, List.set_cons_succ, List.getElem_toArray, List.getElem_cons_succ, List.getElem_cons_zero])
    refine wpAnyH_ready (rs := [5]) (by kernel_rfl) (by simp) ?_
    refine AllReadyH.cons rfl (fun K hK => ?_) AllReadyH.nil
    go_simp
    (go_at_call 60; refine (l01N_natz _ X 1 NX HNX.out _ HXX.out (hX.below (B8.trans (Below.mono H1 B8.size)))).mono ?_)
    rintro e x2 ⟨rfl, hb2⟩
    have H2 : Below w8.heap.size w8 x2 := Below.trans H1 (hb2.mono (Below.size H1))
    replace oe := oe.below hb2
    refine hK.out _ _ (⟨kept_cell H2 cX8 (by omega), kept_cell H2 hx08 lx08⟩) (fun hHeld => ?_)
    clear hK K
    (try simp only [Act.put, List.setIfInBounds_toArray, List.set_cons_zero, List.set_cons_succ, List.getElem_toArray, List.getElem_cons_succ, List.getElem_cons_zero])
    refine wpAnyH_take (i := 10) (v := ?_) rfl (by kernel_rfl) (by kernel_rfl) (by kernel_rfl) (fun _ _ _ h => h) (Or.inl ⟨by rfl, ?_⟩) (by assumption) ?_
    rotate_left
    · (intro w hSw; obtain ⟨hSw0, hSw1⟩ := hSw; (try dsimp only at hSw0 hSw1); go_simp; try (with_reducible rfl))
    (try simp only [Act.put, List.setIfInBounds_toArray, List.set_cons_zero, List.set_cons_succ, List.getElem_toArray, List.getElem_cons_succ, List.getElem_cons_zero])
    refine wpAnyH_take (i := 12) (v := ?_) rfl (by kernel_rfl) (by kernel_rfl) (by kernel_rfl) (fun _ _ _ h => h) (Or.inl ⟨by rfl, ?_⟩) (by assumption) ?_
    rotate_left
    · (intro w hSw; obtain ⟨hSw0, hSw1⟩ := hSw; (try dsimp only at hSw0 hSw1); go_simp; try (with_reducible rfl))
    (try simp only [Act.put, List.setIfInBounds_toArray, List.set_cons_zero, List.set_cons_succ, List.getElem_toArray, List.getElem_cons_succ, List.getElem_cons_zero])
    refine wpAnyH_take (i := 13) (v := ?_) rfl (by kernel_rfl) (by kernel_rfl) (by kernel_rfl) (fun _ _ _ h => h) (Or.inl ⟨by rfl, ?_⟩) (by assumption) ?_
    rotate_left
    · (intro w hSw; obtain ⟨hSw0, hSw1⟩ := hSw; (try dsimp only at hSw0 hSw1); go_simp; try (with_reducible rfl))
    (try simp only [Act.put, List.setIfInBounds_toArray, List.set_cons_zero, List.set_cons_succ, List.getElem_toArray, List.getElem_cons_succ, List.getElem_cons_zero])
    refine wpAnyH_take (i := 14) (v := ?_) rfl (by kernel_rfl) (by kernel_rfl) (by kernel_rfl) (fun _ _ _ h => h) (Or.inl ⟨by rfl, ?_⟩) (by assumption) ?_
    rotate_left
    · (intro w hSw; obtain ⟨hSw0, hSw1⟩ := hSw; (try dsimp only at hSw0 hSw1); go_simp; try (with_reducible rfl))
    (try simp only [Act.put, List.setIfInBounds_toArray, List.set_cons_zero, List.set_cons_succ, List.getElem_toArray, List.getElem_cons_succ, List.getElem_cons_zero])
    refine wpAnyH_done (by kernel_rfl) ?_ _
    (try simp only [Act.put, List.setIfInBounds_toArray, List.set_cons_zero, List.set_cons_succ, List.getElem_toArray, List.getElem_cons_succ, List.getElem_cons_zero])
    have Hf := H2
    go_wp2_with fail
    go_meet
    exact ⟨rfl, rfl, oe, Hf⟩
  case rest =>
  obtain ⟨rfl, rfl, oe, hb9⟩ := hcut
  replace hb9 : Below w8.heap.size w8 wc := hb9
  have s9 := hb9.size
  obtain ⟨r, hr⟩ : ∃ r, r = (NX : Int) / q := ⟨_, rfl⟩
  rw [← hr] at r1 r2 HJQ ⊢
  clear hr cX8 hx08 lx08 EWQ E9 HNX hNX2
  have hrz : ¬ r = 0 := by omega
  have hrb : (r == 0) = false := by simpa using hrz
  go_wp2_with fail
  go_loopw [14, 80] (fun v i wr => ∃ k : Nat, k ≤ C.length ∧ i = .int .i64 k ∧ OwnInts wr w8.heap.size v (jnW q r C D k) ∧ Below w8.heap.size w8 wr) (fun _ i _ => C.length - (intOf i).toNat)
  case atStart => exact ⟨0, Nat.zero_le _, rfl, oe, hb9⟩
  case round =>
    clear oe hb9
    obtain ⟨k, hk, rfl, own, B⟩ := hrel
    by_cases hlt : k < C.length
    · obtain ⟨b, o, rfl, hbl, hc⟩ := hC.at hlt
      have hck := kept_cell B (kept_cell B8 (hc k hlt) hbl) (lt_of_below B8 hbl)
      obtain ⟨u1, u2⟩ := HCb.out k hlt
      have HY : Hid (∀ i, gi C k % q = gi D i / r → jnI q r C D k i ++ [gi C k * r + gi D i % r] = jnI q r C D k (i + 1)) := Lib.hid fun i h => jnI_yes q r C D k i h
      have HN : Hid (∀ i, ¬ gi C k % q = gi D i / r → jnI q r C D k i = jnI q r C D k (i + 1)) := Lib.hid fun i h => jnI_no q r C D k i h
      have HL : Hid (∀ i, i ≤ D.length → (jnI q r C D k i).length ≤ 1049600) := Lib.hid fun i h => jnI_len q r C D k i lD h (by omega)
      have HA := Lib.hid (jnI_all q r C D k)
      rw [← jnI_0] at own
      obtain ⟨G, hG⟩ : ∃ G : Nat → List Int, G = jnI q r C D k := ⟨_, rfl⟩
      rw [← hG] at own HY HN HL HA
      obtain ⟨u, hu⟩ : ∃ u, u = gi C k := ⟨_, rfl⟩
      rw [← hu] at hck u1 u2 HY HN
      have HU := Lib.hid hu.symm
      have p1 : 0 ≤ u * r := Int.mul_nonneg u1 (by omega)
      have p2 : u * r ≤ 1024 * 1024 := Int.mul_le_mul (by omega) r2 (by omega) (by omega)
      have E1 : u.tmod q = u % q := Int.tmod_eq_emod_of_nonneg u1
      have m1 : 0 ≤ u % q := Int.emod_nonneg _ hqz
      have m2 : u % q < q := Int.emod_lt_of_pos _ (by omega)
      obtain ⟨wo, hwo⟩ : ∃ z, z = wr := ⟨_, rfl⟩
      subst hwo
      clear hc hG hu
      go_wp2_with fail
      go_loopw [14, 85] (fun v i wi => ∃ a : Nat, a ≤ D.length ∧ i = .int .i64 a ∧ OwnInts wi w8.heap.size v (G a) ∧ Below w8.heap.size w8 wi) (fun _ i _ => D.length - (intOf i).toNat)
      case atStart => exact ⟨0, Nat.zero_le _, rfl, own, B⟩
      case round =>
        clear own B hck
        obtain ⟨a, ha, rfl, own, B⟩ := hrel
        by_cases hla : a < D.length
        · obtain ⟨db, d0, rfl, hdl, hdc⟩ := hD.at hla
          have hdk := kept_cell B (kept_cell B8 (hdc a hla) hdl) (lt_of_below B8 hdl)
          have hldk := lt_of_below B (lt_of_below B8 hdl)
          obtain ⟨b2, o2, hbe, hbl2, hc2⟩ := hC.at hlt
          simp only [Option.some.injEq, Addr.mk.injEq, and_true] at hbe
          obtain ⟨rfl, rfl⟩ := hbe
          have hck := kept_cell B (kept_cell B8 (hc2 k hlt) hbl2) (lt_of_below B8 hbl2)
          have hlck := lt_of_below B (lt_of_below B8 hbl2)
          rw [HU.out] at hck
          obtain ⟨x1, x2⟩ := HDb.out a hla
          have hy := HY.out a
          have hnn := HN.out a
          have hl := HL.out a ha
          obtain ⟨x, hx⟩ : ∃ x, x = gi D a := ⟨_, rfl⟩
          rw [← hx] at hdk x1 x2 hy hnn
          have E2 : x.tdiv r = x / r := Int.tdiv_eq_ediv_of_nonneg x1
          have E3 : x.tmod r = x % r := Int.tmod_eq_emod_of_nonneg x1
          have d1 : 0 ≤ x / r := Int.ediv_nonneg x1 (by omega)
          have d2 : x / r ≤ x := Int.ediv_le_self _ x1
          have n1 : 0 ≤ x % r := Int.emod_nonneg _ hrz
          have n2 : x % r < r := Int.emod_lt_of_pos _ (by omega)
          have Bs := B.size
          obtain ⟨L, hL⟩ : ∃ L, L = G a := ⟨_, rfl⟩
          rw [← hL] at own hy hnn hl
          clear hdc hx hL hc2
          by_cases heq : u % q = x / r
          · have hb : (u % q == x / r) = true := by simpa using heq
            have HY2 := Lib.hid (hy heq)
            clear hy hnn heq
            go_wp2_with fail
            go_quiet (fail)
            obtain ⟨w9, hw9⟩ : ∃ z, z = wr.drewN nq := ⟨_, rfl⟩
            have hb9 : Below wr.heap.size wr w9 := by rw [hw9]; exact below_drewN (Below.refl _ _) nq
            rw [← hw9]
            have own2 := own.below hb9
            have B2 := B.trans (hb9.mono Bs)
            have Bs2 := B2.size
            have hck9 := kept_cell hb9 hck hlck
            have hdk9 := kept_cell hb9 hdk hldk
            clear own B E1 E2 hb hw9 hb9 hck hdk hlck hldk
            have EP1 : IntKind.i64.wrap (u * r) = u * r := IntWalk.i64_in _ ⟨by omega, by omega⟩
            have EP2 : IntKind.i64.wrap (u * r + x % r) = u * r + x % r := IntWalk.i64_in _ ⟨by omega, by omega⟩
            go_wp2_with fail
            go_region_law (refine step_append_j9 rfl (.tmp 101) (.tmp 115) rfl w8.heap.size _ L (by simp [Act.eval, Act.put]) (own2.alloc _) w9.heap.size (u * r + x % r) (by simp [Act.eval, Act.put]) (by simp [EP1, EP2]) (by omega) (by simp; omega) ?_; intro g5 cap5 w5 own5 hg5 hat5)
            all_goals
              have B5 : Below w8.heap.size w8 w5 := grown_below (B2.alloc Bs2 _).drew (by simp; omega) hg5 (own2.alloc _).drew (Nat.le_refl _)
              go_wp2
              go_roundw
              case rel => exact ⟨a + 1, by omega, by go_num, by rw [← HY2.out]; simpa using own5, B5⟩
              case measure => simp [intOf]; omega
          · have hb : (u % q == x / r) = false := by simpa using heq
            have HN2 := Lib.hid (hnn heq)
            clear hy hnn heq
            go_wp2_with fail
            go_quiet (fail)
            clear E1 E2 hb
            go_wp2_with fail
            go_roundw
            case rel => exact ⟨a + 1, by omega, by go_num, by rw [← HN2.out]; exact own.below (below_drewN (Below.refl wr.heap.size wr) nq), below_drewN B nq⟩
            case measure => simp [intOf]; omega
        · have haD : Hid (a = D.length) := Lib.hid (by omega)
          rw [haD.out, HA.out] at own
          go_wp2_with fail
          go_roundw
          case rel => exact ⟨k + 1, by omega, by go_num, own, B⟩
          case measure => simp [intOf]; omega
    · have hkC : Hid (k = C.length) := Lib.hid (by omega)
      rw [hkC.out] at own
      have rR9 := row_below9 rR8 B (by omega)
      have cY9 := kept_cell B cY8 lY8
      have oY9 := oY8.below B
      have s9' := B.size
      have hgb := oY8.base_le
      have B9 := B8.trans (B.mono B8.size)
      have rc : wr.cell? ⟨w.heap.size + 1 + 1, 0, none⟩ = some (.slice none 0 0) := by rw [cell_of_row wr (w.heap.size + 2) 0 _ _ _ rR9]; rfl
      have rf : wr.frozen? ⟨w.heap.size + 1 + 1, 0, none⟩ = false := by have h' := rR9; simp [World.frozen?, h']
      have rs : (wr.setCell ⟨w.heap.size + 1 + 1, 0, none⟩ (.slice (some ⟨g, 0, none⟩) n cg)).cell? ⟨w.heap.size + 1 + 1, 0, none⟩ = some (.slice (some ⟨g, 0, none⟩) n cg) := World.cell?_setCell_same' _ _ _ (by rw [rc]; rfl)
      have B10 : Below w.heap.size w (wr.setCell ⟨w.heap.size + 1 + 1, 0, none⟩ (.slice (some ⟨g, 0, none⟩) n cg)) := B9.setCell (show w.heap.size ≤ w.heap.size + 1 + 1 by omega) _
      go_wp2_with fail
      refine bodyPost_ret (by rw [results_sp9 rfl]; go_simp; try rfl) rfl ?_
      refine ⟨w8.heap.size, .slice (some ⟨g, 0, none⟩) n cg, _, by rw [HE.out], by omega, fun z hz => by simp [Value.ownBlock] at hz; omega, ?_, ?_, by simp; omega, B10⟩
      · rw [HS0.out]; exact (own_stored_oj9 oY9 (.inr (by simp [Value.ownBlock]; omega)) 0 _).rebase (by omega)
      · rw [HC0.out, HJQ.out]; exact own.setBelow (show w.heap.size + 1 + 1 < w8.heap.size by omega) _

theorem spec_JoinOverPlace (as0 : Addr) (S : List Int) (cap : Nat) (hn : S.length ≤ 4294967296) (ac : Option Addr) (C : List Int) (capc : Nat) (hnc : C.length ≤ 4294967296) (ax : Addr) (X : List Int) (capx : Nat) (hnx : X.length ≤ 4294967296) (hcx : X.length ≤ capx) (ad : Option Addr) (D : List Int) (capd : Nat) (hnd : D.length ≤ 4294967296) (w : World) (hS : Ints w (some as0) S) (hC : Ints w ac C) (hX : Ints w (some ax) X) (hD : Ints w ad D) :
    Calls Try.prog 28 #[.agg #[.slice (some as0) S.length cap], .slice ac C.length capc, .agg #[.slice (some ax) X.length capx], .slice ad D.length capd] w fun e w' => ∃ m vs v, e = .returned (.tuple #[.agg #[vs], v, .int .i64 (eJn S C X D)]) ∧ w.heap.size ≤ m ∧ RowIn vs w.heap.size m ∧ OwnInts w' w.heap.size vs (vJnS S C X D) ∧ OwnInts w' m v (vJnC S C X D) ∧ m ≤ w'.heap.size ∧ Below w.heap.size w w' := by
  cases h1 : isSp S with
  | false => exact spec_JoinOverPlace_sF as0 S cap hn ac C capc hnc ax X capx hnx hcx ad D capd hnd w hS hC hX hD h1
  | true =>
  cases h2 : isSp X with
  | false => exact spec_JoinOverPlace_xF as0 S cap hn ac C capc hnc ax X capx hnx hcx ad D capd hnd w hS hC hX hD h1 h2
  | true =>
  cases h3 : codeB S C with
  | false => exact spec_JoinOverPlace_cF as0 S cap hn ac C capc hnc ax X capx hnx hcx ad D capd hnd w hS hC hX hD h1 h2 h3
  | true =>
  cases h4 : codeB X D with
  | false => exact spec_JoinOverPlace_dF as0 S cap hn ac C capc hnc ax X capx hnx hcx ad D capd hnd w hS hC hX hD h1 h2 h3 h4
  | true =>
  cases hl : jnB S X with
  | false => exact spec_JoinOverPlace_e5 as0 S cap hn ac C capc hnc ax X capx hnx hcx ad D capd hnd w hS hC hX hD h1 h2 h3 h4 hl
  | true =>
  by_cases hc : capx = 1
  · subst hc
    cases hs : isSp (jnS S X) with
    | true => exact spec_JoinOverPlace_okb as0 S cap hn ac C capc hnc ax X hnx hcx ad D capd hnd w hS hC hX hD h1 h2 h3 h4 hl hs
    | false => exact spec_JoinOverPlace_e3b as0 S cap hn ac C capc hnc ax X hnx hcx ad D capd hnd w hS hC hX hD h1 h2 h3 h4 hl hs
  · cases hs : isSp (jnS S X) with
    | true => exact spec_JoinOverPlace_oka as0 S cap hn ac C capc hnc ax X capx hnx hcx ad D capd hnd w hS hC hX hD h1 h2 h3 h4 hl hs hc
    | false => exact spec_JoinOverPlace_e3a as0 S cap hn ac C capc hnc ax X capx hnx hcx ad D capd hnd w hS hC hX hD h1 h2 h3 h4 hl hs hc

end Go.Proofs.Ytfgpenldeckoaaa
