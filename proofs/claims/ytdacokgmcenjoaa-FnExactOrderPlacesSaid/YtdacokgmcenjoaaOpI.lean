/-
  The contract of the program's OrderPlaces. By an AI agent.
-/
import Derived.Test.YtdacokgmcenjoaaOrdI
import Derived.Test.YtdacokgmcenjoaaMathC
import Derived.Test.YtdacokgmcenjoaaChg
import Derived.Test.YtdacokgmcenjoaaCode2
import Derived.Test.YtdacokgmcenjoaaMark
import Derived.Laws.ResultCell
import Derived.Shelf.Abstract
namespace Go.Proofs.Ytdacokgmcenjoaa
open Go.RowKit Go.Shelf Cv
set_option linter.unusedVariables false
set_option linter.unusedSimpArgs false
set_option maxRecDepth 100000

theorem results_cell_tmp2o {fn : Func} {p u1 u2 : Tmp} {ty : TypeId} (h : fn.results = #[.cell p ty, .tmp u1, .tmp u2]) (tmps : Array Value) (P : Program) (w : World) :
    (results fn tmps).run P w =
      ((asAddr (tmps.getD p undef)).run P w).andThen fun a w₁ => ((loadVar ty a).run P w₁).andThen fun v w₂ => .ok (.tuple #[v, tmps.getD u1 undef, tmps.getD u2 undef]) w₂ := by
  simp only [results, h]
  simp [Sem.run_bind, Result.andThen]

theorem box2r (w : World) (a c : Value) (t : TypeId) : ∃ W, W = (w.alloc (.cells #[a] t)).alloc (.cells #[c] t) ∧ W.cell? ⟨w.heap.size, 0, none⟩ = some a ∧ W.heap[w.heap.size + 1]? = some (.cells #[c] t (0, 0)) ∧ W.heap.size = w.heap.size + 2 ∧ Below w.heap.size w W := by
  have s1 : (w.alloc (.cells #[a] t)).heap.size = w.heap.size + 1 := World.size_alloc _ _
  have b1 : Below (w.alloc (.cells #[a] t)).heap.size (w.alloc (.cells #[a] t)) ((w.alloc (.cells #[a] t)).alloc (.cells #[c] t)) := (Below.refl _ _).alloc (Nat.le_refl _) _
  have x1 := kept_cell b1 (cell_new w a t) (lt_alloc _ _)
  have x3 := heap_alloc_last (w.alloc (.cells #[a] t)) (.cells #[c] t)
  rw [s1] at x3
  exact ⟨_, rfl, x1, x3, by rw [World.size_alloc, s1], ((Below.refl _ _).alloc (Nat.le_refl _) _).trans (b1.mono (by omega))⟩

theorem exec_ld8 {a : Act} {w : World} {g : Nat} {p : List Int} (hl : p.length ≤ 8) (hr : RowO w g p) (o : Oper) (x : Operand) (ho : o.op = .load 69 x) (hx : a.eval x = .pointer (some ⟨g, 0, none⟩)) : (execOp a.eval o).run Try.prog w = .ok (.value (.agg (ordA p))) w := by
  unfold execOp
  simp only [ho, hx, Instr.loadAt, Instr.sureAddr, Sem.run_bind, Sem.run_pure, Result.andThen_ok, ldVar8 hl (fun j hj => hr.cell hl j hj)]
theorem placed_chg (S p : List Int) (hS : Sp S) (ho : isOrd p S.length = true) (w : World) : ChgN 45 #[.agg (ordA p)] #[] S (plcD p S) (plcD p) w := by
  intro W g o T hW hT hTI
  have hl : p.length = S.length := by have := (ord_at ho).1; omega
  have h8 := hS.hi
  have h := placed_any p S.length ho (by omega) (some ⟨g, o, none⟩) T S.length S.length hT.1.symm (by rw [hT.1]; exact hl) W hTI
  show Calls Try.prog 45 #[.agg (ordA p), .slice (some ⟨g, o, none⟩) S.length S.length] W _
  refine h.mono ?_
  rintro e w2 ⟨g2, rfl, own, hb⟩
  refine ⟨some ⟨g2, 0, none⟩, T.length, by rw [plcD_len, hT.1], own_ints own, ⟨by rw [plcD_len, plcD_len, hT.1], fun i hi => ?_⟩, hb⟩
  rw [plcD_len] at hi
  exact plcD_lt (by rw [hT.1]; exact hl) hl ho (fun j hj => hT.2 j (by rw [← hT.1]; exact hj)) i (by rw [plcD_len, hT.1]; exact hi)

set_option maxHeartbeats 4000000 in
theorem impl_OrderPlaces_e1 (as0 : Addr) (S : List Int) (cap : Nat) (hn : S.length ≤ 4294967296) (ac : Addr) (C : List Int) (capc : Nat) (hnc : C.length ≤ 4294967296) (ap : Addr) (p : List Int) (capp : Nat) (hnp : p.length ≤ 4294967296) (w : World) (hS : Ints w (some as0) S) (hC : Ints w (some ac) C) (hp : Ints w (some ap) p) (E : Int) (hE : eCode S C = E) (hE0 : E ≠ 0) :
    Calls Try.prog 18 #[.agg #[.slice (some as0) S.length cap], .slice (some ac) C.length capc, .slice (some ap) p.length capp] w fun e w' => ∃ m vs v, e = .returned (.tuple #[.agg #[vs], v, .int .i64 (eOrd S C p)]) ∧ w.heap.size ≤ m ∧ RowIn vs w.heap.size m ∧ OwnInts w' w.heap.size vs (vOrdS S C p) ∧ OwnInts w' m v (vOrdC S C p) ∧ m ≤ w'.heap.size ∧ Below w.heap.size w w' := by
  obtain ⟨W0, hW0, cS, rR, z0, B0⟩ := box2r w (.slice (some as0) S.length cap) (.slice none 0 0) 28
  have HW0 := Lib.hid hW0
  have z0a : w.heap.size + 2 ≤ W0.heap.size := by omega
  clear hW0 z0
  have HEC := Lib.hid hE
  have hEb : (E != 0) = true := by simpa using hE0
  have HE : Hid (eOrd S C p = E) := Lib.hid (by unfold eOrd; rw [if_neg (by rw [hE]; exact hE0), hE])
  have HS0 : Hid (vOrdS S C p = []) := Lib.hid (by unfold vOrdS; rw [if_neg (by rw [HE.out]; exact hE0)])
  have HC0 : Hid (vOrdC S C p = []) := Lib.hid (by unfold vOrdC; rw [if_neg (by rw [HE.out]; exact hE0)])
  clear hE hE0
  go_enter Try.func18, Try.ntmps18
  go_wp2_with fail
  rw [← HW0.out]
  have h1 := codeError_any (some as0) S cap hn (some ac) C capc hnc W0 (hS.below B0) (hC.below B0)
  rw [HEC.out] at h1
  refine h1.mono ?_
  rintro e w1 ⟨rfl, hb1⟩
  have s1 : w.heap.size + 2 ≤ w1.heap.size := by have := hb1.size; omega
  have cS1 := kept_cell hb1 cS (by omega)
  have rR1 := row_block rR hb1 (by omega)
  have B1 := B0.trans (hb1.mono (by omega))
  clear h1 hb1 cS rR B0
  have rc : w1.cell? ⟨w.heap.size + 1, 0, none⟩ = some (.slice none 0 0) := by rw [cell_of_row w1 (w.heap.size + 1) 0 _ _ _ rR1]; rfl
  have rf : w1.frozen? ⟨w.heap.size + 1, 0, none⟩ = false := by have h' := rR1; simp [World.frozen?, h']
  have rs : (w1.setCell ⟨w.heap.size + 1, 0, none⟩ (.slice none 0 0)).cell? ⟨w.heap.size + 1, 0, none⟩ = some (.slice none 0 0) := World.cell?_setCell_same' _ _ _ (by rw [rc]; rfl)
  have B9 : Below w.heap.size w (w1.setCell ⟨w.heap.size + 1, 0, none⟩ (.slice none 0 0)) := B1.setCell (show w.heap.size ≤ w.heap.size + 1 by omega) _
  go_wp2_with fail
  refine bodyPost_ret (by rw [results_cell_tmp2o rfl]; go_simp; try rfl) rfl ?_
  exact ⟨w.heap.size, .slice none 0 0, _, by rw [HE.out], Nat.le_refl _, fun k hk => (by cases hk), by rw [HS0.out]; exact own_nil _ _, by rw [HC0.out]; exact own_nil _ _, B9.size, B9⟩

set_option maxHeartbeats 4000000 in
theorem impl_OrderPlaces_e2 (as0 : Addr) (S : List Int) (cap : Nat) (hn : S.length ≤ 4294967296) (ac : Addr) (C : List Int) (capc : Nat) (hnc : C.length ≤ 4294967296) (ap : Addr) (p : List Int) (capp : Nat) (hnp : p.length ≤ 4294967296) (w : World) (hS : Ints w (some as0) S) (hC : Ints w (some ac) C) (hp : Ints w (some ap) p) (hE : eCode S C = 0) (ho : isOrd p S.length = false) :
    Calls Try.prog 18 #[.agg #[.slice (some as0) S.length cap], .slice (some ac) C.length capc, .slice (some ap) p.length capp] w fun e w' => ∃ m vs v, e = .returned (.tuple #[.agg #[vs], v, .int .i64 (eOrd S C p)]) ∧ w.heap.size ≤ m ∧ RowIn vs w.heap.size m ∧ OwnInts w' w.heap.size vs (vOrdS S C p) ∧ OwnInts w' m v (vOrdC S C p) ∧ m ≤ w'.heap.size ∧ Below w.heap.size w w' := by
  obtain ⟨W0, hW0, cS, rR, z0, B0⟩ := box2r w (.slice (some as0) S.length cap) (.slice none 0 0) 28
  have HW0 := Lib.hid hW0
  have z0a : w.heap.size + 2 ≤ W0.heap.size := by omega
  clear hW0 z0
  have HEC := Lib.hid hE
  have hSp := (eCode_zero hE).1
  have hS1 := hSp.lo
  have hS8 := hSp.hi
  have HO := Lib.hid ho
  have HE : Hid (eOrd S C p = 2) := Lib.hid (by unfold eOrd; rw [if_pos hE, if_neg (by rw [ho]; decide)])
  have HS0 : Hid (vOrdS S C p = []) := Lib.hid (by unfold vOrdS; rw [if_neg (by rw [HE.out]; decide)])
  have HC0 : Hid (vOrdC S C p = []) := Lib.hid (by unfold vOrdC; rw [if_neg (by rw [HE.out]; decide)])
  clear hE ho hSp
  go_enter Try.func18, Try.ntmps18
  go_wp2_with fail
  rw [← HW0.out]
  have h1 := codeError_any (some as0) S cap hn (some ac) C capc hnc W0 (hS.below B0) (hC.below B0)
  rw [HEC.out] at h1
  refine h1.mono ?_
  rintro e w1 ⟨rfl, hb1⟩
  have s1 : w.heap.size + 2 ≤ w1.heap.size := by have := hb1.size; omega
  have cS1 := kept_cell hb1 cS (by omega)
  have rR1 := row_block rR hb1 (by omega)
  have B1 := B0.trans (hb1.mono (by omega))
  clear h1 hb1 cS rR B0
  go_wp2_with fail
  have h2 := isOrder_any (some ap) p capp hnp S.length (by omega) (by omega) w1 (hp.below B1)
  rw [HO.out] at h2
  refine h2.mono ?_
  rintro e w2 ⟨rfl, hb2⟩
  have rR2 := row_block rR1 hb2 (by omega)
  have B2 := B1.trans (hb2.mono B1.size)
  clear h2 hb2 rR1 cS1 B1
  have rc : w2.cell? ⟨w.heap.size + 1, 0, none⟩ = some (.slice none 0 0) := by rw [cell_of_row w2 (w.heap.size + 1) 0 _ _ _ rR2]; rfl
  have rf : w2.frozen? ⟨w.heap.size + 1, 0, none⟩ = false := by have h' := rR2; simp [World.frozen?, h']
  have rs : (w2.setCell ⟨w.heap.size + 1, 0, none⟩ (.slice none 0 0)).cell? ⟨w.heap.size + 1, 0, none⟩ = some (.slice none 0 0) := World.cell?_setCell_same' _ _ _ (by rw [rc]; rfl)
  have B9 : Below w.heap.size w (w2.setCell ⟨w.heap.size + 1, 0, none⟩ (.slice none 0 0)) := B2.setCell (show w.heap.size ≤ w.heap.size + 1 by omega) _
  go_wp2_with fail
  refine bodyPost_ret (by rw [results_cell_tmp2o rfl]; go_simp; try rfl) rfl ?_
  exact ⟨w.heap.size, .slice none 0 0, _, by rw [HE.out], Nat.le_refl _, fun k hk => (by cases hk), by rw [HS0.out]; exact own_nil _ _, by rw [HC0.out]; exact own_nil _ _, B9.size, B9⟩

set_option maxHeartbeats 4000000 in
theorem impl_OrderPlaces_ok (as0 : Addr) (S : List Int) (cap : Nat) (hn : S.length ≤ 4294967296) (ac : Addr) (C : List Int) (capc : Nat) (hnc : C.length ≤ 4294967296) (ap : Addr) (p : List Int) (capp : Nat) (hnp : p.length ≤ 4294967296) (w : World) (hS : Ints w (some as0) S) (hC : Ints w (some ac) C) (hp : Ints w (some ap) p) (hE : eCode S C = 0) (ho : isOrd p S.length = true) :
    Calls Try.prog 18 #[.agg #[.slice (some as0) S.length cap], .slice (some ac) C.length capc, .slice (some ap) p.length capp] w fun e w' => ∃ m vs v, e = .returned (.tuple #[.agg #[vs], v, .int .i64 (eOrd S C p)]) ∧ w.heap.size ≤ m ∧ RowIn vs w.heap.size m ∧ OwnInts w' w.heap.size vs (vOrdS S C p) ∧ OwnInts w' m v (vOrdC S C p) ∧ m ≤ w'.heap.size ∧ Below w.heap.size w w' := by
  obtain ⟨W0, hW0, cS, rR, z0, B0⟩ := box2r w (.slice (some as0) S.length cap) (.slice none 0 0) 28
  have HW0 := Lib.hid hW0
  have z0a : w.heap.size + 2 ≤ W0.heap.size := by omega
  clear hW0 z0
  have HEC := Lib.hid hE
  obtain ⟨hSp, hc1, hc2⟩ := eCode_zero hE
  have hS1 := hSp.lo
  have hS8 := hSp.hi
  have HSp := Lib.hid hSp
  have hlenC := code_len hSp hc1 hc2
  have NW := nW_bd hSp
  have HC9 : Hid (∀ i, i < C.length → 0 ≤ gi C i ∧ gi C i ≤ 9223372036854775807) := Lib.hid fun i hi => by have := hc1 i hi; omega
  have HO := Lib.hid ho
  have hpl : p.length = S.length := by have := (ord_at ho).1; omega
  have HPL := Lib.hid hpl
  have HE : Hid (eOrd S C p = 0) := Lib.hid (by unfold eOrd; rw [if_pos hE, if_pos ho])
  have HVS : Hid (vOrdS S C p = plcD p S) := Lib.hid (by unfold vOrdS; rw [if_pos HE.out])
  have HXb : Hid (∀ i, i < (plcD p S).length → 2 ≤ gi (plcD p S) i ∧ gi (plcD p S) i ≤ 4) := Lib.hid (plcD_bd hpl ho (fun x => 2 ≤ x ∧ x ≤ 4) hSp.bd)
  have HXl : Hid ((plcD p S).length = S.length) := Lib.hid (plcD_len _ _)
  have HVC : Hid (vOrdC S C p = cmpT (sorted (C.map fun c => wordTo (plcD p S) (plcD p (digs S c)) S.length)) C.length) := Lib.hid (by
    unfold vOrdC
    rw [if_pos HE.out]
    have h := cmp_put (C.map fun c => ordW S p c) (fun i => ordW S p (gi C i)) (fun i hi => by rw [List.length_map] at hi; simp [gi, hi])
    rw [List.length_map] at h
    have e : ∀ c, ordW S p c = wordTo (plcD p S) (plcD p (digs S c)) S.length := fun c => by unfold ordW; rw [plcD_len]
    simpa only [e] using h.symm)
  have HCH := Lib.hid (placed_chg S p hSp ho)
  clear hE hSp hc1 hc2 ho hpl
  go_enter Try.func18, Try.ntmps18
  go_wp2_with fail
  rw [← HW0.out]
  have h1 := codeError_any (some as0) S cap hn (some ac) C capc hnc W0 (hS.below B0) (hC.below B0)
  rw [HEC.out] at h1
  refine h1.mono ?_
  rintro e w1 ⟨rfl, hb1⟩
  have s1 : w.heap.size + 2 ≤ w1.heap.size := by have := hb1.size; omega
  have cS1 := kept_cell hb1 cS (by omega)
  have rR1 := row_block rR hb1 (by omega)
  have B1 := B0.trans (hb1.mono (by omega))
  clear h1 hb1 cS rR B0
  go_wp2_with fail
  have h2 := isOrder_any (some ap) p capp hnp S.length (by omega) (by omega) w1 (hp.below B1)
  rw [HO.out] at h2
  refine h2.mono ?_
  rintro e w2 ⟨rfl, hb2⟩
  have cS2 := kept_cell hb2 cS1 (by omega)
  have rR2 := row_block rR1 hb2 (by omega)
  have B2 := B1.trans (hb2.mono B1.size)
  have s2 : w.heap.size + 2 ≤ w2.heap.size := by have := hb2.size; omega
  clear h2 hb2 rR1 cS1 B1 s1
  go_wp2_with fail
  refine (orderOf_some ap p p.length capp rfl (by rw [HPL.out]; omega) w2 (hp.below B2)).mono ?_
  rintro e w3 ⟨rfl, hb3⟩
  have cS3 := kept_cell hb3 cS2 (by omega)
  have rR3 := row_block rR2 hb3 (by omega)
  have B3 := B2.trans (hb3.mono B2.size)
  have s3 : w.heap.size + 2 ≤ w3.heap.size := by have := hb3.size; omega
  clear hb3 rR2 cS2 B2 s2
  have hl8 : p.length ≤ 8 := by rw [HPL.out]; omega
  go_wp2_with (first | (refine wpList_st8 rfl _ _ rfl (b := w3.heap.size) (heap_alloc_last w3 (.cells #[.int .i64 0, .int .i64 0, .int .i64 0, .int .i64 0, .int .i64 0, .int .i64 0, .int .i64 0, .int .i64 0] 69)) rfl p hl8 rfl rfl ?_; have hO4 := rowo_set p (heap_alloc_last w3 (.cells #[.int .i64 0, .int .i64 0, .int .i64 0, .int .i64 0, .int .i64 0, .int .i64 0, .int .i64 0, .int .i64 0] 69)); have hb34 : Below w3.heap.size w3 ((w3.alloc (.cells #[.int .i64 0, .int .i64 0, .int .i64 0, .int .i64 0, .int .i64 0, .int .i64 0, .int .i64 0, .int .i64 0] 69)).setRow w3.heap.size (ordA p)) := ((Below.refl _ _).alloc (Nat.le_refl _) _).grown (grown_setRow8 _) (by simp) (by intro z hz; cases hz; exact Nat.le_refl _); obtain ⟨w4, hw4⟩ : ∃ w4, w4 = (w3.alloc (.cells #[.int .i64 0, .int .i64 0, .int .i64 0, .int .i64 0, .int .i64 0, .int .i64 0, .int .i64 0, .int .i64 0] 69)).setRow w3.heap.size (ordA p) := ⟨_, rfl⟩; have s4 : w3.heap.size < w4.heap.size := (by rw [hw4]; simp); rw [← hw4] at hO4 hb34 ⊢; clear hw4; have cS4 := kept_cell hb34 cS3 (by omega); have hc4 := fun (j : Nat) (hj : j < 8) => hO4.cell hl8 j hj) | refine wpList_ld8 rfl _ rfl hl8 hc4 rfl ?_)
  have rR4 := row_block rR3 hb34 (by omega)
  have B4 := B3.trans (hb34.mono B3.size)
  refine (placed_any p S.length HO.out (by omega) (some as0) S S.length cap rfl HPL.out w4 (hS.below B4)).mono ?_
  rintro e w5 ⟨g, rfl, own, hb5⟩
  have cS5 := kept_cell hb5 cS4 (by omega)
  have rR5 := row_block rR4 hb5 (by omega)
  have hO5 := hO4.below hb5 s4
  have B5 := B4.trans (hb5.mono B4.size)
  have s5 : w3.heap.size < w5.heap.size := by have := hb5.size; omega
  have ho := own.base_le
  clear hb5 hb34 rR4 rR3 cS4 cS3 hO4 hc4 B4 B3
  obtain ⟨W6, hW6⟩ : ∃ W6, W6 = w5.alloc (.cells #[.slice (some ⟨g, 0, none⟩) S.length S.length] 28) := ⟨_, rfl⟩
  have hb56 : Below w5.heap.size w5 W6 := by rw [hW6]; exact (Below.refl _ _).alloc (Nat.le_refl _) _
  have x6 : W6.cell? ⟨w5.heap.size, 0, none⟩ = some (.slice (some ⟨g, 0, none⟩) S.length S.length) := by rw [hW6]; exact cell_new _ _ _
  have s6 : w5.heap.size < W6.heap.size := by rw [hW6]; exact lt_alloc _ _
  have cS6 := kept_cell hb56 cS5 (by omega)
  have rR6 := row_block rR5 hb56 (by omega)
  have hO6 := hO5.below hb56 s5
  have own6 := own.below hb56
  have B6 := B5.trans (hb56.mono B5.size)
  have hw4 : w.heap.size + 2 ≤ w4.heap.size := by omega
  go_wp2_with fail
  rw [← hW6]
  have HW6 := Lib.hid hW6
  clear hb56 cS5 rR5 hO5 own B5 hW6
  refine wp_region_held_drew (S := fun w' => w'.cell? ⟨w.heap.size, 0, none⟩ = some (.slice (some as0) S.length cap) ∧ w'.cell? ⟨w5.heap.size, 0, none⟩ = some (.slice (some ⟨g, 0, none⟩) S.length S.length) ∧ RowO w' w3.heap.size p) (by kernel_rfl) ⟨cS6, x6, hO6⟩ (fun hHeld => ?_)
  refine wpAnyH_take (i := 0) (v := ?_) rfl (by kernel_rfl) (by kernel_rfl) (by kernel_rfl) (fun _ _ _ h => h) (Or.inl ⟨by rfl, ?_⟩) (by assumption) ?_
  rotate_left
  · (intro w hSw; obtain ⟨hSa, hSb, hSc⟩ := hSw; (try dsimp only at hSa hSb); go_simp; try (with_reducible rfl))
  (try simp only [Act.put, List.setIfInBounds_toArray, List.set_cons_zero, List.set_cons_succ])
  refine wpAnyH_take (i := 1) (v := ?_) rfl (by kernel_rfl) (by kernel_rfl) (by kernel_rfl) (fun _ _ _ h => h) (Or.inl ⟨by rfl, ?_⟩) (by assumption) ?_
  rotate_left
  · (intro w hSw; obtain ⟨hSa, hSb, hSc⟩ := hSw; (try dsimp only at hSa hSb); go_simp; try (with_reducible rfl))
  (try simp only [Act.put, List.setIfInBounds_toArray, List.set_cons_zero, List.set_cons_succ])
  refine wpAnyH_take (i := 2) (v := ?_) rfl (by kernel_rfl) (by kernel_rfl) (by kernel_rfl) (fun _ _ _ h => h) (Or.inl ⟨by rfl, ?_⟩) (by assumption) ?_
  rotate_left
  · (intro w hSw; obtain ⟨hSa, hSb, hSc⟩ := hSw; (try dsimp only at hSa hSb); go_simp; try (with_reducible rfl))
  (try simp only [Act.put, List.setIfInBounds_toArray, List.set_cons_zero, List.set_cons_succ])
  refine wpAnyH_take (i := 3) (v := ?_) rfl (by kernel_rfl) (by kernel_rfl) (by kernel_rfl) (fun _ _ _ h => h) (Or.inl ⟨by rfl, ?_⟩) (by assumption) ?_
  rotate_left
  · (intro w hSw; obtain ⟨hSa, hSb, hSc⟩ := hSw; (try dsimp only at hSa hSb); go_simp; try (with_reducible rfl))
  (try simp only [Act.put, List.setIfInBounds_toArray, List.set_cons_zero, List.set_cons_succ])
  refine wpAnyH_take (i := 4) (v := .agg (ordA p)) rfl (by kernel_rfl) (by kernel_rfl) (by kernel_rfl) (fun _ _ _ h => h) (Or.inl ⟨by rfl, ?_⟩) (by assumption) ?_
  · intro w hSw
    exact exec_ld8 hl8 hSw.2.2 _ (.tmp 10) (by kernel_rfl) (by kernel_rfl)
  (try simp only [Act.put, List.setIfInBounds_toArray, List.set_cons_zero, List.set_cons_succ])
  refine wpAnyH_take (i := 5) (v := ?_) rfl (by kernel_rfl) (by kernel_rfl) (by kernel_rfl) (fun _ _ _ h => h) (Or.inl ⟨by rfl, ?_⟩) (by assumption) ?_
  rotate_left
  · (intro w hSw; obtain ⟨hSa, hSb, hSc⟩ := hSw; (try dsimp only at hSa hSb); go_simp; try (with_reducible rfl))
  (try simp only [Act.put, List.setIfInBounds_toArray, List.set_cons_zero, List.set_cons_succ])
  refine wpAnyH_ready (rs := [6]) (by kernel_rfl) (by simp) ?_
  refine AllReadyH.cons rfl (fun K hK => ?_) AllReadyH.nil
  go_simp
  have hch := changedCode_any (some as0) S cap hS1 hS8 HSp.out.bd (some ac) C capc (by omega) HC9.out (some ⟨g, 0, none⟩) (plcD p S) S.length (by rw [HXl.out]; exact hS8) HXb.out 45 (enters_of Try.func45 (by kernel_rfl) rfl) #[.agg (ordA p)] #[] (plcD p) W6.drew (hS.below B6.drew) (hC.below B6.drew) (own_ints own6.drew) (HCH.out _)
  rw [plcD_len] at hch
  refine hch.mono ?_
  rintro e w7 ⟨v, rfl, own7, hb7'⟩
  have hb7 : Below W6.heap.size W6 w7 := (Below.refl _ W6).drew.trans hb7'
  have own7' : OwnInts w7 W6.heap.size v (vOrdC S C p) := by rw [HVC.out]; exact own7
  have cS7 := kept_cell hb7 cS6 (by omega)
  have x7 := kept_cell hb7 x6 s6
  have hO7 := hO6.below hb7 (by omega)
  have rR7 := row_block rR6 hb7 (by omega)
  have ownS7 := own6.below hb7
  have B7 := B6.trans (hb7.mono B6.size)
  have s7 := hb7.size
  obtain ⟨aV, kV, hvV, _⟩ := own7'.ints
  subst hvV
  have HVN := Lib.hid (vOrdC_len S C p)
  clear hch own7 hb7 hb7' cS6 x6 hO6 rR6 own6 B6
  refine hK.out _ _ (⟨cS7, x7, hO7⟩) (fun hHeld => ?_)
  clear hK K
  (try simp only [Act.put, List.setIfInBounds_toArray, List.set_cons_zero, List.set_cons_succ])
  refine wpAnyH_ready (rs := [7]) (by kernel_rfl) (by simp) ?_
  refine AllReadyH.cons rfl (fun K hK => ?_) AllReadyH.nil
  have rc : w7.cell? ⟨w.heap.size + 1, 0, none⟩ = some (.slice none 0 0) := by rw [cell_of_row w7 (w.heap.size + 1) 0 _ _ _ rR7]; rfl
  have rf : w7.frozen? ⟨w.heap.size + 1, 0, none⟩ = false := by have h' := rR7; simp [World.frozen?, h']
  go_simp
  obtain ⟨w8, hw8⟩ : ∃ w8, w8 = w7.setCell ⟨w.heap.size + 1, 0, none⟩ (.slice (some ⟨g, 0, none⟩) S.length S.length) := ⟨_, rfl⟩
  have rs : w8.cell? ⟨w.heap.size + 1, 0, none⟩ = some (.slice (some ⟨g, 0, none⟩) S.length S.length) := by rw [hw8]; exact World.cell?_setCell_same' _ _ _ (by rw [rc]; rfl)
  have cS8 : w8.cell? ⟨w.heap.size, 0, none⟩ = some (.slice (some as0) S.length cap) := by rw [hw8]; exact cell_set_other cS7 (by simp)
  have x8 : w8.cell? ⟨w5.heap.size, 0, none⟩ = some (.slice (some ⟨g, 0, none⟩) S.length S.length) := by rw [hw8]; exact cell_set_other x7 (by simp; omega)
  have hO8 : RowO w8 w3.heap.size p := by rw [hw8]; exact rowo_other hO7 (by simp; omega)
  have own8 := own7'.setBelow (a := ⟨w.heap.size + 1, 0, none⟩) (by show w.heap.size + 1 < W6.heap.size; omega) (.slice (some ⟨g, 0, none⟩) S.length S.length)
  have ownS8 := ownS7.setBelow (a := ⟨w.heap.size + 1, 0, none⟩) (by show w.heap.size + 1 < w4.heap.size; omega) (.slice (some ⟨g, 0, none⟩) S.length S.length)
  have B8 : Below w.heap.size w (w7.setCell ⟨w.heap.size + 1, 0, none⟩ (.slice (some ⟨g, 0, none⟩) S.length S.length)) := B7.setCell (by show w.heap.size ≤ w.heap.size + 1; omega) _
  have s8 : W6.heap.size ≤ w8.heap.size := by rw [hw8]; simpa using s7
  rw [← hw8] at own8 ownS8 B8
  rw [← hw8]
  clear hw8 rc rf
  refine hK.out _ _ (⟨cS8, x8, hO8⟩) (fun hHeld => ?_)
  clear hK K
  (try simp only [Act.put, List.setIfInBounds_toArray, List.set_cons_zero, List.set_cons_succ])
  refine wpAnyH_take (i := 8) (v := ?_) rfl (by kernel_rfl) (by kernel_rfl) (by kernel_rfl) (fun _ _ _ h => h) (Or.inl ⟨by rfl, ?_⟩) (by assumption) ?_
  rotate_left
  · (intro w hSw; obtain ⟨hSa, hSb, hSc⟩ := hSw; (try dsimp only at hSa hSb); go_simp; try (with_reducible rfl))
  (try simp only [Act.put, List.setIfInBounds_toArray, List.set_cons_zero, List.set_cons_succ])
  refine wpAnyH_take (i := 9) (v := ?_) rfl (by kernel_rfl) (by kernel_rfl) (by kernel_rfl) (fun _ _ _ h => h) (Or.inl ⟨by rfl, ?_⟩) (by assumption) ?_
  rotate_left
  · (intro w hSw; obtain ⟨hSa, hSb, hSc⟩ := hSw; (try dsimp only at hSa hSb); go_simp; try (with_reducible rfl))
  (try simp only [Act.put, List.setIfInBounds_toArray, List.set_cons_zero, List.set_cons_succ])
  refine wpAnyH_done (by kernel_rfl) ?_ _
  simp only [List.getElem_toArray, List.getElem_cons_succ, List.getElem_cons_zero, Act.put, List.setIfInBounds_toArray, List.set_cons_zero, List.set_cons_succ]
  go_wp2_with fail
  refine bodyPost_ret (by rw [results_cell_tmp2o rfl]; go_simp; try rfl) rfl ?_
  exact ⟨W6.heap.size, .slice (some ⟨g, 0, none⟩) S.length S.length, _, by rw [HE.out], by omega, fun k hk => by cases hk; show w.heap.size ≤ g ∧ g < W6.heap.size; omega, by rw [HVS.out]; exact ownS8.rebase (by omega), own8, s8, B8⟩

theorem impl_OrderPlaces (as0 : Addr) (S : List Int) (cap : Nat) (hn : S.length ≤ 4294967296) (ac : Addr) (C : List Int) (capc : Nat) (hnc : C.length ≤ 4294967296) (ap : Addr) (p : List Int) (capp : Nat) (hnp : p.length ≤ 4294967296) (w : World) (hS : Ints w (some as0) S) (hC : Ints w (some ac) C) (hp : Ints w (some ap) p) :
    Calls Try.prog 18 #[.agg #[.slice (some as0) S.length cap], .slice (some ac) C.length capc, .slice (some ap) p.length capp] w fun e w' => ∃ m vs v, e = .returned (.tuple #[.agg #[vs], v, .int .i64 (eOrd S C p)]) ∧ w.heap.size ≤ m ∧ RowIn vs w.heap.size m ∧ OwnInts w' w.heap.size vs (vOrdS S C p) ∧ OwnInts w' m v (vOrdC S C p) ∧ m ≤ w'.heap.size ∧ Below w.heap.size w w' := by
  by_cases h1 : eCode S C = 0
  · cases h2 : isOrd p S.length with
    | true => exact impl_OrderPlaces_ok as0 S cap hn ac C capc hnc ap p capp hnp w hS hC hp h1 h2
    | false => exact impl_OrderPlaces_e2 as0 S cap hn ac C capc hnc ap p capp hnp w hS hC hp h1 h2
  · exact impl_OrderPlaces_e1 as0 S cap hn ac C capc hnc ap p capp hnp w hS hC hp _ rfl h1

end Go.Proofs.Ytdacokgmcenjoaa
