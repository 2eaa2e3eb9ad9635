/-
  The contracts of what says whether there is a desk, and of the laws' helpers on desks. By an AI agent.
-/
import Derived.Test.YtgaelpcghljihaaLot
import Derived.Test.YtgaelpcghljihaaTk8
import Derived.Test.YtgaelpcghljihaaTm8
import Derived.Test.YtgaelpcghljihaaCode2
import Derived.Test.YtgaelpcghljihaaMarkS
namespace Go.Proofs.Ytgaelpcghljihaa
open Go.RowKit Cv
set_option linter.unusedVariables false
set_option linter.unusedSimpArgs false
set_option maxRecDepth 100000

/-- whether there is a desk -/
def dkB (S C : List Int) (v p d h : Int) (T : List Int) : Bool := (eCode S C == 0) && (eTm v p d h T == 0)
theorem eTk_nil (v p d h : Int) (T : List Int) : eTk v p d h T [] = eTm v p d h T := by simp [eTk, eTm]
/-- the parts of a desk in the block b -/
structure DeskAt (w : World) (b : Nat) (s c : Value) (v p d h : Int) (t : Value) : Prop where
  c0 : w.cell? ⟨b, 0, none⟩ = some s
  c1 : w.cell? ⟨b, 1, none⟩ = some c
  c2 : w.cell? ⟨b, 2, none⟩ = some (.int .i64 v)
  c3 : w.cell? ⟨b, 3, none⟩ = some (.int .i64 p)
  c4 : w.cell? ⟨b, 4, none⟩ = some (.int .i64 d)
  c5 : w.cell? ⟨b, 5, none⟩ = some (.int .i64 h)
  c6 : w.cell? ⟨b, 6, none⟩ = some t
  lt : b < w.heap.size
theorem DeskAt.belowB {B : Nat} {w w' : World} {b : Nat} {s c : Value} {v p d h : Int} {t : Value} (l : DeskAt w b s c v p d h t) (hb : Below B w w') (hlt : b < B) : DeskAt w' b s c v p d h t :=
  ⟨kept_cell hb l.c0 hlt, kept_cell hb l.c1 hlt, kept_cell hb l.c2 hlt, kept_cell hb l.c3 hlt, kept_cell hb l.c4 hlt, kept_cell hb l.c5 hlt, kept_cell hb l.c6 hlt, lt_of_below hb l.lt⟩
theorem DeskAt.below {w w' : World} {b : Nat} {s c : Value} {v p d h : Int} {t : Value} (l : DeskAt w b s c v p d h t) (hb : Below w.heap.size w w') : DeskAt w' b s c v p d h t := l.belowB hb l.lt
theorem deskAt_new (w : World) (s c : Value) (v p d h : Int) (t : Value) (ty : TypeId) : DeskAt (w.alloc (.cells #[s, c, .int .i64 v, .int .i64 p, .int .i64 d, .int .i64 h, t] ty)) w.heap.size s c v p d h t :=
  ⟨by simp, by simp, by simp, by simp, by simp, by simp, by simp, lt_alloc _ _⟩

theorem DeskAt.set {w : World} {b b' : Nat} {s c : Value} {v p d h : Int} {t : Value} (l : DeskAt w b s c v p d h t) (hne : b ≠ b') (o : Nat) (u : Value) : DeskAt (w.setCell ⟨b', o, none⟩ u) b s c v p d h t :=
  ⟨cell_set_other l.c0 hne, cell_set_other l.c1 hne, cell_set_other l.c2 hne, cell_set_other l.c3 hne, cell_set_other l.c4 hne, cell_set_other l.c5 hne, cell_set_other l.c6 hne, by simpa using l.lt⟩
theorem row_other {w : World} {b b' : Nat} {ob : Obj} (h : w.heap[b]? = some ob) (hne : b ≠ b') (o : Nat) (u : Value) : (w.setCell ⟨b', o, none⟩ u).heap[b]? = some ob := by
  have g := grown_setCell (World.grownBy.refl w (some b')) o u
  exact (g.block b (Array.getElem?_eq_some_iff.1 h).1 (by simpa using hne)).trans h
theorem row_store7 {w : World} {b : Nat} {cs : Array Value} {t : TypeId} (o : Nat) (u : Value) (h : w.heap[b]? = some (.cells cs t (0, 0))) : (w.setCell ⟨b, o, none⟩ u).heap[b]? = some (.cells (cs.setIfInBounds o u) t (0, 0)) := by
  rw [setCell_eq_setRow w b o _ _ _ u h]
  exact setRow_heap w b _ _ _ _ h

theorem szDesk_any (aS : Option Addr) (S : List Int) (cS : Nat) (aC : Option Addr) (C : List Int) (cC : Nat) (v p d h : Int) (aT : Option Addr) (T : List Int) (cT : Nat) (left : Int) (w : World) (hnS : S.length ≤ 9223372036854775807) (hnC : C.length ≤ 9223372036854775807) (hnT : T.length ≤ 9223372036854775807) (h0 : 0 ≤ left) (h1 : left ≤ 1048576) :
    Calls Try.prog 20 #[.agg #[.slice aS S.length cS, .slice aC C.length cC, .int .i64 v, .int .i64 p, .int .i64 d, .int .i64 h, .slice aT T.length cT], .int .i64 left] w fun e w' => (∃ z : Int, e = .returned (.int .i64 z) ∧ ((z < 0 ∧ (left < S.length ∨ left - S.length < C.length ∨ left - S.length - C.length < T.length)) ∨ (0 ≤ z ∧ S.length ≤ left ∧ (C.length : Int) ≤ left - S.length ∧ (T.length : Int) ≤ left - S.length - C.length))) ∧ Below w.heap.size w w' := by
  have B0 : Below w.heap.size w (w.alloc (.cells #[.slice aS S.length cS, .slice aC C.length cC, .int .i64 v, .int .i64 p, .int .i64 d, .int .i64 h, .slice aT T.length cT] 36)) := by go_grown
  by_cases k1 : (S.length : Int) ≤ left
  case neg =>
    have e1 : szOf S.length left = -1 := by unfold szOf; rw [if_pos (by omega)]
    go_enter Try.func20, Try.ntmps20
    go_wp2_with fail
    refine (szSpace_any aS S.length cS left _ hnS h0 h1).mono ?_
    rw [e1]
    rintro e w1 ⟨rfl, hb⟩
    go_wp2_with fail
    go_ret
    exact ⟨⟨-1, rfl, .inl ⟨by omega, .inl (by omega)⟩⟩, B0.trans (hb.mono B0.size)⟩
  obtain ⟨x, hx⟩ : ∃ x, x = left - S.length := ⟨_, rfl⟩
  have e1 : szOf S.length left = x := by unfold szOf; rw [if_neg (by omega), hx]
  by_cases k2 : (C.length : Int) ≤ x
  case neg =>
    have e2 : szOf C.length x = -1 := by unfold szOf; rw [if_pos (by omega)]
    have HX := Lib.hid hx
    have x0 : 0 ≤ x := by omega
    have x1 : x ≤ 1048576 := by omega
    clear hx
    go_enter Try.func20, Try.ntmps20
    go_wp2_with fail
    refine (szSpace_any aS S.length cS left _ hnS h0 h1).mono ?_
    rw [e1]
    rintro e w1 ⟨rfl, hb⟩
    have D1 := (deskAt_new w (.slice aS S.length cS) (.slice aC C.length cC) v p d h (.slice aT T.length cT) 36).below hb
    obtain ⟨c0, c1, c2, c3, c4, c5, c6, lt⟩ := D1
    go_wp2_with fail
    refine (szInt64S_any aC C.length cC x _ hnC x0 x1).mono ?_
    rw [e2]
    rintro e w2 ⟨rfl, rfl⟩
    go_wp2_with fail
    go_ret
    exact ⟨⟨-1, rfl, .inl ⟨by omega, .inr (.inl (by have := HX.out; omega))⟩⟩, B0.trans (hb.mono B0.size)⟩
  obtain ⟨y, hy⟩ : ∃ y, y = x - C.length := ⟨_, rfl⟩
  have e2 : szOf C.length x = y := by unfold szOf; rw [if_neg (by omega), hy]
  have x0 : 0 ≤ x := by omega
  have x1 : x ≤ 1048576 := by omega
  have y0 : 0 ≤ y := by omega
  have y1 : y ≤ 1048576 := by omega
  have HX := Lib.hid hx
  have HY := Lib.hid hy
  clear hx hy
  obtain ⟨z, hz⟩ : ∃ z, z = szOf T.length y := ⟨_, rfl⟩
  have HZ : Hid ((z < 0 ∧ y < T.length) ∨ (0 ≤ z ∧ (T.length : Int) ≤ y)) := Lib.hid (by unfold szOf at hz; split at hz <;> omega)
  have hzz := hz.symm
  clear hz
  by_cases kz : z < 0
  all_goals
    go_enter Try.func20, Try.ntmps20
    go_wp2_with fail
    refine (szSpace_any aS S.length cS left _ hnS h0 h1).mono ?_
    rw [e1]
    rintro e w1 ⟨rfl, hb⟩
    have D1 := (deskAt_new w (.slice aS S.length cS) (.slice aC C.length cC) v p d h (.slice aT T.length cT) 36).below hb
    obtain ⟨c0, c1, c2, c3, c4, c5, c6, lt⟩ := D1
    go_wp2_with fail
    refine (szInt64S_any aC C.length cC x _ hnC x0 x1).mono ?_
    rw [e2]
    rintro e w2 ⟨rfl, rfl⟩
    go_wp2_with fail
    refine (szInt64S_any aT T.length cT y _ hnT y0 y1).mono ?_
    rw [hzz]
    rintro e w3 ⟨rfl, rfl⟩
    go_wp2_with fail
    go_ret
    first
      | exact ⟨⟨-1, rfl, .inl ⟨by omega, .inr (.inr (by have := HX.out; have := HY.out; have := HZ.out; omega))⟩⟩, B0.trans (hb.mono B0.size)⟩
      | exact ⟨⟨z, rfl, .inr ⟨by omega, by omega, by have := HX.out; omega, by have := HX.out; have := HY.out; have := HZ.out; omega⟩⟩, B0.trans (hb.mono B0.size)⟩

set_option maxHeartbeats 2000000 in
theorem toDesk_any (aS : Option Addr) (S : List Int) (cS : Nat) (aC : Option Addr) (C : List Int) (cC : Nat) (v p d h : Int) (aT : Option Addr) (T : List Int) (cT : Nat) (w : World) (hnS : S.length ≤ 1048576) (hnC : C.length ≤ 1048576) (hnT : T.length ≤ 1048576) (hS : Ints w aS S) (hC : Ints w aC C) (hT : Ints w aT T) :
    Calls Try.prog 22 #[.agg #[.slice aS S.length cS, .slice aC C.length cC, .int .i64 v, .int .i64 p, .int .i64 d, .int .i64 h, .slice aT T.length cT]] w fun e w' => ∃ bS bC bT, e = .returned (.agg #[.slice (some ⟨bS, 0, none⟩) S.length S.length, .slice (some ⟨bC, 0, none⟩) C.length C.length, .int .i64 v, .int .i64 p, .int .i64 d, .int .i64 h, .slice (some ⟨bT, 0, none⟩) T.length T.length]) ∧
      OwnInts w' w.heap.size (.slice (some ⟨bS, 0, none⟩) S.length S.length) S ∧ OwnInts w' w.heap.size (.slice (some ⟨bC, 0, none⟩) C.length C.length) C ∧ OwnInts w' w.heap.size (.slice (some ⟨bT, 0, none⟩) T.length T.length) T ∧ bS < bC ∧ bC < bT ∧ Below w.heap.size w w' := by
  have D0 := deskAt_new w (.slice aS S.length cS) (.slice aC C.length cC) v p d h (.slice aT T.length cT) 36
  go_enter Try.func22, Try.ntmps22
  go_wp2_with fail
  refine (toSpace_any aS S cS _ hnS (hS.below (by go_grown))).mono ?_
  rintro e w1 ⟨bS, rfl, oS, hb1⟩
  have B1 : Below w.heap.size w w1 := Below.trans (by go_grown) (hb1.mono (by simp; omega))
  have BD : Below (w.alloc (.cells #[.slice aS S.length cS, .slice aC C.length cC, .int .i64 v, .int .i64 p, .int .i64 d, .int .i64 h, .slice aT T.length cT] 36)).heap.size (w.alloc (.cells #[.slice aS S.length cS, .slice aC C.length cC, .int .i64 v, .int .i64 p, .int .i64 d, .int .i64 h, .slice aT T.length cT] 36)) w1 := Below.trans (by go_grown) (hb1.mono (by simp; try omega))
  have D1 := D0.belowB BD (by simp)
  have z1 : w.heap.size + 3 ≤ w1.heap.size := by have := hb1.size; simp at this; omega
  have H1 : w1.heap[w.heap.size + 1 + 1]? = some (.cells #[.slice none 0 0, .slice none 0 0, .int .i64 0, .int .i64 0, .int .i64 0, .int .i64 0, .slice none 0 0] 28 (0, 0)) := (hb1.block _ (by simp)).trans (by have := heap_alloc_new ((w.alloc (.cells #[.slice aS S.length cS, .slice aC C.length cC, .int .i64 v, .int .i64 p, .int .i64 d, .int .i64 h, .slice aT T.length cT] 36)).alloc (.cells #[.slice none 0 0, .slice none 0 0, .int .i64 0, .int .i64 0, .int .i64 0, .int .i64 0, .slice none 0 0] 28)) (.cells #[.slice none 0 0, .slice none 0 0, .int .i64 0, .int .i64 0, .int .i64 0, .int .i64 0, .slice none 0 0] 28); simpa using this)
  have Q1 : w1.heap[w.heap.size + 1]? = some (.cells #[.slice none 0 0, .slice none 0 0, .int .i64 0, .int .i64 0, .int .i64 0, .int .i64 0, .slice none 0 0] 28 (0, 0)) := (hb1.block _ (by simp)).trans ((((Below.refl _ ((w.alloc (.cells #[.slice aS S.length cS, .slice aC C.length cC, .int .i64 v, .int .i64 p, .int .i64 d, .int .i64 h, .slice aT T.length cT] 36)).alloc (.cells #[.slice none 0 0, .slice none 0 0, .int .i64 0, .int .i64 0, .int .i64 0, .int .i64 0, .slice none 0 0] 28))).alloc (Nat.le_refl _) (.cells #[.slice none 0 0, .slice none 0 0, .int .i64 0, .int .i64 0, .int .i64 0, .int .i64 0, .slice none 0 0] 28)).block _ (by simp)).trans (by have := heap_alloc_new (w.alloc (.cells #[.slice aS S.length cS, .slice aC C.length cC, .int .i64 v, .int .i64 p, .int .i64 d, .int .i64 h, .slice aT T.length cT] 36)) (.cells #[.slice none 0 0, .slice none 0 0, .int .i64 0, .int .i64 0, .int .i64 0, .int .i64 0, .slice none 0 0] 28); simpa using this))
  have hbS := oS.base_le
  simp only [World.size_alloc] at hbS
  have oS1 := oS.setBelow (a := ⟨w.heap.size + 1 + 1, 0, none⟩) (by simp) (.slice (some ⟨bS, 0, none⟩) S.length S.length)
  have B1' := B1.setCell (p := ⟨w.heap.size + 1 + 1, 0, none⟩) (by simp; omega) (.slice (some ⟨bS, 0, none⟩) S.length S.length)
  have Q1' := row_other Q1 (b' := w.heap.size + 1 + 1) (by omega) 0 (.slice (some ⟨bS, 0, none⟩) S.length S.length)
  have D1' := D1.set (b' := w.heap.size + 1 + 1) (by omega) 0 (.slice (some ⟨bS, 0, none⟩) S.length S.length)
  have H1' := row_store7 0 (.slice (some ⟨bS, 0, none⟩) S.length S.length) H1
  simp only [List.setIfInBounds_toArray, List.set_cons_zero, List.set_cons_succ] at H1'
  have F1 := frozen_of_row w1 (w.heap.size + 1 + 1) 0 _ _ H1
  obtain ⟨c0, c1, c2, c3, c4, c5, c6, lt⟩ := id D1
  obtain ⟨e0, e1, e2, e3, e4, e5, e6, lt'⟩ := id D1'
  have x0 : w1.cell? ⟨w.heap.size + 1 + 1, 0, none⟩ = some (.slice none 0 0) := by rw [cell_of_row _ _ _ _ _ _ H1]; rfl
  have x1 : w1.cell? ⟨w.heap.size + 1 + 1, 1, none⟩ = some (.slice none 0 0) := by rw [cell_of_row _ _ _ _ _ _ H1]; rfl
  have x2 : w1.cell? ⟨w.heap.size + 1 + 1, 2, none⟩ = some (.int .i64 0) := by rw [cell_of_row _ _ _ _ _ _ H1]; rfl
  have x3 : w1.cell? ⟨w.heap.size + 1 + 1, 3, none⟩ = some (.int .i64 0) := by rw [cell_of_row _ _ _ _ _ _ H1]; rfl
  have x4 : w1.cell? ⟨w.heap.size + 1 + 1, 4, none⟩ = some (.int .i64 0) := by rw [cell_of_row _ _ _ _ _ _ H1]; rfl
  have x5 : w1.cell? ⟨w.heap.size + 1 + 1, 5, none⟩ = some (.int .i64 0) := by rw [cell_of_row _ _ _ _ _ _ H1]; rfl
  have x6 : w1.cell? ⟨w.heap.size + 1 + 1, 6, none⟩ = some (.slice none 0 0) := by rw [cell_of_row _ _ _ _ _ _ H1]; rfl
  clear hb1 BD D0
  go_wp2_with fail
  refine (toInt64S_any aC C cC _ hnC (hC.below B1')).mono ?_
  rintro e w2 ⟨bC, rfl, oC2, hb2⟩
  have hbC := oC2.base_le
  simp only [World.size_setCell] at hbC
  have oS2 := oS1.below hb2
  have D2 := D1'.below hb2
  have B2 := B1'.trans (hb2.mono B1'.size)
  have H2 : w2.heap[w.heap.size + 1 + 1]? = some (.cells #[.slice (some ⟨bS, 0, none⟩) S.length S.length, .slice none 0 0, .int .i64 0, .int .i64 0, .int .i64 0, .int .i64 0, .slice none 0 0] 28 (0, 0)) := (hb2.block _ (by simp; omega)).trans H1'
  have Q2 : w2.heap[w.heap.size + 1]? = some (.cells #[.slice none 0 0, .slice none 0 0, .int .i64 0, .int .i64 0, .int .i64 0, .int .i64 0, .slice none 0 0] 28 (0, 0)) := (hb2.block _ (by simp; omega)).trans Q1'
  have z2 : w.heap.size + 3 ≤ w2.heap.size := by have := hb2.size; simp only [World.size_setCell] at this; omega
  have s2 : w1.heap.size ≤ w2.heap.size := by have := hb2.size; simp only [World.size_setCell] at this; omega
  have oS2' := oS2.setBelow (a := ⟨w.heap.size + 1 + 1, 1, none⟩) (by simp; try omega) (.slice (some ⟨bC, 0, none⟩) C.length C.length)
  have oC2' := oC2.setBelow (a := ⟨w.heap.size + 1 + 1, 1, none⟩) (by simp; try omega) (.slice (some ⟨bC, 0, none⟩) C.length C.length)
  have B2' := B2.setCell (p := ⟨w.heap.size + 1 + 1, 1, none⟩) (by simp; omega) (.slice (some ⟨bC, 0, none⟩) C.length C.length)
  clear oS1 oS
  clear c0 c1 c2 c3 c4 c5 c6 lt e0 e1 e2 e3 e4 e5 e6 lt' x0 x1 x2 x3 x4 x5 x6 hb2 D1 D1' F1 H1 H1' B1 B1' z1 
  have Q2' := row_other Q2 (b' := w.heap.size + 1 + 1) (by omega) 1 (.slice (some ⟨bC, 0, none⟩) C.length C.length)
  have D2' := D2.set (b' := w.heap.size + 1 + 1) (by omega) 1 (.slice (some ⟨bC, 0, none⟩) C.length C.length)
  have H2' := row_store7 1 (.slice (some ⟨bC, 0, none⟩) C.length C.length) H2
  simp only [List.setIfInBounds_toArray, List.set_cons_zero, List.set_cons_succ] at H2'
  have F2 := frozen_of_row w2 (w.heap.size + 1 + 1) 1 _ _ H2
  obtain ⟨c0, c1, c2, c3, c4, c5, c6, lt⟩ := id D2
  obtain ⟨e0, e1, e2, e3, e4, e5, e6, lt'⟩ := id D2'
  have x0 : w2.cell? ⟨w.heap.size + 1 + 1, 0, none⟩ = some (.slice (some ⟨bS, 0, none⟩) S.length S.length) := by rw [cell_of_row _ _ _ _ _ _ H2]; rfl
  have x1 : w2.cell? ⟨w.heap.size + 1 + 1, 1, none⟩ = some (.slice none 0 0) := by rw [cell_of_row _ _ _ _ _ _ H2]; rfl
  have x2 : w2.cell? ⟨w.heap.size + 1 + 1, 2, none⟩ = some (.int .i64 0) := by rw [cell_of_row _ _ _ _ _ _ H2]; rfl
  have x3 : w2.cell? ⟨w.heap.size + 1 + 1, 3, none⟩ = some (.int .i64 0) := by rw [cell_of_row _ _ _ _ _ _ H2]; rfl
  have x4 : w2.cell? ⟨w.heap.size + 1 + 1, 4, none⟩ = some (.int .i64 0) := by rw [cell_of_row _ _ _ _ _ _ H2]; rfl
  have x5 : w2.cell? ⟨w.heap.size + 1 + 1, 5, none⟩ = some (.int .i64 0) := by rw [cell_of_row _ _ _ _ _ _ H2]; rfl
  have x6 : w2.cell? ⟨w.heap.size + 1 + 1, 6, none⟩ = some (.slice none 0 0) := by rw [cell_of_row _ _ _ _ _ _ H2]; rfl
  go_wp2_with fail
  refine (toLottery_any v p d h _).mono ?_
  rintro e w3 ⟨rfl, hb3⟩
  have oS3 := oS2'.below hb3
  have oC3 := oC2'.below hb3
  have D3 := D2'.below hb3
  have B3 := B2'.trans (hb3.mono B2'.size)
  have H3 : w3.heap[w.heap.size + 1 + 1]? = some (.cells #[.slice (some ⟨bS, 0, none⟩) S.length S.length, .slice (some ⟨bC, 0, none⟩) C.length C.length, .int .i64 0, .int .i64 0, .int .i64 0, .int .i64 0, .slice none 0 0] 28 (0, 0)) := (hb3.block _ (by simp; omega)).trans H2'
  have Q3 : w3.heap[w.heap.size + 1]? = some (.cells #[.slice none 0 0, .slice none 0 0, .int .i64 0, .int .i64 0, .int .i64 0, .int .i64 0, .slice none 0 0] 28 (0, 0)) := (hb3.block _ (by simp; omega)).trans Q2'
  have z3 : w.heap.size + 3 ≤ w3.heap.size := by have := hb3.size; simp only [World.size_setCell] at this; omega
  have s3 : w2.heap.size ≤ w3.heap.size := by have := hb3.size; simp only [World.size_setCell] at this; omega
  clear c0 c1 c2 c3 c4 c5 c6 lt e0 e1 e2 e3 e4 e5 e6 lt' x0 x1 x2 x3 x4 x5 x6 hb3 D2 D2' F2 H2 H2' B2 B2' z2 oS2 oS2' oC2 oC2'
  have F32 := frozen_of_row w3 (w.heap.size + 1 + 1) 2 _ _ H3
  have F33 := frozen_of_row w3 (w.heap.size + 1 + 1) 3 _ _ H3
  have F34 := frozen_of_row w3 (w.heap.size + 1 + 1) 4 _ _ H3
  have F35 := frozen_of_row w3 (w.heap.size + 1 + 1) 5 _ _ H3
  have x0 : w3.cell? ⟨w.heap.size + 1 + 1, 0, none⟩ = some (.slice (some ⟨bS, 0, none⟩) S.length S.length) := by rw [cell_of_row _ _ _ _ _ _ H3]; rfl
  have x1 : w3.cell? ⟨w.heap.size + 1 + 1, 1, none⟩ = some (.slice (some ⟨bC, 0, none⟩) C.length C.length) := by rw [cell_of_row _ _ _ _ _ _ H3]; rfl
  have x2 : w3.cell? ⟨w.heap.size + 1 + 1, 2, none⟩ = some (.int .i64 0) := by rw [cell_of_row _ _ _ _ _ _ H3]; rfl
  have x3 : w3.cell? ⟨w.heap.size + 1 + 1, 3, none⟩ = some (.int .i64 0) := by rw [cell_of_row _ _ _ _ _ _ H3]; rfl
  have x4 : w3.cell? ⟨w.heap.size + 1 + 1, 4, none⟩ = some (.int .i64 0) := by rw [cell_of_row _ _ _ _ _ _ H3]; rfl
  have x5 : w3.cell? ⟨w.heap.size + 1 + 1, 5, none⟩ = some (.int .i64 0) := by rw [cell_of_row _ _ _ _ _ _ H3]; rfl
  have x6 : w3.cell? ⟨w.heap.size + 1 + 1, 6, none⟩ = some (.slice none 0 0) := by rw [cell_of_row _ _ _ _ _ _ H3]; rfl
  obtain ⟨c0, c1, c2, c3, c4, c5, c6, lt⟩ := id D3
  have D3' := (((D3.set (b' := w.heap.size + 1 + 1) (by omega) 2 (.int .i64 v)).set (b' := w.heap.size + 1 + 1) (by omega) 3 (.int .i64 p)).set (b' := w.heap.size + 1 + 1) (by omega) 4 (.int .i64 d)).set (b' := w.heap.size + 1 + 1) (by omega) 5 (.int .i64 h)
  have Q3' := row_other (row_other (row_other (row_other Q3 (b' := w.heap.size + 1 + 1) (by omega) 2 (.int .i64 v)) (b' := w.heap.size + 1 + 1) (by omega) 3 (.int .i64 p)) (b' := w.heap.size + 1 + 1) (by omega) 4 (.int .i64 d)) (b' := w.heap.size + 1 + 1) (by omega) 5 (.int .i64 h)
  have H3' := row_store7 5 (.int .i64 h) (row_store7 4 (.int .i64 d) (row_store7 3 (.int .i64 p) (row_store7 2 (.int .i64 v) H3)))
  simp only [List.setIfInBounds_toArray, List.set_cons_zero, List.set_cons_succ] at H3'
  have oS3' := (((oS3.setBelow (a := ⟨w.heap.size + 1 + 1, 2, none⟩) (by simp; try omega) (.int .i64 v)).setBelow (a := ⟨w.heap.size + 1 + 1, 3, none⟩) (by simp; try omega) (.int .i64 p)).setBelow (a := ⟨w.heap.size + 1 + 1, 4, none⟩) (by simp; try omega) (.int .i64 d)).setBelow (a := ⟨w.heap.size + 1 + 1, 5, none⟩) (by simp; try omega) (.int .i64 h)
  have oC3' := (((oC3.setBelow (a := ⟨w.heap.size + 1 + 1, 2, none⟩) (by simp; try omega) (.int .i64 v)).setBelow (a := ⟨w.heap.size + 1 + 1, 3, none⟩) (by simp; try omega) (.int .i64 p)).setBelow (a := ⟨w.heap.size + 1 + 1, 4, none⟩) (by simp; try omega) (.int .i64 d)).setBelow (a := ⟨w.heap.size + 1 + 1, 5, none⟩) (by simp; try omega) (.int .i64 h)
  have B3' := (((B3.setCell (p := ⟨w.heap.size + 1 + 1, 2, none⟩) (by simp; omega) (.int .i64 v)).setCell (p := ⟨w.heap.size + 1 + 1, 3, none⟩) (by simp; omega) (.int .i64 p)).setCell (p := ⟨w.heap.size + 1 + 1, 4, none⟩) (by simp; omega) (.int .i64 d)).setCell (p := ⟨w.heap.size + 1 + 1, 5, none⟩) (by simp; omega) (.int .i64 h)
  go_wp2_with fail
  refine (toInt64S_any aT T cT _ hnT (hT.below B3')).mono ?_
  rintro e w4 ⟨bT, rfl, oT4, hb4⟩
  have hbT := oT4.base_le
  simp only [World.size_setCell] at hbT
  have oS4 := oS3'.below hb4
  have oC4 := oC3'.below hb4
  have D4 := D3'.below hb4
  have B4 := B3'.trans (hb4.mono B3'.size)
  have H4 : w4.heap[w.heap.size + 1 + 1]? = some (.cells #[.slice (some ⟨bS, 0, none⟩) S.length S.length, .slice (some ⟨bC, 0, none⟩) C.length C.length, .int .i64 v, .int .i64 p, .int .i64 d, .int .i64 h, .slice none 0 0] 28 (0, 0)) := (hb4.block _ (by simp; omega)).trans H3'
  have Q4 : w4.heap[w.heap.size + 1]? = some (.cells #[.slice none 0 0, .slice none 0 0, .int .i64 0, .int .i64 0, .int .i64 0, .int .i64 0, .slice none 0 0] 28 (0, 0)) := (hb4.block _ (by simp; omega)).trans Q3'
  have z4 : w.heap.size + 3 ≤ w4.heap.size := by have := hb4.size; simp only [World.size_setCell] at this; omega
  have s4 : w3.heap.size ≤ w4.heap.size := by have := hb4.size; simp only [World.size_setCell] at this; omega
  clear c0 c1 c2 c3 c4 c5 c6 lt x0 x1 x2 x3 x4 x5 x6 F32 F33 F34 F35 hb4 D3 D3' H3 H3' B3 B3' oS3 oS3' oC3 oC3'
  have F4 := frozen_of_row w4 (w.heap.size + 1 + 1) 6 _ _ H4
  have x0 : w4.cell? ⟨w.heap.size + 1 + 1, 0, none⟩ = some (.slice (some ⟨bS, 0, none⟩) S.length S.length) := by rw [cell_of_row _ _ _ _ _ _ H4]; rfl
  have x1 : w4.cell? ⟨w.heap.size + 1 + 1, 1, none⟩ = some (.slice (some ⟨bC, 0, none⟩) C.length C.length) := by rw [cell_of_row _ _ _ _ _ _ H4]; rfl
  have x2 : w4.cell? ⟨w.heap.size + 1 + 1, 2, none⟩ = some (.int .i64 v) := by rw [cell_of_row _ _ _ _ _ _ H4]; rfl
  have x3 : w4.cell? ⟨w.heap.size + 1 + 1, 3, none⟩ = some (.int .i64 p) := by rw [cell_of_row _ _ _ _ _ _ H4]; rfl
  have x4 : w4.cell? ⟨w.heap.size + 1 + 1, 4, none⟩ = some (.int .i64 d) := by rw [cell_of_row _ _ _ _ _ _ H4]; rfl
  have x5 : w4.cell? ⟨w.heap.size + 1 + 1, 5, none⟩ = some (.int .i64 h) := by rw [cell_of_row _ _ _ _ _ _ H4]; rfl
  have x6 : w4.cell? ⟨w.heap.size + 1 + 1, 6, none⟩ = some (.slice none 0 0) := by rw [cell_of_row _ _ _ _ _ _ H4]; rfl
  have y0 : w4.cell? ⟨w.heap.size + 1, 0, none⟩ = some (.slice none 0 0) := by rw [cell_of_row _ _ _ _ _ _ Q4]; rfl
  have G0 := frozen_of_row w4 (w.heap.size + 1) 0 _ _ Q4
  have y1 : w4.cell? ⟨w.heap.size + 1, 1, none⟩ = some (.slice none 0 0) := by rw [cell_of_row _ _ _ _ _ _ Q4]; rfl
  have G1 := frozen_of_row w4 (w.heap.size + 1) 1 _ _ Q4
  have y2 : w4.cell? ⟨w.heap.size + 1, 2, none⟩ = some (.int .i64 0) := by rw [cell_of_row _ _ _ _ _ _ Q4]; rfl
  have G2 := frozen_of_row w4 (w.heap.size + 1) 2 _ _ Q4
  have y3 : w4.cell? ⟨w.heap.size + 1, 3, none⟩ = some (.int .i64 0) := by rw [cell_of_row _ _ _ _ _ _ Q4]; rfl
  have G3 := frozen_of_row w4 (w.heap.size + 1) 3 _ _ Q4
  have y4 : w4.cell? ⟨w.heap.size + 1, 4, none⟩ = some (.int .i64 0) := by rw [cell_of_row _ _ _ _ _ _ Q4]; rfl
  have G4 := frozen_of_row w4 (w.heap.size + 1) 4 _ _ Q4
  have y5 : w4.cell? ⟨w.heap.size + 1, 5, none⟩ = some (.int .i64 0) := by rw [cell_of_row _ _ _ _ _ _ Q4]; rfl
  have G5 := frozen_of_row w4 (w.heap.size + 1) 5 _ _ Q4
  have y6 : w4.cell? ⟨w.heap.size + 1, 6, none⟩ = some (.slice none 0 0) := by rw [cell_of_row _ _ _ _ _ _ Q4]; rfl
  have G6 := frozen_of_row w4 (w.heap.size + 1) 6 _ _ Q4
  clear Q3 Q3'
  go_wp2_with fail
  have Q7 := row_store7 6 (.slice (some ⟨bT, 0, none⟩) T.length T.length) (row_store7 5 (.int .i64 h) (row_store7 4 (.int .i64 d) (row_store7 3 (.int .i64 p) (row_store7 2 (.int .i64 v) (row_store7 1 (.slice (some ⟨bC, 0, none⟩) C.length C.length) (row_store7 0 (.slice (some ⟨bS, 0, none⟩) S.length S.length) (row_other Q4 (b' := w.heap.size + 1 + 1) (by omega) 6 (.slice (some ⟨bT, 0, none⟩) T.length T.length))))))))
  simp only [List.setIfInBounds_toArray, List.set_cons_zero, List.set_cons_succ] at Q7
  refine bodyPost_ret (v := .agg #[.slice (some ⟨bS, 0, none⟩) S.length S.length, .slice (some ⟨bC, 0, none⟩) C.length C.length, .int .i64 v, .int .i64 p, .int .i64 d, .int .i64 h, .slice (some ⟨bT, 0, none⟩) T.length T.length]) (results_cell_row (by rfl) _ _ (w.heap.size + 1) _ _ _ _ (by rfl) Q7 Try.underlying28 rfl (by kernel_rfl)) rfl ?_
  exact ⟨bS, bC, bT, rfl, (((((((((oS4).setBelow (a := ⟨w.heap.size + 1 + 1, 6, none⟩) (by simp; try omega) (.slice (some ⟨bT, 0, none⟩) T.length T.length)).setBelow (a := ⟨w.heap.size + 1, 0, none⟩) (by simp; try omega) (.slice (some ⟨bS, 0, none⟩) S.length S.length)).setBelow (a := ⟨w.heap.size + 1, 1, none⟩) (by simp; try omega) (.slice (some ⟨bC, 0, none⟩) C.length C.length)).setBelow (a := ⟨w.heap.size + 1, 2, none⟩) (by simp; try omega) (.int .i64 v)).setBelow (a := ⟨w.heap.size + 1, 3, none⟩) (by simp; try omega) (.int .i64 p)).setBelow (a := ⟨w.heap.size + 1, 4, none⟩) (by simp; try omega) (.int .i64 d)).setBelow (a := ⟨w.heap.size + 1, 5, none⟩) (by simp; try omega) (.int .i64 h)).setBelow (a := ⟨w.heap.size + 1, 6, none⟩) (by simp; try omega) (.slice (some ⟨bT, 0, none⟩) T.length T.length)).rebase (by simp; try omega), (((((((((oC4).setBelow (a := ⟨w.heap.size + 1 + 1, 6, none⟩) (by simp; try omega) (.slice (some ⟨bT, 0, none⟩) T.length T.length)).setBelow (a := ⟨w.heap.size + 1, 0, none⟩) (by simp; try omega) (.slice (some ⟨bS, 0, none⟩) S.length S.length)).setBelow (a := ⟨w.heap.size + 1, 1, none⟩) (by simp; try omega) (.slice (some ⟨bC, 0, none⟩) C.length C.length)).setBelow (a := ⟨w.heap.size + 1, 2, none⟩) (by simp; try omega) (.int .i64 v)).setBelow (a := ⟨w.heap.size + 1, 3, none⟩) (by simp; try omega) (.int .i64 p)).setBelow (a := ⟨w.heap.size + 1, 4, none⟩) (by simp; try omega) (.int .i64 d)).setBelow (a := ⟨w.heap.size + 1, 5, none⟩) (by simp; try omega) (.int .i64 h)).setBelow (a := ⟨w.heap.size + 1, 6, none⟩) (by simp; try omega) (.slice (some ⟨bT, 0, none⟩) T.length T.length)).rebase (by simp; try omega), (((((((((oT4).setBelow (a := ⟨w.heap.size + 1 + 1, 6, none⟩) (by simp; try omega) (.slice (some ⟨bT, 0, none⟩) T.length T.length)).setBelow (a := ⟨w.heap.size + 1, 0, none⟩) (by simp; try omega) (.slice (some ⟨bS, 0, none⟩) S.length S.length)).setBelow (a := ⟨w.heap.size + 1, 1, none⟩) (by simp; try omega) (.slice (some ⟨bC, 0, none⟩) C.length C.length)).setBelow (a := ⟨w.heap.size + 1, 2, none⟩) (by simp; try omega) (.int .i64 v)).setBelow (a := ⟨w.heap.size + 1, 3, none⟩) (by simp; try omega) (.int .i64 p)).setBelow (a := ⟨w.heap.size + 1, 4, none⟩) (by simp; try omega) (.int .i64 d)).setBelow (a := ⟨w.heap.size + 1, 5, none⟩) (by simp; try omega) (.int .i64 h)).setBelow (a := ⟨w.heap.size + 1, 6, none⟩) (by simp; try omega) (.slice (some ⟨bT, 0, none⟩) T.length T.length)).rebase (by simp; try omega), by omega, by omega, ((((((((B4).setCell (p := ⟨w.heap.size + 1 + 1, 6, none⟩) (by simp; try omega) (.slice (some ⟨bT, 0, none⟩) T.length T.length)).setCell (p := ⟨w.heap.size + 1, 0, none⟩) (by simp; try omega) (.slice (some ⟨bS, 0, none⟩) S.length S.length)).setCell (p := ⟨w.heap.size + 1, 1, none⟩) (by simp; try omega) (.slice (some ⟨bC, 0, none⟩) C.length C.length)).setCell (p := ⟨w.heap.size + 1, 2, none⟩) (by simp; try omega) (.int .i64 v)).setCell (p := ⟨w.heap.size + 1, 3, none⟩) (by simp; try omega) (.int .i64 p)).setCell (p := ⟨w.heap.size + 1, 4, none⟩) (by simp; try omega) (.int .i64 d)).setCell (p := ⟨w.heap.size + 1, 5, none⟩) (by simp; try omega) (.int .i64 h)).setCell (p := ⟨w.heap.size + 1, 6, none⟩) (by simp; try omega) (.slice (some ⟨bT, 0, none⟩) T.length T.length)⟩

set_option maxHeartbeats 1000000 in
theorem spec_IsDesk (aS : Option Addr) (S : List Int) (cS : Nat) (aC : Option Addr) (C : List Int) (cC : Nat) (v p d h : Int) (aT : Option Addr) (T : List Int) (cT : Nat) (w : World) (hnS : S.length ≤ 4294967296) (hnC : C.length ≤ 4294967296) (hnT : T.length ≤ 4294967296) (hS : Ints w aS S) (hC : Ints w aC C) (hT : Ints w aT T) :
    Calls Try.prog 21 #[.agg #[.slice aS S.length cS, .slice aC C.length cC, .int .i64 v, .int .i64 p, .int .i64 d, .int .i64 h, .slice aT T.length cT]] w fun e w' => e = .returned (.bool (dkB S C v p d h T)) ∧ Below w.heap.size w w' := by
  have B0 : Below w.heap.size w (w.alloc (.cells #[.slice aS S.length cS, .slice aC C.length cC, .int .i64 v, .int .i64 p, .int .i64 d, .int .i64 h, .slice aT T.length cT] 28)) := by go_grown
  have D0 := deskAt_new w (.slice aS S.length cS) (.slice aC C.length cC) v p d h (.slice aT T.length cT) 28
  by_cases hz : eCode S C = 0
  · have HZ : Hid (dkB S C v p d h T = (eTm v p d h T == 0)) := Lib.hid (by simp [dkB, hz])
    have hzb : (eCode S C == 0) = true := by simp [hz]
    clear hz
    go_enter Try.func21, Try.ntmps21
    go_wp2_with fail
    refine (l01Given_any aS S cS hnS aC C cC hnC _ (hS.below B0) (hC.below B0)).mono ?_
    rintro e w1 ⟨rfl, hb⟩
    have B1 := B0.trans (hb.mono B0.size)
    obtain ⟨c0, c1, c2, c3, c4, c5, c6, lt⟩ := D0.below hb
    go_wp2_with fail
    refine (l08Tickets_any v p d h aT T cT hnT _ (hT.below B1)).mono ?_
    rintro e w2 ⟨rfl, hb2⟩
    go_wp2_with fail
    go_ret
    exact ⟨ret_bool HZ.out.symm, B1.trans (hb2.mono B1.size)⟩
  · have HZ : Hid (dkB S C v p d h T = false) := Lib.hid (by simp [dkB, hz])
    have hzb : (eCode S C == 0) = false := by simpa using hz
    clear hz
    go_enter Try.func21, Try.ntmps21
    go_wp2_with fail
    refine (l01Given_any aS S cS hnS aC C cC hnC _ (hS.below B0) (hC.below B0)).mono ?_
    rintro e w1 ⟨rfl, hb⟩
    go_wp2_with fail
    go_ret
    exact ⟨ret_bool HZ.out.symm, B0.trans (hb.mono B0.size)⟩

set_option maxHeartbeats 1000000 in
theorem impl_IsDesk (aS : Option Addr) (S : List Int) (cS : Nat) (aC : Option Addr) (C : List Int) (cC : Nat) (v p d h : Int) (aT : Option Addr) (T : List Int) (cT : Nat) (w : World) (hnS : S.length ≤ 4294967296) (hnC : C.length ≤ 4294967296) (hnT : T.length ≤ 4294967296) (hS : Ints w aS S) (hC : Ints w aC C) (hT : Ints w aT T) :
    Calls Try.prog 23 #[.agg #[.slice aS S.length cS, .slice aC C.length cC, .int .i64 v, .int .i64 p, .int .i64 d, .int .i64 h, .slice aT T.length cT]] w fun e w' => e = .returned (.bool (dkB S C v p d h T)) ∧ Below w.heap.size w w' := by
  have B0 : Below w.heap.size w (w.alloc (.cells #[.slice aS S.length cS, .slice aC C.length cC, .int .i64 v, .int .i64 p, .int .i64 d, .int .i64 h, .slice aT T.length cT] 28)) := by go_grown
  have D0 := deskAt_new w (.slice aS S.length cS) (.slice aC C.length cC) v p d h (.slice aT T.length cT) 28
  by_cases hz : eCode S C = 0
  · have HZ : Hid (dkB S C v p d h T = (eTm v p d h T == 0)) := Lib.hid (by simp [dkB, hz])
    have hzb : (eCode S C == 0) = true := by simp [hz]
    clear hz
    go_enter Try.func23, Try.ntmps23
    go_wp2_with fail
    refine (codeError_any aS S cS hnS aC C cC hnC _ (hS.below B0) (hC.below B0)).mono ?_
    rintro e w1 ⟨rfl, hb⟩
    have B1 := B0.trans (hb.mono B0.size)
    obtain ⟨c0, c1, c2, c3, c4, c5, c6, lt⟩ := D0.below hb
    go_wp2_with fail
    refine (ticketsError_any v p d h aT T cT hnT none [] 0 (by simp) _ (hT.below B1) (.inl rfl)).mono ?_
    rw [eTk_nil]
    rintro e w2 ⟨rfl, hb2⟩
    go_wp2_with fail
    go_ret
    exact ⟨ret_bool HZ.out.symm, B1.trans (hb2.mono B1.size)⟩
  · have HZ : Hid (dkB S C v p d h T = false) := Lib.hid (by simp [dkB, hz])
    have hzb : (eCode S C == 0) = false := by simpa using hz
    clear hz
    go_enter Try.func23, Try.ntmps23
    go_wp2_with fail
    refine (codeError_any aS S cS hnS aC C cC hnC _ (hS.below B0) (hC.below B0)).mono ?_
    rintro e w1 ⟨rfl, hb⟩
    go_wp2_with fail
    go_ret
    exact ⟨ret_bool HZ.out.symm, B0.trans (hb.mono B0.size)⟩

end Go.Proofs.Ytgaelpcghljihaa
