/-
  Texts put together: Balls, Tgt, Covd, Sets. By an AI agent.
-/
import Derived.Test.YtpmfedllbiblbaaGreatPk33
import Derived.Test.YtpmfedllbiblbaaGreatPkSums2
import Derived.Test.YtpmfedllbiblbaaGreatPkMath
import Derived.Great.BuildSlice
import Derived.Deep.RegionHeld3
namespace Go.Proofs.YtpmfedllbiblbaaGreat
open Go.RowKit Go.Shelf Cv
set_option linter.unusedVariables false
set_option linter.unusedSimpArgs false
set_option maxRecDepth 100000

attribute [local go_sem] Oper.semAt_some

/-- a load, a store of a set in a fence -/
theorem wpListIn_ld16 {F : Fence} {n : Nat} {ops : Array Oper} {rest : List Oper} {o : Oper} {a : Act} {w : World} {Q : Exit → Act → World → Prop} (hgd : o.guard = none) (x : Operand) (ho : o.op = .load 68 x) {b : Nat} {p : Nat → Bool}
    (hr : RowAt w b p) (hx : a.eval x = .pointer (some ⟨b, 0, none⟩)) (h : wpListIn F n Tryz.prog ops Q rest (a.put o.dst (.agg (setA p))) w) : wpListIn F n Tryz.prog ops Q (o :: rest) a w := by
  refine wpListIn_plain hgd fun K hK => ?_
  unfold Oper.wpIn
  refine ⟨by simp [Oper.about, ho], ?_⟩
  rw [Oper.semAt_plain F _ _ (by rw [ho]; intro c hc; cases hc)]
  unfold execOp
  simp only [ho, hx, Instr.loadAt, Instr.sureAddr, Sem.run_bind, Sem.run_pure, Result.andThen_ok, ldVar hr]
  exact hK _ _ h
theorem wpListIn_st16 {F : Fence} {n : Nat} {ops : Array Oper} {rest : List Oper} {o : Oper} {a : Act} {w : World} {Q : Exit → Act → World → Prop} (hgd : o.guard = none) (x y : Operand) (ho : o.op = .store 68 x y) {b : Nat} {p : Nat → Bool}
    (hr : RowAt w b p) (q : Nat → Bool) (hx : a.eval x = .pointer (some ⟨b, 0, none⟩)) (hy : a.eval y = .agg (setA q)) (h : wpListIn F n Tryz.prog ops Q rest (a.put o.dst undef) (w.setRow b (setA q))) : wpListIn F n Tryz.prog ops Q (o :: rest) a w := by
  refine wpListIn_plain hgd fun K hK => ?_
  unfold Oper.wpIn
  refine ⟨by simp [Oper.about, ho], ?_⟩
  rw [Oper.semAt_plain F _ _ (by rw [ho]; intro c hc; cases hc)]
  unfold execOp
  simp only [ho, hx, hy, Instr.storeAt, Instr.sureAddr, Sem.run_bind, Sem.run_pure, Result.andThen_ok, stVar (q := q) hr]
  exact hK _ _ h

/-- the words of a ball, as a set -/
def ballN (S : List Int) (r c : Int) : Nat → Bool := inL (ballW S c r)
def encP (p : Nat → Bool) : Array Value := #[.agg (setA p)]
theorem row_own {β : Type} (b : Nat) (f : β → Nat → Bool) : Own (fun (s : β) W => RowAt W b (f s)) := fun s A B row hs hg hr => by
  show B.heap[b]? = _
  rw [hg.block b (RowAt.lt hs) (fun e => ?_)]
  · exact hs
  · obtain ⟨o, ho, hc⟩ := hr b e.symm
    have hs' : A.heap[b]? = some (.cells (setA (f s)) 68 (0, 0)) := hs
    rw [hs'] at ho
    injection ho with ho
    subst ho
    cases hc

theorem results_none {fn : Func} (h : fn.results = #[]) (tmps : Array Value) (w : World) : (results fn tmps).run Tryz.prog w = .ok (.tuple #[]) w := by simp [results, h, go_sem]
/-- what a round of a loop over the balls keeps -/
def KpC (n₀ wb sb rb : Nat) (W W' : World) : Prop := Below n₀ W W' ∧ KeepsAt wb W W' ∧ KeepsAt sb W W' ∧ KeepsAt rb W W'
theorem keepsAt_nc {g : Nat} {A B : World} {row : Option Nat} (hg : A.grownBy B row) (hr : ∀ r, row = some r → ∃ o : Obj, A.heap[r]? = some o ∧ o.isCells = false) : KeepsAt g A B := fun cur t hi =>
  (hg.block g (Array.getElem?_eq_some_iff.1 hi).1 (fun e => by obtain ⟨o, ho, hc⟩ := hr g e.symm; rw [hi] at ho; injection ho with ho; subst ho; cases hc)).trans hi
/-- what holds between two rounds of the loop over the words -/
def BInv (S C : List Int) (r : Int) (ao ac : Option Addr) (cap capc l wb sb rb : Nat) (J : List (Nat → Bool) → World → Prop) (w0 Wst : World) (a : Act) (W : World) : Prop :=
  ∃ (k : Nat) (ds : List Deferred) (u4 u5 u6 u7 u8 u12 u13 u14 u15 u16 u17 u18 u19 u20 u21 u22 u23 u24 u25 u26 u27 u28 : Value), k ≤ C.length ∧ J ((C.take k).map (ballN S r)) W ∧ Below w0.heap.size w0 W ∧ Marks Wst.heap.size ds W ∧ Wst.heap.size ≤ W.heap.size ∧ (W.heap[wb]? = some (.cells #[.slice ac C.length capc] 24 (0, 0)) ∧ W.heap[sb]? = some (.cells #[.slice ao S.length cap] 26 (0, 0)) ∧ W.heap[rb]? = some (.cells #[.int .i64 r] 2 (0, 0))) ∧
    a = { tmps := #[.func (.yield l) #[] #[], .pointer (some ⟨wb, 0, none⟩), .pointer (some ⟨sb, 0, none⟩), .pointer (some ⟨rb, 0, none⟩), u4, u5, u6, u7, u8, .slice ac C.length capc, .int .i64 (C.length : Int), .int .i64 (k : Int), u12, u13, u14, u15, u16, u17, u18, u19, u20, u21, u22, u23, u24, u25, u26, u27, u28], defers := ds }
def BMes (C : List Int) (a : Act) (W : World) : Nat := C.length - (intOf (a.tmps.getD 11 undef)).toNat

end Go.Proofs.YtpmfedllbiblbaaGreat

namespace Go.Proofs.YtpmfedllbiblbaaGreat
open Go.RowKit Go.Shelf Cv
set_option linter.unusedVariables false
set_option linter.unusedSimpArgs false
set_option maxRecDepth 100000

/-- the words of all sets of a list together -/
def unionL (ps : List (Nat → Bool)) : Nat → Bool := fun u => ps.any (fun p => p u)
theorem unionL_snoc (ps : List (Nat → Bool)) (p : Nat → Bool) : unionL (ps ++ [p]) = fun u => unionL ps u || p u := by
  funext u; simp [unionL]

section
attribute [local go_sem] Oper.semAt_some

set_option maxHeartbeats 2000000 in
/-- the union of what an iterator yields -/
theorem together_any (gf : Nat) (lb : Array Value) (eg : ∀ args w, (callFunc gf args).run Tryz.prog w = .ok (.enter gf args) w) (Kp : World → World → Prop) (PS : List (Nat → Bool)) (N : Nat) (w : World)
    (hKt : ∀ {A B C : World}, Kp A B → Kp B C → Kp A C) (hKb : ∀ A B : World, Below w.heap.size A B → Kp A B)
    (hseq : ∀ n, 1 ≤ n → Gives0 Fence.wide n Tryz.prog gf lb encP Kp (fun ys => ys = PS) N w) :
    Calls Tryz.prog 87 #[.func (.func gf) #[] lb] w fun e w' => e = .returned (.agg (setA (unionL PS))) ∧ Below w.heap.size w w' := by
  refine (callsIn_wide (n := 6)).1 ?_
  refine callsIn_of_wp_marks Tryz.func87 rfl trivial ?_ rfl
  simp only [Tryz.ntmps87, List.size_toArray, List.length_cons, List.length_nil, Nat.reduceAdd, Nat.reduceSub, Array.replicate_succ, Array.replicate_zero, List.push_toArray, List.append_toArray, List.nil_append, List.cons_append]
  have hz1 := rowz_new w rfl
  have hz2 := rowz_new (w.alloc (.cells #[.int .u64 0, .int .u64 0, .int .u64 0, .int .u64 0, .int .u64 0, .int .u64 0, .int .u64 0, .int .u64 0, .int .u64 0, .int .u64 0, .int .u64 0, .int .u64 0, .int .u64 0, .int .u64 0, .int .u64 0, .int .u64 0] 68)) rfl
  simp only [World.size_alloc] at hz2
  gi_wp2
  obtain ⟨w2, hw2⟩ : ∃ w2, w2 = (w.alloc (.cells #[.int .u64 0, .int .u64 0, .int .u64 0, .int .u64 0, .int .u64 0, .int .u64 0, .int .u64 0, .int .u64 0, .int .u64 0, .int .u64 0, .int .u64 0, .int .u64 0, .int .u64 0, .int .u64 0, .int .u64 0, .int .u64 0] 68)).alloc (.cells #[.int .u64 0, .int .u64 0, .int .u64 0, .int .u64 0, .int .u64 0, .int .u64 0, .int .u64 0, .int .u64 0, .int .u64 0, .int .u64 0, .int .u64 0, .int .u64 0, .int .u64 0, .int .u64 0, .int .u64 0, .int .u64 0] 68) := ⟨_, rfl⟩
  have r1 : RowAt w2 w.heap.size (fun _ => false) := by rw [hw2]; exact hz1.alloc _
  have r2 : RowAt w2 (w.heap.size + 1) (fun _ => false) := by rw [hw2]; exact hz2
  have B2 : Below w.heap.size w w2 := by rw [hw2]; go_grown
  have s2 : w2.heap.size = w.heap.size + 2 := by rw [hw2]; simp
  rw [← hw2]
  clear hw2 hz1 hz2
  have HB := Lib.hid hKb
  refine range_gives rfl (by omega) (gf := gf) (lb := lb) rfl trivial eg (hseq (6 - 1) (by omega)) hKt
    (fun A B row hg hr hA => hKb A B ((Below.refl w.heap.size A).grown hg (by omega) (fun k e => by have := (hr k e).1; omega))) B2 (fun _ => rfl)
    (fun (pre : List (Nat → Bool)) W => RowAt W (w.heap.size + 1) (unionL pre) ∧ RowAt W w.heap.size (fun _ => false) ∧ (Below w.heap.size w W ∧ w2.heap.size ≤ W.heap.size))
    (fun q W => ∃ bb, w2.heap.size ≤ bb ∧ RowAt W bb q.2.1 ∧ RowAt W (w.heap.size + 1) (unionL q.1) ∧ RowAt W w.heap.size (fun _ => false) ∧ (Below w.heap.size w W ∧ w2.heap.size ≤ W.heap.size) ∧ q.2.2 = { tmps := #[.func (.func gf) #[] lb, undef, .pointer (some ⟨w.heap.size, 0, none⟩), .pointer (some ⟨w.heap.size + 1, 0, none⟩), .pointer (some ⟨bb, 0, none⟩), .agg #[.int .u64 0, .int .u64 0, .int .u64 0, .int .u64 0, .int .u64 0, .int .u64 0, .int .u64 0, .int .u64 0, .int .u64 0, .int .u64 0, .int .u64 0, .int .u64 0, .int .u64 0, .int .u64 0, .int .u64 0, .int .u64 0], .func (.func gf) #[] lb, .agg (setA q.2.1), undef, undef, undef, undef], defers := [] })
    ?ownI ?ownA ⟨r2, r1, B2, Nat.le_refl _⟩ ?assign ?body ?done
  case assign =>
    intro l pre x W K ⟨h1, h2, h3, h4⟩ hK
    dsimp only [encP]
    have hzW := rowz_new W rfl
    have hxW : RowAt ((W.alloc (.cells #[.int .u64 0, .int .u64 0, .int .u64 0, .int .u64 0, .int .u64 0, .int .u64 0, .int .u64 0, .int .u64 0, .int .u64 0, .int .u64 0, .int .u64 0, .int .u64 0, .int .u64 0, .int .u64 0, .int .u64 0, .int .u64 0] 68)).setRow W.heap.size (setA x)) W.heap.size x := row_set hzW
    have gW : (W.alloc (.cells #[.int .u64 0, .int .u64 0, .int .u64 0, .int .u64 0, .int .u64 0, .int .u64 0, .int .u64 0, .int .u64 0, .int .u64 0, .int .u64 0, .int .u64 0, .int .u64 0, .int .u64 0, .int .u64 0, .int .u64 0, .int .u64 0] 68)).grownBy ((W.alloc (.cells #[.int .u64 0, .int .u64 0, .int .u64 0, .int .u64 0, .int .u64 0, .int .u64 0, .int .u64 0, .int .u64 0, .int .u64 0, .int .u64 0, .int .u64 0, .int .u64 0, .int .u64 0, .int .u64 0, .int .u64 0, .int .u64 0] 68)).setRow W.heap.size (setA x)) (some W.heap.size) := grown_setRow _
    have bW : Below W.heap.size W ((W.alloc (.cells #[.int .u64 0, .int .u64 0, .int .u64 0, .int .u64 0, .int .u64 0, .int .u64 0, .int .u64 0, .int .u64 0, .int .u64 0, .int .u64 0, .int .u64 0, .int .u64 0, .int .u64 0, .int .u64 0, .int .u64 0, .int .u64 0] 68)).setRow W.heap.size (setA x)) := ((Below.refl _ W).alloc (Nat.le_refl _) _).grown gW (by simp) (fun j e => by cases e; exact Nat.le_refl _)
    gi_wp2_with (first | (refine wpListIn_st16 rfl _ _ rfl hzW x rfl rfl ?_) | fail)
    refine hK _ _ ⟨W.heap.size, h4, hxW, h1.below bW h1.lt, h2.below bW h2.lt, ⟨h3.trans (bW.mono h3.size), Nat.le_trans h4 bW.size⟩, rfl⟩ bW
  case body =>
    rintro l pre x a' W ⟨bb, hbb2, hx, hc, hr, ⟨hB, hsz⟩, ha⟩ hlt
    dsimp only at ha hx hc
    subst ha
    gi_wp2_with (first
      | (refine wpListIn_ld16 rfl _ rfl hc rfl ?_)
      | (refine wpListIn_ld16 rfl _ rfl hx rfl ?_)
      | (refine ⟨trivial, ?_⟩; gi_at_call 49; refine (CallsIn.inRound l (callsIn_wide.2 (with_any (unionL pre) x W))).mono ?_; rintro e w4 ⟨rfl, hb4⟩; have hc4 := hc.below hb4 hc.lt)
      | (refine wpListIn_st16 rfl _ _ rfl hc4 (fun u => unionL pre u || x u) rfl rfl ?_)
      | fail)
    have g4 := grown_setRow (w := w4) (b := w.heap.size + 1) (setA fun u => unionL pre u || x u)
    have c4 : RowAt (w4.setRow (w.heap.size + 1) (setA fun u => unionL pre u || x u)) (w.heap.size + 1) (unionL (pre ++ [x])) := by rw [unionL_snoc]; exact row_set hc4
    have b4 : Below w.heap.size W (w4.setRow (w.heap.size + 1) (setA fun u => unionL pre u || x u)) := (hb4.mono hB.size).grown g4 (by have := hb4.size; have := hB.size; omega) (fun j e => by cases e; omega)
    refine ⟨(keepsFrom_below hb4).trans (KeepsFrom.of_grownBy g4 (fun j e => by cases e; omega)), HB.out _ _ b4, c4, (hr.below hb4 hr.lt).kept g4 (by omega), hB.trans b4, by have := b4.size; omega⟩
  case done =>
    rintro D xs W hD rfl ⟨hc, hr, hB, hsz⟩ hK
    gi_wp2_with (first
      | (refine wpListIn_ld16 rfl _ rfl hc rfl ?_)
      | (refine wpListIn_st16 rfl _ _ rfl hr (unionL xs) rfl rfl ?_)
      | fail)
    have g4 := grown_setRow (w := W) (b := w.heap.size) (setA (unionL xs))
    have hK' : (W.setRow w.heap.size (setA (unionL xs))).heap[D]? = some (.deferred (some [])) := (g4.block D (Array.getElem?_eq_some_iff.1 hK).1 (fun e => by rcases e with e; simp only [Option.some.injEq] at e; omega)).trans hK
    have r4 : RowAt (W.setRow w.heap.size (setA (unionL xs))) w.heap.size (unionL xs) := row_set hr
    have b4 : Below w.heap.size w (W.setRow w.heap.size (setA (unionL xs))) := hB.grown g4 hB.size (fun j e => by cases e; omega)
    refine leaves_marksJ (B := w2.heap.size) (J := fun W => RowAt W w.heap.size (unionL xs) ∧ (Below w.heap.size w W ∧ w2.heap.size ≤ W.heap.size)) (fun W r o o' hj' hr hh ho => ⟨(row_own w.heap.size (fun _ : Unit => unionL xs)) () W _ (some r) hj'.1 (grownBy_putObj' _ _ _) (fun r' e => by cases e; exact ⟨o, hh, ho⟩), hj'.2.1.grown (grownBy_putObj' _ _ _) hj'.2.1.size (fun j e => by cases e; omega), by simpa using hj'.2.2⟩)
      (fun W' h' => ⟨_, results16 rfl _ h'.1 rfl, rfl, h'.2.1⟩) _ _ ⟨⟨D, rfl, hD, hK', by simp⟩, trivial⟩ ⟨r4, b4, by have := g4.size; omega⟩
  case ownI => exact OwnFrom.and (Own.from (row_own _ (fun pre : List (Nat → Bool) => unionL pre)) _) (OwnFrom.and (Own.from (row_own _ (fun pre : List (Nat → Bool) => fun _ => false)) _) (OwnFrom.and (ownFrom_below (Nat.le_refl _) B2.size) (fun _ _ _ _ hs hg _ => Nat.le_trans hs hg.size)))
  case ownA =>
    rintro q A B row ⟨bb, h1, h2, h3, h4, ⟨h5, h6⟩, h7⟩ hg hr
    have own := fun (b : Nat) (p : Nat → Bool) (h : RowAt A b p) => (row_own b (fun _ : Unit => p)) () A B row h hg (fun r e => (hr r e).2)
    exact ⟨bb, h1, own _ _ h2, own _ _ h3, own _ _ h4, ⟨h5.grown hg h5.size (fun j e => by have := (hr j e).1; have := B2.size; omega), Nat.le_trans h6 hg.size⟩, h7⟩


end

end Go.Proofs.YtpmfedllbiblbaaGreat

namespace Go.Proofs.YtpmfedllbiblbaaGreat
open Go.RowKit Go.Shelf Cv
set_option linter.unusedVariables false
set_option linter.unusedSimpArgs false
set_option maxRecDepth 100000

attribute [local go_sem] Oper.semAt_some

/-- the words that a code covers -/
def covN (S C : List Int) (r : Int) : Nat → Bool := unionL (C.map (ballN S r))

/-- the set of all words -/
def allN (S : List Int) : Nat → Bool := fun u => decide (u < (nW S).toNat)
end Go.Proofs.YtpmfedllbiblbaaGreat

namespace Go.Proofs.YtpmfedllbiblbaaGreat
open Go.RowKit Go.Shelf Cv
set_option linter.unusedVariables false
set_option linter.unusedSimpArgs false
set_option maxRecDepth 100000

section
attribute [local go_sem] Oper.semAt_some

/-- the cells of a list of sets -/
def cellsP (ps : List (Nat → Bool)) : List Value := ps.flatMap fun p => (setA p).toList
theorem cellsP_len (ps : List (Nat → Bool)) : (cellsP ps).length = ps.length * 16 := by
  induction ps with
  | nil => rfl
  | cons p ps ih => rw [cellsP, List.flatMap_cons, List.length_append]; have := setA_size p; rw [← cellsP, ih]; simp [setA_size]; omega
def OwnSets (w : World) (base : Nat) (v : Value) (ps : List (Nat → Bool)) : Prop := w.ownsRow base 68 16 v ps.length (cellsP ps)
theorem infoSet : (Tryz.prog.info? 68).map (fun i => (i.zero, i.size, i.bytes)) = some (some (.agg (setA fun _ => false)), 16, 128) := by rw [setA_none]; kernel_rfl

theorem OwnSets.below {w w' : World} {base : Nat} {v : Value} {ps : List (Nat → Bool)} (h : OwnSets w base v ps) (hb : Below w.heap.size w w') : OwnSets w' base v ps := by
  obtain ⟨h1, h2⟩ := h
  refine ⟨h1, ?_⟩
  rcases h2 with h2 | ⟨g, cap, cur, hv, hg, hh, r⟩
  · exact Or.inl h2
  · exact Or.inr ⟨g, cap, cur, hv, hg, by rw [hb.block g (Array.getElem?_eq_some_iff.1 hh).1]; exact hh, r⟩
theorem OwnSets.alloc {w : World} {base : Nat} {v : Value} {ps : List (Nat → Bool)} (h : OwnSets w base v ps) (o : Obj) : OwnSets (w.alloc o) base v ps := World.ownsRow.alloc h o
theorem sets_some {w : World} {base : Nat} {v : Value} {ps : List (Nat → Bool)} (h : OwnSets w base v ps) (hp : ps ≠ []) : ∃ g cap, v = .slice (some ⟨g, 0, none⟩) ps.length cap := by
  rcases h.2 with ⟨hv, hn⟩ | ⟨g, cap, cur, hv, _⟩
  · exact absurd (List.eq_nil_of_length_eq_zero hn) hp
  · exact ⟨g, cap, hv⟩
end

theorem addr_add (g o i : Nat) : (⟨g, o, none⟩ : Addr).add i = ⟨g, o + i, none⟩ := by unfold Addr.add; split <;> simp_all
def pAt (L : List (Nat → Bool)) (j : Nat) : Nat → Bool := L.getD j fun _ => false
theorem cellsP_get (L : List (Nat → Bool)) (i : Nat) (h : i < L.length * 16) : (cellsP L)[i]? = (setA (pAt L (i / 16)))[i % 16]? := by
  induction L generalizing i with
  | nil => simp at h
  | cons p L ih =>
    rw [cellsP, List.flatMap_cons, ← cellsP]
    have hp : (setA p).toList.length = 16 := by simp [setA_size]
    by_cases h16 : i < 16
    · rw [List.getElem?_append_left (by omega), Nat.div_eq_of_lt h16, Nat.mod_eq_of_lt h16]; simp [pAt]
    · rw [List.getElem?_append_right (by omega), hp, ih (i - 16) (by simp at h; omega)]
      have e1 : i / 16 = (i - 16) / 16 + 1 := by omega
      have e2 : i % 16 = (i - 16) % 16 := by omega
      rw [e1, e2]; simp [pAt]

def putCells (cur : Array Value) (o : Nat) : List Value → Array Value
  | [] => cur
  | v :: vs => putCells (cur.setIfInBounds o v) (o + 1) vs
theorem putCells_size (vs : List Value) (cur : Array Value) (o : Nat) : (putCells cur o vs).size = cur.size := by
  induction vs generalizing cur o with
  | nil => rfl
  | cons v vs ih => rw [putCells, ih]; simp
theorem putCells_get (vs : List Value) (cur : Array Value) (o : Nat) (h : o + vs.length ≤ cur.size) (k : Nat) : (putCells cur o vs)[k]? = if o ≤ k ∧ k < o + vs.length then vs[k - o]? else cur[k]? := by
  induction vs generalizing cur o with
  | nil => rw [putCells, if_neg (by simp)]
  | cons v vs ih =>
    rw [putCells, ih _ _ (by simp at h ⊢; omega)]
    simp only [List.length_cons] at h ⊢
    by_cases e : k = o
    · subst e
      rw [if_neg (by omega), if_pos (by omega), Nat.sub_self]
      simp [show k < cur.size by omega]
    · by_cases h2 : o + 1 ≤ k ∧ k < o + 1 + vs.length
      · rw [if_pos h2, if_pos (by omega), show k - o = (k - (o + 1)) + 1 by omega, List.getElem?_cons_succ]
      · rw [if_neg h2, if_neg (by omega), Array.getElem?_setIfInBounds_ne (by omega)]

theorem run_storeCells_mid (g : Nat) (t : TypeId) : ∀ (vs : List Value) (o i : Nat) (cur : Array Value) (w : World), w.heap[g]? = some (.cells cur t (0, 0)) → o + i + vs.length ≤ cur.size → (∀ v ∈ vs, v.oneCell' = true) →
    (storeCells ⟨g, o, none⟩ vs i).run Tryz.prog w = .ok () (w.setRow g (putCells cur (o + i) vs))
  | [], o, i, cur, w, hg, hl, _ => by
    have h := run_storeCells_from (P := Tryz.prog) g t [] cur.size cur w hg (by simp) (by simp)
    rw [putCells]
    simp only [storeCells] at h ⊢
    simpa [List.take_of_length_le] using h
  | v :: rest, o, i, cur, w, hg, hl, h1 => by
    simp only [List.length_cons] at hl
    have hi : o + i < cur.size := by omega
    have hcell : w.cell? ⟨g, o + i, none⟩ = some cur[o + i] := by simp [World.cell?, hg, hi]
    have hfro : w.frozen? ⟨g, o + i, none⟩ = false := by simp [World.frozen?, hg]
    have hst : (store ((⟨g, o, none⟩ : Addr).add i) v).run Tryz.prog w = .ok () (w.setRow g (cur.setIfInBounds (o + i) v)) := by
      rw [addr_add, run_store Tryz.prog w _ v _ (h1 v (by simp)), hcell]
      simp [hfro, setCell_eq_setRow w g (o + i) cur t (0, 0) v hg]
    have ih := run_storeCells_mid g t rest o (i + 1) (cur.setIfInBounds (o + i) v) (w.setRow g (cur.setIfInBounds (o + i) v)) (setRow_heap w g cur _ t _ hg) (by simp; omega) (fun x hx => h1 x (by simp [hx]))
    simp only [storeCells, Sem.run_bind, hst, Result.andThen_ok, ih, setRow_setRow, putCells]
    rfl

theorem ldAt {w : World} {g o : Nat} {p : Nat → Bool} (h : ∀ k, k < 16 → w.cell? ⟨g, o + k, none⟩ = some (.int .u64 (partN p k))) : (loadVar 68 ⟨g, o, none⟩).run Tryz.prog w = .ok (.agg (setA p)) w := by
  have hl : (loadCells ⟨g, o, none⟩ (setA p).toList.length).run Tryz.prog w = .ok (setA p).toList.toArray w :=
    run_loadCells_list (P := Tryz.prog) w ⟨g, o, none⟩ (setA p).toList (fun j v hv => by
      have hj : j < 16 := by
        have := (List.getElem?_eq_some_iff.1 hv).1
        simpa [setA_size] using this
      rw [addr_add, h j hj, ← setA_get p j hj]
      simpa using hv)
  cases hq : Tryz.prog.info? 68 with
  | none => have := info81; simp [hq] at this
  | some i =>
    have hs : i.size = 16 := by have := info81; simpa [hq] using this
    have hagg : (isAgg 68).run Tryz.prog w = .ok true w := by
      unfold isAgg
      rw [Sem.run_bind, run_underlying Tryz.underlying68 w]
      rfl
    simp only [Array.length_toList, Array.toArray_toList, setA_size] at hl
    simp [loadVar, Sem.run_bind, hagg, sizeOf, typeInfo, hq, hs, hl]
theorem exec_ldAt {a : Act} {w : World} {g q : Nat} {p : Nat → Bool} (h : ∀ k, k < 16 → w.cell? ⟨g, q + k, none⟩ = some (.int .u64 (partN p k))) (o : Oper) (x : Operand) (ho : o.op = .load 68 x) (hx : a.eval x = .pointer (some ⟨g, q, none⟩)) : (execOp a.eval o).run Tryz.prog w = .ok (.value (.agg (setA p))) w := by
  unfold execOp
  simp only [ho, hx, Instr.loadAt, Instr.sureAddr, Sem.run_bind, Sem.run_pure, Result.andThen_ok, ldAt h]

theorem OwnSets.cells {w : World} {base g n c : Nat} {L : List (Nat → Bool)} (h : OwnSets w base (.slice (some ⟨g, 0, none⟩) n c) L) (j : Nat) (hj : j < L.length) (k : Nat) (hk : k < 16) : w.cell? ⟨g, j * 16 + k, none⟩ = some (.int .u64 (partN (pAt L j) k)) := by
  rcases h.2 with ⟨hv, _⟩ | ⟨g', c', cur, hv, hb, hh, hle, hm, hs, ht⟩
  · simp at hv
  · simp only [Value.slice.injEq, Option.some.injEq, Addr.mk.injEq, and_true, true_and] at hv
    obtain ⟨rfl, rfl, rfl⟩ := hv
    have h1 := cellsP_get L (j * 16 + k) (by omega)
    rw [← ht, List.getElem?_take_of_lt (by omega), show (j * 16 + k) / 16 = j by omega, show (j * 16 + k) % 16 = k by omega, setA_get _ _ hk] at h1
    rw [cell_of_row w g _ _ _ _ hh]
    simpa using h1
theorem OwnSets.base_le {w : World} {base g n c : Nat} {L : List (Nat → Bool)} (h : OwnSets w base (.slice (some ⟨g, 0, none⟩) n c) L) : base ≤ g ∧ g < w.heap.size := by
  rcases h.2 with ⟨hv, _⟩ | ⟨g', c', cur, hv, hb, hh, hle, hm, hs, ht⟩
  · simp at hv
  · simp only [Value.slice.injEq, Option.some.injEq, Addr.mk.injEq, and_true, true_and] at hv
    obtain ⟨rfl, rfl, rfl⟩ := hv
    exact ⟨hb, (Array.getElem?_eq_some_iff.1 hh).1⟩
theorem pAt_set (L : List (Nat → Bool)) (j i : Nat) (p : Nat → Bool) (hj : j < L.length) : pAt (L.set j p) i = if i = j then p else pAt L i := by
  unfold pAt
  by_cases e : i = j
  · subst e; simp [List.getD, hj]
  · rw [if_neg e]; simp [List.getD, List.getElem?_set_ne (Ne.symm e)]

/-- a store of a set into the list -/
theorem OwnSets.stored {w : World} {base g n c : Nat} {L : List (Nat → Bool)} (h : OwnSets w base (.slice (some ⟨g, 0, none⟩) n c) L) (j : Nat) (hj : j < L.length) (p : Nat → Bool) :
    ∃ w2, (storeVar 68 ⟨g, j * 16, none⟩ (.agg (setA p))).run Tryz.prog w = .ok () w2 ∧ OwnSets w2 base (.slice (some ⟨g, 0, none⟩) n c) (L.set j p) ∧ w.grownBy w2 (some g) := by
  obtain ⟨h1, h2⟩ := h
  rcases h2 with ⟨hv, _⟩ | ⟨g', c', cur, hv, hb, hh, hle, hm, hs, ht⟩
  · simp at hv
  · simp only [Value.slice.injEq, Option.some.injEq, Addr.mk.injEq, and_true, true_and] at hv
    obtain ⟨rfl, rfl, rfl⟩ := hv
    have hlen : (setA p).toList.length = 16 := by simp [setA_size]
    have hr := run_storeCells_mid g 68 (setA p).toList (j * 16) 0 cur w hh (by rw [hlen]; omega) (fun v hv => (Array.all_eq_true_iff_forall_mem.1 (setA_one p)) v (by simpa using hv))
    refine ⟨w.setRow g (putCells cur (j * 16) (setA p).toList), ?_, ⟨?_, .inr ⟨g, c, putCells cur (j * 16) (setA p).toList, by simp, hb, setRow_heap w g _ _ _ _ hh, by simpa using hle, hm, by rw [putCells_size, hs], ?_⟩⟩, grown_setRow _⟩
    · cases hq : Tryz.prog.info? 68 with
      | none => have := info81; simp [hq] at this
      | some i =>
        have hsz : i.size = 16 := by have := info81; simpa [hq] using this
        simp only [Nat.add_zero] at hr
        simp [storeVar, sizeOf, typeInfo, hq, Value.cells, hsz, setA_size, hr]
    · rw [cellsP_len]
    · apply List.ext_getElem?
      intro i
      by_cases hi : i < L.length * 16
      · rw [List.getElem?_take_of_lt (by simpa using hi), cellsP_get _ _ (by simpa using hi), Array.getElem?_toList, putCells_get _ _ _ (by rw [hlen]; omega), hlen, pAt_set _ _ _ _ hj]
        by_cases e : j * 16 ≤ i ∧ i < j * 16 + 16
        · rw [if_pos e, if_pos (by omega), show i % 16 = i - j * 16 by omega]; simp
        · rw [if_neg e, if_neg (by omega), ← cellsP_get _ _ hi, ← ht, List.getElem?_take_of_lt hi, Array.getElem?_toList]
      · rw [List.getElem?_eq_none (by simp [putCells_size]; omega), List.getElem?_eq_none (by rw [cellsP_len]; simp; omega)]


theorem own_madeSets {w : World} {base : Nat} {v : Value} {n : Nat} (h : w.ownsRow base 68 16 v n (madeCells (Value.agg (setA fun _ => false)).cells (n * 16)).toList) : OwnSets w base v (List.replicate n fun _ => false) := by
  unfold OwnSets
  rw [List.length_replicate]
  have e : (madeCells (Value.agg (setA fun _ => false)).cells (n * 16)).toList = cellsP (List.replicate n fun _ => false) := by
    apply List.ext_getElem?
    intro i
    by_cases hi : i < n * 16
    · rw [cellsP_get _ _ (by simpa using hi)]
      have e1 : pAt (List.replicate n fun _ => false) (i / 16) = fun _ => false := by
        unfold pAt; rw [List.getD_eq_getElem?_getD, List.getElem?_replicate]; split <;> rfl
      rw [e1, Array.getElem?_toList]
      have h16 : i % 16 < (setA fun _ => false).size := by rw [setA_size]; omega
      simp only [madeCells, Value.cells, setA_size, Array.getElem?_map, Array.getElem?_range]
      rw [if_pos hi, Option.map_some, getElem!_pos (setA fun _ => false) (i % 16) h16, Array.getElem?_eq_getElem h16]
    · rw [List.getElem?_eq_none (by simp [size_madeCells]; omega), List.getElem?_eq_none (by rw [cellsP_len]; simp; omega)]
  rw [← e]; exact h

/-- the sets behind the j-th one, together -/
def behU (L : List (Nat → Bool)) (j : Nat) : Nat → Bool := unionL (L.drop (j + 1))
theorem behU_step (L : List (Nat → Bool)) (k : Nat) (h1 : 1 ≤ k) (hk : k < L.length) : (fun u => behU L k u || pAt L k u) = behU L (k - 1) := by
  funext u
  unfold behU unionL
  rw [show k - 1 + 1 = k by omega, List.drop_eq_getElem_cons hk, List.any_cons, Bool.or_comm]
  congr 1
  simp [pAt, List.getD, hk]
theorem behU_last (L : List (Nat → Bool)) (j : Nat) (h : L.length ≤ j + 1) : behU L j = fun _ => false := by
  unfold behU; rw [List.drop_eq_nil_of_le h]; rfl
theorem wp_stAt {o : Oper} {a : Act} {w w3 : World} {K : Act → World → Prop} {Q : Exit → Act → World → Prop} {g q : Nat} {p : Nat → Bool} (x y : Operand) (ho : o.op = .store 68 x y) (hx : a.eval x = .pointer (some ⟨g, q, none⟩)) (hy : a.eval y = .agg (setA p))
    (hst : (storeVar 68 ⟨g, q, none⟩ (.agg (setA p))).run Tryz.prog w = .ok () w3) (h : K (a.put o.dst undef) w3) : o.wp Tryz.prog a w K Q := by
  unfold Oper.wp execOp
  simp only [ho, hx, hy, Instr.storeAt, Instr.sureAddr, Sem.run_bind, Sem.run_pure, Result.andThen_ok, hst]
  exact h

set_option maxHeartbeats 2000000 in
theorem setsBehind_any (bs : Nat) (av : Option Addr) (cap : Nat) (PS : List (Nat → Bool)) (hl : PS.length ≤ 1048576) (w : World) (hbs : bs ≤ w.heap.size) (hS : OwnSets w bs (.slice av PS.length cap) PS) :
    Calls Tryz.prog 81 #[.slice av PS.length cap] w fun e w' => ∃ g L, e = .returned (.slice (some ⟨g, 0, none⟩) PS.length PS.length) ∧ OwnSets w' w.heap.size (.slice (some ⟨g, 0, none⟩) PS.length PS.length) L ∧ L.length = PS.length ∧ (∀ j, j < PS.length → pAt L j = behU PS j) ∧ Below w.heap.size w w' := by
  obtain ⟨i0, hi, hz0, hz1, hz2⟩ := info_parts infoSet
  go_enter Tryz.func81, Tryz.ntmps81
  go_wp2_with (at_make; refine wpList_make_full _ rfl _ _ 55 rfl w.heap.size 68 i0 (.agg (setA fun _ => false)) 16 Tryz.underlying55 hi hz0 hz1 .i64 .i64 _ _ PS.length rfl rfl rfl rfl (by rw [hz2]; omega) (by unfold maxLen; omega) (by omega) ?_; intro w1 hown hgrow)
  replace hown := own_madeSets hown
  have B1 : Below w.heap.size w w1 := below_grown0 hgrow
  obtain ⟨g, hg, hown⟩ : ∃ g, g = w.heap.size ∧ OwnSets w1 w.heap.size (.slice (some ⟨g, 0, none⟩) PS.length PS.length) (List.replicate PS.length fun _ => false) := ⟨_, rfl, hown⟩
  have hgw : w.heap.size ≤ g := by omega
  obtain ⟨K, hK⟩ : ∃ K, K = PS.length := ⟨_, rfl⟩
  rw [← hg]
  rw [← hK] at hown hS hl ⊢
  have HK := Lib.hid hK
  have hg1 := hown.base_le
  have E1 : IntKind.i64.wrap ((K : Int) - 1) = (K : Int) - 1 := IntWalk.i64_in _ ⟨by omega, by omega⟩
  clear hg hK hgrow
  go_wp2_with fail
  go_loopw [4] (fun i wr => ∃ (k : Int) (L : List (Nat → Bool)), -1 ≤ k ∧ k < K ∧ i = .int .i64 k ∧ OwnSets wr w.heap.size (.slice (some ⟨g, 0, none⟩) K K) L ∧ Hid (L.length = K ∧ ∀ j : Nat, j < K → pAt L j = if k ≤ (j : Int) then behU PS j else fun _ => false) ∧ Below w.heap.size w wr) (fun i _ => (intOf i).toNat)
  case atStart =>
    refine ⟨(K : Int) - 1, _, by omega, by omega, rfl, hown, Lib.hid ⟨by simp, fun j hj => ?_⟩, B1⟩
    have e1 : pAt (List.replicate K fun _ => false) j = fun _ => false := by
      unfold pAt; rw [List.getD_eq_getElem?_getD, List.getElem?_replicate]; split <;> rfl
    rw [e1]
    split
    · rw [behU_last]; rw [← HK.out]; omega
    · rfl
  case round =>
    clear hown B1 hg1 E1
    obtain ⟨k, L, hk, hkK, rfl, own, HL, B⟩ := hrel
    by_cases hlt : 0 < k
    · obtain ⟨n, hn⟩ : ∃ n : Nat, k = (n : Int) := ⟨k.toNat, by omega⟩
      subst hn
      have hnK : n < K := by omega
      have own0 := hS.below B
      obtain ⟨gs, cs, hv⟩ := sets_some hS (by intro h; rw [h] at HK; have := HK.out; simp at this; omega)
      have hS2 : OwnSets wr bs (.slice av K cap) PS := hS.below B
      simp only [Value.slice.injEq] at hv
      obtain ⟨rfl, hv2, rfl⟩ := hv
      clear hv2 own0
      have cS := hS2.cells n (by rw [← HK.out]; exact hnK)
      have cL := own.cells n (by rw [HL.out.1]; exact hnK)
      rw [HL.out.2 n hnK, if_pos (Int.le_refl _)] at cL
      have b1 : (n : Int) < (K : Int) := by omega
      have b2 : (0 : Int) ≤ (n : Int) := by omega
      have b3 : (n : Int) - 1 < (K : Int) := by omega
      have b4 : (0 : Int) ≤ (n : Int) - 1 := by omega
      have E2 : IntKind.i64.wrap ((n : Int) - 1) = (n : Int) - 1 := IntWalk.i64_in _ ⟨by omega, by omega⟩
      have E3 : ((n : Int) - 1).toNat = n - 1 := by omega
      go_wp2_with fail
      refine wp_region_held_drew (S := fun w' => (∀ k, k < 16 → w'.cell? ⟨g, n * 16 + k, none⟩ = some (.int .u64 (partN (behU PS n) k))) ∧ (∀ k, k < 16 → w'.cell? ⟨gs, n * 16 + k, none⟩ = some (.int .u64 (partN (pAt PS n) k)))) (by kernel_rfl) ⟨cL, cS⟩ (fun hHeld => ?_)
      refine wpAnyH_take (i := 0) (v := ?_) rfl (by kernel_rfl) (by kernel_rfl) (by kernel_rfl) (fun _ _ _ h => h) (Or.inl ⟨by rfl, ?_⟩) (by assumption) ?_
      rotate_left
      · (intro W hSw; go_simp; try (with_reducible rfl))
      (try simp only [Act.put, List.setIfInBounds_toArray, List.set_cons_zero, List.set_cons_succ])
      refine wpAnyH_take (i := 1) (v := ?_) rfl (by kernel_rfl) (by kernel_rfl) (by kernel_rfl) (fun _ _ _ h => h) (Or.inl ⟨by rfl, ?_⟩) (by assumption) ?_
      rotate_left
      · (intro W hSw; go_simp; try (with_reducible rfl))
      (try simp only [Act.put, List.setIfInBounds_toArray, List.set_cons_zero, List.set_cons_succ])
      refine wpAnyH_take (i := 2) (v := ?_) rfl (by kernel_rfl) (by kernel_rfl) (by kernel_rfl) (fun _ _ _ h => h) (Or.inl ⟨by rfl, ?_⟩) (by assumption) ?_
      rotate_left
      · (intro W hSw; go_simp; try (with_reducible rfl))
      (try simp only [Act.put, List.setIfInBounds_toArray, List.set_cons_zero, List.set_cons_succ])
      refine wpAnyH_take (i := 3) (v := ?_) rfl (by kernel_rfl) (by kernel_rfl) (by kernel_rfl) (fun _ _ _ h => h) (Or.inl ⟨by rfl, ?_⟩) (by assumption) ?_
      rotate_left
      · (intro W hSw; go_simp; try (with_reducible rfl))
      (try simp only [Act.put, List.setIfInBounds_toArray, List.set_cons_zero, List.set_cons_succ])
      refine wpAnyH_take (i := 4) (v := ?_) rfl (by kernel_rfl) (by kernel_rfl) (by kernel_rfl) (fun _ _ _ h => h) (Or.inl ⟨by rfl, ?_⟩) (by assumption) ?_
      rotate_left
      · (intro W hSw; go_simp; try (with_reducible rfl))
      (try simp only [Act.put, List.setIfInBounds_toArray, List.set_cons_zero, List.set_cons_succ])
      refine wpAnyH_take (i := 5) (v := .pointer (some ⟨g, n * 16, none⟩)) rfl (by kernel_rfl) (by kernel_rfl) (by kernel_rfl) (fun _ _ _ h => h) (Or.inl ⟨by rfl, ?_⟩) (by assumption) ?_
      · (intro W hSw; go_simp)
      (try simp only [Act.put, List.setIfInBounds_toArray, List.set_cons_zero, List.set_cons_succ])
      refine wpAnyH_take (i := 6) (v := .agg (setA (behU PS n))) rfl (by kernel_rfl) (by kernel_rfl) (by kernel_rfl) (fun _ _ _ h => h) (Or.inl ⟨by rfl, ?_⟩) (by assumption) ?_
      · (intro W hSw; exact exec_ldAt hSw.1 _ (.tmp 20) (by kernel_rfl) (by kernel_rfl))
      (try simp only [Act.put, List.setIfInBounds_toArray, List.set_cons_zero, List.set_cons_succ])
      refine wpAnyH_take (i := 7) (v := ?_) rfl (by kernel_rfl) (by kernel_rfl) (by kernel_rfl) (fun _ _ _ h => h) (Or.inl ⟨by rfl, ?_⟩) (by assumption) ?_
      rotate_left
      · (intro W hSw; go_simp; try (with_reducible rfl))
      (try simp only [Act.put, List.setIfInBounds_toArray, List.set_cons_zero, List.set_cons_succ])
      refine wpAnyH_take (i := 8) (v := ?_) rfl (by kernel_rfl) (by kernel_rfl) (by kernel_rfl) (fun _ _ _ h => h) (Or.inl ⟨by rfl, ?_⟩) (by assumption) ?_
      rotate_left
      · (intro W hSw; go_simp; try (with_reducible rfl))
      (try simp only [Act.put, List.setIfInBounds_toArray, List.set_cons_zero, List.set_cons_succ])
      refine wpAnyH_take (i := 9) (v := .pointer (some ⟨gs, n * 16, none⟩)) rfl (by kernel_rfl) (by kernel_rfl) (by kernel_rfl) (fun _ _ _ h => h) (Or.inl ⟨by rfl, ?_⟩) (by assumption) ?_
      · (intro W hSw; go_simp)
      (try simp only [Act.put, List.setIfInBounds_toArray, List.set_cons_zero, List.set_cons_succ])
      refine wpAnyH_take (i := 10) (v := .agg (setA (pAt PS n))) rfl (by kernel_rfl) (by kernel_rfl) (by kernel_rfl) (fun _ _ _ h => h) (Or.inl ⟨by rfl, ?_⟩) (by assumption) ?_
      · (intro W hSw; exact exec_ldAt hSw.2 _ (.tmp 24) (by kernel_rfl) (by kernel_rfl))
      (try simp only [Act.put, List.setIfInBounds_toArray, List.set_cons_zero, List.set_cons_succ])
      refine wpAnyH_ready (rs := [11]) (by kernel_rfl) (by simp) ?_
      refine AllReadyH.cons rfl (fun K hK => ?_) AllReadyH.nil
      go_simp
      (go_at_call 49; refine (with_any (behU PS n) (pAt PS n) _).mono ?_)
      rintro e w2 ⟨rfl, hb2'⟩
      have hb2 : Below wr.heap.size wr w2 := (Below.refl _ wr).drew.trans hb2'
      have own2 := own.below hb2
      have B2 := B.trans (hb2.mono B.size)
      obtain ⟨w3, hst, own3, g3⟩ := own2.stored (n - 1) (by rw [HL.out.1]; omega) (fun u => behU PS n u || pAt PS n u)
      have B3 : Below w.heap.size w w3 := B2.grown g3 B2.size (fun j e => by cases e; exact hgw)
      clear own2 hHeld
      refine hK.out _ _ ⟨fun k hk => (hb2.cell (p := ⟨g, n * 16 + k, none⟩) (own.base_le.2)).trans (cL k hk), fun k hk => (hb2.cell (p := ⟨gs, n * 16 + k, none⟩) (hS2.base_le.2)).trans (cS k hk)⟩ (fun hHeld => ?_)
      clear hK K
      (try simp only [Act.put, List.setIfInBounds_toArray, List.set_cons_zero, List.set_cons_succ])
      refine wpAnyH_take (i := 12) (v := .pointer (some ⟨g, (n - 1) * 16, none⟩)) rfl (by kernel_rfl) (by kernel_rfl) (by kernel_rfl) (fun _ _ _ h => h) (Or.inl ⟨by rfl, ?_⟩) (by assumption) ?_
      · (intro W hSw; go_simp; intro h; omega)
      (try simp only [Act.put, List.setIfInBounds_toArray, List.set_cons_zero, List.set_cons_succ])
      refine wpAnyH_ready (rs := [13]) (by kernel_rfl) (by simp) ?_
      refine AllReadyH.cons rfl (fun K' hK => ?_) AllReadyH.nil
      rw [if_pos (by kernel_rfl)]
      refine wp_stAt (.tmp 27) (.tmp 26) (by kernel_rfl) (by kernel_rfl) (by kernel_rfl) hst ?_
      refine hK.out _ _ ⟨fun k hk => ?_, fun k hk => g3.cell (a := ⟨gs, n * 16 + k, none⟩) ((hb2.cell (p := ⟨gs, n * 16 + k, none⟩) hS2.base_le.2).trans (cS k hk)) (fun e => by have h1 := Option.some.inj e; have h2 := hS.base_le.2; simp at h1; omega)⟩ (fun hHeld => ?_)
      · rw [own3.cells n (by simp; rw [HL.out.1]; exact hnK) k hk, pAt_set _ _ _ _ (by rw [HL.out.1]; omega), if_neg (by omega), HL.out.2 n hnK, if_pos (Int.le_refl _)]
      clear hK K'
      (try simp only [Act.put, List.setIfInBounds_toArray, List.set_cons_zero, List.set_cons_succ])
      refine wpAnyH_done (by kernel_rfl) ?_ _
      go_wp2_with fail
      go_roundw
      case rel =>
        refine ⟨(n : Int) - 1, _, by omega, by omega, by go_num, own3, Lib.hid ⟨by simp; exact HL.out.1, fun j hj => ?_⟩, B3⟩
        rw [pAt_set _ _ _ _ (by rw [HL.out.1]; omega), behU_step PS n (by omega) (by rw [← HK.out]; exact hnK)]
        by_cases e : j = n - 1
        · subst e; rw [if_pos rfl, if_pos (by omega)]
        · rw [if_neg e, HL.out.2 j hj]
          by_cases h : (n : Int) ≤ (j : Int)
          · rw [if_pos h, if_pos (by omega)]
          · rw [if_neg h, if_neg (by omega)]
      case measure => simp [intOf]; omega
    · go_wp2_with fail
      go_ret
      exact ⟨g, by rw [← HK.out]; rfl, L, by rw [← HK.out]; exact own, by rw [← HK.out]; exact HL.out.1, fun j hj => by rw [HL.out.2 j (by rw [HK.out]; exact hj), if_pos (by omega)], B⟩

end Go.Proofs.YtpmfedllbiblbaaGreat
