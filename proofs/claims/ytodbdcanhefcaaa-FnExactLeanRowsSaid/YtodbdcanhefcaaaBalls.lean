/-
  The closure over the balls of a list of words: what it yields. By an AI agent.
-/
import Derived.Test.YtodbdcanhefcaaaGiv
import Derived.Test.YtodbdcanhefcaaaSet
import Derived.Test.YtodbdcanhefcaaaSums2
import Derived.Test.YtodbdcanhefcaaaMath
namespace Go.Proofs.Ytodbdcanhefcaaa
open Go.RowKit Go.Shelf Cv
set_option linter.unusedVariables false
set_option linter.unusedSimpArgs false
set_option maxRecDepth 100000

attribute [local go_sem] Oper.semAt_some

/-- a load, a store of a set in a fence -/
theorem wpListIn_ld16 {F : Fence} {n : Nat} {ops : Array Oper} {rest : List Oper} {o : Oper} {a : Act} {w : World} {Q : Exit → Act → World → Prop} (hgd : o.guard = none) (x : Operand) (ho : o.op = .load 85 x) {b : Nat} {p : Nat → Bool}
    (hr : RowAt w b p) (hx : a.eval x = .pointer (some ⟨b, 0, none⟩)) (h : wpListIn F n Try.prog ops Q rest (a.put o.dst (.agg (setA p))) w) : wpListIn F n Try.prog ops Q (o :: rest) a w := by
  refine wpListIn_plain hgd fun K hK => ?_
  unfold Oper.wpIn
  refine ⟨by simp [Oper.about, ho], ?_⟩
  rw [Oper.semAt_plain F _ _ (by rw [ho]; intro c hc; cases hc)]
  unfold execOp
  simp only [ho, hx, Instr.loadAt, Instr.sureAddr, Sem.run_bind, Sem.run_pure, Result.andThen_ok, ldVar hr]
  exact hK _ _ h
theorem wpListIn_st16 {F : Fence} {n : Nat} {ops : Array Oper} {rest : List Oper} {o : Oper} {a : Act} {w : World} {Q : Exit → Act → World → Prop} (hgd : o.guard = none) (x y : Operand) (ho : o.op = .store 85 x y) {b : Nat} {p : Nat → Bool}
    (hr : RowAt w b p) (q : Nat → Bool) (hx : a.eval x = .pointer (some ⟨b, 0, none⟩)) (hy : a.eval y = .agg (setA q)) (h : wpListIn F n Try.prog ops Q rest (a.put o.dst undef) (w.setRow b (setA q))) : wpListIn F n Try.prog ops Q (o :: rest) a w := by
  refine wpListIn_plain hgd fun K hK => ?_
  unfold Oper.wpIn
  refine ⟨by simp [Oper.about, ho], ?_⟩
  rw [Oper.semAt_plain F _ _ (by rw [ho]; intro c hc; cases hc)]
  unfold execOp
  simp only [ho, hx, hy, Instr.storeAt, Instr.sureAddr, Sem.run_bind, Sem.run_pure, Result.andThen_ok, stVar (q := q) hr]
  exact hK _ _ h

/-- the words of a ball, as a set -/
def ballN (S : List Int) (r c : Int) : Nat → Bool := inL (ballW S c r)
def encP (p : Nat → Bool) : Array Value := #[.agg (setA p)]
theorem keepsT_row {t : TypeId} {W W' : World} {b : Nat} {p : Nat → Bool} (h : RowAt W b p) (hne : 85 ≠ t) (hg : W.grownBy W' (some b)) : KeepsT t W W' := fun i cur hi => by
  rw [hg.block i (Array.getElem?_eq_some_iff.1 hi).1 (fun e => ?_)]
  · exact hi
  · have e' : i = b := by simpa using e
    subst e'
    have h' : W.heap[i]? = some (.cells (setA p) 85 (0, 0)) := h
    rw [hi] at h'
    injection h' with h'
    injection h' with _ h' _
    exact hne h'.symm
theorem row_own {β : Type} (b : Nat) (f : β → Nat → Bool) : Own (fun (s : β) W => RowAt W b (f s)) := fun s A B row hs hg hr => by
  show B.heap[b]? = _
  rw [hg.block b (RowAt.lt hs) (fun e => ?_)]
  · exact hs
  · obtain ⟨o, ho, hc⟩ := hr b e.symm
    have hs' : A.heap[b]? = some (.cells (setA (f s)) 85 (0, 0)) := hs
    rw [hs'] at ho
    injection ho with ho
    subst ho
    cases hc

theorem setTo_app (L M : List Int) (k : Nat) (h : k ≤ L.length) : setTo (L ++ M) k = setTo L k := by
  induction k with
  | zero => rfl
  | succ k ih => rw [setTo, setTo, ih (by omega), gi_append_lt _ _ _ (by omega)]
theorem results_none {fn : Func} (h : fn.results = #[]) (tmps : Array Value) (w : World) : (results fn tmps).run Try.prog w = .ok (.tuple #[]) w := by simp [results, h, go_sem]
/-- what a round of a loop over the balls keeps -/
def KpC (n₀ wb sb rb : Nat) (W W' : World) : Prop := Below n₀ W W' ∧ KeepsAt wb W W' ∧ KeepsAt sb W W' ∧ KeepsAt rb W W'
theorem kpC_t {n₀ wb sb rb : Nat} {A B C : World} (h : KpC n₀ wb sb rb A B) (k : KpC n₀ wb sb rb B C) : KpC n₀ wb sb rb A C := ⟨h.1.trans k.1, h.2.1.trans k.2.1, h.2.2.1.trans k.2.2.1, h.2.2.2.trans k.2.2.2⟩
theorem keepsAt_nc {g : Nat} {A B : World} {row : Option Nat} (hg : A.grownBy B row) (hr : ∀ r, row = some r → ∃ o : Obj, A.heap[r]? = some o ∧ o.isCells = false) : KeepsAt g A B := fun cur t hi =>
  (hg.block g (Array.getElem?_eq_some_iff.1 hi).1 (fun e => by obtain ⟨o, ho, hc⟩ := hr g e.symm; rw [hi] at ho; injection ho with ho; subst ho; cases hc)).trans hi
theorem kpC_g {n₀ wb sb rb N : Nat} (hN : n₀ ≤ N) (A B : World) (row : Option Nat) (hg : A.grownBy B row) (hr : ∀ r, row = some r → N ≤ r ∧ ∃ o : Obj, A.heap[r]? = some o ∧ o.isCells = false) (hA : N ≤ A.heap.size) : KpC n₀ wb sb rb A B :=
  ⟨(Below.refl n₀ A).grown hg (by omega) (fun k e => by have := (hr k e).1; omega), keepsAt_nc hg fun r e => (hr r e).2, keepsAt_nc hg fun r e => (hr r e).2, keepsAt_nc hg fun r e => (hr r e).2⟩
theorem keepsAt_below {g : Nat} {A B : World} (h : Below A.heap.size A B) : KeepsAt g A B := fun cur t hi => (h.block g (Array.getElem?_eq_some_iff.1 hi).1).trans hi
theorem keepsAt_row {g b : Nat} {W W' : World} (hg : W.grownBy W' (some b)) (hne : g ≠ b) : KeepsAt g W W' := KeepsAt.of_grown hg (by simp; omega)

/-- what holds between two rounds of the loop over the words -/
def BInv (S C : List Int) (r : Int) (ao ac : Option Addr) (cap capc l wb sb rb : Nat) (J : List (Nat → Bool) → World → Prop) (w0 Wst : World) (a : Act) (W : World) : Prop :=
  ∃ (k : Nat) (ds : List Deferred) (u4 u5 u6 u7 u8 u12 u13 u14 u15 u16 u17 u18 u19 u20 u21 u22 u23 u24 u25 u26 u27 u28 : Value), k ≤ C.length ∧ J ((C.take k).map (ballN S r)) W ∧ Below w0.heap.size w0 W ∧ Marks Wst.heap.size ds W ∧ Wst.heap.size ≤ W.heap.size ∧ (W.heap[wb]? = some (.cells #[.slice ac C.length capc] 22 (0, 0)) ∧ W.heap[sb]? = some (.cells #[.slice ao S.length cap] 28 (0, 0)) ∧ W.heap[rb]? = some (.cells #[.int .i64 r] 2 (0, 0))) ∧
    a = { tmps := #[.func (.yield l) #[] #[], .pointer (some ⟨wb, 0, none⟩), .pointer (some ⟨sb, 0, none⟩), .pointer (some ⟨rb, 0, none⟩), u4, u5, u6, u7, u8, .slice ac C.length capc, .int .i64 (C.length : Int), .int .i64 (k : Int), u12, u13, u14, u15, u16, u17, u18, u19, u20, u21, u22, u23, u24, u25, u26, u27, u28], defers := ds }
def BMes (C : List Int) (a : Act) (W : World) : Nat := C.length - (intOf (a.tmps.getD 11 undef)).toNat

end Go.Proofs.Ytodbdcanhefcaaa
