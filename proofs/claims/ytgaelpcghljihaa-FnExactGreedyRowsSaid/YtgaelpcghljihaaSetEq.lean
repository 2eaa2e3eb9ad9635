/-
  '==' and '!=' on sets of words. By an AI agent.
-/
import Derived.Test.YtgaelpcghljihaaSet
import Derived.Laws.StructEq
import Derived.BigQuiet
namespace Go.Proofs.Ytgaelpcghljihaa
open Go.RowKit Cv
set_option linter.unusedVariables false
set_option linter.unusedSimpArgs false
set_option maxRecDepth 100000

/-- whether two sets have the same bits -/
def eqS (p q : Nat → Bool) : Bool := (List.range' 0 16 1).all fun k => ((partN p k : Nat) : Int) == ((partN q k : Nat) : Int)
theorem eqS_iff (p q : Nat → Bool) : eqS p q = true ↔ ∀ u, u < 1024 → p u = q u := by
  unfold eqS
  rw [List.all_eq_true]
  constructor
  · intro h
    refine partsL_inj (p := p) (q := q) ?_
    refine ext_gi (by rw [partsL_len, partsL_len]) fun i hi => ?_
    rw [partsL_len] at hi
    rw [gi_partsL p i hi, gi_partsL q i hi]
    have := h i (by rw [List.mem_range'_1]; omega)
    simpa using this
  · intro h k hk
    have hk' : k < 16 := by rw [List.mem_range'_1] at hk; omega
    have e : gi (partsL p) k = gi (partsL q) k := by rw [partsL_ext h]
    rw [gi_partsL p k hk', gi_partsL q k hk'] at e
    simpa using e

theorem run_eqSet (p q : Nat → Bool) (w : World) : (Op.equalIn 10000 96 (.agg (setA p)) (.agg (setA q))).run Try.prog w = .ok (eqS p q) w := by
  have he := Try.underlying88
  have hsz := Try.sizeOf88
  have ha := Try.isAgg88
  rw [show (10000 : Nat) = 9998 + 1 + 1 from rfl, Op.equalIn]
  simp only [Sem.run_bind, run_underlying Try.underlying96, Result.andThen_ok, hsz, Std.Legacy.Range.forIn_eq_forIn_range', Std.Legacy.Range.size, Nat.sub_zero, Nat.add_sub_cancel, Nat.div_one]
  unfold eqS
  have hl : ∀ i ∈ List.range' 0 16 1, i < 16 := fun i hi => by rw [List.mem_range'_1] at hi; omega
  generalize List.range' 0 16 1 = l at hl ⊢
  induction l with
  | nil => simp
  | cons i l ih =>
    have hi : i < 16 := hl i (by simp)
    have px : (part 88 (setA p) (i * 1)).run Try.prog w = .ok (.int .u64 (partN p i)) w := by
      simp [part, ha, setA_get p i hi]
    have py : (part 88 (setA q) (i * 1)).run Try.prog w = .ok (.int .u64 (partN q i)) w := by
      simp [part, ha, setA_get q i hi]
    have pe := run_equalIn_int (P := Try.prog) (w := w) 9998 88 .u64 .u64 (partN p i : Int) (partN q i : Int) he
    simp only [List.forIn_cons, Sem.run_bind, px, py, pe, Result.andThen_ok, List.all_cons]
    cases hb : (((partN p i : Nat) : Int) == ((partN q i : Nat) : Int))
    · simp
    · simp only [Bool.not_true, Bool.false_eq_true, if_false, Sem.run_pure, Result.andThen_ok, Bool.true_and]
      exact ih fun j hj => hl j (by simp [hj])

theorem guardSet : Try.prog.eqGuardType Try.prog.depth 96 = false := by kernel_rfl
theorem exec_eqSet {a : Act} {w : World} {p q : Nat → Bool} (o : Oper) (x y : Operand) {t : TypeId} (ho : o.op = .binOp .eql 96 x y t) (hx : a.eval x = .agg (setA p)) (hy : a.eval y = .agg (setA q)) :
    (execOp a.eval o).run Try.prog w = .ok (.value (.bool (eqS p q))) w := by
  unfold execOp
  simp only [ho, hx, hy, Sem.run_bind, Sem.run_pure, Result.andThen_ok, run_eqGuard_agg w _ _ _ _ _ _ guardSet, binOp, Op.equal, Op.maxDepth, run_eqSet]
theorem exec_neSet {a : Act} {w : World} {p q : Nat → Bool} (o : Oper) (x y : Operand) {t : TypeId} (ho : o.op = .binOp .neq 96 x y t) (hx : a.eval x = .agg (setA p)) (hy : a.eval y = .agg (setA q)) :
    (execOp a.eval o).run Try.prog w = .ok (.value (.bool (!eqS p q))) w := by
  unfold execOp
  simp only [ho, hx, hy, Sem.run_bind, Sem.run_pure, Result.andThen_ok, run_eqGuard_agg w _ _ _ _ _ _ guardSet, binOp, Op.equal, Op.maxDepth, run_eqSet]
theorem quiet_exec {P : Program} {o : Oper} {a : Act} {C : World → Prop} {K : Act → Prop} (v : Value) (h : ∀ w, C w → (execOp a.eval o).run P w = .ok (.value v) w) (hk : K (a.put o.dst v)) : o.quiet P a C K :=
  ⟨v, fun w hw => by unfold Oper.quietAt; rw [h w hw]; exact ⟨rfl, rfl⟩, hk⟩

end Go.Proofs.Ytgaelpcghljihaa
