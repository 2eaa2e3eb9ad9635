/-
  The contracts of CodesTogether, and of the models of both. By an AI agent.
-/
import Derived.Test.YtgaelpcghljihaaTog
namespace Go.Proofs.Ytgaelpcghljihaa
open Go.RowKit Cv
set_option linter.unusedVariables false
set_option linter.unusedSimpArgs false
set_option maxRecDepth 100000

theorem upto_filter (N : Nat) (p : Nat → Bool) : (upto N).filter (fun x => !!p x.toNat) = selL p N := by
  unfold upto selL
  rw [List.filter_map]
  congr 1
  exact List.filter_congr fun i hi => by simp

theorem exec_ld16 {a : Act} {w : World} {b : Nat} {p : Nat → Bool} (hr : RowAt w b p) (o : Oper) (x : Operand) (ho : o.op = .load 96 x) (hx : a.eval x = .pointer (some ⟨b, 0, none⟩)) : (execOp a.eval o).run Try.prog w = .ok (.value (.agg (setA p))) w := by
  unfold execOp
  simp only [ho, hx, Instr.loadAt, Instr.sureAddr, Sem.run_bind, Sem.run_pure, Result.andThen_ok, ldVar hr]
end Go.Proofs.Ytgaelpcghljihaa
