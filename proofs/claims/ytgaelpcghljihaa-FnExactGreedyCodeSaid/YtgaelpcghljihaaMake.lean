/-
  A made slice as an operation of a drawn region. By an AI agent.
-/
import Derived.Test.YtgaelpcghljihaaMem
import Derived.Deep.RegionHeld3
namespace Go.Proofs.Ytgaelpcghljihaa
open Go.RowKit Cv
set_option linter.unusedVariables false
set_option linter.unusedSimpArgs false
set_option maxRecDepth 100000

theorem step_make_free {w : World} {o : Oper} {a : Act} {K : Act → World → Prop} {Q : Exit → Act → World → Prop} (l : Operand) (ho : o.op = Op.makeSlice 22 l l)
    (base m : Nat) (L : Int) (hl : a.eval l = .int .i64 L) (hL : L = (m : Int)) (hm : m ≤ 16777216) (hb : base ≤ w.heap.size)
    (hK : ∀ w' (p : Nat), w.heap.size ≤ p → OwnInts w' base (.slice (some ⟨p, 0, none⟩) m m) (List.replicate m 0) → Below w.heap.size w w' → K (a.put o.dst (.slice (some ⟨p, 0, none⟩) m m)) w') : Oper.wp Try.prog o a w K Q := by
  obtain ⟨i0, hi, hz0, hz1, hz2⟩ := info_parts infoI64
  subst hL
  obtain ⟨w', hrun, r1, r2⟩ := run_make_full (P := Try.prog) w base 22 2 i0 (.int .i64 0) 1 Try.underlying22 hi hz0 hz1 .i64 .i64 m (by rw [hz2]; omega) (by unfold maxLen; omega) hb
  unfold Oper.wp
  simp only [execOp, ho, hl]
  simp [hrun, Result.andThen]
  exact hK w' _ (Nat.le_refl _) (own_made r1) (below_grown0 r2)

theorem ready_make {md : Region.Mode} {ops : Array Oper} {Q : Exit → Act → World → Prop} {S : World → Prop} {fuel : Nat} {listed : Array Bool} {a : Act} {w : World} {i : Nat} {o : Oper} (l : Operand) (ho : ops[i]? = some o) (hw : Region.wanted o (yielded ops a.tmps) = true) (hop : o.op = Op.makeSlice 22 l l)
    (base m : Nat) (L : Int) (hl : a.eval l = .int .i64 L) (hL : L = (m : Int)) (hm : m ≤ 16777216) (hb : base ≤ w.heap.size)
    (h : ∀ w' (p : Nat), w.heap.size ≤ p → OwnInts w' base (.slice (some ⟨p, 0, none⟩) m m) (List.replicate m 0) → Below w.heap.size w w' → S w' ∧ (S w' → wpAnyH Try.prog md ops Q S fuel (listed.setIfInBounds i true) (a.put o.dst (.slice (some ⟨p, 0, none⟩) m m)) w')) : AllReadyH Try.prog md ops Q S fuel listed a w [i] :=
  AllReadyH.cons ho (fun K hK => by
    rw [if_pos hw]
    exact step_make_free l hop base m L hl hL hm hb (fun w' p hp oc hb4 => hK.out _ _ (h w' p hp oc hb4).1 (h w' p hp oc hb4).2)) AllReadyH.nil
end Go.Proofs.Ytgaelpcghljihaa
