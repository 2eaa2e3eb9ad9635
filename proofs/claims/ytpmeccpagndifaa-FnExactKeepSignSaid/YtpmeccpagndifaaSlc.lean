/-
  Slices of slices of numbers as operations. By an AI agent.
-/
import Derived.Test.YtpmeccpagndifaaMem
import Derived.Deep.RegionHeld3
namespace Go.Proofs.Ytpmeccpagndifaa
open Go.RowKit Cv
set_option linter.unusedVariables false
set_option linter.unusedSimpArgs false
set_option maxRecDepth 100000

theorem undI64 : Try.prog.underlying 22 = some (.slice (Try.prog.elem 22)) := by kernel_rfl
theorem sizeI64 (w : World) : (sizeOf (Try.prog.elem 22)).run Try.prog w = .ok 1 w := by kernel_rfl

/-- where what is behind the first m elements lies -/
def behind (ad : Addr) (cap m : Nat) : Addr := if cap = m then ad else ad.add m
theorem exec_drop {a : Act} {w : World} (o : Oper) (x y : Operand) (ho : o.op = .slice 22 x (some y) none none) (ad : Addr) (n cap m : Nat) (hx : a.eval x = .slice (some ad) n cap) (hy : a.eval y = .int .i64 (m : Int)) (hm : m ≤ n) (hc : n ≤ cap) :
    (execOp a.eval o).run Try.prog w = .ok (.value (.slice (some (behind ad cap m)) (n - m) (cap - m))) w := by
  unfold execOp
  simp only [ho, hx, hy, Option.map_some, Option.map_none]
  rw [Sem.run_bind, run_sliceAt_slice w _ _ _ _ _ undI64, run_slice_l w _ _ _ _ undI64 _ _ (by omega) (by omega), sizeI64]
  simp only [Result.andThen, Sem.run_pure, sliced, Int.toNat_natCast, Option.map_some, behind, Nat.mul_one]
  by_cases h : cap = m
  · rw [if_pos h, if_pos h]
  · rw [if_neg h, if_neg h]
theorem exec_take {a : Act} {w : World} (o : Oper) (x y : Operand) (ho : o.op = .slice 22 x none (some y) none) (ad : Addr) (n cap m : Nat) (hx : a.eval x = .slice (some ad) n cap) (hy : a.eval y = .int .i64 (m : Int)) (hm : m ≤ cap) (hc : 0 < cap) :
    (execOp a.eval o).run Try.prog w = .ok (.value (.slice (some ad) m cap)) w := by
  have e0 : ad.add 0 = ad := by unfold Addr.add; split <;> simp_all
  unfold execOp
  simp only [ho, hx, hy, Option.map_some, Option.map_none]
  rw [Sem.run_bind, run_sliceAt_slice w _ _ _ _ _ undI64, run_slice_h w _ _ _ _ undI64 _ _ (by omega) (by omega), sizeI64]
  simp only [Result.andThen, Sem.run_pure, sliced, Int.toNat_natCast, Option.map_some, Nat.zero_mul, Nat.sub_zero, e0]
  rw [if_neg (by omega)]

theorem ints_behind {w : World} {g o cap m : Nat} {T : List Int} (hI : Ints w (some ⟨g, o, none⟩) T) (hc : T.length ≤ cap) : Ints w (some (behind ⟨g, o, none⟩ cap m)) (T.drop m) := by
  by_cases hm : m < T.length
  · obtain ⟨b, o', e, hb, h⟩ := hI.at hm
    simp only [Option.some.injEq, Addr.mk.injEq, and_true] at e
    obtain ⟨rfl, rfl⟩ := e
    have ea : behind ⟨g, o, none⟩ cap m = ⟨g, o + m, none⟩ := by
      unfold behind; rw [if_neg (by omega)]; unfold Addr.add; split <;> simp_all
    rw [ea]
    refine .inr ⟨g, o + m, rfl, hb, fun i hi => ?_⟩
    rw [List.length_drop] at hi
    have e2 : gi (T.drop m) i = gi T (m + i) := by simp [gi]
    rw [e2, Nat.add_assoc]; exact h (m + i) (by omega)
  · exact .inl (by rw [List.length_drop]; omega)
theorem ints_front {w : World} {ad : Addr} {m : Nat} {T : List Int} (hI : Ints w (some ad) T) : Ints w (some ad) (T.take m) := by
  rcases hI with h | ⟨b, o, e, hb, h⟩
  · exact .inl (by rw [List.length_take]; omega)
  · refine .inr ⟨b, o, e, hb, fun i hi => ?_⟩
    rw [List.length_take] at hi
    rw [gi_take _ _ _ (by omega)]; exact h i (by omega)

end Go.Proofs.Ytpmeccpagndifaa
