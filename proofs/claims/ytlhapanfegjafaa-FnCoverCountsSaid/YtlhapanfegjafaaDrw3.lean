/-
  The contracts of what the model draws for chapter 1. By an AI agent.
-/
import Derived.Test.YtlhapanfegjafaaDrw2
import Derived.Test.YtlhapanfegjafaaDigits
namespace Go.Proofs.Ytlhapanfegjafaa
open Go.RowKit Cv
set_option linter.unusedVariables false
set_option linter.unusedSimpArgs false
set_option maxRecDepth 100000

theorem below_g {A b : Nat} {w w1 w2 : World} (B : Below A w w1) (hA : A ≤ w1.heap.size) (hg : w1.grownBy w2 (some b)) (hb : A ≤ b) : Below A w w2 := B.grown hg hA (fun k hk => by cases hk; exact hb)
theorem own_blk {base : Nat} {w : World} {a : Option Addr} {n cap : Nat} {S : List Int} (h : OwnInts w base (.slice a n cap) S) : ∀ g o, a = some ⟨g, o, none⟩ → g < w.heap.size := fun g o e => by
  subst e
  rcases h.2 with ⟨hv, _⟩ | ⟨g', _, _, hv, _, hh, _⟩
  · simp at hv
  · simp only [Value.slice.injEq, Option.some.injEq, Addr.mk.injEq] at hv
    have := (Array.getElem?_eq_some_iff.1 hh).1
    omega
theorem IntsX.grownO {b g' : Nat} {w w' : World} {ao : Option Addr} {S : List Int} (h : IntsX b w ao S) (hg : w.grownBy w' (some g')) (hne : ∀ g o, ao = some ⟨g, o, none⟩ → g ≠ g') : IntsX b w' ao S := by
  obtain ⟨h1, h2⟩ := h
  refine ⟨?_, h2⟩
  rcases h1 with h | ⟨g, o, rfl, hlt, hc⟩
  · exact .inl h
  · exact .inr ⟨g, o, rfl, Nat.lt_of_lt_of_le hlt hg.size, fun i hi => grown_cell hg (hc i hi) (hne g o rfl)⟩
theorem results_cell_tmp2w {fn : Func} {p u1 u2 : Tmp} {ty : TypeId} (h : fn.results = #[.cell p ty, .tmp u1, .tmp u2]) (tmps : Array Value) (P : Program) (w : World) :
    (results fn tmps).run P w =
      ((asAddr (tmps.getD p undef)).run P w).andThen fun a w₁ => ((loadVar ty a).run P w₁).andThen fun v w₂ => .ok (.tuple #[v, tmps.getD u1 undef, tmps.getD u2 undef]) w₂ := by
  simp only [results, h]
  simp [Sem.run_bind, Result.andThen]
theorem results_cell_tmp3w {fn : Func} {p u1 u2 u3 : Tmp} {ty : TypeId} (h : fn.results = #[.cell p ty, .tmp u1, .tmp u2, .tmp u3]) (tmps : Array Value) (P : Program) (w : World) :
    (results fn tmps).run P w =
      ((asAddr (tmps.getD p undef)).run P w).andThen fun a w₁ => ((loadVar ty a).run P w₁).andThen fun v w₂ => .ok (.tuple #[v, tmps.getD u1 undef, tmps.getD u2 undef, tmps.getD u3 undef]) w₂ := by
  simp only [results, h]
  simp [Sem.run_bind, Result.andThen]

theorem ints_setA {w : World} {ax : Option Addr} {T : List Int} {A : Nat} {u : Value} (h : Ints w ax T) (hA : ∀ g o, ax = some ⟨g, o, none⟩ → g ≠ A) : Ints (w.setCell ⟨A, 0, none⟩ u) ax T := by
  rcases h with h | ⟨g, o, e, hl, hcc⟩
  · exact .inl h
  · exact .inr ⟨g, o, e, by simpa using hl, fun i hi => cell_set_other (hcc i hi) (hA g o e)⟩

end Go.Proofs.Ytlhapanfegjafaa
