/-
  slices.IndexFunc and slices.ContainsFunc on a list of checks. By an AI agent.
-/
import Derived.Test.YtdacokgmcenjoaaChk
import Derived.Test.YtdacokgmcenjoaaCtn
namespace Go.Proofs.Ytdacokgmcenjoaa
open Go.RowKit Go.Shelf Cv
set_option linter.unusedVariables false
set_option linter.unusedSimpArgs false
set_option maxRecDepth 100000

/-- the values V lie at a -/
def Vals (w : World) (a : Option Addr) (V : List Value) : Prop :=
  V.length = 0 ∨ ∃ b o, a = some ⟨b, o, none⟩ ∧ b < w.heap.size ∧ ∀ i v, V[i]? = some v → w.cell? ⟨b, o + i, none⟩ = some v
theorem Vals.below {w w' : World} {a : Option Addr} {V : List Value} (h : Vals w a V) (hb : Below w.heap.size w w') : Vals w' a V := by
  rcases h with h | ⟨b, o, rfl, hlt, hc⟩
  · exact .inl h
  · exact .inr ⟨b, o, rfl, Nat.lt_of_lt_of_le hlt hb.size, fun i v hi => (hb.cell (p := ⟨b, o + i, none⟩) hlt).trans (hc i v hi)⟩
theorem vals_row {w : World} {base n : Nat} {e : TypeId} {v : Value} {V : List Value} (h : w.ownsRow base e 1 v n V) (hn : V.length = n) : ∃ a cap, v = .slice a n cap ∧ Vals w a V := by
  rcases h.2 with ⟨hv, h0⟩ | ⟨g, cap, cur, rfl, hb, hh, r⟩
  · exact ⟨none, 0, by rw [h0]; exact hv, .inl (by omega)⟩
  · refine ⟨_, cap, rfl, .inr ⟨g, 0, rfl, (Array.getElem?_eq_some_iff.1 hh).1, fun i v hi => ?_⟩⟩
    have hlt : i < V.length := (List.getElem?_eq_some_iff.1 hi).1
    rw [Nat.zero_add, World.ownsRow.cellAt h i (by omega), hi]

end Go.Proofs.Ytdacokgmcenjoaa
