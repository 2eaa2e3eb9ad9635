/-
  The contracts of the errors of a space and numbers. By an AI agent.
-/
import Derived.Test.YthfddfhjcadomaaSpace
import Derived.Deep.RegionHeld3
namespace Go.Proofs.Ythfddfhjcadomaa
open Go.RowKit Cv
set_option linter.unusedVariables false
set_option linter.unusedSimpArgs false
set_option maxRecDepth 100000

theorem nW_prod (S : List Int) : prodTo S S.length = nW S := rfl

/-- the number of words, in a space -/
theorem l01N_sp (ao : Option Addr) (S : List Int) (cap : Nat) (w : World) (h : Sp S) (hS : Ints w ao S) :
    Calls Try.prog 20 #[.agg #[.slice ao S.length cap]] w fun e w' => e = .returned (.int .i64 (nW S)) ∧ Below w.heap.size w w' := l01N_any ao S cap w h.hi h.bd hS
theorem wordCount_sp (ao : Option Addr) (S : List Int) (cap : Nat) (w : World) (h : Sp S) (hS : Ints w ao S) :
    Calls Try.prog 22 #[.agg #[.slice ao S.length cap]] w fun e w' => e = .returned (.int .i64 (nW S)) ∧ Below w.heap.size w w' := wordCount_any ao S cap w h.hi h.bd hS

end Go.Proofs.Ythfddfhjcadomaa
