/-
  The contracts of CodesTogether and CodesInCommon. By an AI agent.
-/
import Derived.Test.YtgaelpcghljihaaClone
import Derived.Test.YtgaelpcghljihaaSet
import Derived.Test.YtgaelpcghljihaaDel
import Derived.Test.YtgaelpcghljihaaPut
import Derived.Test.YtgaelpcghljihaaErr
import Derived.Test.YtgaelpcghljihaaFar5
import Derived.Shelf.GgClosure.Gives
namespace Go.Proofs.Ytgaelpcghljihaa
open Go.RowKit Cv
set_option linter.unusedVariables false
set_option linter.unusedSimpArgs false
set_option maxRecDepth 100000

theorem enter_lacks : ∀ args w, (callFunc 109 args).run Try.prog w = .ok (.enter 109 args) w := enters_of Try.func109 (by kernel_rfl) rfl

/-- the error of a space and codes of it, the first k -/
def eTo (S : List Int) (L : Nat → List Int) : Nat → Int
  | 0 => 0
  | k + 1 => if eTo S L k = 0 then eCode S (L k) else eTo S L k
theorem eTo_stop {S : List Int} {L : Nat → List Int} {k : Nat} (h : eTo S L k ≠ 0) : ∀ m, k ≤ m → eTo S L m = eTo S L k := by
  intro m hm
  induction m with
  | zero => have : k = 0 := by omega
            subst this; rfl
  | succ m ih =>
    by_cases e : k = m + 1
    · subst e; rfl
    · have := ih (by omega)
      rw [eTo, this, if_neg h]

end Go.Proofs.Ytgaelpcghljihaa
