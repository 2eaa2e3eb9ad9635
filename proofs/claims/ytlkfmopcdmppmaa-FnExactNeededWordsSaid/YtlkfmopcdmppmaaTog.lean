/-
  The contracts of CodesTogether and CodesInCommon. By an AI agent.
-/
import Derived.Test.YtlkfmopcdmppmaaSet
import Derived.Test.YtlkfmopcdmppmaaDel
import Derived.Test.YtlkfmopcdmppmaaPut
import Derived.Test.YtlkfmopcdmppmaaErr
import Derived.Test.YtlkfmopcdmppmaaFar5
import Derived.Shelf.GgClosure.Gives
namespace Go.Proofs.Ytlkfmopcdmppmaa
open Go.RowKit Cv
set_option linter.unusedVariables false
set_option linter.unusedSimpArgs false
set_option maxRecDepth 100000

theorem enter_lacks : ∀ args w, (callFunc 69 args).run Try.prog w = .ok (.enter 69 args) w := enters_of Try.func69 (by kernel_rfl) rfl

/-- the error of a space and codes of it, the first k -/
def eTo (S : List Int) (L : Nat → List Int) : Nat → Int
  | 0 => 0
  | k + 1 => if eTo S L k = 0 then eCode S (L k) else eTo S L k
theorem eTo_stop {S : List Int} {L : Nat → List Int} {k : Nat} (h : eTo S L k ≠ 0) : ∀ m, k ≤ m → eTo S L m = eTo S L k := by
  intro m hm
  induction m with
  | zero => have : k = 0 := by omega
            subst this; rfl
  | succ m ih =>
    by_cases e : k = m + 1
    · subst e; rfl
    · have := ih (by omega)
      rw [eTo, this, if_neg h]

theorem own_made_some {w : World} {base m : Nat} {v v' : Value} {L : List Int} (h : OwnInts w base v' L) (hnil : v' = .slice none 0 0 ↔ v = .slice none 0 0 ∧ m = 0) (hv : v ≠ .slice none 0 0) : ∃ g c, v' = .slice (some ⟨g, 0, none⟩) L.length c := by
  rcases h.2 with ⟨h1, _⟩ | ⟨g, c, cur, h1, _⟩
  · exact absurd (hnil.1 h1).1 hv
  · exact ⟨g, c, h1⟩
end Go.Proofs.Ytlkfmopcdmppmaa
