/-
  Words that a code does not cover, as plain lists. By an AI agent.
-/
import Derived.Test.YtlkfmopcdmppmaaMath12
import Derived.Test.YtlkfmopcdmppmaaMath11
namespace Go.Proofs.Ytlkfmopcdmppmaa
set_option linter.unusedVariables false
set_option linter.unusedSimpArgs false
namespace Cv

/-- the first k words that are not covered -/
def uncP (S C : List Int) (r : Int) : Nat → Bool := fun u => tAt S C r u == 0
def vUnc (S C : List Int) (r : Int) : List Int := if eCov S C r = 0 then selL (uncP S C r) (nW S).toNat else []
theorem vUnc_len (S C : List Int) (r : Int) : (vUnc S C r).length ≤ 1024 := by
  unfold vUnc
  split
  · rename_i h
    obtain ⟨hz, _, _⟩ := eCov_zero h
    have := nW_bd (eCode_zero hz).1
    have := selL_len (uncP S C r) (nW S).toNat
    omega
  · simp
/-- whether a code covers the space -/
def vCovS (S C : List Int) (r : Int) : Bool := if eCov S C r = 0 then decide ((selL (uncP S C r) (nW S).toNat).length = 0) else false

end Cv
end Go.Proofs.Ytlkfmopcdmppmaa
