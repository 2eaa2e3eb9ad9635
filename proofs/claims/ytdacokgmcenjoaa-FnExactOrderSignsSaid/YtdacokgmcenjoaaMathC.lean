/-
  Plain facts, the third part: orders of places and signs of codes. Written by an AI agent.
-/
import Derived.Test.YtdacokgmcenjoaaMathB
namespace Go.Proofs.Ytdacokgmcenjoaa
set_option linter.unusedVariables false
set_option linter.unusedSimpArgs false
namespace Cv

/-- the word whose digits are those of c in the order p -/
def ordW (S p : List Int) (c : Int) : Int := wordTo (plcD p S) (plcD p (digs S c)) (plcD p S).length
def eOrd (S C p : List Int) : Int := if eCode S C = 0 then (if isOrd p S.length = true then 0 else 2) else eCode S C
def vOrdS (S C p : List Int) : List Int := if eOrd S C p = 0 then plcD p S else []
def vOrdC (S C p : List Int) : List Int := if eOrd S C p = 0 then putTo [] (fun i => ordW S p (gi C i)) C.length else []
theorem eOrd_zero {S C p : List Int} (h : eOrd S C p = 0) : eCode S C = 0 ∧ isOrd p S.length = true := by
  unfold eOrd at h
  split at h
  · rename_i h1
    split at h
    · rename_i h2; exact ⟨h1, h2⟩
    · cases h
  · rename_i h1; exact absurd h h1
theorem vOrdS_len (S C p : List Int) : (vOrdS S C p).length ≤ 8 := by
  unfold vOrdS
  split
  · rename_i h
    rw [plcD_len]
    exact (eCode_zero (eOrd_zero h).1).1.hi
  · simp
theorem vOrdC_len (S C p : List Int) : (vOrdC S C p).length ≤ 1048576 := by
  unfold vOrdC
  split
  · rename_i h
    obtain ⟨hs, h1, h2⟩ := eCode_zero (eOrd_zero h).1
    have := code_len hs h1 h2
    have := putTo_len [] (fun i => ordW S p (gi C i)) C.length
    simp at this; omega
  · simp

/-- the word with the digit at place i as p tells -/
def sgnD (i : Nat) (p T : List Int) : List Int := T.set i (gi p (gi T i).toNat)
def sgnW (S : List Int) (i : Nat) (p : List Int) (c : Int) : Int := wordTo S (sgnD i p (digs S c)) S.length
def eSgn (S C : List Int) (i : Int) (p : List Int) : Int := if ePlc S C i = 0 then (if isOrd p (gi S i.toNat) = true then 0 else 2) else ePlc S C i
def vSgn (S C : List Int) (i : Int) (p : List Int) : List Int := if eSgn S C i p = 0 then putTo [] (fun j => sgnW S i.toNat p (gi C j)) C.length else []
theorem eSgn_zero {S C : List Int} {i : Int} {p : List Int} (h : eSgn S C i p = 0) : ePlc S C i = 0 ∧ isOrd p (gi S i.toNat) = true := by
  unfold eSgn at h
  split at h
  · rename_i h1
    split at h
    · rename_i h2; exact ⟨h1, h2⟩
    · cases h
  · rename_i h1; exact absurd h h1
theorem vSgn_len (S C : List Int) (i : Int) (p : List Int) : (vSgn S C i p).length ≤ 1048576 := by
  unfold vSgn
  split
  · rename_i h
    obtain ⟨hs, h1, h2⟩ := eCode_zero (ePlc_zero (eSgn_zero h).1).1
    have := code_len hs h1 h2
    have := putTo_len [] (fun j => sgnW S i.toNat p (gi C j)) C.length
    simp at this; omega
  · simp
theorem sgnD_len (i : Nat) (p T : List Int) : (sgnD i p T).length = T.length := by simp [sgnD]
theorem sgnD_dg {S T p : List Int} {i : Nat} (hi : i < S.length) (hp : isOrd p (gi S i) = true) (hl : T.length = S.length) (hT : ∀ j, j < S.length → 0 ≤ gi T j ∧ gi T j < gi S j) : ∀ j, j < S.length → 0 ≤ gi (sgnD i p T) j ∧ gi (sgnD i p T) j < gi S j := by
  intro j hj
  obtain ⟨h1, h2, _, _⟩ := ord_at hp
  have b := hT i hi
  unfold sgnD
  rw [gi_set _ _ _ _ (by omega)]
  by_cases e : j = i
  · subst e
    rw [if_pos rfl]
    have := h2 (gi T j).toNat (by omega)
    omega
  · rw [if_neg e]; exact hT j hj

end Cv
end Go.Proofs.Ytdacokgmcenjoaa
