/-
  The contracts of OppositeWord and ChangeDigit. By an AI agent.
-/
import Derived.Test.YtdacokgmcenjoaaDoorF2
namespace Go.Proofs.YtdacokgmcenjoaaDoor
open Go.RowKit Cv
set_option linter.unusedVariables false
set_option linter.unusedSimpArgs false
set_option maxRecDepth 100000

theorem Dg_digs {S : List Int} (h : Sp S) (x : Int) : Dg S (digs S x) := ⟨digs_length _ _, fun j hj => by rw [gi_digs S x j hj]; exact dig_bd S x h.bd j hj⟩
theorem Dg_opp {S : List Int} (h : Sp S) (x : Int) : Dg S (oppD S (digs S x)) := ⟨oppD_length _ _, fun j hj => by
  have := h.bd j hj
  rw [gi_oppD _ _ _ hj]; exact ⟨Int.emod_nonneg _ (by omega), Int.emod_lt_of_pos _ (by omega)⟩⟩
theorem parts_own {w : World} {base P g : Nat} {S U : List Int} {x : Int} (hp : PartsAt w base P g S [x] U) : OwnInts w base (.slice (some ⟨g, 0, none⟩) S.length S.length) (digs S x) := by
  have hU : U = digs S x := ext_gi (by rw [hp.len, digs_length]; simp) fun j hj => by
    rw [hp.len] at hj
    have := hp.dg 0 j (by simp) (by simpa using hj)
    rw [Nat.zero_mul, Nat.zero_add, gi1] at this
    rw [this, gi_digs S x j (by simpa using hj)]
  have own := hp.own
  rwa [hU, digs_length] at own

end Go.Proofs.YtdacokgmcenjoaaDoor
