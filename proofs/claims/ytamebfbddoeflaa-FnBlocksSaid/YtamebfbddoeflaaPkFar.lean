/-
  The contracts of the program's distances from a code: lists of distances, least ones, the farthest word. By an AI agent.
-/
import Derived.Test.YtamebfbddoeflaaPkErr2
import Derived.Test.YtamebfbddoeflaaPkSums2
import Derived.Test.YtamebfbddoeflaaPkFam
import Derived.Deep.RegionWith
namespace Go.Proofs.Ytamebfbddoeflaa
open Go.RowKit Cv
set_option linter.unusedVariables false
set_option linter.unusedSimpArgs false
set_option maxRecDepth 100000

theorem PartsAt.below {w w' : World} {base P g : Nat} {S T U : List Int} (h : PartsAt w base P g S T U) (hb : Below w.heap.size w w') : PartsAt w' base P g S T U :=
  ⟨h.len, h.dg, h.own.below hb, fun k hk => kept_cell hb (h.row k hk) h.pl, h.bp, Nat.lt_of_lt_of_le h.pl hb.size, h.ne⟩

/-- the digits of one word -/
theorem digitParts_1 (ao : Option Addr) (S : List Int) (cap : Nat) (hSp : Sp S) (x : Int) (hx : 0 ≤ x) (hx2 : x ≤ 9223372036854775807) (a1 : Option Addr) (c1 : Nat) (w : World) (hS : Ints w ao S) (hT : Ints w a1 [x]) :
    Calls Try.prog 77 #[.agg #[.slice ao S.length cap], .slice a1 1 c1] w fun e w' =>
      ∃ P g, e = .returned (.slice (some ⟨P, 0, none⟩) 1 1) ∧ w'.cell? ⟨P, 0, none⟩ = some (.slice (some ⟨g, 0, none⟩) S.length S.length) ∧ OwnInts w' w.heap.size (.slice (some ⟨g, 0, none⟩) S.length S.length) (digs S x) ∧ P < w'.heap.size ∧ Below w.heap.size w w' := by
  refine (digitParts_n ao S cap hSp.lo hSp.hi hSp.bd a1 [x] 1 c1 rfl (by omega) (by intro i hi; match i, hi with | 0, _ => exact ⟨hx, hx2⟩) w hS hT).mono ?_
  rintro e w' ⟨P, g, U, rfl, hp, hb⟩
  have r0 := hp.row 0 (by simp)
  rw [Nat.zero_mul] at r0
  have hl : U.length = S.length := by rw [hp.len]; simp
  have hU : U = digs S x := ext_gi (by rw [hl, digs_length]) fun i hi => by
    have := hp.dg 0 i (by simp) (by omega)
    rw [Nat.zero_mul, Nat.zero_add] at this
    rw [this, gi_digs _ _ _ (by omega)]; rfl
  have ho := hp.own
  rw [hl, hU] at ho
  exact ⟨P, g, rfl, r0, ho, hp.pl, hb⟩


end Go.Proofs.Ytamebfbddoeflaa
