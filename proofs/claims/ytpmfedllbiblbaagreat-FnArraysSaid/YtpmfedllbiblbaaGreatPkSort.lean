/-
  slices.Sort on numbers that the call itself made. By an AI agent.
-/
import Derived.Test.YtpmfedllbiblbaaGreatPkMath
import Derived.Test.YtpmfedllbiblbaaGreatPkAppend
import Derived.Test.YtpmfedllbiblbaaGreatPkPut
import Derived.Shelf.SortM.Plain
import Derived.Shelf.SlGeneric
import Derived.Sort.OwnSortedInts
import Derived.Ground.SlgmProg
namespace Go.Proofs
shelf_lay_g SlLaysM.n5 Slgm 5 at Tryz 99 as Tryz.lsort
end Go.Proofs
namespace Go.Proofs.YtpmfedllbiblbaaGreat
open Go.RowKit Cv
set_option linter.unusedVariables false
set_option linter.unusedSimpArgs false
set_option maxRecDepth 100000

theorem sort_any (base g cap : Nat) (L : List Int) (w : World) (hl : L.length ≤ 1048576) (hrow : OwnInts w base (.slice (some ⟨g, 0, none⟩) L.length cap) L) :
    Calls Tryz.prog 99 #[.slice (some ⟨g, 0, none⟩) L.length cap] w fun e w' => e = .returned (.tuple #[]) ∧ OwnInts w' base (.slice (some ⟨g, 0, none⟩) L.length cap) (sorted L) ∧ w.grownBy w' (some g) := by
  have hlt := hrow.base_le.2
  rcases hrow.2 with ⟨hv, _⟩ | ⟨g', c', cur, hv, hb, hh, hle, hm, hs, ht⟩
  · simp at hv
  · simp only [Value.slice.injEq, Option.some.injEq, Addr.mk.injEq, and_true, true_and] at hv
    obtain ⟨rfl, rfl⟩ := hv
    rw [Nat.mul_one] at ht hs
    have h := AnyM.slices_Sort_int Tryz.lsort g 0 cap L w (holds_of_blockI hh ht) hlt (by omega)
    change Calls Tryz.prog 99 _ _ _ at h
    refine h.mono ?_
    rintro e w' ⟨rfl, n, os, rfl⟩
    refine ⟨rfl, ?_, grownBy_sortedI _⟩
    unfold OwnInts
    have hsl : (sorted L).length = L.length := sorted_len L
    have := ownsRow_sortedI (n := n) (os := os) (ss := L) (ts := sorted L) hsl hb hh hle hm (by omega)
    rw [← hsl] at this ⊢
    exact this
end Go.Proofs.YtpmfedllbiblbaaGreat
