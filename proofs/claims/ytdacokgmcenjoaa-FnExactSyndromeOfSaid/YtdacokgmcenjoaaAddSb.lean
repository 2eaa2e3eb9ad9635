/-
  A list stays where it lies when what is behind grows. By an AI agent.
-/
import Derived.Test.YtdacokgmcenjoaaMem
namespace Go.Proofs.Ytdacokgmcenjoaa
open Go.RowKit Cv
set_option linter.unusedVariables false
set_option linter.unusedSimpArgs false

theorem own_acr {W W' : World} {base g n c m : Nat} {L : List Int} (h : OwnInts W base (.slice (some ⟨g, 0, none⟩) n c) L) (hb : Below m W W') (hg : g < m) : OwnInts W' base (.slice (some ⟨g, 0, none⟩) n c) L := by
  refine ⟨h.1, ?_⟩
  rcases h.2 with h2 | ⟨g', c', cur, hv, hb', hh, r⟩
  · exact .inl h2
  · simp only [Value.slice.injEq, Option.some.injEq, Addr.mk.injEq, and_true, true_and] at hv
    obtain ⟨rfl, rfl, rfl⟩ := hv
    exact .inr ⟨g, c, cur, by simp, hb', by rw [hb.block g hg]; exact hh, r⟩

end Go.Proofs.Ytdacokgmcenjoaa
