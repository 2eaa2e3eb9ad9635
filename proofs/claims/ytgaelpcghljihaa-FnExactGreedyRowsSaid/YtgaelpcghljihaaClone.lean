/-
  slices.Clone on numbers. By an AI agent.
-/
import Derived.Test.YtgaelpcghljihaaPut
import Derived.Test.YtgaelpcghljihaaAppend
namespace Go.Proofs.Ytgaelpcghljihaa
open Go.RowKit Cv
set_option linter.unusedVariables false
set_option linter.unusedSimpArgs false
set_option maxRecDepth 100000

theorem own_made_some {w : World} {base m : Nat} {v v' : Value} {L : List Int} (h : OwnInts w base v' L) (hnil : v' = .slice none 0 0 ↔ v = .slice none 0 0 ∧ m = 0) (hv : v ≠ .slice none 0 0) : ∃ g c, v' = .slice (some ⟨g, 0, none⟩) L.length c := by
  rcases h.2 with ⟨h1, _⟩ | ⟨g, c, cur, h1, _⟩
  · exact absurd (hnil.1 h1).1 hv
  · exact ⟨g, c, h1⟩
theorem clone_any (g0 : Nat) (L : List Int) (cap base : Nat) (w : World) (hl : L.length ≤ 1048576) (hb : base ≤ w.heap.size) (a : Addr) (hL : Ints w (some a) L) :
    Calls Try.prog 155 #[.slice (some a) L.length cap] w fun e w' => ∃ g c, e = .returned (.slice (some ⟨g, 0, none⟩) L.length c) ∧ OwnInts w' w.heap.size (.slice (some ⟨g, 0, none⟩) L.length c) L ∧ Below w.heap.size w w' := by
  have B0 : Below w.heap.size w (w.alloc (.cells #[] 2)) := by go_grown
  have o0 := own_empty w w.heap.size (Nat.le_refl _) rfl
  have hnil0 := Lib.run_eql_slice_nil (P := Try.prog) w 22 2 (some a) L.length cap 0 0 Try.underlying22
  go_enter Try.func155, Try.ntmps155
  go_wp2_with (at_builtin; refine wpList_append_ints rfl _ _ rfl w.heap.size _ [] rfl o0 a L L.length cap rfl rfl (hL.below B0) (by simp; omega) B0.size ?_; intro v' w4 hown' hgrow hnil; have hb4 := grown_below B0 B0.size hgrow o0 (Nat.le_refl _); rw [List.nil_append] at hown'; obtain ⟨g, c, hv⟩ := own_made_some hown' hnil (fun h => absurd (Value.slice.inj h).1 (by simp)); subst hv)
  go_ret
  exact ⟨g, c, rfl, hown', hb4⟩

end Go.Proofs.Ytgaelpcghljihaa
