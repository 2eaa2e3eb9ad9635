/-
  Marks on a space that a call made. By an AI agent.
-/
import Derived.Test.YtcbkmmadejbbpaaMark
namespace Go.Proofs.Ytcbkmmadejbbpaa
open Go.RowKit Cv
set_option linter.unusedVariables false
set_option linter.unusedSimpArgs false
set_option maxRecDepth 100000

theorem markSpace_gen (ao : Option Addr) (base cap n : Nat) (T : List Int) (k0 : Int) (w : World) (hn : n ≤ 4294967296) (h0 : 0 ≤ k0) (h1 : k0 ≤ 4294967296) (hT : T.length = n) (h : OwnInts w base (.slice ao n cap) T) :
    Calls Try.prog 19 #[.agg #[.slice ao n cap], .int .i64 k0] w fun e w' => e = .returned (.int .i64 (k0 + n)) ∧
      OwnInts w' base (.slice ao n cap) (marks k0 n) ∧ w.grownBy w' (Value.slice ao n cap).ownBlock := by
  have HN := Lib.hid hT
  clear hT
  go_enter Try.func19, Try.ntmps19
  go_wp2_with fail
  refine (markInt64S_own ao base cap n T k0 _ hn h0 h1 HN.out (h.alloc _)).mono ?_
  rintro e w1 ⟨rfl, hown, hg⟩
  go_wp2
  go_ret
  exact ⟨rfl, hown, grown_trans (World.grownBy_alloc w _ _) hg⟩

theorem heldSpace_any (ao : Option Addr) (cap n : Nat) (k0 : Int) (w : World) (hn : n ≤ 4294967296) (h0 : 0 ≤ k0) (h1 : k0 ≤ 4294967296) (h : Ints w ao (marks k0 n)) :
    Calls Try.prog 21 #[.agg #[.slice ao n cap], .int .i64 k0] w fun e w' => e = .returned (.int .i64 (k0 + n)) ∧ Below w.heap.size w w' := by
  have B0 : Below w.heap.size w (w.alloc (.cells #[.slice ao n cap] 26)) := by go_grown
  go_enter Try.func21, Try.ntmps21
  go_wp2_with fail
  refine (heldInt64S_any ao cap n k0 _ hn h0 h1 (h.below B0)).mono ?_
  rintro e w1 ⟨rfl, rfl⟩
  go_wp2
  go_ret
  exact ⟨rfl, B0⟩

end Go.Proofs.Ytcbkmmadejbbpaa
