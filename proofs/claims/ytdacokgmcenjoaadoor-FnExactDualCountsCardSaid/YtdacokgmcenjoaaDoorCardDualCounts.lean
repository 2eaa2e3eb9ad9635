/-
  The tied card of the law FnExactDualCounts: the row's statement, its one listed variable tied to the program's text. By an AI agent.
-/
import Derived.Test.YtdacokgmcenjoaaDoorEndDualCounts
import Derived.Test.YtdacokgmcenjoaaDoorCards
import Derived.Test.YtdacokgmcenjoaaDoorTie
import Derived.SevenTiedAt
namespace Go.Proofs.YtdacokgmcenjoaaDoor.fnExactDualCountsClosed
open Go

theorem card : Rows.FnExactDualCountsCardSaid :=
  Claim7.holds_tied_plain_at .later [] [.sentinel] true _ true
    proved (fun _ h => by cases h) (by kernel_rfl) (fun _ h => by cases h) fnExactDualCounts_row_tie rfl ⟨rfl, rfl⟩ (by kernel_rfl) rfl
    (fun f fn hf hfn => by
      obtain rfl : f = 5 := Option.some.inj ((show Tryd.prog.funcNamed "loop.example/g01411/laws.FnExactDualCounts" = some 5 by kernel_rfl).symm.trans hf) |>.symm
      obtain rfl : fn = Tryd.f5 := (Option.some.inj (Tryd.func5.symm.trans hfn)).symm
      exact ⟨by kernel_rfl, fun j t ht => by
        rw [Tryd.params5] at ht
        have h3 : t = 24 ∨ t = 22 := by
          match j, ht with
          | 0, ht => exact .inl (by simpa using ht.symm)
          | 1, ht => exact .inr (by simpa using ht.symm)
          | j + 2, ht => simp at ht
        rcases h3 with rfl | rfl
        · exact (show Tryd.prog.wantsStandIn 24 = false by kernel_rfl)
        · exact (show Tryd.prog.wantsStandIn 22 = false by kernel_rfl)⟩)
    (by kernel_rfl)
end Go.Proofs.YtdacokgmcenjoaaDoor.fnExactDualCountsClosed
