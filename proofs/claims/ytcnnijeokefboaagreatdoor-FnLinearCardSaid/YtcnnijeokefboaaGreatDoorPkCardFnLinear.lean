/-
  The tied card of the law FnLinear: the row's statement, its one listed variable tied to the program's text. By an AI agent.
-/
import Derived.Test.YtcnnijeokefboaaGreatDoorPk50
import Derived.Test.YtcnnijeokefboaaGreatDoorCards
import Derived.Test.YtcnnijeokefboaaGreatDoorTie
import Derived.SevenTiedAt
namespace Go.Proofs.YtcnnijeokefboaaGreatDoor.fnLinearClosed
open Go

theorem card : Rows.FnLinearCardSaid :=
  Claim7.holds_tied_plain_at .later [] [.sentinel] true _ true
    proved (fun _ h => by cases h) (by kernel_rfl) (fun _ h => by cases h) fnLinear_row_tie rfl ⟨rfl, rfl⟩ (by kernel_rfl) rfl
    (fun f fn hf hfn => by
      obtain rfl : f = 3 := Option.some.inj ((show Tryz.prog.funcNamed "loop.example/g01411/laws.FnLinear" = some 3 by kernel_rfl).symm.trans hf) |>.symm
      obtain rfl : fn = Tryz.f3 := (Option.some.inj (Tryz.func3.symm.trans hfn)).symm
      exact ⟨by kernel_rfl, fun j t ht => by
        rw [Tryz.params3] at ht
        have h3 : t = 22 := by
          match j, ht with
          | 0, ht => exact by simpa using ht.symm
          | j + 1, ht => simp at ht
        rcases h3 with rfl
        exact (show Tryz.prog.wantsStandIn 22 = false by kernel_rfl)⟩)
    (by kernel_rfl)
end Go.Proofs.YtcnnijeokefboaaGreatDoor.fnLinearClosed
