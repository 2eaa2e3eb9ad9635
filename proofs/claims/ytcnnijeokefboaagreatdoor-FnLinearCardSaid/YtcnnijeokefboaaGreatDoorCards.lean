/-
  DERIVED. GIVEN WITH THE SEED: THE CARDS: each row of YtcnnijeokefboaaGreatDoorRows.lean that lists a variable, with what it lists TIED to the program's text (the seventh form; the later family's looks); each row that meets fmt, with fmt's text TOLD by the authors' own Lean function (tested against real Go, not proved from fmt's source: count such statements apart). THE CARD IS WHAT COUNTS. Prove the row's statement (the work); the ties are given (YtcnnijeokefboaaGreatDoorTie.lean); close each card by the builder's one call (the guide's Derived/Test/ToyasCard.lean, 'card_holds'). Laid BY PROGRAM, IN A SANDBOX (cutbox-door.mjs). By AI agents, Wed Nov 11 2026. No macro, syntax, notation, axiom, sorry.
-/
import Derived.Test.YtcnnijeokefboaaGreatDoorRows
import GoSem.ClaimSeven
namespace Go.Proofs.YtcnnijeokefboaaGreatDoor
namespace Rows

/-- THE TIED CARD OF 'laws.FnLinear'. -/
def fnLinearCard : Claim7 := { stood := { row := fnLinearRow, standIns := [], harness := (true, "04bc2d534aa9dcf412dca0727b1475dde99aeb19b1d58de9bd790bf5f7ad30f8"), looks := true }, kinds := [], alts := [], laidByText := true, laidKinds := [.sentinel], laidTests := true, laidLooks := .later }
def FnLinearCardSaid : Prop := Claim7.holds Tryz.pinned (.plain (OpenSpec.ofChange fnLinearSpec)) fnLinearCard

/-- THE TIED CARD OF 'laws.FnLeaders'. -/
def fnLeadersCard : Claim7 := { stood := { row := fnLeadersRow, standIns := [], harness := (true, "04bc2d534aa9dcf412dca0727b1475dde99aeb19b1d58de9bd790bf5f7ad30f8"), looks := true }, kinds := [], alts := [], laidByText := true, laidKinds := [.sentinel], laidTests := true, laidLooks := .later }
def FnLeadersCardSaid : Prop := Claim7.holds Tryz.pinned (.plain (OpenSpec.ofChange fnLeadersSpec)) fnLeadersCard

/-- THE SECOND FORM's CARD OF 'laws.FnLinear'. -/
def fnLinearUptoCard : Claim7 := { stood := { row := fnLinearUptoRow, standIns := [], harness := (true, "04bc2d534aa9dcf412dca0727b1475dde99aeb19b1d58de9bd790bf5f7ad30f8"), looks := true }, kinds := [], alts := [], laidByText := true, laidKinds := [.sentinel], laidTests := true, laidLooks := .later }
def FnLinearUptoCardSaid : Prop := Claim7.holds Tryz.pinned (.plain (OpenSpec.upto fnLinearSpec)) fnLinearUptoCard

/-- THE SECOND FORM's CARD OF 'laws.FnLeaders'. -/
def fnLeadersUptoCard : Claim7 := { stood := { row := fnLeadersUptoRow, standIns := [], harness := (true, "04bc2d534aa9dcf412dca0727b1475dde99aeb19b1d58de9bd790bf5f7ad30f8"), looks := true }, kinds := [], alts := [], laidByText := true, laidKinds := [.sentinel], laidTests := true, laidLooks := .later }
def FnLeadersUptoCardSaid : Prop := Claim7.holds Tryz.pinned (.plain (OpenSpec.upto fnLeadersSpec)) fnLeadersUptoCard
end Rows
end Go.Proofs.YtcnnijeokefboaaGreatDoor
