/-
  DERIVED. GIVEN WITH THE SEED: THE CARDS: each row of YthinedjblpgalaaDoorRows.lean that lists a variable, with what it lists TIED to the program's text (the seventh form; the later family's looks); each row that meets fmt, with fmt's text TOLD by the authors' own Lean function (tested against real Go, not proved from fmt's source: count such statements apart). THE CARD IS WHAT COUNTS. Prove the row's statement (the work); the ties are given (YthinedjblpgalaaDoorTie.lean); close each card by the builder's one call (the guide's Derived/Test/ToyasCard.lean, 'card_holds'). Laid BY PROGRAM, IN A SANDBOX (cutbox-door.mjs). By AI agents, Wed Nov 11 2026. No macro, syntax, notation, axiom, sorry.
-/
import Derived.Test.YthinedjblpgalaaDoorRows
import GoSem.ClaimSeven
namespace Go.Proofs.YthinedjblpgalaaDoor
namespace Rows

/-- THE TIED CARD OF 'laws.FnExactNearestWord'. -/
def fnExactNearestWordCard : Claim7 := { stood := { row := fnExactNearestWordRow, standIns := [], harness := (true, "9d37069a560ab456d58af76ae2c825e4e8382e5bbbaa8e66dc5ace2f590eadce"), looks := true }, kinds := [], alts := [], laidByText := true, laidKinds := [.sentinel], laidTests := true, laidLooks := .later }
def FnExactNearestWordCardSaid : Prop := Claim7.holds Tryd.pinned (.plain (OpenSpec.ofChange fnExactNearestWordSpec)) fnExactNearestWordCard

/-- THE TIED CARD OF 'laws.FnExactLeadersOf'. -/
def fnExactLeadersOfCard : Claim7 := { stood := { row := fnExactLeadersOfRow, standIns := [], harness := (true, "9d37069a560ab456d58af76ae2c825e4e8382e5bbbaa8e66dc5ace2f590eadce"), looks := true }, kinds := [], alts := [], laidByText := true, laidKinds := [.sentinel], laidTests := true, laidLooks := .later }
def FnExactLeadersOfCardSaid : Prop := Claim7.holds Tryd.pinned (.plain (OpenSpec.ofChange fnExactLeadersOfSpec)) fnExactLeadersOfCard

/-- THE TIED CARD OF 'laws.FnExactRadiusByLeaders'. -/
def fnExactRadiusByLeadersCard : Claim7 := { stood := { row := fnExactRadiusByLeadersRow, standIns := [], harness := (true, "9d37069a560ab456d58af76ae2c825e4e8382e5bbbaa8e66dc5ace2f590eadce"), looks := true }, kinds := [], alts := [], laidByText := true, laidKinds := [.sentinel], laidTests := true, laidLooks := .later }
def FnExactRadiusByLeadersCardSaid : Prop := Claim7.holds Tryd.pinned (.plain (OpenSpec.ofChange fnExactRadiusByLeadersSpec)) fnExactRadiusByLeadersCard

/-- THE SECOND FORM's CARD OF 'laws.FnExactNearestWord'. -/
def fnExactNearestWordUptoCard : Claim7 := { stood := { row := fnExactNearestWordUptoRow, standIns := [], harness := (true, "9d37069a560ab456d58af76ae2c825e4e8382e5bbbaa8e66dc5ace2f590eadce"), looks := true }, kinds := [], alts := [], laidByText := true, laidKinds := [.sentinel], laidTests := true, laidLooks := .later }
def FnExactNearestWordUptoCardSaid : Prop := Claim7.holds Tryd.pinned (.plain (OpenSpec.upto fnExactNearestWordSpec)) fnExactNearestWordUptoCard

/-- THE SECOND FORM's CARD OF 'laws.FnExactLeadersOf'. -/
def fnExactLeadersOfUptoCard : Claim7 := { stood := { row := fnExactLeadersOfUptoRow, standIns := [], harness := (true, "9d37069a560ab456d58af76ae2c825e4e8382e5bbbaa8e66dc5ace2f590eadce"), looks := true }, kinds := [], alts := [], laidByText := true, laidKinds := [.sentinel], laidTests := true, laidLooks := .later }
def FnExactLeadersOfUptoCardSaid : Prop := Claim7.holds Tryd.pinned (.plain (OpenSpec.upto fnExactLeadersOfSpec)) fnExactLeadersOfUptoCard

/-- THE SECOND FORM's CARD OF 'laws.FnExactRadiusByLeaders'. -/
def fnExactRadiusByLeadersUptoCard : Claim7 := { stood := { row := fnExactRadiusByLeadersUptoRow, standIns := [], harness := (true, "9d37069a560ab456d58af76ae2c825e4e8382e5bbbaa8e66dc5ace2f590eadce"), looks := true }, kinds := [], alts := [], laidByText := true, laidKinds := [.sentinel], laidTests := true, laidLooks := .later }
def FnExactRadiusByLeadersUptoCardSaid : Prop := Claim7.holds Tryd.pinned (.plain (OpenSpec.upto fnExactRadiusByLeadersSpec)) fnExactRadiusByLeadersUptoCard
end Rows
end Go.Proofs.YthinedjblpgalaaDoor
