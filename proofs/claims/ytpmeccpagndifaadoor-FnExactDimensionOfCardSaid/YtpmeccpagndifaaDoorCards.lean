/-
  DERIVED. GIVEN WITH THE SEED: THE CARDS: each row of YtpmeccpagndifaaDoorRows.lean that lists a variable, with what it lists TIED to the program's text (the seventh form; the later family's looks); each row that meets fmt, with fmt's text TOLD by the authors' own Lean function (tested against real Go, not proved from fmt's source: count such statements apart). THE CARD IS WHAT COUNTS. Prove the row's statement (the work); the ties are given (YtpmeccpagndifaaDoorTie.lean); close each card by the builder's one call (the guide's Derived/Test/ToyasCard.lean, 'card_holds'). Laid BY PROGRAM, IN A SANDBOX (cutbox-door.mjs). By AI agents, Wed Nov 11 2026. No macro, syntax, notation, axiom, sorry.
-/
import Derived.Test.YtpmeccpagndifaaDoorRows
import GoSem.ClaimSeven
namespace Go.Proofs.YtpmeccpagndifaaDoor
namespace Rows

/-- THE TIED CARD OF 'laws.FnExactDimensionOf'. -/
def fnExactDimensionOfCard : Claim7 := { stood := { row := fnExactDimensionOfRow, standIns := [], harness := (true, "4f0ae57093de6cc526ed0b3104f3cfe1dcbfbf765a96cf9479bf8346ba5fca89"), looks := true }, kinds := [], alts := [], laidByText := true, laidKinds := [.sentinel], laidTests := true, laidLooks := .later }
def FnExactDimensionOfCardSaid : Prop := Claim7.holds Tryd.pinned (.plain (OpenSpec.ofChange fnExactDimensionOfSpec)) fnExactDimensionOfCard

/-- THE TIED CARD OF 'laws.FnExactLeastBasis'. -/
def fnExactLeastBasisCard : Claim7 := { stood := { row := fnExactLeastBasisRow, standIns := [], harness := (true, "4f0ae57093de6cc526ed0b3104f3cfe1dcbfbf765a96cf9479bf8346ba5fca89"), looks := true }, kinds := [], alts := [], laidByText := true, laidKinds := [.sentinel], laidTests := true, laidLooks := .later }
def FnExactLeastBasisCardSaid : Prop := Claim7.holds Tryd.pinned (.plain (OpenSpec.ofChange fnExactLeastBasisSpec)) fnExactLeastBasisCard

/-- THE TIED CARD OF 'laws.FnExactDualCode'. -/
def fnExactDualCodeCard : Claim7 := { stood := { row := fnExactDualCodeRow, standIns := [], harness := (true, "4f0ae57093de6cc526ed0b3104f3cfe1dcbfbf765a96cf9479bf8346ba5fca89"), looks := true }, kinds := [], alts := [], laidByText := true, laidKinds := [.sentinel], laidTests := true, laidLooks := .later }
def FnExactDualCodeCardSaid : Prop := Claim7.holds Tryd.pinned (.plain (OpenSpec.ofChange fnExactDualCodeSpec)) fnExactDualCodeCard

/-- THE SECOND FORM's CARD OF 'laws.FnExactDimensionOf'. -/
def fnExactDimensionOfUptoCard : Claim7 := { stood := { row := fnExactDimensionOfUptoRow, standIns := [], harness := (true, "4f0ae57093de6cc526ed0b3104f3cfe1dcbfbf765a96cf9479bf8346ba5fca89"), looks := true }, kinds := [], alts := [], laidByText := true, laidKinds := [.sentinel], laidTests := true, laidLooks := .later }
def FnExactDimensionOfUptoCardSaid : Prop := Claim7.holds Tryd.pinned (.plain (OpenSpec.upto fnExactDimensionOfSpec)) fnExactDimensionOfUptoCard

/-- THE SECOND FORM's CARD OF 'laws.FnExactLeastBasis'. -/
def fnExactLeastBasisUptoCard : Claim7 := { stood := { row := fnExactLeastBasisUptoRow, standIns := [], harness := (true, "4f0ae57093de6cc526ed0b3104f3cfe1dcbfbf765a96cf9479bf8346ba5fca89"), looks := true }, kinds := [], alts := [], laidByText := true, laidKinds := [.sentinel], laidTests := true, laidLooks := .later }
def FnExactLeastBasisUptoCardSaid : Prop := Claim7.holds Tryd.pinned (.plain (OpenSpec.upto fnExactLeastBasisSpec)) fnExactLeastBasisUptoCard

/-- THE SECOND FORM's CARD OF 'laws.FnExactDualCode'. -/
def fnExactDualCodeUptoCard : Claim7 := { stood := { row := fnExactDualCodeUptoRow, standIns := [], harness := (true, "4f0ae57093de6cc526ed0b3104f3cfe1dcbfbf765a96cf9479bf8346ba5fca89"), looks := true }, kinds := [], alts := [], laidByText := true, laidKinds := [.sentinel], laidTests := true, laidLooks := .later }
def FnExactDualCodeUptoCardSaid : Prop := Claim7.holds Tryd.pinned (.plain (OpenSpec.upto fnExactDualCodeSpec)) fnExactDualCodeUptoCard
end Rows
end Go.Proofs.YtpmeccpagndifaaDoor
