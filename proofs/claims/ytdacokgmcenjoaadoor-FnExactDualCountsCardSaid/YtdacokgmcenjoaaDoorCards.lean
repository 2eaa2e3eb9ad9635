/-
  DERIVED. GIVEN WITH THE SEED: THE CARDS: each row of YtdacokgmcenjoaaDoorRows.lean that lists a variable, with what it lists TIED to the program's text (the seventh form; the later family's looks); each row that meets fmt, with fmt's text TOLD by the authors' own Lean function (tested against real Go, not proved from fmt's source: count such statements apart). THE CARD IS WHAT COUNTS. Prove the row's statement (the work); the ties are given (YtdacokgmcenjoaaDoorTie.lean); close each card by the builder's one call (the guide's Derived/Test/ToyasCard.lean, 'card_holds'). Laid BY PROGRAM, IN A SANDBOX (cutbox-door.mjs). By AI agents, Wed Nov 11 2026. No macro, syntax, notation, axiom, sorry.
-/
import Derived.Test.YtdacokgmcenjoaaDoorRows
import GoSem.ClaimSeven
namespace Go.Proofs.YtdacokgmcenjoaaDoor
namespace Rows

/-- THE TIED CARD OF 'laws.FnExactLeastBasis'. -/
def fnExactLeastBasisCard : Claim7 := { stood := { row := fnExactLeastBasisRow, standIns := [], harness := (true, "42b9cc5e3a416a5e887b7c5a58a4a9ae8d15378d2f7a68a14a5d2c74a113ffba"), looks := true }, kinds := [], alts := [], laidByText := true, laidKinds := [.sentinel], laidTests := true, laidLooks := .later }
def FnExactLeastBasisCardSaid : Prop := Claim7.holds Tryd.pinned (.plain (OpenSpec.ofChange fnExactLeastBasisSpec)) fnExactLeastBasisCard

/-- THE TIED CARD OF 'laws.FnExactDualCode'. -/
def fnExactDualCodeCard : Claim7 := { stood := { row := fnExactDualCodeRow, standIns := [], harness := (true, "42b9cc5e3a416a5e887b7c5a58a4a9ae8d15378d2f7a68a14a5d2c74a113ffba"), looks := true }, kinds := [], alts := [], laidByText := true, laidKinds := [.sentinel], laidTests := true, laidLooks := .later }
def FnExactDualCodeCardSaid : Prop := Claim7.holds Tryd.pinned (.plain (OpenSpec.ofChange fnExactDualCodeSpec)) fnExactDualCodeCard

/-- THE TIED CARD OF 'laws.FnExactDualCounts'. -/
def fnExactDualCountsCard : Claim7 := { stood := { row := fnExactDualCountsRow, standIns := [], harness := (true, "42b9cc5e3a416a5e887b7c5a58a4a9ae8d15378d2f7a68a14a5d2c74a113ffba"), looks := true }, kinds := [], alts := [], laidByText := true, laidKinds := [.sentinel], laidTests := true, laidLooks := .later }
def FnExactDualCountsCardSaid : Prop := Claim7.holds Tryd.pinned (.plain (OpenSpec.ofChange fnExactDualCountsSpec)) fnExactDualCountsCard

/-- THE SECOND FORM's CARD OF 'laws.FnExactLeastBasis'. -/
def fnExactLeastBasisUptoCard : Claim7 := { stood := { row := fnExactLeastBasisUptoRow, standIns := [], harness := (true, "42b9cc5e3a416a5e887b7c5a58a4a9ae8d15378d2f7a68a14a5d2c74a113ffba"), looks := true }, kinds := [], alts := [], laidByText := true, laidKinds := [.sentinel], laidTests := true, laidLooks := .later }
def FnExactLeastBasisUptoCardSaid : Prop := Claim7.holds Tryd.pinned (.plain (OpenSpec.upto fnExactLeastBasisSpec)) fnExactLeastBasisUptoCard

/-- THE SECOND FORM's CARD OF 'laws.FnExactDualCode'. -/
def fnExactDualCodeUptoCard : Claim7 := { stood := { row := fnExactDualCodeUptoRow, standIns := [], harness := (true, "42b9cc5e3a416a5e887b7c5a58a4a9ae8d15378d2f7a68a14a5d2c74a113ffba"), looks := true }, kinds := [], alts := [], laidByText := true, laidKinds := [.sentinel], laidTests := true, laidLooks := .later }
def FnExactDualCodeUptoCardSaid : Prop := Claim7.holds Tryd.pinned (.plain (OpenSpec.upto fnExactDualCodeSpec)) fnExactDualCodeUptoCard

/-- THE SECOND FORM's CARD OF 'laws.FnExactDualCounts'. -/
def fnExactDualCountsUptoCard : Claim7 := { stood := { row := fnExactDualCountsUptoRow, standIns := [], harness := (true, "42b9cc5e3a416a5e887b7c5a58a4a9ae8d15378d2f7a68a14a5d2c74a113ffba"), looks := true }, kinds := [], alts := [], laidByText := true, laidKinds := [.sentinel], laidTests := true, laidLooks := .later }
def FnExactDualCountsUptoCardSaid : Prop := Claim7.holds Tryd.pinned (.plain (OpenSpec.upto fnExactDualCountsSpec)) fnExactDualCountsUptoCard
end Rows
end Go.Proofs.YtdacokgmcenjoaaDoor
