/-
  No cell of these rows narrows 'for every input' (looked for: loops, veiled, ifaces, maps, wideKeys, modest, calm, conditions, laid).
  DERIVED. THE GIVEN ROWS OF THIS SEAT. 12 by the template 'for every input the law returns true; each argument reads behind the call as it read before'; 0 by the template 'total and deterministic' (their statements: YtgaelpcghljihaaTotals.lean).
  GIVEN WITH THE SEED: the statements are not yours to turn. If you find one false, say at which input.
  Laid BY PROGRAM, IN A SANDBOX (cutbox-rows.mjs): the forced cells as the released guide's own fill.sh prints them over the translation edfba56ea03832f8… (all of the seat's roots in one cut). By AI agents, Wed Nov 11 2026. No macro, syntax, notation, axiom, sorry.
-/
import Derived.Test.YtgaelpcghljihaaChecked
import GoSem.Claim
import GoSem.ClaimJoined
import GoSem.ClaimMapViews
import Derived.JoinedTies
import Derived.KernelRfl
namespace Go.Proofs.Ytgaelpcghljihaa
/- THE CELL 'sum', in the pinned program and in every row, IS THE sha256 OF THE DUMP (.gsa) THAT YtgaelpcghljihaaProg.lean LOADS. Nothing in Lean hashes anything: it is a label: what it is worth is what the hold of that sum in a sandbox is worth. -/
noncomputable def Try.pinned : Pinned := { name := "ytgaelpcghljihaa", sum := "edfba56ea03832f861b98460037088c16b9b545ee4770f01e75bcc282a374df8", checked := Try.checked }
namespace Rows
def none {H : Type} : Left H := { results := [], args := [] }

/-- 'laws.FnExactNewDesk': WHATEVER THE INPUT: true; the input reads as it did. -/
def fnExactNewDeskSpec : ChangeSpec := { name := "fnExactNewDesk", fn := fun _ => fun
  | [] => { results := [.lit (.bool true)], args := [] }
  | _ => none }
def fnExactNewDeskRow : OpenClaim := { program := "ytgaelpcghljihaa", sum := "edfba56ea03832f861b98460037088c16b9b545ee4770f01e75bcc282a374df8", func := "loop.example/g01411/laws.FnExactNewDesk", spec := "fnExactNewDesk", apart := false }
def FnExactNewDeskSaid : Prop := fnExactNewDeskRow.holds Try.pinned (OpenSpec.ofChange fnExactNewDeskSpec)

/-- ITS FALSE NEIGHBOUR: 'it returns false'. Refute it at one input. -/
def fnExactNewDeskWrong : ChangeSpec := { name := "fnExactNewDesk", fn := fun _ => fun
  | [] => { results := [.lit (.bool false)], args := [] }
  | _ => none }
def FnExactNewDeskWrongFalsely : Prop := fnExactNewDeskRow.holds Try.pinned (OpenSpec.ofChange fnExactNewDeskWrong)

/-- 'laws.FnExactIsDesk': WHATEVER THE INPUT: true; the input reads as it did. -/
def fnExactIsDeskSpec : ChangeSpec := { name := "fnExactIsDesk", fn := fun _ => fun
  | [d] => { results := [.lit (.bool true)], args := [d] }
  | _ => none }
def fnExactIsDeskRow : OpenClaim := { program := "ytgaelpcghljihaa", sum := "edfba56ea03832f861b98460037088c16b9b545ee4770f01e75bcc282a374df8", func := "loop.example/g01411/laws.FnExactIsDesk", spec := "fnExactIsDesk", unfollowed := true, recurses := true, apart := false }
def FnExactIsDeskSaid : Prop := fnExactIsDeskRow.holds Try.pinned (OpenSpec.ofChange fnExactIsDeskSpec)

/-- ITS FALSE NEIGHBOUR: 'it returns false'. Refute it at one input. -/
def fnExactIsDeskWrong : ChangeSpec := { name := "fnExactIsDesk", fn := fun _ => fun
  | [d] => { results := [.lit (.bool false)], args := [d] }
  | _ => none }
def FnExactIsDeskWrongFalsely : Prop := fnExactIsDeskRow.holds Try.pinned (OpenSpec.ofChange fnExactIsDeskWrong)

/-- 'laws.FnExactHasChoice': WHATEVER THE INPUT: true; the input reads as it did. -/
def fnExactHasChoiceSpec : ChangeSpec := { name := "fnExactHasChoice", fn := fun _ => fun
  | [d1, d2, d3] => { results := [.lit (.bool true)], args := [d1, d2, d3] }
  | _ => none }
def fnExactHasChoiceRow : OpenClaim := { program := "ytgaelpcghljihaa", sum := "edfba56ea03832f861b98460037088c16b9b545ee4770f01e75bcc282a374df8", func := "loop.example/g01411/laws.FnExactHasChoice", spec := "fnExactHasChoice", unfollowed := true, recurses := true, apart := false }
def FnExactHasChoiceSaid : Prop := fnExactHasChoiceRow.holds Try.pinned (OpenSpec.ofChange fnExactHasChoiceSpec)

/-- ITS FALSE NEIGHBOUR: 'it returns false'. Refute it at one input. -/
def fnExactHasChoiceWrong : ChangeSpec := { name := "fnExactHasChoice", fn := fun _ => fun
  | [d1, d2, d3] => { results := [.lit (.bool false)], args := [d1, d2, d3] }
  | _ => none }
def FnExactHasChoiceWrongFalsely : Prop := fnExactHasChoiceRow.holds Try.pinned (OpenSpec.ofChange fnExactHasChoiceWrong)

/-- 'laws.FnExactGreedyRows': WHATEVER THE INPUT: true; the input reads as it did. -/
def fnExactGreedyRowsSpec : ChangeSpec := { name := "fnExactGreedyRows", fn := fun _ => fun
  | [d1, d2] => { results := [.lit (.bool true)], args := [d1, d2] }
  | _ => none }
def fnExactGreedyRowsRow : OpenClaim := { program := "ytgaelpcghljihaa", sum := "edfba56ea03832f861b98460037088c16b9b545ee4770f01e75bcc282a374df8", func := "loop.example/g01411/laws.FnExactGreedyRows", spec := "fnExactGreedyRows", unfollowed := true, recurses := true, apart := false }
def FnExactGreedyRowsSaid : Prop := fnExactGreedyRowsRow.holds Try.pinned (OpenSpec.ofChange fnExactGreedyRowsSpec)

/-- ITS FALSE NEIGHBOUR: 'it returns false'. Refute it at one input. -/
def fnExactGreedyRowsWrong : ChangeSpec := { name := "fnExactGreedyRows", fn := fun _ => fun
  | [d1, d2] => { results := [.lit (.bool false)], args := [d1, d2] }
  | _ => none }
def FnExactGreedyRowsWrongFalsely : Prop := fnExactGreedyRowsRow.holds Try.pinned (OpenSpec.ofChange fnExactGreedyRowsWrong)

/-- 'laws.FnExactPairRows': WHATEVER THE INPUT: true; the input reads as it did. -/
def fnExactPairRowsSpec : ChangeSpec := { name := "fnExactPairRows", fn := fun _ => fun
  | [d] => { results := [.lit (.bool true)], args := [d] }
  | _ => none }
def fnExactPairRowsRow : OpenClaim := { program := "ytgaelpcghljihaa", sum := "edfba56ea03832f861b98460037088c16b9b545ee4770f01e75bcc282a374df8", func := "loop.example/g01411/laws.FnExactPairRows", spec := "fnExactPairRows", apart := false }
def FnExactPairRowsSaid : Prop := fnExactPairRowsRow.holds Try.pinned (OpenSpec.ofChange fnExactPairRowsSpec)

/-- ITS FALSE NEIGHBOUR: 'it returns false'. Refute it at one input. -/
def fnExactPairRowsWrong : ChangeSpec := { name := "fnExactPairRows", fn := fun _ => fun
  | [d] => { results := [.lit (.bool false)], args := [d] }
  | _ => none }
def FnExactPairRowsWrongFalsely : Prop := fnExactPairRowsRow.holds Try.pinned (OpenSpec.ofChange fnExactPairRowsWrong)

/-- 'laws.FnExactCoversSpace': WHATEVER THE INPUT: true; the input reads as it did. -/
def fnExactCoversSpaceSpec : ChangeSpec := { name := "fnExactCoversSpace", fn := fun _ => fun
  | [d1, d2, d3] => { results := [.lit (.bool true)], args := [d1, d2, d3] }
  | _ => none }
def fnExactCoversSpaceRow : OpenClaim := { program := "ytgaelpcghljihaa", sum := "edfba56ea03832f861b98460037088c16b9b545ee4770f01e75bcc282a374df8", func := "loop.example/g01411/laws.FnExactCoversSpace", spec := "fnExactCoversSpace", unfollowed := true, recurses := true, apart := false }
def FnExactCoversSpaceSaid : Prop := fnExactCoversSpaceRow.holds Try.pinned (OpenSpec.ofChange fnExactCoversSpaceSpec)

/-- ITS FALSE NEIGHBOUR: 'it returns false'. Refute it at one input. -/
def fnExactCoversSpaceWrong : ChangeSpec := { name := "fnExactCoversSpace", fn := fun _ => fun
  | [d1, d2, d3] => { results := [.lit (.bool false)], args := [d1, d2, d3] }
  | _ => none }
def FnExactCoversSpaceWrongFalsely : Prop := fnExactCoversSpaceRow.holds Try.pinned (OpenSpec.ofChange fnExactCoversSpaceWrong)

/-- 'laws.FnExactUncoveredWords': WHATEVER THE INPUT: true; the input reads as it did. -/
def fnExactUncoveredWordsSpec : ChangeSpec := { name := "fnExactUncoveredWords", fn := fun _ => fun
  | [d1, d2, d3] => { results := [.lit (.bool true)], args := [d1, d2, d3] }
  | _ => none }
def fnExactUncoveredWordsRow : OpenClaim := { program := "ytgaelpcghljihaa", sum := "edfba56ea03832f861b98460037088c16b9b545ee4770f01e75bcc282a374df8", func := "loop.example/g01411/laws.FnExactUncoveredWords", spec := "fnExactUncoveredWords", unfollowed := true, recurses := true, apart := false }
def FnExactUncoveredWordsSaid : Prop := fnExactUncoveredWordsRow.holds Try.pinned (OpenSpec.ofChange fnExactUncoveredWordsSpec)

/-- ITS FALSE NEIGHBOUR: 'it returns false'. Refute it at one input. -/
def fnExactUncoveredWordsWrong : ChangeSpec := { name := "fnExactUncoveredWords", fn := fun _ => fun
  | [d1, d2, d3] => { results := [.lit (.bool false)], args := [d1, d2, d3] }
  | _ => none }
def FnExactUncoveredWordsWrongFalsely : Prop := fnExactUncoveredWordsRow.holds Try.pinned (OpenSpec.ofChange fnExactUncoveredWordsWrong)

/-- 'laws.FnExactNeededWords': WHATEVER THE INPUT: true; the input reads as it did. -/
def fnExactNeededWordsSpec : ChangeSpec := { name := "fnExactNeededWords", fn := fun _ => fun
  | [d1, d2, d3] => { results := [.lit (.bool true)], args := [d1, d2, d3] }
  | _ => none }
def fnExactNeededWordsRow : OpenClaim := { program := "ytgaelpcghljihaa", sum := "edfba56ea03832f861b98460037088c16b9b545ee4770f01e75bcc282a374df8", func := "loop.example/g01411/laws.FnExactNeededWords", spec := "fnExactNeededWords", unfollowed := true, recurses := true, apart := false }
def FnExactNeededWordsSaid : Prop := fnExactNeededWordsRow.holds Try.pinned (OpenSpec.ofChange fnExactNeededWordsSpec)

/-- ITS FALSE NEIGHBOUR: 'it returns false'. Refute it at one input. -/
def fnExactNeededWordsWrong : ChangeSpec := { name := "fnExactNeededWords", fn := fun _ => fun
  | [d1, d2, d3] => { results := [.lit (.bool false)], args := [d1, d2, d3] }
  | _ => none }
def FnExactNeededWordsWrongFalsely : Prop := fnExactNeededWordsRow.holds Try.pinned (OpenSpec.ofChange fnExactNeededWordsWrong)

/-- 'laws.FnExactLeanCode': WHATEVER THE INPUT: true; the input reads as it did. -/
def fnExactLeanCodeSpec : ChangeSpec := { name := "fnExactLeanCode", fn := fun _ => fun
  | [d1, d2, d3] => { results := [.lit (.bool true)], args := [d1, d2, d3] }
  | _ => none }
def fnExactLeanCodeRow : OpenClaim := { program := "ytgaelpcghljihaa", sum := "edfba56ea03832f861b98460037088c16b9b545ee4770f01e75bcc282a374df8", func := "loop.example/g01411/laws.FnExactLeanCode", spec := "fnExactLeanCode", unfollowed := true, recurses := true, apart := false }
def FnExactLeanCodeSaid : Prop := fnExactLeanCodeRow.holds Try.pinned (OpenSpec.ofChange fnExactLeanCodeSpec)

/-- ITS FALSE NEIGHBOUR: 'it returns false'. Refute it at one input. -/
def fnExactLeanCodeWrong : ChangeSpec := { name := "fnExactLeanCode", fn := fun _ => fun
  | [d1, d2, d3] => { results := [.lit (.bool false)], args := [d1, d2, d3] }
  | _ => none }
def FnExactLeanCodeWrongFalsely : Prop := fnExactLeanCodeRow.holds Try.pinned (OpenSpec.ofChange fnExactLeanCodeWrong)

/-- 'laws.FnExactGreedyCode': WHATEVER THE INPUT: true; the input reads as it did. -/
def fnExactGreedyCodeSpec : ChangeSpec := { name := "fnExactGreedyCode", fn := fun _ => fun
  | [d1, d2] => { results := [.lit (.bool true)], args := [d1, d2] }
  | _ => none }
def fnExactGreedyCodeRow : OpenClaim := { program := "ytgaelpcghljihaa", sum := "edfba56ea03832f861b98460037088c16b9b545ee4770f01e75bcc282a374df8", func := "loop.example/g01411/laws.FnExactGreedyCode", spec := "fnExactGreedyCode", unfollowed := true, recurses := true, apart := false }
def FnExactGreedyCodeSaid : Prop := fnExactGreedyCodeRow.holds Try.pinned (OpenSpec.ofChange fnExactGreedyCodeSpec)

/-- ITS FALSE NEIGHBOUR: 'it returns false'. Refute it at one input. -/
def fnExactGreedyCodeWrong : ChangeSpec := { name := "fnExactGreedyCode", fn := fun _ => fun
  | [d1, d2] => { results := [.lit (.bool false)], args := [d1, d2] }
  | _ => none }
def FnExactGreedyCodeWrongFalsely : Prop := fnExactGreedyCodeRow.holds Try.pinned (OpenSpec.ofChange fnExactGreedyCodeWrong)

/-- 'laws.FnExactGreedyApart': WHATEVER THE INPUT: true; the input reads as it did. -/
def fnExactGreedyApartSpec : ChangeSpec := { name := "fnExactGreedyApart", fn := fun _ => fun
  | [d1, d2] => { results := [.lit (.bool true)], args := [d1, d2] }
  | _ => none }
def fnExactGreedyApartRow : OpenClaim := { program := "ytgaelpcghljihaa", sum := "edfba56ea03832f861b98460037088c16b9b545ee4770f01e75bcc282a374df8", func := "loop.example/g01411/laws.FnExactGreedyApart", spec := "fnExactGreedyApart", unfollowed := true, recurses := true, apart := false }
def FnExactGreedyApartSaid : Prop := fnExactGreedyApartRow.holds Try.pinned (OpenSpec.ofChange fnExactGreedyApartSpec)

/-- ITS FALSE NEIGHBOUR: 'it returns false'. Refute it at one input. -/
def fnExactGreedyApartWrong : ChangeSpec := { name := "fnExactGreedyApart", fn := fun _ => fun
  | [d1, d2] => { results := [.lit (.bool false)], args := [d1, d2] }
  | _ => none }
def FnExactGreedyApartWrongFalsely : Prop := fnExactGreedyApartRow.holds Try.pinned (OpenSpec.ofChange fnExactGreedyApartWrong)

/-- 'laws.FnExactCanGrow': WHATEVER THE INPUT: true; the input reads as it did. -/
def fnExactCanGrowSpec : ChangeSpec := { name := "fnExactCanGrow", fn := fun _ => fun
  | [d1, d2, d3] => { results := [.lit (.bool true)], args := [d1, d2, d3] }
  | _ => none }
def fnExactCanGrowRow : OpenClaim := { program := "ytgaelpcghljihaa", sum := "edfba56ea03832f861b98460037088c16b9b545ee4770f01e75bcc282a374df8", func := "loop.example/g01411/laws.FnExactCanGrow", spec := "fnExactCanGrow", unfollowed := true, recurses := true, apart := false }
def FnExactCanGrowSaid : Prop := fnExactCanGrowRow.holds Try.pinned (OpenSpec.ofChange fnExactCanGrowSpec)

/-- ITS FALSE NEIGHBOUR: 'it returns false'. Refute it at one input. -/
def fnExactCanGrowWrong : ChangeSpec := { name := "fnExactCanGrow", fn := fun _ => fun
  | [d1, d2, d3] => { results := [.lit (.bool false)], args := [d1, d2, d3] }
  | _ => none }
def FnExactCanGrowWrongFalsely : Prop := fnExactCanGrowRow.holds Try.pinned (OpenSpec.ofChange fnExactCanGrowWrong)

/- THE SECOND FORM. 'bulk': how many values and letters a reading holds, each counted each time it is reached (what is shared counts as often as it is met; a slice's spare places count too). A statement '..UptoSaid' is the law's where the arguments, and the package variables that the reading takes, are together of bulk at most 1048576: NARROWER than '..Said'. Prove '..Said' where nothing that the law and all that it calls make is longer than what came in: it says more and counts as full. Else prove '..UptoSaid'. A law counts once. -/
mutual
def uptoBulk {H : Type} : DataW H → Nat
  | .lit (.string bytes) => bytes.length + 1
  | .lit _ => 1
  | .nil => 1
  | .ptr d => uptoBulk d + 1
  | .slice elems spare => uptoBulkAll elems + uptoBulkAll spare + 1
  | .agg parts => uptoBulkAll parts + 1
  | .iface _ d => uptoBulk d + 1
  | .map entries => uptoBulkEntries entries + 1
  | .held _ => 1
def uptoBulkAll {H : Type} : List (DataW H) → Nat
  | [] => 0
  | d :: r => uptoBulk d + uptoBulkAll r
def uptoBulkEntries {H : Type} : List (Lit × DataW H) → Nat
  | [] => 0
  | x :: r => uptoBulkEntry x + uptoBulkEntries r
def uptoBulkEntry {H : Type} : Lit × DataW H → Nat
  | (.string bytes, d) => bytes.length + uptoBulk d + 1
  | (_, d) => uptoBulk d + 1
 end
def uptoSmall : (H : Type) → List (DataW H) → Bool := fun _ ds => decide (uptoBulkAll ds ≤ 1048576)
def OpenSpec.upto (s : _root_.Go.ChangeSpec) : _root_.Go.OpenSpec := { _root_.Go.OpenSpec.ofChange s with cond := some uptoSmall }

/-- 'laws.FnExactNewDesk', WHERE WHAT IT READS IS OF BULK AT MOST 1048576: true; the input reads as it did. -/
def fnExactNewDeskUptoRow : OpenClaim := { program := "ytgaelpcghljihaa", sum := "edfba56ea03832f861b98460037088c16b9b545ee4770f01e75bcc282a374df8", func := "loop.example/g01411/laws.FnExactNewDesk", spec := "fnExactNewDesk", apart := false, narrowed := true }
def FnExactNewDeskUptoSaid : Prop := fnExactNewDeskUptoRow.holds Try.pinned (OpenSpec.upto fnExactNewDeskSpec)

/-- 'laws.FnExactIsDesk', WHERE WHAT IT READS IS OF BULK AT MOST 1048576: true; the input reads as it did. -/
def fnExactIsDeskUptoRow : OpenClaim := { program := "ytgaelpcghljihaa", sum := "edfba56ea03832f861b98460037088c16b9b545ee4770f01e75bcc282a374df8", func := "loop.example/g01411/laws.FnExactIsDesk", spec := "fnExactIsDesk", unfollowed := true, recurses := true, apart := false, narrowed := true }
def FnExactIsDeskUptoSaid : Prop := fnExactIsDeskUptoRow.holds Try.pinned (OpenSpec.upto fnExactIsDeskSpec)

/-- 'laws.FnExactHasChoice', WHERE WHAT IT READS IS OF BULK AT MOST 1048576: true; the input reads as it did. -/
def fnExactHasChoiceUptoRow : OpenClaim := { program := "ytgaelpcghljihaa", sum := "edfba56ea03832f861b98460037088c16b9b545ee4770f01e75bcc282a374df8", func := "loop.example/g01411/laws.FnExactHasChoice", spec := "fnExactHasChoice", unfollowed := true, recurses := true, apart := false, narrowed := true }
def FnExactHasChoiceUptoSaid : Prop := fnExactHasChoiceUptoRow.holds Try.pinned (OpenSpec.upto fnExactHasChoiceSpec)

/-- 'laws.FnExactGreedyRows', WHERE WHAT IT READS IS OF BULK AT MOST 1048576: true; the input reads as it did. -/
def fnExactGreedyRowsUptoRow : OpenClaim := { program := "ytgaelpcghljihaa", sum := "edfba56ea03832f861b98460037088c16b9b545ee4770f01e75bcc282a374df8", func := "loop.example/g01411/laws.FnExactGreedyRows", spec := "fnExactGreedyRows", unfollowed := true, recurses := true, apart := false, narrowed := true }
def FnExactGreedyRowsUptoSaid : Prop := fnExactGreedyRowsUptoRow.holds Try.pinned (OpenSpec.upto fnExactGreedyRowsSpec)

/-- 'laws.FnExactPairRows', WHERE WHAT IT READS IS OF BULK AT MOST 1048576: true; the input reads as it did. -/
def fnExactPairRowsUptoRow : OpenClaim := { program := "ytgaelpcghljihaa", sum := "edfba56ea03832f861b98460037088c16b9b545ee4770f01e75bcc282a374df8", func := "loop.example/g01411/laws.FnExactPairRows", spec := "fnExactPairRows", apart := false, narrowed := true }
def FnExactPairRowsUptoSaid : Prop := fnExactPairRowsUptoRow.holds Try.pinned (OpenSpec.upto fnExactPairRowsSpec)

/-- 'laws.FnExactCoversSpace', WHERE WHAT IT READS IS OF BULK AT MOST 1048576: true; the input reads as it did. -/
def fnExactCoversSpaceUptoRow : OpenClaim := { program := "ytgaelpcghljihaa", sum := "edfba56ea03832f861b98460037088c16b9b545ee4770f01e75bcc282a374df8", func := "loop.example/g01411/laws.FnExactCoversSpace", spec := "fnExactCoversSpace", unfollowed := true, recurses := true, apart := false, narrowed := true }
def FnExactCoversSpaceUptoSaid : Prop := fnExactCoversSpaceUptoRow.holds Try.pinned (OpenSpec.upto fnExactCoversSpaceSpec)

/-- 'laws.FnExactUncoveredWords', WHERE WHAT IT READS IS OF BULK AT MOST 1048576: true; the input reads as it did. -/
def fnExactUncoveredWordsUptoRow : OpenClaim := { program := "ytgaelpcghljihaa", sum := "edfba56ea03832f861b98460037088c16b9b545ee4770f01e75bcc282a374df8", func := "loop.example/g01411/laws.FnExactUncoveredWords", spec := "fnExactUncoveredWords", unfollowed := true, recurses := true, apart := false, narrowed := true }
def FnExactUncoveredWordsUptoSaid : Prop := fnExactUncoveredWordsUptoRow.holds Try.pinned (OpenSpec.upto fnExactUncoveredWordsSpec)

/-- 'laws.FnExactNeededWords', WHERE WHAT IT READS IS OF BULK AT MOST 1048576: true; the input reads as it did. -/
def fnExactNeededWordsUptoRow : OpenClaim := { program := "ytgaelpcghljihaa", sum := "edfba56ea03832f861b98460037088c16b9b545ee4770f01e75bcc282a374df8", func := "loop.example/g01411/laws.FnExactNeededWords", spec := "fnExactNeededWords", unfollowed := true, recurses := true, apart := false, narrowed := true }
def FnExactNeededWordsUptoSaid : Prop := fnExactNeededWordsUptoRow.holds Try.pinned (OpenSpec.upto fnExactNeededWordsSpec)

/-- 'laws.FnExactLeanCode', WHERE WHAT IT READS IS OF BULK AT MOST 1048576: true; the input reads as it did. -/
def fnExactLeanCodeUptoRow : OpenClaim := { program := "ytgaelpcghljihaa", sum := "edfba56ea03832f861b98460037088c16b9b545ee4770f01e75bcc282a374df8", func := "loop.example/g01411/laws.FnExactLeanCode", spec := "fnExactLeanCode", unfollowed := true, recurses := true, apart := false, narrowed := true }
def FnExactLeanCodeUptoSaid : Prop := fnExactLeanCodeUptoRow.holds Try.pinned (OpenSpec.upto fnExactLeanCodeSpec)

/-- 'laws.FnExactGreedyCode', WHERE WHAT IT READS IS OF BULK AT MOST 1048576: true; the input reads as it did. -/
def fnExactGreedyCodeUptoRow : OpenClaim := { program := "ytgaelpcghljihaa", sum := "edfba56ea03832f861b98460037088c16b9b545ee4770f01e75bcc282a374df8", func := "loop.example/g01411/laws.FnExactGreedyCode", spec := "fnExactGreedyCode", unfollowed := true, recurses := true, apart := false, narrowed := true }
def FnExactGreedyCodeUptoSaid : Prop := fnExactGreedyCodeUptoRow.holds Try.pinned (OpenSpec.upto fnExactGreedyCodeSpec)

/-- 'laws.FnExactGreedyApart', WHERE WHAT IT READS IS OF BULK AT MOST 1048576: true; the input reads as it did. -/
def fnExactGreedyApartUptoRow : OpenClaim := { program := "ytgaelpcghljihaa", sum := "edfba56ea03832f861b98460037088c16b9b545ee4770f01e75bcc282a374df8", func := "loop.example/g01411/laws.FnExactGreedyApart", spec := "fnExactGreedyApart", unfollowed := true, recurses := true, apart := false, narrowed := true }
def FnExactGreedyApartUptoSaid : Prop := fnExactGreedyApartUptoRow.holds Try.pinned (OpenSpec.upto fnExactGreedyApartSpec)

/-- 'laws.FnExactCanGrow', WHERE WHAT IT READS IS OF BULK AT MOST 1048576: true; the input reads as it did. -/
def fnExactCanGrowUptoRow : OpenClaim := { program := "ytgaelpcghljihaa", sum := "edfba56ea03832f861b98460037088c16b9b545ee4770f01e75bcc282a374df8", func := "loop.example/g01411/laws.FnExactCanGrow", spec := "fnExactCanGrow", unfollowed := true, recurses := true, apart := false, narrowed := true }
def FnExactCanGrowUptoSaid : Prop := fnExactCanGrowUptoRow.holds Try.pinned (OpenSpec.upto fnExactCanGrowSpec)

end Rows
end Go.Proofs.Ytgaelpcghljihaa
