/-
  No cell of these rows narrows 'for every input' (looked for: loops, veiled, ifaces, maps, wideKeys, modest, calm, conditions, laid).
  DERIVED. THE GIVEN ROWS OF THIS SEAT. 12 by the template 'for every input the law returns true; each argument reads behind the call as it read before'; 0 by the template 'total and deterministic' (their statements: YtpboeoidbimmcaaTotals.lean).
  GIVEN WITH THE SEED: the statements are not yours to turn. If you find one false, say at which input.
  Laid BY PROGRAM, IN A SANDBOX (cutbox-rows.mjs): the forced cells as the released guide's own fill.sh prints them over the translation 5b0e828ce7e036f5… (all of the seat's roots in one cut). By AI agents, Wed Nov 11 2026. No macro, syntax, notation, axiom, sorry.
-/
import Derived.Test.YtpboeoidbimmcaaChecked
import GoSem.Claim
import GoSem.ClaimJoined
import GoSem.ClaimMapViews
import Derived.JoinedTies
import Derived.KernelRfl
namespace Go.Proofs.Ytpboeoidbimmcaa
/- THE CELL 'sum', in the pinned program and in every row, IS THE sha256 OF THE DUMP (.gsa) THAT YtpboeoidbimmcaaProg.lean LOADS. Nothing in Lean hashes anything: it is a label: what it is worth is what the hold of that sum in a sandbox is worth. -/
noncomputable def Try.pinned : Pinned := { name := "ytpboeoidbimmcaa", sum := "5b0e828ce7e036f53fa79cc7d513ed4a2383df5244bdad7e60bad1398197eacf", checked := Try.checked }
namespace Rows
def none {H : Type} : Left H := { results := [], args := [] }

/-- 'laws.FnExactDirectSum': WHATEVER THE INPUT: true; the input reads as it did. -/
def fnExactDirectSumSpec : ChangeSpec := { name := "fnExactDirectSum", fn := fun _ => fun
  | [d1, d2, d3, d4] => { results := [.lit (.bool true)], args := [d1, d2, d3, d4] }
  | _ => none }
def fnExactDirectSumRow : OpenClaim := { program := "ytpboeoidbimmcaa", sum := "5b0e828ce7e036f53fa79cc7d513ed4a2383df5244bdad7e60bad1398197eacf", func := "loop.example/g01411/laws.FnExactDirectSum", spec := "fnExactDirectSum", apart := false }
def FnExactDirectSumSaid : Prop := fnExactDirectSumRow.holds Try.pinned (OpenSpec.ofChange fnExactDirectSumSpec)

/-- ITS FALSE NEIGHBOUR: 'it returns false'. Refute it at one input. -/
def fnExactDirectSumWrong : ChangeSpec := { name := "fnExactDirectSum", fn := fun _ => fun
  | [d1, d2, d3, d4] => { results := [.lit (.bool false)], args := [d1, d2, d3, d4] }
  | _ => none }
def FnExactDirectSumWrongFalsely : Prop := fnExactDirectSumRow.holds Try.pinned (OpenSpec.ofChange fnExactDirectSumWrong)

/-- 'laws.FnExactTakeOutPlace': WHATEVER THE INPUT: true; the input reads as it did. -/
def fnExactTakeOutPlaceSpec : ChangeSpec := { name := "fnExactTakeOutPlace", fn := fun _ => fun
  | [d1, d2, d3] => { results := [.lit (.bool true)], args := [d1, d2, d3] }
  | _ => none }
def fnExactTakeOutPlaceRow : OpenClaim := { program := "ytpboeoidbimmcaa", sum := "5b0e828ce7e036f53fa79cc7d513ed4a2383df5244bdad7e60bad1398197eacf", func := "loop.example/g01411/laws.FnExactTakeOutPlace", spec := "fnExactTakeOutPlace", unfollowed := true, recurses := true, apart := false }
def FnExactTakeOutPlaceSaid : Prop := fnExactTakeOutPlaceRow.holds Try.pinned (OpenSpec.ofChange fnExactTakeOutPlaceSpec)

/-- ITS FALSE NEIGHBOUR: 'it returns false'. Refute it at one input. -/
def fnExactTakeOutPlaceWrong : ChangeSpec := { name := "fnExactTakeOutPlace", fn := fun _ => fun
  | [d1, d2, d3] => { results := [.lit (.bool false)], args := [d1, d2, d3] }
  | _ => none }
def FnExactTakeOutPlaceWrongFalsely : Prop := fnExactTakeOutPlaceRow.holds Try.pinned (OpenSpec.ofChange fnExactTakeOutPlaceWrong)

/-- 'laws.FnExactKeepSign': WHATEVER THE INPUT: true; the input reads as it did. -/
def fnExactKeepSignSpec : ChangeSpec := { name := "fnExactKeepSign", fn := fun _ => fun
  | [d1, d2, d3, d4] => { results := [.lit (.bool true)], args := [d1, d2, d3, d4] }
  | _ => none }
def fnExactKeepSignRow : OpenClaim := { program := "ytpboeoidbimmcaa", sum := "5b0e828ce7e036f53fa79cc7d513ed4a2383df5244bdad7e60bad1398197eacf", func := "loop.example/g01411/laws.FnExactKeepSign", spec := "fnExactKeepSign", unfollowed := true, recurses := true, apart := false }
def FnExactKeepSignSaid : Prop := fnExactKeepSignRow.holds Try.pinned (OpenSpec.ofChange fnExactKeepSignSpec)

/-- ITS FALSE NEIGHBOUR: 'it returns false'. Refute it at one input. -/
def fnExactKeepSignWrong : ChangeSpec := { name := "fnExactKeepSign", fn := fun _ => fun
  | [d1, d2, d3, d4] => { results := [.lit (.bool false)], args := [d1, d2, d3, d4] }
  | _ => none }
def FnExactKeepSignWrongFalsely : Prop := fnExactKeepSignRow.holds Try.pinned (OpenSpec.ofChange fnExactKeepSignWrong)

/-- 'laws.FnExactAddSumPlace': WHATEVER THE INPUT: true; the input reads as it did. -/
def fnExactAddSumPlaceSpec : ChangeSpec := { name := "fnExactAddSumPlace", fn := fun _ => fun
  | [d1, d2, d3] => { results := [.lit (.bool true)], args := [d1, d2, d3] }
  | _ => none }
def fnExactAddSumPlaceRow : OpenClaim := { program := "ytpboeoidbimmcaa", sum := "5b0e828ce7e036f53fa79cc7d513ed4a2383df5244bdad7e60bad1398197eacf", func := "loop.example/g01411/laws.FnExactAddSumPlace", spec := "fnExactAddSumPlace", unfollowed := true, recurses := true, apart := false }
def FnExactAddSumPlaceSaid : Prop := fnExactAddSumPlaceRow.holds Try.pinned (OpenSpec.ofChange fnExactAddSumPlaceSpec)

/-- ITS FALSE NEIGHBOUR: 'it returns false'. Refute it at one input. -/
def fnExactAddSumPlaceWrong : ChangeSpec := { name := "fnExactAddSumPlace", fn := fun _ => fun
  | [d1, d2, d3] => { results := [.lit (.bool false)], args := [d1, d2, d3] }
  | _ => none }
def FnExactAddSumPlaceWrongFalsely : Prop := fnExactAddSumPlaceRow.holds Try.pinned (OpenSpec.ofChange fnExactAddSumPlaceWrong)

/-- 'laws.FnExactOrderPlaces': WHATEVER THE INPUT: true; the input reads as it did. -/
def fnExactOrderPlacesSpec : ChangeSpec := { name := "fnExactOrderPlaces", fn := fun _ => fun
  | [d1, d2, d3] => { results := [.lit (.bool true)], args := [d1, d2, d3] }
  | _ => none }
def fnExactOrderPlacesRow : OpenClaim := { program := "ytpboeoidbimmcaa", sum := "5b0e828ce7e036f53fa79cc7d513ed4a2383df5244bdad7e60bad1398197eacf", func := "loop.example/g01411/laws.FnExactOrderPlaces", spec := "fnExactOrderPlaces", unfollowed := true, recurses := true, apart := false }
def FnExactOrderPlacesSaid : Prop := fnExactOrderPlacesRow.holds Try.pinned (OpenSpec.ofChange fnExactOrderPlacesSpec)

/-- ITS FALSE NEIGHBOUR: 'it returns false'. Refute it at one input. -/
def fnExactOrderPlacesWrong : ChangeSpec := { name := "fnExactOrderPlaces", fn := fun _ => fun
  | [d1, d2, d3] => { results := [.lit (.bool false)], args := [d1, d2, d3] }
  | _ => none }
def FnExactOrderPlacesWrongFalsely : Prop := fnExactOrderPlacesRow.holds Try.pinned (OpenSpec.ofChange fnExactOrderPlacesWrong)

/-- 'laws.FnExactOrderSigns': WHATEVER THE INPUT: true; the input reads as it did. -/
def fnExactOrderSignsSpec : ChangeSpec := { name := "fnExactOrderSigns", fn := fun _ => fun
  | [d1, d2, d3, d4] => { results := [.lit (.bool true)], args := [d1, d2, d3, d4] }
  | _ => none }
def fnExactOrderSignsRow : OpenClaim := { program := "ytpboeoidbimmcaa", sum := "5b0e828ce7e036f53fa79cc7d513ed4a2383df5244bdad7e60bad1398197eacf", func := "loop.example/g01411/laws.FnExactOrderSigns", spec := "fnExactOrderSigns", unfollowed := true, recurses := true, apart := false }
def FnExactOrderSignsSaid : Prop := fnExactOrderSignsRow.holds Try.pinned (OpenSpec.ofChange fnExactOrderSignsSpec)

/-- ITS FALSE NEIGHBOUR: 'it returns false'. Refute it at one input. -/
def fnExactOrderSignsWrong : ChangeSpec := { name := "fnExactOrderSigns", fn := fun _ => fun
  | [d1, d2, d3, d4] => { results := [.lit (.bool false)], args := [d1, d2, d3, d4] }
  | _ => none }
def FnExactOrderSignsWrongFalsely : Prop := fnExactOrderSignsRow.holds Try.pinned (OpenSpec.ofChange fnExactOrderSignsWrong)

/-- 'laws.FnExactCodesTogether': WHATEVER THE INPUT: true; the input reads as it did. -/
def fnExactCodesTogetherSpec : ChangeSpec := { name := "fnExactCodesTogether", fn := fun _ => fun
  | [d1, d2, d3] => { results := [.lit (.bool true)], args := [d1, d2, d3] }
  | _ => none }
def fnExactCodesTogetherRow : OpenClaim := { program := "ytpboeoidbimmcaa", sum := "5b0e828ce7e036f53fa79cc7d513ed4a2383df5244bdad7e60bad1398197eacf", func := "loop.example/g01411/laws.FnExactCodesTogether", spec := "fnExactCodesTogether", unfollowed := true, recurses := true, apart := false }
def FnExactCodesTogetherSaid : Prop := fnExactCodesTogetherRow.holds Try.pinned (OpenSpec.ofChange fnExactCodesTogetherSpec)

/-- ITS FALSE NEIGHBOUR: 'it returns false'. Refute it at one input. -/
def fnExactCodesTogetherWrong : ChangeSpec := { name := "fnExactCodesTogether", fn := fun _ => fun
  | [d1, d2, d3] => { results := [.lit (.bool false)], args := [d1, d2, d3] }
  | _ => none }
def FnExactCodesTogetherWrongFalsely : Prop := fnExactCodesTogetherRow.holds Try.pinned (OpenSpec.ofChange fnExactCodesTogetherWrong)

/-- 'laws.FnExactCodesInCommon': WHATEVER THE INPUT: true; the input reads as it did. -/
def fnExactCodesInCommonSpec : ChangeSpec := { name := "fnExactCodesInCommon", fn := fun _ => fun
  | [d1, d2, d3] => { results := [.lit (.bool true)], args := [d1, d2, d3] }
  | _ => none }
def fnExactCodesInCommonRow : OpenClaim := { program := "ytpboeoidbimmcaa", sum := "5b0e828ce7e036f53fa79cc7d513ed4a2383df5244bdad7e60bad1398197eacf", func := "loop.example/g01411/laws.FnExactCodesInCommon", spec := "fnExactCodesInCommon", unfollowed := true, recurses := true, apart := false }
def FnExactCodesInCommonSaid : Prop := fnExactCodesInCommonRow.holds Try.pinned (OpenSpec.ofChange fnExactCodesInCommonSpec)

/-- ITS FALSE NEIGHBOUR: 'it returns false'. Refute it at one input. -/
def fnExactCodesInCommonWrong : ChangeSpec := { name := "fnExactCodesInCommon", fn := fun _ => fun
  | [d1, d2, d3] => { results := [.lit (.bool false)], args := [d1, d2, d3] }
  | _ => none }
def FnExactCodesInCommonWrongFalsely : Prop := fnExactCodesInCommonRow.holds Try.pinned (OpenSpec.ofChange fnExactCodesInCommonWrong)

/-- 'laws.FnExactShiftCode': WHATEVER THE INPUT: true; the input reads as it did. -/
def fnExactShiftCodeSpec : ChangeSpec := { name := "fnExactShiftCode", fn := fun _ => fun
  | [d1, d2, d3] => { results := [.lit (.bool true)], args := [d1, d2, d3] }
  | _ => none }
def fnExactShiftCodeRow : OpenClaim := { program := "ytpboeoidbimmcaa", sum := "5b0e828ce7e036f53fa79cc7d513ed4a2383df5244bdad7e60bad1398197eacf", func := "loop.example/g01411/laws.FnExactShiftCode", spec := "fnExactShiftCode", recurses := true, apart := false }
def FnExactShiftCodeSaid : Prop := fnExactShiftCodeRow.holds Try.pinned (OpenSpec.ofChange fnExactShiftCodeSpec)

/-- ITS FALSE NEIGHBOUR: 'it returns false'. Refute it at one input. -/
def fnExactShiftCodeWrong : ChangeSpec := { name := "fnExactShiftCode", fn := fun _ => fun
  | [d1, d2, d3] => { results := [.lit (.bool false)], args := [d1, d2, d3] }
  | _ => none }
def FnExactShiftCodeWrongFalsely : Prop := fnExactShiftCodeRow.holds Try.pinned (OpenSpec.ofChange fnExactShiftCodeWrong)

/-- 'laws.FnExactCoversSpace': WHATEVER THE INPUT: true; the input reads as it did. -/
def fnExactCoversSpaceSpec : ChangeSpec := { name := "fnExactCoversSpace", fn := fun _ => fun
  | [d1, d2, d3] => { results := [.lit (.bool true)], args := [d1, d2, d3] }
  | _ => none }
def fnExactCoversSpaceRow : OpenClaim := { program := "ytpboeoidbimmcaa", sum := "5b0e828ce7e036f53fa79cc7d513ed4a2383df5244bdad7e60bad1398197eacf", func := "loop.example/g01411/laws.FnExactCoversSpace", spec := "fnExactCoversSpace", unfollowed := true, recurses := true, apart := false }
def FnExactCoversSpaceSaid : Prop := fnExactCoversSpaceRow.holds Try.pinned (OpenSpec.ofChange fnExactCoversSpaceSpec)

/-- ITS FALSE NEIGHBOUR: 'it returns false'. Refute it at one input. -/
def fnExactCoversSpaceWrong : ChangeSpec := { name := "fnExactCoversSpace", fn := fun _ => fun
  | [d1, d2, d3] => { results := [.lit (.bool false)], args := [d1, d2, d3] }
  | _ => none }
def FnExactCoversSpaceWrongFalsely : Prop := fnExactCoversSpaceRow.holds Try.pinned (OpenSpec.ofChange fnExactCoversSpaceWrong)

/-- 'laws.FnExactUncoveredWords': WHATEVER THE INPUT: true; the input reads as it did. -/
def fnExactUncoveredWordsSpec : ChangeSpec := { name := "fnExactUncoveredWords", fn := fun _ => fun
  | [d1, d2, d3] => { results := [.lit (.bool true)], args := [d1, d2, d3] }
  | _ => none }
def fnExactUncoveredWordsRow : OpenClaim := { program := "ytpboeoidbimmcaa", sum := "5b0e828ce7e036f53fa79cc7d513ed4a2383df5244bdad7e60bad1398197eacf", func := "loop.example/g01411/laws.FnExactUncoveredWords", spec := "fnExactUncoveredWords", unfollowed := true, recurses := true, apart := false }
def FnExactUncoveredWordsSaid : Prop := fnExactUncoveredWordsRow.holds Try.pinned (OpenSpec.ofChange fnExactUncoveredWordsSpec)

/-- ITS FALSE NEIGHBOUR: 'it returns false'. Refute it at one input. -/
def fnExactUncoveredWordsWrong : ChangeSpec := { name := "fnExactUncoveredWords", fn := fun _ => fun
  | [d1, d2, d3] => { results := [.lit (.bool false)], args := [d1, d2, d3] }
  | _ => none }
def FnExactUncoveredWordsWrongFalsely : Prop := fnExactUncoveredWordsRow.holds Try.pinned (OpenSpec.ofChange fnExactUncoveredWordsWrong)

/-- 'laws.FnExactNeededWords': WHATEVER THE INPUT: true; the input reads as it did. -/
def fnExactNeededWordsSpec : ChangeSpec := { name := "fnExactNeededWords", fn := fun _ => fun
  | [d1, d2, d3] => { results := [.lit (.bool true)], args := [d1, d2, d3] }
  | _ => none }
def fnExactNeededWordsRow : OpenClaim := { program := "ytpboeoidbimmcaa", sum := "5b0e828ce7e036f53fa79cc7d513ed4a2383df5244bdad7e60bad1398197eacf", func := "loop.example/g01411/laws.FnExactNeededWords", spec := "fnExactNeededWords", unfollowed := true, recurses := true, apart := false }
def FnExactNeededWordsSaid : Prop := fnExactNeededWordsRow.holds Try.pinned (OpenSpec.ofChange fnExactNeededWordsSpec)

/-- ITS FALSE NEIGHBOUR: 'it returns false'. Refute it at one input. -/
def fnExactNeededWordsWrong : ChangeSpec := { name := "fnExactNeededWords", fn := fun _ => fun
  | [d1, d2, d3] => { results := [.lit (.bool false)], args := [d1, d2, d3] }
  | _ => none }
def FnExactNeededWordsWrongFalsely : Prop := fnExactNeededWordsRow.holds Try.pinned (OpenSpec.ofChange fnExactNeededWordsWrong)

/- THE SECOND FORM. 'bulk': how many values and letters a reading holds, each counted each time it is reached (what is shared counts as often as it is met; a slice's spare places count too). A statement '..UptoSaid' is the law's where the arguments, and the package variables that the reading takes, are together of bulk at most 1048576: NARROWER than '..Said'. Prove '..Said' where nothing that the law and all that it calls make is longer than what came in: it says more and counts as full. Else prove '..UptoSaid'. A law counts once. -/
mutual
def uptoBulk {H : Type} : DataW H → Nat
  | .lit (.string bytes) => bytes.length + 1
  | .lit _ => 1
  | .nil => 1
  | .ptr d => uptoBulk d + 1
  | .slice elems spare => uptoBulkAll elems + uptoBulkAll spare + 1
  | .agg parts => uptoBulkAll parts + 1
  | .iface _ d => uptoBulk d + 1
  | .map entries => uptoBulkEntries entries + 1
  | .held _ => 1
def uptoBulkAll {H : Type} : List (DataW H) → Nat
  | [] => 0
  | d :: r => uptoBulk d + uptoBulkAll r
def uptoBulkEntries {H : Type} : List (Lit × DataW H) → Nat
  | [] => 0
  | x :: r => uptoBulkEntry x + uptoBulkEntries r
def uptoBulkEntry {H : Type} : Lit × DataW H → Nat
  | (.string bytes, d) => bytes.length + uptoBulk d + 1
  | (_, d) => uptoBulk d + 1
 end
def uptoSmall : (H : Type) → List (DataW H) → Bool := fun _ ds => decide (uptoBulkAll ds ≤ 1048576)
def OpenSpec.upto (s : _root_.Go.ChangeSpec) : _root_.Go.OpenSpec := { _root_.Go.OpenSpec.ofChange s with cond := some uptoSmall }

/-- 'laws.FnExactDirectSum', WHERE WHAT IT READS IS OF BULK AT MOST 1048576: true; the input reads as it did. -/
def fnExactDirectSumUptoRow : OpenClaim := { program := "ytpboeoidbimmcaa", sum := "5b0e828ce7e036f53fa79cc7d513ed4a2383df5244bdad7e60bad1398197eacf", func := "loop.example/g01411/laws.FnExactDirectSum", spec := "fnExactDirectSum", apart := false, narrowed := true }
def FnExactDirectSumUptoSaid : Prop := fnExactDirectSumUptoRow.holds Try.pinned (OpenSpec.upto fnExactDirectSumSpec)

/-- 'laws.FnExactTakeOutPlace', WHERE WHAT IT READS IS OF BULK AT MOST 1048576: true; the input reads as it did. -/
def fnExactTakeOutPlaceUptoRow : OpenClaim := { program := "ytpboeoidbimmcaa", sum := "5b0e828ce7e036f53fa79cc7d513ed4a2383df5244bdad7e60bad1398197eacf", func := "loop.example/g01411/laws.FnExactTakeOutPlace", spec := "fnExactTakeOutPlace", unfollowed := true, recurses := true, apart := false, narrowed := true }
def FnExactTakeOutPlaceUptoSaid : Prop := fnExactTakeOutPlaceUptoRow.holds Try.pinned (OpenSpec.upto fnExactTakeOutPlaceSpec)

/-- 'laws.FnExactKeepSign', WHERE WHAT IT READS IS OF BULK AT MOST 1048576: true; the input reads as it did. -/
def fnExactKeepSignUptoRow : OpenClaim := { program := "ytpboeoidbimmcaa", sum := "5b0e828ce7e036f53fa79cc7d513ed4a2383df5244bdad7e60bad1398197eacf", func := "loop.example/g01411/laws.FnExactKeepSign", spec := "fnExactKeepSign", unfollowed := true, recurses := true, apart := false, narrowed := true }
def FnExactKeepSignUptoSaid : Prop := fnExactKeepSignUptoRow.holds Try.pinned (OpenSpec.upto fnExactKeepSignSpec)

/-- 'laws.FnExactAddSumPlace', WHERE WHAT IT READS IS OF BULK AT MOST 1048576: true; the input reads as it did. -/
def fnExactAddSumPlaceUptoRow : OpenClaim := { program := "ytpboeoidbimmcaa", sum := "5b0e828ce7e036f53fa79cc7d513ed4a2383df5244bdad7e60bad1398197eacf", func := "loop.example/g01411/laws.FnExactAddSumPlace", spec := "fnExactAddSumPlace", unfollowed := true, recurses := true, apart := false, narrowed := true }
def FnExactAddSumPlaceUptoSaid : Prop := fnExactAddSumPlaceUptoRow.holds Try.pinned (OpenSpec.upto fnExactAddSumPlaceSpec)

/-- 'laws.FnExactOrderPlaces', WHERE WHAT IT READS IS OF BULK AT MOST 1048576: true; the input reads as it did. -/
def fnExactOrderPlacesUptoRow : OpenClaim := { program := "ytpboeoidbimmcaa", sum := "5b0e828ce7e036f53fa79cc7d513ed4a2383df5244bdad7e60bad1398197eacf", func := "loop.example/g01411/laws.FnExactOrderPlaces", spec := "fnExactOrderPlaces", unfollowed := true, recurses := true, apart := false, narrowed := true }
def FnExactOrderPlacesUptoSaid : Prop := fnExactOrderPlacesUptoRow.holds Try.pinned (OpenSpec.upto fnExactOrderPlacesSpec)

/-- 'laws.FnExactOrderSigns', WHERE WHAT IT READS IS OF BULK AT MOST 1048576: true; the input reads as it did. -/
def fnExactOrderSignsUptoRow : OpenClaim := { program := "ytpboeoidbimmcaa", sum := "5b0e828ce7e036f53fa79cc7d513ed4a2383df5244bdad7e60bad1398197eacf", func := "loop.example/g01411/laws.FnExactOrderSigns", spec := "fnExactOrderSigns", unfollowed := true, recurses := true, apart := false, narrowed := true }
def FnExactOrderSignsUptoSaid : Prop := fnExactOrderSignsUptoRow.holds Try.pinned (OpenSpec.upto fnExactOrderSignsSpec)

/-- 'laws.FnExactCodesTogether', WHERE WHAT IT READS IS OF BULK AT MOST 1048576: true; the input reads as it did. -/
def fnExactCodesTogetherUptoRow : OpenClaim := { program := "ytpboeoidbimmcaa", sum := "5b0e828ce7e036f53fa79cc7d513ed4a2383df5244bdad7e60bad1398197eacf", func := "loop.example/g01411/laws.FnExactCodesTogether", spec := "fnExactCodesTogether", unfollowed := true, recurses := true, apart := false, narrowed := true }
def FnExactCodesTogetherUptoSaid : Prop := fnExactCodesTogetherUptoRow.holds Try.pinned (OpenSpec.upto fnExactCodesTogetherSpec)

/-- 'laws.FnExactCodesInCommon', WHERE WHAT IT READS IS OF BULK AT MOST 1048576: true; the input reads as it did. -/
def fnExactCodesInCommonUptoRow : OpenClaim := { program := "ytpboeoidbimmcaa", sum := "5b0e828ce7e036f53fa79cc7d513ed4a2383df5244bdad7e60bad1398197eacf", func := "loop.example/g01411/laws.FnExactCodesInCommon", spec := "fnExactCodesInCommon", unfollowed := true, recurses := true, apart := false, narrowed := true }
def FnExactCodesInCommonUptoSaid : Prop := fnExactCodesInCommonUptoRow.holds Try.pinned (OpenSpec.upto fnExactCodesInCommonSpec)

/-- 'laws.FnExactShiftCode', WHERE WHAT IT READS IS OF BULK AT MOST 1048576: true; the input reads as it did. -/
def fnExactShiftCodeUptoRow : OpenClaim := { program := "ytpboeoidbimmcaa", sum := "5b0e828ce7e036f53fa79cc7d513ed4a2383df5244bdad7e60bad1398197eacf", func := "loop.example/g01411/laws.FnExactShiftCode", spec := "fnExactShiftCode", recurses := true, apart := false, narrowed := true }
def FnExactShiftCodeUptoSaid : Prop := fnExactShiftCodeUptoRow.holds Try.pinned (OpenSpec.upto fnExactShiftCodeSpec)

/-- 'laws.FnExactCoversSpace', WHERE WHAT IT READS IS OF BULK AT MOST 1048576: true; the input reads as it did. -/
def fnExactCoversSpaceUptoRow : OpenClaim := { program := "ytpboeoidbimmcaa", sum := "5b0e828ce7e036f53fa79cc7d513ed4a2383df5244bdad7e60bad1398197eacf", func := "loop.example/g01411/laws.FnExactCoversSpace", spec := "fnExactCoversSpace", unfollowed := true, recurses := true, apart := false, narrowed := true }
def FnExactCoversSpaceUptoSaid : Prop := fnExactCoversSpaceUptoRow.holds Try.pinned (OpenSpec.upto fnExactCoversSpaceSpec)

/-- 'laws.FnExactUncoveredWords', WHERE WHAT IT READS IS OF BULK AT MOST 1048576: true; the input reads as it did. -/
def fnExactUncoveredWordsUptoRow : OpenClaim := { program := "ytpboeoidbimmcaa", sum := "5b0e828ce7e036f53fa79cc7d513ed4a2383df5244bdad7e60bad1398197eacf", func := "loop.example/g01411/laws.FnExactUncoveredWords", spec := "fnExactUncoveredWords", unfollowed := true, recurses := true, apart := false, narrowed := true }
def FnExactUncoveredWordsUptoSaid : Prop := fnExactUncoveredWordsUptoRow.holds Try.pinned (OpenSpec.upto fnExactUncoveredWordsSpec)

/-- 'laws.FnExactNeededWords', WHERE WHAT IT READS IS OF BULK AT MOST 1048576: true; the input reads as it did. -/
def fnExactNeededWordsUptoRow : OpenClaim := { program := "ytpboeoidbimmcaa", sum := "5b0e828ce7e036f53fa79cc7d513ed4a2383df5244bdad7e60bad1398197eacf", func := "loop.example/g01411/laws.FnExactNeededWords", spec := "fnExactNeededWords", unfollowed := true, recurses := true, apart := false, narrowed := true }
def FnExactNeededWordsUptoSaid : Prop := fnExactNeededWordsUptoRow.holds Try.pinned (OpenSpec.upto fnExactNeededWordsSpec)

end Rows
end Go.Proofs.Ytpboeoidbimmcaa
