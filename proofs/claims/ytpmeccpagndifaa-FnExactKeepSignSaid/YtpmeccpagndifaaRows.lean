/-
  No cell of these rows narrows 'for every input' (looked for: loops, veiled, ifaces, maps, wideKeys, modest, calm, conditions, laid).
  DERIVED. THE GIVEN ROWS OF THIS SEAT. 9 by the template 'for every input the law returns true; each argument reads behind the call as it read before'; 0 by the template 'total and deterministic' (their statements: YtpmeccpagndifaaTotals.lean).
  GIVEN WITH THE SEED: the statements are not yours to turn. If you find one false, say at which input.
  Laid BY PROGRAM, IN A SANDBOX (cutbox-rows.mjs): the forced cells as the released guide's own fill.sh prints them over the translation c5bbe395d286ffae… (all of the seat's roots in one cut). By AI agents, Wed Nov 11 2026. No macro, syntax, notation, axiom, sorry.
-/
import Derived.Test.YtpmeccpagndifaaChecked
import GoSem.Claim
import GoSem.ClaimJoined
import GoSem.ClaimMapViews
import Derived.JoinedTies
import Derived.KernelRfl
namespace Go.Proofs.Ytpmeccpagndifaa
/- THE CELL 'sum', in the pinned program and in every row, IS THE sha256 OF THE DUMP (.gsa) THAT YtpmeccpagndifaaProg.lean LOADS. Nothing in Lean hashes anything: it is a label: what it is worth is what the hold of that sum in a sandbox is worth. -/
noncomputable def Try.pinned : Pinned := { name := "ytpmeccpagndifaa", sum := "c5bbe395d286ffae81df8cb3bfe0feefae9f995662f41cf969a941cded3026b4", checked := Try.checked }
namespace Rows
def none {H : Type} : Left H := { results := [], args := [] }

/-- 'laws.FnExactIsPlain': WHATEVER THE INPUT: true; the input reads as it did. -/
def fnExactIsPlainSpec : ChangeSpec := { name := "fnExactIsPlain", fn := fun _ => fun
  | [d] => { results := [.lit (.bool true)], args := [d] }
  | _ => none }
def fnExactIsPlainRow : OpenClaim := { program := "ytpmeccpagndifaa", sum := "c5bbe395d286ffae81df8cb3bfe0feefae9f995662f41cf969a941cded3026b4", func := "loop.example/g01411/laws.FnExactIsPlain", spec := "fnExactIsPlain", unfollowed := true, recurses := true, apart := false }
def FnExactIsPlainSaid : Prop := fnExactIsPlainRow.holds Try.pinned (OpenSpec.ofChange fnExactIsPlainSpec)

/-- ITS FALSE NEIGHBOUR: 'it returns false'. Refute it at one input. -/
def fnExactIsPlainWrong : ChangeSpec := { name := "fnExactIsPlain", fn := fun _ => fun
  | [d] => { results := [.lit (.bool false)], args := [d] }
  | _ => none }
def FnExactIsPlainWrongFalsely : Prop := fnExactIsPlainRow.holds Try.pinned (OpenSpec.ofChange fnExactIsPlainWrong)

/-- 'laws.FnExactIsLinear': WHATEVER THE INPUT: true; the input reads as it did. -/
def fnExactIsLinearSpec : ChangeSpec := { name := "fnExactIsLinear", fn := fun _ => fun
  | [d1, d2] => { results := [.lit (.bool true)], args := [d1, d2] }
  | _ => none }
def fnExactIsLinearRow : OpenClaim := { program := "ytpmeccpagndifaa", sum := "c5bbe395d286ffae81df8cb3bfe0feefae9f995662f41cf969a941cded3026b4", func := "loop.example/g01411/laws.FnExactIsLinear", spec := "fnExactIsLinear", unfollowed := true, recurses := true, apart := false }
def FnExactIsLinearSaid : Prop := fnExactIsLinearRow.holds Try.pinned (OpenSpec.ofChange fnExactIsLinearSpec)

/-- ITS FALSE NEIGHBOUR: 'it returns false'. Refute it at one input. -/
def fnExactIsLinearWrong : ChangeSpec := { name := "fnExactIsLinear", fn := fun _ => fun
  | [d1, d2] => { results := [.lit (.bool false)], args := [d1, d2] }
  | _ => none }
def FnExactIsLinearWrongFalsely : Prop := fnExactIsLinearRow.holds Try.pinned (OpenSpec.ofChange fnExactIsLinearWrong)

/-- 'laws.FnExactSpanOf': WHATEVER THE INPUT: true; the input reads as it did. -/
def fnExactSpanOfSpec : ChangeSpec := { name := "fnExactSpanOf", fn := fun _ => fun
  | [d1, d2] => { results := [.lit (.bool true)], args := [d1, d2] }
  | _ => none }
def fnExactSpanOfRow : OpenClaim := { program := "ytpmeccpagndifaa", sum := "c5bbe395d286ffae81df8cb3bfe0feefae9f995662f41cf969a941cded3026b4", func := "loop.example/g01411/laws.FnExactSpanOf", spec := "fnExactSpanOf", unfollowed := true, recurses := true, apart := false }
def FnExactSpanOfSaid : Prop := fnExactSpanOfRow.holds Try.pinned (OpenSpec.ofChange fnExactSpanOfSpec)

/-- ITS FALSE NEIGHBOUR: 'it returns false'. Refute it at one input. -/
def fnExactSpanOfWrong : ChangeSpec := { name := "fnExactSpanOf", fn := fun _ => fun
  | [d1, d2] => { results := [.lit (.bool false)], args := [d1, d2] }
  | _ => none }
def FnExactSpanOfWrongFalsely : Prop := fnExactSpanOfRow.holds Try.pinned (OpenSpec.ofChange fnExactSpanOfWrong)

/-- 'laws.FnExactWeightCounts': WHATEVER THE INPUT: true; the input reads as it did. -/
def fnExactWeightCountsSpec : ChangeSpec := { name := "fnExactWeightCounts", fn := fun _ => fun
  | [d1, d2] => { results := [.lit (.bool true)], args := [d1, d2] }
  | _ => none }
def fnExactWeightCountsRow : OpenClaim := { program := "ytpmeccpagndifaa", sum := "c5bbe395d286ffae81df8cb3bfe0feefae9f995662f41cf969a941cded3026b4", func := "loop.example/g01411/laws.FnExactWeightCounts", spec := "fnExactWeightCounts", unfollowed := true, recurses := true, apart := false }
def FnExactWeightCountsSaid : Prop := fnExactWeightCountsRow.holds Try.pinned (OpenSpec.ofChange fnExactWeightCountsSpec)

/-- ITS FALSE NEIGHBOUR: 'it returns false'. Refute it at one input. -/
def fnExactWeightCountsWrong : ChangeSpec := { name := "fnExactWeightCounts", fn := fun _ => fun
  | [d1, d2] => { results := [.lit (.bool false)], args := [d1, d2] }
  | _ => none }
def FnExactWeightCountsWrongFalsely : Prop := fnExactWeightCountsRow.holds Try.pinned (OpenSpec.ofChange fnExactWeightCountsWrong)

/-- 'laws.FnExactSyndromeOf': WHATEVER THE INPUT: true; the input reads as it did. -/
def fnExactSyndromeOfSpec : ChangeSpec := { name := "fnExactSyndromeOf", fn := fun _ => fun
  | [d1, d2, d3] => { results := [.lit (.bool true)], args := [d1, d2, d3] }
  | _ => none }
def fnExactSyndromeOfRow : OpenClaim := { program := "ytpmeccpagndifaa", sum := "c5bbe395d286ffae81df8cb3bfe0feefae9f995662f41cf969a941cded3026b4", func := "loop.example/g01411/laws.FnExactSyndromeOf", spec := "fnExactSyndromeOf", unfollowed := true, recurses := true, apart := false }
def FnExactSyndromeOfSaid : Prop := fnExactSyndromeOfRow.holds Try.pinned (OpenSpec.ofChange fnExactSyndromeOfSpec)

/-- ITS FALSE NEIGHBOUR: 'it returns false'. Refute it at one input. -/
def fnExactSyndromeOfWrong : ChangeSpec := { name := "fnExactSyndromeOf", fn := fun _ => fun
  | [d1, d2, d3] => { results := [.lit (.bool false)], args := [d1, d2, d3] }
  | _ => none }
def FnExactSyndromeOfWrongFalsely : Prop := fnExactSyndromeOfRow.holds Try.pinned (OpenSpec.ofChange fnExactSyndromeOfWrong)

/-- 'laws.FnExactTakeOutPlace': WHATEVER THE INPUT: true; the input reads as it did. -/
def fnExactTakeOutPlaceSpec : ChangeSpec := { name := "fnExactTakeOutPlace", fn := fun _ => fun
  | [d1, d2, d3] => { results := [.lit (.bool true)], args := [d1, d2, d3] }
  | _ => none }
def fnExactTakeOutPlaceRow : OpenClaim := { program := "ytpmeccpagndifaa", sum := "c5bbe395d286ffae81df8cb3bfe0feefae9f995662f41cf969a941cded3026b4", func := "loop.example/g01411/laws.FnExactTakeOutPlace", spec := "fnExactTakeOutPlace", unfollowed := true, recurses := true, apart := false }
def FnExactTakeOutPlaceSaid : Prop := fnExactTakeOutPlaceRow.holds Try.pinned (OpenSpec.ofChange fnExactTakeOutPlaceSpec)

/-- ITS FALSE NEIGHBOUR: 'it returns false'. Refute it at one input. -/
def fnExactTakeOutPlaceWrong : ChangeSpec := { name := "fnExactTakeOutPlace", fn := fun _ => fun
  | [d1, d2, d3] => { results := [.lit (.bool false)], args := [d1, d2, d3] }
  | _ => none }
def FnExactTakeOutPlaceWrongFalsely : Prop := fnExactTakeOutPlaceRow.holds Try.pinned (OpenSpec.ofChange fnExactTakeOutPlaceWrong)

/-- 'laws.FnExactKeepSign': WHATEVER THE INPUT: true; the input reads as it did. -/
def fnExactKeepSignSpec : ChangeSpec := { name := "fnExactKeepSign", fn := fun _ => fun
  | [d1, d2, d3, d4] => { results := [.lit (.bool true)], args := [d1, d2, d3, d4] }
  | _ => none }
def fnExactKeepSignRow : OpenClaim := { program := "ytpmeccpagndifaa", sum := "c5bbe395d286ffae81df8cb3bfe0feefae9f995662f41cf969a941cded3026b4", func := "loop.example/g01411/laws.FnExactKeepSign", spec := "fnExactKeepSign", unfollowed := true, recurses := true, apart := false }
def FnExactKeepSignSaid : Prop := fnExactKeepSignRow.holds Try.pinned (OpenSpec.ofChange fnExactKeepSignSpec)

/-- ITS FALSE NEIGHBOUR: 'it returns false'. Refute it at one input. -/
def fnExactKeepSignWrong : ChangeSpec := { name := "fnExactKeepSign", fn := fun _ => fun
  | [d1, d2, d3, d4] => { results := [.lit (.bool false)], args := [d1, d2, d3, d4] }
  | _ => none }
def FnExactKeepSignWrongFalsely : Prop := fnExactKeepSignRow.holds Try.pinned (OpenSpec.ofChange fnExactKeepSignWrong)

/-- 'laws.FnExactOrderPlaces': WHATEVER THE INPUT: true; the input reads as it did. -/
def fnExactOrderPlacesSpec : ChangeSpec := { name := "fnExactOrderPlaces", fn := fun _ => fun
  | [d1, d2, d3] => { results := [.lit (.bool true)], args := [d1, d2, d3] }
  | _ => none }
def fnExactOrderPlacesRow : OpenClaim := { program := "ytpmeccpagndifaa", sum := "c5bbe395d286ffae81df8cb3bfe0feefae9f995662f41cf969a941cded3026b4", func := "loop.example/g01411/laws.FnExactOrderPlaces", spec := "fnExactOrderPlaces", unfollowed := true, recurses := true, apart := false }
def FnExactOrderPlacesSaid : Prop := fnExactOrderPlacesRow.holds Try.pinned (OpenSpec.ofChange fnExactOrderPlacesSpec)

/-- ITS FALSE NEIGHBOUR: 'it returns false'. Refute it at one input. -/
def fnExactOrderPlacesWrong : ChangeSpec := { name := "fnExactOrderPlaces", fn := fun _ => fun
  | [d1, d2, d3] => { results := [.lit (.bool false)], args := [d1, d2, d3] }
  | _ => none }
def FnExactOrderPlacesWrongFalsely : Prop := fnExactOrderPlacesRow.holds Try.pinned (OpenSpec.ofChange fnExactOrderPlacesWrong)

/-- 'laws.FnExactGreedyCode': WHATEVER THE INPUT: true; the input reads as it did. -/
def fnExactGreedyCodeSpec : ChangeSpec := { name := "fnExactGreedyCode", fn := fun _ => fun
  | [d1, d2] => { results := [.lit (.bool true)], args := [d1, d2] }
  | _ => none }
def fnExactGreedyCodeRow : OpenClaim := { program := "ytpmeccpagndifaa", sum := "c5bbe395d286ffae81df8cb3bfe0feefae9f995662f41cf969a941cded3026b4", func := "loop.example/g01411/laws.FnExactGreedyCode", spec := "fnExactGreedyCode", unfollowed := true, recurses := true, apart := false }
def FnExactGreedyCodeSaid : Prop := fnExactGreedyCodeRow.holds Try.pinned (OpenSpec.ofChange fnExactGreedyCodeSpec)

/-- ITS FALSE NEIGHBOUR: 'it returns false'. Refute it at one input. -/
def fnExactGreedyCodeWrong : ChangeSpec := { name := "fnExactGreedyCode", fn := fun _ => fun
  | [d1, d2] => { results := [.lit (.bool false)], args := [d1, d2] }
  | _ => none }
def FnExactGreedyCodeWrongFalsely : Prop := fnExactGreedyCodeRow.holds Try.pinned (OpenSpec.ofChange fnExactGreedyCodeWrong)

/- THE SECOND FORM. 'bulk': how many values and letters a reading holds, each counted each time it is reached (what is shared counts as often as it is met; a slice's spare places count too). A statement '..UptoSaid' is the law's where the arguments, and the package variables that the reading takes, are together of bulk at most 1048576: NARROWER than '..Said'. Prove '..Said' where nothing that the law and all that it calls make is longer than what came in: it says more and counts as full. Else prove '..UptoSaid'. A law counts once. -/
mutual
def uptoBulk {H : Type} : DataW H → Nat
  | .lit (.string bytes) => bytes.length + 1
  | .lit _ => 1
  | .nil => 1
  | .ptr d => uptoBulk d + 1
  | .slice elems spare => uptoBulkAll elems + uptoBulkAll spare + 1
  | .agg parts => uptoBulkAll parts + 1
  | .iface _ d => uptoBulk d + 1
  | .map entries => uptoBulkEntries entries + 1
  | .held _ => 1
def uptoBulkAll {H : Type} : List (DataW H) → Nat
  | [] => 0
  | d :: r => uptoBulk d + uptoBulkAll r
def uptoBulkEntries {H : Type} : List (Lit × DataW H) → Nat
  | [] => 0
  | x :: r => uptoBulkEntry x + uptoBulkEntries r
def uptoBulkEntry {H : Type} : Lit × DataW H → Nat
  | (.string bytes, d) => bytes.length + uptoBulk d + 1
  | (_, d) => uptoBulk d + 1
 end
def uptoSmall : (H : Type) → List (DataW H) → Bool := fun _ ds => decide (uptoBulkAll ds ≤ 1048576)
def OpenSpec.upto (s : _root_.Go.ChangeSpec) : _root_.Go.OpenSpec := { _root_.Go.OpenSpec.ofChange s with cond := some uptoSmall }

/-- 'laws.FnExactIsPlain', WHERE WHAT IT READS IS OF BULK AT MOST 1048576: true; the input reads as it did. -/
def fnExactIsPlainUptoRow : OpenClaim := { program := "ytpmeccpagndifaa", sum := "c5bbe395d286ffae81df8cb3bfe0feefae9f995662f41cf969a941cded3026b4", func := "loop.example/g01411/laws.FnExactIsPlain", spec := "fnExactIsPlain", unfollowed := true, recurses := true, apart := false, narrowed := true }
def FnExactIsPlainUptoSaid : Prop := fnExactIsPlainUptoRow.holds Try.pinned (OpenSpec.upto fnExactIsPlainSpec)

/-- 'laws.FnExactIsLinear', WHERE WHAT IT READS IS OF BULK AT MOST 1048576: true; the input reads as it did. -/
def fnExactIsLinearUptoRow : OpenClaim := { program := "ytpmeccpagndifaa", sum := "c5bbe395d286ffae81df8cb3bfe0feefae9f995662f41cf969a941cded3026b4", func := "loop.example/g01411/laws.FnExactIsLinear", spec := "fnExactIsLinear", unfollowed := true, recurses := true, apart := false, narrowed := true }
def FnExactIsLinearUptoSaid : Prop := fnExactIsLinearUptoRow.holds Try.pinned (OpenSpec.upto fnExactIsLinearSpec)

/-- 'laws.FnExactSpanOf', WHERE WHAT IT READS IS OF BULK AT MOST 1048576: true; the input reads as it did. -/
def fnExactSpanOfUptoRow : OpenClaim := { program := "ytpmeccpagndifaa", sum := "c5bbe395d286ffae81df8cb3bfe0feefae9f995662f41cf969a941cded3026b4", func := "loop.example/g01411/laws.FnExactSpanOf", spec := "fnExactSpanOf", unfollowed := true, recurses := true, apart := false, narrowed := true }
def FnExactSpanOfUptoSaid : Prop := fnExactSpanOfUptoRow.holds Try.pinned (OpenSpec.upto fnExactSpanOfSpec)

/-- 'laws.FnExactWeightCounts', WHERE WHAT IT READS IS OF BULK AT MOST 1048576: true; the input reads as it did. -/
def fnExactWeightCountsUptoRow : OpenClaim := { program := "ytpmeccpagndifaa", sum := "c5bbe395d286ffae81df8cb3bfe0feefae9f995662f41cf969a941cded3026b4", func := "loop.example/g01411/laws.FnExactWeightCounts", spec := "fnExactWeightCounts", unfollowed := true, recurses := true, apart := false, narrowed := true }
def FnExactWeightCountsUptoSaid : Prop := fnExactWeightCountsUptoRow.holds Try.pinned (OpenSpec.upto fnExactWeightCountsSpec)

/-- 'laws.FnExactSyndromeOf', WHERE WHAT IT READS IS OF BULK AT MOST 1048576: true; the input reads as it did. -/
def fnExactSyndromeOfUptoRow : OpenClaim := { program := "ytpmeccpagndifaa", sum := "c5bbe395d286ffae81df8cb3bfe0feefae9f995662f41cf969a941cded3026b4", func := "loop.example/g01411/laws.FnExactSyndromeOf", spec := "fnExactSyndromeOf", unfollowed := true, recurses := true, apart := false, narrowed := true }
def FnExactSyndromeOfUptoSaid : Prop := fnExactSyndromeOfUptoRow.holds Try.pinned (OpenSpec.upto fnExactSyndromeOfSpec)

/-- 'laws.FnExactTakeOutPlace', WHERE WHAT IT READS IS OF BULK AT MOST 1048576: true; the input reads as it did. -/
def fnExactTakeOutPlaceUptoRow : OpenClaim := { program := "ytpmeccpagndifaa", sum := "c5bbe395d286ffae81df8cb3bfe0feefae9f995662f41cf969a941cded3026b4", func := "loop.example/g01411/laws.FnExactTakeOutPlace", spec := "fnExactTakeOutPlace", unfollowed := true, recurses := true, apart := false, narrowed := true }
def FnExactTakeOutPlaceUptoSaid : Prop := fnExactTakeOutPlaceUptoRow.holds Try.pinned (OpenSpec.upto fnExactTakeOutPlaceSpec)

/-- 'laws.FnExactKeepSign', WHERE WHAT IT READS IS OF BULK AT MOST 1048576: true; the input reads as it did. -/
def fnExactKeepSignUptoRow : OpenClaim := { program := "ytpmeccpagndifaa", sum := "c5bbe395d286ffae81df8cb3bfe0feefae9f995662f41cf969a941cded3026b4", func := "loop.example/g01411/laws.FnExactKeepSign", spec := "fnExactKeepSign", unfollowed := true, recurses := true, apart := false, narrowed := true }
def FnExactKeepSignUptoSaid : Prop := fnExactKeepSignUptoRow.holds Try.pinned (OpenSpec.upto fnExactKeepSignSpec)

/-- 'laws.FnExactOrderPlaces', WHERE WHAT IT READS IS OF BULK AT MOST 1048576: true; the input reads as it did. -/
def fnExactOrderPlacesUptoRow : OpenClaim := { program := "ytpmeccpagndifaa", sum := "c5bbe395d286ffae81df8cb3bfe0feefae9f995662f41cf969a941cded3026b4", func := "loop.example/g01411/laws.FnExactOrderPlaces", spec := "fnExactOrderPlaces", unfollowed := true, recurses := true, apart := false, narrowed := true }
def FnExactOrderPlacesUptoSaid : Prop := fnExactOrderPlacesUptoRow.holds Try.pinned (OpenSpec.upto fnExactOrderPlacesSpec)

/-- 'laws.FnExactGreedyCode', WHERE WHAT IT READS IS OF BULK AT MOST 1048576: true; the input reads as it did. -/
def fnExactGreedyCodeUptoRow : OpenClaim := { program := "ytpmeccpagndifaa", sum := "c5bbe395d286ffae81df8cb3bfe0feefae9f995662f41cf969a941cded3026b4", func := "loop.example/g01411/laws.FnExactGreedyCode", spec := "fnExactGreedyCode", unfollowed := true, recurses := true, apart := false, narrowed := true }
def FnExactGreedyCodeUptoSaid : Prop := fnExactGreedyCodeUptoRow.holds Try.pinned (OpenSpec.upto fnExactGreedyCodeSpec)

end Rows
end Go.Proofs.Ytpmeccpagndifaa
