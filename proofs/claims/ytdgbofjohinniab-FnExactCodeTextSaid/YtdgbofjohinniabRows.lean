/-
  No cell of these rows narrows 'for every input' (looked for: loops, veiled, ifaces, maps, wideKeys, modest, calm, conditions, laid).
  DERIVED. THE GIVEN ROWS OF THIS SEAT. 9 by the template 'for every input the law returns true; each argument reads behind the call as it read before'; 0 by the template 'total and deterministic' (their statements: YtdgbofjohinniabTotals.lean).
  GIVEN WITH THE SEED: the statements are not yours to turn. If you find one false, say at which input.
  Laid BY PROGRAM, IN A SANDBOX (cutbox-rows.mjs): the forced cells as the released guide's own fill.sh prints them over the translation fb4817eecb75244c… (all of the seat's roots in one cut). By AI agents, Wed Nov 11 2026. No macro, syntax, notation, axiom, sorry.
-/
import Derived.Test.YtdgbofjohinniabChecked
import GoSem.Claim
import GoSem.ClaimJoined
import GoSem.ClaimMapViews
import Derived.JoinedTies
import Derived.KernelRfl
namespace Go.Proofs.Ytdgbofjohinniab
/- THE CELL 'sum', in the pinned program and in every row, IS THE sha256 OF THE DUMP (.gsa) THAT YtdgbofjohinniabProg.lean LOADS. Nothing in Lean hashes anything: it is a label: what it is worth is what the hold of that sum in a sandbox is worth. -/
noncomputable def Try.pinned : Pinned := { name := "ytdgbofjohinniab", sum := "fb4817eecb75244c8b5e86c78ed8a78c2b270016da86182019b953f22fa73605", checked := Try.checked }
namespace Rows
def none {H : Type} : Left H := { results := [], args := [] }

/-- 'laws.FnExactIsCode': WHATEVER THE INPUT: true; the input reads as it did. -/
def fnExactIsCodeSpec : ChangeSpec := { name := "fnExactIsCode", fn := fun _ => fun
  | [d1, d2] => { results := [.lit (.bool true)], args := [d1, d2] }
  | _ => none }
def fnExactIsCodeRow : OpenClaim := { program := "ytdgbofjohinniab", sum := "fb4817eecb75244c8b5e86c78ed8a78c2b270016da86182019b953f22fa73605", func := "loop.example/g01411/laws.FnExactIsCode", spec := "fnExactIsCode", apart := false }
def FnExactIsCodeSaid : Prop := fnExactIsCodeRow.holds Try.pinned (OpenSpec.ofChange fnExactIsCodeSpec)

/-- ITS FALSE NEIGHBOUR: 'it returns false'. Refute it at one input. -/
def fnExactIsCodeWrong : ChangeSpec := { name := "fnExactIsCode", fn := fun _ => fun
  | [d1, d2] => { results := [.lit (.bool false)], args := [d1, d2] }
  | _ => none }
def FnExactIsCodeWrongFalsely : Prop := fnExactIsCodeRow.holds Try.pinned (OpenSpec.ofChange fnExactIsCodeWrong)

/-- 'laws.FnExactLeastDistance': WHATEVER THE INPUT: true; the input reads as it did. -/
def fnExactLeastDistanceSpec : ChangeSpec := { name := "fnExactLeastDistance", fn := fun _ => fun
  | [d1, d2] => { results := [.lit (.bool true)], args := [d1, d2] }
  | _ => none }
def fnExactLeastDistanceRow : OpenClaim := { program := "ytdgbofjohinniab", sum := "fb4817eecb75244c8b5e86c78ed8a78c2b270016da86182019b953f22fa73605", func := "loop.example/g01411/laws.FnExactLeastDistance", spec := "fnExactLeastDistance", apart := false }
def FnExactLeastDistanceSaid : Prop := fnExactLeastDistanceRow.holds Try.pinned (OpenSpec.ofChange fnExactLeastDistanceSpec)

/-- ITS FALSE NEIGHBOUR: 'it returns false'. Refute it at one input. -/
def fnExactLeastDistanceWrong : ChangeSpec := { name := "fnExactLeastDistance", fn := fun _ => fun
  | [d1, d2] => { results := [.lit (.bool false)], args := [d1, d2] }
  | _ => none }
def FnExactLeastDistanceWrongFalsely : Prop := fnExactLeastDistanceRow.holds Try.pinned (OpenSpec.ofChange fnExactLeastDistanceWrong)

/-- 'laws.FnExactDistanceCounts': WHATEVER THE INPUT: true; the input reads as it did. -/
def fnExactDistanceCountsSpec : ChangeSpec := { name := "fnExactDistanceCounts", fn := fun _ => fun
  | [d1, d2] => { results := [.lit (.bool true)], args := [d1, d2] }
  | _ => none }
def fnExactDistanceCountsRow : OpenClaim := { program := "ytdgbofjohinniab", sum := "fb4817eecb75244c8b5e86c78ed8a78c2b270016da86182019b953f22fa73605", func := "loop.example/g01411/laws.FnExactDistanceCounts", spec := "fnExactDistanceCounts", apart := false }
def FnExactDistanceCountsSaid : Prop := fnExactDistanceCountsRow.holds Try.pinned (OpenSpec.ofChange fnExactDistanceCountsSpec)

/-- ITS FALSE NEIGHBOUR: 'it returns false'. Refute it at one input. -/
def fnExactDistanceCountsWrong : ChangeSpec := { name := "fnExactDistanceCounts", fn := fun _ => fun
  | [d1, d2] => { results := [.lit (.bool false)], args := [d1, d2] }
  | _ => none }
def FnExactDistanceCountsWrongFalsely : Prop := fnExactDistanceCountsRow.holds Try.pinned (OpenSpec.ofChange fnExactDistanceCountsWrong)

/-- 'laws.FnExactShiftCode': WHATEVER THE INPUT: true; the input reads as it did. -/
def fnExactShiftCodeSpec : ChangeSpec := { name := "fnExactShiftCode", fn := fun _ => fun
  | [d1, d2, d3] => { results := [.lit (.bool true)], args := [d1, d2, d3] }
  | _ => none }
def fnExactShiftCodeRow : OpenClaim := { program := "ytdgbofjohinniab", sum := "fb4817eecb75244c8b5e86c78ed8a78c2b270016da86182019b953f22fa73605", func := "loop.example/g01411/laws.FnExactShiftCode", spec := "fnExactShiftCode", recurses := true, apart := false }
def FnExactShiftCodeSaid : Prop := fnExactShiftCodeRow.holds Try.pinned (OpenSpec.ofChange fnExactShiftCodeSpec)

/-- ITS FALSE NEIGHBOUR: 'it returns false'. Refute it at one input. -/
def fnExactShiftCodeWrong : ChangeSpec := { name := "fnExactShiftCode", fn := fun _ => fun
  | [d1, d2, d3] => { results := [.lit (.bool false)], args := [d1, d2, d3] }
  | _ => none }
def FnExactShiftCodeWrongFalsely : Prop := fnExactShiftCodeRow.holds Try.pinned (OpenSpec.ofChange fnExactShiftCodeWrong)

/-- 'laws.FnExactOppositeCode': WHATEVER THE INPUT: true; the input reads as it did. -/
def fnExactOppositeCodeSpec : ChangeSpec := { name := "fnExactOppositeCode", fn := fun _ => fun
  | [d1, d2] => { results := [.lit (.bool true)], args := [d1, d2] }
  | _ => none }
def fnExactOppositeCodeRow : OpenClaim := { program := "ytdgbofjohinniab", sum := "fb4817eecb75244c8b5e86c78ed8a78c2b270016da86182019b953f22fa73605", func := "loop.example/g01411/laws.FnExactOppositeCode", spec := "fnExactOppositeCode", apart := false }
def FnExactOppositeCodeSaid : Prop := fnExactOppositeCodeRow.holds Try.pinned (OpenSpec.ofChange fnExactOppositeCodeSpec)

/-- ITS FALSE NEIGHBOUR: 'it returns false'. Refute it at one input. -/
def fnExactOppositeCodeWrong : ChangeSpec := { name := "fnExactOppositeCode", fn := fun _ => fun
  | [d1, d2] => { results := [.lit (.bool false)], args := [d1, d2] }
  | _ => none }
def FnExactOppositeCodeWrongFalsely : Prop := fnExactOppositeCodeRow.holds Try.pinned (OpenSpec.ofChange fnExactOppositeCodeWrong)

/-- 'laws.FnExactSpaceText': WHATEVER THE INPUT: true; the input reads as it did. -/
def fnExactSpaceTextSpec : ChangeSpec := { name := "fnExactSpaceText", fn := fun _ => fun
  | [d] => { results := [.lit (.bool true)], args := [d] }
  | _ => none }
def fnExactSpaceTextRow : OpenClaim := { program := "ytdgbofjohinniab", sum := "fb4817eecb75244c8b5e86c78ed8a78c2b270016da86182019b953f22fa73605", func := "loop.example/g01411/laws.FnExactSpaceText", spec := "fnExactSpaceText", recurses := true, apart := false }
def FnExactSpaceTextSaid : Prop := fnExactSpaceTextRow.holds Try.pinned (OpenSpec.ofChange fnExactSpaceTextSpec)

/-- ITS FALSE NEIGHBOUR: 'it returns false'. Refute it at one input. -/
def fnExactSpaceTextWrong : ChangeSpec := { name := "fnExactSpaceText", fn := fun _ => fun
  | [d] => { results := [.lit (.bool false)], args := [d] }
  | _ => none }
def FnExactSpaceTextWrongFalsely : Prop := fnExactSpaceTextRow.holds Try.pinned (OpenSpec.ofChange fnExactSpaceTextWrong)

/-- 'laws.FnExactParseSpace': WHATEVER THE INPUT: true; the input reads as it did. -/
def fnExactParseSpaceSpec : ChangeSpec := { name := "fnExactParseSpace", fn := fun _ => fun
  | [d] => { results := [.lit (.bool true)], args := [d] }
  | _ => none }
def fnExactParseSpaceRow : OpenClaim := { program := "ytdgbofjohinniab", sum := "fb4817eecb75244c8b5e86c78ed8a78c2b270016da86182019b953f22fa73605", func := "loop.example/g01411/laws.FnExactParseSpace", spec := "fnExactParseSpace", apart := false }
def FnExactParseSpaceSaid : Prop := fnExactParseSpaceRow.holds Try.pinned (OpenSpec.ofChange fnExactParseSpaceSpec)

/-- ITS FALSE NEIGHBOUR: 'it returns false'. Refute it at one input. -/
def fnExactParseSpaceWrong : ChangeSpec := { name := "fnExactParseSpace", fn := fun _ => fun
  | [d] => { results := [.lit (.bool false)], args := [d] }
  | _ => none }
def FnExactParseSpaceWrongFalsely : Prop := fnExactParseSpaceRow.holds Try.pinned (OpenSpec.ofChange fnExactParseSpaceWrong)

/-- 'laws.FnExactCodeText': WHATEVER THE INPUT: true; the input reads as it did. -/
def fnExactCodeTextSpec : ChangeSpec := { name := "fnExactCodeText", fn := fun _ => fun
  | [d1, d2] => { results := [.lit (.bool true)], args := [d1, d2] }
  | _ => none }
def fnExactCodeTextRow : OpenClaim := { program := "ytdgbofjohinniab", sum := "fb4817eecb75244c8b5e86c78ed8a78c2b270016da86182019b953f22fa73605", func := "loop.example/g01411/laws.FnExactCodeText", spec := "fnExactCodeText", inPlace := ["internal/abi.NoEscape", "internal/bytealg.MakeNoZero"], recurses := true, apart := false }
def FnExactCodeTextSaid : Prop := fnExactCodeTextRow.holds Try.pinned (OpenSpec.ofChange fnExactCodeTextSpec)

/-- ITS FALSE NEIGHBOUR: 'it returns false'. Refute it at one input. -/
def fnExactCodeTextWrong : ChangeSpec := { name := "fnExactCodeText", fn := fun _ => fun
  | [d1, d2] => { results := [.lit (.bool false)], args := [d1, d2] }
  | _ => none }
def FnExactCodeTextWrongFalsely : Prop := fnExactCodeTextRow.holds Try.pinned (OpenSpec.ofChange fnExactCodeTextWrong)

/-- 'laws.FnWords': WHATEVER THE INPUT: true; the input reads as it did. -/
def fnWordsSpec : ChangeSpec := { name := "fnWords", fn := fun _ => fun
  | [d] => { results := [.lit (.bool true)], args := [d] }
  | _ => none }
def fnWordsRow : OpenClaim := { program := "ytdgbofjohinniab", sum := "fb4817eecb75244c8b5e86c78ed8a78c2b270016da86182019b953f22fa73605", func := "loop.example/g01411/laws.FnWords", spec := "fnWords", unfollowed := true, recurses := true, apart := false }
def FnWordsSaid : Prop := fnWordsRow.holds Try.pinned (OpenSpec.ofChange fnWordsSpec)

/-- ITS FALSE NEIGHBOUR: 'it returns false'. Refute it at one input. -/
def fnWordsWrong : ChangeSpec := { name := "fnWords", fn := fun _ => fun
  | [d] => { results := [.lit (.bool false)], args := [d] }
  | _ => none }
def FnWordsWrongFalsely : Prop := fnWordsRow.holds Try.pinned (OpenSpec.ofChange fnWordsWrong)

/- THE SECOND FORM. 'bulk': how many values and letters a reading holds, each counted each time it is reached (what is shared counts as often as it is met; a slice's spare places count too). A statement '..UptoSaid' is the law's where the arguments, and the package variables that the reading takes, are together of bulk at most 1048576: NARROWER than '..Said'. Prove '..Said' where nothing that the law and all that it calls make is longer than what came in: it says more and counts as full. Else prove '..UptoSaid'. A law counts once. -/
mutual
def uptoBulk {H : Type} : DataW H → Nat
  | .lit (.string bytes) => bytes.length + 1
  | .lit _ => 1
  | .nil => 1
  | .ptr d => uptoBulk d + 1
  | .slice elems spare => uptoBulkAll elems + uptoBulkAll spare + 1
  | .agg parts => uptoBulkAll parts + 1
  | .iface _ d => uptoBulk d + 1
  | .map entries => uptoBulkEntries entries + 1
  | .held _ => 1
def uptoBulkAll {H : Type} : List (DataW H) → Nat
  | [] => 0
  | d :: r => uptoBulk d + uptoBulkAll r
def uptoBulkEntries {H : Type} : List (Lit × DataW H) → Nat
  | [] => 0
  | x :: r => uptoBulkEntry x + uptoBulkEntries r
def uptoBulkEntry {H : Type} : Lit × DataW H → Nat
  | (.string bytes, d) => bytes.length + uptoBulk d + 1
  | (_, d) => uptoBulk d + 1
 end
def uptoSmall : (H : Type) → List (DataW H) → Bool := fun _ ds => decide (uptoBulkAll ds ≤ 1048576)
def OpenSpec.upto (s : _root_.Go.ChangeSpec) : _root_.Go.OpenSpec := { _root_.Go.OpenSpec.ofChange s with cond := some uptoSmall }

/-- 'laws.FnExactIsCode', WHERE WHAT IT READS IS OF BULK AT MOST 1048576: true; the input reads as it did. -/
def fnExactIsCodeUptoRow : OpenClaim := { program := "ytdgbofjohinniab", sum := "fb4817eecb75244c8b5e86c78ed8a78c2b270016da86182019b953f22fa73605", func := "loop.example/g01411/laws.FnExactIsCode", spec := "fnExactIsCode", apart := false, narrowed := true }
def FnExactIsCodeUptoSaid : Prop := fnExactIsCodeUptoRow.holds Try.pinned (OpenSpec.upto fnExactIsCodeSpec)

/-- 'laws.FnExactLeastDistance', WHERE WHAT IT READS IS OF BULK AT MOST 1048576: true; the input reads as it did. -/
def fnExactLeastDistanceUptoRow : OpenClaim := { program := "ytdgbofjohinniab", sum := "fb4817eecb75244c8b5e86c78ed8a78c2b270016da86182019b953f22fa73605", func := "loop.example/g01411/laws.FnExactLeastDistance", spec := "fnExactLeastDistance", apart := false, narrowed := true }
def FnExactLeastDistanceUptoSaid : Prop := fnExactLeastDistanceUptoRow.holds Try.pinned (OpenSpec.upto fnExactLeastDistanceSpec)

/-- 'laws.FnExactDistanceCounts', WHERE WHAT IT READS IS OF BULK AT MOST 1048576: true; the input reads as it did. -/
def fnExactDistanceCountsUptoRow : OpenClaim := { program := "ytdgbofjohinniab", sum := "fb4817eecb75244c8b5e86c78ed8a78c2b270016da86182019b953f22fa73605", func := "loop.example/g01411/laws.FnExactDistanceCounts", spec := "fnExactDistanceCounts", apart := false, narrowed := true }
def FnExactDistanceCountsUptoSaid : Prop := fnExactDistanceCountsUptoRow.holds Try.pinned (OpenSpec.upto fnExactDistanceCountsSpec)

/-- 'laws.FnExactShiftCode', WHERE WHAT IT READS IS OF BULK AT MOST 1048576: true; the input reads as it did. -/
def fnExactShiftCodeUptoRow : OpenClaim := { program := "ytdgbofjohinniab", sum := "fb4817eecb75244c8b5e86c78ed8a78c2b270016da86182019b953f22fa73605", func := "loop.example/g01411/laws.FnExactShiftCode", spec := "fnExactShiftCode", recurses := true, apart := false, narrowed := true }
def FnExactShiftCodeUptoSaid : Prop := fnExactShiftCodeUptoRow.holds Try.pinned (OpenSpec.upto fnExactShiftCodeSpec)

/-- 'laws.FnExactOppositeCode', WHERE WHAT IT READS IS OF BULK AT MOST 1048576: true; the input reads as it did. -/
def fnExactOppositeCodeUptoRow : OpenClaim := { program := "ytdgbofjohinniab", sum := "fb4817eecb75244c8b5e86c78ed8a78c2b270016da86182019b953f22fa73605", func := "loop.example/g01411/laws.FnExactOppositeCode", spec := "fnExactOppositeCode", apart := false, narrowed := true }
def FnExactOppositeCodeUptoSaid : Prop := fnExactOppositeCodeUptoRow.holds Try.pinned (OpenSpec.upto fnExactOppositeCodeSpec)

/-- 'laws.FnExactSpaceText', WHERE WHAT IT READS IS OF BULK AT MOST 1048576: true; the input reads as it did. -/
def fnExactSpaceTextUptoRow : OpenClaim := { program := "ytdgbofjohinniab", sum := "fb4817eecb75244c8b5e86c78ed8a78c2b270016da86182019b953f22fa73605", func := "loop.example/g01411/laws.FnExactSpaceText", spec := "fnExactSpaceText", recurses := true, apart := false, narrowed := true }
def FnExactSpaceTextUptoSaid : Prop := fnExactSpaceTextUptoRow.holds Try.pinned (OpenSpec.upto fnExactSpaceTextSpec)

/-- 'laws.FnExactParseSpace', WHERE WHAT IT READS IS OF BULK AT MOST 1048576: true; the input reads as it did. -/
def fnExactParseSpaceUptoRow : OpenClaim := { program := "ytdgbofjohinniab", sum := "fb4817eecb75244c8b5e86c78ed8a78c2b270016da86182019b953f22fa73605", func := "loop.example/g01411/laws.FnExactParseSpace", spec := "fnExactParseSpace", apart := false, narrowed := true }
def FnExactParseSpaceUptoSaid : Prop := fnExactParseSpaceUptoRow.holds Try.pinned (OpenSpec.upto fnExactParseSpaceSpec)

/-- 'laws.FnExactCodeText', WHERE WHAT IT READS IS OF BULK AT MOST 1048576: true; the input reads as it did. -/
def fnExactCodeTextUptoRow : OpenClaim := { program := "ytdgbofjohinniab", sum := "fb4817eecb75244c8b5e86c78ed8a78c2b270016da86182019b953f22fa73605", func := "loop.example/g01411/laws.FnExactCodeText", spec := "fnExactCodeText", inPlace := ["internal/abi.NoEscape", "internal/bytealg.MakeNoZero"], recurses := true, apart := false, narrowed := true }
def FnExactCodeTextUptoSaid : Prop := fnExactCodeTextUptoRow.holds Try.pinned (OpenSpec.upto fnExactCodeTextSpec)

/-- 'laws.FnWords', WHERE WHAT IT READS IS OF BULK AT MOST 1048576: true; the input reads as it did. -/
def fnWordsUptoRow : OpenClaim := { program := "ytdgbofjohinniab", sum := "fb4817eecb75244c8b5e86c78ed8a78c2b270016da86182019b953f22fa73605", func := "loop.example/g01411/laws.FnWords", spec := "fnWords", unfollowed := true, recurses := true, apart := false, narrowed := true }
def FnWordsUptoSaid : Prop := fnWordsUptoRow.holds Try.pinned (OpenSpec.upto fnWordsSpec)

end Rows
end Go.Proofs.Ytdgbofjohinniab
