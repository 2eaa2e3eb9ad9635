/-
  No cell of these rows narrows 'for every input' (looked for: loops, veiled, ifaces, maps, wideKeys, modest, calm, conditions, laid).
  DERIVED. THE GIVEN ROWS OF THIS SEAT. 12 by the template 'for every input the law returns true; each argument reads behind the call as it read before'; 0 by the template 'total and deterministic' (their statements: YtdkgbfmgpmmliaaTotals.lean).
  GIVEN WITH THE SEED: the statements are not yours to turn. If you find one false, say at which input.
  Laid BY PROGRAM, IN A SANDBOX (cutbox-rows.mjs): the forced cells as the released guide's own fill.sh prints them over the translation 7cc9096a1bb98459… (all of the seat's roots in one cut). By AI agents, Wed Nov 11 2026. No macro, syntax, notation, axiom, sorry.
-/
import Derived.Test.YtdkgbfmgpmmliaaChecked
import GoSem.Claim
import GoSem.ClaimJoined
import GoSem.ClaimMapViews
import Derived.JoinedTies
import Derived.KernelRfl
namespace Go.Proofs.Ytdkgbfmgpmmliaa
/- THE CELL 'sum', in the pinned program and in every row, IS THE sha256 OF THE DUMP (.gsa) THAT YtdkgbfmgpmmliaaProg.lean LOADS. Nothing in Lean hashes anything: it is a label: what it is worth is what the hold of that sum in a sandbox is worth. -/
noncomputable def Try.pinned : Pinned := { name := "ytdkgbfmgpmmliaa", sum := "7cc9096a1bb984596573d12f6e33c8335f2022e50545091ba32e1bb8efdddd1f", checked := Try.checked }
namespace Rows
def none {H : Type} : Left H := { results := [], args := [] }

/-- 'laws.FnExactBallOf': WHATEVER THE INPUT: true; the input reads as it did. -/
def fnExactBallOfSpec : ChangeSpec := { name := "fnExactBallOf", fn := fun _ => fun
  | [d1, d2, d3] => { results := [.lit (.bool true)], args := [d1, d2, d3] }
  | _ => none }
def fnExactBallOfRow : OpenClaim := { program := "ytdkgbfmgpmmliaa", sum := "7cc9096a1bb984596573d12f6e33c8335f2022e50545091ba32e1bb8efdddd1f", func := "loop.example/g01411/laws.FnExactBallOf", spec := "fnExactBallOf", unfollowed := true, recurses := true, apart := false }
def FnExactBallOfSaid : Prop := fnExactBallOfRow.holds Try.pinned (OpenSpec.ofChange fnExactBallOfSpec)

/-- ITS FALSE NEIGHBOUR: 'it returns false'. Refute it at one input. -/
def fnExactBallOfWrong : ChangeSpec := { name := "fnExactBallOf", fn := fun _ => fun
  | [d1, d2, d3] => { results := [.lit (.bool false)], args := [d1, d2, d3] }
  | _ => none }
def FnExactBallOfWrongFalsely : Prop := fnExactBallOfRow.holds Try.pinned (OpenSpec.ofChange fnExactBallOfWrong)

/-- 'laws.FnExactSphereOf': WHATEVER THE INPUT: true; the input reads as it did. -/
def fnExactSphereOfSpec : ChangeSpec := { name := "fnExactSphereOf", fn := fun _ => fun
  | [d1, d2, d3] => { results := [.lit (.bool true)], args := [d1, d2, d3] }
  | _ => none }
def fnExactSphereOfRow : OpenClaim := { program := "ytdkgbfmgpmmliaa", sum := "7cc9096a1bb984596573d12f6e33c8335f2022e50545091ba32e1bb8efdddd1f", func := "loop.example/g01411/laws.FnExactSphereOf", spec := "fnExactSphereOf", unfollowed := true, recurses := true, apart := false }
def FnExactSphereOfSaid : Prop := fnExactSphereOfRow.holds Try.pinned (OpenSpec.ofChange fnExactSphereOfSpec)

/-- ITS FALSE NEIGHBOUR: 'it returns false'. Refute it at one input. -/
def fnExactSphereOfWrong : ChangeSpec := { name := "fnExactSphereOf", fn := fun _ => fun
  | [d1, d2, d3] => { results := [.lit (.bool false)], args := [d1, d2, d3] }
  | _ => none }
def FnExactSphereOfWrongFalsely : Prop := fnExactSphereOfRow.holds Try.pinned (OpenSpec.ofChange fnExactSphereOfWrong)

/-- 'laws.FnExactBallSize': WHATEVER THE INPUT: true; the input reads as it did. -/
def fnExactBallSizeSpec : ChangeSpec := { name := "fnExactBallSize", fn := fun _ => fun
  | [d1, d2] => { results := [.lit (.bool true)], args := [d1, d2] }
  | _ => none }
def fnExactBallSizeRow : OpenClaim := { program := "ytdkgbfmgpmmliaa", sum := "7cc9096a1bb984596573d12f6e33c8335f2022e50545091ba32e1bb8efdddd1f", func := "loop.example/g01411/laws.FnExactBallSize", spec := "fnExactBallSize", unfollowed := true, recurses := true, apart := false }
def FnExactBallSizeSaid : Prop := fnExactBallSizeRow.holds Try.pinned (OpenSpec.ofChange fnExactBallSizeSpec)

/-- ITS FALSE NEIGHBOUR: 'it returns false'. Refute it at one input. -/
def fnExactBallSizeWrong : ChangeSpec := { name := "fnExactBallSize", fn := fun _ => fun
  | [d1, d2] => { results := [.lit (.bool false)], args := [d1, d2] }
  | _ => none }
def FnExactBallSizeWrongFalsely : Prop := fnExactBallSizeRow.holds Try.pinned (OpenSpec.ofChange fnExactBallSizeWrong)

/-- 'laws.FnExactTimesCovered': WHATEVER THE INPUT: true; the input reads as it did. -/
def fnExactTimesCoveredSpec : ChangeSpec := { name := "fnExactTimesCovered", fn := fun _ => fun
  | [d1, d2, d3, d4] => { results := [.lit (.bool true)], args := [d1, d2, d3, d4] }
  | _ => none }
def fnExactTimesCoveredRow : OpenClaim := { program := "ytdkgbfmgpmmliaa", sum := "7cc9096a1bb984596573d12f6e33c8335f2022e50545091ba32e1bb8efdddd1f", func := "loop.example/g01411/laws.FnExactTimesCovered", spec := "fnExactTimesCovered", apart := false }
def FnExactTimesCoveredSaid : Prop := fnExactTimesCoveredRow.holds Try.pinned (OpenSpec.ofChange fnExactTimesCoveredSpec)

/-- ITS FALSE NEIGHBOUR: 'it returns false'. Refute it at one input. -/
def fnExactTimesCoveredWrong : ChangeSpec := { name := "fnExactTimesCovered", fn := fun _ => fun
  | [d1, d2, d3, d4] => { results := [.lit (.bool false)], args := [d1, d2, d3, d4] }
  | _ => none }
def FnExactTimesCoveredWrongFalsely : Prop := fnExactTimesCoveredRow.holds Try.pinned (OpenSpec.ofChange fnExactTimesCoveredWrong)

/-- 'laws.FnExactDistanceTo': WHATEVER THE INPUT: true; the input reads as it did. -/
def fnExactDistanceToSpec : ChangeSpec := { name := "fnExactDistanceTo", fn := fun _ => fun
  | [d1, d2, d3] => { results := [.lit (.bool true)], args := [d1, d2, d3] }
  | _ => none }
def fnExactDistanceToRow : OpenClaim := { program := "ytdkgbfmgpmmliaa", sum := "7cc9096a1bb984596573d12f6e33c8335f2022e50545091ba32e1bb8efdddd1f", func := "loop.example/g01411/laws.FnExactDistanceTo", spec := "fnExactDistanceTo", apart := false }
def FnExactDistanceToSaid : Prop := fnExactDistanceToRow.holds Try.pinned (OpenSpec.ofChange fnExactDistanceToSpec)

/-- ITS FALSE NEIGHBOUR: 'it returns false'. Refute it at one input. -/
def fnExactDistanceToWrong : ChangeSpec := { name := "fnExactDistanceTo", fn := fun _ => fun
  | [d1, d2, d3] => { results := [.lit (.bool false)], args := [d1, d2, d3] }
  | _ => none }
def FnExactDistanceToWrongFalsely : Prop := fnExactDistanceToRow.holds Try.pinned (OpenSpec.ofChange fnExactDistanceToWrong)

/-- 'laws.FnExactNearestWords': WHATEVER THE INPUT: true; the input reads as it did. -/
def fnExactNearestWordsSpec : ChangeSpec := { name := "fnExactNearestWords", fn := fun _ => fun
  | [d1, d2, d3] => { results := [.lit (.bool true)], args := [d1, d2, d3] }
  | _ => none }
def fnExactNearestWordsRow : OpenClaim := { program := "ytdkgbfmgpmmliaa", sum := "7cc9096a1bb984596573d12f6e33c8335f2022e50545091ba32e1bb8efdddd1f", func := "loop.example/g01411/laws.FnExactNearestWords", spec := "fnExactNearestWords", apart := false }
def FnExactNearestWordsSaid : Prop := fnExactNearestWordsRow.holds Try.pinned (OpenSpec.ofChange fnExactNearestWordsSpec)

/-- ITS FALSE NEIGHBOUR: 'it returns false'. Refute it at one input. -/
def fnExactNearestWordsWrong : ChangeSpec := { name := "fnExactNearestWords", fn := fun _ => fun
  | [d1, d2, d3] => { results := [.lit (.bool false)], args := [d1, d2, d3] }
  | _ => none }
def FnExactNearestWordsWrongFalsely : Prop := fnExactNearestWordsRow.holds Try.pinned (OpenSpec.ofChange fnExactNearestWordsWrong)

/-- 'laws.FnExactRadiusOf': WHATEVER THE INPUT: true; the input reads as it did. -/
def fnExactRadiusOfSpec : ChangeSpec := { name := "fnExactRadiusOf", fn := fun _ => fun
  | [d1, d2] => { results := [.lit (.bool true)], args := [d1, d2] }
  | _ => none }
def fnExactRadiusOfRow : OpenClaim := { program := "ytdkgbfmgpmmliaa", sum := "7cc9096a1bb984596573d12f6e33c8335f2022e50545091ba32e1bb8efdddd1f", func := "loop.example/g01411/laws.FnExactRadiusOf", spec := "fnExactRadiusOf", apart := false }
def FnExactRadiusOfSaid : Prop := fnExactRadiusOfRow.holds Try.pinned (OpenSpec.ofChange fnExactRadiusOfSpec)

/-- ITS FALSE NEIGHBOUR: 'it returns false'. Refute it at one input. -/
def fnExactRadiusOfWrong : ChangeSpec := { name := "fnExactRadiusOf", fn := fun _ => fun
  | [d1, d2] => { results := [.lit (.bool false)], args := [d1, d2] }
  | _ => none }
def FnExactRadiusOfWrongFalsely : Prop := fnExactRadiusOfRow.holds Try.pinned (OpenSpec.ofChange fnExactRadiusOfWrong)

/-- 'laws.FnExactFarthestWord': WHATEVER THE INPUT: true; the input reads as it did. -/
def fnExactFarthestWordSpec : ChangeSpec := { name := "fnExactFarthestWord", fn := fun _ => fun
  | [d1, d2] => { results := [.lit (.bool true)], args := [d1, d2] }
  | _ => none }
def fnExactFarthestWordRow : OpenClaim := { program := "ytdkgbfmgpmmliaa", sum := "7cc9096a1bb984596573d12f6e33c8335f2022e50545091ba32e1bb8efdddd1f", func := "loop.example/g01411/laws.FnExactFarthestWord", spec := "fnExactFarthestWord", apart := false }
def FnExactFarthestWordSaid : Prop := fnExactFarthestWordRow.holds Try.pinned (OpenSpec.ofChange fnExactFarthestWordSpec)

/-- ITS FALSE NEIGHBOUR: 'it returns false'. Refute it at one input. -/
def fnExactFarthestWordWrong : ChangeSpec := { name := "fnExactFarthestWord", fn := fun _ => fun
  | [d1, d2] => { results := [.lit (.bool false)], args := [d1, d2] }
  | _ => none }
def FnExactFarthestWordWrongFalsely : Prop := fnExactFarthestWordRow.holds Try.pinned (OpenSpec.ofChange fnExactFarthestWordWrong)

/-- 'laws.FnExactShiftCode': WHATEVER THE INPUT: true; the input reads as it did. -/
def fnExactShiftCodeSpec : ChangeSpec := { name := "fnExactShiftCode", fn := fun _ => fun
  | [d1, d2, d3] => { results := [.lit (.bool true)], args := [d1, d2, d3] }
  | _ => none }
def fnExactShiftCodeRow : OpenClaim := { program := "ytdkgbfmgpmmliaa", sum := "7cc9096a1bb984596573d12f6e33c8335f2022e50545091ba32e1bb8efdddd1f", func := "loop.example/g01411/laws.FnExactShiftCode", spec := "fnExactShiftCode", recurses := true, apart := false }
def FnExactShiftCodeSaid : Prop := fnExactShiftCodeRow.holds Try.pinned (OpenSpec.ofChange fnExactShiftCodeSpec)

/-- ITS FALSE NEIGHBOUR: 'it returns false'. Refute it at one input. -/
def fnExactShiftCodeWrong : ChangeSpec := { name := "fnExactShiftCode", fn := fun _ => fun
  | [d1, d2, d3] => { results := [.lit (.bool false)], args := [d1, d2, d3] }
  | _ => none }
def FnExactShiftCodeWrongFalsely : Prop := fnExactShiftCodeRow.holds Try.pinned (OpenSpec.ofChange fnExactShiftCodeWrong)

/-- 'laws.FnExactParseSpace': WHATEVER THE INPUT: true; the input reads as it did. -/
def fnExactParseSpaceSpec : ChangeSpec := { name := "fnExactParseSpace", fn := fun _ => fun
  | [d] => { results := [.lit (.bool true)], args := [d] }
  | _ => none }
def fnExactParseSpaceRow : OpenClaim := { program := "ytdkgbfmgpmmliaa", sum := "7cc9096a1bb984596573d12f6e33c8335f2022e50545091ba32e1bb8efdddd1f", func := "loop.example/g01411/laws.FnExactParseSpace", spec := "fnExactParseSpace", apart := false }
def FnExactParseSpaceSaid : Prop := fnExactParseSpaceRow.holds Try.pinned (OpenSpec.ofChange fnExactParseSpaceSpec)

/-- ITS FALSE NEIGHBOUR: 'it returns false'. Refute it at one input. -/
def fnExactParseSpaceWrong : ChangeSpec := { name := "fnExactParseSpace", fn := fun _ => fun
  | [d] => { results := [.lit (.bool false)], args := [d] }
  | _ => none }
def FnExactParseSpaceWrongFalsely : Prop := fnExactParseSpaceRow.holds Try.pinned (OpenSpec.ofChange fnExactParseSpaceWrong)

/-- 'laws.FnExactCoversSpace': WHATEVER THE INPUT: true; the input reads as it did. -/
def fnExactCoversSpaceSpec : ChangeSpec := { name := "fnExactCoversSpace", fn := fun _ => fun
  | [d1, d2, d3] => { results := [.lit (.bool true)], args := [d1, d2, d3] }
  | _ => none }
def fnExactCoversSpaceRow : OpenClaim := { program := "ytdkgbfmgpmmliaa", sum := "7cc9096a1bb984596573d12f6e33c8335f2022e50545091ba32e1bb8efdddd1f", func := "loop.example/g01411/laws.FnExactCoversSpace", spec := "fnExactCoversSpace", unfollowed := true, recurses := true, apart := false }
def FnExactCoversSpaceSaid : Prop := fnExactCoversSpaceRow.holds Try.pinned (OpenSpec.ofChange fnExactCoversSpaceSpec)

/-- ITS FALSE NEIGHBOUR: 'it returns false'. Refute it at one input. -/
def fnExactCoversSpaceWrong : ChangeSpec := { name := "fnExactCoversSpace", fn := fun _ => fun
  | [d1, d2, d3] => { results := [.lit (.bool false)], args := [d1, d2, d3] }
  | _ => none }
def FnExactCoversSpaceWrongFalsely : Prop := fnExactCoversSpaceRow.holds Try.pinned (OpenSpec.ofChange fnExactCoversSpaceWrong)

/-- 'laws.FnExactUncoveredWords': WHATEVER THE INPUT: true; the input reads as it did. -/
def fnExactUncoveredWordsSpec : ChangeSpec := { name := "fnExactUncoveredWords", fn := fun _ => fun
  | [d1, d2, d3] => { results := [.lit (.bool true)], args := [d1, d2, d3] }
  | _ => none }
def fnExactUncoveredWordsRow : OpenClaim := { program := "ytdkgbfmgpmmliaa", sum := "7cc9096a1bb984596573d12f6e33c8335f2022e50545091ba32e1bb8efdddd1f", func := "loop.example/g01411/laws.FnExactUncoveredWords", spec := "fnExactUncoveredWords", unfollowed := true, recurses := true, apart := false }
def FnExactUncoveredWordsSaid : Prop := fnExactUncoveredWordsRow.holds Try.pinned (OpenSpec.ofChange fnExactUncoveredWordsSpec)

/-- ITS FALSE NEIGHBOUR: 'it returns false'. Refute it at one input. -/
def fnExactUncoveredWordsWrong : ChangeSpec := { name := "fnExactUncoveredWords", fn := fun _ => fun
  | [d1, d2, d3] => { results := [.lit (.bool false)], args := [d1, d2, d3] }
  | _ => none }
def FnExactUncoveredWordsWrongFalsely : Prop := fnExactUncoveredWordsRow.holds Try.pinned (OpenSpec.ofChange fnExactUncoveredWordsWrong)

/- THE SECOND FORM. 'bulk': how many values and letters a reading holds, each counted each time it is reached (what is shared counts as often as it is met; a slice's spare places count too). A statement '..UptoSaid' is the law's where the arguments, and the package variables that the reading takes, are together of bulk at most 1048576: NARROWER than '..Said'. Prove '..Said' where nothing that the law and all that it calls make is longer than what came in: it says more and counts as full. Else prove '..UptoSaid'. A law counts once. -/
mutual
def uptoBulk {H : Type} : DataW H → Nat
  | .lit (.string bytes) => bytes.length + 1
  | .lit _ => 1
  | .nil => 1
  | .ptr d => uptoBulk d + 1
  | .slice elems spare => uptoBulkAll elems + uptoBulkAll spare + 1
  | .agg parts => uptoBulkAll parts + 1
  | .iface _ d => uptoBulk d + 1
  | .map entries => uptoBulkEntries entries + 1
  | .held _ => 1
def uptoBulkAll {H : Type} : List (DataW H) → Nat
  | [] => 0
  | d :: r => uptoBulk d + uptoBulkAll r
def uptoBulkEntries {H : Type} : List (Lit × DataW H) → Nat
  | [] => 0
  | x :: r => uptoBulkEntry x + uptoBulkEntries r
def uptoBulkEntry {H : Type} : Lit × DataW H → Nat
  | (.string bytes, d) => bytes.length + uptoBulk d + 1
  | (_, d) => uptoBulk d + 1
 end
def uptoSmall : (H : Type) → List (DataW H) → Bool := fun _ ds => decide (uptoBulkAll ds ≤ 1048576)
def OpenSpec.upto (s : _root_.Go.ChangeSpec) : _root_.Go.OpenSpec := { _root_.Go.OpenSpec.ofChange s with cond := some uptoSmall }

/-- 'laws.FnExactBallOf', WHERE WHAT IT READS IS OF BULK AT MOST 1048576: true; the input reads as it did. -/
def fnExactBallOfUptoRow : OpenClaim := { program := "ytdkgbfmgpmmliaa", sum := "7cc9096a1bb984596573d12f6e33c8335f2022e50545091ba32e1bb8efdddd1f", func := "loop.example/g01411/laws.FnExactBallOf", spec := "fnExactBallOf", unfollowed := true, recurses := true, apart := false, narrowed := true }
def FnExactBallOfUptoSaid : Prop := fnExactBallOfUptoRow.holds Try.pinned (OpenSpec.upto fnExactBallOfSpec)

/-- 'laws.FnExactSphereOf', WHERE WHAT IT READS IS OF BULK AT MOST 1048576: true; the input reads as it did. -/
def fnExactSphereOfUptoRow : OpenClaim := { program := "ytdkgbfmgpmmliaa", sum := "7cc9096a1bb984596573d12f6e33c8335f2022e50545091ba32e1bb8efdddd1f", func := "loop.example/g01411/laws.FnExactSphereOf", spec := "fnExactSphereOf", unfollowed := true, recurses := true, apart := false, narrowed := true }
def FnExactSphereOfUptoSaid : Prop := fnExactSphereOfUptoRow.holds Try.pinned (OpenSpec.upto fnExactSphereOfSpec)

/-- 'laws.FnExactBallSize', WHERE WHAT IT READS IS OF BULK AT MOST 1048576: true; the input reads as it did. -/
def fnExactBallSizeUptoRow : OpenClaim := { program := "ytdkgbfmgpmmliaa", sum := "7cc9096a1bb984596573d12f6e33c8335f2022e50545091ba32e1bb8efdddd1f", func := "loop.example/g01411/laws.FnExactBallSize", spec := "fnExactBallSize", unfollowed := true, recurses := true, apart := false, narrowed := true }
def FnExactBallSizeUptoSaid : Prop := fnExactBallSizeUptoRow.holds Try.pinned (OpenSpec.upto fnExactBallSizeSpec)

/-- 'laws.FnExactTimesCovered', WHERE WHAT IT READS IS OF BULK AT MOST 1048576: true; the input reads as it did. -/
def fnExactTimesCoveredUptoRow : OpenClaim := { program := "ytdkgbfmgpmmliaa", sum := "7cc9096a1bb984596573d12f6e33c8335f2022e50545091ba32e1bb8efdddd1f", func := "loop.example/g01411/laws.FnExactTimesCovered", spec := "fnExactTimesCovered", apart := false, narrowed := true }
def FnExactTimesCoveredUptoSaid : Prop := fnExactTimesCoveredUptoRow.holds Try.pinned (OpenSpec.upto fnExactTimesCoveredSpec)

/-- 'laws.FnExactDistanceTo', WHERE WHAT IT READS IS OF BULK AT MOST 1048576: true; the input reads as it did. -/
def fnExactDistanceToUptoRow : OpenClaim := { program := "ytdkgbfmgpmmliaa", sum := "7cc9096a1bb984596573d12f6e33c8335f2022e50545091ba32e1bb8efdddd1f", func := "loop.example/g01411/laws.FnExactDistanceTo", spec := "fnExactDistanceTo", apart := false, narrowed := true }
def FnExactDistanceToUptoSaid : Prop := fnExactDistanceToUptoRow.holds Try.pinned (OpenSpec.upto fnExactDistanceToSpec)

/-- 'laws.FnExactNearestWords', WHERE WHAT IT READS IS OF BULK AT MOST 1048576: true; the input reads as it did. -/
def fnExactNearestWordsUptoRow : OpenClaim := { program := "ytdkgbfmgpmmliaa", sum := "7cc9096a1bb984596573d12f6e33c8335f2022e50545091ba32e1bb8efdddd1f", func := "loop.example/g01411/laws.FnExactNearestWords", spec := "fnExactNearestWords", apart := false, narrowed := true }
def FnExactNearestWordsUptoSaid : Prop := fnExactNearestWordsUptoRow.holds Try.pinned (OpenSpec.upto fnExactNearestWordsSpec)

/-- 'laws.FnExactRadiusOf', WHERE WHAT IT READS IS OF BULK AT MOST 1048576: true; the input reads as it did. -/
def fnExactRadiusOfUptoRow : OpenClaim := { program := "ytdkgbfmgpmmliaa", sum := "7cc9096a1bb984596573d12f6e33c8335f2022e50545091ba32e1bb8efdddd1f", func := "loop.example/g01411/laws.FnExactRadiusOf", spec := "fnExactRadiusOf", apart := false, narrowed := true }
def FnExactRadiusOfUptoSaid : Prop := fnExactRadiusOfUptoRow.holds Try.pinned (OpenSpec.upto fnExactRadiusOfSpec)

/-- 'laws.FnExactFarthestWord', WHERE WHAT IT READS IS OF BULK AT MOST 1048576: true; the input reads as it did. -/
def fnExactFarthestWordUptoRow : OpenClaim := { program := "ytdkgbfmgpmmliaa", sum := "7cc9096a1bb984596573d12f6e33c8335f2022e50545091ba32e1bb8efdddd1f", func := "loop.example/g01411/laws.FnExactFarthestWord", spec := "fnExactFarthestWord", apart := false, narrowed := true }
def FnExactFarthestWordUptoSaid : Prop := fnExactFarthestWordUptoRow.holds Try.pinned (OpenSpec.upto fnExactFarthestWordSpec)

/-- 'laws.FnExactShiftCode', WHERE WHAT IT READS IS OF BULK AT MOST 1048576: true; the input reads as it did. -/
def fnExactShiftCodeUptoRow : OpenClaim := { program := "ytdkgbfmgpmmliaa", sum := "7cc9096a1bb984596573d12f6e33c8335f2022e50545091ba32e1bb8efdddd1f", func := "loop.example/g01411/laws.FnExactShiftCode", spec := "fnExactShiftCode", recurses := true, apart := false, narrowed := true }
def FnExactShiftCodeUptoSaid : Prop := fnExactShiftCodeUptoRow.holds Try.pinned (OpenSpec.upto fnExactShiftCodeSpec)

/-- 'laws.FnExactParseSpace', WHERE WHAT IT READS IS OF BULK AT MOST 1048576: true; the input reads as it did. -/
def fnExactParseSpaceUptoRow : OpenClaim := { program := "ytdkgbfmgpmmliaa", sum := "7cc9096a1bb984596573d12f6e33c8335f2022e50545091ba32e1bb8efdddd1f", func := "loop.example/g01411/laws.FnExactParseSpace", spec := "fnExactParseSpace", apart := false, narrowed := true }
def FnExactParseSpaceUptoSaid : Prop := fnExactParseSpaceUptoRow.holds Try.pinned (OpenSpec.upto fnExactParseSpaceSpec)

/-- 'laws.FnExactCoversSpace', WHERE WHAT IT READS IS OF BULK AT MOST 1048576: true; the input reads as it did. -/
def fnExactCoversSpaceUptoRow : OpenClaim := { program := "ytdkgbfmgpmmliaa", sum := "7cc9096a1bb984596573d12f6e33c8335f2022e50545091ba32e1bb8efdddd1f", func := "loop.example/g01411/laws.FnExactCoversSpace", spec := "fnExactCoversSpace", unfollowed := true, recurses := true, apart := false, narrowed := true }
def FnExactCoversSpaceUptoSaid : Prop := fnExactCoversSpaceUptoRow.holds Try.pinned (OpenSpec.upto fnExactCoversSpaceSpec)

/-- 'laws.FnExactUncoveredWords', WHERE WHAT IT READS IS OF BULK AT MOST 1048576: true; the input reads as it did. -/
def fnExactUncoveredWordsUptoRow : OpenClaim := { program := "ytdkgbfmgpmmliaa", sum := "7cc9096a1bb984596573d12f6e33c8335f2022e50545091ba32e1bb8efdddd1f", func := "loop.example/g01411/laws.FnExactUncoveredWords", spec := "fnExactUncoveredWords", unfollowed := true, recurses := true, apart := false, narrowed := true }
def FnExactUncoveredWordsUptoSaid : Prop := fnExactUncoveredWordsUptoRow.holds Try.pinned (OpenSpec.upto fnExactUncoveredWordsSpec)

end Rows
end Go.Proofs.Ytdkgbfmgpmmliaa
