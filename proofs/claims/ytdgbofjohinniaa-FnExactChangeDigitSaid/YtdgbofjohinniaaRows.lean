/-
  No cell of these rows narrows 'for every input' (looked for: loops, veiled, ifaces, maps, wideKeys, modest, calm, conditions, laid).
  DERIVED. THE GIVEN ROWS OF THIS SEAT. 12 by the template 'for every input the law returns true; each argument reads behind the call as it read before'; 0 by the template 'total and deterministic' (their statements: YtdgbofjohinniaaTotals.lean).
  GIVEN WITH THE SEED: the statements are not yours to turn. If you find one false, say at which input.
  Laid BY PROGRAM, IN A SANDBOX (cutbox-rows.mjs): the forced cells as the released guide's own fill.sh prints them over the translation b0bfa6a1d07226f0… (all of the seat's roots in one cut). By AI agents, Wed Nov 11 2026. No macro, syntax, notation, axiom, sorry.
-/
import Derived.Test.YtdgbofjohinniaaChecked
import GoSem.Claim
import GoSem.ClaimJoined
import GoSem.ClaimMapViews
import Derived.JoinedTies
import Derived.KernelRfl
namespace Go.Proofs.Ytdgbofjohinniaa
/- THE CELL 'sum', in the pinned program and in every row, IS THE sha256 OF THE DUMP (.gsa) THAT YtdgbofjohinniaaProg.lean LOADS. Nothing in Lean hashes anything: it is a label: what it is worth is what the hold of that sum in a sandbox is worth. -/
noncomputable def Try.pinned : Pinned := { name := "ytdgbofjohinniaa", sum := "b0bfa6a1d07226f0b2df22b3550f5eaf053ea2aa1ae7df77ca7376d0173826ad", checked := Try.checked }
namespace Rows
def none {H : Type} : Left H := { results := [], args := [] }

/-- 'laws.FnExactIsSpace': WHATEVER THE INPUT: true; the input reads as it did. -/
def fnExactIsSpaceSpec : ChangeSpec := { name := "fnExactIsSpace", fn := fun _ => fun
  | [d] => { results := [.lit (.bool true)], args := [d] }
  | _ => none }
def fnExactIsSpaceRow : OpenClaim := { program := "ytdgbofjohinniaa", sum := "b0bfa6a1d07226f0b2df22b3550f5eaf053ea2aa1ae7df77ca7376d0173826ad", func := "loop.example/g01411/laws.FnExactIsSpace", spec := "fnExactIsSpace", apart := false }
def FnExactIsSpaceSaid : Prop := fnExactIsSpaceRow.holds Try.pinned (OpenSpec.ofChange fnExactIsSpaceSpec)

/-- ITS FALSE NEIGHBOUR: 'it returns false'. Refute it at one input. -/
def fnExactIsSpaceWrong : ChangeSpec := { name := "fnExactIsSpace", fn := fun _ => fun
  | [d] => { results := [.lit (.bool false)], args := [d] }
  | _ => none }
def FnExactIsSpaceWrongFalsely : Prop := fnExactIsSpaceRow.holds Try.pinned (OpenSpec.ofChange fnExactIsSpaceWrong)

/-- 'laws.FnExactCountWords': WHATEVER THE INPUT: true; the input reads as it did. -/
def fnExactCountWordsSpec : ChangeSpec := { name := "fnExactCountWords", fn := fun _ => fun
  | [d] => { results := [.lit (.bool true)], args := [d] }
  | _ => none }
def fnExactCountWordsRow : OpenClaim := { program := "ytdgbofjohinniaa", sum := "b0bfa6a1d07226f0b2df22b3550f5eaf053ea2aa1ae7df77ca7376d0173826ad", func := "loop.example/g01411/laws.FnExactCountWords", spec := "fnExactCountWords", apart := false }
def FnExactCountWordsSaid : Prop := fnExactCountWordsRow.holds Try.pinned (OpenSpec.ofChange fnExactCountWordsSpec)

/-- ITS FALSE NEIGHBOUR: 'it returns false'. Refute it at one input. -/
def fnExactCountWordsWrong : ChangeSpec := { name := "fnExactCountWords", fn := fun _ => fun
  | [d] => { results := [.lit (.bool false)], args := [d] }
  | _ => none }
def FnExactCountWordsWrongFalsely : Prop := fnExactCountWordsRow.holds Try.pinned (OpenSpec.ofChange fnExactCountWordsWrong)

/-- 'laws.FnExactDigitsOf': WHATEVER THE INPUT: true; the input reads as it did. -/
def fnExactDigitsOfSpec : ChangeSpec := { name := "fnExactDigitsOf", fn := fun _ => fun
  | [d1, d2] => { results := [.lit (.bool true)], args := [d1, d2] }
  | _ => none }
def fnExactDigitsOfRow : OpenClaim := { program := "ytdgbofjohinniaa", sum := "b0bfa6a1d07226f0b2df22b3550f5eaf053ea2aa1ae7df77ca7376d0173826ad", func := "loop.example/g01411/laws.FnExactDigitsOf", spec := "fnExactDigitsOf", apart := false }
def FnExactDigitsOfSaid : Prop := fnExactDigitsOfRow.holds Try.pinned (OpenSpec.ofChange fnExactDigitsOfSpec)

/-- ITS FALSE NEIGHBOUR: 'it returns false'. Refute it at one input. -/
def fnExactDigitsOfWrong : ChangeSpec := { name := "fnExactDigitsOf", fn := fun _ => fun
  | [d1, d2] => { results := [.lit (.bool false)], args := [d1, d2] }
  | _ => none }
def FnExactDigitsOfWrongFalsely : Prop := fnExactDigitsOfRow.holds Try.pinned (OpenSpec.ofChange fnExactDigitsOfWrong)

/-- 'laws.FnExactWordOf': WHATEVER THE INPUT: true; the input reads as it did. -/
def fnExactWordOfSpec : ChangeSpec := { name := "fnExactWordOf", fn := fun _ => fun
  | [d1, d2] => { results := [.lit (.bool true)], args := [d1, d2] }
  | _ => none }
def fnExactWordOfRow : OpenClaim := { program := "ytdgbofjohinniaa", sum := "b0bfa6a1d07226f0b2df22b3550f5eaf053ea2aa1ae7df77ca7376d0173826ad", func := "loop.example/g01411/laws.FnExactWordOf", spec := "fnExactWordOf", apart := false }
def FnExactWordOfSaid : Prop := fnExactWordOfRow.holds Try.pinned (OpenSpec.ofChange fnExactWordOfSpec)

/-- ITS FALSE NEIGHBOUR: 'it returns false'. Refute it at one input. -/
def fnExactWordOfWrong : ChangeSpec := { name := "fnExactWordOf", fn := fun _ => fun
  | [d1, d2] => { results := [.lit (.bool false)], args := [d1, d2] }
  | _ => none }
def FnExactWordOfWrongFalsely : Prop := fnExactWordOfRow.holds Try.pinned (OpenSpec.ofChange fnExactWordOfWrong)

/-- 'laws.FnExactDistanceOf': WHATEVER THE INPUT: true; the input reads as it did. -/
def fnExactDistanceOfSpec : ChangeSpec := { name := "fnExactDistanceOf", fn := fun _ => fun
  | [d1, d2, d3] => { results := [.lit (.bool true)], args := [d1, d2, d3] }
  | _ => none }
def fnExactDistanceOfRow : OpenClaim := { program := "ytdgbofjohinniaa", sum := "b0bfa6a1d07226f0b2df22b3550f5eaf053ea2aa1ae7df77ca7376d0173826ad", func := "loop.example/g01411/laws.FnExactDistanceOf", spec := "fnExactDistanceOf", apart := false }
def FnExactDistanceOfSaid : Prop := fnExactDistanceOfRow.holds Try.pinned (OpenSpec.ofChange fnExactDistanceOfSpec)

/-- ITS FALSE NEIGHBOUR: 'it returns false'. Refute it at one input. -/
def fnExactDistanceOfWrong : ChangeSpec := { name := "fnExactDistanceOf", fn := fun _ => fun
  | [d1, d2, d3] => { results := [.lit (.bool false)], args := [d1, d2, d3] }
  | _ => none }
def FnExactDistanceOfWrongFalsely : Prop := fnExactDistanceOfRow.holds Try.pinned (OpenSpec.ofChange fnExactDistanceOfWrong)

/-- 'laws.FnExactBallOf': WHATEVER THE INPUT: true; the input reads as it did. -/
def fnExactBallOfSpec : ChangeSpec := { name := "fnExactBallOf", fn := fun _ => fun
  | [d1, d2, d3] => { results := [.lit (.bool true)], args := [d1, d2, d3] }
  | _ => none }
def fnExactBallOfRow : OpenClaim := { program := "ytdgbofjohinniaa", sum := "b0bfa6a1d07226f0b2df22b3550f5eaf053ea2aa1ae7df77ca7376d0173826ad", func := "loop.example/g01411/laws.FnExactBallOf", spec := "fnExactBallOf", unfollowed := true, recurses := true, apart := false }
def FnExactBallOfSaid : Prop := fnExactBallOfRow.holds Try.pinned (OpenSpec.ofChange fnExactBallOfSpec)

/-- ITS FALSE NEIGHBOUR: 'it returns false'. Refute it at one input. -/
def fnExactBallOfWrong : ChangeSpec := { name := "fnExactBallOf", fn := fun _ => fun
  | [d1, d2, d3] => { results := [.lit (.bool false)], args := [d1, d2, d3] }
  | _ => none }
def FnExactBallOfWrongFalsely : Prop := fnExactBallOfRow.holds Try.pinned (OpenSpec.ofChange fnExactBallOfWrong)

/-- 'laws.FnExactSphereOf': WHATEVER THE INPUT: true; the input reads as it did. -/
def fnExactSphereOfSpec : ChangeSpec := { name := "fnExactSphereOf", fn := fun _ => fun
  | [d1, d2, d3] => { results := [.lit (.bool true)], args := [d1, d2, d3] }
  | _ => none }
def fnExactSphereOfRow : OpenClaim := { program := "ytdgbofjohinniaa", sum := "b0bfa6a1d07226f0b2df22b3550f5eaf053ea2aa1ae7df77ca7376d0173826ad", func := "loop.example/g01411/laws.FnExactSphereOf", spec := "fnExactSphereOf", unfollowed := true, recurses := true, apart := false }
def FnExactSphereOfSaid : Prop := fnExactSphereOfRow.holds Try.pinned (OpenSpec.ofChange fnExactSphereOfSpec)

/-- ITS FALSE NEIGHBOUR: 'it returns false'. Refute it at one input. -/
def fnExactSphereOfWrong : ChangeSpec := { name := "fnExactSphereOf", fn := fun _ => fun
  | [d1, d2, d3] => { results := [.lit (.bool false)], args := [d1, d2, d3] }
  | _ => none }
def FnExactSphereOfWrongFalsely : Prop := fnExactSphereOfRow.holds Try.pinned (OpenSpec.ofChange fnExactSphereOfWrong)

/-- 'laws.FnExactBallSize': WHATEVER THE INPUT: true; the input reads as it did. -/
def fnExactBallSizeSpec : ChangeSpec := { name := "fnExactBallSize", fn := fun _ => fun
  | [d1, d2] => { results := [.lit (.bool true)], args := [d1, d2] }
  | _ => none }
def fnExactBallSizeRow : OpenClaim := { program := "ytdgbofjohinniaa", sum := "b0bfa6a1d07226f0b2df22b3550f5eaf053ea2aa1ae7df77ca7376d0173826ad", func := "loop.example/g01411/laws.FnExactBallSize", spec := "fnExactBallSize", unfollowed := true, recurses := true, apart := false }
def FnExactBallSizeSaid : Prop := fnExactBallSizeRow.holds Try.pinned (OpenSpec.ofChange fnExactBallSizeSpec)

/-- ITS FALSE NEIGHBOUR: 'it returns false'. Refute it at one input. -/
def fnExactBallSizeWrong : ChangeSpec := { name := "fnExactBallSize", fn := fun _ => fun
  | [d1, d2] => { results := [.lit (.bool false)], args := [d1, d2] }
  | _ => none }
def FnExactBallSizeWrongFalsely : Prop := fnExactBallSizeRow.holds Try.pinned (OpenSpec.ofChange fnExactBallSizeWrong)

/-- 'laws.FnExactWeightOf': WHATEVER THE INPUT: true; the input reads as it did. -/
def fnExactWeightOfSpec : ChangeSpec := { name := "fnExactWeightOf", fn := fun _ => fun
  | [d1, d2] => { results := [.lit (.bool true)], args := [d1, d2] }
  | _ => none }
def fnExactWeightOfRow : OpenClaim := { program := "ytdgbofjohinniaa", sum := "b0bfa6a1d07226f0b2df22b3550f5eaf053ea2aa1ae7df77ca7376d0173826ad", func := "loop.example/g01411/laws.FnExactWeightOf", spec := "fnExactWeightOf", apart := false }
def FnExactWeightOfSaid : Prop := fnExactWeightOfRow.holds Try.pinned (OpenSpec.ofChange fnExactWeightOfSpec)

/-- ITS FALSE NEIGHBOUR: 'it returns false'. Refute it at one input. -/
def fnExactWeightOfWrong : ChangeSpec := { name := "fnExactWeightOf", fn := fun _ => fun
  | [d1, d2] => { results := [.lit (.bool false)], args := [d1, d2] }
  | _ => none }
def FnExactWeightOfWrongFalsely : Prop := fnExactWeightOfRow.holds Try.pinned (OpenSpec.ofChange fnExactWeightOfWrong)

/-- 'laws.FnExactSumOfWords': WHATEVER THE INPUT: true; the input reads as it did. -/
def fnExactSumOfWordsSpec : ChangeSpec := { name := "fnExactSumOfWords", fn := fun _ => fun
  | [d1, d2, d3] => { results := [.lit (.bool true)], args := [d1, d2, d3] }
  | _ => none }
def fnExactSumOfWordsRow : OpenClaim := { program := "ytdgbofjohinniaa", sum := "b0bfa6a1d07226f0b2df22b3550f5eaf053ea2aa1ae7df77ca7376d0173826ad", func := "loop.example/g01411/laws.FnExactSumOfWords", spec := "fnExactSumOfWords", apart := false }
def FnExactSumOfWordsSaid : Prop := fnExactSumOfWordsRow.holds Try.pinned (OpenSpec.ofChange fnExactSumOfWordsSpec)

/-- ITS FALSE NEIGHBOUR: 'it returns false'. Refute it at one input. -/
def fnExactSumOfWordsWrong : ChangeSpec := { name := "fnExactSumOfWords", fn := fun _ => fun
  | [d1, d2, d3] => { results := [.lit (.bool false)], args := [d1, d2, d3] }
  | _ => none }
def FnExactSumOfWordsWrongFalsely : Prop := fnExactSumOfWordsRow.holds Try.pinned (OpenSpec.ofChange fnExactSumOfWordsWrong)

/-- 'laws.FnExactOppositeWord': WHATEVER THE INPUT: true; the input reads as it did. -/
def fnExactOppositeWordSpec : ChangeSpec := { name := "fnExactOppositeWord", fn := fun _ => fun
  | [d1, d2] => { results := [.lit (.bool true)], args := [d1, d2] }
  | _ => none }
def fnExactOppositeWordRow : OpenClaim := { program := "ytdgbofjohinniaa", sum := "b0bfa6a1d07226f0b2df22b3550f5eaf053ea2aa1ae7df77ca7376d0173826ad", func := "loop.example/g01411/laws.FnExactOppositeWord", spec := "fnExactOppositeWord", apart := false }
def FnExactOppositeWordSaid : Prop := fnExactOppositeWordRow.holds Try.pinned (OpenSpec.ofChange fnExactOppositeWordSpec)

/-- ITS FALSE NEIGHBOUR: 'it returns false'. Refute it at one input. -/
def fnExactOppositeWordWrong : ChangeSpec := { name := "fnExactOppositeWord", fn := fun _ => fun
  | [d1, d2] => { results := [.lit (.bool false)], args := [d1, d2] }
  | _ => none }
def FnExactOppositeWordWrongFalsely : Prop := fnExactOppositeWordRow.holds Try.pinned (OpenSpec.ofChange fnExactOppositeWordWrong)

/-- 'laws.FnExactChangeDigit': WHATEVER THE INPUT: true; the input reads as it did. -/
def fnExactChangeDigitSpec : ChangeSpec := { name := "fnExactChangeDigit", fn := fun _ => fun
  | [d1, d2, d3, d4] => { results := [.lit (.bool true)], args := [d1, d2, d3, d4] }
  | _ => none }
def fnExactChangeDigitRow : OpenClaim := { program := "ytdgbofjohinniaa", sum := "b0bfa6a1d07226f0b2df22b3550f5eaf053ea2aa1ae7df77ca7376d0173826ad", func := "loop.example/g01411/laws.FnExactChangeDigit", spec := "fnExactChangeDigit", apart := false }
def FnExactChangeDigitSaid : Prop := fnExactChangeDigitRow.holds Try.pinned (OpenSpec.ofChange fnExactChangeDigitSpec)

/-- ITS FALSE NEIGHBOUR: 'it returns false'. Refute it at one input. -/
def fnExactChangeDigitWrong : ChangeSpec := { name := "fnExactChangeDigit", fn := fun _ => fun
  | [d1, d2, d3, d4] => { results := [.lit (.bool false)], args := [d1, d2, d3, d4] }
  | _ => none }
def FnExactChangeDigitWrongFalsely : Prop := fnExactChangeDigitRow.holds Try.pinned (OpenSpec.ofChange fnExactChangeDigitWrong)

/- THE SECOND FORM. 'bulk': how many values and letters a reading holds, each counted each time it is reached (what is shared counts as often as it is met; a slice's spare places count too). A statement '..UptoSaid' is the law's where the arguments, and the package variables that the reading takes, are together of bulk at most 1048576: NARROWER than '..Said'. Prove '..Said' where nothing that the law and all that it calls make is longer than what came in: it says more and counts as full. Else prove '..UptoSaid'. A law counts once. -/
mutual
def uptoBulk {H : Type} : DataW H → Nat
  | .lit (.string bytes) => bytes.length + 1
  | .lit _ => 1
  | .nil => 1
  | .ptr d => uptoBulk d + 1
  | .slice elems spare => uptoBulkAll elems + uptoBulkAll spare + 1
  | .agg parts => uptoBulkAll parts + 1
  | .iface _ d => uptoBulk d + 1
  | .map entries => uptoBulkEntries entries + 1
  | .held _ => 1
def uptoBulkAll {H : Type} : List (DataW H) → Nat
  | [] => 0
  | d :: r => uptoBulk d + uptoBulkAll r
def uptoBulkEntries {H : Type} : List (Lit × DataW H) → Nat
  | [] => 0
  | x :: r => uptoBulkEntry x + uptoBulkEntries r
def uptoBulkEntry {H : Type} : Lit × DataW H → Nat
  | (.string bytes, d) => bytes.length + uptoBulk d + 1
  | (_, d) => uptoBulk d + 1
 end
def uptoSmall : (H : Type) → List (DataW H) → Bool := fun _ ds => decide (uptoBulkAll ds ≤ 1048576)
def OpenSpec.upto (s : _root_.Go.ChangeSpec) : _root_.Go.OpenSpec := { _root_.Go.OpenSpec.ofChange s with cond := some uptoSmall }

/-- 'laws.FnExactIsSpace', WHERE WHAT IT READS IS OF BULK AT MOST 1048576: true; the input reads as it did. -/
def fnExactIsSpaceUptoRow : OpenClaim := { program := "ytdgbofjohinniaa", sum := "b0bfa6a1d07226f0b2df22b3550f5eaf053ea2aa1ae7df77ca7376d0173826ad", func := "loop.example/g01411/laws.FnExactIsSpace", spec := "fnExactIsSpace", apart := false, narrowed := true }
def FnExactIsSpaceUptoSaid : Prop := fnExactIsSpaceUptoRow.holds Try.pinned (OpenSpec.upto fnExactIsSpaceSpec)

/-- 'laws.FnExactCountWords', WHERE WHAT IT READS IS OF BULK AT MOST 1048576: true; the input reads as it did. -/
def fnExactCountWordsUptoRow : OpenClaim := { program := "ytdgbofjohinniaa", sum := "b0bfa6a1d07226f0b2df22b3550f5eaf053ea2aa1ae7df77ca7376d0173826ad", func := "loop.example/g01411/laws.FnExactCountWords", spec := "fnExactCountWords", apart := false, narrowed := true }
def FnExactCountWordsUptoSaid : Prop := fnExactCountWordsUptoRow.holds Try.pinned (OpenSpec.upto fnExactCountWordsSpec)

/-- 'laws.FnExactDigitsOf', WHERE WHAT IT READS IS OF BULK AT MOST 1048576: true; the input reads as it did. -/
def fnExactDigitsOfUptoRow : OpenClaim := { program := "ytdgbofjohinniaa", sum := "b0bfa6a1d07226f0b2df22b3550f5eaf053ea2aa1ae7df77ca7376d0173826ad", func := "loop.example/g01411/laws.FnExactDigitsOf", spec := "fnExactDigitsOf", apart := false, narrowed := true }
def FnExactDigitsOfUptoSaid : Prop := fnExactDigitsOfUptoRow.holds Try.pinned (OpenSpec.upto fnExactDigitsOfSpec)

/-- 'laws.FnExactWordOf', WHERE WHAT IT READS IS OF BULK AT MOST 1048576: true; the input reads as it did. -/
def fnExactWordOfUptoRow : OpenClaim := { program := "ytdgbofjohinniaa", sum := "b0bfa6a1d07226f0b2df22b3550f5eaf053ea2aa1ae7df77ca7376d0173826ad", func := "loop.example/g01411/laws.FnExactWordOf", spec := "fnExactWordOf", apart := false, narrowed := true }
def FnExactWordOfUptoSaid : Prop := fnExactWordOfUptoRow.holds Try.pinned (OpenSpec.upto fnExactWordOfSpec)

/-- 'laws.FnExactDistanceOf', WHERE WHAT IT READS IS OF BULK AT MOST 1048576: true; the input reads as it did. -/
def fnExactDistanceOfUptoRow : OpenClaim := { program := "ytdgbofjohinniaa", sum := "b0bfa6a1d07226f0b2df22b3550f5eaf053ea2aa1ae7df77ca7376d0173826ad", func := "loop.example/g01411/laws.FnExactDistanceOf", spec := "fnExactDistanceOf", apart := false, narrowed := true }
def FnExactDistanceOfUptoSaid : Prop := fnExactDistanceOfUptoRow.holds Try.pinned (OpenSpec.upto fnExactDistanceOfSpec)

/-- 'laws.FnExactBallOf', WHERE WHAT IT READS IS OF BULK AT MOST 1048576: true; the input reads as it did. -/
def fnExactBallOfUptoRow : OpenClaim := { program := "ytdgbofjohinniaa", sum := "b0bfa6a1d07226f0b2df22b3550f5eaf053ea2aa1ae7df77ca7376d0173826ad", func := "loop.example/g01411/laws.FnExactBallOf", spec := "fnExactBallOf", unfollowed := true, recurses := true, apart := false, narrowed := true }
def FnExactBallOfUptoSaid : Prop := fnExactBallOfUptoRow.holds Try.pinned (OpenSpec.upto fnExactBallOfSpec)

/-- 'laws.FnExactSphereOf', WHERE WHAT IT READS IS OF BULK AT MOST 1048576: true; the input reads as it did. -/
def fnExactSphereOfUptoRow : OpenClaim := { program := "ytdgbofjohinniaa", sum := "b0bfa6a1d07226f0b2df22b3550f5eaf053ea2aa1ae7df77ca7376d0173826ad", func := "loop.example/g01411/laws.FnExactSphereOf", spec := "fnExactSphereOf", unfollowed := true, recurses := true, apart := false, narrowed := true }
def FnExactSphereOfUptoSaid : Prop := fnExactSphereOfUptoRow.holds Try.pinned (OpenSpec.upto fnExactSphereOfSpec)

/-- 'laws.FnExactBallSize', WHERE WHAT IT READS IS OF BULK AT MOST 1048576: true; the input reads as it did. -/
def fnExactBallSizeUptoRow : OpenClaim := { program := "ytdgbofjohinniaa", sum := "b0bfa6a1d07226f0b2df22b3550f5eaf053ea2aa1ae7df77ca7376d0173826ad", func := "loop.example/g01411/laws.FnExactBallSize", spec := "fnExactBallSize", unfollowed := true, recurses := true, apart := false, narrowed := true }
def FnExactBallSizeUptoSaid : Prop := fnExactBallSizeUptoRow.holds Try.pinned (OpenSpec.upto fnExactBallSizeSpec)

/-- 'laws.FnExactWeightOf', WHERE WHAT IT READS IS OF BULK AT MOST 1048576: true; the input reads as it did. -/
def fnExactWeightOfUptoRow : OpenClaim := { program := "ytdgbofjohinniaa", sum := "b0bfa6a1d07226f0b2df22b3550f5eaf053ea2aa1ae7df77ca7376d0173826ad", func := "loop.example/g01411/laws.FnExactWeightOf", spec := "fnExactWeightOf", apart := false, narrowed := true }
def FnExactWeightOfUptoSaid : Prop := fnExactWeightOfUptoRow.holds Try.pinned (OpenSpec.upto fnExactWeightOfSpec)

/-- 'laws.FnExactSumOfWords', WHERE WHAT IT READS IS OF BULK AT MOST 1048576: true; the input reads as it did. -/
def fnExactSumOfWordsUptoRow : OpenClaim := { program := "ytdgbofjohinniaa", sum := "b0bfa6a1d07226f0b2df22b3550f5eaf053ea2aa1ae7df77ca7376d0173826ad", func := "loop.example/g01411/laws.FnExactSumOfWords", spec := "fnExactSumOfWords", apart := false, narrowed := true }
def FnExactSumOfWordsUptoSaid : Prop := fnExactSumOfWordsUptoRow.holds Try.pinned (OpenSpec.upto fnExactSumOfWordsSpec)

/-- 'laws.FnExactOppositeWord', WHERE WHAT IT READS IS OF BULK AT MOST 1048576: true; the input reads as it did. -/
def fnExactOppositeWordUptoRow : OpenClaim := { program := "ytdgbofjohinniaa", sum := "b0bfa6a1d07226f0b2df22b3550f5eaf053ea2aa1ae7df77ca7376d0173826ad", func := "loop.example/g01411/laws.FnExactOppositeWord", spec := "fnExactOppositeWord", apart := false, narrowed := true }
def FnExactOppositeWordUptoSaid : Prop := fnExactOppositeWordUptoRow.holds Try.pinned (OpenSpec.upto fnExactOppositeWordSpec)

/-- 'laws.FnExactChangeDigit', WHERE WHAT IT READS IS OF BULK AT MOST 1048576: true; the input reads as it did. -/
def fnExactChangeDigitUptoRow : OpenClaim := { program := "ytdgbofjohinniaa", sum := "b0bfa6a1d07226f0b2df22b3550f5eaf053ea2aa1ae7df77ca7376d0173826ad", func := "loop.example/g01411/laws.FnExactChangeDigit", spec := "fnExactChangeDigit", apart := false, narrowed := true }
def FnExactChangeDigitUptoSaid : Prop := fnExactChangeDigitUptoRow.holds Try.pinned (OpenSpec.upto fnExactChangeDigitSpec)

end Rows
end Go.Proofs.Ytdgbofjohinniaa
