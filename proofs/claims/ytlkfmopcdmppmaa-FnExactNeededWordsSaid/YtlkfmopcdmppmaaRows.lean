/-
  No cell of these rows narrows 'for every input' (looked for: loops, veiled, ifaces, maps, wideKeys, modest, calm, conditions, laid).
  DERIVED. THE GIVEN ROWS OF THIS SEAT. 12 by the template 'for every input the law returns true; each argument reads behind the call as it read before'; 0 by the template 'total and deterministic' (their statements: YtlkfmopcdmppmaaTotals.lean).
  GIVEN WITH THE SEED: the statements are not yours to turn. If you find one false, say at which input.
  Laid BY PROGRAM, IN A SANDBOX (cutbox-rows.mjs): the forced cells as the released guide's own fill.sh prints them over the translation 536fa14da5dd7b96… (all of the seat's roots in one cut). By AI agents, Wed Nov 11 2026. No macro, syntax, notation, axiom, sorry.
-/
import Derived.Test.YtlkfmopcdmppmaaChecked
import GoSem.Claim
import GoSem.ClaimJoined
import GoSem.ClaimMapViews
import Derived.JoinedTies
import Derived.KernelRfl
namespace Go.Proofs.Ytlkfmopcdmppmaa
/- THE CELL 'sum', in the pinned program and in every row, IS THE sha256 OF THE DUMP (.gsa) THAT YtlkfmopcdmppmaaProg.lean LOADS. Nothing in Lean hashes anything: it is a label: what it is worth is what the hold of that sum in a sandbox is worth. -/
noncomputable def Try.pinned : Pinned := { name := "ytlkfmopcdmppmaa", sum := "536fa14da5dd7b964db07a9daf7387416cbd89fe167488bb9ae7ad015984269a", checked := Try.checked }
namespace Rows
def none {H : Type} : Left H := { results := [], args := [] }

/-- 'laws.FnExactBallBound': WHATEVER THE INPUT: true; the input reads as it did. -/
def fnExactBallBoundSpec : ChangeSpec := { name := "fnExactBallBound", fn := fun _ => fun
  | [d1, d2] => { results := [.lit (.bool true)], args := [d1, d2] }
  | _ => none }
def fnExactBallBoundRow : OpenClaim := { program := "ytlkfmopcdmppmaa", sum := "536fa14da5dd7b964db07a9daf7387416cbd89fe167488bb9ae7ad015984269a", func := "loop.example/g01411/laws.FnExactBallBound", spec := "fnExactBallBound", unfollowed := true, recurses := true, apart := false }
def FnExactBallBoundSaid : Prop := fnExactBallBoundRow.holds Try.pinned (OpenSpec.ofChange fnExactBallBoundSpec)

/-- ITS FALSE NEIGHBOUR: 'it returns false'. Refute it at one input. -/
def fnExactBallBoundWrong : ChangeSpec := { name := "fnExactBallBound", fn := fun _ => fun
  | [d1, d2] => { results := [.lit (.bool false)], args := [d1, d2] }
  | _ => none }
def FnExactBallBoundWrongFalsely : Prop := fnExactBallBoundRow.holds Try.pinned (OpenSpec.ofChange fnExactBallBoundWrong)

/-- 'laws.FnExactPackingBound': WHATEVER THE INPUT: true; the input reads as it did. -/
def fnExactPackingBoundSpec : ChangeSpec := { name := "fnExactPackingBound", fn := fun _ => fun
  | [d1, d2] => { results := [.lit (.bool true)], args := [d1, d2] }
  | _ => none }
def fnExactPackingBoundRow : OpenClaim := { program := "ytlkfmopcdmppmaa", sum := "536fa14da5dd7b964db07a9daf7387416cbd89fe167488bb9ae7ad015984269a", func := "loop.example/g01411/laws.FnExactPackingBound", spec := "fnExactPackingBound", unfollowed := true, recurses := true, apart := false }
def FnExactPackingBoundSaid : Prop := fnExactPackingBoundRow.holds Try.pinned (OpenSpec.ofChange fnExactPackingBoundSpec)

/-- ITS FALSE NEIGHBOUR: 'it returns false'. Refute it at one input. -/
def fnExactPackingBoundWrong : ChangeSpec := { name := "fnExactPackingBound", fn := fun _ => fun
  | [d1, d2] => { results := [.lit (.bool false)], args := [d1, d2] }
  | _ => none }
def FnExactPackingBoundWrongFalsely : Prop := fnExactPackingBoundRow.holds Try.pinned (OpenSpec.ofChange fnExactPackingBoundWrong)

/-- 'laws.FnExactAreApart': WHATEVER THE INPUT: true; the input reads as it did. -/
def fnExactAreApartSpec : ChangeSpec := { name := "fnExactAreApart", fn := fun _ => fun
  | [d1, d2, d3] => { results := [.lit (.bool true)], args := [d1, d2, d3] }
  | _ => none }
def fnExactAreApartRow : OpenClaim := { program := "ytlkfmopcdmppmaa", sum := "536fa14da5dd7b964db07a9daf7387416cbd89fe167488bb9ae7ad015984269a", func := "loop.example/g01411/laws.FnExactAreApart", spec := "fnExactAreApart", apart := false }
def FnExactAreApartSaid : Prop := fnExactAreApartRow.holds Try.pinned (OpenSpec.ofChange fnExactAreApartSpec)

/-- ITS FALSE NEIGHBOUR: 'it returns false'. Refute it at one input. -/
def fnExactAreApartWrong : ChangeSpec := { name := "fnExactAreApart", fn := fun _ => fun
  | [d1, d2, d3] => { results := [.lit (.bool false)], args := [d1, d2, d3] }
  | _ => none }
def FnExactAreApartWrongFalsely : Prop := fnExactAreApartRow.holds Try.pinned (OpenSpec.ofChange fnExactAreApartWrong)

/-- 'laws.FnExactFreeBound': WHATEVER THE INPUT: true; the input reads as it did. -/
def fnExactFreeBoundSpec : ChangeSpec := { name := "fnExactFreeBound", fn := fun _ => fun
  | [d1, d2] => { results := [.lit (.bool true)], args := [d1, d2] }
  | _ => none }
def fnExactFreeBoundRow : OpenClaim := { program := "ytlkfmopcdmppmaa", sum := "536fa14da5dd7b964db07a9daf7387416cbd89fe167488bb9ae7ad015984269a", func := "loop.example/g01411/laws.FnExactFreeBound", spec := "fnExactFreeBound", unfollowed := true, recurses := true, apart := false }
def FnExactFreeBoundSaid : Prop := fnExactFreeBoundRow.holds Try.pinned (OpenSpec.ofChange fnExactFreeBoundSpec)

/-- ITS FALSE NEIGHBOUR: 'it returns false'. Refute it at one input. -/
def fnExactFreeBoundWrong : ChangeSpec := { name := "fnExactFreeBound", fn := fun _ => fun
  | [d1, d2] => { results := [.lit (.bool false)], args := [d1, d2] }
  | _ => none }
def FnExactFreeBoundWrongFalsely : Prop := fnExactFreeBoundRow.holds Try.pinned (OpenSpec.ofChange fnExactFreeBoundWrong)

/-- 'laws.FnExactPlaceBound': WHATEVER THE INPUT: true; the input reads as it did. -/
def fnExactPlaceBoundSpec : ChangeSpec := { name := "fnExactPlaceBound", fn := fun _ => fun
  | [d1, d2] => { results := [.lit (.bool true)], args := [d1, d2] }
  | _ => none }
def fnExactPlaceBoundRow : OpenClaim := { program := "ytlkfmopcdmppmaa", sum := "536fa14da5dd7b964db07a9daf7387416cbd89fe167488bb9ae7ad015984269a", func := "loop.example/g01411/laws.FnExactPlaceBound", spec := "fnExactPlaceBound", unfollowed := true, recurses := true, apart := false }
def FnExactPlaceBoundSaid : Prop := fnExactPlaceBoundRow.holds Try.pinned (OpenSpec.ofChange fnExactPlaceBoundSpec)

/-- ITS FALSE NEIGHBOUR: 'it returns false'. Refute it at one input. -/
def fnExactPlaceBoundWrong : ChangeSpec := { name := "fnExactPlaceBound", fn := fun _ => fun
  | [d1, d2] => { results := [.lit (.bool false)], args := [d1, d2] }
  | _ => none }
def FnExactPlaceBoundWrongFalsely : Prop := fnExactPlaceBoundRow.holds Try.pinned (OpenSpec.ofChange fnExactPlaceBoundWrong)

/-- 'laws.FnExactFreeCode': WHATEVER THE INPUT: true; the input reads as it did. -/
def fnExactFreeCodeSpec : ChangeSpec := { name := "fnExactFreeCode", fn := fun _ => fun
  | [d1, d2] => { results := [.lit (.bool true)], args := [d1, d2] }
  | _ => none }
def fnExactFreeCodeRow : OpenClaim := { program := "ytlkfmopcdmppmaa", sum := "536fa14da5dd7b964db07a9daf7387416cbd89fe167488bb9ae7ad015984269a", func := "loop.example/g01411/laws.FnExactFreeCode", spec := "fnExactFreeCode", unfollowed := true, recurses := true, apart := false }
def FnExactFreeCodeSaid : Prop := fnExactFreeCodeRow.holds Try.pinned (OpenSpec.ofChange fnExactFreeCodeSpec)

/-- ITS FALSE NEIGHBOUR: 'it returns false'. Refute it at one input. -/
def fnExactFreeCodeWrong : ChangeSpec := { name := "fnExactFreeCode", fn := fun _ => fun
  | [d1, d2] => { results := [.lit (.bool false)], args := [d1, d2] }
  | _ => none }
def FnExactFreeCodeWrongFalsely : Prop := fnExactFreeCodeRow.holds Try.pinned (OpenSpec.ofChange fnExactFreeCodeWrong)

/-- 'laws.FnExactGreedyApart': WHATEVER THE INPUT: true; the input reads as it did. -/
def fnExactGreedyApartSpec : ChangeSpec := { name := "fnExactGreedyApart", fn := fun _ => fun
  | [d1, d2] => { results := [.lit (.bool true)], args := [d1, d2] }
  | _ => none }
def fnExactGreedyApartRow : OpenClaim := { program := "ytlkfmopcdmppmaa", sum := "536fa14da5dd7b964db07a9daf7387416cbd89fe167488bb9ae7ad015984269a", func := "loop.example/g01411/laws.FnExactGreedyApart", spec := "fnExactGreedyApart", unfollowed := true, recurses := true, apart := false }
def FnExactGreedyApartSaid : Prop := fnExactGreedyApartRow.holds Try.pinned (OpenSpec.ofChange fnExactGreedyApartSpec)

/-- ITS FALSE NEIGHBOUR: 'it returns false'. Refute it at one input. -/
def fnExactGreedyApartWrong : ChangeSpec := { name := "fnExactGreedyApart", fn := fun _ => fun
  | [d1, d2] => { results := [.lit (.bool false)], args := [d1, d2] }
  | _ => none }
def FnExactGreedyApartWrongFalsely : Prop := fnExactGreedyApartRow.holds Try.pinned (OpenSpec.ofChange fnExactGreedyApartWrong)

/-- 'laws.FnExactCanGrow': WHATEVER THE INPUT: true; the input reads as it did. -/
def fnExactCanGrowSpec : ChangeSpec := { name := "fnExactCanGrow", fn := fun _ => fun
  | [d1, d2, d3] => { results := [.lit (.bool true)], args := [d1, d2, d3] }
  | _ => none }
def fnExactCanGrowRow : OpenClaim := { program := "ytlkfmopcdmppmaa", sum := "536fa14da5dd7b964db07a9daf7387416cbd89fe167488bb9ae7ad015984269a", func := "loop.example/g01411/laws.FnExactCanGrow", spec := "fnExactCanGrow", unfollowed := true, recurses := true, apart := false }
def FnExactCanGrowSaid : Prop := fnExactCanGrowRow.holds Try.pinned (OpenSpec.ofChange fnExactCanGrowSpec)

/-- ITS FALSE NEIGHBOUR: 'it returns false'. Refute it at one input. -/
def fnExactCanGrowWrong : ChangeSpec := { name := "fnExactCanGrow", fn := fun _ => fun
  | [d1, d2, d3] => { results := [.lit (.bool false)], args := [d1, d2, d3] }
  | _ => none }
def FnExactCanGrowWrongFalsely : Prop := fnExactCanGrowRow.holds Try.pinned (OpenSpec.ofChange fnExactCanGrowWrong)

/-- 'laws.FnExactCoversSpace': WHATEVER THE INPUT: true; the input reads as it did. -/
def fnExactCoversSpaceSpec : ChangeSpec := { name := "fnExactCoversSpace", fn := fun _ => fun
  | [d1, d2, d3] => { results := [.lit (.bool true)], args := [d1, d2, d3] }
  | _ => none }
def fnExactCoversSpaceRow : OpenClaim := { program := "ytlkfmopcdmppmaa", sum := "536fa14da5dd7b964db07a9daf7387416cbd89fe167488bb9ae7ad015984269a", func := "loop.example/g01411/laws.FnExactCoversSpace", spec := "fnExactCoversSpace", unfollowed := true, recurses := true, apart := false }
def FnExactCoversSpaceSaid : Prop := fnExactCoversSpaceRow.holds Try.pinned (OpenSpec.ofChange fnExactCoversSpaceSpec)

/-- ITS FALSE NEIGHBOUR: 'it returns false'. Refute it at one input. -/
def fnExactCoversSpaceWrong : ChangeSpec := { name := "fnExactCoversSpace", fn := fun _ => fun
  | [d1, d2, d3] => { results := [.lit (.bool false)], args := [d1, d2, d3] }
  | _ => none }
def FnExactCoversSpaceWrongFalsely : Prop := fnExactCoversSpaceRow.holds Try.pinned (OpenSpec.ofChange fnExactCoversSpaceWrong)

/-- 'laws.FnExactUncoveredWords': WHATEVER THE INPUT: true; the input reads as it did. -/
def fnExactUncoveredWordsSpec : ChangeSpec := { name := "fnExactUncoveredWords", fn := fun _ => fun
  | [d1, d2, d3] => { results := [.lit (.bool true)], args := [d1, d2, d3] }
  | _ => none }
def fnExactUncoveredWordsRow : OpenClaim := { program := "ytlkfmopcdmppmaa", sum := "536fa14da5dd7b964db07a9daf7387416cbd89fe167488bb9ae7ad015984269a", func := "loop.example/g01411/laws.FnExactUncoveredWords", spec := "fnExactUncoveredWords", unfollowed := true, recurses := true, apart := false }
def FnExactUncoveredWordsSaid : Prop := fnExactUncoveredWordsRow.holds Try.pinned (OpenSpec.ofChange fnExactUncoveredWordsSpec)

/-- ITS FALSE NEIGHBOUR: 'it returns false'. Refute it at one input. -/
def fnExactUncoveredWordsWrong : ChangeSpec := { name := "fnExactUncoveredWords", fn := fun _ => fun
  | [d1, d2, d3] => { results := [.lit (.bool false)], args := [d1, d2, d3] }
  | _ => none }
def FnExactUncoveredWordsWrongFalsely : Prop := fnExactUncoveredWordsRow.holds Try.pinned (OpenSpec.ofChange fnExactUncoveredWordsWrong)

/-- 'laws.FnExactNeededWords': WHATEVER THE INPUT: true; the input reads as it did. -/
def fnExactNeededWordsSpec : ChangeSpec := { name := "fnExactNeededWords", fn := fun _ => fun
  | [d1, d2, d3] => { results := [.lit (.bool true)], args := [d1, d2, d3] }
  | _ => none }
def fnExactNeededWordsRow : OpenClaim := { program := "ytlkfmopcdmppmaa", sum := "536fa14da5dd7b964db07a9daf7387416cbd89fe167488bb9ae7ad015984269a", func := "loop.example/g01411/laws.FnExactNeededWords", spec := "fnExactNeededWords", unfollowed := true, recurses := true, apart := false }
def FnExactNeededWordsSaid : Prop := fnExactNeededWordsRow.holds Try.pinned (OpenSpec.ofChange fnExactNeededWordsSpec)

/-- ITS FALSE NEIGHBOUR: 'it returns false'. Refute it at one input. -/
def fnExactNeededWordsWrong : ChangeSpec := { name := "fnExactNeededWords", fn := fun _ => fun
  | [d1, d2, d3] => { results := [.lit (.bool false)], args := [d1, d2, d3] }
  | _ => none }
def FnExactNeededWordsWrongFalsely : Prop := fnExactNeededWordsRow.holds Try.pinned (OpenSpec.ofChange fnExactNeededWordsWrong)

/-- 'laws.FnExactDirectSum': WHATEVER THE INPUT: true; the input reads as it did. -/
def fnExactDirectSumSpec : ChangeSpec := { name := "fnExactDirectSum", fn := fun _ => fun
  | [d1, d2, d3, d4] => { results := [.lit (.bool true)], args := [d1, d2, d3, d4] }
  | _ => none }
def fnExactDirectSumRow : OpenClaim := { program := "ytlkfmopcdmppmaa", sum := "536fa14da5dd7b964db07a9daf7387416cbd89fe167488bb9ae7ad015984269a", func := "loop.example/g01411/laws.FnExactDirectSum", spec := "fnExactDirectSum", apart := false }
def FnExactDirectSumSaid : Prop := fnExactDirectSumRow.holds Try.pinned (OpenSpec.ofChange fnExactDirectSumSpec)

/-- ITS FALSE NEIGHBOUR: 'it returns false'. Refute it at one input. -/
def fnExactDirectSumWrong : ChangeSpec := { name := "fnExactDirectSum", fn := fun _ => fun
  | [d1, d2, d3, d4] => { results := [.lit (.bool false)], args := [d1, d2, d3, d4] }
  | _ => none }
def FnExactDirectSumWrongFalsely : Prop := fnExactDirectSumRow.holds Try.pinned (OpenSpec.ofChange fnExactDirectSumWrong)

/- THE SECOND FORM. 'bulk': how many values and letters a reading holds, each counted each time it is reached (what is shared counts as often as it is met; a slice's spare places count too). A statement '..UptoSaid' is the law's where the arguments, and the package variables that the reading takes, are together of bulk at most 1048576: NARROWER than '..Said'. Prove '..Said' where nothing that the law and all that it calls make is longer than what came in: it says more and counts as full. Else prove '..UptoSaid'. A law counts once. -/
mutual
def uptoBulk {H : Type} : DataW H → Nat
  | .lit (.string bytes) => bytes.length + 1
  | .lit _ => 1
  | .nil => 1
  | .ptr d => uptoBulk d + 1
  | .slice elems spare => uptoBulkAll elems + uptoBulkAll spare + 1
  | .agg parts => uptoBulkAll parts + 1
  | .iface _ d => uptoBulk d + 1
  | .map entries => uptoBulkEntries entries + 1
  | .held _ => 1
def uptoBulkAll {H : Type} : List (DataW H) → Nat
  | [] => 0
  | d :: r => uptoBulk d + uptoBulkAll r
def uptoBulkEntries {H : Type} : List (Lit × DataW H) → Nat
  | [] => 0
  | x :: r => uptoBulkEntry x + uptoBulkEntries r
def uptoBulkEntry {H : Type} : Lit × DataW H → Nat
  | (.string bytes, d) => bytes.length + uptoBulk d + 1
  | (_, d) => uptoBulk d + 1
 end
def uptoSmall : (H : Type) → List (DataW H) → Bool := fun _ ds => decide (uptoBulkAll ds ≤ 1048576)
def OpenSpec.upto (s : _root_.Go.ChangeSpec) : _root_.Go.OpenSpec := { _root_.Go.OpenSpec.ofChange s with cond := some uptoSmall }

/-- 'laws.FnExactBallBound', WHERE WHAT IT READS IS OF BULK AT MOST 1048576: true; the input reads as it did. -/
def fnExactBallBoundUptoRow : OpenClaim := { program := "ytlkfmopcdmppmaa", sum := "536fa14da5dd7b964db07a9daf7387416cbd89fe167488bb9ae7ad015984269a", func := "loop.example/g01411/laws.FnExactBallBound", spec := "fnExactBallBound", unfollowed := true, recurses := true, apart := false, narrowed := true }
def FnExactBallBoundUptoSaid : Prop := fnExactBallBoundUptoRow.holds Try.pinned (OpenSpec.upto fnExactBallBoundSpec)

/-- 'laws.FnExactPackingBound', WHERE WHAT IT READS IS OF BULK AT MOST 1048576: true; the input reads as it did. -/
def fnExactPackingBoundUptoRow : OpenClaim := { program := "ytlkfmopcdmppmaa", sum := "536fa14da5dd7b964db07a9daf7387416cbd89fe167488bb9ae7ad015984269a", func := "loop.example/g01411/laws.FnExactPackingBound", spec := "fnExactPackingBound", unfollowed := true, recurses := true, apart := false, narrowed := true }
def FnExactPackingBoundUptoSaid : Prop := fnExactPackingBoundUptoRow.holds Try.pinned (OpenSpec.upto fnExactPackingBoundSpec)

/-- 'laws.FnExactAreApart', WHERE WHAT IT READS IS OF BULK AT MOST 1048576: true; the input reads as it did. -/
def fnExactAreApartUptoRow : OpenClaim := { program := "ytlkfmopcdmppmaa", sum := "536fa14da5dd7b964db07a9daf7387416cbd89fe167488bb9ae7ad015984269a", func := "loop.example/g01411/laws.FnExactAreApart", spec := "fnExactAreApart", apart := false, narrowed := true }
def FnExactAreApartUptoSaid : Prop := fnExactAreApartUptoRow.holds Try.pinned (OpenSpec.upto fnExactAreApartSpec)

/-- 'laws.FnExactFreeBound', WHERE WHAT IT READS IS OF BULK AT MOST 1048576: true; the input reads as it did. -/
def fnExactFreeBoundUptoRow : OpenClaim := { program := "ytlkfmopcdmppmaa", sum := "536fa14da5dd7b964db07a9daf7387416cbd89fe167488bb9ae7ad015984269a", func := "loop.example/g01411/laws.FnExactFreeBound", spec := "fnExactFreeBound", unfollowed := true, recurses := true, apart := false, narrowed := true }
def FnExactFreeBoundUptoSaid : Prop := fnExactFreeBoundUptoRow.holds Try.pinned (OpenSpec.upto fnExactFreeBoundSpec)

/-- 'laws.FnExactPlaceBound', WHERE WHAT IT READS IS OF BULK AT MOST 1048576: true; the input reads as it did. -/
def fnExactPlaceBoundUptoRow : OpenClaim := { program := "ytlkfmopcdmppmaa", sum := "536fa14da5dd7b964db07a9daf7387416cbd89fe167488bb9ae7ad015984269a", func := "loop.example/g01411/laws.FnExactPlaceBound", spec := "fnExactPlaceBound", unfollowed := true, recurses := true, apart := false, narrowed := true }
def FnExactPlaceBoundUptoSaid : Prop := fnExactPlaceBoundUptoRow.holds Try.pinned (OpenSpec.upto fnExactPlaceBoundSpec)

/-- 'laws.FnExactFreeCode', WHERE WHAT IT READS IS OF BULK AT MOST 1048576: true; the input reads as it did. -/
def fnExactFreeCodeUptoRow : OpenClaim := { program := "ytlkfmopcdmppmaa", sum := "536fa14da5dd7b964db07a9daf7387416cbd89fe167488bb9ae7ad015984269a", func := "loop.example/g01411/laws.FnExactFreeCode", spec := "fnExactFreeCode", unfollowed := true, recurses := true, apart := false, narrowed := true }
def FnExactFreeCodeUptoSaid : Prop := fnExactFreeCodeUptoRow.holds Try.pinned (OpenSpec.upto fnExactFreeCodeSpec)

/-- 'laws.FnExactGreedyApart', WHERE WHAT IT READS IS OF BULK AT MOST 1048576: true; the input reads as it did. -/
def fnExactGreedyApartUptoRow : OpenClaim := { program := "ytlkfmopcdmppmaa", sum := "536fa14da5dd7b964db07a9daf7387416cbd89fe167488bb9ae7ad015984269a", func := "loop.example/g01411/laws.FnExactGreedyApart", spec := "fnExactGreedyApart", unfollowed := true, recurses := true, apart := false, narrowed := true }
def FnExactGreedyApartUptoSaid : Prop := fnExactGreedyApartUptoRow.holds Try.pinned (OpenSpec.upto fnExactGreedyApartSpec)

/-- 'laws.FnExactCanGrow', WHERE WHAT IT READS IS OF BULK AT MOST 1048576: true; the input reads as it did. -/
def fnExactCanGrowUptoRow : OpenClaim := { program := "ytlkfmopcdmppmaa", sum := "536fa14da5dd7b964db07a9daf7387416cbd89fe167488bb9ae7ad015984269a", func := "loop.example/g01411/laws.FnExactCanGrow", spec := "fnExactCanGrow", unfollowed := true, recurses := true, apart := false, narrowed := true }
def FnExactCanGrowUptoSaid : Prop := fnExactCanGrowUptoRow.holds Try.pinned (OpenSpec.upto fnExactCanGrowSpec)

/-- 'laws.FnExactCoversSpace', WHERE WHAT IT READS IS OF BULK AT MOST 1048576: true; the input reads as it did. -/
def fnExactCoversSpaceUptoRow : OpenClaim := { program := "ytlkfmopcdmppmaa", sum := "536fa14da5dd7b964db07a9daf7387416cbd89fe167488bb9ae7ad015984269a", func := "loop.example/g01411/laws.FnExactCoversSpace", spec := "fnExactCoversSpace", unfollowed := true, recurses := true, apart := false, narrowed := true }
def FnExactCoversSpaceUptoSaid : Prop := fnExactCoversSpaceUptoRow.holds Try.pinned (OpenSpec.upto fnExactCoversSpaceSpec)

/-- 'laws.FnExactUncoveredWords', WHERE WHAT IT READS IS OF BULK AT MOST 1048576: true; the input reads as it did. -/
def fnExactUncoveredWordsUptoRow : OpenClaim := { program := "ytlkfmopcdmppmaa", sum := "536fa14da5dd7b964db07a9daf7387416cbd89fe167488bb9ae7ad015984269a", func := "loop.example/g01411/laws.FnExactUncoveredWords", spec := "fnExactUncoveredWords", unfollowed := true, recurses := true, apart := false, narrowed := true }
def FnExactUncoveredWordsUptoSaid : Prop := fnExactUncoveredWordsUptoRow.holds Try.pinned (OpenSpec.upto fnExactUncoveredWordsSpec)

/-- 'laws.FnExactNeededWords', WHERE WHAT IT READS IS OF BULK AT MOST 1048576: true; the input reads as it did. -/
def fnExactNeededWordsUptoRow : OpenClaim := { program := "ytlkfmopcdmppmaa", sum := "536fa14da5dd7b964db07a9daf7387416cbd89fe167488bb9ae7ad015984269a", func := "loop.example/g01411/laws.FnExactNeededWords", spec := "fnExactNeededWords", unfollowed := true, recurses := true, apart := false, narrowed := true }
def FnExactNeededWordsUptoSaid : Prop := fnExactNeededWordsUptoRow.holds Try.pinned (OpenSpec.upto fnExactNeededWordsSpec)

/-- 'laws.FnExactDirectSum', WHERE WHAT IT READS IS OF BULK AT MOST 1048576: true; the input reads as it did. -/
def fnExactDirectSumUptoRow : OpenClaim := { program := "ytlkfmopcdmppmaa", sum := "536fa14da5dd7b964db07a9daf7387416cbd89fe167488bb9ae7ad015984269a", func := "loop.example/g01411/laws.FnExactDirectSum", spec := "fnExactDirectSum", apart := false, narrowed := true }
def FnExactDirectSumUptoSaid : Prop := fnExactDirectSumUptoRow.holds Try.pinned (OpenSpec.upto fnExactDirectSumSpec)

end Rows
end Go.Proofs.Ytlkfmopcdmppmaa
