/-
  No cell of these rows narrows 'for every input' (looked for: loops, veiled, ifaces, maps, wideKeys, modest, calm, conditions, laid).
  DERIVED. THE GIVEN ROWS OF THIS SEAT. 8 by the template 'for every input the law returns true; each argument reads behind the call as it read before'; 0 by the template 'total and deterministic' (their statements: YtdkgbfmgpmmliabTotals.lean).
  GIVEN WITH THE SEED: the statements are not yours to turn. If you find one false, say at which input.
  Laid BY PROGRAM, IN A SANDBOX (cutbox-rows.mjs): the forced cells as the released guide's own fill.sh prints them over the translation 9ef95252392aeecc… (all of the seat's roots in one cut). By AI agents, Wed Nov 11 2026. No macro, syntax, notation, axiom, sorry.
-/
import Derived.Test.YtdkgbfmgpmmliabChecked
import GoSem.Claim
import GoSem.ClaimJoined
import GoSem.ClaimMapViews
import Derived.JoinedTies
import Derived.KernelRfl
namespace Go.Proofs.Ytdkgbfmgpmmliab
/- THE CELL 'sum', in the pinned program and in every row, IS THE sha256 OF THE DUMP (.gsa) THAT YtdkgbfmgpmmliabProg.lean LOADS. Nothing in Lean hashes anything: it is a label: what it is worth is what the hold of that sum in a sandbox is worth. -/
noncomputable def Try.pinned : Pinned := { name := "ytdkgbfmgpmmliab", sum := "9ef95252392aeecc9dd4cab0db7289dca6465dac965e8f1be3f7598b78fe8790", checked := Try.checked }
namespace Rows
def none {H : Type} : Left H := { results := [], args := [] }

/-- 'laws.FnExactCoverCounts': WHATEVER THE INPUT: true; the input reads as it did. -/
def fnExactCoverCountsSpec : ChangeSpec := { name := "fnExactCoverCounts", fn := fun _ => fun
  | [d1, d2, d3] => { results := [.lit (.bool true)], args := [d1, d2, d3] }
  | _ => none }
def fnExactCoverCountsRow : OpenClaim := { program := "ytdkgbfmgpmmliab", sum := "9ef95252392aeecc9dd4cab0db7289dca6465dac965e8f1be3f7598b78fe8790", func := "loop.example/g01411/laws.FnExactCoverCounts", spec := "fnExactCoverCounts", unfollowed := true, recurses := true, apart := false }
def FnExactCoverCountsSaid : Prop := fnExactCoverCountsRow.holds Try.pinned (OpenSpec.ofChange fnExactCoverCountsSpec)

/-- ITS FALSE NEIGHBOUR: 'it returns false'. Refute it at one input. -/
def fnExactCoverCountsWrong : ChangeSpec := { name := "fnExactCoverCounts", fn := fun _ => fun
  | [d1, d2, d3] => { results := [.lit (.bool false)], args := [d1, d2, d3] }
  | _ => none }
def FnExactCoverCountsWrongFalsely : Prop := fnExactCoverCountsRow.holds Try.pinned (OpenSpec.ofChange fnExactCoverCountsWrong)

/-- 'laws.FnExactExcessOf': WHATEVER THE INPUT: true; the input reads as it did. -/
def fnExactExcessOfSpec : ChangeSpec := { name := "fnExactExcessOf", fn := fun _ => fun
  | [d1, d2, d3] => { results := [.lit (.bool true)], args := [d1, d2, d3] }
  | _ => none }
def fnExactExcessOfRow : OpenClaim := { program := "ytdkgbfmgpmmliab", sum := "9ef95252392aeecc9dd4cab0db7289dca6465dac965e8f1be3f7598b78fe8790", func := "loop.example/g01411/laws.FnExactExcessOf", spec := "fnExactExcessOf", unfollowed := true, recurses := true, apart := false }
def FnExactExcessOfSaid : Prop := fnExactExcessOfRow.holds Try.pinned (OpenSpec.ofChange fnExactExcessOfSpec)

/-- ITS FALSE NEIGHBOUR: 'it returns false'. Refute it at one input. -/
def fnExactExcessOfWrong : ChangeSpec := { name := "fnExactExcessOf", fn := fun _ => fun
  | [d1, d2, d3] => { results := [.lit (.bool false)], args := [d1, d2, d3] }
  | _ => none }
def FnExactExcessOfWrongFalsely : Prop := fnExactExcessOfRow.holds Try.pinned (OpenSpec.ofChange fnExactExcessOfWrong)

/-- 'laws.FnExactNeededWords': WHATEVER THE INPUT: true; the input reads as it did. -/
def fnExactNeededWordsSpec : ChangeSpec := { name := "fnExactNeededWords", fn := fun _ => fun
  | [d1, d2, d3] => { results := [.lit (.bool true)], args := [d1, d2, d3] }
  | _ => none }
def fnExactNeededWordsRow : OpenClaim := { program := "ytdkgbfmgpmmliab", sum := "9ef95252392aeecc9dd4cab0db7289dca6465dac965e8f1be3f7598b78fe8790", func := "loop.example/g01411/laws.FnExactNeededWords", spec := "fnExactNeededWords", unfollowed := true, recurses := true, apart := false }
def FnExactNeededWordsSaid : Prop := fnExactNeededWordsRow.holds Try.pinned (OpenSpec.ofChange fnExactNeededWordsSpec)

/-- ITS FALSE NEIGHBOUR: 'it returns false'. Refute it at one input. -/
def fnExactNeededWordsWrong : ChangeSpec := { name := "fnExactNeededWords", fn := fun _ => fun
  | [d1, d2, d3] => { results := [.lit (.bool false)], args := [d1, d2, d3] }
  | _ => none }
def FnExactNeededWordsWrongFalsely : Prop := fnExactNeededWordsRow.holds Try.pinned (OpenSpec.ofChange fnExactNeededWordsWrong)

/-- 'laws.FnExactLeanCode': WHATEVER THE INPUT: true; the input reads as it did. -/
def fnExactLeanCodeSpec : ChangeSpec := { name := "fnExactLeanCode", fn := fun _ => fun
  | [d1, d2, d3] => { results := [.lit (.bool true)], args := [d1, d2, d3] }
  | _ => none }
def fnExactLeanCodeRow : OpenClaim := { program := "ytdkgbfmgpmmliab", sum := "9ef95252392aeecc9dd4cab0db7289dca6465dac965e8f1be3f7598b78fe8790", func := "loop.example/g01411/laws.FnExactLeanCode", spec := "fnExactLeanCode", unfollowed := true, recurses := true, apart := false }
def FnExactLeanCodeSaid : Prop := fnExactLeanCodeRow.holds Try.pinned (OpenSpec.ofChange fnExactLeanCodeSpec)

/-- ITS FALSE NEIGHBOUR: 'it returns false'. Refute it at one input. -/
def fnExactLeanCodeWrong : ChangeSpec := { name := "fnExactLeanCode", fn := fun _ => fun
  | [d1, d2, d3] => { results := [.lit (.bool false)], args := [d1, d2, d3] }
  | _ => none }
def FnExactLeanCodeWrongFalsely : Prop := fnExactLeanCodeRow.holds Try.pinned (OpenSpec.ofChange fnExactLeanCodeWrong)

/-- 'laws.FnExactGreedyCode': WHATEVER THE INPUT: true; the input reads as it did. -/
def fnExactGreedyCodeSpec : ChangeSpec := { name := "fnExactGreedyCode", fn := fun _ => fun
  | [d1, d2] => { results := [.lit (.bool true)], args := [d1, d2] }
  | _ => none }
def fnExactGreedyCodeRow : OpenClaim := { program := "ytdkgbfmgpmmliab", sum := "9ef95252392aeecc9dd4cab0db7289dca6465dac965e8f1be3f7598b78fe8790", func := "loop.example/g01411/laws.FnExactGreedyCode", spec := "fnExactGreedyCode", unfollowed := true, recurses := true, apart := false }
def FnExactGreedyCodeSaid : Prop := fnExactGreedyCodeRow.holds Try.pinned (OpenSpec.ofChange fnExactGreedyCodeSpec)

/-- ITS FALSE NEIGHBOUR: 'it returns false'. Refute it at one input. -/
def fnExactGreedyCodeWrong : ChangeSpec := { name := "fnExactGreedyCode", fn := fun _ => fun
  | [d1, d2] => { results := [.lit (.bool false)], args := [d1, d2] }
  | _ => none }
def FnExactGreedyCodeWrongFalsely : Prop := fnExactGreedyCodeRow.holds Try.pinned (OpenSpec.ofChange fnExactGreedyCodeWrong)

/-- 'laws.FnWords': WHATEVER THE INPUT: true; the input reads as it did. -/
def fnWordsSpec : ChangeSpec := { name := "fnWords", fn := fun _ => fun
  | [d] => { results := [.lit (.bool true)], args := [d] }
  | _ => none }
def fnWordsRow : OpenClaim := { program := "ytdkgbfmgpmmliab", sum := "9ef95252392aeecc9dd4cab0db7289dca6465dac965e8f1be3f7598b78fe8790", func := "loop.example/g01411/laws.FnWords", spec := "fnWords", unfollowed := true, recurses := true, apart := false }
def FnWordsSaid : Prop := fnWordsRow.holds Try.pinned (OpenSpec.ofChange fnWordsSpec)

/-- ITS FALSE NEIGHBOUR: 'it returns false'. Refute it at one input. -/
def fnWordsWrong : ChangeSpec := { name := "fnWords", fn := fun _ => fun
  | [d] => { results := [.lit (.bool false)], args := [d] }
  | _ => none }
def FnWordsWrongFalsely : Prop := fnWordsRow.holds Try.pinned (OpenSpec.ofChange fnWordsWrong)

/-- 'laws.FnCovers': WHATEVER THE INPUT: true; the input reads as it did. -/
def fnCoversSpec : ChangeSpec := { name := "fnCovers", fn := fun _ => fun
  | [d] => { results := [.lit (.bool true)], args := [d] }
  | _ => none }
def fnCoversRow : OpenClaim := { program := "ytdkgbfmgpmmliab", sum := "9ef95252392aeecc9dd4cab0db7289dca6465dac965e8f1be3f7598b78fe8790", func := "loop.example/g01411/laws.FnCovers", spec := "fnCovers", unfollowed := true, recurses := true, apart := false }
def FnCoversSaid : Prop := fnCoversRow.holds Try.pinned (OpenSpec.ofChange fnCoversSpec)

/-- ITS FALSE NEIGHBOUR: 'it returns false'. Refute it at one input. -/
def fnCoversWrong : ChangeSpec := { name := "fnCovers", fn := fun _ => fun
  | [d] => { results := [.lit (.bool false)], args := [d] }
  | _ => none }
def FnCoversWrongFalsely : Prop := fnCoversRow.holds Try.pinned (OpenSpec.ofChange fnCoversWrong)

/-- 'laws.FnNearest': WHATEVER THE INPUT: true; the input reads as it did. -/
def fnNearestSpec : ChangeSpec := { name := "fnNearest", fn := fun _ => fun
  | [d] => { results := [.lit (.bool true)], args := [d] }
  | _ => none }
def fnNearestRow : OpenClaim := { program := "ytdkgbfmgpmmliab", sum := "9ef95252392aeecc9dd4cab0db7289dca6465dac965e8f1be3f7598b78fe8790", func := "loop.example/g01411/laws.FnNearest", spec := "fnNearest", apart := false }
def FnNearestSaid : Prop := fnNearestRow.holds Try.pinned (OpenSpec.ofChange fnNearestSpec)

/-- ITS FALSE NEIGHBOUR: 'it returns false'. Refute it at one input. -/
def fnNearestWrong : ChangeSpec := { name := "fnNearest", fn := fun _ => fun
  | [d] => { results := [.lit (.bool false)], args := [d] }
  | _ => none }
def FnNearestWrongFalsely : Prop := fnNearestRow.holds Try.pinned (OpenSpec.ofChange fnNearestWrong)

/- THE SECOND FORM. 'bulk': how many values and letters a reading holds, each counted each time it is reached (what is shared counts as often as it is met; a slice's spare places count too). A statement '..UptoSaid' is the law's where the arguments, and the package variables that the reading takes, are together of bulk at most 1048576: NARROWER than '..Said'. Prove '..Said' where nothing that the law and all that it calls make is longer than what came in: it says more and counts as full. Else prove '..UptoSaid'. A law counts once. -/
mutual
def uptoBulk {H : Type} : DataW H → Nat
  | .lit (.string bytes) => bytes.length + 1
  | .lit _ => 1
  | .nil => 1
  | .ptr d => uptoBulk d + 1
  | .slice elems spare => uptoBulkAll elems + uptoBulkAll spare + 1
  | .agg parts => uptoBulkAll parts + 1
  | .iface _ d => uptoBulk d + 1
  | .map entries => uptoBulkEntries entries + 1
  | .held _ => 1
def uptoBulkAll {H : Type} : List (DataW H) → Nat
  | [] => 0
  | d :: r => uptoBulk d + uptoBulkAll r
def uptoBulkEntries {H : Type} : List (Lit × DataW H) → Nat
  | [] => 0
  | x :: r => uptoBulkEntry x + uptoBulkEntries r
def uptoBulkEntry {H : Type} : Lit × DataW H → Nat
  | (.string bytes, d) => bytes.length + uptoBulk d + 1
  | (_, d) => uptoBulk d + 1
 end
def uptoSmall : (H : Type) → List (DataW H) → Bool := fun _ ds => decide (uptoBulkAll ds ≤ 1048576)
def OpenSpec.upto (s : _root_.Go.ChangeSpec) : _root_.Go.OpenSpec := { _root_.Go.OpenSpec.ofChange s with cond := some uptoSmall }

/-- 'laws.FnExactCoverCounts', WHERE WHAT IT READS IS OF BULK AT MOST 1048576: true; the input reads as it did. -/
def fnExactCoverCountsUptoRow : OpenClaim := { program := "ytdkgbfmgpmmliab", sum := "9ef95252392aeecc9dd4cab0db7289dca6465dac965e8f1be3f7598b78fe8790", func := "loop.example/g01411/laws.FnExactCoverCounts", spec := "fnExactCoverCounts", unfollowed := true, recurses := true, apart := false, narrowed := true }
def FnExactCoverCountsUptoSaid : Prop := fnExactCoverCountsUptoRow.holds Try.pinned (OpenSpec.upto fnExactCoverCountsSpec)

/-- 'laws.FnExactExcessOf', WHERE WHAT IT READS IS OF BULK AT MOST 1048576: true; the input reads as it did. -/
def fnExactExcessOfUptoRow : OpenClaim := { program := "ytdkgbfmgpmmliab", sum := "9ef95252392aeecc9dd4cab0db7289dca6465dac965e8f1be3f7598b78fe8790", func := "loop.example/g01411/laws.FnExactExcessOf", spec := "fnExactExcessOf", unfollowed := true, recurses := true, apart := false, narrowed := true }
def FnExactExcessOfUptoSaid : Prop := fnExactExcessOfUptoRow.holds Try.pinned (OpenSpec.upto fnExactExcessOfSpec)

/-- 'laws.FnExactNeededWords', WHERE WHAT IT READS IS OF BULK AT MOST 1048576: true; the input reads as it did. -/
def fnExactNeededWordsUptoRow : OpenClaim := { program := "ytdkgbfmgpmmliab", sum := "9ef95252392aeecc9dd4cab0db7289dca6465dac965e8f1be3f7598b78fe8790", func := "loop.example/g01411/laws.FnExactNeededWords", spec := "fnExactNeededWords", unfollowed := true, recurses := true, apart := false, narrowed := true }
def FnExactNeededWordsUptoSaid : Prop := fnExactNeededWordsUptoRow.holds Try.pinned (OpenSpec.upto fnExactNeededWordsSpec)

/-- 'laws.FnExactLeanCode', WHERE WHAT IT READS IS OF BULK AT MOST 1048576: true; the input reads as it did. -/
def fnExactLeanCodeUptoRow : OpenClaim := { program := "ytdkgbfmgpmmliab", sum := "9ef95252392aeecc9dd4cab0db7289dca6465dac965e8f1be3f7598b78fe8790", func := "loop.example/g01411/laws.FnExactLeanCode", spec := "fnExactLeanCode", unfollowed := true, recurses := true, apart := false, narrowed := true }
def FnExactLeanCodeUptoSaid : Prop := fnExactLeanCodeUptoRow.holds Try.pinned (OpenSpec.upto fnExactLeanCodeSpec)

/-- 'laws.FnExactGreedyCode', WHERE WHAT IT READS IS OF BULK AT MOST 1048576: true; the input reads as it did. -/
def fnExactGreedyCodeUptoRow : OpenClaim := { program := "ytdkgbfmgpmmliab", sum := "9ef95252392aeecc9dd4cab0db7289dca6465dac965e8f1be3f7598b78fe8790", func := "loop.example/g01411/laws.FnExactGreedyCode", spec := "fnExactGreedyCode", unfollowed := true, recurses := true, apart := false, narrowed := true }
def FnExactGreedyCodeUptoSaid : Prop := fnExactGreedyCodeUptoRow.holds Try.pinned (OpenSpec.upto fnExactGreedyCodeSpec)

/-- 'laws.FnWords', WHERE WHAT IT READS IS OF BULK AT MOST 1048576: true; the input reads as it did. -/
def fnWordsUptoRow : OpenClaim := { program := "ytdkgbfmgpmmliab", sum := "9ef95252392aeecc9dd4cab0db7289dca6465dac965e8f1be3f7598b78fe8790", func := "loop.example/g01411/laws.FnWords", spec := "fnWords", unfollowed := true, recurses := true, apart := false, narrowed := true }
def FnWordsUptoSaid : Prop := fnWordsUptoRow.holds Try.pinned (OpenSpec.upto fnWordsSpec)

/-- 'laws.FnCovers', WHERE WHAT IT READS IS OF BULK AT MOST 1048576: true; the input reads as it did. -/
def fnCoversUptoRow : OpenClaim := { program := "ytdkgbfmgpmmliab", sum := "9ef95252392aeecc9dd4cab0db7289dca6465dac965e8f1be3f7598b78fe8790", func := "loop.example/g01411/laws.FnCovers", spec := "fnCovers", unfollowed := true, recurses := true, apart := false, narrowed := true }
def FnCoversUptoSaid : Prop := fnCoversUptoRow.holds Try.pinned (OpenSpec.upto fnCoversSpec)

/-- 'laws.FnNearest', WHERE WHAT IT READS IS OF BULK AT MOST 1048576: true; the input reads as it did. -/
def fnNearestUptoRow : OpenClaim := { program := "ytdkgbfmgpmmliab", sum := "9ef95252392aeecc9dd4cab0db7289dca6465dac965e8f1be3f7598b78fe8790", func := "loop.example/g01411/laws.FnNearest", spec := "fnNearest", apart := false, narrowed := true }
def FnNearestUptoSaid : Prop := fnNearestUptoRow.holds Try.pinned (OpenSpec.upto fnNearestSpec)

end Rows
end Go.Proofs.Ytdkgbfmgpmmliab
