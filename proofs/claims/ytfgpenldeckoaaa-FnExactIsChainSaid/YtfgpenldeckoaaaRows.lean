/-
  No cell of these rows narrows 'for every input' (looked for: loops, veiled, ifaces, maps, wideKeys, modest, calm, conditions, laid).
  DERIVED. THE GIVEN ROWS OF THIS SEAT. 9 by the template 'for every input the law returns true; each argument reads behind the call as it read before'; 0 by the template 'total and deterministic' (their statements: YtfgpenldeckoaaaTotals.lean).
  GIVEN WITH THE SEED: the statements are not yours to turn. If you find one false, say at which input.
  Laid BY PROGRAM, IN A SANDBOX (cutbox-rows.mjs): the forced cells as the released guide's own fill.sh prints them over the translation 7ea5ee9a3cc0f648… (all of the seat's roots in one cut). By AI agents, Wed Nov 11 2026. No macro, syntax, notation, axiom, sorry.
-/
import Derived.Test.YtfgpenldeckoaaaChecked
import GoSem.Claim
import GoSem.ClaimJoined
import GoSem.ClaimMapViews
import Derived.JoinedTies
import Derived.KernelRfl
namespace Go.Proofs.Ytfgpenldeckoaaa
/- THE CELL 'sum', in the pinned program and in every row, IS THE sha256 OF THE DUMP (.gsa) THAT YtfgpenldeckoaaaProg.lean LOADS. Nothing in Lean hashes anything: it is a label: what it is worth is what the hold of that sum in a sandbox is worth. -/
noncomputable def Try.pinned : Pinned := { name := "ytfgpenldeckoaaa", sum := "7ea5ee9a3cc0f64814541fb955dffcca8458f1bd7879051d78985fc442c47d49", checked := Try.checked }
namespace Rows
def none {H : Type} : Left H := { results := [], args := [] }

/-- 'laws.FnExactReachesOf': WHATEVER THE INPUT: true; the input reads as it did. -/
def fnExactReachesOfSpec : ChangeSpec := { name := "fnExactReachesOf", fn := fun _ => fun
  | [d1, d2, d3, d4] => { results := [.lit (.bool true)], args := [d1, d2, d3, d4] }
  | _ => none }
def fnExactReachesOfRow : OpenClaim := { program := "ytfgpenldeckoaaa", sum := "7ea5ee9a3cc0f64814541fb955dffcca8458f1bd7879051d78985fc442c47d49", func := "loop.example/g01411/laws.FnExactReachesOf", spec := "fnExactReachesOf", apart := false }
def FnExactReachesOfSaid : Prop := fnExactReachesOfRow.holds Try.pinned (OpenSpec.ofChange fnExactReachesOfSpec)

/-- ITS FALSE NEIGHBOUR: 'it returns false'. Refute it at one input. -/
def fnExactReachesOfWrong : ChangeSpec := { name := "fnExactReachesOf", fn := fun _ => fun
  | [d1, d2, d3, d4] => { results := [.lit (.bool false)], args := [d1, d2, d3, d4] }
  | _ => none }
def FnExactReachesOfWrongFalsely : Prop := fnExactReachesOfRow.holds Try.pinned (OpenSpec.ofChange fnExactReachesOfWrong)

/-- 'laws.FnExactNormAt': WHATEVER THE INPUT: true; the input reads as it did. -/
def fnExactNormAtSpec : ChangeSpec := { name := "fnExactNormAt", fn := fun _ => fun
  | [d1, d2, d3] => { results := [.lit (.bool true)], args := [d1, d2, d3] }
  | _ => none }
def fnExactNormAtRow : OpenClaim := { program := "ytfgpenldeckoaaa", sum := "7ea5ee9a3cc0f64814541fb955dffcca8458f1bd7879051d78985fc442c47d49", func := "loop.example/g01411/laws.FnExactNormAt", spec := "fnExactNormAt", apart := false }
def FnExactNormAtSaid : Prop := fnExactNormAtRow.holds Try.pinned (OpenSpec.ofChange fnExactNormAtSpec)

/-- ITS FALSE NEIGHBOUR: 'it returns false'. Refute it at one input. -/
def fnExactNormAtWrong : ChangeSpec := { name := "fnExactNormAt", fn := fun _ => fun
  | [d1, d2, d3] => { results := [.lit (.bool false)], args := [d1, d2, d3] }
  | _ => none }
def FnExactNormAtWrongFalsely : Prop := fnExactNormAtRow.holds Try.pinned (OpenSpec.ofChange fnExactNormAtWrong)

/-- 'laws.FnExactFitPlaces': WHATEVER THE INPUT: true; the input reads as it did. -/
def fnExactFitPlacesSpec : ChangeSpec := { name := "fnExactFitPlaces", fn := fun _ => fun
  | [d1, d2] => { results := [.lit (.bool true)], args := [d1, d2] }
  | _ => none }
def fnExactFitPlacesRow : OpenClaim := { program := "ytfgpenldeckoaaa", sum := "7ea5ee9a3cc0f64814541fb955dffcca8458f1bd7879051d78985fc442c47d49", func := "loop.example/g01411/laws.FnExactFitPlaces", spec := "fnExactFitPlaces", inPlace := ["(*sync.WaitGroup).Add", "internal/race.ReleaseMerge", "internal/race.Disable", "internal/race.Enable", "internal/synctest.IsInBubble", "internal/synctest.Associate[sync.WaitGroup]", "sync.fatal", "sync/atomic.OrUint64", "sync/atomic.AddUint64", "internal/race.Read", "sync/atomic.LoadUint64", "sync/atomic.StoreUint64", "internal/synctest.Disassociate[sync.WaitGroup]", "sync.runtime_Semrelease", "(*sync.WaitGroup).Done", "(*sync.WaitGroup).Wait", "internal/race.Acquire", "internal/synctest.IsAssociated[sync.WaitGroup]", "sync/atomic.CompareAndSwapUint64", "internal/race.Write", "sync.runtime_SemacquireWaitGroup"], unfollowed := true, recurses := true, leaving := true, apart := false }
def FnExactFitPlacesSaid : Prop := fnExactFitPlacesRow.holds Try.pinned (OpenSpec.ofChange fnExactFitPlacesSpec)

/-- ITS FALSE NEIGHBOUR: 'it returns false'. Refute it at one input. -/
def fnExactFitPlacesWrong : ChangeSpec := { name := "fnExactFitPlaces", fn := fun _ => fun
  | [d1, d2] => { results := [.lit (.bool false)], args := [d1, d2] }
  | _ => none }
def FnExactFitPlacesWrongFalsely : Prop := fnExactFitPlacesRow.holds Try.pinned (OpenSpec.ofChange fnExactFitPlacesWrong)

/-- 'laws.FnExactIsNormal': WHATEVER THE INPUT: true; the input reads as it did. -/
def fnExactIsNormalSpec : ChangeSpec := { name := "fnExactIsNormal", fn := fun _ => fun
  | [d1, d2] => { results := [.lit (.bool true)], args := [d1, d2] }
  | _ => none }
def fnExactIsNormalRow : OpenClaim := { program := "ytfgpenldeckoaaa", sum := "7ea5ee9a3cc0f64814541fb955dffcca8458f1bd7879051d78985fc442c47d49", func := "loop.example/g01411/laws.FnExactIsNormal", spec := "fnExactIsNormal", inPlace := ["(*sync.WaitGroup).Add", "internal/race.ReleaseMerge", "internal/race.Disable", "internal/race.Enable", "internal/synctest.IsInBubble", "internal/synctest.Associate[sync.WaitGroup]", "sync.fatal", "sync/atomic.OrUint64", "sync/atomic.AddUint64", "internal/race.Read", "sync/atomic.LoadUint64", "sync/atomic.StoreUint64", "internal/synctest.Disassociate[sync.WaitGroup]", "sync.runtime_Semrelease", "(*sync.WaitGroup).Done", "(*sync.WaitGroup).Wait", "internal/race.Acquire", "internal/synctest.IsAssociated[sync.WaitGroup]", "sync/atomic.CompareAndSwapUint64", "internal/race.Write", "sync.runtime_SemacquireWaitGroup"], unfollowed := true, recurses := true, leaving := true, apart := false }
def FnExactIsNormalSaid : Prop := fnExactIsNormalRow.holds Try.pinned (OpenSpec.ofChange fnExactIsNormalSpec)

/-- ITS FALSE NEIGHBOUR: 'it returns false'. Refute it at one input. -/
def fnExactIsNormalWrong : ChangeSpec := { name := "fnExactIsNormal", fn := fun _ => fun
  | [d1, d2] => { results := [.lit (.bool false)], args := [d1, d2] }
  | _ => none }
def FnExactIsNormalWrongFalsely : Prop := fnExactIsNormalRow.holds Try.pinned (OpenSpec.ofChange fnExactIsNormalWrong)

/-- 'laws.FnExactJoinOverPlace': WHATEVER THE INPUT: true; the input reads as it did. -/
def fnExactJoinOverPlaceSpec : ChangeSpec := { name := "fnExactJoinOverPlace", fn := fun _ => fun
  | [d1, d2, d3, d4] => { results := [.lit (.bool true)], args := [d1, d2, d3, d4] }
  | _ => none }
def fnExactJoinOverPlaceRow : OpenClaim := { program := "ytfgpenldeckoaaa", sum := "7ea5ee9a3cc0f64814541fb955dffcca8458f1bd7879051d78985fc442c47d49", func := "loop.example/g01411/laws.FnExactJoinOverPlace", spec := "fnExactJoinOverPlace", apart := false }
def FnExactJoinOverPlaceSaid : Prop := fnExactJoinOverPlaceRow.holds Try.pinned (OpenSpec.ofChange fnExactJoinOverPlaceSpec)

/-- ITS FALSE NEIGHBOUR: 'it returns false'. Refute it at one input. -/
def fnExactJoinOverPlaceWrong : ChangeSpec := { name := "fnExactJoinOverPlace", fn := fun _ => fun
  | [d1, d2, d3, d4] => { results := [.lit (.bool false)], args := [d1, d2, d3, d4] }
  | _ => none }
def FnExactJoinOverPlaceWrongFalsely : Prop := fnExactJoinOverPlaceRow.holds Try.pinned (OpenSpec.ofChange fnExactJoinOverPlaceWrong)

/-- 'laws.FnExactIsChain': WHATEVER THE INPUT: true; the input reads as it did. -/
def fnExactIsChainSpec : ChangeSpec := { name := "fnExactIsChain", fn := fun _ => fun
  | [d1, d2] => { results := [.lit (.bool true)], args := [d1, d2] }
  | _ => none }
def fnExactIsChainRow : OpenClaim := { program := "ytfgpenldeckoaaa", sum := "7ea5ee9a3cc0f64814541fb955dffcca8458f1bd7879051d78985fc442c47d49", func := "loop.example/g01411/laws.FnExactIsChain", spec := "fnExactIsChain", apart := false }
def FnExactIsChainSaid : Prop := fnExactIsChainRow.holds Try.pinned (OpenSpec.ofChange fnExactIsChainSpec)

/-- ITS FALSE NEIGHBOUR: 'it returns false'. Refute it at one input. -/
def fnExactIsChainWrong : ChangeSpec := { name := "fnExactIsChain", fn := fun _ => fun
  | [d1, d2] => { results := [.lit (.bool false)], args := [d1, d2] }
  | _ => none }
def FnExactIsChainWrongFalsely : Prop := fnExactIsChainRow.holds Try.pinned (OpenSpec.ofChange fnExactIsChainWrong)

/-- 'laws.FnExactAreLed': WHATEVER THE INPUT: true; the input reads as it did. -/
def fnExactAreLedSpec : ChangeSpec := { name := "fnExactAreLed", fn := fun _ => fun
  | [d1, d2] => { results := [.lit (.bool true)], args := [d1, d2] }
  | _ => none }
def fnExactAreLedRow : OpenClaim := { program := "ytfgpenldeckoaaa", sum := "7ea5ee9a3cc0f64814541fb955dffcca8458f1bd7879051d78985fc442c47d49", func := "loop.example/g01411/laws.FnExactAreLed", spec := "fnExactAreLed", unfollowed := true, recurses := true, leaving := true, apart := false }
def FnExactAreLedSaid : Prop := fnExactAreLedRow.holds Try.pinned (OpenSpec.ofChange fnExactAreLedSpec)

/-- ITS FALSE NEIGHBOUR: 'it returns false'. Refute it at one input. -/
def fnExactAreLedWrong : ChangeSpec := { name := "fnExactAreLed", fn := fun _ => fun
  | [d1, d2] => { results := [.lit (.bool false)], args := [d1, d2] }
  | _ => none }
def FnExactAreLedWrongFalsely : Prop := fnExactAreLedRow.holds Try.pinned (OpenSpec.ofChange fnExactAreLedWrong)

/-- 'laws.FnExactWordsReached': WHATEVER THE INPUT: true; the input reads as it did. -/
def fnExactWordsReachedSpec : ChangeSpec := { name := "fnExactWordsReached", fn := fun _ => fun
  | [d1, d2, d3, d4] => { results := [.lit (.bool true)], args := [d1, d2, d3, d4] }
  | _ => none }
def fnExactWordsReachedRow : OpenClaim := { program := "ytfgpenldeckoaaa", sum := "7ea5ee9a3cc0f64814541fb955dffcca8458f1bd7879051d78985fc442c47d49", func := "loop.example/g01411/laws.FnExactWordsReached", spec := "fnExactWordsReached", unfollowed := true, recurses := true, leaving := true, apart := false }
def FnExactWordsReachedSaid : Prop := fnExactWordsReachedRow.holds Try.pinned (OpenSpec.ofChange fnExactWordsReachedSpec)

/-- ITS FALSE NEIGHBOUR: 'it returns false'. Refute it at one input. -/
def fnExactWordsReachedWrong : ChangeSpec := { name := "fnExactWordsReached", fn := fun _ => fun
  | [d1, d2, d3, d4] => { results := [.lit (.bool false)], args := [d1, d2, d3, d4] }
  | _ => none }
def FnExactWordsReachedWrongFalsely : Prop := fnExactWordsReachedRow.holds Try.pinned (OpenSpec.ofChange fnExactWordsReachedWrong)

/-- 'laws.FnExactCodeByColumns': WHATEVER THE INPUT: true; the input reads as it did. -/
def fnExactCodeByColumnsSpec : ChangeSpec := { name := "fnExactCodeByColumns", fn := fun _ => fun
  | [d1, d2, d3] => { results := [.lit (.bool true)], args := [d1, d2, d3] }
  | _ => none }
def fnExactCodeByColumnsRow : OpenClaim := { program := "ytfgpenldeckoaaa", sum := "7ea5ee9a3cc0f64814541fb955dffcca8458f1bd7879051d78985fc442c47d49", func := "loop.example/g01411/laws.FnExactCodeByColumns", spec := "fnExactCodeByColumns", unfollowed := true, recurses := true, leaving := true, apart := false }
def FnExactCodeByColumnsSaid : Prop := fnExactCodeByColumnsRow.holds Try.pinned (OpenSpec.ofChange fnExactCodeByColumnsSpec)

/-- ITS FALSE NEIGHBOUR: 'it returns false'. Refute it at one input. -/
def fnExactCodeByColumnsWrong : ChangeSpec := { name := "fnExactCodeByColumns", fn := fun _ => fun
  | [d1, d2, d3] => { results := [.lit (.bool false)], args := [d1, d2, d3] }
  | _ => none }
def FnExactCodeByColumnsWrongFalsely : Prop := fnExactCodeByColumnsRow.holds Try.pinned (OpenSpec.ofChange fnExactCodeByColumnsWrong)

/- THE SECOND FORM. 'bulk': how many values and letters a reading holds, each counted each time it is reached (what is shared counts as often as it is met; a slice's spare places count too). A statement '..UptoSaid' is the law's where the arguments, and the package variables that the reading takes, are together of bulk at most 1048576: NARROWER than '..Said'. Prove '..Said' where nothing that the law and all that it calls make is longer than what came in: it says more and counts as full. Else prove '..UptoSaid'. A law counts once. -/
mutual
def uptoBulk {H : Type} : DataW H → Nat
  | .lit (.string bytes) => bytes.length + 1
  | .lit _ => 1
  | .nil => 1
  | .ptr d => uptoBulk d + 1
  | .slice elems spare => uptoBulkAll elems + uptoBulkAll spare + 1
  | .agg parts => uptoBulkAll parts + 1
  | .iface _ d => uptoBulk d + 1
  | .map entries => uptoBulkEntries entries + 1
  | .held _ => 1
def uptoBulkAll {H : Type} : List (DataW H) → Nat
  | [] => 0
  | d :: r => uptoBulk d + uptoBulkAll r
def uptoBulkEntries {H : Type} : List (Lit × DataW H) → Nat
  | [] => 0
  | x :: r => uptoBulkEntry x + uptoBulkEntries r
def uptoBulkEntry {H : Type} : Lit × DataW H → Nat
  | (.string bytes, d) => bytes.length + uptoBulk d + 1
  | (_, d) => uptoBulk d + 1
 end
def uptoSmall : (H : Type) → List (DataW H) → Bool := fun _ ds => decide (uptoBulkAll ds ≤ 1048576)
def OpenSpec.upto (s : _root_.Go.ChangeSpec) : _root_.Go.OpenSpec := { _root_.Go.OpenSpec.ofChange s with cond := some uptoSmall }

/-- 'laws.FnExactReachesOf', WHERE WHAT IT READS IS OF BULK AT MOST 1048576: true; the input reads as it did. -/
def fnExactReachesOfUptoRow : OpenClaim := { program := "ytfgpenldeckoaaa", sum := "7ea5ee9a3cc0f64814541fb955dffcca8458f1bd7879051d78985fc442c47d49", func := "loop.example/g01411/laws.FnExactReachesOf", spec := "fnExactReachesOf", apart := false, narrowed := true }
def FnExactReachesOfUptoSaid : Prop := fnExactReachesOfUptoRow.holds Try.pinned (OpenSpec.upto fnExactReachesOfSpec)

/-- 'laws.FnExactNormAt', WHERE WHAT IT READS IS OF BULK AT MOST 1048576: true; the input reads as it did. -/
def fnExactNormAtUptoRow : OpenClaim := { program := "ytfgpenldeckoaaa", sum := "7ea5ee9a3cc0f64814541fb955dffcca8458f1bd7879051d78985fc442c47d49", func := "loop.example/g01411/laws.FnExactNormAt", spec := "fnExactNormAt", apart := false, narrowed := true }
def FnExactNormAtUptoSaid : Prop := fnExactNormAtUptoRow.holds Try.pinned (OpenSpec.upto fnExactNormAtSpec)

/-- 'laws.FnExactFitPlaces', WHERE WHAT IT READS IS OF BULK AT MOST 1048576: true; the input reads as it did. -/
def fnExactFitPlacesUptoRow : OpenClaim := { program := "ytfgpenldeckoaaa", sum := "7ea5ee9a3cc0f64814541fb955dffcca8458f1bd7879051d78985fc442c47d49", func := "loop.example/g01411/laws.FnExactFitPlaces", spec := "fnExactFitPlaces", inPlace := ["(*sync.WaitGroup).Add", "internal/race.ReleaseMerge", "internal/race.Disable", "internal/race.Enable", "internal/synctest.IsInBubble", "internal/synctest.Associate[sync.WaitGroup]", "sync.fatal", "sync/atomic.OrUint64", "sync/atomic.AddUint64", "internal/race.Read", "sync/atomic.LoadUint64", "sync/atomic.StoreUint64", "internal/synctest.Disassociate[sync.WaitGroup]", "sync.runtime_Semrelease", "(*sync.WaitGroup).Done", "(*sync.WaitGroup).Wait", "internal/race.Acquire", "internal/synctest.IsAssociated[sync.WaitGroup]", "sync/atomic.CompareAndSwapUint64", "internal/race.Write", "sync.runtime_SemacquireWaitGroup"], unfollowed := true, recurses := true, leaving := true, apart := false, narrowed := true }
def FnExactFitPlacesUptoSaid : Prop := fnExactFitPlacesUptoRow.holds Try.pinned (OpenSpec.upto fnExactFitPlacesSpec)

/-- 'laws.FnExactIsNormal', WHERE WHAT IT READS IS OF BULK AT MOST 1048576: true; the input reads as it did. -/
def fnExactIsNormalUptoRow : OpenClaim := { program := "ytfgpenldeckoaaa", sum := "7ea5ee9a3cc0f64814541fb955dffcca8458f1bd7879051d78985fc442c47d49", func := "loop.example/g01411/laws.FnExactIsNormal", spec := "fnExactIsNormal", inPlace := ["(*sync.WaitGroup).Add", "internal/race.ReleaseMerge", "internal/race.Disable", "internal/race.Enable", "internal/synctest.IsInBubble", "internal/synctest.Associate[sync.WaitGroup]", "sync.fatal", "sync/atomic.OrUint64", "sync/atomic.AddUint64", "internal/race.Read", "sync/atomic.LoadUint64", "sync/atomic.StoreUint64", "internal/synctest.Disassociate[sync.WaitGroup]", "sync.runtime_Semrelease", "(*sync.WaitGroup).Done", "(*sync.WaitGroup).Wait", "internal/race.Acquire", "internal/synctest.IsAssociated[sync.WaitGroup]", "sync/atomic.CompareAndSwapUint64", "internal/race.Write", "sync.runtime_SemacquireWaitGroup"], unfollowed := true, recurses := true, leaving := true, apart := false, narrowed := true }
def FnExactIsNormalUptoSaid : Prop := fnExactIsNormalUptoRow.holds Try.pinned (OpenSpec.upto fnExactIsNormalSpec)

/-- 'laws.FnExactJoinOverPlace', WHERE WHAT IT READS IS OF BULK AT MOST 1048576: true; the input reads as it did. -/
def fnExactJoinOverPlaceUptoRow : OpenClaim := { program := "ytfgpenldeckoaaa", sum := "7ea5ee9a3cc0f64814541fb955dffcca8458f1bd7879051d78985fc442c47d49", func := "loop.example/g01411/laws.FnExactJoinOverPlace", spec := "fnExactJoinOverPlace", apart := false, narrowed := true }
def FnExactJoinOverPlaceUptoSaid : Prop := fnExactJoinOverPlaceUptoRow.holds Try.pinned (OpenSpec.upto fnExactJoinOverPlaceSpec)

/-- 'laws.FnExactIsChain', WHERE WHAT IT READS IS OF BULK AT MOST 1048576: true; the input reads as it did. -/
def fnExactIsChainUptoRow : OpenClaim := { program := "ytfgpenldeckoaaa", sum := "7ea5ee9a3cc0f64814541fb955dffcca8458f1bd7879051d78985fc442c47d49", func := "loop.example/g01411/laws.FnExactIsChain", spec := "fnExactIsChain", apart := false, narrowed := true }
def FnExactIsChainUptoSaid : Prop := fnExactIsChainUptoRow.holds Try.pinned (OpenSpec.upto fnExactIsChainSpec)

/-- 'laws.FnExactAreLed', WHERE WHAT IT READS IS OF BULK AT MOST 1048576: true; the input reads as it did. -/
def fnExactAreLedUptoRow : OpenClaim := { program := "ytfgpenldeckoaaa", sum := "7ea5ee9a3cc0f64814541fb955dffcca8458f1bd7879051d78985fc442c47d49", func := "loop.example/g01411/laws.FnExactAreLed", spec := "fnExactAreLed", unfollowed := true, recurses := true, leaving := true, apart := false, narrowed := true }
def FnExactAreLedUptoSaid : Prop := fnExactAreLedUptoRow.holds Try.pinned (OpenSpec.upto fnExactAreLedSpec)

/-- 'laws.FnExactWordsReached', WHERE WHAT IT READS IS OF BULK AT MOST 1048576: true; the input reads as it did. -/
def fnExactWordsReachedUptoRow : OpenClaim := { program := "ytfgpenldeckoaaa", sum := "7ea5ee9a3cc0f64814541fb955dffcca8458f1bd7879051d78985fc442c47d49", func := "loop.example/g01411/laws.FnExactWordsReached", spec := "fnExactWordsReached", unfollowed := true, recurses := true, leaving := true, apart := false, narrowed := true }
def FnExactWordsReachedUptoSaid : Prop := fnExactWordsReachedUptoRow.holds Try.pinned (OpenSpec.upto fnExactWordsReachedSpec)

/-- 'laws.FnExactCodeByColumns', WHERE WHAT IT READS IS OF BULK AT MOST 1048576: true; the input reads as it did. -/
def fnExactCodeByColumnsUptoRow : OpenClaim := { program := "ytfgpenldeckoaaa", sum := "7ea5ee9a3cc0f64814541fb955dffcca8458f1bd7879051d78985fc442c47d49", func := "loop.example/g01411/laws.FnExactCodeByColumns", spec := "fnExactCodeByColumns", unfollowed := true, recurses := true, leaving := true, apart := false, narrowed := true }
def FnExactCodeByColumnsUptoSaid : Prop := fnExactCodeByColumnsUptoRow.holds Try.pinned (OpenSpec.upto fnExactCodeByColumnsSpec)

end Rows
end Go.Proofs.Ytfgpenldeckoaaa
