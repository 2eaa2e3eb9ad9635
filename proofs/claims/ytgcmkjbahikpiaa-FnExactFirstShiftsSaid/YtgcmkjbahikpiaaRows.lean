/-
  No cell of these rows narrows 'for every input' (looked for: loops, veiled, ifaces, maps, wideKeys, modest, calm, conditions, laid).
  DERIVED. THE GIVEN ROWS OF THIS SEAT. 11 by the template 'for every input the law returns true; each argument reads behind the call as it read before'; 0 by the template 'total and deterministic' (their statements: YtgcmkjbahikpiaaTotals.lean).
  GIVEN WITH THE SEED: the statements are not yours to turn. If you find one false, say at which input.
  Laid BY PROGRAM, IN A SANDBOX (cutbox-rows.mjs): the forced cells as the released guide's own fill.sh prints them over the translation 4ac1ba6ae7b00604… (all of the seat's roots in one cut). By AI agents, Wed Nov 11 2026. No macro, syntax, notation, axiom, sorry.
-/
import Derived.Test.YtgcmkjbahikpiaaChecked
import GoSem.Claim
import GoSem.ClaimJoined
import GoSem.ClaimMapViews
import Derived.JoinedTies
import Derived.KernelRfl
namespace Go.Proofs.Ytgcmkjbahikpiaa
/- THE CELL 'sum', in the pinned program and in every row, IS THE sha256 OF THE DUMP (.gsa) THAT YtgcmkjbahikpiaaProg.lean LOADS. Nothing in Lean hashes anything: it is a label: what it is worth is what the hold of that sum in a sandbox is worth. -/
noncomputable def Try.pinned : Pinned := { name := "ytgcmkjbahikpiaa", sum := "4ac1ba6ae7b006049dc33cab35c983e3dc62fc5329c6f3f238b3f3fc2e53c74e", checked := Try.checked }
namespace Rows
def none {H : Type} : Left H := { results := [], args := [] }

/-- 'laws.FnExactIsPerfect': WHATEVER THE INPUT: true; the input reads as it did. -/
def fnExactIsPerfectSpec : ChangeSpec := { name := "fnExactIsPerfect", fn := fun _ => fun
  | [d1, d2, d3] => { results := [.lit (.bool true)], args := [d1, d2, d3] }
  | _ => none }
def fnExactIsPerfectRow : OpenClaim := { program := "ytgcmkjbahikpiaa", sum := "4ac1ba6ae7b006049dc33cab35c983e3dc62fc5329c6f3f238b3f3fc2e53c74e", func := "loop.example/g01411/laws.FnExactIsPerfect", spec := "fnExactIsPerfect", unfollowed := true, recurses := true, apart := false }
def FnExactIsPerfectSaid : Prop := fnExactIsPerfectRow.holds Try.pinned (OpenSpec.ofChange fnExactIsPerfectSpec)

/-- ITS FALSE NEIGHBOUR: 'it returns false'. Refute it at one input. -/
def fnExactIsPerfectWrong : ChangeSpec := { name := "fnExactIsPerfect", fn := fun _ => fun
  | [d1, d2, d3] => { results := [.lit (.bool false)], args := [d1, d2, d3] }
  | _ => none }
def FnExactIsPerfectWrongFalsely : Prop := fnExactIsPerfectRow.holds Try.pinned (OpenSpec.ofChange fnExactIsPerfectWrong)

/-- 'laws.FnExactPerfectRadius': WHATEVER THE INPUT: true; the input reads as it did. -/
def fnExactPerfectRadiusSpec : ChangeSpec := { name := "fnExactPerfectRadius", fn := fun _ => fun
  | [d1, d2] => { results := [.lit (.bool true)], args := [d1, d2] }
  | _ => none }
def fnExactPerfectRadiusRow : OpenClaim := { program := "ytgcmkjbahikpiaa", sum := "4ac1ba6ae7b006049dc33cab35c983e3dc62fc5329c6f3f238b3f3fc2e53c74e", func := "loop.example/g01411/laws.FnExactPerfectRadius", spec := "fnExactPerfectRadius", unfollowed := true, recurses := true, apart := false }
def FnExactPerfectRadiusSaid : Prop := fnExactPerfectRadiusRow.holds Try.pinned (OpenSpec.ofChange fnExactPerfectRadiusSpec)

/-- ITS FALSE NEIGHBOUR: 'it returns false'. Refute it at one input. -/
def fnExactPerfectRadiusWrong : ChangeSpec := { name := "fnExactPerfectRadius", fn := fun _ => fun
  | [d1, d2] => { results := [.lit (.bool false)], args := [d1, d2] }
  | _ => none }
def FnExactPerfectRadiusWrongFalsely : Prop := fnExactPerfectRadiusRow.holds Try.pinned (OpenSpec.ofChange fnExactPerfectRadiusWrong)

/-- 'laws.FnExactColumnsFor': WHATEVER THE INPUT: true; the input reads as it did. -/
def fnExactColumnsForSpec : ChangeSpec := { name := "fnExactColumnsFor", fn := fun _ => fun
  | [d1, d2] => { results := [.lit (.bool true)], args := [d1, d2] }
  | _ => none }
def fnExactColumnsForRow : OpenClaim := { program := "ytgcmkjbahikpiaa", sum := "4ac1ba6ae7b006049dc33cab35c983e3dc62fc5329c6f3f238b3f3fc2e53c74e", func := "loop.example/g01411/laws.FnExactColumnsFor", spec := "fnExactColumnsFor", apart := false }
def FnExactColumnsForSaid : Prop := fnExactColumnsForRow.holds Try.pinned (OpenSpec.ofChange fnExactColumnsForSpec)

/-- ITS FALSE NEIGHBOUR: 'it returns false'. Refute it at one input. -/
def fnExactColumnsForWrong : ChangeSpec := { name := "fnExactColumnsFor", fn := fun _ => fun
  | [d1, d2] => { results := [.lit (.bool false)], args := [d1, d2] }
  | _ => none }
def FnExactColumnsForWrongFalsely : Prop := fnExactColumnsForRow.holds Try.pinned (OpenSpec.ofChange fnExactColumnsForWrong)

/-- 'laws.FnExactHammingCode': WHATEVER THE INPUT: true; the input reads as it did. -/
def fnExactHammingCodeSpec : ChangeSpec := { name := "fnExactHammingCode", fn := fun _ => fun
  | [d1, d2] => { results := [.lit (.bool true)], args := [d1, d2] }
  | _ => none }
def fnExactHammingCodeRow : OpenClaim := { program := "ytgcmkjbahikpiaa", sum := "4ac1ba6ae7b006049dc33cab35c983e3dc62fc5329c6f3f238b3f3fc2e53c74e", func := "loop.example/g01411/laws.FnExactHammingCode", spec := "fnExactHammingCode", apart := false }
def FnExactHammingCodeSaid : Prop := fnExactHammingCodeRow.holds Try.pinned (OpenSpec.ofChange fnExactHammingCodeSpec)

/-- ITS FALSE NEIGHBOUR: 'it returns false'. Refute it at one input. -/
def fnExactHammingCodeWrong : ChangeSpec := { name := "fnExactHammingCode", fn := fun _ => fun
  | [d1, d2] => { results := [.lit (.bool false)], args := [d1, d2] }
  | _ => none }
def FnExactHammingCodeWrongFalsely : Prop := fnExactHammingCodeRow.holds Try.pinned (OpenSpec.ofChange fnExactHammingCodeWrong)

/-- 'laws.FnExactDecodeWord': WHATEVER THE INPUT: true; the input reads as it did. -/
def fnExactDecodeWordSpec : ChangeSpec := { name := "fnExactDecodeWord", fn := fun _ => fun
  | [d1, d2, d3, d4] => { results := [.lit (.bool true)], args := [d1, d2, d3, d4] }
  | _ => none }
def fnExactDecodeWordRow : OpenClaim := { program := "ytgcmkjbahikpiaa", sum := "4ac1ba6ae7b006049dc33cab35c983e3dc62fc5329c6f3f238b3f3fc2e53c74e", func := "loop.example/g01411/laws.FnExactDecodeWord", spec := "fnExactDecodeWord", unfollowed := true, recurses := true, apart := false }
def FnExactDecodeWordSaid : Prop := fnExactDecodeWordRow.holds Try.pinned (OpenSpec.ofChange fnExactDecodeWordSpec)

/-- ITS FALSE NEIGHBOUR: 'it returns false'. Refute it at one input. -/
def fnExactDecodeWordWrong : ChangeSpec := { name := "fnExactDecodeWord", fn := fun _ => fun
  | [d1, d2, d3, d4] => { results := [.lit (.bool false)], args := [d1, d2, d3, d4] }
  | _ => none }
def FnExactDecodeWordWrongFalsely : Prop := fnExactDecodeWordRow.holds Try.pinned (OpenSpec.ofChange fnExactDecodeWordWrong)

/-- 'laws.FnExactCountPerfect': WHATEVER THE INPUT: true; the input reads as it did. -/
def fnExactCountPerfectSpec : ChangeSpec := { name := "fnExactCountPerfect", fn := fun _ => fun
  | [d1, d2] => { results := [.lit (.bool true)], args := [d1, d2] }
  | _ => none }
def fnExactCountPerfectRow : OpenClaim := { program := "ytgcmkjbahikpiaa", sum := "4ac1ba6ae7b006049dc33cab35c983e3dc62fc5329c6f3f238b3f3fc2e53c74e", func := "loop.example/g01411/laws.FnExactCountPerfect", spec := "fnExactCountPerfect", unfollowed := true, recurses := true, apart := false }
def FnExactCountPerfectSaid : Prop := fnExactCountPerfectRow.holds Try.pinned (OpenSpec.ofChange fnExactCountPerfectSpec)

/-- ITS FALSE NEIGHBOUR: 'it returns false'. Refute it at one input. -/
def fnExactCountPerfectWrong : ChangeSpec := { name := "fnExactCountPerfect", fn := fun _ => fun
  | [d1, d2] => { results := [.lit (.bool false)], args := [d1, d2] }
  | _ => none }
def FnExactCountPerfectWrongFalsely : Prop := fnExactCountPerfectRow.holds Try.pinned (OpenSpec.ofChange fnExactCountPerfectWrong)

/-- 'laws.FnExactFirstPerfect': WHATEVER THE INPUT: true; the input reads as it did. -/
def fnExactFirstPerfectSpec : ChangeSpec := { name := "fnExactFirstPerfect", fn := fun _ => fun
  | [d1, d2] => { results := [.lit (.bool true)], args := [d1, d2] }
  | _ => none }
def fnExactFirstPerfectRow : OpenClaim := { program := "ytgcmkjbahikpiaa", sum := "4ac1ba6ae7b006049dc33cab35c983e3dc62fc5329c6f3f238b3f3fc2e53c74e", func := "loop.example/g01411/laws.FnExactFirstPerfect", spec := "fnExactFirstPerfect", unfollowed := true, recurses := true, apart := false }
def FnExactFirstPerfectSaid : Prop := fnExactFirstPerfectRow.holds Try.pinned (OpenSpec.ofChange fnExactFirstPerfectSpec)

/-- ITS FALSE NEIGHBOUR: 'it returns false'. Refute it at one input. -/
def fnExactFirstPerfectWrong : ChangeSpec := { name := "fnExactFirstPerfect", fn := fun _ => fun
  | [d1, d2] => { results := [.lit (.bool false)], args := [d1, d2] }
  | _ => none }
def FnExactFirstPerfectWrongFalsely : Prop := fnExactFirstPerfectRow.holds Try.pinned (OpenSpec.ofChange fnExactFirstPerfectWrong)

/-- 'laws.FnExactFirstShifts': WHATEVER THE INPUT: true; the input reads as it did. -/
def fnExactFirstShiftsSpec : ChangeSpec := { name := "fnExactFirstShifts", fn := fun _ => fun
  | [d1, d2] => { results := [.lit (.bool true)], args := [d1, d2] }
  | _ => none }
def fnExactFirstShiftsRow : OpenClaim := { program := "ytgcmkjbahikpiaa", sum := "4ac1ba6ae7b006049dc33cab35c983e3dc62fc5329c6f3f238b3f3fc2e53c74e", func := "loop.example/g01411/laws.FnExactFirstShifts", spec := "fnExactFirstShifts", recurses := true, apart := false }
def FnExactFirstShiftsSaid : Prop := fnExactFirstShiftsRow.holds Try.pinned (OpenSpec.ofChange fnExactFirstShiftsSpec)

/-- ITS FALSE NEIGHBOUR: 'it returns false'. Refute it at one input. -/
def fnExactFirstShiftsWrong : ChangeSpec := { name := "fnExactFirstShifts", fn := fun _ => fun
  | [d1, d2] => { results := [.lit (.bool false)], args := [d1, d2] }
  | _ => none }
def FnExactFirstShiftsWrongFalsely : Prop := fnExactFirstShiftsRow.holds Try.pinned (OpenSpec.ofChange fnExactFirstShiftsWrong)

/-- 'laws.FnExactDoPart': WHATEVER THE INPUT: true; the input reads as it did. -/
def fnExactDoPartSpec : ChangeSpec := { name := "fnExactDoPart", fn := fun _ => fun
  | [d1, d2, d3] => { results := [.lit (.bool true)], args := [d1, d2, d3] }
  | _ => none }
def fnExactDoPartRow : OpenClaim := { program := "ytgcmkjbahikpiaa", sum := "4ac1ba6ae7b006049dc33cab35c983e3dc62fc5329c6f3f238b3f3fc2e53c74e", func := "loop.example/g01411/laws.FnExactDoPart", spec := "fnExactDoPart", unfollowed := true, recurses := true, apart := false }
def FnExactDoPartSaid : Prop := fnExactDoPartRow.holds Try.pinned (OpenSpec.ofChange fnExactDoPartSpec)

/-- ITS FALSE NEIGHBOUR: 'it returns false'. Refute it at one input. -/
def fnExactDoPartWrong : ChangeSpec := { name := "fnExactDoPart", fn := fun _ => fun
  | [d1, d2, d3] => { results := [.lit (.bool false)], args := [d1, d2, d3] }
  | _ => none }
def FnExactDoPartWrongFalsely : Prop := fnExactDoPartRow.holds Try.pinned (OpenSpec.ofChange fnExactDoPartWrong)

/-- 'laws.FnExactBundleOf': WHATEVER THE INPUT: true; the input reads as it did. -/
def fnExactBundleOfSpec : ChangeSpec := { name := "fnExactBundleOf", fn := fun _ => fun
  | [d1, d2, d3, d4] => { results := [.lit (.bool true)], args := [d1, d2, d3, d4] }
  | _ => none }
def fnExactBundleOfRow : OpenClaim := { program := "ytgcmkjbahikpiaa", sum := "4ac1ba6ae7b006049dc33cab35c983e3dc62fc5329c6f3f238b3f3fc2e53c74e", func := "loop.example/g01411/laws.FnExactBundleOf", spec := "fnExactBundleOf", unfollowed := true, recurses := true, apart := false }
def FnExactBundleOfSaid : Prop := fnExactBundleOfRow.holds Try.pinned (OpenSpec.ofChange fnExactBundleOfSpec)

/-- ITS FALSE NEIGHBOUR: 'it returns false'. Refute it at one input. -/
def fnExactBundleOfWrong : ChangeSpec := { name := "fnExactBundleOf", fn := fun _ => fun
  | [d1, d2, d3, d4] => { results := [.lit (.bool false)], args := [d1, d2, d3, d4] }
  | _ => none }
def FnExactBundleOfWrongFalsely : Prop := fnExactBundleOfRow.holds Try.pinned (OpenSpec.ofChange fnExactBundleOfWrong)

/-- 'laws.FnExactSwitchBundle': WHATEVER THE INPUT: true; the input reads as it did. -/
def fnExactSwitchBundleSpec : ChangeSpec := { name := "fnExactSwitchBundle", fn := fun _ => fun
  | [d1, d2, d3, d4] => { results := [.lit (.bool true)], args := [d1, d2, d3, d4] }
  | _ => none }
def fnExactSwitchBundleRow : OpenClaim := { program := "ytgcmkjbahikpiaa", sum := "4ac1ba6ae7b006049dc33cab35c983e3dc62fc5329c6f3f238b3f3fc2e53c74e", func := "loop.example/g01411/laws.FnExactSwitchBundle", spec := "fnExactSwitchBundle", unfollowed := true, recurses := true, apart := false }
def FnExactSwitchBundleSaid : Prop := fnExactSwitchBundleRow.holds Try.pinned (OpenSpec.ofChange fnExactSwitchBundleSpec)

/-- ITS FALSE NEIGHBOUR: 'it returns false'. Refute it at one input. -/
def fnExactSwitchBundleWrong : ChangeSpec := { name := "fnExactSwitchBundle", fn := fun _ => fun
  | [d1, d2, d3, d4] => { results := [.lit (.bool false)], args := [d1, d2, d3, d4] }
  | _ => none }
def FnExactSwitchBundleWrongFalsely : Prop := fnExactSwitchBundleRow.holds Try.pinned (OpenSpec.ofChange fnExactSwitchBundleWrong)

/- THE SECOND FORM. 'bulk': how many values and letters a reading holds, each counted each time it is reached (what is shared counts as often as it is met; a slice's spare places count too). A statement '..UptoSaid' is the law's where the arguments, and the package variables that the reading takes, are together of bulk at most 1048576: NARROWER than '..Said'. Prove '..Said' where nothing that the law and all that it calls make is longer than what came in: it says more and counts as full. Else prove '..UptoSaid'. A law counts once. -/
mutual
def uptoBulk {H : Type} : DataW H → Nat
  | .lit (.string bytes) => bytes.length + 1
  | .lit _ => 1
  | .nil => 1
  | .ptr d => uptoBulk d + 1
  | .slice elems spare => uptoBulkAll elems + uptoBulkAll spare + 1
  | .agg parts => uptoBulkAll parts + 1
  | .iface _ d => uptoBulk d + 1
  | .map entries => uptoBulkEntries entries + 1
  | .held _ => 1
def uptoBulkAll {H : Type} : List (DataW H) → Nat
  | [] => 0
  | d :: r => uptoBulk d + uptoBulkAll r
def uptoBulkEntries {H : Type} : List (Lit × DataW H) → Nat
  | [] => 0
  | x :: r => uptoBulkEntry x + uptoBulkEntries r
def uptoBulkEntry {H : Type} : Lit × DataW H → Nat
  | (.string bytes, d) => bytes.length + uptoBulk d + 1
  | (_, d) => uptoBulk d + 1
 end
def uptoSmall : (H : Type) → List (DataW H) → Bool := fun _ ds => decide (uptoBulkAll ds ≤ 1048576)
def OpenSpec.upto (s : _root_.Go.ChangeSpec) : _root_.Go.OpenSpec := { _root_.Go.OpenSpec.ofChange s with cond := some uptoSmall }

/-- 'laws.FnExactIsPerfect', WHERE WHAT IT READS IS OF BULK AT MOST 1048576: true; the input reads as it did. -/
def fnExactIsPerfectUptoRow : OpenClaim := { program := "ytgcmkjbahikpiaa", sum := "4ac1ba6ae7b006049dc33cab35c983e3dc62fc5329c6f3f238b3f3fc2e53c74e", func := "loop.example/g01411/laws.FnExactIsPerfect", spec := "fnExactIsPerfect", unfollowed := true, recurses := true, apart := false, narrowed := true }
def FnExactIsPerfectUptoSaid : Prop := fnExactIsPerfectUptoRow.holds Try.pinned (OpenSpec.upto fnExactIsPerfectSpec)

/-- 'laws.FnExactPerfectRadius', WHERE WHAT IT READS IS OF BULK AT MOST 1048576: true; the input reads as it did. -/
def fnExactPerfectRadiusUptoRow : OpenClaim := { program := "ytgcmkjbahikpiaa", sum := "4ac1ba6ae7b006049dc33cab35c983e3dc62fc5329c6f3f238b3f3fc2e53c74e", func := "loop.example/g01411/laws.FnExactPerfectRadius", spec := "fnExactPerfectRadius", unfollowed := true, recurses := true, apart := false, narrowed := true }
def FnExactPerfectRadiusUptoSaid : Prop := fnExactPerfectRadiusUptoRow.holds Try.pinned (OpenSpec.upto fnExactPerfectRadiusSpec)

/-- 'laws.FnExactColumnsFor', WHERE WHAT IT READS IS OF BULK AT MOST 1048576: true; the input reads as it did. -/
def fnExactColumnsForUptoRow : OpenClaim := { program := "ytgcmkjbahikpiaa", sum := "4ac1ba6ae7b006049dc33cab35c983e3dc62fc5329c6f3f238b3f3fc2e53c74e", func := "loop.example/g01411/laws.FnExactColumnsFor", spec := "fnExactColumnsFor", apart := false, narrowed := true }
def FnExactColumnsForUptoSaid : Prop := fnExactColumnsForUptoRow.holds Try.pinned (OpenSpec.upto fnExactColumnsForSpec)

/-- 'laws.FnExactHammingCode', WHERE WHAT IT READS IS OF BULK AT MOST 1048576: true; the input reads as it did. -/
def fnExactHammingCodeUptoRow : OpenClaim := { program := "ytgcmkjbahikpiaa", sum := "4ac1ba6ae7b006049dc33cab35c983e3dc62fc5329c6f3f238b3f3fc2e53c74e", func := "loop.example/g01411/laws.FnExactHammingCode", spec := "fnExactHammingCode", apart := false, narrowed := true }
def FnExactHammingCodeUptoSaid : Prop := fnExactHammingCodeUptoRow.holds Try.pinned (OpenSpec.upto fnExactHammingCodeSpec)

/-- 'laws.FnExactDecodeWord', WHERE WHAT IT READS IS OF BULK AT MOST 1048576: true; the input reads as it did. -/
def fnExactDecodeWordUptoRow : OpenClaim := { program := "ytgcmkjbahikpiaa", sum := "4ac1ba6ae7b006049dc33cab35c983e3dc62fc5329c6f3f238b3f3fc2e53c74e", func := "loop.example/g01411/laws.FnExactDecodeWord", spec := "fnExactDecodeWord", unfollowed := true, recurses := true, apart := false, narrowed := true }
def FnExactDecodeWordUptoSaid : Prop := fnExactDecodeWordUptoRow.holds Try.pinned (OpenSpec.upto fnExactDecodeWordSpec)

/-- 'laws.FnExactCountPerfect', WHERE WHAT IT READS IS OF BULK AT MOST 1048576: true; the input reads as it did. -/
def fnExactCountPerfectUptoRow : OpenClaim := { program := "ytgcmkjbahikpiaa", sum := "4ac1ba6ae7b006049dc33cab35c983e3dc62fc5329c6f3f238b3f3fc2e53c74e", func := "loop.example/g01411/laws.FnExactCountPerfect", spec := "fnExactCountPerfect", unfollowed := true, recurses := true, apart := false, narrowed := true }
def FnExactCountPerfectUptoSaid : Prop := fnExactCountPerfectUptoRow.holds Try.pinned (OpenSpec.upto fnExactCountPerfectSpec)

/-- 'laws.FnExactFirstPerfect', WHERE WHAT IT READS IS OF BULK AT MOST 1048576: true; the input reads as it did. -/
def fnExactFirstPerfectUptoRow : OpenClaim := { program := "ytgcmkjbahikpiaa", sum := "4ac1ba6ae7b006049dc33cab35c983e3dc62fc5329c6f3f238b3f3fc2e53c74e", func := "loop.example/g01411/laws.FnExactFirstPerfect", spec := "fnExactFirstPerfect", unfollowed := true, recurses := true, apart := false, narrowed := true }
def FnExactFirstPerfectUptoSaid : Prop := fnExactFirstPerfectUptoRow.holds Try.pinned (OpenSpec.upto fnExactFirstPerfectSpec)

/-- 'laws.FnExactFirstShifts', WHERE WHAT IT READS IS OF BULK AT MOST 1048576: true; the input reads as it did. -/
def fnExactFirstShiftsUptoRow : OpenClaim := { program := "ytgcmkjbahikpiaa", sum := "4ac1ba6ae7b006049dc33cab35c983e3dc62fc5329c6f3f238b3f3fc2e53c74e", func := "loop.example/g01411/laws.FnExactFirstShifts", spec := "fnExactFirstShifts", recurses := true, apart := false, narrowed := true }
def FnExactFirstShiftsUptoSaid : Prop := fnExactFirstShiftsUptoRow.holds Try.pinned (OpenSpec.upto fnExactFirstShiftsSpec)

/-- 'laws.FnExactDoPart', WHERE WHAT IT READS IS OF BULK AT MOST 1048576: true; the input reads as it did. -/
def fnExactDoPartUptoRow : OpenClaim := { program := "ytgcmkjbahikpiaa", sum := "4ac1ba6ae7b006049dc33cab35c983e3dc62fc5329c6f3f238b3f3fc2e53c74e", func := "loop.example/g01411/laws.FnExactDoPart", spec := "fnExactDoPart", unfollowed := true, recurses := true, apart := false, narrowed := true }
def FnExactDoPartUptoSaid : Prop := fnExactDoPartUptoRow.holds Try.pinned (OpenSpec.upto fnExactDoPartSpec)

/-- 'laws.FnExactBundleOf', WHERE WHAT IT READS IS OF BULK AT MOST 1048576: true; the input reads as it did. -/
def fnExactBundleOfUptoRow : OpenClaim := { program := "ytgcmkjbahikpiaa", sum := "4ac1ba6ae7b006049dc33cab35c983e3dc62fc5329c6f3f238b3f3fc2e53c74e", func := "loop.example/g01411/laws.FnExactBundleOf", spec := "fnExactBundleOf", unfollowed := true, recurses := true, apart := false, narrowed := true }
def FnExactBundleOfUptoSaid : Prop := fnExactBundleOfUptoRow.holds Try.pinned (OpenSpec.upto fnExactBundleOfSpec)

/-- 'laws.FnExactSwitchBundle', WHERE WHAT IT READS IS OF BULK AT MOST 1048576: true; the input reads as it did. -/
def fnExactSwitchBundleUptoRow : OpenClaim := { program := "ytgcmkjbahikpiaa", sum := "4ac1ba6ae7b006049dc33cab35c983e3dc62fc5329c6f3f238b3f3fc2e53c74e", func := "loop.example/g01411/laws.FnExactSwitchBundle", spec := "fnExactSwitchBundle", unfollowed := true, recurses := true, apart := false, narrowed := true }
def FnExactSwitchBundleUptoSaid : Prop := fnExactSwitchBundleUptoRow.holds Try.pinned (OpenSpec.upto fnExactSwitchBundleSpec)

end Rows
end Go.Proofs.Ytgcmkjbahikpiaa
