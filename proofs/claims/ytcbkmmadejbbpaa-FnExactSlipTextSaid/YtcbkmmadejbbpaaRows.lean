/-
  No cell of these rows narrows 'for every input' (looked for: loops, veiled, ifaces, maps, wideKeys, modest, calm, conditions, laid).
  DERIVED. THE GIVEN ROWS OF THIS SEAT. 9 by the template 'for every input the law returns true; each argument reads behind the call as it read before'; 0 by the template 'total and deterministic' (their statements: YtcbkmmadejbbpaaTotals.lean).
  GIVEN WITH THE SEED: the statements are not yours to turn. If you find one false, say at which input.
  Laid BY PROGRAM, IN A SANDBOX (cutbox-rows.mjs): the forced cells as the released guide's own fill.sh prints them over the translation 9b957ef5cb5c5fd3… (all of the seat's roots in one cut). By AI agents, Wed Nov 11 2026. No macro, syntax, notation, axiom, sorry.
-/
import Derived.Test.YtcbkmmadejbbpaaChecked
import GoSem.Claim
import GoSem.ClaimJoined
import GoSem.ClaimMapViews
import Derived.JoinedTies
import Derived.KernelRfl
namespace Go.Proofs.Ytcbkmmadejbbpaa
/- THE CELL 'sum', in the pinned program and in every row, IS THE sha256 OF THE DUMP (.gsa) THAT YtcbkmmadejbbpaaProg.lean LOADS. Nothing in Lean hashes anything: it is a label: what it is worth is what the hold of that sum in a sandbox is worth. -/
noncomputable def Try.pinned : Pinned := { name := "ytcbkmmadejbbpaa", sum := "9b957ef5cb5c5fd33e287fb8b2e7a6985c720bc0a1f114b5eb83d48b6b384724", checked := Try.checked }
namespace Rows
def none {H : Type} : Left H := { results := [], args := [] }

/-- 'laws.FnExactDirectSum': WHATEVER THE INPUT: true; the input reads as it did. -/
def fnExactDirectSumSpec : ChangeSpec := { name := "fnExactDirectSum", fn := fun _ => fun
  | [d1, d2, d3, d4] => { results := [.lit (.bool true)], args := [d1, d2, d3, d4] }
  | _ => none }
def fnExactDirectSumRow : OpenClaim := { program := "ytcbkmmadejbbpaa", sum := "9b957ef5cb5c5fd33e287fb8b2e7a6985c720bc0a1f114b5eb83d48b6b384724", func := "loop.example/g01411/laws.FnExactDirectSum", spec := "fnExactDirectSum", apart := false }
def FnExactDirectSumSaid : Prop := fnExactDirectSumRow.holds Try.pinned (OpenSpec.ofChange fnExactDirectSumSpec)

/-- ITS FALSE NEIGHBOUR: 'it returns false'. Refute it at one input. -/
def fnExactDirectSumWrong : ChangeSpec := { name := "fnExactDirectSum", fn := fun _ => fun
  | [d1, d2, d3, d4] => { results := [.lit (.bool false)], args := [d1, d2, d3, d4] }
  | _ => none }
def FnExactDirectSumWrongFalsely : Prop := fnExactDirectSumRow.holds Try.pinned (OpenSpec.ofChange fnExactDirectSumWrong)

/-- 'laws.FnExactIsPerfect': WHATEVER THE INPUT: true; the input reads as it did. -/
def fnExactIsPerfectSpec : ChangeSpec := { name := "fnExactIsPerfect", fn := fun _ => fun
  | [d1, d2, d3] => { results := [.lit (.bool true)], args := [d1, d2, d3] }
  | _ => none }
def fnExactIsPerfectRow : OpenClaim := { program := "ytcbkmmadejbbpaa", sum := "9b957ef5cb5c5fd33e287fb8b2e7a6985c720bc0a1f114b5eb83d48b6b384724", func := "loop.example/g01411/laws.FnExactIsPerfect", spec := "fnExactIsPerfect", unfollowed := true, recurses := true, apart := false }
def FnExactIsPerfectSaid : Prop := fnExactIsPerfectRow.holds Try.pinned (OpenSpec.ofChange fnExactIsPerfectSpec)

/-- ITS FALSE NEIGHBOUR: 'it returns false'. Refute it at one input. -/
def fnExactIsPerfectWrong : ChangeSpec := { name := "fnExactIsPerfect", fn := fun _ => fun
  | [d1, d2, d3] => { results := [.lit (.bool false)], args := [d1, d2, d3] }
  | _ => none }
def FnExactIsPerfectWrongFalsely : Prop := fnExactIsPerfectRow.holds Try.pinned (OpenSpec.ofChange fnExactIsPerfectWrong)

/-- 'laws.FnExactPerfectRadius': WHATEVER THE INPUT: true; the input reads as it did. -/
def fnExactPerfectRadiusSpec : ChangeSpec := { name := "fnExactPerfectRadius", fn := fun _ => fun
  | [d1, d2] => { results := [.lit (.bool true)], args := [d1, d2] }
  | _ => none }
def fnExactPerfectRadiusRow : OpenClaim := { program := "ytcbkmmadejbbpaa", sum := "9b957ef5cb5c5fd33e287fb8b2e7a6985c720bc0a1f114b5eb83d48b6b384724", func := "loop.example/g01411/laws.FnExactPerfectRadius", spec := "fnExactPerfectRadius", unfollowed := true, recurses := true, apart := false }
def FnExactPerfectRadiusSaid : Prop := fnExactPerfectRadiusRow.holds Try.pinned (OpenSpec.ofChange fnExactPerfectRadiusSpec)

/-- ITS FALSE NEIGHBOUR: 'it returns false'. Refute it at one input. -/
def fnExactPerfectRadiusWrong : ChangeSpec := { name := "fnExactPerfectRadius", fn := fun _ => fun
  | [d1, d2] => { results := [.lit (.bool false)], args := [d1, d2] }
  | _ => none }
def FnExactPerfectRadiusWrongFalsely : Prop := fnExactPerfectRadiusRow.holds Try.pinned (OpenSpec.ofChange fnExactPerfectRadiusWrong)

/-- 'laws.FnExactDecodeWord': WHATEVER THE INPUT: true; the input reads as it did. -/
def fnExactDecodeWordSpec : ChangeSpec := { name := "fnExactDecodeWord", fn := fun _ => fun
  | [d1, d2, d3, d4] => { results := [.lit (.bool true)], args := [d1, d2, d3, d4] }
  | _ => none }
def fnExactDecodeWordRow : OpenClaim := { program := "ytcbkmmadejbbpaa", sum := "9b957ef5cb5c5fd33e287fb8b2e7a6985c720bc0a1f114b5eb83d48b6b384724", func := "loop.example/g01411/laws.FnExactDecodeWord", spec := "fnExactDecodeWord", unfollowed := true, recurses := true, apart := false }
def FnExactDecodeWordSaid : Prop := fnExactDecodeWordRow.holds Try.pinned (OpenSpec.ofChange fnExactDecodeWordSpec)

/-- ITS FALSE NEIGHBOUR: 'it returns false'. Refute it at one input. -/
def fnExactDecodeWordWrong : ChangeSpec := { name := "fnExactDecodeWord", fn := fun _ => fun
  | [d1, d2, d3, d4] => { results := [.lit (.bool false)], args := [d1, d2, d3, d4] }
  | _ => none }
def FnExactDecodeWordWrongFalsely : Prop := fnExactDecodeWordRow.holds Try.pinned (OpenSpec.ofChange fnExactDecodeWordWrong)

/-- 'laws.FnExactDoPart': WHATEVER THE INPUT: true; the input reads as it did. -/
def fnExactDoPartSpec : ChangeSpec := { name := "fnExactDoPart", fn := fun _ => fun
  | [d1, d2, d3] => { results := [.lit (.bool true)], args := [d1, d2, d3] }
  | _ => none }
def fnExactDoPartRow : OpenClaim := { program := "ytcbkmmadejbbpaa", sum := "9b957ef5cb5c5fd33e287fb8b2e7a6985c720bc0a1f114b5eb83d48b6b384724", func := "loop.example/g01411/laws.FnExactDoPart", spec := "fnExactDoPart", unfollowed := true, recurses := true, apart := false }
def FnExactDoPartSaid : Prop := fnExactDoPartRow.holds Try.pinned (OpenSpec.ofChange fnExactDoPartSpec)

/-- ITS FALSE NEIGHBOUR: 'it returns false'. Refute it at one input. -/
def fnExactDoPartWrong : ChangeSpec := { name := "fnExactDoPart", fn := fun _ => fun
  | [d1, d2, d3] => { results := [.lit (.bool false)], args := [d1, d2, d3] }
  | _ => none }
def FnExactDoPartWrongFalsely : Prop := fnExactDoPartRow.holds Try.pinned (OpenSpec.ofChange fnExactDoPartWrong)

/-- 'laws.FnExactBundleOf': WHATEVER THE INPUT: true; the input reads as it did. -/
def fnExactBundleOfSpec : ChangeSpec := { name := "fnExactBundleOf", fn := fun _ => fun
  | [d1, d2, d3, d4] => { results := [.lit (.bool true)], args := [d1, d2, d3, d4] }
  | _ => none }
def fnExactBundleOfRow : OpenClaim := { program := "ytcbkmmadejbbpaa", sum := "9b957ef5cb5c5fd33e287fb8b2e7a6985c720bc0a1f114b5eb83d48b6b384724", func := "loop.example/g01411/laws.FnExactBundleOf", spec := "fnExactBundleOf", unfollowed := true, recurses := true, apart := false }
def FnExactBundleOfSaid : Prop := fnExactBundleOfRow.holds Try.pinned (OpenSpec.ofChange fnExactBundleOfSpec)

/-- ITS FALSE NEIGHBOUR: 'it returns false'. Refute it at one input. -/
def fnExactBundleOfWrong : ChangeSpec := { name := "fnExactBundleOf", fn := fun _ => fun
  | [d1, d2, d3, d4] => { results := [.lit (.bool false)], args := [d1, d2, d3, d4] }
  | _ => none }
def FnExactBundleOfWrongFalsely : Prop := fnExactBundleOfRow.holds Try.pinned (OpenSpec.ofChange fnExactBundleOfWrong)

/-- 'laws.FnExactSwitchBundle': WHATEVER THE INPUT: true; the input reads as it did. -/
def fnExactSwitchBundleSpec : ChangeSpec := { name := "fnExactSwitchBundle", fn := fun _ => fun
  | [d1, d2, d3, d4] => { results := [.lit (.bool true)], args := [d1, d2, d3, d4] }
  | _ => none }
def fnExactSwitchBundleRow : OpenClaim := { program := "ytcbkmmadejbbpaa", sum := "9b957ef5cb5c5fd33e287fb8b2e7a6985c720bc0a1f114b5eb83d48b6b384724", func := "loop.example/g01411/laws.FnExactSwitchBundle", spec := "fnExactSwitchBundle", unfollowed := true, recurses := true, apart := false }
def FnExactSwitchBundleSaid : Prop := fnExactSwitchBundleRow.holds Try.pinned (OpenSpec.ofChange fnExactSwitchBundleSpec)

/-- ITS FALSE NEIGHBOUR: 'it returns false'. Refute it at one input. -/
def fnExactSwitchBundleWrong : ChangeSpec := { name := "fnExactSwitchBundle", fn := fun _ => fun
  | [d1, d2, d3, d4] => { results := [.lit (.bool false)], args := [d1, d2, d3, d4] }
  | _ => none }
def FnExactSwitchBundleWrongFalsely : Prop := fnExactSwitchBundleRow.holds Try.pinned (OpenSpec.ofChange fnExactSwitchBundleWrong)

/-- 'laws.FnExactSplitSlip': WHATEVER THE INPUT: true; the input reads as it did. -/
def fnExactSplitSlipSpec : ChangeSpec := { name := "fnExactSplitSlip", fn := fun _ => fun
  | [d1, d2, d3] => { results := [.lit (.bool true)], args := [d1, d2, d3] }
  | _ => none }
def fnExactSplitSlipRow : OpenClaim := { program := "ytcbkmmadejbbpaa", sum := "9b957ef5cb5c5fd33e287fb8b2e7a6985c720bc0a1f114b5eb83d48b6b384724", func := "loop.example/g01411/laws.FnExactSplitSlip", spec := "fnExactSplitSlip", apart := false }
def FnExactSplitSlipSaid : Prop := fnExactSplitSlipRow.holds Try.pinned (OpenSpec.ofChange fnExactSplitSlipSpec)

/-- ITS FALSE NEIGHBOUR: 'it returns false'. Refute it at one input. -/
def fnExactSplitSlipWrong : ChangeSpec := { name := "fnExactSplitSlip", fn := fun _ => fun
  | [d1, d2, d3] => { results := [.lit (.bool false)], args := [d1, d2, d3] }
  | _ => none }
def FnExactSplitSlipWrongFalsely : Prop := fnExactSplitSlipRow.holds Try.pinned (OpenSpec.ofChange fnExactSplitSlipWrong)

/-- 'laws.FnExactSlipText': WHATEVER THE INPUT: true; the input reads as it did. -/
def fnExactSlipTextSpec : ChangeSpec := { name := "fnExactSlipText", fn := fun _ => fun
  | [d1, d2] => { results := [.lit (.bool true)], args := [d1, d2] }
  | _ => none }
def fnExactSlipTextRow : OpenClaim := { program := "ytcbkmmadejbbpaa", sum := "9b957ef5cb5c5fd33e287fb8b2e7a6985c720bc0a1f114b5eb83d48b6b384724", func := "loop.example/g01411/laws.FnExactSlipText", spec := "fnExactSlipText", inPlace := ["internal/abi.NoEscape", "internal/bytealg.MakeNoZero"], recurses := true, apart := false }
def FnExactSlipTextSaid : Prop := fnExactSlipTextRow.holds Try.pinned (OpenSpec.ofChange fnExactSlipTextSpec)

/-- ITS FALSE NEIGHBOUR: 'it returns false'. Refute it at one input. -/
def fnExactSlipTextWrong : ChangeSpec := { name := "fnExactSlipText", fn := fun _ => fun
  | [d1, d2] => { results := [.lit (.bool false)], args := [d1, d2] }
  | _ => none }
def FnExactSlipTextWrongFalsely : Prop := fnExactSlipTextRow.holds Try.pinned (OpenSpec.ofChange fnExactSlipTextWrong)

/- THE SECOND FORM. 'bulk': how many values and letters a reading holds, each counted each time it is reached (what is shared counts as often as it is met; a slice's spare places count too). A statement '..UptoSaid' is the law's where the arguments, and the package variables that the reading takes, are together of bulk at most 1048576: NARROWER than '..Said'. Prove '..Said' where nothing that the law and all that it calls make is longer than what came in: it says more and counts as full. Else prove '..UptoSaid'. A law counts once. -/
mutual
def uptoBulk {H : Type} : DataW H → Nat
  | .lit (.string bytes) => bytes.length + 1
  | .lit _ => 1
  | .nil => 1
  | .ptr d => uptoBulk d + 1
  | .slice elems spare => uptoBulkAll elems + uptoBulkAll spare + 1
  | .agg parts => uptoBulkAll parts + 1
  | .iface _ d => uptoBulk d + 1
  | .map entries => uptoBulkEntries entries + 1
  | .held _ => 1
def uptoBulkAll {H : Type} : List (DataW H) → Nat
  | [] => 0
  | d :: r => uptoBulk d + uptoBulkAll r
def uptoBulkEntries {H : Type} : List (Lit × DataW H) → Nat
  | [] => 0
  | x :: r => uptoBulkEntry x + uptoBulkEntries r
def uptoBulkEntry {H : Type} : Lit × DataW H → Nat
  | (.string bytes, d) => bytes.length + uptoBulk d + 1
  | (_, d) => uptoBulk d + 1
 end
def uptoSmall : (H : Type) → List (DataW H) → Bool := fun _ ds => decide (uptoBulkAll ds ≤ 1048576)
def OpenSpec.upto (s : _root_.Go.ChangeSpec) : _root_.Go.OpenSpec := { _root_.Go.OpenSpec.ofChange s with cond := some uptoSmall }

/-- 'laws.FnExactDirectSum', WHERE WHAT IT READS IS OF BULK AT MOST 1048576: true; the input reads as it did. -/
def fnExactDirectSumUptoRow : OpenClaim := { program := "ytcbkmmadejbbpaa", sum := "9b957ef5cb5c5fd33e287fb8b2e7a6985c720bc0a1f114b5eb83d48b6b384724", func := "loop.example/g01411/laws.FnExactDirectSum", spec := "fnExactDirectSum", apart := false, narrowed := true }
def FnExactDirectSumUptoSaid : Prop := fnExactDirectSumUptoRow.holds Try.pinned (OpenSpec.upto fnExactDirectSumSpec)

/-- 'laws.FnExactIsPerfect', WHERE WHAT IT READS IS OF BULK AT MOST 1048576: true; the input reads as it did. -/
def fnExactIsPerfectUptoRow : OpenClaim := { program := "ytcbkmmadejbbpaa", sum := "9b957ef5cb5c5fd33e287fb8b2e7a6985c720bc0a1f114b5eb83d48b6b384724", func := "loop.example/g01411/laws.FnExactIsPerfect", spec := "fnExactIsPerfect", unfollowed := true, recurses := true, apart := false, narrowed := true }
def FnExactIsPerfectUptoSaid : Prop := fnExactIsPerfectUptoRow.holds Try.pinned (OpenSpec.upto fnExactIsPerfectSpec)

/-- 'laws.FnExactPerfectRadius', WHERE WHAT IT READS IS OF BULK AT MOST 1048576: true; the input reads as it did. -/
def fnExactPerfectRadiusUptoRow : OpenClaim := { program := "ytcbkmmadejbbpaa", sum := "9b957ef5cb5c5fd33e287fb8b2e7a6985c720bc0a1f114b5eb83d48b6b384724", func := "loop.example/g01411/laws.FnExactPerfectRadius", spec := "fnExactPerfectRadius", unfollowed := true, recurses := true, apart := false, narrowed := true }
def FnExactPerfectRadiusUptoSaid : Prop := fnExactPerfectRadiusUptoRow.holds Try.pinned (OpenSpec.upto fnExactPerfectRadiusSpec)

/-- 'laws.FnExactDecodeWord', WHERE WHAT IT READS IS OF BULK AT MOST 1048576: true; the input reads as it did. -/
def fnExactDecodeWordUptoRow : OpenClaim := { program := "ytcbkmmadejbbpaa", sum := "9b957ef5cb5c5fd33e287fb8b2e7a6985c720bc0a1f114b5eb83d48b6b384724", func := "loop.example/g01411/laws.FnExactDecodeWord", spec := "fnExactDecodeWord", unfollowed := true, recurses := true, apart := false, narrowed := true }
def FnExactDecodeWordUptoSaid : Prop := fnExactDecodeWordUptoRow.holds Try.pinned (OpenSpec.upto fnExactDecodeWordSpec)

/-- 'laws.FnExactDoPart', WHERE WHAT IT READS IS OF BULK AT MOST 1048576: true; the input reads as it did. -/
def fnExactDoPartUptoRow : OpenClaim := { program := "ytcbkmmadejbbpaa", sum := "9b957ef5cb5c5fd33e287fb8b2e7a6985c720bc0a1f114b5eb83d48b6b384724", func := "loop.example/g01411/laws.FnExactDoPart", spec := "fnExactDoPart", unfollowed := true, recurses := true, apart := false, narrowed := true }
def FnExactDoPartUptoSaid : Prop := fnExactDoPartUptoRow.holds Try.pinned (OpenSpec.upto fnExactDoPartSpec)

/-- 'laws.FnExactBundleOf', WHERE WHAT IT READS IS OF BULK AT MOST 1048576: true; the input reads as it did. -/
def fnExactBundleOfUptoRow : OpenClaim := { program := "ytcbkmmadejbbpaa", sum := "9b957ef5cb5c5fd33e287fb8b2e7a6985c720bc0a1f114b5eb83d48b6b384724", func := "loop.example/g01411/laws.FnExactBundleOf", spec := "fnExactBundleOf", unfollowed := true, recurses := true, apart := false, narrowed := true }
def FnExactBundleOfUptoSaid : Prop := fnExactBundleOfUptoRow.holds Try.pinned (OpenSpec.upto fnExactBundleOfSpec)

/-- 'laws.FnExactSwitchBundle', WHERE WHAT IT READS IS OF BULK AT MOST 1048576: true; the input reads as it did. -/
def fnExactSwitchBundleUptoRow : OpenClaim := { program := "ytcbkmmadejbbpaa", sum := "9b957ef5cb5c5fd33e287fb8b2e7a6985c720bc0a1f114b5eb83d48b6b384724", func := "loop.example/g01411/laws.FnExactSwitchBundle", spec := "fnExactSwitchBundle", unfollowed := true, recurses := true, apart := false, narrowed := true }
def FnExactSwitchBundleUptoSaid : Prop := fnExactSwitchBundleUptoRow.holds Try.pinned (OpenSpec.upto fnExactSwitchBundleSpec)

/-- 'laws.FnExactSplitSlip', WHERE WHAT IT READS IS OF BULK AT MOST 1048576: true; the input reads as it did. -/
def fnExactSplitSlipUptoRow : OpenClaim := { program := "ytcbkmmadejbbpaa", sum := "9b957ef5cb5c5fd33e287fb8b2e7a6985c720bc0a1f114b5eb83d48b6b384724", func := "loop.example/g01411/laws.FnExactSplitSlip", spec := "fnExactSplitSlip", apart := false, narrowed := true }
def FnExactSplitSlipUptoSaid : Prop := fnExactSplitSlipUptoRow.holds Try.pinned (OpenSpec.upto fnExactSplitSlipSpec)

/-- 'laws.FnExactSlipText', WHERE WHAT IT READS IS OF BULK AT MOST 1048576: true; the input reads as it did. -/
def fnExactSlipTextUptoRow : OpenClaim := { program := "ytcbkmmadejbbpaa", sum := "9b957ef5cb5c5fd33e287fb8b2e7a6985c720bc0a1f114b5eb83d48b6b384724", func := "loop.example/g01411/laws.FnExactSlipText", spec := "fnExactSlipText", inPlace := ["internal/abi.NoEscape", "internal/bytealg.MakeNoZero"], recurses := true, apart := false, narrowed := true }
def FnExactSlipTextUptoSaid : Prop := fnExactSlipTextUptoRow.holds Try.pinned (OpenSpec.upto fnExactSlipTextSpec)

end Rows
end Go.Proofs.Ytcbkmmadejbbpaa
