/-
  No cell of these rows narrows 'for every input' (looked for: loops, veiled, ifaces, maps, wideKeys, modest, calm, conditions, laid).
  DERIVED. THE GIVEN ROWS OF THIS SEAT. 11 by the template 'for every input the law returns true; each argument reads behind the call as it read before'; 0 by the template 'total and deterministic' (their statements: YtodbdcanhefcaaaTotals.lean).
  GIVEN WITH THE SEED: the statements are not yours to turn. If you find one false, say at which input.
  Laid BY PROGRAM, IN A SANDBOX (cutbox-rows.mjs): the forced cells as the released guide's own fill.sh prints them over the translation 8b8a70f146727632… (all of the seat's roots in one cut). By AI agents, Wed Nov 11 2026. No macro, syntax, notation, axiom, sorry.
-/
import Derived.Test.YtodbdcanhefcaaaChecked
import GoSem.Claim
import GoSem.ClaimJoined
import GoSem.ClaimMapViews
import Derived.JoinedTies
import Derived.KernelRfl
namespace Go.Proofs.Ytodbdcanhefcaaa
/- THE CELL 'sum', in the pinned program and in every row, IS THE sha256 OF THE DUMP (.gsa) THAT YtodbdcanhefcaaaProg.lean LOADS. Nothing in Lean hashes anything: it is a label: what it is worth is what the hold of that sum in a sandbox is worth. -/
noncomputable def Try.pinned : Pinned := { name := "ytodbdcanhefcaaa", sum := "8b8a70f14672763203832eaa59414ee1bc4587aceef50109c0966cc78ebfd1a6", checked := Try.checked }
namespace Rows
def none {H : Type} : Left H := { results := [], args := [] }

/-- 'laws.FnExactCountChoices': WHATEVER THE INPUT: true; the input reads as it did. -/
def fnExactCountChoicesSpec : ChangeSpec := { name := "fnExactCountChoices", fn := fun _ => fun
  | [d1, d2] => { results := [.lit (.bool true)], args := [d1, d2] }
  | _ => none }
def fnExactCountChoicesRow : OpenClaim := { program := "ytodbdcanhefcaaa", sum := "8b8a70f14672763203832eaa59414ee1bc4587aceef50109c0966cc78ebfd1a6", func := "loop.example/g01411/laws.FnExactCountChoices", spec := "fnExactCountChoices", unfollowed := true, recurses := true, apart := false }
def FnExactCountChoicesSaid : Prop := fnExactCountChoicesRow.holds Try.pinned (OpenSpec.ofChange fnExactCountChoicesSpec)

/-- ITS FALSE NEIGHBOUR: 'it returns false'. Refute it at one input. -/
def fnExactCountChoicesWrong : ChangeSpec := { name := "fnExactCountChoices", fn := fun _ => fun
  | [d1, d2] => { results := [.lit (.bool false)], args := [d1, d2] }
  | _ => none }
def FnExactCountChoicesWrongFalsely : Prop := fnExactCountChoicesRow.holds Try.pinned (OpenSpec.ofChange fnExactCountChoicesWrong)

/-- 'laws.FnExactHasChoice': WHATEVER THE INPUT: true; the input reads as it did. -/
def fnExactHasChoiceSpec : ChangeSpec := { name := "fnExactHasChoice", fn := fun _ => fun
  | [d1, d2, d3] => { results := [.lit (.bool true)], args := [d1, d2, d3] }
  | _ => none }
def fnExactHasChoiceRow : OpenClaim := { program := "ytodbdcanhefcaaa", sum := "8b8a70f14672763203832eaa59414ee1bc4587aceef50109c0966cc78ebfd1a6", func := "loop.example/g01411/laws.FnExactHasChoice", spec := "fnExactHasChoice", unfollowed := true, recurses := true, apart := false }
def FnExactHasChoiceSaid : Prop := fnExactHasChoiceRow.holds Try.pinned (OpenSpec.ofChange fnExactHasChoiceSpec)

/-- ITS FALSE NEIGHBOUR: 'it returns false'. Refute it at one input. -/
def fnExactHasChoiceWrong : ChangeSpec := { name := "fnExactHasChoice", fn := fun _ => fun
  | [d1, d2, d3] => { results := [.lit (.bool false)], args := [d1, d2, d3] }
  | _ => none }
def FnExactHasChoiceWrongFalsely : Prop := fnExactHasChoiceRow.holds Try.pinned (OpenSpec.ofChange fnExactHasChoiceWrong)

/-- 'laws.FnExactMissingChoices': WHATEVER THE INPUT: true; the input reads as it did. -/
def fnExactMissingChoicesSpec : ChangeSpec := { name := "fnExactMissingChoices", fn := fun _ => fun
  | [d1, d2, d3] => { results := [.lit (.bool true)], args := [d1, d2, d3] }
  | _ => none }
def fnExactMissingChoicesRow : OpenClaim := { program := "ytodbdcanhefcaaa", sum := "8b8a70f14672763203832eaa59414ee1bc4587aceef50109c0966cc78ebfd1a6", func := "loop.example/g01411/laws.FnExactMissingChoices", spec := "fnExactMissingChoices", unfollowed := true, recurses := true, apart := false }
def FnExactMissingChoicesSaid : Prop := fnExactMissingChoicesRow.holds Try.pinned (OpenSpec.ofChange fnExactMissingChoicesSpec)

/-- ITS FALSE NEIGHBOUR: 'it returns false'. Refute it at one input. -/
def fnExactMissingChoicesWrong : ChangeSpec := { name := "fnExactMissingChoices", fn := fun _ => fun
  | [d1, d2, d3] => { results := [.lit (.bool false)], args := [d1, d2, d3] }
  | _ => none }
def FnExactMissingChoicesWrongFalsely : Prop := fnExactMissingChoicesRow.holds Try.pinned (OpenSpec.ofChange fnExactMissingChoicesWrong)

/-- 'laws.FnExactCountMissing': WHATEVER THE INPUT: true; the input reads as it did. -/
def fnExactCountMissingSpec : ChangeSpec := { name := "fnExactCountMissing", fn := fun _ => fun
  | [d1, d2, d3] => { results := [.lit (.bool true)], args := [d1, d2, d3] }
  | _ => none }
def fnExactCountMissingRow : OpenClaim := { program := "ytodbdcanhefcaaa", sum := "8b8a70f14672763203832eaa59414ee1bc4587aceef50109c0966cc78ebfd1a6", func := "loop.example/g01411/laws.FnExactCountMissing", spec := "fnExactCountMissing", unfollowed := true, recurses := true, apart := false }
def FnExactCountMissingSaid : Prop := fnExactCountMissingRow.holds Try.pinned (OpenSpec.ofChange fnExactCountMissingSpec)

/-- ITS FALSE NEIGHBOUR: 'it returns false'. Refute it at one input. -/
def fnExactCountMissingWrong : ChangeSpec := { name := "fnExactCountMissing", fn := fun _ => fun
  | [d1, d2, d3] => { results := [.lit (.bool false)], args := [d1, d2, d3] }
  | _ => none }
def FnExactCountMissingWrongFalsely : Prop := fnExactCountMissingRow.holds Try.pinned (OpenSpec.ofChange fnExactCountMissingWrong)

/-- 'laws.FnExactStrengthOf': WHATEVER THE INPUT: true; the input reads as it did. -/
def fnExactStrengthOfSpec : ChangeSpec := { name := "fnExactStrengthOf", fn := fun _ => fun
  | [d1, d2] => { results := [.lit (.bool true)], args := [d1, d2] }
  | _ => none }
def fnExactStrengthOfRow : OpenClaim := { program := "ytodbdcanhefcaaa", sum := "8b8a70f14672763203832eaa59414ee1bc4587aceef50109c0966cc78ebfd1a6", func := "loop.example/g01411/laws.FnExactStrengthOf", spec := "fnExactStrengthOf", unfollowed := true, recurses := true, apart := false }
def FnExactStrengthOfSaid : Prop := fnExactStrengthOfRow.holds Try.pinned (OpenSpec.ofChange fnExactStrengthOfSpec)

/-- ITS FALSE NEIGHBOUR: 'it returns false'. Refute it at one input. -/
def fnExactStrengthOfWrong : ChangeSpec := { name := "fnExactStrengthOf", fn := fun _ => fun
  | [d1, d2] => { results := [.lit (.bool false)], args := [d1, d2] }
  | _ => none }
def FnExactStrengthOfWrongFalsely : Prop := fnExactStrengthOfRow.holds Try.pinned (OpenSpec.ofChange fnExactStrengthOfWrong)

/-- 'laws.FnExactChoiceBound': WHATEVER THE INPUT: true; the input reads as it did. -/
def fnExactChoiceBoundSpec : ChangeSpec := { name := "fnExactChoiceBound", fn := fun _ => fun
  | [d1, d2] => { results := [.lit (.bool true)], args := [d1, d2] }
  | _ => none }
def fnExactChoiceBoundRow : OpenClaim := { program := "ytodbdcanhefcaaa", sum := "8b8a70f14672763203832eaa59414ee1bc4587aceef50109c0966cc78ebfd1a6", func := "loop.example/g01411/laws.FnExactChoiceBound", spec := "fnExactChoiceBound", unfollowed := true, recurses := true, apart := false }
def FnExactChoiceBoundSaid : Prop := fnExactChoiceBoundRow.holds Try.pinned (OpenSpec.ofChange fnExactChoiceBoundSpec)

/-- ITS FALSE NEIGHBOUR: 'it returns false'. Refute it at one input. -/
def fnExactChoiceBoundWrong : ChangeSpec := { name := "fnExactChoiceBound", fn := fun _ => fun
  | [d1, d2] => { results := [.lit (.bool false)], args := [d1, d2] }
  | _ => none }
def FnExactChoiceBoundWrongFalsely : Prop := fnExactChoiceBoundRow.holds Try.pinned (OpenSpec.ofChange fnExactChoiceBoundWrong)

/-- 'laws.FnExactGreedyRows': WHATEVER THE INPUT: true; the input reads as it did. -/
def fnExactGreedyRowsSpec : ChangeSpec := { name := "fnExactGreedyRows", fn := fun _ => fun
  | [d1, d2] => { results := [.lit (.bool true)], args := [d1, d2] }
  | _ => none }
def fnExactGreedyRowsRow : OpenClaim := { program := "ytodbdcanhefcaaa", sum := "8b8a70f14672763203832eaa59414ee1bc4587aceef50109c0966cc78ebfd1a6", func := "loop.example/g01411/laws.FnExactGreedyRows", spec := "fnExactGreedyRows", unfollowed := true, recurses := true, apart := false }
def FnExactGreedyRowsSaid : Prop := fnExactGreedyRowsRow.holds Try.pinned (OpenSpec.ofChange fnExactGreedyRowsSpec)

/-- ITS FALSE NEIGHBOUR: 'it returns false'. Refute it at one input. -/
def fnExactGreedyRowsWrong : ChangeSpec := { name := "fnExactGreedyRows", fn := fun _ => fun
  | [d1, d2] => { results := [.lit (.bool false)], args := [d1, d2] }
  | _ => none }
def FnExactGreedyRowsWrongFalsely : Prop := fnExactGreedyRowsRow.holds Try.pinned (OpenSpec.ofChange fnExactGreedyRowsWrong)

/-- 'laws.FnExactLeanRows': WHATEVER THE INPUT: true; the input reads as it did. -/
def fnExactLeanRowsSpec : ChangeSpec := { name := "fnExactLeanRows", fn := fun _ => fun
  | [d1, d2, d3] => { results := [.lit (.bool true)], args := [d1, d2, d3] }
  | _ => none }
def fnExactLeanRowsRow : OpenClaim := { program := "ytodbdcanhefcaaa", sum := "8b8a70f14672763203832eaa59414ee1bc4587aceef50109c0966cc78ebfd1a6", func := "loop.example/g01411/laws.FnExactLeanRows", spec := "fnExactLeanRows", recurses := true, apart := false }
def FnExactLeanRowsSaid : Prop := fnExactLeanRowsRow.holds Try.pinned (OpenSpec.ofChange fnExactLeanRowsSpec)

/-- ITS FALSE NEIGHBOUR: 'it returns false'. Refute it at one input. -/
def fnExactLeanRowsWrong : ChangeSpec := { name := "fnExactLeanRows", fn := fun _ => fun
  | [d1, d2, d3] => { results := [.lit (.bool false)], args := [d1, d2, d3] }
  | _ => none }
def FnExactLeanRowsWrongFalsely : Prop := fnExactLeanRowsRow.holds Try.pinned (OpenSpec.ofChange fnExactLeanRowsWrong)

/-- 'laws.FnExactNewChoices': WHATEVER THE INPUT: true; the input reads as it did. -/
def fnExactNewChoicesSpec : ChangeSpec := { name := "fnExactNewChoices", fn := fun _ => fun
  | [d1, d2, d3] => { results := [.lit (.bool true)], args := [d1, d2, d3] }
  | _ => none }
def fnExactNewChoicesRow : OpenClaim := { program := "ytodbdcanhefcaaa", sum := "8b8a70f14672763203832eaa59414ee1bc4587aceef50109c0966cc78ebfd1a6", func := "loop.example/g01411/laws.FnExactNewChoices", spec := "fnExactNewChoices", recurses := true, apart := false }
def FnExactNewChoicesSaid : Prop := fnExactNewChoicesRow.holds Try.pinned (OpenSpec.ofChange fnExactNewChoicesSpec)

/-- ITS FALSE NEIGHBOUR: 'it returns false'. Refute it at one input. -/
def fnExactNewChoicesWrong : ChangeSpec := { name := "fnExactNewChoices", fn := fun _ => fun
  | [d1, d2, d3] => { results := [.lit (.bool false)], args := [d1, d2, d3] }
  | _ => none }
def FnExactNewChoicesWrongFalsely : Prop := fnExactNewChoicesRow.holds Try.pinned (OpenSpec.ofChange fnExactNewChoicesWrong)

/-- 'laws.FnExactPairNumber': WHATEVER THE INPUT: true; the input reads as it did. -/
def fnExactPairNumberSpec : ChangeSpec := { name := "fnExactPairNumber", fn := fun _ => fun
  | [d] => { results := [.lit (.bool true)], args := [d] }
  | _ => none }
def fnExactPairNumberRow : OpenClaim := { program := "ytodbdcanhefcaaa", sum := "8b8a70f14672763203832eaa59414ee1bc4587aceef50109c0966cc78ebfd1a6", func := "loop.example/g01411/laws.FnExactPairNumber", spec := "fnExactPairNumber", apart := false }
def FnExactPairNumberSaid : Prop := fnExactPairNumberRow.holds Try.pinned (OpenSpec.ofChange fnExactPairNumberSpec)

/-- ITS FALSE NEIGHBOUR: 'it returns false'. Refute it at one input. -/
def fnExactPairNumberWrong : ChangeSpec := { name := "fnExactPairNumber", fn := fun _ => fun
  | [d] => { results := [.lit (.bool false)], args := [d] }
  | _ => none }
def FnExactPairNumberWrongFalsely : Prop := fnExactPairNumberRow.holds Try.pinned (OpenSpec.ofChange fnExactPairNumberWrong)

/-- 'laws.FnExactPairRows': WHATEVER THE INPUT: true; the input reads as it did. -/
def fnExactPairRowsSpec : ChangeSpec := { name := "fnExactPairRows", fn := fun _ => fun
  | [d] => { results := [.lit (.bool true)], args := [d] }
  | _ => none }
def fnExactPairRowsRow : OpenClaim := { program := "ytodbdcanhefcaaa", sum := "8b8a70f14672763203832eaa59414ee1bc4587aceef50109c0966cc78ebfd1a6", func := "loop.example/g01411/laws.FnExactPairRows", spec := "fnExactPairRows", apart := false }
def FnExactPairRowsSaid : Prop := fnExactPairRowsRow.holds Try.pinned (OpenSpec.ofChange fnExactPairRowsSpec)

/-- ITS FALSE NEIGHBOUR: 'it returns false'. Refute it at one input. -/
def fnExactPairRowsWrong : ChangeSpec := { name := "fnExactPairRows", fn := fun _ => fun
  | [d] => { results := [.lit (.bool false)], args := [d] }
  | _ => none }
def FnExactPairRowsWrongFalsely : Prop := fnExactPairRowsRow.holds Try.pinned (OpenSpec.ofChange fnExactPairRowsWrong)

/- THE SECOND FORM. 'bulk': how many values and letters a reading holds, each counted each time it is reached (what is shared counts as often as it is met; a slice's spare places count too). A statement '..UptoSaid' is the law's where the arguments, and the package variables that the reading takes, are together of bulk at most 1048576: NARROWER than '..Said'. Prove '..Said' where nothing that the law and all that it calls make is longer than what came in: it says more and counts as full. Else prove '..UptoSaid'. A law counts once. -/
mutual
def uptoBulk {H : Type} : DataW H → Nat
  | .lit (.string bytes) => bytes.length + 1
  | .lit _ => 1
  | .nil => 1
  | .ptr d => uptoBulk d + 1
  | .slice elems spare => uptoBulkAll elems + uptoBulkAll spare + 1
  | .agg parts => uptoBulkAll parts + 1
  | .iface _ d => uptoBulk d + 1
  | .map entries => uptoBulkEntries entries + 1
  | .held _ => 1
def uptoBulkAll {H : Type} : List (DataW H) → Nat
  | [] => 0
  | d :: r => uptoBulk d + uptoBulkAll r
def uptoBulkEntries {H : Type} : List (Lit × DataW H) → Nat
  | [] => 0
  | x :: r => uptoBulkEntry x + uptoBulkEntries r
def uptoBulkEntry {H : Type} : Lit × DataW H → Nat
  | (.string bytes, d) => bytes.length + uptoBulk d + 1
  | (_, d) => uptoBulk d + 1
 end
def uptoSmall : (H : Type) → List (DataW H) → Bool := fun _ ds => decide (uptoBulkAll ds ≤ 1048576)
def OpenSpec.upto (s : _root_.Go.ChangeSpec) : _root_.Go.OpenSpec := { _root_.Go.OpenSpec.ofChange s with cond := some uptoSmall }

/-- 'laws.FnExactCountChoices', WHERE WHAT IT READS IS OF BULK AT MOST 1048576: true; the input reads as it did. -/
def fnExactCountChoicesUptoRow : OpenClaim := { program := "ytodbdcanhefcaaa", sum := "8b8a70f14672763203832eaa59414ee1bc4587aceef50109c0966cc78ebfd1a6", func := "loop.example/g01411/laws.FnExactCountChoices", spec := "fnExactCountChoices", unfollowed := true, recurses := true, apart := false, narrowed := true }
def FnExactCountChoicesUptoSaid : Prop := fnExactCountChoicesUptoRow.holds Try.pinned (OpenSpec.upto fnExactCountChoicesSpec)

/-- 'laws.FnExactHasChoice', WHERE WHAT IT READS IS OF BULK AT MOST 1048576: true; the input reads as it did. -/
def fnExactHasChoiceUptoRow : OpenClaim := { program := "ytodbdcanhefcaaa", sum := "8b8a70f14672763203832eaa59414ee1bc4587aceef50109c0966cc78ebfd1a6", func := "loop.example/g01411/laws.FnExactHasChoice", spec := "fnExactHasChoice", unfollowed := true, recurses := true, apart := false, narrowed := true }
def FnExactHasChoiceUptoSaid : Prop := fnExactHasChoiceUptoRow.holds Try.pinned (OpenSpec.upto fnExactHasChoiceSpec)

/-- 'laws.FnExactMissingChoices', WHERE WHAT IT READS IS OF BULK AT MOST 1048576: true; the input reads as it did. -/
def fnExactMissingChoicesUptoRow : OpenClaim := { program := "ytodbdcanhefcaaa", sum := "8b8a70f14672763203832eaa59414ee1bc4587aceef50109c0966cc78ebfd1a6", func := "loop.example/g01411/laws.FnExactMissingChoices", spec := "fnExactMissingChoices", unfollowed := true, recurses := true, apart := false, narrowed := true }
def FnExactMissingChoicesUptoSaid : Prop := fnExactMissingChoicesUptoRow.holds Try.pinned (OpenSpec.upto fnExactMissingChoicesSpec)

/-- 'laws.FnExactCountMissing', WHERE WHAT IT READS IS OF BULK AT MOST 1048576: true; the input reads as it did. -/
def fnExactCountMissingUptoRow : OpenClaim := { program := "ytodbdcanhefcaaa", sum := "8b8a70f14672763203832eaa59414ee1bc4587aceef50109c0966cc78ebfd1a6", func := "loop.example/g01411/laws.FnExactCountMissing", spec := "fnExactCountMissing", unfollowed := true, recurses := true, apart := false, narrowed := true }
def FnExactCountMissingUptoSaid : Prop := fnExactCountMissingUptoRow.holds Try.pinned (OpenSpec.upto fnExactCountMissingSpec)

/-- 'laws.FnExactStrengthOf', WHERE WHAT IT READS IS OF BULK AT MOST 1048576: true; the input reads as it did. -/
def fnExactStrengthOfUptoRow : OpenClaim := { program := "ytodbdcanhefcaaa", sum := "8b8a70f14672763203832eaa59414ee1bc4587aceef50109c0966cc78ebfd1a6", func := "loop.example/g01411/laws.FnExactStrengthOf", spec := "fnExactStrengthOf", unfollowed := true, recurses := true, apart := false, narrowed := true }
def FnExactStrengthOfUptoSaid : Prop := fnExactStrengthOfUptoRow.holds Try.pinned (OpenSpec.upto fnExactStrengthOfSpec)

/-- 'laws.FnExactChoiceBound', WHERE WHAT IT READS IS OF BULK AT MOST 1048576: true; the input reads as it did. -/
def fnExactChoiceBoundUptoRow : OpenClaim := { program := "ytodbdcanhefcaaa", sum := "8b8a70f14672763203832eaa59414ee1bc4587aceef50109c0966cc78ebfd1a6", func := "loop.example/g01411/laws.FnExactChoiceBound", spec := "fnExactChoiceBound", unfollowed := true, recurses := true, apart := false, narrowed := true }
def FnExactChoiceBoundUptoSaid : Prop := fnExactChoiceBoundUptoRow.holds Try.pinned (OpenSpec.upto fnExactChoiceBoundSpec)

/-- 'laws.FnExactGreedyRows', WHERE WHAT IT READS IS OF BULK AT MOST 1048576: true; the input reads as it did. -/
def fnExactGreedyRowsUptoRow : OpenClaim := { program := "ytodbdcanhefcaaa", sum := "8b8a70f14672763203832eaa59414ee1bc4587aceef50109c0966cc78ebfd1a6", func := "loop.example/g01411/laws.FnExactGreedyRows", spec := "fnExactGreedyRows", unfollowed := true, recurses := true, apart := false, narrowed := true }
def FnExactGreedyRowsUptoSaid : Prop := fnExactGreedyRowsUptoRow.holds Try.pinned (OpenSpec.upto fnExactGreedyRowsSpec)

/-- 'laws.FnExactLeanRows', WHERE WHAT IT READS IS OF BULK AT MOST 1048576: true; the input reads as it did. -/
def fnExactLeanRowsUptoRow : OpenClaim := { program := "ytodbdcanhefcaaa", sum := "8b8a70f14672763203832eaa59414ee1bc4587aceef50109c0966cc78ebfd1a6", func := "loop.example/g01411/laws.FnExactLeanRows", spec := "fnExactLeanRows", recurses := true, apart := false, narrowed := true }
def FnExactLeanRowsUptoSaid : Prop := fnExactLeanRowsUptoRow.holds Try.pinned (OpenSpec.upto fnExactLeanRowsSpec)

/-- 'laws.FnExactNewChoices', WHERE WHAT IT READS IS OF BULK AT MOST 1048576: true; the input reads as it did. -/
def fnExactNewChoicesUptoRow : OpenClaim := { program := "ytodbdcanhefcaaa", sum := "8b8a70f14672763203832eaa59414ee1bc4587aceef50109c0966cc78ebfd1a6", func := "loop.example/g01411/laws.FnExactNewChoices", spec := "fnExactNewChoices", recurses := true, apart := false, narrowed := true }
def FnExactNewChoicesUptoSaid : Prop := fnExactNewChoicesUptoRow.holds Try.pinned (OpenSpec.upto fnExactNewChoicesSpec)

/-- 'laws.FnExactPairNumber', WHERE WHAT IT READS IS OF BULK AT MOST 1048576: true; the input reads as it did. -/
def fnExactPairNumberUptoRow : OpenClaim := { program := "ytodbdcanhefcaaa", sum := "8b8a70f14672763203832eaa59414ee1bc4587aceef50109c0966cc78ebfd1a6", func := "loop.example/g01411/laws.FnExactPairNumber", spec := "fnExactPairNumber", apart := false, narrowed := true }
def FnExactPairNumberUptoSaid : Prop := fnExactPairNumberUptoRow.holds Try.pinned (OpenSpec.upto fnExactPairNumberSpec)

/-- 'laws.FnExactPairRows', WHERE WHAT IT READS IS OF BULK AT MOST 1048576: true; the input reads as it did. -/
def fnExactPairRowsUptoRow : OpenClaim := { program := "ytodbdcanhefcaaa", sum := "8b8a70f14672763203832eaa59414ee1bc4587aceef50109c0966cc78ebfd1a6", func := "loop.example/g01411/laws.FnExactPairRows", spec := "fnExactPairRows", apart := false, narrowed := true }
def FnExactPairRowsUptoSaid : Prop := fnExactPairRowsUptoRow.holds Try.pinned (OpenSpec.upto fnExactPairRowsSpec)

end Rows
end Go.Proofs.Ytodbdcanhefcaaa
