/-
  NARROWER THAN 'FOR EVERY INPUT', by the rows' own cells (each row's printed sentence says how): FnExactLeastBasis: ifaces, laid · FnExactDualCode: ifaces, laid · FnExactDualCounts: ifaces, laid.
  DERIVED. THE GIVEN ROWS OF THIS SEAT. 3 by the template 'for every input the law returns true; each argument reads behind the call as it read before'; 0 by the template 'total and deterministic' (their statements: YtdacokgmcenjoaaDoorTotals.lean).
  GIVEN WITH THE SEED: the statements are not yours to turn. If you find one false, say at which input.
  Laid BY PROGRAM, IN A SANDBOX (cutbox-rows.mjs): the forced cells as the released guide's own fill.sh prints them over the translation aaa084cfde85a401… (all of the seat's roots in one cut). By AI agents, Wed Nov 11 2026. No macro, syntax, notation, axiom, sorry.
-/
import Derived.Test.YtdacokgmcenjoaaDoorChecked
import GoSem.Claim
import GoSem.ClaimJoined
import GoSem.ClaimMapViews
import Derived.JoinedTies
import Derived.KernelRfl
namespace Go.Proofs.YtdacokgmcenjoaaDoor
/- THE CELL 'sum', in the pinned program and in every row, IS THE sha256 OF THE DUMP (.gsa) THAT YtdacokgmcenjoaaDoorProg.lean LOADS. Nothing in Lean hashes anything: it is a label: what it is worth is what the hold of that sum in a sandbox is worth. -/
noncomputable def Tryd.pinned : Pinned := { name := "ytdacokgmcenjoaadoor", sum := "aaa084cfde85a40162fd40d05950009fd9727cc0f5d5fb7f024e1c410aa7ce5a", checked := Tryd.checked }
namespace Rows
def none {H : Type} : Left H := { results := [], args := [] }

/- WHAT THE LISTED PACKAGE-LEVEL VARIABLES READ AS WHEN THE CALL BEGINS. Each datum BY PROGRAM (the guide's laid-datum.mjs) off the statement by which the dump's own 'gosem.cut.vars' lays the variable. In a bare row this is a premise. The card (YtdacokgmcenjoaaDoorCards.lean) ties it to the program's text. -/
def laid_loop_example_g01411_impl_errNotLinear {H : Type} : DataW H := .iface "*errors.errorString" (.ptr (.agg [.lit (.string [116, 104, 101, 32, 99, 111, 100, 101, 32, 105, 115, 32, 110, 111, 116, 32, 108, 105, 110, 101, 97, 114])]))

/-- 'laws.FnExactLeastBasis': WHATEVER THE INPUT: true; the input reads as it did. -/
def fnExactLeastBasisSpec : ChangeSpec := { name := "fnExactLeastBasis", vars := ["loop.example/g01411/impl.errNotLinear"], fn := fun _ => fun
  | [d1, d2, g1] => { results := [.lit (.bool true)], args := [d1, d2], vars := [g1] }
  | _ => none }
def fnExactLeastBasisRow : OpenClaim := { program := "ytdacokgmcenjoaadoor", sum := "aaa084cfde85a40162fd40d05950009fd9727cc0f5d5fb7f024e1c410aa7ce5a", func := "loop.example/g01411/laws.FnExactLeastBasis", spec := "fnExactLeastBasis", unfollowed := true, recurses := true, named := ["loop.example/g01411/impl.errNotLinear"], ifaces := true, apart := false, laid := [("loop.example/g01411/impl.errNotLinear", laid_loop_example_g01411_impl_errNotLinear)] }
def FnExactLeastBasisSaid : Prop := fnExactLeastBasisRow.holds Tryd.pinned (OpenSpec.ofChange fnExactLeastBasisSpec)

/-- ITS FALSE NEIGHBOUR: 'it returns false'. Refute it at one input. -/
def fnExactLeastBasisWrong : ChangeSpec := { name := "fnExactLeastBasis", vars := ["loop.example/g01411/impl.errNotLinear"], fn := fun _ => fun
  | [d1, d2, g1] => { results := [.lit (.bool false)], args := [d1, d2], vars := [g1] }
  | _ => none }
def FnExactLeastBasisWrongFalsely : Prop := fnExactLeastBasisRow.holds Tryd.pinned (OpenSpec.ofChange fnExactLeastBasisWrong)

/-- 'laws.FnExactDualCode': WHATEVER THE INPUT: true; the input reads as it did. -/
def fnExactDualCodeSpec : ChangeSpec := { name := "fnExactDualCode", vars := ["loop.example/g01411/impl.errNotLinear"], fn := fun _ => fun
  | [d1, d2, g1] => { results := [.lit (.bool true)], args := [d1, d2], vars := [g1] }
  | _ => none }
def fnExactDualCodeRow : OpenClaim := { program := "ytdacokgmcenjoaadoor", sum := "aaa084cfde85a40162fd40d05950009fd9727cc0f5d5fb7f024e1c410aa7ce5a", func := "loop.example/g01411/laws.FnExactDualCode", spec := "fnExactDualCode", unfollowed := true, recurses := true, named := ["loop.example/g01411/impl.errNotLinear"], ifaces := true, apart := false, laid := [("loop.example/g01411/impl.errNotLinear", laid_loop_example_g01411_impl_errNotLinear)] }
def FnExactDualCodeSaid : Prop := fnExactDualCodeRow.holds Tryd.pinned (OpenSpec.ofChange fnExactDualCodeSpec)

/-- ITS FALSE NEIGHBOUR: 'it returns false'. Refute it at one input. -/
def fnExactDualCodeWrong : ChangeSpec := { name := "fnExactDualCode", vars := ["loop.example/g01411/impl.errNotLinear"], fn := fun _ => fun
  | [d1, d2, g1] => { results := [.lit (.bool false)], args := [d1, d2], vars := [g1] }
  | _ => none }
def FnExactDualCodeWrongFalsely : Prop := fnExactDualCodeRow.holds Tryd.pinned (OpenSpec.ofChange fnExactDualCodeWrong)

/-- 'laws.FnExactDualCounts': WHATEVER THE INPUT: true; the input reads as it did. -/
def fnExactDualCountsSpec : ChangeSpec := { name := "fnExactDualCounts", vars := ["loop.example/g01411/impl.errNotLinear"], fn := fun _ => fun
  | [d1, d2, g1] => { results := [.lit (.bool true)], args := [d1, d2], vars := [g1] }
  | _ => none }
def fnExactDualCountsRow : OpenClaim := { program := "ytdacokgmcenjoaadoor", sum := "aaa084cfde85a40162fd40d05950009fd9727cc0f5d5fb7f024e1c410aa7ce5a", func := "loop.example/g01411/laws.FnExactDualCounts", spec := "fnExactDualCounts", unfollowed := true, recurses := true, named := ["loop.example/g01411/impl.errNotLinear"], ifaces := true, apart := false, laid := [("loop.example/g01411/impl.errNotLinear", laid_loop_example_g01411_impl_errNotLinear)] }
def FnExactDualCountsSaid : Prop := fnExactDualCountsRow.holds Tryd.pinned (OpenSpec.ofChange fnExactDualCountsSpec)

/-- ITS FALSE NEIGHBOUR: 'it returns false'. Refute it at one input. -/
def fnExactDualCountsWrong : ChangeSpec := { name := "fnExactDualCounts", vars := ["loop.example/g01411/impl.errNotLinear"], fn := fun _ => fun
  | [d1, d2, g1] => { results := [.lit (.bool false)], args := [d1, d2], vars := [g1] }
  | _ => none }
def FnExactDualCountsWrongFalsely : Prop := fnExactDualCountsRow.holds Tryd.pinned (OpenSpec.ofChange fnExactDualCountsWrong)

/- THE SECOND FORM. 'bulk': how many values and letters a reading holds, each counted each time it is reached (what is shared counts as often as it is met; a slice's spare places count too). A statement '..UptoSaid' is the law's where the arguments, and the package variables that the reading takes, are together of bulk at most 1048576: NARROWER than '..Said'. Prove '..Said' where nothing that the law and all that it calls make is longer than what came in: it says more and counts as full. Else prove '..UptoSaid'. A law counts once. -/
mutual
def uptoBulk {H : Type} : DataW H → Nat
  | .lit (.string bytes) => bytes.length + 1
  | .lit _ => 1
  | .nil => 1
  | .ptr d => uptoBulk d + 1
  | .slice elems spare => uptoBulkAll elems + uptoBulkAll spare + 1
  | .agg parts => uptoBulkAll parts + 1
  | .iface _ d => uptoBulk d + 1
  | .map entries => uptoBulkEntries entries + 1
  | .held _ => 1
def uptoBulkAll {H : Type} : List (DataW H) → Nat
  | [] => 0
  | d :: r => uptoBulk d + uptoBulkAll r
def uptoBulkEntries {H : Type} : List (Lit × DataW H) → Nat
  | [] => 0
  | x :: r => uptoBulkEntry x + uptoBulkEntries r
def uptoBulkEntry {H : Type} : Lit × DataW H → Nat
  | (.string bytes, d) => bytes.length + uptoBulk d + 1
  | (_, d) => uptoBulk d + 1
 end
def uptoSmall : (H : Type) → List (DataW H) → Bool := fun _ ds => decide (uptoBulkAll ds ≤ 1048576)
def OpenSpec.upto (s : _root_.Go.ChangeSpec) : _root_.Go.OpenSpec := { _root_.Go.OpenSpec.ofChange s with cond := some uptoSmall }

/-- 'laws.FnExactLeastBasis', WHERE WHAT IT READS IS OF BULK AT MOST 1048576: true; the input reads as it did. -/
def fnExactLeastBasisUptoRow : OpenClaim := { program := "ytdacokgmcenjoaadoor", sum := "aaa084cfde85a40162fd40d05950009fd9727cc0f5d5fb7f024e1c410aa7ce5a", func := "loop.example/g01411/laws.FnExactLeastBasis", spec := "fnExactLeastBasis", unfollowed := true, recurses := true, named := ["loop.example/g01411/impl.errNotLinear"], ifaces := true, apart := false, laid := [("loop.example/g01411/impl.errNotLinear", laid_loop_example_g01411_impl_errNotLinear)], narrowed := true }
def FnExactLeastBasisUptoSaid : Prop := fnExactLeastBasisUptoRow.holds Tryd.pinned (OpenSpec.upto fnExactLeastBasisSpec)

/-- 'laws.FnExactDualCode', WHERE WHAT IT READS IS OF BULK AT MOST 1048576: true; the input reads as it did. -/
def fnExactDualCodeUptoRow : OpenClaim := { program := "ytdacokgmcenjoaadoor", sum := "aaa084cfde85a40162fd40d05950009fd9727cc0f5d5fb7f024e1c410aa7ce5a", func := "loop.example/g01411/laws.FnExactDualCode", spec := "fnExactDualCode", unfollowed := true, recurses := true, named := ["loop.example/g01411/impl.errNotLinear"], ifaces := true, apart := false, laid := [("loop.example/g01411/impl.errNotLinear", laid_loop_example_g01411_impl_errNotLinear)], narrowed := true }
def FnExactDualCodeUptoSaid : Prop := fnExactDualCodeUptoRow.holds Tryd.pinned (OpenSpec.upto fnExactDualCodeSpec)

/-- 'laws.FnExactDualCounts', WHERE WHAT IT READS IS OF BULK AT MOST 1048576: true; the input reads as it did. -/
def fnExactDualCountsUptoRow : OpenClaim := { program := "ytdacokgmcenjoaadoor", sum := "aaa084cfde85a40162fd40d05950009fd9727cc0f5d5fb7f024e1c410aa7ce5a", func := "loop.example/g01411/laws.FnExactDualCounts", spec := "fnExactDualCounts", unfollowed := true, recurses := true, named := ["loop.example/g01411/impl.errNotLinear"], ifaces := true, apart := false, laid := [("loop.example/g01411/impl.errNotLinear", laid_loop_example_g01411_impl_errNotLinear)], narrowed := true }
def FnExactDualCountsUptoSaid : Prop := fnExactDualCountsUptoRow.holds Tryd.pinned (OpenSpec.upto fnExactDualCountsSpec)

end Rows
end Go.Proofs.YtdacokgmcenjoaaDoor
