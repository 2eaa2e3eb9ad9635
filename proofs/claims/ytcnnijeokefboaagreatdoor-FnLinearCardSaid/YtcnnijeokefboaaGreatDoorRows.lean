/-
  NARROWER THAN 'FOR EVERY INPUT', by the rows' own cells (each row's printed sentence says how): FnLinear: ifaces, laid · FnLeaders: ifaces, laid.
  DERIVED. THE GIVEN ROWS OF THIS SEAT. 2 by the template 'for every input the law returns true; each argument reads behind the call as it read before'; 0 by the template 'total and deterministic' (their statements: YtcnnijeokefboaaGreatDoorTotals.lean).
  GIVEN WITH THE SEED: the statements are not yours to turn. If you find one false, say at which input.
  Laid BY PROGRAM, IN A SANDBOX (cutbox-rows.mjs): the forced cells as the released guide's own fill.sh prints them over the translation 5e3538082ee270dc… (all of the seat's roots in one cut). By AI agents, Wed Nov 11 2026. No macro, syntax, notation, axiom, sorry.
-/
import Derived.Test.YtcnnijeokefboaaGreatDoorChecked
import GoSem.Claim
import GoSem.ClaimJoined
import GoSem.ClaimMapViews
import Derived.JoinedTies
import Derived.KernelRfl
namespace Go.Proofs.YtcnnijeokefboaaGreatDoor
/- THE CELL 'sum', in the pinned program and in every row, IS THE sha256 OF THE DUMP (.gsa) THAT YtcnnijeokefboaaGreatDoorProg.lean LOADS. Nothing in Lean hashes anything: it is a label: what it is worth is what the hold of that sum in a sandbox is worth. -/
noncomputable def Tryz.pinned : Pinned := { name := "ytcnnijeokefboaagreatdoor", sum := "5e3538082ee270dc99391f914ca1fc2882fc2245155c79ff4a51e2e105f97835", checked := Tryz.checked }
namespace Rows
def none {H : Type} : Left H := { results := [], args := [] }

/- WHAT THE LISTED PACKAGE-LEVEL VARIABLES READ AS WHEN THE CALL BEGINS. Each datum BY PROGRAM (the guide's laid-datum.mjs) off the statement by which the dump's own 'gosem.cut.vars' lays the variable. In a bare row this is a premise. The card (YtcnnijeokefboaaGreatDoorCards.lean) ties it to the program's text. -/
def laid_loop_example_g01411_impl_errNotLinear {H : Type} : DataW H := .iface "*errors.errorString" (.ptr (.agg [.lit (.string [116, 104, 101, 32, 99, 111, 100, 101, 32, 105, 115, 32, 110, 111, 116, 32, 108, 105, 110, 101, 97, 114])]))

/-- 'laws.FnLinear': WHATEVER THE INPUT: true; the input reads as it did. -/
def fnLinearSpec : ChangeSpec := { name := "fnLinear", vars := ["loop.example/g01411/impl.errNotLinear"], fn := fun _ => fun
  | [d, g1] => { results := [.lit (.bool true)], args := [d], vars := [g1] }
  | _ => none }
def fnLinearRow : OpenClaim := { program := "ytcnnijeokefboaagreatdoor", sum := "5e3538082ee270dc99391f914ca1fc2882fc2245155c79ff4a51e2e105f97835", func := "loop.example/g01411/laws.FnLinear", spec := "fnLinear", unfollowed := true, recurses := true, named := ["loop.example/g01411/impl.errNotLinear"], ifaces := true, apart := false, laid := [("loop.example/g01411/impl.errNotLinear", laid_loop_example_g01411_impl_errNotLinear)] }
def FnLinearSaid : Prop := fnLinearRow.holds Tryz.pinned (OpenSpec.ofChange fnLinearSpec)

/-- ITS FALSE NEIGHBOUR: 'it returns false'. Refute it at one input. -/
def fnLinearWrong : ChangeSpec := { name := "fnLinear", vars := ["loop.example/g01411/impl.errNotLinear"], fn := fun _ => fun
  | [d, g1] => { results := [.lit (.bool false)], args := [d], vars := [g1] }
  | _ => none }
def FnLinearWrongFalsely : Prop := fnLinearRow.holds Tryz.pinned (OpenSpec.ofChange fnLinearWrong)

/-- 'laws.FnLeaders': WHATEVER THE INPUT: true; the input reads as it did. -/
def fnLeadersSpec : ChangeSpec := { name := "fnLeaders", vars := ["loop.example/g01411/impl.errNotLinear"], fn := fun _ => fun
  | [d, g1] => { results := [.lit (.bool true)], args := [d], vars := [g1] }
  | _ => none }
def fnLeadersRow : OpenClaim := { program := "ytcnnijeokefboaagreatdoor", sum := "5e3538082ee270dc99391f914ca1fc2882fc2245155c79ff4a51e2e105f97835", func := "loop.example/g01411/laws.FnLeaders", spec := "fnLeaders", unfollowed := true, recurses := true, named := ["loop.example/g01411/impl.errNotLinear"], ifaces := true, apart := false, laid := [("loop.example/g01411/impl.errNotLinear", laid_loop_example_g01411_impl_errNotLinear)] }
def FnLeadersSaid : Prop := fnLeadersRow.holds Tryz.pinned (OpenSpec.ofChange fnLeadersSpec)

/-- ITS FALSE NEIGHBOUR: 'it returns false'. Refute it at one input. -/
def fnLeadersWrong : ChangeSpec := { name := "fnLeaders", vars := ["loop.example/g01411/impl.errNotLinear"], fn := fun _ => fun
  | [d, g1] => { results := [.lit (.bool false)], args := [d], vars := [g1] }
  | _ => none }
def FnLeadersWrongFalsely : Prop := fnLeadersRow.holds Tryz.pinned (OpenSpec.ofChange fnLeadersWrong)

/- THE SECOND FORM. 'bulk': how many values and letters a reading holds, each counted each time it is reached (what is shared counts as often as it is met; a slice's spare places count too). A statement '..UptoSaid' is the law's where the arguments, and the package variables that the reading takes, are together of bulk at most 1048576: NARROWER than '..Said'. Prove '..Said' where nothing that the law and all that it calls make is longer than what came in: it says more and counts as full. Else prove '..UptoSaid'. A law counts once. -/
mutual
def uptoBulk {H : Type} : DataW H → Nat
  | .lit (.string bytes) => bytes.length + 1
  | .lit _ => 1
  | .nil => 1
  | .ptr d => uptoBulk d + 1
  | .slice elems spare => uptoBulkAll elems + uptoBulkAll spare + 1
  | .agg parts => uptoBulkAll parts + 1
  | .iface _ d => uptoBulk d + 1
  | .map entries => uptoBulkEntries entries + 1
  | .held _ => 1
def uptoBulkAll {H : Type} : List (DataW H) → Nat
  | [] => 0
  | d :: r => uptoBulk d + uptoBulkAll r
def uptoBulkEntries {H : Type} : List (Lit × DataW H) → Nat
  | [] => 0
  | x :: r => uptoBulkEntry x + uptoBulkEntries r
def uptoBulkEntry {H : Type} : Lit × DataW H → Nat
  | (.string bytes, d) => bytes.length + uptoBulk d + 1
  | (_, d) => uptoBulk d + 1
 end
def uptoSmall : (H : Type) → List (DataW H) → Bool := fun _ ds => decide (uptoBulkAll ds ≤ 1048576)
def OpenSpec.upto (s : _root_.Go.ChangeSpec) : _root_.Go.OpenSpec := { _root_.Go.OpenSpec.ofChange s with cond := some uptoSmall }

/-- 'laws.FnLinear', WHERE WHAT IT READS IS OF BULK AT MOST 1048576: true; the input reads as it did. -/
def fnLinearUptoRow : OpenClaim := { program := "ytcnnijeokefboaagreatdoor", sum := "5e3538082ee270dc99391f914ca1fc2882fc2245155c79ff4a51e2e105f97835", func := "loop.example/g01411/laws.FnLinear", spec := "fnLinear", unfollowed := true, recurses := true, named := ["loop.example/g01411/impl.errNotLinear"], ifaces := true, apart := false, laid := [("loop.example/g01411/impl.errNotLinear", laid_loop_example_g01411_impl_errNotLinear)], narrowed := true }
def FnLinearUptoSaid : Prop := fnLinearUptoRow.holds Tryz.pinned (OpenSpec.upto fnLinearSpec)

/-- 'laws.FnLeaders', WHERE WHAT IT READS IS OF BULK AT MOST 1048576: true; the input reads as it did. -/
def fnLeadersUptoRow : OpenClaim := { program := "ytcnnijeokefboaagreatdoor", sum := "5e3538082ee270dc99391f914ca1fc2882fc2245155c79ff4a51e2e105f97835", func := "loop.example/g01411/laws.FnLeaders", spec := "fnLeaders", unfollowed := true, recurses := true, named := ["loop.example/g01411/impl.errNotLinear"], ifaces := true, apart := false, laid := [("loop.example/g01411/impl.errNotLinear", laid_loop_example_g01411_impl_errNotLinear)], narrowed := true }
def FnLeadersUptoSaid : Prop := fnLeadersUptoRow.holds Tryz.pinned (OpenSpec.upto fnLeadersSpec)

end Rows
end Go.Proofs.YtcnnijeokefboaaGreatDoor
