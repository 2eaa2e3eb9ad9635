/-
  No cell of these rows narrows 'for every input' (looked for: loops, veiled, ifaces, maps, wideKeys, modest, calm, conditions, laid).
  DERIVED. THE GIVEN ROWS OF THIS SEAT. 9 by the template 'for every input the law returns true; each argument reads behind the call as it read before'; 0 by the template 'total and deterministic' (their statements: YtclahcnkkkgdhaaTotals.lean).
  GIVEN WITH THE SEED: the statements are not yours to turn. If you find one false, say at which input.
  Laid BY PROGRAM, IN A SANDBOX (cutbox-rows.mjs): the forced cells as the released guide's own fill.sh prints them over the translation 53c6c2d13e512f67… (all of the seat's roots in one cut). By AI agents, Wed Nov 11 2026. No macro, syntax, notation, axiom, sorry.
-/
import Derived.Test.YtclahcnkkkgdhaaChecked
import GoSem.Claim
import GoSem.ClaimJoined
import GoSem.ClaimMapViews
import Derived.JoinedTies
import Derived.KernelRfl
namespace Go.Proofs.Ytclahcnkkkgdhaa
/- THE CELL 'sum', in the pinned program and in every row, IS THE sha256 OF THE DUMP (.gsa) THAT YtclahcnkkkgdhaaProg.lean LOADS. Nothing in Lean hashes anything: it is a label: what it is worth is what the hold of that sum in a sandbox is worth. -/
noncomputable def Try.pinned : Pinned := { name := "ytclahcnkkkgdhaa", sum := "53c6c2d13e512f67ce16f8e6099649dc665894cc8fddeb1e4de68e58c832d96a", checked := Try.checked }
namespace Rows
def none {H : Type} : Left H := { results := [], args := [] }

/-- 'laws.FnExactIsLottery': WHATEVER THE INPUT: true; the input reads as it did. -/
def fnExactIsLotterySpec : ChangeSpec := { name := "fnExactIsLottery", fn := fun _ => fun
  | [d] => { results := [.lit (.bool true)], args := [d] }
  | _ => none }
def fnExactIsLotteryRow : OpenClaim := { program := "ytclahcnkkkgdhaa", sum := "53c6c2d13e512f67ce16f8e6099649dc665894cc8fddeb1e4de68e58c832d96a", func := "loop.example/g01411/laws.FnExactIsLottery", spec := "fnExactIsLottery", apart := false }
def FnExactIsLotterySaid : Prop := fnExactIsLotteryRow.holds Try.pinned (OpenSpec.ofChange fnExactIsLotterySpec)

/-- ITS FALSE NEIGHBOUR: 'it returns false'. Refute it at one input. -/
def fnExactIsLotteryWrong : ChangeSpec := { name := "fnExactIsLottery", fn := fun _ => fun
  | [d] => { results := [.lit (.bool false)], args := [d] }
  | _ => none }
def FnExactIsLotteryWrongFalsely : Prop := fnExactIsLotteryRow.holds Try.pinned (OpenSpec.ofChange fnExactIsLotteryWrong)

/-- 'laws.FnExactCountTickets': WHATEVER THE INPUT: true; the input reads as it did. -/
def fnExactCountTicketsSpec : ChangeSpec := { name := "fnExactCountTickets", fn := fun _ => fun
  | [d] => { results := [.lit (.bool true)], args := [d] }
  | _ => none }
def fnExactCountTicketsRow : OpenClaim := { program := "ytclahcnkkkgdhaa", sum := "53c6c2d13e512f67ce16f8e6099649dc665894cc8fddeb1e4de68e58c832d96a", func := "loop.example/g01411/laws.FnExactCountTickets", spec := "fnExactCountTickets", apart := false }
def FnExactCountTicketsSaid : Prop := fnExactCountTicketsRow.holds Try.pinned (OpenSpec.ofChange fnExactCountTicketsSpec)

/-- ITS FALSE NEIGHBOUR: 'it returns false'. Refute it at one input. -/
def fnExactCountTicketsWrong : ChangeSpec := { name := "fnExactCountTickets", fn := fun _ => fun
  | [d] => { results := [.lit (.bool false)], args := [d] }
  | _ => none }
def FnExactCountTicketsWrongFalsely : Prop := fnExactCountTicketsRow.holds Try.pinned (OpenSpec.ofChange fnExactCountTicketsWrong)

/-- 'laws.FnExactCountDraws': WHATEVER THE INPUT: true; the input reads as it did. -/
def fnExactCountDrawsSpec : ChangeSpec := { name := "fnExactCountDraws", fn := fun _ => fun
  | [d] => { results := [.lit (.bool true)], args := [d] }
  | _ => none }
def fnExactCountDrawsRow : OpenClaim := { program := "ytclahcnkkkgdhaa", sum := "53c6c2d13e512f67ce16f8e6099649dc665894cc8fddeb1e4de68e58c832d96a", func := "loop.example/g01411/laws.FnExactCountDraws", spec := "fnExactCountDraws", apart := false }
def FnExactCountDrawsSaid : Prop := fnExactCountDrawsRow.holds Try.pinned (OpenSpec.ofChange fnExactCountDrawsSpec)

/-- ITS FALSE NEIGHBOUR: 'it returns false'. Refute it at one input. -/
def fnExactCountDrawsWrong : ChangeSpec := { name := "fnExactCountDraws", fn := fun _ => fun
  | [d] => { results := [.lit (.bool false)], args := [d] }
  | _ => none }
def FnExactCountDrawsWrongFalsely : Prop := fnExactCountDrawsRow.holds Try.pinned (OpenSpec.ofChange fnExactCountDrawsWrong)

/-- 'laws.FnExactTicketOf': WHATEVER THE INPUT: true; the input reads as it did. -/
def fnExactTicketOfSpec : ChangeSpec := { name := "fnExactTicketOf", fn := fun _ => fun
  | [d1, d2] => { results := [.lit (.bool true)], args := [d1, d2] }
  | _ => none }
def fnExactTicketOfRow : OpenClaim := { program := "ytclahcnkkkgdhaa", sum := "53c6c2d13e512f67ce16f8e6099649dc665894cc8fddeb1e4de68e58c832d96a", func := "loop.example/g01411/laws.FnExactTicketOf", spec := "fnExactTicketOf", unfollowed := true, recurses := true, apart := false }
def FnExactTicketOfSaid : Prop := fnExactTicketOfRow.holds Try.pinned (OpenSpec.ofChange fnExactTicketOfSpec)

/-- ITS FALSE NEIGHBOUR: 'it returns false'. Refute it at one input. -/
def fnExactTicketOfWrong : ChangeSpec := { name := "fnExactTicketOf", fn := fun _ => fun
  | [d1, d2] => { results := [.lit (.bool false)], args := [d1, d2] }
  | _ => none }
def FnExactTicketOfWrongFalsely : Prop := fnExactTicketOfRow.holds Try.pinned (OpenSpec.ofChange fnExactTicketOfWrong)

/-- 'laws.FnExactNumbersOf': WHATEVER THE INPUT: true; the input reads as it did. -/
def fnExactNumbersOfSpec : ChangeSpec := { name := "fnExactNumbersOf", fn := fun _ => fun
  | [d1, d2] => { results := [.lit (.bool true)], args := [d1, d2] }
  | _ => none }
def fnExactNumbersOfRow : OpenClaim := { program := "ytclahcnkkkgdhaa", sum := "53c6c2d13e512f67ce16f8e6099649dc665894cc8fddeb1e4de68e58c832d96a", func := "loop.example/g01411/laws.FnExactNumbersOf", spec := "fnExactNumbersOf", apart := false }
def FnExactNumbersOfSaid : Prop := fnExactNumbersOfRow.holds Try.pinned (OpenSpec.ofChange fnExactNumbersOfSpec)

/-- ITS FALSE NEIGHBOUR: 'it returns false'. Refute it at one input. -/
def fnExactNumbersOfWrong : ChangeSpec := { name := "fnExactNumbersOf", fn := fun _ => fun
  | [d1, d2] => { results := [.lit (.bool false)], args := [d1, d2] }
  | _ => none }
def FnExactNumbersOfWrongFalsely : Prop := fnExactNumbersOfRow.holds Try.pinned (OpenSpec.ofChange fnExactNumbersOfWrong)

/-- 'laws.FnExactRankOfTicket': WHATEVER THE INPUT: true; the input reads as it did. -/
def fnExactRankOfTicketSpec : ChangeSpec := { name := "fnExactRankOfTicket", fn := fun _ => fun
  | [d1, d2] => { results := [.lit (.bool true)], args := [d1, d2] }
  | _ => none }
def fnExactRankOfTicketRow : OpenClaim := { program := "ytclahcnkkkgdhaa", sum := "53c6c2d13e512f67ce16f8e6099649dc665894cc8fddeb1e4de68e58c832d96a", func := "loop.example/g01411/laws.FnExactRankOfTicket", spec := "fnExactRankOfTicket", unfollowed := true, recurses := true, apart := false }
def FnExactRankOfTicketSaid : Prop := fnExactRankOfTicketRow.holds Try.pinned (OpenSpec.ofChange fnExactRankOfTicketSpec)

/-- ITS FALSE NEIGHBOUR: 'it returns false'. Refute it at one input. -/
def fnExactRankOfTicketWrong : ChangeSpec := { name := "fnExactRankOfTicket", fn := fun _ => fun
  | [d1, d2] => { results := [.lit (.bool false)], args := [d1, d2] }
  | _ => none }
def FnExactRankOfTicketWrongFalsely : Prop := fnExactRankOfTicketRow.holds Try.pinned (OpenSpec.ofChange fnExactRankOfTicketWrong)

/-- 'laws.FnExactTicketOfRank': WHATEVER THE INPUT: true; the input reads as it did. -/
def fnExactTicketOfRankSpec : ChangeSpec := { name := "fnExactTicketOfRank", fn := fun _ => fun
  | [d1, d2] => { results := [.lit (.bool true)], args := [d1, d2] }
  | _ => none }
def fnExactTicketOfRankRow : OpenClaim := { program := "ytclahcnkkkgdhaa", sum := "53c6c2d13e512f67ce16f8e6099649dc665894cc8fddeb1e4de68e58c832d96a", func := "loop.example/g01411/laws.FnExactTicketOfRank", spec := "fnExactTicketOfRank", apart := false }
def FnExactTicketOfRankSaid : Prop := fnExactTicketOfRankRow.holds Try.pinned (OpenSpec.ofChange fnExactTicketOfRankSpec)

/-- ITS FALSE NEIGHBOUR: 'it returns false'. Refute it at one input. -/
def fnExactTicketOfRankWrong : ChangeSpec := { name := "fnExactTicketOfRank", fn := fun _ => fun
  | [d1, d2] => { results := [.lit (.bool false)], args := [d1, d2] }
  | _ => none }
def FnExactTicketOfRankWrongFalsely : Prop := fnExactTicketOfRankRow.holds Try.pinned (OpenSpec.ofChange fnExactTicketOfRankWrong)

/-- 'laws.FnExactCommonNumbers': WHATEVER THE INPUT: true; the input reads as it did. -/
def fnExactCommonNumbersSpec : ChangeSpec := { name := "fnExactCommonNumbers", fn := fun _ => fun
  | [d1, d2, d3] => { results := [.lit (.bool true)], args := [d1, d2, d3] }
  | _ => none }
def fnExactCommonNumbersRow : OpenClaim := { program := "ytclahcnkkkgdhaa", sum := "53c6c2d13e512f67ce16f8e6099649dc665894cc8fddeb1e4de68e58c832d96a", func := "loop.example/g01411/laws.FnExactCommonNumbers", spec := "fnExactCommonNumbers", unfollowed := true, recurses := true, apart := false }
def FnExactCommonNumbersSaid : Prop := fnExactCommonNumbersRow.holds Try.pinned (OpenSpec.ofChange fnExactCommonNumbersSpec)

/-- ITS FALSE NEIGHBOUR: 'it returns false'. Refute it at one input. -/
def fnExactCommonNumbersWrong : ChangeSpec := { name := "fnExactCommonNumbers", fn := fun _ => fun
  | [d1, d2, d3] => { results := [.lit (.bool false)], args := [d1, d2, d3] }
  | _ => none }
def FnExactCommonNumbersWrongFalsely : Prop := fnExactCommonNumbersRow.holds Try.pinned (OpenSpec.ofChange fnExactCommonNumbersWrong)

/-- 'laws.FnExactPrizesOf': WHATEVER THE INPUT: true; the input reads as it did. -/
def fnExactPrizesOfSpec : ChangeSpec := { name := "fnExactPrizesOf", fn := fun _ => fun
  | [d1, d2, d3] => { results := [.lit (.bool true)], args := [d1, d2, d3] }
  | _ => none }
def fnExactPrizesOfRow : OpenClaim := { program := "ytclahcnkkkgdhaa", sum := "53c6c2d13e512f67ce16f8e6099649dc665894cc8fddeb1e4de68e58c832d96a", func := "loop.example/g01411/laws.FnExactPrizesOf", spec := "fnExactPrizesOf", unfollowed := true, recurses := true, apart := false }
def FnExactPrizesOfSaid : Prop := fnExactPrizesOfRow.holds Try.pinned (OpenSpec.ofChange fnExactPrizesOfSpec)

/-- ITS FALSE NEIGHBOUR: 'it returns false'. Refute it at one input. -/
def fnExactPrizesOfWrong : ChangeSpec := { name := "fnExactPrizesOf", fn := fun _ => fun
  | [d1, d2, d3] => { results := [.lit (.bool false)], args := [d1, d2, d3] }
  | _ => none }
def FnExactPrizesOfWrongFalsely : Prop := fnExactPrizesOfRow.holds Try.pinned (OpenSpec.ofChange fnExactPrizesOfWrong)

/- THE SECOND FORM. 'bulk': how many values and letters a reading holds, each counted each time it is reached (what is shared counts as often as it is met; a slice's spare places count too). A statement '..UptoSaid' is the law's where the arguments, and the package variables that the reading takes, are together of bulk at most 1048576: NARROWER than '..Said'. Prove '..Said' where nothing that the law and all that it calls make is longer than what came in: it says more and counts as full. Else prove '..UptoSaid'. A law counts once. -/
mutual
def uptoBulk {H : Type} : DataW H → Nat
  | .lit (.string bytes) => bytes.length + 1
  | .lit _ => 1
  | .nil => 1
  | .ptr d => uptoBulk d + 1
  | .slice elems spare => uptoBulkAll elems + uptoBulkAll spare + 1
  | .agg parts => uptoBulkAll parts + 1
  | .iface _ d => uptoBulk d + 1
  | .map entries => uptoBulkEntries entries + 1
  | .held _ => 1
def uptoBulkAll {H : Type} : List (DataW H) → Nat
  | [] => 0
  | d :: r => uptoBulk d + uptoBulkAll r
def uptoBulkEntries {H : Type} : List (Lit × DataW H) → Nat
  | [] => 0
  | x :: r => uptoBulkEntry x + uptoBulkEntries r
def uptoBulkEntry {H : Type} : Lit × DataW H → Nat
  | (.string bytes, d) => bytes.length + uptoBulk d + 1
  | (_, d) => uptoBulk d + 1
 end
def uptoSmall : (H : Type) → List (DataW H) → Bool := fun _ ds => decide (uptoBulkAll ds ≤ 1048576)
def OpenSpec.upto (s : _root_.Go.ChangeSpec) : _root_.Go.OpenSpec := { _root_.Go.OpenSpec.ofChange s with cond := some uptoSmall }

/-- 'laws.FnExactIsLottery', WHERE WHAT IT READS IS OF BULK AT MOST 1048576: true; the input reads as it did. -/
def fnExactIsLotteryUptoRow : OpenClaim := { program := "ytclahcnkkkgdhaa", sum := "53c6c2d13e512f67ce16f8e6099649dc665894cc8fddeb1e4de68e58c832d96a", func := "loop.example/g01411/laws.FnExactIsLottery", spec := "fnExactIsLottery", apart := false, narrowed := true }
def FnExactIsLotteryUptoSaid : Prop := fnExactIsLotteryUptoRow.holds Try.pinned (OpenSpec.upto fnExactIsLotterySpec)

/-- 'laws.FnExactCountTickets', WHERE WHAT IT READS IS OF BULK AT MOST 1048576: true; the input reads as it did. -/
def fnExactCountTicketsUptoRow : OpenClaim := { program := "ytclahcnkkkgdhaa", sum := "53c6c2d13e512f67ce16f8e6099649dc665894cc8fddeb1e4de68e58c832d96a", func := "loop.example/g01411/laws.FnExactCountTickets", spec := "fnExactCountTickets", apart := false, narrowed := true }
def FnExactCountTicketsUptoSaid : Prop := fnExactCountTicketsUptoRow.holds Try.pinned (OpenSpec.upto fnExactCountTicketsSpec)

/-- 'laws.FnExactCountDraws', WHERE WHAT IT READS IS OF BULK AT MOST 1048576: true; the input reads as it did. -/
def fnExactCountDrawsUptoRow : OpenClaim := { program := "ytclahcnkkkgdhaa", sum := "53c6c2d13e512f67ce16f8e6099649dc665894cc8fddeb1e4de68e58c832d96a", func := "loop.example/g01411/laws.FnExactCountDraws", spec := "fnExactCountDraws", apart := false, narrowed := true }
def FnExactCountDrawsUptoSaid : Prop := fnExactCountDrawsUptoRow.holds Try.pinned (OpenSpec.upto fnExactCountDrawsSpec)

/-- 'laws.FnExactTicketOf', WHERE WHAT IT READS IS OF BULK AT MOST 1048576: true; the input reads as it did. -/
def fnExactTicketOfUptoRow : OpenClaim := { program := "ytclahcnkkkgdhaa", sum := "53c6c2d13e512f67ce16f8e6099649dc665894cc8fddeb1e4de68e58c832d96a", func := "loop.example/g01411/laws.FnExactTicketOf", spec := "fnExactTicketOf", unfollowed := true, recurses := true, apart := false, narrowed := true }
def FnExactTicketOfUptoSaid : Prop := fnExactTicketOfUptoRow.holds Try.pinned (OpenSpec.upto fnExactTicketOfSpec)

/-- 'laws.FnExactNumbersOf', WHERE WHAT IT READS IS OF BULK AT MOST 1048576: true; the input reads as it did. -/
def fnExactNumbersOfUptoRow : OpenClaim := { program := "ytclahcnkkkgdhaa", sum := "53c6c2d13e512f67ce16f8e6099649dc665894cc8fddeb1e4de68e58c832d96a", func := "loop.example/g01411/laws.FnExactNumbersOf", spec := "fnExactNumbersOf", apart := false, narrowed := true }
def FnExactNumbersOfUptoSaid : Prop := fnExactNumbersOfUptoRow.holds Try.pinned (OpenSpec.upto fnExactNumbersOfSpec)

/-- 'laws.FnExactRankOfTicket', WHERE WHAT IT READS IS OF BULK AT MOST 1048576: true; the input reads as it did. -/
def fnExactRankOfTicketUptoRow : OpenClaim := { program := "ytclahcnkkkgdhaa", sum := "53c6c2d13e512f67ce16f8e6099649dc665894cc8fddeb1e4de68e58c832d96a", func := "loop.example/g01411/laws.FnExactRankOfTicket", spec := "fnExactRankOfTicket", unfollowed := true, recurses := true, apart := false, narrowed := true }
def FnExactRankOfTicketUptoSaid : Prop := fnExactRankOfTicketUptoRow.holds Try.pinned (OpenSpec.upto fnExactRankOfTicketSpec)

/-- 'laws.FnExactTicketOfRank', WHERE WHAT IT READS IS OF BULK AT MOST 1048576: true; the input reads as it did. -/
def fnExactTicketOfRankUptoRow : OpenClaim := { program := "ytclahcnkkkgdhaa", sum := "53c6c2d13e512f67ce16f8e6099649dc665894cc8fddeb1e4de68e58c832d96a", func := "loop.example/g01411/laws.FnExactTicketOfRank", spec := "fnExactTicketOfRank", apart := false, narrowed := true }
def FnExactTicketOfRankUptoSaid : Prop := fnExactTicketOfRankUptoRow.holds Try.pinned (OpenSpec.upto fnExactTicketOfRankSpec)

/-- 'laws.FnExactCommonNumbers', WHERE WHAT IT READS IS OF BULK AT MOST 1048576: true; the input reads as it did. -/
def fnExactCommonNumbersUptoRow : OpenClaim := { program := "ytclahcnkkkgdhaa", sum := "53c6c2d13e512f67ce16f8e6099649dc665894cc8fddeb1e4de68e58c832d96a", func := "loop.example/g01411/laws.FnExactCommonNumbers", spec := "fnExactCommonNumbers", unfollowed := true, recurses := true, apart := false, narrowed := true }
def FnExactCommonNumbersUptoSaid : Prop := fnExactCommonNumbersUptoRow.holds Try.pinned (OpenSpec.upto fnExactCommonNumbersSpec)

/-- 'laws.FnExactPrizesOf', WHERE WHAT IT READS IS OF BULK AT MOST 1048576: true; the input reads as it did. -/
def fnExactPrizesOfUptoRow : OpenClaim := { program := "ytclahcnkkkgdhaa", sum := "53c6c2d13e512f67ce16f8e6099649dc665894cc8fddeb1e4de68e58c832d96a", func := "loop.example/g01411/laws.FnExactPrizesOf", spec := "fnExactPrizesOf", unfollowed := true, recurses := true, apart := false, narrowed := true }
def FnExactPrizesOfUptoSaid : Prop := fnExactPrizesOfUptoRow.holds Try.pinned (OpenSpec.upto fnExactPrizesOfSpec)

end Rows
end Go.Proofs.Ytclahcnkkkgdhaa
