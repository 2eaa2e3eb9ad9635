/-
  A region that draws its order, whose operations only read and whose callees leave alone what was there (they may make memory): one walk, in the order of the text. By an AI agent.
-/
import Derived.Test.YtamebfbddoeflaaPkMem
namespace Go.Proofs.Ytamebfbddoeflaa
open Go.RowKit Cv
set_option linter.unusedVariables false

/-- a world in which all that was there in w is as it was -/
def Fam (w : World) : Type := { w' : World // Below w.heap.size w w' }
def fam (w : World) (x : Fam w) : World := x.1
instance famNonempty (w : World) : Nonempty (Fam w) := ⟨⟨w, Below.refl _ _⟩⟩
theorem fam_below {w : World} (x : Fam w) : Below w.heap.size w (fam w x) := x.2
theorem fam_cell {w : World} {b o : Nat} {v : Value} (h : w.cell? ⟨b, o, none⟩ = some v) : ∀ x : Fam w, (fam w x).cell? ⟨b, o, none⟩ = some v :=
  fun x => kept_cell (fam_below x) h (World.block_lt_of_cell? w _ h)
theorem fam_calls {P : Program} {f : FuncId} {args : Array Value} {w : World} {x : Fam w} {v : Value}
    (h : Calls P f args (fam w x) fun e w' => e = .returned v ∧ Below (fam w x).heap.size (fam w x) w') : Calls P f args (fam w x) fun e w'' => e = .returned v ∧ ∃ y : Fam w, w'' = fam w y :=
  h.mono fun _ w' ⟨he, hb⟩ => ⟨he, ⟨w', (fam_below x).trans (hb.mono (fam_below x).size)⟩, rfl⟩
theorem fam_same {P : Program} {f : FuncId} {args : Array Value} {w : World} {x : Fam w} {v : Value}
    (h : Calls P f args (fam w x) fun e w' => e = .returned v ∧ fam w x = w') : Calls P f args (fam w x) fun e w'' => e = .returned v ∧ ∃ y : Fam w, w'' = fam w y :=
  h.mono fun _ w' ⟨he, hb⟩ => ⟨he, x, hb.symm⟩
theorem wp_region_fam {P : Program} {id : Nat} {Q : Exit → Act → World → Prop} {a : Act} {w : World} {l : List Oper} (hm : P.follows .mixedOrders = true) (hB : Region.lexB .any l.toArray = true)
    (h : wpQuiet P l.toArray (fun w' => ∃ x : Fam w, w' = fam w x) (fun a' => ∀ w', (∃ x : Fam w, w' = fam w x) → Q .normal a' w') l a) : (Code.region id l.toArray true).wp P Q a w :=
  wp_region_quiet (C := fun w' => ∃ x : Fam w, w' = fam w x) hm hB ⟨⟨w.drew, (Below.refl _ _).drew⟩, rfl⟩ (by simpa using h)

end Go.Proofs.Ytamebfbddoeflaa
