/-
  The variable that holds the error of a code that is not linear: what the row tells of it, a world that meets it. By an AI agent.
-/
import Derived.Test.YtdacokgmcenjoaaDoorDoor
import Derived.Test.YtdacokgmcenjoaaDoorOpen
import Derived.ProofKit
import Derived.ChangeSame
import Derived.ChangeVars
import Derived.JoinedOf
import Derived.RowKit
import Derived.RowKitTokens
import Derived.LaidLaws
import Derived.Stop.ErrReads
import Derived.Below
namespace Go.Proofs.YtdacokgmcenjoaaDoor.DoorVar
open Go.ChangeShapes Go.WideShapes Go.RowKit
set_option linter.unusedVariables false
set_option maxRecDepth 100000

abbrev nm : String := "loop.example/g01411/impl.errNotLinear"
abbrev laid1 : List (String × DataW Unit) := [(nm, Rows.laid_loop_example_g01411_impl_errNotLinear)]
theorem glob : Tryd.prog.globalNamed nm = some 0 := by kernel_rfl
theorem globType : (Tryd.prog.globals[0]?).map (·.type) = some 48 := by kernel_rfl
theorem cellsE : Tryd.prog.cellsOf 130 = 1 := by kernel_rfl
theorem cellsS : Tryd.prog.cellsOf 9 = 1 := by kernel_rfl
theorem star : "*" ++ "errors.errorString" = "*errors.errorString" := by decide
theorem rowE (u : TypeId) (h : Tryd.prog.typeName? 3 u = some "*errors.errorString") : u = 110 :=
  typeName_ptr_named (nm := "errors.errorString") (by rw [star]; kernel_rfl) (by kernel_rfl) (by decide) u (by rw [star]; exact h)

theorem sentinel_of_laid {W : World} (h : laidMet Tryd.prog laid1 W) : ∃ a0 : Addr, W.var? Tryd.prog nm = some #[.iface 110 (.pointer (some a0))] := by
  obtain ⟨ps, ⟨g0, t0, cs0, f0, p0, q0, hg0, ht0, hv0, hd0, hq0, e0⟩, hnd, hrows⟩ := h
  obtain rfl := Option.some.inj (glob.symm.trans hg0)
  obtain rfl := Option.some.inj (globType.symm.trans ht0)
  have hq0' : q0 = [] := hq0
  subst hq0'
  subst e0
  obtain ⟨l0⟩ := cs0
  have ok0 : ∀ u v, l0 = [.iface u v] → Value.okWide Tryd.prog W .any 0 u v := fun u v e => by
    subst e
    exact (hrows 0 0 (by simp [MemPlace.row])).2 u v (by simpa using World.var?_cell hg0 hv0 0)
  obtain ⟨a0, s0, rfl, hc0, hs0, hz0, rfl⟩ := errorString_of_trod Tryd.underlying48 rowE Tryd.underlying110 Tryd.underlying130 rfl rfl Tryd.underlying9 cellsE cellsS hd0 ok0
  exact ⟨a0, hv0⟩

abbrev txt : ByteArray := { data := #[116, 104, 101, 32, 99, 111, 100, 101, 32, 105, 115, 32, 110, 111, 116, 32, 108, 105, 110, 101, 97, 114] }
noncomputable def low : Nat := (World.holding Tryd.prog default ⟨#[], #[], []⟩).heap.size
noncomputable def laidWorld (os : Os) : World :=
  let w0 := World.holding Tryd.prog os ⟨#[.cells #[.string txt] 130], #[], []⟩
  { w0 with heap := w0.heap.modify 0 fun
      | .cells _ t frozen => .cells #[.iface 110 (.pointer (some ⟨low, 0, none⟩))] t frozen
      | o => o }
theorem laidWorld_met (os : Os) (args : Array Value) : laidMet Tryd.prog laid1 ((laidWorld os).forCall (fun _ _ => 0) ⟨#[], args, []⟩).memory :=
  laidMet_of_run (ps := [.cell 0 0, .cell low 0]) 8 (by kernel_rfl) (by kernel_rfl) (by kernel_rfl)

theorem var_block {W W' : World} {cs : Array Value} (h : W.var? Tryd.prog nm = some cs) (hb : W'.heap[0]? = W.heap[0]?) : W'.var? Tryd.prog nm = some cs := by
  unfold World.var? at h ⊢
  simp only [glob, Option.bind_some] at h ⊢
  rw [hb]; exact h
theorem var_read {H : Type} (enc : TypeId × Value → H) {W : World} {x0 : Value} (h0 : W.var? Tryd.prog nm = some #[x0]) (i0 : IsIface x0) (sp : Nat → Bool) :
    DataW.TrodVars enc Tryd.prog W sp [nm] [tok enc x0] [.cell 0 0] :=
  ⟨0, 48, #[x0], 1, [], [], glob, globType, h0, trod_held Tryd.underlying48 i0 0, rfl, rfl⟩
theorem glob_of {W : World} {a0 : Addr} (hv : W.var? Tryd.prog nm = some #[.iface 110 (.pointer (some a0))]) : Glob (.pointer (some a0)) W := by
  have hg0 : W.cell? ⟨0, 0, none⟩ = some (.iface 110 (.pointer (some a0))) := by simpa using World.var?_cell glob hv 0
  refine ⟨hg0, ?_⟩
  rcases Nat.lt_or_ge 0 W.heap.size with h | h
  · exact h
  · simp [World.cell?, Array.getElem?_eq_none h] at hg0

end Go.Proofs.YtdacokgmcenjoaaDoor.DoorVar
