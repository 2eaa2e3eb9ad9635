/-
  Texts put together: Open, OpenB, DoorV, EndFnLinear. By an AI agent.
-/
import Derived.Test.YtcnnijeokefboaaGreatDoorMem
import Derived.ProofKit
import Derived.OpenShut
import Derived.Test.YtcnnijeokefboaaGreatDoorPkSrc
import Derived.Test.YtcnnijeokefboaaGreatDoorPkDoor
import Derived.ChangeSame
import Derived.ChangeVars
import Derived.JoinedOf
import Derived.RowKit
import Derived.RowKitTokens
import Derived.LaidLaws
import Derived.Stop.ErrReads
import Derived.Below
import Derived.Test.YtcnnijeokefboaaGreatDoorPkLawFnLinear
import Derived.ShutString
import Derived.ChangeOld
import Derived.Conc.Holds
import Derived.Leaving
namespace Go.Proofs.YtcnnijeokefboaaGreatDoor
open Go.RowKit Go.ChangeShapes Go.WideShapes Go.ChangeAt Cv
set_option linter.unusedVariables false
set_option maxRecDepth 100000

theorem own : ownKnob Tryz.prog.godebug = none := by kernel_rfl
theorem laidOut : laidOutB Tryz.prog = true := by kernel_rfl

theorem wf_i64_bd {n : Int} (h : (Lit.int .i64 n).wf = true) : -9223372036854775808 ≤ n ∧ n ≤ 9223372036854775807 := by
  simpa [Lit.wf, IntKind.min, IntKind.max, IntKind.signed, IntKind.bits] using h

theorem row_ints {H : Type} {enc : TypeId × Value → H} {W : World} {sp : Nat → Bool} {fuel : Nat} {v : Value} {x : DataW H × List MemPlace} {a : Option Addr} {len cap : Nat} (hv : v = .slice a len cap)
    (hf : DataW.trod enc Tryz.prog W 0 sp true fuel 24 [v] = some x) : ∃ S : List Int, len = S.length ∧ S.length ≤ 9223372036854775807 ∧ Ints W a S := by
  subst hv
  rcases open_ints Tryz.underlying24 Tryz.underlying2 (by kernel_rfl) hf with ⟨hcs, _⟩ | ⟨ad, l, c, zs, hcs, _, hl, hm, hz, _, hcell, hwz⟩
  · simp only [List.cons.injEq, Value.slice.injEq, and_true] at hcs
    exact ⟨[], by simp [hcs.2.1], by simp, .inl rfl⟩
  · simp only [List.cons.injEq, Value.slice.injEq, and_true] at hcs
    obtain ⟨ha, hlen, hcap⟩ := hcs
    unfold maxLen at hm
    have hlz : l ≤ zs.length := by rw [hz]; split <;> omega
    have hlt : (zs.take l).length = l := by rw [List.length_take]; omega
    refine ⟨zs.take l, by rw [hlt]; exact hlen, by omega, ?_⟩
    by_cases h0 : l = 0
    · exact .inl (by omega)
    · obtain ⟨b, off, spot⟩ := ad
      have hc0 := hcell 0 (by omega)
      have hspot : spot = none := by simpa [Addr.add] using World.cell?_spot hc0
      subst hspot
      refine .inr ⟨b, off, ha, World.block_lt_of_cell? W _ hc0, fun i hi => ?_⟩
      have hci := hcell i (by omega)
      have e : gi (zs.take l) i = zs.getD i 0 := by rw [gi_take _ _ _ (by omega)]; rfl
      rw [e, ← hci]
      congr 1
      unfold Addr.add
      split
      · simp_all
      · rfl

theorem open_intsv {H : Type} {enc : TypeId × Value → H} {W : World} {base : Nat} {sp : Nat → Bool} {v : Value} {d : DataW H} {p : List MemPlace} (hv : Value.okWide Tryz.prog W .any base 24 v) (h : DataW.Trod enc Tryz.prog W 0 sp true 24 v d p) :
    ∃ (a : Option Addr) (S : List Int) (cap : Nat), v = .slice a S.length cap ∧ S.length ≤ 9223372036854775807 ∧ Ints W a S := by
  obtain ⟨a, len, cap, rfl⟩ := okWide_slice Tryz.underlying24 hv
  obtain ⟨fuel, hf⟩ := h
  obtain ⟨S, hl, h1, h2⟩ := row_ints rfl (by simpa [Value.cells] using hf)
  subst hl
  exact ⟨a, S, cap, rfl, h1, h2⟩




end Go.Proofs.YtcnnijeokefboaaGreatDoor

namespace Go.Proofs.YtcnnijeokefboaaGreatDoor
open Go.RowKit Go.ChangeShapes Go.WideShapes Go.ChangeAt Cv
set_option linter.unusedVariables false
set_option maxRecDepth 100000

theorem row_bytes {H : Type} {enc : TypeId × Value → H} {W : World} {sp : Nat → Bool} {fuel : Nat} {v : Value} {x : DataW H × List MemPlace} {a : Option Addr} {len cap : Nat} (hv : v = .slice a len cap)
    (hf : DataW.trod enc Tryz.prog W 0 sp true fuel 22 [v] = some x) : Byts W W.heap.size a len := by
  subst hv
  rcases open_ints Tryz.underlying22 Tryz.underlying5 (by kernel_rfl) hf with ⟨hcs, _⟩ | ⟨ad, l, c, zs, hcs, _, hl, hm, hz, _, hcell, hwz⟩
  · simp only [List.cons.injEq, Value.slice.injEq, and_true] at hcs
    exact .inl hcs.2.1
  · simp only [List.cons.injEq, Value.slice.injEq, and_true] at hcs
    obtain ⟨ha, hlen, hcap⟩ := hcs
    have hlz : l ≤ zs.length := by rw [hz]; split <;> omega
    by_cases h0 : l = 0
    · exact .inl (by omega)
    · obtain ⟨b, off, spot⟩ := ad
      have hc0 := hcell 0 (by omega)
      have hspot : spot = none := by simpa [Addr.add] using World.cell?_spot hc0
      subst hspot
      refine .inr ⟨b, off, ha, World.block_lt_of_cell? W _ hc0, fun i hi => ?_⟩
      have hlt : i < zs.length := by omega
      have hci := hcell i hlt
      have hw := hwz (zs.getD i 0) (by rw [List.getD_eq_getElem?_getD, List.getElem?_eq_getElem hlt]; exact List.getElem_mem hlt)
      simp [Lit.wf, IntKind.min, IntKind.max, IntKind.signed, IntKind.bits] at hw
      refine ⟨zs.getD i 0, by simp; omega, by simp; omega, ?_⟩
      rw [← hci]
      congr 1
      unfold Addr.add
      split
      · simp_all
      · rfl

theorem open_bytesv {H : Type} {enc : TypeId × Value → H} {W : World} {base : Nat} {sp : Nat → Bool} {v : Value} {d : DataW H} {p : List MemPlace} (hv : Value.okWide Tryz.prog W .any base 22 v) (h : DataW.Trod enc Tryz.prog W 0 sp true 22 v d p) :
    ∃ (a : Option Addr) (n cap : Nat), v = .slice a n cap ∧ Byts W W.heap.size a n := by
  obtain ⟨a, len, cap, rfl⟩ := okWide_slice Tryz.underlying22 hv
  obtain ⟨fuel, hf⟩ := h
  exact ⟨a, len, cap, rfl, row_bytes rfl (by simpa [Value.cells] using hf)⟩

end Go.Proofs.YtcnnijeokefboaaGreatDoor

namespace Go.Proofs.YtcnnijeokefboaaGreatDoor.DoorVar
open Go.ChangeShapes Go.WideShapes Go.RowKit
set_option linter.unusedVariables false
set_option maxRecDepth 100000

abbrev nm : String := "loop.example/g01411/impl.errNotLinear"
abbrev laid1 : List (String × DataW Unit) := [(nm, Rows.laid_loop_example_g01411_impl_errNotLinear)]
theorem glob : Tryz.prog.globalNamed nm = some 0 := by kernel_rfl
theorem globType : (Tryz.prog.globals[0]?).map (·.type) = some 97 := by kernel_rfl
theorem cellsE : Tryz.prog.cellsOf 171 = 1 := by kernel_rfl
theorem cellsS : Tryz.prog.cellsOf 9 = 1 := by kernel_rfl
theorem star : "*" ++ "errors.errorString" = "*errors.errorString" := by decide
theorem rowE (u : TypeId) (h : Tryz.prog.typeName? 3 u = some "*errors.errorString") : u = 153 :=
  typeName_ptr_named (nm := "errors.errorString") (by rw [star]; kernel_rfl) (by kernel_rfl) (by decide) u (by rw [star]; exact h)

theorem sentinel_of_laid {W : World} (h : laidMet Tryz.prog laid1 W) : ∃ a0 : Addr, W.var? Tryz.prog nm = some #[.iface 153 (.pointer (some a0))] := by
  obtain ⟨ps, ⟨g0, t0, cs0, f0, p0, q0, hg0, ht0, hv0, hd0, hq0, e0⟩, hnd, hrows⟩ := h
  obtain rfl := Option.some.inj (glob.symm.trans hg0)
  obtain rfl := Option.some.inj (globType.symm.trans ht0)
  have hq0' : q0 = [] := hq0
  subst hq0'
  subst e0
  obtain ⟨l0⟩ := cs0
  have ok0 : ∀ u v, l0 = [.iface u v] → Value.okWide Tryz.prog W .any 0 u v := fun u v e => by
    subst e
    exact (hrows 0 0 (by simp [MemPlace.row])).2 u v (by simpa using World.var?_cell hg0 hv0 0)
  obtain ⟨a0, s0, rfl, hc0, hs0, hz0, rfl⟩ := errorString_of_trod Tryz.underlying97 rowE Tryz.underlying153 Tryz.underlying171 rfl rfl Tryz.underlying9 cellsE cellsS hd0 ok0
  exact ⟨a0, hv0⟩

abbrev txt : ByteArray := { data := #[116, 104, 101, 32, 99, 111, 100, 101, 32, 105, 115, 32, 110, 111, 116, 32, 108, 105, 110, 101, 97, 114] }
noncomputable def low : Nat := (World.holding Tryz.prog default ⟨#[], #[], []⟩).heap.size
noncomputable def laidWorld (os : Os) : World :=
  let w0 := World.holding Tryz.prog os ⟨#[.cells #[.string txt] 171], #[], []⟩
  { w0 with heap := w0.heap.modify 0 fun
      | .cells _ t frozen => .cells #[.iface 153 (.pointer (some ⟨low, 0, none⟩))] t frozen
      | o => o }
theorem laidWorld_met (os : Os) (args : Array Value) : laidMet Tryz.prog laid1 ((laidWorld os).forCall (fun _ _ => 0) ⟨#[], args, []⟩).memory :=
  laidMet_of_run (ps := [.cell 0 0, .cell low 0]) 8 (by kernel_rfl) (by kernel_rfl) (by kernel_rfl)

theorem var_block {W W' : World} {cs : Array Value} (h : W.var? Tryz.prog nm = some cs) (hb : W'.heap[0]? = W.heap[0]?) : W'.var? Tryz.prog nm = some cs := by
  unfold World.var? at h ⊢
  simp only [glob, Option.bind_some] at h ⊢
  rw [hb]; exact h
theorem var_read {H : Type} (enc : TypeId × Value → H) {W : World} {x0 : Value} (h0 : W.var? Tryz.prog nm = some #[x0]) (i0 : IsIface x0) (sp : Nat → Bool) :
    DataW.TrodVars enc Tryz.prog W sp [nm] [tok enc x0] [.cell 0 0] :=
  ⟨0, 97, #[x0], 1, [], [], glob, globType, h0, trod_held Tryz.underlying97 i0 0, rfl, rfl⟩
theorem glob_of {W : World} {a0 : Addr} (hv : W.var? Tryz.prog nm = some #[.iface 153 (.pointer (some a0))]) : Glob (.pointer (some a0)) W := by
  have hg0 : W.cell? ⟨0, 0, none⟩ = some (.iface 153 (.pointer (some a0))) := by simpa using World.var?_cell glob hv 0
  refine ⟨hg0, ?_⟩
  rcases Nat.lt_or_ge 0 W.heap.size with h | h
  · exact h
  · simp [World.cell?, Array.getElem?_eq_none h] at hg0

end Go.Proofs.YtcnnijeokefboaaGreatDoor.DoorVar

namespace Go.Proofs.YtcnnijeokefboaaGreatDoor.fnLinearClosed
open Go.ChangeShapes Go.WideShapes Go.ChangeAt Go.RowKit
open Go.ChangeMaps (open_string shut_string)
open Go.Proofs.YtcnnijeokefboaaGreatDoor.DoorVar
set_option linter.unusedVariables false

set_option maxRecDepth 100000 in
theorem lifted (os : Os) (started : os.Started) (H : Type) (enc : TypeId × Value → H) :
    ReturnsInHanded {} Tryz.checked os 3 .any (fun w args => (Rows.fnLinearSpec.pre enc Tryz.prog Tryz.f3 [] false w args ∧ laidMet Tryz.prog laid1 w) ∧ sizedMet enc Tryz.prog Tryz.f3 (OpenSpec.ofChange Rows.fnLinearSpec) false w args)
      (Rows.fnLinearSpec.post enc Tryz.prog Tryz.f3 false true false false) := by
  refine returnsInHanded_of_change_and (C := Tryz.checked) (X := fun w _ => laidMet Tryz.prog laid1 w) (fun _ _ _ hh h => h.of_heap hh) own started (by kernel_rfl) Tryz.func3
    (ChangeSpec.witness_at (enc := enc) (C := Tryz.checked) (os := os) (X := fun w _ => laidMet Tryz.prog laid1 w) false (laidWorld os) #[.slice none 0 0] 8 rfl (by kernel_rfl) (by kernel_rfl) (by kernel_rfl) (by kernel_rfl) (by kernel_rfl) (laidWorld_met os _)) ?_
  intro W base args ds gs before hval0 hW _ _ hL _
  have hval : ∀ (j : Nat) t v, Tryz.f3.params[j]? = some t → args[j]? = some v → Value.okWide Tryz.prog W .any base t v := hval0
  have hW' := hW
  obtain ⟨p, q, hA0, hV0, rfl, hfz, hnd⟩ := hW
  have hV : DataW.TrodVars enc Tryz.prog W (fun _ => true) [nm] gs q := hV0
  have hA : DataW.TrodAll enc Tryz.prog W 0 (fun _ => true) true Tryz.f3.params.toList args.toList ds p := hA0
  rw [Tryz.params3] at hA hval
  obtain ⟨v0, vs0, d0, ds0, p0, q0, hargs, rfl, rfl, h0, r0⟩ := trodAll_cons hA
  obtain ⟨rfl, rfl, rfl⟩ := trodAll_nil r0
  obtain rfl : args = #[v0] := by cases args; simp_all
  obtain ⟨e0, hv0⟩ := sentinel_of_laid hL
  obtain ⟨rfl, rfl⟩ := hV.unique (var_read enc hv0 trivial _)
  have hGl := glob_of hv0
  have k0 := h0
  have lt0 : ∀ x ∈ p0, x.block < W.heap.size := by obtain ⟨m, hm⟩ := k0; exact DataW.trod_lt m _ _ _ hm
  obtain ⟨ao0, n0, cap0, rfl, hY0⟩ := open_bytesv (hval 0 22 v0 rfl rfl) h0
  clear hA0 hval0
  refine (law_FnLinear ao0 n0 cap0 W _ hGl hY0).mono fun e W' ⟨he, bel⟩ => ?_
  subst he
  exact ⟨_, rfl, _, _, _, [], _, [.cell 0 0], hW', trodAll_mk1 (shut_bool Tryz.underlying4 _), (trodAll_cons_mk (Below.trod laidOut (by kernel_rfl) (of_decide_eq_true (by kernel_rfl)) k0 bel lt0) trodAll_mk0), var_read enc (var_block hv0 (bel.block 0 hGl.2)) trivial _, bel.frame _, fun h => by cases h⟩

theorem leaves {a : Assume} {C : Checked} {os : Os} {f : FuncId} {r : Reach} {Pre : World → Array Value → Prop} {Post : World → Array Value → Value → World → Prop} (h : ReturnsInHanded a C os f r Pre Post) : ReturnsInLeavingWide a C os f r Pre Post :=
  fun enter => ReturnsInOpen.mono (fun _ _ _ x => ⟨x.2.1, onlyLeaving_of_quiet x.1, x.2.2⟩) (fun _ x => x) (h enter)

theorem over : Rows.fnLinearRow.holds Tryz.pinned (OpenSpec.ofChange Rows.fnLinearSpec) := by
  first
  | exact OpenClaim.holds_of_wide 3 Tryz.f3 rfl rfl rfl rfl rfl rfl rfl ⟨rfl, rfl, rfl, rfl, rfl⟩ rfl rfl rfl rfl rfl (by kernel_rfl) Tryz.func3 (by kernel_rfl)
      (of_decide_eq_true (by kernel_rfl)) (by unfold Func.isWrapper; first | (rw [if_pos (by decide +kernel)]; kernel_rfl) | (rw [if_neg (by decide +kernel)]; exact ⟨rfl, rfl⟩))
      (fun os started H enc _ => lifted os started H enc)
  | exact OpenClaim.holds_of_wide_leaving 3 Tryz.f3 rfl rfl rfl rfl rfl rfl rfl ⟨rfl, rfl, rfl, rfl, rfl⟩ rfl rfl rfl rfl rfl (by kernel_rfl) Tryz.func3 (by kernel_rfl)
      (of_decide_eq_true (by kernel_rfl)) (by unfold Func.isWrapper; first | (rw [if_pos (by decide +kernel)]; kernel_rfl) | (rw [if_neg (by decide +kernel)]; exact ⟨rfl, rfl⟩))
      (fun os started H enc _ => leaves (lifted os started H enc))

theorem proved : Rows.FnLinearSaid := over
end Go.Proofs.YtcnnijeokefboaaGreatDoor.fnLinearClosed
