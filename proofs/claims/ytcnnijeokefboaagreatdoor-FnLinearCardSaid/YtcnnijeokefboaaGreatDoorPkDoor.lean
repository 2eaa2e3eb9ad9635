/-
  The door behind which a code that is not linear is a panic. By an AI agent.
-/
import Derived.Test.YtcnnijeokefboaaGreatDoorPk31
import Derived.Defers
import Derived.Recover
import Derived.Shelf.Abstract
import Derived.Deep.WholeRow
namespace Go.Proofs.YtcnnijeokefboaaGreatDoor
open Go.RowKit Go.Shelf Cv
set_option linter.unusedVariables false
set_option linter.unusedSimpArgs false
set_option maxRecDepth 100000

/-- the variable that holds the error of a code that is not linear -/
def Glob (pv : Value) (w : World) : Prop := w.cell? ⟨0, 0, none⟩ = some (.iface 153 pv) ∧ 0 < w.heap.size
theorem Glob.below {pv : Value} {w w' : World} {n : Nat} (h : Glob pv w) (hb : Below n w w') (hn : 0 < n) : Glob pv w' := ⟨kept_cell hb h.1 hn, Nat.lt_of_lt_of_le h.2 hb.size⟩

theorem assert_yes (pv : Value) (w : World) : (Instr.typeAssert (.iface 153 pv) 20 97 true).run Tryz.prog w = .ok (.tuple #[.iface 153 pv, .bool true]) w := by kernel_rfl
theorem assert_nil (w : World) : (Instr.typeAssert .nilIface 20 97 true).run Tryz.prog w = .ok (.tuple #[.nilIface, .bool false]) w := by kernel_rfl

theorem catch_panicking (p : Addr) (pv : Value) (older : List PanicEntry) (w : World) (hc : w.cell? p = some (.int .i64 0)) (hz : w.frozen? p = false) :
    CallsD Tryz.prog 118 #[.pointer (some p)] (.panicking ({ v := .iface 153 pv, recovered := false } :: older)) w fun e u' w' =>
      e = .returned (.tuple #[]) ∧ u' = .panicking ({ v := .iface 153 pv, recovered := true } :: older) ∧ w' = w.setCell p (.int .i64 5) := by
  refine callsD_of_wpS Tryz.func118 rfl fun c₀ cs hu => ?_
  apply wpS_seq
  apply wpS_region
  simp [wpOpsS, go_sem, recoverD, hu, Tryz.ntmps118, Exit.thenS, assert_yes]
  apply wpS_seq
  apply wpS_region
  simp [wpOpsS, go_sem, Exit.thenS]
  refine wpS_cond (t := true) (by simp [Act.eval]) ?_
  simp only [if_true]
  apply wpS_region
  simp [wpOpsS, go_sem, hc, hz, bodyPostS, results, Tryz.results118]

theorem catch_idle (p : Addr) (w : World) :
    CallsD Tryz.prog 118 #[.pointer (some p)] .returning w fun e u' w' => e = .returned (.tuple #[]) ∧ u' = .returning ∧ w' = w := by
  refine callsD_of_wpS Tryz.func118 rfl fun c₀ cs hu => ?_
  apply wpS_seq
  apply wpS_region
  simp [wpOpsS, go_sem, recoverD, hu, Tryz.ntmps118, Exit.thenS, assert_nil]
  apply wpS_seq
  apply wpS_region
  simp [wpOpsS, go_sem, Exit.thenS]
  refine wpS_cond (t := false) (by simp [Act.eval]) ?_
  simp only [Bool.false_eq_true, if_false]
  refine wpS_of_wp (wp_skip ?_)
  cases c₀
  simp_all [bodyPostS, results, Tryz.results118]

theorem results_cell1d {fn : Func} {p : Tmp} {ty : TypeId} (h : fn.results = #[.cell p ty]) (tmps : Array Value) (P : Program) (w : World) :
    (results fn tmps).run P w = ((asAddr (tmps.getD p undef)).run P w).andThen fun a w₁ => (loadVar ty a).run P w₁ := by
  simp only [results, h]
  simp [Sem.run_bind, Result.andThen]

theorem box2m (w : World) (a b c : Value) (t u : TypeId) : ∃ W, W = (w.alloc (.cells #[a] t)).alloc (.cells #[b, c] u) ∧ W.cell? ⟨w.heap.size, 0, none⟩ = some a ∧ W.heap[w.heap.size + 1]? = some (.cells #[b, c] u (0, 0)) ∧ W.heap.size = w.heap.size + 2 ∧ Below w.heap.size w W := by
  have s1 : (w.alloc (.cells #[a] t)).heap.size = w.heap.size + 1 := World.size_alloc _ _
  have s2 : ((w.alloc (.cells #[a] t)).alloc (.cells #[b, c] u)).heap.size = w.heap.size + 2 := by rw [World.size_alloc, s1]
  have b1 : Below (w.alloc (.cells #[a] t)).heap.size (w.alloc (.cells #[a] t)) ((w.alloc (.cells #[a] t)).alloc (.cells #[b, c] u)) := (Below.refl _ _).alloc (Nat.le_refl _) _
  have b0 : Below w.heap.size w ((w.alloc (.cells #[a] t)).alloc (.cells #[b, c] u)) := ((Below.refl _ _).alloc (Nat.le_refl _) _).trans (b1.mono (by omega))
  have x1 := kept_cell b1 (cell_new w a t) (lt_alloc _ _)
  have x3 := heap_alloc_last (w.alloc (.cells #[a] t)) (.cells #[b, c] u)
  rw [s1] at x3
  exact ⟨_, rfl, x1, x3, s2, b0⟩

theorem linearCodeOf_yes (ao : Option Addr) (S : List Int) (cap : Nat) (hn : S.length ≤ 4294967296) (ac : Option Addr) (C : List Int) (capc : Nat) (hE : eCode S C = 0) (hl : linB S C = true) (w : World) (hS : Ints w ao S) (hC : Ints w ac C) :
    Calls Tryz.prog 111 #[.agg #[.slice ao S.length cap], .slice ac C.length capc] w fun e w' => e = .returned (.agg #[.slice ao S.length cap, .slice ac C.length capc]) ∧ Below w.heap.size w w' := by
  obtain ⟨W0, hW0, cS, rR, z0, B0⟩ := box2m w (.slice ao S.length cap) (.slice none 0 0) (.slice none 0 0) 26 64
  have HW0 := Lib.hid hW0
  have z0a : w.heap.size + 2 ≤ W0.heap.size := by omega
  have h1 := isLinear_any ao S cap hn ac C capc hE W0 (hS.below B0) (hC.below B0)
  rw [hl] at h1
  have H1 := Lib.hid h1
  clear hW0 z0 h1
  go_enter Tryz.func111, Tryz.ntmps111
  go_wp2_with fail
  rw [← HW0.out]
  refine H1.out.mono ?_
  rintro e w1 ⟨rfl, hb1⟩
  have s1 : w.heap.size + 2 ≤ w1.heap.size := by have := hb1.size; omega
  have cS1 := kept_cell hb1 cS (by omega)
  have rR1 : w1.heap[w.heap.size + 1]? = some (.cells #[.slice none 0 0, .slice none 0 0] 64 (0, 0)) := by rw [hb1.block (w.heap.size + 1) (by omega)]; exact rR
  have B1 := B0.trans (hb1.mono (by omega))
  have d0 : w1.cell? ⟨w.heap.size + 1, 0, none⟩ = some (.slice none 0 0) := by rw [cell_of_row w1 (w.heap.size + 1) 0 _ _ _ rR1]; rfl
  have d1 : w1.cell? ⟨w.heap.size + 1, 1, none⟩ = some (.slice none 0 0) := by rw [cell_of_row w1 (w.heap.size + 1) 1 _ _ _ rR1]; rfl
  have f0 : w1.frozen? ⟨w.heap.size + 1, 0, none⟩ = false := by have h' := rR1; simp [World.frozen?, h']
  have f1 : w1.frozen? ⟨w.heap.size + 1, 1, none⟩ = false := by have h' := rR1; simp [World.frozen?, h']
  clear hb1 cS rR H1
  have q1 : ((w1.setCell ⟨w.heap.size + 1, 0, none⟩ (.slice ao S.length cap)).setCell ⟨w.heap.size + 1, 1, none⟩ (.slice ac C.length capc)).cell? ⟨w.heap.size + 1, 1, none⟩ = some (.slice ac C.length capc) := World.cell?_setCell_same' _ _ _ (by rw [World.cell?_setCell_other _ _ _ _ (by simp)]; rw [d1]; rfl)
  have q0 : ((w1.setCell ⟨w.heap.size + 1, 0, none⟩ (.slice ao S.length cap)).setCell ⟨w.heap.size + 1, 1, none⟩ (.slice ac C.length capc)).cell? ⟨w.heap.size + 1, 0, none⟩ = some (.slice ao S.length cap) := by
    rw [World.cell?_setCell_other _ _ _ _ (by simp)]
    exact World.cell?_setCell_same' _ _ _ (by rw [d0]; rfl)
  have B2 : Below w.heap.size w (w1.setCell ⟨w.heap.size + 1, 0, none⟩ (.slice ao S.length cap)) := B1.setCell (show w.heap.size ≤ w.heap.size + 1 by omega) _
  have B3 : Below w.heap.size w ((w1.setCell ⟨w.heap.size + 1, 0, none⟩ (.slice ao S.length cap)).setCell ⟨w.heap.size + 1, 1, none⟩ (.slice ac C.length capc)) := B2.setCell (show w.heap.size ≤ w.heap.size + 1 by omega) _
  go_wp2_with fail
  refine bodyPost_ret (by rw [results_cell1d rfl]; go_simp; try rfl) rfl ?_
  exact ⟨rfl, B3⟩

theorem linearCodeOf_no (ao : Option Addr) (S : List Int) (cap : Nat) (hn : S.length ≤ 4294967296) (ac : Option Addr) (C : List Int) (capc : Nat) (hE : eCode S C = 0) (hl : linB S C = false) (pv : Value) (w : World) (hS : Ints w ao S) (hC : Ints w ac C) (hG : Glob pv w) :
    Calls Tryz.prog 111 #[.agg #[.slice ao S.length cap], .slice ac C.length capc] w fun e w' => e = .panicked [{ v := .iface 153 pv, recovered := false }] ∧ Below w.heap.size w w' := by
  obtain ⟨W0, hW0, cS, rR, z0, B0⟩ := box2m w (.slice ao S.length cap) (.slice none 0 0) (.slice none 0 0) 26 64
  have HW0 := Lib.hid hW0
  have z0a : w.heap.size + 2 ≤ W0.heap.size := by omega
  have h1 := isLinear_any ao S cap hn ac C capc hE W0 (hS.below B0) (hC.below B0)
  rw [hl] at h1
  have H1 := Lib.hid h1
  have hg0 := hG.below B0 hG.2
  have hpos := hG.2
  clear hW0 z0 h1 hG
  go_enter Tryz.func111, Tryz.ntmps111
  go_wp2_with fail
  rw [← HW0.out]
  refine H1.out.mono ?_
  rintro e w1 ⟨rfl, hb1⟩
  have hg1 := (hg0.below hb1 hg0.2).1
  have B1 := B0.trans (hb1.mono (by omega))
  clear hb1 cS rR H1
  go_wp2_with fail
  exact ⟨rfl, rfl, B1⟩

theorem box2i (w : World) (a b : Value) (t u : TypeId) : ∃ W, W = (w.alloc (.cells #[a] t)).alloc (.cells #[b] u) ∧ W.cell? ⟨w.heap.size, 0, none⟩ = some a ∧ W.heap[w.heap.size + 1]? = some (.cells #[b] u (0, 0)) ∧ W.heap.size = w.heap.size + 2 ∧ Below w.heap.size w W := by
  have s1 : (w.alloc (.cells #[a] t)).heap.size = w.heap.size + 1 := World.size_alloc _ _
  have s2 : ((w.alloc (.cells #[a] t)).alloc (.cells #[b] u)).heap.size = w.heap.size + 2 := by rw [World.size_alloc, s1]
  have b1 : Below (w.alloc (.cells #[a] t)).heap.size (w.alloc (.cells #[a] t)) ((w.alloc (.cells #[a] t)).alloc (.cells #[b] u)) := (Below.refl _ _).alloc (Nat.le_refl _) _
  have b0 : Below w.heap.size w ((w.alloc (.cells #[a] t)).alloc (.cells #[b] u)) := ((Below.refl _ _).alloc (Nat.le_refl _) _).trans (b1.mono (by omega))
  have x1 := kept_cell b1 (cell_new w a t) (lt_alloc _ _)
  have x3 := heap_alloc_last (w.alloc (.cells #[a] t)) (.cells #[b] u)
  rw [s1] at x3
  exact ⟨_, rfl, x1, x3, s2, b0⟩

set_option maxHeartbeats 2000000 in
theorem askLinear_yes (ao : Option Addr) (S : List Int) (cap : Nat) (hn : S.length ≤ 4294967296) (ac : Option Addr) (C : List Int) (capc : Nat) (hnc : C.length ≤ 4294967296) (hE : eCode S C = 0) (hl : linB S C = true) (f : Nat) (eg : ∀ args w, (callFunc f args).run Tryz.prog w = .ok (.enter f args) w) (pre post : Array Value) (X : Int) (w : World) (hS : Ints w ao S) (hC : Ints w ac C)
    (hask : ∀ W, Below w.heap.size w W → Calls Tryz.prog f (pre.push (.agg #[.slice ao S.length cap, .slice ac C.length capc]) ++ post) W fun e w' => e = .returned (.int .i64 X) ∧ Below W.heap.size W w') :
    Calls Tryz.prog 62 #[.agg #[.slice ao S.length cap], .slice ac C.length capc, .func (.func f) pre post] w fun e w' => e = .returned (.tuple #[.int .i64 X, .int .i64 0]) ∧ Below w.heap.size w w' := by
  have hmf : ∀ (fn : Fn) (first cap : Array Value) (w : World), (Instr.makeFunc fn first cap).run Tryz.prog w = .ok (.func fn first cap) w := fun _ _ _ _ => rfl
  obtain ⟨W0, hW0, cS, rR, z0, B0⟩ := box2i w (.slice ao S.length cap) (.int .i64 0) 26 2
  have HW0 := Lib.hid hW0
  have z0a : w.heap.size + 2 ≤ W0.heap.size := by omega
  have h1 := codeError_any ao S cap hn ac C capc hnc W0 (hS.below B0) (hC.below B0)
  rw [hE] at h1
  have H1 := Lib.hid h1
  have HASK := Lib.hid hask
  clear hW0 z0 h1 hask
  go_enter_defers Tryz.func62, Tryz.ntmps62
  go_wp2_with fail
  rw [← HW0.out]
  refine H1.out.mono ?_
  rintro e w1 ⟨rfl, hb1⟩
  have s1 : w.heap.size + 2 ≤ w1.heap.size := by have := hb1.size; omega
  have cS1 := kept_cell hb1 cS (by omega)
  have rR1 : w1.heap[w.heap.size + 1]? = some (.cells #[.int .i64 0] 2 (0, 0)) := by rw [hb1.block (w.heap.size + 1) (by omega)]; exact rR
  have B1 := B0.trans (hb1.mono (by omega))
  have d0 : w1.cell? ⟨w.heap.size + 1, 0, none⟩ = some (.int .i64 0) := by rw [cell_of_row w1 (w.heap.size + 1) 0 _ _ _ rR1]; rfl
  have f0 : w1.frozen? ⟨w.heap.size + 1, 0, none⟩ = false := by have h' := rR1; simp [World.frozen?, h']
  clear hb1 cS rR H1
  have d1 : (w1.setCell ⟨w.heap.size + 1, 0, none⟩ (.int .i64 0)).cell? ⟨w.heap.size + 1, 0, none⟩ = some (.int .i64 0) := World.cell?_setCell_same' _ _ _ (by rw [d0]; rfl)
  have f1 : (w1.setCell ⟨w.heap.size + 1, 0, none⟩ (.int .i64 0)).frozen? ⟨w.heap.size + 1, 0, none⟩ = false := (World.frozen?_setCell _ _ _ _).trans f0
  have cS2 : (w1.setCell ⟨w.heap.size + 1, 0, none⟩ (.int .i64 0)).cell? ⟨w.heap.size, 0, none⟩ = some (.slice ao S.length cap) := cell_set_other cS1 (by simp)
  have B2 : Below w.heap.size w (w1.setCell ⟨w.heap.size + 1, 0, none⟩ (.int .i64 0)) := B1.setCell (show w.heap.size ≤ w.heap.size + 1 by omega) _
  have s2 : w.heap.size + 2 ≤ (w1.setCell ⟨w.heap.size + 1, 0, none⟩ (.int .i64 0)).heap.size := by simpa using s1
  go_wp2_with fail
  obtain ⟨W2, hW2⟩ : ∃ W2, W2 = w1.setCell ⟨w.heap.size + 1, 0, none⟩ (.int .i64 0) := ⟨_, rfl⟩
  rw [← hW2] at d1 f1 cS2 B2 s2 ⊢
  clear hW2 d0 f0 cS1 rR1 B1 s1
  refine (linearCodeOf_yes ao S cap hn ac C capc hE hl W2 (hS.below B2) (hC.below B2)).mono ?_
  rintro e w3 ⟨rfl, hb3⟩
  have d3 := kept_cell hb3 d1 (by omega)
  have f3 : w3.frozen? ⟨w.heap.size + 1, 0, none⟩ = false := (hb3.frozen (p := ⟨w.heap.size + 1, 0, none⟩) (show w.heap.size + 1 < W2.heap.size by omega)).trans f1
  have B3 := B2.trans (hb3.mono (by omega))
  have s3 : w.heap.size + 2 ≤ w3.heap.size := Nat.le_trans s2 hb3.size
  clear hb3 d1 f1 cS2 B2 s2
  go_wp2_with fail
  refine (HASK.out w3 B3).mono ?_
  rintro e w4 ⟨rfl, hb4⟩
  have d4 := kept_cell hb4 d3 (by omega)
  have f4 : w4.frozen? ⟨w.heap.size + 1, 0, none⟩ = false := (hb4.frozen (p := ⟨w.heap.size + 1, 0, none⟩) (show w.heap.size + 1 < w3.heap.size by omega)).trans f3
  have B4 := B3.trans (hb4.mono (by omega))
  have d5 : (w4.setCell ⟨w.heap.size + 1, 0, none⟩ (.int .i64 0)).cell? ⟨w.heap.size + 1, 0, none⟩ = some (.int .i64 0) := World.cell?_setCell_same' _ _ _ (by rw [d4]; rfl)
  have B5 : Below w.heap.size w (w4.setCell ⟨w.heap.size + 1, 0, none⟩ (.int .i64 0)) := B4.setCell (show w.heap.size ≤ w.heap.size + 1 by omega) _
  clear hb4 d3 f3 B3 s3 HASK
  go_wp2_with fail
  refine leaves_cons (f := 118) (args := #[.pointer (some ⟨w.heap.size + 1, 0, none⟩)]) (by simp) (by simp [go_sem]) ?_
  refine (catch_idle _ _).mono ?_
  rintro e u' w'' ⟨rfl, rfl, rfl⟩
  simp [Leaves, settle, results, Tryz.results62, go_sem, d5]
  exact B5

set_option maxHeartbeats 2000000 in
theorem askLinear_no (ao : Option Addr) (S : List Int) (cap : Nat) (hn : S.length ≤ 4294967296) (ac : Option Addr) (C : List Int) (capc : Nat) (hnc : C.length ≤ 4294967296) (hE : eCode S C = 0) (hl : linB S C = false) (f : Nat) (pre post : Array Value) (pv : Value) (w : World) (hS : Ints w ao S) (hC : Ints w ac C) (hG : Glob pv w) :
    Calls Tryz.prog 62 #[.agg #[.slice ao S.length cap], .slice ac C.length capc, .func (.func f) pre post] w fun e w' => e = .returned (.tuple #[.int .i64 0, .int .i64 5]) ∧ Below w.heap.size w w' := by
  have hmf : ∀ (fn : Fn) (first cap : Array Value) (w : World), (Instr.makeFunc fn first cap).run Tryz.prog w = .ok (.func fn first cap) w := fun _ _ _ _ => rfl
  obtain ⟨W0, hW0, cS, rR, z0, B0⟩ := box2i w (.slice ao S.length cap) (.int .i64 0) 26 2
  have HW0 := Lib.hid hW0
  have z0a : w.heap.size + 2 ≤ W0.heap.size := by omega
  have h1 := codeError_any ao S cap hn ac C capc hnc W0 (hS.below B0) (hC.below B0)
  rw [hE] at h1
  have H1 := Lib.hid h1
  have hpos := hG.2
  clear hW0 z0 h1
  go_enter_defers Tryz.func62, Tryz.ntmps62
  go_wp2_with fail
  rw [← HW0.out]
  refine H1.out.mono ?_
  rintro e w1 ⟨rfl, hb1⟩
  have s1 : w.heap.size + 2 ≤ w1.heap.size := by have := hb1.size; omega
  have cS1 := kept_cell hb1 cS (by omega)
  have rR1 : w1.heap[w.heap.size + 1]? = some (.cells #[.int .i64 0] 2 (0, 0)) := by rw [hb1.block (w.heap.size + 1) (by omega)]; exact rR
  have B1 := B0.trans (hb1.mono (by omega))
  have d0 : w1.cell? ⟨w.heap.size + 1, 0, none⟩ = some (.int .i64 0) := by rw [cell_of_row w1 (w.heap.size + 1) 0 _ _ _ rR1]; rfl
  have f0 : w1.frozen? ⟨w.heap.size + 1, 0, none⟩ = false := by have h' := rR1; simp [World.frozen?, h']
  clear hb1 cS rR H1
  have d1 : (w1.setCell ⟨w.heap.size + 1, 0, none⟩ (.int .i64 0)).cell? ⟨w.heap.size + 1, 0, none⟩ = some (.int .i64 0) := World.cell?_setCell_same' _ _ _ (by rw [d0]; rfl)
  have f1 : (w1.setCell ⟨w.heap.size + 1, 0, none⟩ (.int .i64 0)).frozen? ⟨w.heap.size + 1, 0, none⟩ = false := (World.frozen?_setCell _ _ _ _).trans f0
  have cS2 : (w1.setCell ⟨w.heap.size + 1, 0, none⟩ (.int .i64 0)).cell? ⟨w.heap.size, 0, none⟩ = some (.slice ao S.length cap) := cell_set_other cS1 (by simp)
  have B2 : Below w.heap.size w (w1.setCell ⟨w.heap.size + 1, 0, none⟩ (.int .i64 0)) := B1.setCell (show w.heap.size ≤ w.heap.size + 1 by omega) _
  have s2 : w.heap.size + 2 ≤ (w1.setCell ⟨w.heap.size + 1, 0, none⟩ (.int .i64 0)).heap.size := by simpa using s1
  go_wp2_with fail
  obtain ⟨W2, hW2⟩ : ∃ W2, W2 = w1.setCell ⟨w.heap.size + 1, 0, none⟩ (.int .i64 0) := ⟨_, rfl⟩
  rw [← hW2] at d1 f1 cS2 B2 s2 ⊢
  clear hW2 d0 f0 cS1 rR1 B1 s1
  refine (linearCodeOf_no ao S cap hn ac C capc hE hl pv W2 (hS.below B2) (hC.below B2) (hG.below B2 hpos)).mono ?_
  rintro e w3 ⟨rfl, hb3⟩
  have d3 := kept_cell hb3 d1 (by omega)
  have f3 : w3.frozen? ⟨w.heap.size + 1, 0, none⟩ = false := (hb3.frozen (p := ⟨w.heap.size + 1, 0, none⟩) (show w.heap.size + 1 < W2.heap.size by omega)).trans f1
  have B3 := B2.trans (hb3.mono (by omega))
  have d5 : (w3.setCell ⟨w.heap.size + 1, 0, none⟩ (.int .i64 5)).cell? ⟨w.heap.size + 1, 0, none⟩ = some (.int .i64 5) := World.cell?_setCell_same' _ _ _ (by rw [d3]; rfl)
  have B5 : Below w.heap.size w (w3.setCell ⟨w.heap.size + 1, 0, none⟩ (.int .i64 5)) := B3.setCell (show w.heap.size ≤ w.heap.size + 1 by omega) _
  clear hb3 d1 f1 cS2 B2 s2
  go_wp2_with fail
  refine leaves_cons (f := 118) (args := #[.pointer (some ⟨w.heap.size + 1, 0, none⟩)]) (by simp) (by simp [go_sem]) ?_
  refine (catch_panicking _ pv [] _ d3 f3).mono ?_
  rintro e u' w'' ⟨rfl, rfl, rfl⟩
  simp [Leaves, settle, results, Tryz.results62, go_sem, d5]
  exact B5

end Go.Proofs.YtcnnijeokefboaaGreatDoor
