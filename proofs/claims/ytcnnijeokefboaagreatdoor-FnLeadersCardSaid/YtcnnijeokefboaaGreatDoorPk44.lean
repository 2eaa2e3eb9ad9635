/-
  Texts put together: Ask, LdsJ, LdsS. By an AI agent.
-/
import Derived.Test.YtcnnijeokefboaaGreatDoorPk38
import Derived.Test.YtcnnijeokefboaaGreatDoorPkLdsI
import Derived.Test.YtcnnijeokefboaaGreatDoorMathB
import Derived.Test.YtcnnijeokefboaaGreatDoorPk41
import Derived.Test.YtcnnijeokefboaaGreatDoorPk31
import Derived.Test.YtcnnijeokefboaaGreatDoorPut
namespace Go.Proofs.YtcnnijeokefboaaGreatDoor
open Go.RowKit Go.Shelf Cv
set_option linter.unusedVariables false
set_option linter.unusedSimpArgs false
set_option maxRecDepth 100000

theorem catch_panickingL (p : Addr) (pv : Value) (older : List PanicEntry) (w : World) (hc : w.cell? p = some (.int .i64 0)) (hz : w.frozen? p = false) :
    CallsD Tryz.prog 110 #[.pointer (some p)] (.panicking ({ v := .iface 153 pv, recovered := false } :: older)) w fun e u' w' =>
      e = .returned (.tuple #[]) ∧ u' = .panicking ({ v := .iface 153 pv, recovered := true } :: older) ∧ w' = w.setCell p (.int .i64 5) := by
  refine callsD_of_wpS Tryz.func110 rfl fun c₀ cs hu => ?_
  apply wpS_seq
  apply wpS_region
  simp [wpOpsS, go_sem, recoverD, hu, Tryz.ntmps110, Exit.thenS, assert_yes]
  apply wpS_seq
  apply wpS_region
  simp [wpOpsS, go_sem, Exit.thenS]
  refine wpS_cond (t := true) (by simp [Act.eval]) ?_
  simp only [if_true]
  apply wpS_region
  simp [wpOpsS, go_sem, hc, hz, bodyPostS, results, Tryz.results110]

theorem catch_idleL (p : Addr) (w : World) :
    CallsD Tryz.prog 110 #[.pointer (some p)] .returning w fun e u' w' => e = .returned (.tuple #[]) ∧ u' = .returning ∧ w' = w := by
  refine callsD_of_wpS Tryz.func110 rfl fun c₀ cs hu => ?_
  apply wpS_seq
  apply wpS_region
  simp [wpOpsS, go_sem, recoverD, hu, Tryz.ntmps110, Exit.thenS, assert_nil]
  apply wpS_seq
  apply wpS_region
  simp [wpOpsS, go_sem, Exit.thenS]
  refine wpS_cond (t := false) (by simp [Act.eval]) ?_
  simp only [Bool.false_eq_true, if_false]
  refine wpS_of_wp (wp_skip ?_)
  cases c₀
  simp_all [bodyPostS, results, Tryz.results110]

set_option maxHeartbeats 2000000 in
theorem askLinearL_yes (ao : Option Addr) (S : List Int) (cap : Nat) (hn : S.length ≤ 4294967296) (ac : Option Addr) (C : List Int) (capc : Nat) (hnc : C.length ≤ 4294967296) (hE : eCode S C = 0) (hl : linB S C = true) (f : Nat) (eg : ∀ args w, (callFunc f args).run Tryz.prog w = .ok (.enter f args) w) (pre post : Array Value) (X : List Int) (w : World) (hS : Ints w ao S) (hC : Ints w ac C)
    (hask : ∀ W, Below w.heap.size w W → Calls Tryz.prog f (pre.push (.agg #[.slice ao S.length cap, .slice ac C.length capc]) ++ post) W fun e w' => ∃ v, e = .returned v ∧ OwnInts w' W.heap.size v X ∧ Below W.heap.size W w') :
    Calls Tryz.prog 59 #[.agg #[.slice ao S.length cap], .slice ac C.length capc, .func (.func f) pre post] w fun e w' => ∃ v, e = .returned (.tuple #[v, .int .i64 0]) ∧ OwnInts w' w.heap.size v X ∧ Below w.heap.size w w' := by
  have hmf : ∀ (fn : Fn) (first cap : Array Value) (w : World), (Instr.makeFunc fn first cap).run Tryz.prog w = .ok (.func fn first cap) w := fun _ _ _ _ => rfl
  obtain ⟨W0, hW0, cS, rR, z0, B0⟩ := box2i w (.slice ao S.length cap) (.int .i64 0) 26 2
  have HW0 := Lib.hid hW0
  have z0a : w.heap.size + 2 ≤ W0.heap.size := by omega
  have h1 := codeError_any ao S cap hn ac C capc hnc W0 (hS.below B0) (hC.below B0)
  rw [hE] at h1
  have H1 := Lib.hid h1
  have HASK := Lib.hid hask
  clear hW0 z0 h1 hask
  go_enter_defers Tryz.func59, Tryz.ntmps59
  go_wp2_with fail
  rw [← HW0.out]
  refine H1.out.mono ?_
  rintro e w1 ⟨rfl, hb1⟩
  have s1 : w.heap.size + 2 ≤ w1.heap.size := by have := hb1.size; omega
  have cS1 := kept_cell hb1 cS (by omega)
  have rR1 : w1.heap[w.heap.size + 1]? = some (.cells #[.int .i64 0] 2 (0, 0)) := by rw [hb1.block (w.heap.size + 1) (by omega)]; exact rR
  have B1 := B0.trans (hb1.mono (by omega))
  have d0 : w1.cell? ⟨w.heap.size + 1, 0, none⟩ = some (.int .i64 0) := by rw [cell_of_row w1 (w.heap.size + 1) 0 _ _ _ rR1]; rfl
  have f0 : w1.frozen? ⟨w.heap.size + 1, 0, none⟩ = false := by have h' := rR1; simp [World.frozen?, h']
  clear hb1 cS rR H1
  have d1 : (w1.setCell ⟨w.heap.size + 1, 0, none⟩ (.int .i64 0)).cell? ⟨w.heap.size + 1, 0, none⟩ = some (.int .i64 0) := World.cell?_setCell_same' _ _ _ (by rw [d0]; rfl)
  have f1 : (w1.setCell ⟨w.heap.size + 1, 0, none⟩ (.int .i64 0)).frozen? ⟨w.heap.size + 1, 0, none⟩ = false := (World.frozen?_setCell _ _ _ _).trans f0
  have cS2 : (w1.setCell ⟨w.heap.size + 1, 0, none⟩ (.int .i64 0)).cell? ⟨w.heap.size, 0, none⟩ = some (.slice ao S.length cap) := cell_set_other cS1 (by simp)
  have B2 : Below w.heap.size w (w1.setCell ⟨w.heap.size + 1, 0, none⟩ (.int .i64 0)) := B1.setCell (show w.heap.size ≤ w.heap.size + 1 by omega) _
  have s2 : w.heap.size + 2 ≤ (w1.setCell ⟨w.heap.size + 1, 0, none⟩ (.int .i64 0)).heap.size := by simpa using s1
  go_wp2_with fail
  obtain ⟨W2, hW2⟩ : ∃ W2, W2 = w1.setCell ⟨w.heap.size + 1, 0, none⟩ (.int .i64 0) := ⟨_, rfl⟩
  rw [← hW2] at d1 f1 cS2 B2 s2 ⊢
  clear hW2 d0 f0 cS1 rR1 B1 s1
  refine (linearCodeOf_yes ao S cap hn ac C capc hE hl W2 (hS.below B2) (hC.below B2)).mono ?_
  rintro e w3 ⟨rfl, hb3⟩
  have d3 := kept_cell hb3 d1 (by omega)
  have f3 : w3.frozen? ⟨w.heap.size + 1, 0, none⟩ = false := (hb3.frozen (p := ⟨w.heap.size + 1, 0, none⟩) (show w.heap.size + 1 < W2.heap.size by omega)).trans f1
  have B3 := B2.trans (hb3.mono (by omega))
  have s3 : w.heap.size + 2 ≤ w3.heap.size := Nat.le_trans s2 hb3.size
  clear hb3 d1 f1 cS2 B2 s2
  go_wp2_with fail
  refine (HASK.out w3 B3).mono ?_
  rintro e w4 ⟨v, rfl, own4, hb4⟩
  have own5 : OwnInts (w4.setCell ⟨w.heap.size + 1, 0, none⟩ (.int .i64 0)) w.heap.size v X := (own4.setBelow (show w.heap.size + 1 < w3.heap.size by omega) _).rebase (by omega)
  have d4 := kept_cell hb4 d3 (by omega)
  have f4 : w4.frozen? ⟨w.heap.size + 1, 0, none⟩ = false := (hb4.frozen (p := ⟨w.heap.size + 1, 0, none⟩) (show w.heap.size + 1 < w3.heap.size by omega)).trans f3
  have B4 := B3.trans (hb4.mono (by omega))
  have d5 : (w4.setCell ⟨w.heap.size + 1, 0, none⟩ (.int .i64 0)).cell? ⟨w.heap.size + 1, 0, none⟩ = some (.int .i64 0) := World.cell?_setCell_same' _ _ _ (by rw [d4]; rfl)
  have B5 : Below w.heap.size w (w4.setCell ⟨w.heap.size + 1, 0, none⟩ (.int .i64 0)) := B4.setCell (show w.heap.size ≤ w.heap.size + 1 by omega) _
  clear hb4 d3 f3 B3 s3 HASK
  go_wp2_with fail
  refine leaves_cons (f := 110) (args := #[.pointer (some ⟨w.heap.size + 1, 0, none⟩)]) (by simp) (by simp [go_sem]) ?_
  refine (catch_idleL _ _).mono ?_
  rintro e u' w'' ⟨rfl, rfl, rfl⟩
  simp [Leaves, settle, results, Tryz.results59, go_sem, d5]
  exact ⟨own5, B5⟩

set_option maxHeartbeats 2000000 in
theorem askLinearL_no (ao : Option Addr) (S : List Int) (cap : Nat) (hn : S.length ≤ 4294967296) (ac : Option Addr) (C : List Int) (capc : Nat) (hnc : C.length ≤ 4294967296) (hE : eCode S C = 0) (hl : linB S C = false) (f : Nat) (pre post : Array Value) (pv : Value) (w : World) (hS : Ints w ao S) (hC : Ints w ac C) (hG : Glob pv w) :
    Calls Tryz.prog 59 #[.agg #[.slice ao S.length cap], .slice ac C.length capc, .func (.func f) pre post] w fun e w' => e = .returned (.tuple #[.slice none 0 0, .int .i64 5]) ∧ Below w.heap.size w w' := by
  have hmf : ∀ (fn : Fn) (first cap : Array Value) (w : World), (Instr.makeFunc fn first cap).run Tryz.prog w = .ok (.func fn first cap) w := fun _ _ _ _ => rfl
  obtain ⟨W0, hW0, cS, rR, z0, B0⟩ := box2i w (.slice ao S.length cap) (.int .i64 0) 26 2
  have HW0 := Lib.hid hW0
  have z0a : w.heap.size + 2 ≤ W0.heap.size := by omega
  have h1 := codeError_any ao S cap hn ac C capc hnc W0 (hS.below B0) (hC.below B0)
  rw [hE] at h1
  have H1 := Lib.hid h1
  have hpos := hG.2
  clear hW0 z0 h1
  go_enter_defers Tryz.func59, Tryz.ntmps59
  go_wp2_with fail
  rw [← HW0.out]
  refine H1.out.mono ?_
  rintro e w1 ⟨rfl, hb1⟩
  have s1 : w.heap.size + 2 ≤ w1.heap.size := by have := hb1.size; omega
  have cS1 := kept_cell hb1 cS (by omega)
  have rR1 : w1.heap[w.heap.size + 1]? = some (.cells #[.int .i64 0] 2 (0, 0)) := by rw [hb1.block (w.heap.size + 1) (by omega)]; exact rR
  have B1 := B0.trans (hb1.mono (by omega))
  have d0 : w1.cell? ⟨w.heap.size + 1, 0, none⟩ = some (.int .i64 0) := by rw [cell_of_row w1 (w.heap.size + 1) 0 _ _ _ rR1]; rfl
  have f0 : w1.frozen? ⟨w.heap.size + 1, 0, none⟩ = false := by have h' := rR1; simp [World.frozen?, h']
  clear hb1 cS rR H1
  have d1 : (w1.setCell ⟨w.heap.size + 1, 0, none⟩ (.int .i64 0)).cell? ⟨w.heap.size + 1, 0, none⟩ = some (.int .i64 0) := World.cell?_setCell_same' _ _ _ (by rw [d0]; rfl)
  have f1 : (w1.setCell ⟨w.heap.size + 1, 0, none⟩ (.int .i64 0)).frozen? ⟨w.heap.size + 1, 0, none⟩ = false := (World.frozen?_setCell _ _ _ _).trans f0
  have cS2 : (w1.setCell ⟨w.heap.size + 1, 0, none⟩ (.int .i64 0)).cell? ⟨w.heap.size, 0, none⟩ = some (.slice ao S.length cap) := cell_set_other cS1 (by simp)
  have B2 : Below w.heap.size w (w1.setCell ⟨w.heap.size + 1, 0, none⟩ (.int .i64 0)) := B1.setCell (show w.heap.size ≤ w.heap.size + 1 by omega) _
  have s2 : w.heap.size + 2 ≤ (w1.setCell ⟨w.heap.size + 1, 0, none⟩ (.int .i64 0)).heap.size := by simpa using s1
  go_wp2_with fail
  obtain ⟨W2, hW2⟩ : ∃ W2, W2 = w1.setCell ⟨w.heap.size + 1, 0, none⟩ (.int .i64 0) := ⟨_, rfl⟩
  rw [← hW2] at d1 f1 cS2 B2 s2 ⊢
  clear hW2 d0 f0 cS1 rR1 B1 s1
  refine (linearCodeOf_no ao S cap hn ac C capc hE hl pv W2 (hS.below B2) (hC.below B2) (hG.below B2 hpos)).mono ?_
  rintro e w3 ⟨rfl, hb3⟩
  have d3 := kept_cell hb3 d1 (by omega)
  have f3 : w3.frozen? ⟨w.heap.size + 1, 0, none⟩ = false := (hb3.frozen (p := ⟨w.heap.size + 1, 0, none⟩) (show w.heap.size + 1 < W2.heap.size by omega)).trans f1
  have B3 := B2.trans (hb3.mono (by omega))
  have d5 : (w3.setCell ⟨w.heap.size + 1, 0, none⟩ (.int .i64 5)).cell? ⟨w.heap.size + 1, 0, none⟩ = some (.int .i64 5) := World.cell?_setCell_same' _ _ _ (by rw [d3]; rfl)
  have B5 : Below w.heap.size w (w3.setCell ⟨w.heap.size + 1, 0, none⟩ (.int .i64 5)) := B3.setCell (show w.heap.size ≤ w.heap.size + 1 by omega) _
  clear hb3 d1 f1 cS2 B2 s2
  go_wp2_with fail
  refine leaves_cons (f := 110) (args := #[.pointer (some ⟨w.heap.size + 1, 0, none⟩)]) (by simp) (by simp [go_sem]) ?_
  refine (catch_panickingL _ pv [] _ d3 f3).mono ?_
  rintro e u' w'' ⟨rfl, rfl, rfl⟩
  simp [Leaves, settle, results, Tryz.results59, go_sem, d5]
  exact B5

set_option maxHeartbeats 2000000 in
theorem askLinear_err (ao : Option Addr) (S : List Int) (cap : Nat) (hn : S.length ≤ 4294967296) (ac : Option Addr) (C : List Int) (capc : Nat) (hnc : C.length ≤ 4294967296) (hE : eCode S C ≠ 0) (f : Nat) (pre post : Array Value) (w : World) (hS : Ints w ao S) (hC : Ints w ac C) :
    Calls Tryz.prog 62 #[.agg #[.slice ao S.length cap], .slice ac C.length capc, .func (.func f) pre post] w fun e w' => e = .returned (.tuple #[.int .i64 0, .int .i64 (eCode S C)]) ∧ Below w.heap.size w w' := by
  have hmf : ∀ (fn : Fn) (first cap : Array Value) (w : World), (Instr.makeFunc fn first cap).run Tryz.prog w = .ok (.func fn first cap) w := fun _ _ _ _ => rfl
  obtain ⟨W0, hW0, cS, rR, z0, B0⟩ := box2i w (.slice ao S.length cap) (.int .i64 0) 26 2
  have HW0 := Lib.hid hW0
  have z0a : w.heap.size + 2 ≤ W0.heap.size := by omega
  have h1 := codeError_any ao S cap hn ac C capc hnc W0 (hS.below B0) (hC.below B0)
  have hen : (eCode S C != 0) = true := by simpa using hE
  obtain ⟨E, hEE⟩ : ∃ E, E = eCode S C := ⟨_, rfl⟩
  rw [← hEE] at h1 hen ⊢
  have H1 := Lib.hid h1
  clear hW0 z0 h1 hE hEE
  go_enter_defers Tryz.func62, Tryz.ntmps62
  go_wp2_with fail
  rw [← HW0.out]
  refine H1.out.mono ?_
  rintro e w1 ⟨rfl, hb1⟩
  have s1 : w.heap.size + 2 ≤ w1.heap.size := by have := hb1.size; omega
  have cS1 := kept_cell hb1 cS (by omega)
  have rR1 : w1.heap[w.heap.size + 1]? = some (.cells #[.int .i64 0] 2 (0, 0)) := by rw [hb1.block (w.heap.size + 1) (by omega)]; exact rR
  have B1 := B0.trans (hb1.mono (by omega))
  have d0 : w1.cell? ⟨w.heap.size + 1, 0, none⟩ = some (.int .i64 0) := by rw [cell_of_row w1 (w.heap.size + 1) 0 _ _ _ rR1]; rfl
  have f0 : w1.frozen? ⟨w.heap.size + 1, 0, none⟩ = false := by have h' := rR1; simp [World.frozen?, h']
  clear hb1 cS rR H1
  have d1 : (w1.setCell ⟨w.heap.size + 1, 0, none⟩ (.int .i64 E)).cell? ⟨w.heap.size + 1, 0, none⟩ = some (.int .i64 E) := World.cell?_setCell_same' _ _ _ (by rw [d0]; rfl)
  have f1 : (w1.setCell ⟨w.heap.size + 1, 0, none⟩ (.int .i64 E)).frozen? ⟨w.heap.size + 1, 0, none⟩ = false := (World.frozen?_setCell _ _ _ _).trans f0
  have cS2 : (w1.setCell ⟨w.heap.size + 1, 0, none⟩ (.int .i64 E)).cell? ⟨w.heap.size, 0, none⟩ = some (.slice ao S.length cap) := cell_set_other cS1 (by simp)
  have B2 : Below w.heap.size w (w1.setCell ⟨w.heap.size + 1, 0, none⟩ (.int .i64 E)) := B1.setCell (show w.heap.size ≤ w.heap.size + 1 by omega) _
  have s2 : w.heap.size + 2 ≤ (w1.setCell ⟨w.heap.size + 1, 0, none⟩ (.int .i64 E)).heap.size := by simpa using s1
  go_wp2_with fail
  obtain ⟨W2, hW2⟩ : ∃ W2, W2 = w1.setCell ⟨w.heap.size + 1, 0, none⟩ (.int .i64 E) := ⟨_, rfl⟩
  rw [← hW2] at d1 f1 cS2 B2 s2 ⊢
  clear hW2 d0 f0 cS1 rR1 B1 s1 cS2
  have d5 : (W2.setCell ⟨w.heap.size + 1, 0, none⟩ (.int .i64 E)).cell? ⟨w.heap.size + 1, 0, none⟩ = some (.int .i64 E) := World.cell?_setCell_same' _ _ _ (by rw [d1]; rfl)
  have B5 : Below w.heap.size w (W2.setCell ⟨w.heap.size + 1, 0, none⟩ (.int .i64 E)) := B2.setCell (show w.heap.size ≤ w.heap.size + 1 by omega) _
  go_region
  all_goals (go_wp2_with fail)
  have d6 : (W2.setCell ⟨w.heap.size + 1, 0, none⟩ (.int .i64 E)).drew.cell? ⟨w.heap.size + 1, 0, none⟩ = some (.int .i64 E) := d5
  simp [bodyPostD, Leaves, settle, results, Tryz.results62, go_sem, d6]
  exact B5.drew

set_option maxHeartbeats 2000000 in
theorem askLinearL_err (ao : Option Addr) (S : List Int) (cap : Nat) (hn : S.length ≤ 4294967296) (ac : Option Addr) (C : List Int) (capc : Nat) (hnc : C.length ≤ 4294967296) (hE : eCode S C ≠ 0) (f : Nat) (pre post : Array Value) (w : World) (hS : Ints w ao S) (hC : Ints w ac C) :
    Calls Tryz.prog 59 #[.agg #[.slice ao S.length cap], .slice ac C.length capc, .func (.func f) pre post] w fun e w' => e = .returned (.tuple #[.slice none 0 0, .int .i64 (eCode S C)]) ∧ Below w.heap.size w w' := by
  have hmf : ∀ (fn : Fn) (first cap : Array Value) (w : World), (Instr.makeFunc fn first cap).run Tryz.prog w = .ok (.func fn first cap) w := fun _ _ _ _ => rfl
  obtain ⟨W0, hW0, cS, rR, z0, B0⟩ := box2i w (.slice ao S.length cap) (.int .i64 0) 26 2
  have HW0 := Lib.hid hW0
  have z0a : w.heap.size + 2 ≤ W0.heap.size := by omega
  have h1 := codeError_any ao S cap hn ac C capc hnc W0 (hS.below B0) (hC.below B0)
  have hen : (eCode S C != 0) = true := by simpa using hE
  obtain ⟨E, hEE⟩ : ∃ E, E = eCode S C := ⟨_, rfl⟩
  rw [← hEE] at h1 hen ⊢
  have H1 := Lib.hid h1
  clear hW0 z0 h1 hE hEE
  go_enter_defers Tryz.func59, Tryz.ntmps59
  go_wp2_with fail
  rw [← HW0.out]
  refine H1.out.mono ?_
  rintro e w1 ⟨rfl, hb1⟩
  have s1 : w.heap.size + 2 ≤ w1.heap.size := by have := hb1.size; omega
  have cS1 := kept_cell hb1 cS (by omega)
  have rR1 : w1.heap[w.heap.size + 1]? = some (.cells #[.int .i64 0] 2 (0, 0)) := by rw [hb1.block (w.heap.size + 1) (by omega)]; exact rR
  have B1 := B0.trans (hb1.mono (by omega))
  have d0 : w1.cell? ⟨w.heap.size + 1, 0, none⟩ = some (.int .i64 0) := by rw [cell_of_row w1 (w.heap.size + 1) 0 _ _ _ rR1]; rfl
  have f0 : w1.frozen? ⟨w.heap.size + 1, 0, none⟩ = false := by have h' := rR1; simp [World.frozen?, h']
  clear hb1 cS rR H1
  have d1 : (w1.setCell ⟨w.heap.size + 1, 0, none⟩ (.int .i64 E)).cell? ⟨w.heap.size + 1, 0, none⟩ = some (.int .i64 E) := World.cell?_setCell_same' _ _ _ (by rw [d0]; rfl)
  have f1 : (w1.setCell ⟨w.heap.size + 1, 0, none⟩ (.int .i64 E)).frozen? ⟨w.heap.size + 1, 0, none⟩ = false := (World.frozen?_setCell _ _ _ _).trans f0
  have cS2 : (w1.setCell ⟨w.heap.size + 1, 0, none⟩ (.int .i64 E)).cell? ⟨w.heap.size, 0, none⟩ = some (.slice ao S.length cap) := cell_set_other cS1 (by simp)
  have B2 : Below w.heap.size w (w1.setCell ⟨w.heap.size + 1, 0, none⟩ (.int .i64 E)) := B1.setCell (show w.heap.size ≤ w.heap.size + 1 by omega) _
  have s2 : w.heap.size + 2 ≤ (w1.setCell ⟨w.heap.size + 1, 0, none⟩ (.int .i64 E)).heap.size := by simpa using s1
  go_wp2_with fail
  obtain ⟨W2, hW2⟩ : ∃ W2, W2 = w1.setCell ⟨w.heap.size + 1, 0, none⟩ (.int .i64 E) := ⟨_, rfl⟩
  rw [← hW2] at d1 f1 cS2 B2 s2 ⊢
  clear hW2 d0 f0 cS1 rR1 B1 s1 cS2
  have d5 : (W2.setCell ⟨w.heap.size + 1, 0, none⟩ (.int .i64 E)).cell? ⟨w.heap.size + 1, 0, none⟩ = some (.int .i64 E) := World.cell?_setCell_same' _ _ _ (by rw [d1]; rfl)
  have B5 : Below w.heap.size w (W2.setCell ⟨w.heap.size + 1, 0, none⟩ (.int .i64 E)) := B2.setCell (show w.heap.size ≤ w.heap.size + 1 by omega) _
  go_region
  all_goals (go_wp2_with fail)
  have d6 : (W2.setCell ⟨w.heap.size + 1, 0, none⟩ (.int .i64 E)).drew.cell? ⟨w.heap.size + 1, 0, none⟩ = some (.int .i64 E) := d5
  simp [bodyPostD, Leaves, settle, results, Tryz.results59, go_sem, d6]
  exact B5.drew

end Go.Proofs.YtcnnijeokefboaaGreatDoor

namespace Go.Proofs.YtcnnijeokefboaaGreatDoor
open Go.RowKit Go.Shelf Cv
set_option linter.unusedVariables false
set_option linter.unusedSimpArgs false
set_option maxRecDepth 100000

theorem impl_LeadersOf (ao : Option Addr) (S : List Int) (cap : Nat) (hn : S.length ≤ 4294967296) (ac : Option Addr) (C : List Int) (capc : Nat) (hnc : C.length ≤ 4294967296) (pv : Value) (w : World) (hG : Glob pv w) (hS : Ints w ao S) (hC : Ints w ac C) :
    Calls Tryz.prog 34 #[.agg #[.slice ao S.length cap], .slice ac C.length capc] w fun e w' => ∃ v, e = .returned (.tuple #[v, .int .i64 (eLin S C)]) ∧ OwnInts w' w.heap.size v (vLds S C) ∧ Below w.heap.size w w' := by
  have B0 : Below w.heap.size w (w.alloc (.cells #[.slice ao S.length cap] 26)) := by go_grown
  have c0 := cell_new w (.slice ao S.length cap) 26
  have hpos := hG.2
  have hG0 := hG.below B0 hpos
  by_cases hc0 : eCode S C = 0
  · cases hlb : linB S C with
    | true =>
      obtain ⟨hP, hg⟩ := lin_gp hc0 hlb
      have hlen := code_len0 hc0
      have HE : Hid (eLin S C = 0) := Lib.hid (by unfold eLin; rw [if_pos hc0, if_pos hlb])
      have HV : Hid (vLds S C = ldsM S C (nW S).toNat) := Lib.hid (by unfold vLds; rw [if_pos HE.out])
      have HA := Lib.hid (askLinearL_yes ao S cap hn ac C capc hnc hc0 hlb 88 (enters_of Tryz.func88 (by kernel_rfl) rfl) #[] #[] (ldsM S C (nW S).toNat) _ (hS.below B0) (hC.below B0) (fun W hb => (leaders_any ao S cap hP ac C capc hg hlen W ((hS.below B0).below hb) ((hC.below B0).below hb)).mono (fun e w' ⟨g, c, h1, h2, h3⟩ => ⟨_, h1, h2, h3⟩)))
      clear hc0 hlb hP hg hlen hG0
      go_enter Tryz.func34, Tryz.ntmps34
      go_wp2_with fail
      refine HA.out.mono ?_
      rintro e w2 ⟨v, rfl, own, hb2⟩
      go_wp2_with fail
      go_ret2
      exact ⟨_, by rw [HE.out]; try rfl, by rw [HV.out]; exact own.rebase B0.size, B0.trans (hb2.mono B0.size)⟩
    | false =>
      have HE : Hid (eLin S C = 5) := Lib.hid (by unfold eLin; rw [if_pos hc0, if_neg (by rw [hlb]; decide)])
      have HV : Hid (vLds S C = []) := Lib.hid (by unfold vLds; rw [if_neg (by rw [HE.out]; decide)])
      have HA := Lib.hid (askLinearL_no ao S cap hn ac C capc hnc hc0 hlb 88 #[] #[] pv _ (hS.below B0) (hC.below B0) hG0)
      clear hc0 hlb hG0
      go_enter Tryz.func34, Tryz.ntmps34
      go_wp2_with fail
      refine HA.out.mono ?_
      rintro e w2 ⟨rfl, hb2⟩
      go_wp2_with fail
      go_ret2
      exact ⟨_, by rw [HE.out]; try rfl, by rw [HV.out]; exact own_nil _ _, B0.trans (hb2.mono B0.size)⟩
  · have HE : Hid (eLin S C = eCode S C) := Lib.hid (by unfold eLin; rw [if_neg hc0])
    have HV : Hid (vLds S C = []) := Lib.hid (by unfold vLds; rw [if_neg (by rw [HE.out]; exact hc0)])
    have HA := Lib.hid (askLinearL_err ao S cap hn ac C capc hnc hc0 88 #[] #[] _ (hS.below B0) (hC.below B0))
    clear hc0 hG0
    go_enter Tryz.func34, Tryz.ntmps34
    go_wp2_with fail
    refine HA.out.mono ?_
    rintro e w2 ⟨rfl, hb2⟩
    go_wp2_with fail
    go_ret2
    exact ⟨_, by rw [HE.out]; try rfl, by rw [HV.out]; exact own_nil _ _, B0.trans (hb2.mono B0.size)⟩

end Go.Proofs.YtcnnijeokefboaaGreatDoor

namespace Go.Proofs.YtcnnijeokefboaaGreatDoor
open Go.RowKit Cv
set_option linter.unusedVariables false
set_option linter.unusedSimpArgs false
set_option maxRecDepth 100000

theorem gi_app2 (K L : List Int) (m : Nat) (h : m < L.length) : gi (K ++ L) (K.length + m) = gi L m := by
  rw [gi_lt _ _ (by simp; omega), gi_lt _ _ h, List.getElem_append_right (by omega)]
  simp
theorem gb_in (K : List Int) (N k : Nat) (h : k < N) : gb ((List.range N).map (inL K)) k = inL K k := by simp [gb, h]
theorem marks_0 (N : Nat) : (List.range N).map (inL []) = List.replicate N false := by
  rw [← marB_0 [] N]; exact (marB_all [] N).symm

set_option maxHeartbeats 4000000 in
theorem l05Leaders_any (ao : Option Addr) (S : List Int) (cap : Nat) (hP : Pl S) (ac : Addr) (C : List Int) (capc : Nat) (hg : Gp S C) (hl : C.length ≤ 1024) (w : World) (hS : Ints w ao S) (hCI : Ints w (some ac) C) :
    Calls Tryz.prog 89 #[.agg #[.slice ao S.length cap], .slice (some ac) C.length capc] w fun e w' => ∃ g c, e = .returned (.slice (some ⟨g, 0, none⟩) (ldsM S C (nW S).toNat).length c) ∧ OwnInts w' w.heap.size (.slice (some ⟨g, 0, none⟩) (ldsM S C (nW S).toNat).length c) (ldsM S C (nW S).toNat) ∧ Below w.heap.size w w' := by
  obtain ⟨i0, hi, hz0, hz1, hz2⟩ := info_parts infoBool
  obtain ⟨N1, N2⟩ := nW_bd hP.sp
  have hhi := hP.sp.hi
  have hl1 : 1 ≤ C.length := List.length_pos_of_mem hg.zero
  have HC9 : Hid (∀ i, i < C.length → 0 ≤ gi C i ∧ gi C i ≤ 9223372036854775807) := Lib.hid fun i hi => by have := hg.wd _ (gi_mem hi); unfold Wd at this; omega
  obtain ⟨N, hN⟩ : ∃ N : Nat, nW S = (N : Int) := ⟨(nW S).toNat, by omega⟩
  have hN2 : (nW S).toNat = N := by omega
  have HN := Lib.hid hN
  have HNp : Hid (prodTo S S.length = (N : Int)) := Lib.hid hN
  rw [hN] at N1 N2
  rw [hN2]
  have HSp := Lib.hid hP.sp
  have HLW : Hid (∀ x, 0 ≤ ldr S C x ∧ ldr S C x ≤ 9223372036854775807) := Lib.hid fun x => by have := ldr_wd hP hg x; unfold Wd at this; have := nW_bd hP.sp; omega
  have HLN : Hid (∀ k, (ldsM S C k).length ≤ k) := Lib.hid fun k => ldsM_len S C k
  have HTw : Hid (∀ x y, y ∈ putTo [] (fun i => sumW S (gi C i) x) C.length → 0 ≤ y ∧ y < (N : Int)) := Lib.hid fun x y hy => by
    obtain ⟨u, _, rfl⟩ := (mem_shL _ _ _ _).1 ((mem_class x y).1 hy)
    have := wd_sum hP.sp u x; unfold Wd at this; rw [hN] at this; exact this
  have B0 : Below w.heap.size w (w.alloc (.cells #[.slice ao S.length cap] 26)) := by go_grown
  have c0 := cell_new w (.slice ao S.length cap) 26
  have l0 := lt_alloc w (.cells #[.slice ao S.length cap] 26)
  clear hP hg hN hN2
  go_enter Tryz.func89, Tryz.ntmps89
  go_wp2_with fail
  refine (l01N_any ao S cap _ hhi HSp.out.bd (hS.below B0)).mono ?_
  rintro e w1 ⟨rfl, hb⟩
  rw [HNp.out]
  have c1 := kept_cell hb c0 l0
  have l1 := lt_of_below hb l0
  have B1 : Below w.heap.size w w1 := B0.trans (hb.mono B0.size)
  have s1 := B1.size
  clear hb B0 c0 l0
  go_wp2_with (at_make; refine wpList_make_full _ rfl _ _ 76 rfl w1.heap.size 4 i0 (.bool false) 1 Tryz.underlying76 hi hz0 hz1 .i64 .i64 (N : Int) (N : Int) N rfl rfl rfl rfl (by rw [hz2]; omega) (by unfold maxLen; omega) (Nat.le_refl _) ?_; intro w2 hown hgrow)
  have hb2 := below_grown0 hgrow
  have B2 : Below w.heap.size w w2 := B1.trans (hb2.mono s1)
  replace hown := ownb_made hown
  rw [← marks_0] at hown
  have q2 := hown.base_le.2
  have c2 := kept_cell hb2 c1 l1
  have hown3 := hown.alloc (.cells #[] 2)
  have oo := own_empty w2 (w1.heap.size + 1) (by omega) rfl
  have b3 : Below w2.heap.size w2 (w2.alloc (.cells #[] 2)) := (Below.refl _ _).alloc (Nat.le_refl _) _
  have c3 := kept_cell b3 c2 (by omega)
  have B3 := B2.trans (b3.mono B2.size)
  clear hgrow hb2 hown c1 c2 b3 B1 B2
  go_loopw [6, 7] (fun v i wr => ∃ k g c : Nat, k ≤ N ∧ i = .int .i64 k ∧ v = .slice (some ⟨g, 0, none⟩) (ldsM S C k).length c ∧ OwnInts wr (w1.heap.size + 1) (.slice (some ⟨g, 0, none⟩) (ldsM S C k).length c) (ldsM S C k) ∧ OwnBools wr w1.heap.size (.slice (some ⟨w1.heap.size, 0, none⟩) N N) ((List.range N).map (inL (knTo S C k))) ∧ wr.cell? ⟨w.heap.size, 0, none⟩ = some (.slice ao S.length cap) ∧ Below w.heap.size w wr) (fun _ i _ => N - (intOf i).toNat)
  case atStart => exact ⟨0, w2.heap.size, 0, Nat.zero_le _, rfl, rfl, oo, hown3, c3, B3⟩
  case round =>
    clear oo hown3 c3 B3 q2
    obtain ⟨k, g, c, hk, rfl, rfl, own, ownB, cs, B⟩ := hrel
    have hgW := own.base_le
    have hcall := l01N_sp ao S cap wr HSp.out (hS.below B)
    rw [HN.out] at hcall
    obtain ⟨P, hPl⟩ : ∃ P, P = (ldsM S C k).length := ⟨_, rfl⟩
    have hPN : P ≤ k := by rw [hPl]; exact HLN.out k
    rw [← hPl] at own ⊢
    have HPl := Lib.hid hPl
    clear hPl
    by_cases hlt : k < N
    · have hltI : (k : Int) < (N : Int) := by omega
      have i1 : (0 : Int) ≤ (k : Int) := by omega
      by_cases hm : (k : Int) ∈ knTo S C k
      · have HY := Lib.hid (kn_yes hm)
        have hgb : gb ((List.range N).map (inL (knTo S C k))) k = true := by rw [gb_in _ _ _ hlt]; exact decide_eq_true hm
        clear hm
        go_wp2_with fail
        refine hcall.mono ?_
        rintro e w4 ⟨rfl, hb4⟩
        have own4 := own.below hb4
        have ownB4 := ownB.below hb4
        have c4 := kept_cell hb4 cs (by omega)
        have B4 := B.trans (hb4.mono B.size)
        have hck := ownB4.cell (k := k) (by simpa using hlt)
        rw [hgb] at hck
        clear hb4 hcall own ownB cs B hgb
        go_wp2_with fail
        go_roundw
        case rel => exact ⟨k + 1, g, c, by omega, by go_num, by rw [HY.out.2.2, HPl.out], by rw [HY.out.2.2, ← HPl.out]; exact own4, by rw [HY.out.1]; exact ownB4, c4, B4⟩
        case measure => simp [intOf]; omega
      · have HY := Lib.hid (kn_no hm)
        have HM := Lib.hid (fun (T : List Int) h => known_marks (S := S) (C := C) (L := T) hm h N)
        have hgb : gb ((List.range N).map (inL (knTo S C k))) k = false := by rw [gb_in _ _ _ hlt]; exact decide_eq_false hm
        have HSH := Lib.hid (fun (W : World) (h1 : Ints W ao S) (h2 : Ints W (some ac) C) => shifted_any ao S cap HSp.out ac C capc hl HC9.out (k : Int) ⟨by omega, by omega⟩ W h1 h2)
        have HLL := Lib.hid (fun (W : World) (h1 : Ints W ao S) (h2 : Ints W (some ac) C) => l05Leader_any ao S cap HSp.out ac C capc hl1 hl HC9.out (k : Int) ⟨by omega, by omega⟩ W h1 h2)
        have HT : Hid (∀ y, y ∈ putTo [] (fun i => sumW S (gi C i) (k : Int)) C.length ↔ y ∈ shL S C (k : Int)) := Lib.hid fun y => mem_class (k : Int) y
        have HTb := Lib.hid (HTw.out (k : Int))
        have hne : putTo [] (fun i => sumW S (gi C i) (k : Int)) C.length ≠ [] := fun h => by
          have h2 := (mem_putTo [] (fun i => sumW S (gi C i) (k : Int)) C.length (sumW S (gi C 0) (k : Int))).2 (.inr ⟨0, by omega, rfl⟩)
          rw [h] at h2; simp at h2
        have hTl := putTo_len [] (fun i => sumW S (gi C i) (k : Int)) C.length
        rw [List.length_nil, Nat.zero_add] at hTl
        obtain ⟨T, hTT⟩ : ∃ T, T = putTo [] (fun i => sumW S (gi C i) (k : Int)) C.length := ⟨_, rfl⟩
        rw [← hTT] at HSH HT HTb hne hTl
        have HMT := Lib.hid (HM.out T HT.out)
        obtain ⟨x, hx⟩ : ∃ x, x = ldr S C (k : Int) := ⟨_, rfl⟩
        have hxb : 0 ≤ x ∧ x ≤ 9223372036854775807 := by rw [hx]; exact HLW.out _
        rw [← hx] at HLL HY
        have HNE := Lib.hid hne
        clear hm HM HTw HT hne hTT hx
        go_wp2_with fail
        refine hcall.mono ?_
        rintro e w4 ⟨rfl, hb4⟩
        have own4 := own.below hb4
        have ownB4 := ownB.below hb4
        have c4 := kept_cell hb4 cs (by omega)
        have B4 := B.trans (hb4.mono B.size)
        have hck := ownB4.cell (k := k) (by simpa using hlt)
        rw [hgb] at hck
        have hg4 := own4.base_le
        clear hb4 hcall own ownB cs B hgb
        go_wp2_with fail
        refine (HSH.out w4 (hS.below B4) (hCI.below B4)).mono ?_
        rintro e w5 ⟨v, rfl, ownT, hb5⟩
        obtain ⟨g5, c5, hv, _⟩ := own_some ownT HNE.out
        obtain ⟨Q, hQ⟩ : ∃ Q, Q = T.length := ⟨_, rfl⟩
        have hQ2 : Q ≤ 1024 := by omega
        rw [← hQ] at hv
        subst hv
        have HQ := Lib.hid hQ
        have own5 := own4.below hb5
        have ownB5 := ownB4.below hb5
        have cs5 := kept_cell hb5 c4 (by omega)
        have B5 := B4.trans (hb5.mono B4.size)
        have ownT5 : OwnInts w5 (w1.heap.size + 1) (.slice (some ⟨g5, 0, none⟩) Q c5) T := ownT.rebase (by omega)
        have hTn := (own_ints ownT)
        have hm0 : OwnBools w5 w1.heap.size (.slice (some ⟨w1.heap.size, 0, none⟩) N N) (marB (knTo S C k ++ T) N ((knTo S C k).length + 0)) := by
          have e : marB (knTo S C k ++ T) N ((knTo S C k).length + 0) = (List.range N).map (inL (knTo S C k)) := by
            rw [← marB_all]; unfold marB; rw [Nat.add_zero, List.take_left, List.take_length]
          rw [e]; exact ownB5
        clear ownT ownB5 ownB4 own4 c4 B4 hb5 hck hQ hTn HSH
        go_wp2_with fail
        go_loopw [30] (fun i wi => ∃ m : Nat, m ≤ Q ∧ i = .int .i64 m ∧ OwnBools wi w1.heap.size (.slice (some ⟨w1.heap.size, 0, none⟩) N N) (marB (knTo S C k ++ T) N ((knTo S C k).length + m)) ∧ OwnInts wi (w1.heap.size + 1) (.slice (some ⟨g5, 0, none⟩) Q c5) T ∧ OwnInts wi (w1.heap.size + 1) (.slice (some ⟨g, 0, none⟩) P c) (ldsM S C k) ∧ wi.cell? ⟨w.heap.size, 0, none⟩ = some (.slice ao S.length cap) ∧ Below w.heap.size w wi) (fun i _ => Q - (intOf i).toNat)
        case atStart => exact ⟨0, Nat.zero_le _, rfl, hm0, ownT5, own5, cs5, B5⟩
        case round =>
          clear hm0 ownT5 own5 cs5 B5
          obtain ⟨m, hm, rfl, ownB, ownT, own, cs, B⟩ := hrel
          by_cases hlm : m < Q
          · have hmT : m < T.length := by have := HQ.out; omega
            have hcT := ownT.cell hmT
            obtain ⟨u1, u2⟩ := HTb.out _ (gi_mem hmT)
            obtain ⟨u, hu⟩ : ∃ u : Nat, gi T m = (u : Int) := ⟨(gi T m).toNat, by omega⟩
            have HU : Hid ((marB (knTo S C k ++ T) N ((knTo S C k).length + m)).set u true = marB (knTo S C k ++ T) N ((knTo S C k).length + (m + 1))) := Lib.hid (marB_step (knTo S C k ++ T) N ((knTo S C k).length + m) u (by rw [List.length_append]; omega) (by rw [gi_app2 _ _ _ hmT]; exact hu) (by omega))
            rw [hu] at hcT u1 u2
            have hun : u < N := by omega
            have hcell := ownB.cell (k := u) (by rw [marB_len]; omega)
            have hf := ownB.free u
            clear hu hmT
            go_wp2_with fail
            go_roundw
            case rel => exact ⟨m + 1, by omega, by go_num, by rw [← HU.out]; exact ownB.stored u true, ownT.setBelow (by simp) _, own.setBelow (by simp) _, cell_set_other cs (by simp; omega), B.setCell (by simp; omega) _⟩
            case measure => simp [intOf]; omega
          · have ek : Hid (m = T.length) := Lib.hid (by have := HQ.out; omega)
            have ownB' : OwnBools wr w1.heap.size (.slice (some ⟨w1.heap.size, 0, none⟩) N N) ((List.range N).map (inL (knTo S C (k + 1)))) := by
              have h := ownB
              rw [ek.out, ← List.length_append, marB_all, HMT.out] at h; exact h
            have hput := l01Put_any (w1.heap.size + 1) g c (ldsM S C k) x
            rw [← HPl.out] at hput
            have HPU := Lib.hid hput
            have hgi := own.base_le
            clear ownB ownT hput
            go_wp2_with fail
            refine (HLL.out wr (hS.below B) (hCI.below B)).mono ?_
            rintro e w6 ⟨rfl, hb6⟩
            have own6 := own.below hb6
            have ownB6 := ownB'.below hb6
            have cs6 := kept_cell hb6 cs (by omega)
            have B6 := B.trans (hb6.mono B.size)
            have s6 := hb6.size
            clear hb6 own ownB' cs B
            go_wp2_with fail
            refine (HPU.out w6 (by omega) own6).mono ?_
            rintro e w7 ⟨g7, c7, rfl, own7, hb7⟩
            have ownB7 := ownB6.below hb7
            have cs7 := kept_cell hb7 cs6 (by omega)
            have B7 := B6.trans (hb7.mono B6.size)
            rw [← HY.out.2.2] at own7 ⊢
            clear hb7 ownB6 cs6 B6 own6
            go_wp2_with fail
            go_roundw
            case rel => exact ⟨k + 1, g7, c7, by omega, by go_num, rfl, own7, ownB7, cs7, B7⟩
            case measure => simp [intOf]; omega
    · have ek : Hid (k = N) := Lib.hid (by omega)
      have hltI : ¬ (k : Int) < (N : Int) := by omega
      go_wp2_with fail
      refine hcall.mono ?_
      rintro e w2 ⟨rfl, hb2⟩
      go_wp2_with fail
      go_ret
      exact ⟨g, c, by rw [← ek.out, ← HPl.out]; rfl, by rw [← ek.out, ← HPl.out]; exact (own.below hb2).rebase (by omega), B.trans (hb2.mono B.size)⟩

end Go.Proofs.YtcnnijeokefboaaGreatDoor
