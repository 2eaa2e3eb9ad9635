/-
  The door behind which a code that is not linear is a panic, for questions whose answers are lists; and what it says of an argument that is no code. By an AI agent.
-/
import Derived.Test.YtcnnijeokefboaaGreatDoorPkDoor
namespace Go.Proofs.YtcnnijeokefboaaGreatDoor
open Go.RowKit Go.Shelf Cv
set_option linter.unusedVariables false
set_option linter.unusedSimpArgs false
set_option maxRecDepth 100000

theorem catch_panickingL (p : Addr) (pv : Value) (older : List PanicEntry) (w : World) (hc : w.cell? p = some (.int .i64 0)) (hz : w.frozen? p = false) :
    CallsD Tryz.prog 110 #[.pointer (some p)] (.panicking ({ v := .iface 153 pv, recovered := false } :: older)) w fun e u' w' =>
      e = .returned (.tuple #[]) ∧ u' = .panicking ({ v := .iface 153 pv, recovered := true } :: older) ∧ w' = w.setCell p (.int .i64 5) := by
  refine callsD_of_wpS Tryz.func110 rfl fun c₀ cs hu => ?_
  apply wpS_seq
  apply wpS_region
  simp [wpOpsS, go_sem, recoverD, hu, Tryz.ntmps110, Exit.thenS, assert_yes]
  apply wpS_seq
  apply wpS_region
  simp [wpOpsS, go_sem, Exit.thenS]
  refine wpS_cond (t := true) (by simp [Act.eval]) ?_
  simp only [if_true]
  apply wpS_region
  simp [wpOpsS, go_sem, hc, hz, bodyPostS, results, Tryz.results110]

theorem catch_idleL (p : Addr) (w : World) :
    CallsD Tryz.prog 110 #[.pointer (some p)] .returning w fun e u' w' => e = .returned (.tuple #[]) ∧ u' = .returning ∧ w' = w := by
  refine callsD_of_wpS Tryz.func110 rfl fun c₀ cs hu => ?_
  apply wpS_seq
  apply wpS_region
  simp [wpOpsS, go_sem, recoverD, hu, Tryz.ntmps110, Exit.thenS, assert_nil]
  apply wpS_seq
  apply wpS_region
  simp [wpOpsS, go_sem, Exit.thenS]
  refine wpS_cond (t := false) (by simp [Act.eval]) ?_
  simp only [Bool.false_eq_true, if_false]
  refine wpS_of_wp (wp_skip ?_)
  cases c₀
  simp_all [bodyPostS, results, Tryz.results110]

set_option maxHeartbeats 2000000 in
theorem askLinearL_yes (ao : Option Addr) (S : List Int) (cap : Nat) (hn : S.length ≤ 4294967296) (ac : Option Addr) (C : List Int) (capc : Nat) (hnc : C.length ≤ 4294967296) (hE : eCode S C = 0) (hl : linB S C = true) (f : Nat) (eg : ∀ args w, (callFunc f args).run Tryz.prog w = .ok (.enter f args) w) (pre post : Array Value) (X : List Int) (w : World) (hS : Ints w ao S) (hC : Ints w ac C)
    (hask : ∀ W, Below w.heap.size w W → Calls Tryz.prog f (pre.push (.agg #[.slice ao S.length cap, .slice ac C.length capc]) ++ post) W fun e w' => ∃ v, e = .returned v ∧ OwnInts w' W.heap.size v X ∧ Below W.heap.size W w') :
    Calls Tryz.prog 59 #[.agg #[.slice ao S.length cap], .slice ac C.length capc, .func (.func f) pre post] w fun e w' => ∃ v, e = .returned (.tuple #[v, .int .i64 0]) ∧ OwnInts w' w.heap.size v X ∧ Below w.heap.size w w' := by
  have hmf : ∀ (fn : Fn) (first cap : Array Value) (w : World), (Instr.makeFunc fn first cap).run Tryz.prog w = .ok (.func fn first cap) w := fun _ _ _ _ => rfl
  obtain ⟨W0, hW0, cS, rR, z0, B0⟩ := box2i w (.slice ao S.length cap) (.int .i64 0) 26 2
  have HW0 := Lib.hid hW0
  have z0a : w.heap.size + 2 ≤ W0.heap.size := by omega
  have h1 := codeError_any ao S cap hn ac C capc hnc W0 (hS.below B0) (hC.below B0)
  rw [hE] at h1
  have H1 := Lib.hid h1
  have HASK := Lib.hid hask
  clear hW0 z0 h1 hask
  go_enter_defers Tryz.func59, Tryz.ntmps59
  go_wp2_with fail
  rw [← HW0.out]
  refine H1.out.mono ?_
  rintro e w1 ⟨rfl, hb1⟩
  have s1 : w.heap.size + 2 ≤ w1.heap.size := by have := hb1.size; omega
  have cS1 := kept_cell hb1 cS (by omega)
  have rR1 : w1.heap[w.heap.size + 1]? = some (.cells #[.int .i64 0] 2 (0, 0)) := by rw [hb1.block (w.heap.size + 1) (by omega)]; exact rR
  have B1 := B0.trans (hb1.mono (by omega))
  have d0 : w1.cell? ⟨w.heap.size + 1, 0, none⟩ = some (.int .i64 0) := by rw [cell_of_row w1 (w.heap.size + 1) 0 _ _ _ rR1]; rfl
  have f0 : w1.frozen? ⟨w.heap.size + 1, 0, none⟩ = false := by have h' := rR1; simp [World.frozen?, h']
  clear hb1 cS rR H1
  have d1 : (w1.setCell ⟨w.heap.size + 1, 0, none⟩ (.int .i64 0)).cell? ⟨w.heap.size + 1, 0, none⟩ = some (.int .i64 0) := World.cell?_setCell_same' _ _ _ (by rw [d0]; rfl)
  have f1 : (w1.setCell ⟨w.heap.size + 1, 0, none⟩ (.int .i64 0)).frozen? ⟨w.heap.size + 1, 0, none⟩ = false := (World.frozen?_setCell _ _ _ _).trans f0
  have cS2 : (w1.setCell ⟨w.heap.size + 1, 0, none⟩ (.int .i64 0)).cell? ⟨w.heap.size, 0, none⟩ = some (.slice ao S.length cap) := cell_set_other cS1 (by simp)
  have B2 : Below w.heap.size w (w1.setCell ⟨w.heap.size + 1, 0, none⟩ (.int .i64 0)) := B1.setCell (show w.heap.size ≤ w.heap.size + 1 by omega) _
  have s2 : w.heap.size + 2 ≤ (w1.setCell ⟨w.heap.size + 1, 0, none⟩ (.int .i64 0)).heap.size := by simpa using s1
  go_wp2_with fail
  obtain ⟨W2, hW2⟩ : ∃ W2, W2 = w1.setCell ⟨w.heap.size + 1, 0, none⟩ (.int .i64 0) := ⟨_, rfl⟩
  rw [← hW2] at d1 f1 cS2 B2 s2 ⊢
  clear hW2 d0 f0 cS1 rR1 B1 s1
  refine (linearCodeOf_yes ao S cap hn ac C capc hE hl W2 (hS.below B2) (hC.below B2)).mono ?_
  rintro e w3 ⟨rfl, hb3⟩
  have d3 := kept_cell hb3 d1 (by omega)
  have f3 : w3.frozen? ⟨w.heap.size + 1, 0, none⟩ = false := (hb3.frozen (p := ⟨w.heap.size + 1, 0, none⟩) (show w.heap.size + 1 < W2.heap.size by omega)).trans f1
  have B3 := B2.trans (hb3.mono (by omega))
  have s3 : w.heap.size + 2 ≤ w3.heap.size := Nat.le_trans s2 hb3.size
  clear hb3 d1 f1 cS2 B2 s2
  go_wp2_with fail
  refine (HASK.out w3 B3).mono ?_
  rintro e w4 ⟨v, rfl, own4, hb4⟩
  have own5 : OwnInts (w4.setCell ⟨w.heap.size + 1, 0, none⟩ (.int .i64 0)) w.heap.size v X := (own4.setBelow (show w.heap.size + 1 < w3.heap.size by omega) _).rebase (by omega)
  have d4 := kept_cell hb4 d3 (by omega)
  have f4 : w4.frozen? ⟨w.heap.size + 1, 0, none⟩ = false := (hb4.frozen (p := ⟨w.heap.size + 1, 0, none⟩) (show w.heap.size + 1 < w3.heap.size by omega)).trans f3
  have B4 := B3.trans (hb4.mono (by omega))
  have d5 : (w4.setCell ⟨w.heap.size + 1, 0, none⟩ (.int .i64 0)).cell? ⟨w.heap.size + 1, 0, none⟩ = some (.int .i64 0) := World.cell?_setCell_same' _ _ _ (by rw [d4]; rfl)
  have B5 : Below w.heap.size w (w4.setCell ⟨w.heap.size + 1, 0, none⟩ (.int .i64 0)) := B4.setCell (show w.heap.size ≤ w.heap.size + 1 by omega) _
  clear hb4 d3 f3 B3 s3 HASK
  go_wp2_with fail
  refine leaves_cons (f := 110) (args := #[.pointer (some ⟨w.heap.size + 1, 0, none⟩)]) (by simp) (by simp [go_sem]) ?_
  refine (catch_idleL _ _).mono ?_
  rintro e u' w'' ⟨rfl, rfl, rfl⟩
  simp [Leaves, settle, results, Tryz.results59, go_sem, d5]
  exact ⟨own5, B5⟩

set_option maxHeartbeats 2000000 in
theorem askLinearL_no (ao : Option Addr) (S : List Int) (cap : Nat) (hn : S.length ≤ 4294967296) (ac : Option Addr) (C : List Int) (capc : Nat) (hnc : C.length ≤ 4294967296) (hE : eCode S C = 0) (hl : linB S C = false) (f : Nat) (pre post : Array Value) (pv : Value) (w : World) (hS : Ints w ao S) (hC : Ints w ac C) (hG : Glob pv w) :
    Calls Tryz.prog 59 #[.agg #[.slice ao S.length cap], .slice ac C.length capc, .func (.func f) pre post] w fun e w' => e = .returned (.tuple #[.slice none 0 0, .int .i64 5]) ∧ Below w.heap.size w w' := by
  have hmf : ∀ (fn : Fn) (first cap : Array Value) (w : World), (Instr.makeFunc fn first cap).run Tryz.prog w = .ok (.func fn first cap) w := fun _ _ _ _ => rfl
  obtain ⟨W0, hW0, cS, rR, z0, B0⟩ := box2i w (.slice ao S.length cap) (.int .i64 0) 26 2
  have HW0 := Lib.hid hW0
  have z0a : w.heap.size + 2 ≤ W0.heap.size := by omega
  have h1 := codeError_any ao S cap hn ac C capc hnc W0 (hS.below B0) (hC.below B0)
  rw [hE] at h1
  have H1 := Lib.hid h1
  have hpos := hG.2
  clear hW0 z0 h1
  go_enter_defers Tryz.func59, Tryz.ntmps59
  go_wp2_with fail
  rw [← HW0.out]
  refine H1.out.mono ?_
  rintro e w1 ⟨rfl, hb1⟩
  have s1 : w.heap.size + 2 ≤ w1.heap.size := by have := hb1.size; omega
  have cS1 := kept_cell hb1 cS (by omega)
  have rR1 : w1.heap[w.heap.size + 1]? = some (.cells #[.int .i64 0] 2 (0, 0)) := by rw [hb1.block (w.heap.size + 1) (by omega)]; exact rR
  have B1 := B0.trans (hb1.mono (by omega))
  have d0 : w1.cell? ⟨w.heap.size + 1, 0, none⟩ = some (.int .i64 0) := by rw [cell_of_row w1 (w.heap.size + 1) 0 _ _ _ rR1]; rfl
  have f0 : w1.frozen? ⟨w.heap.size + 1, 0, none⟩ = false := by have h' := rR1; simp [World.frozen?, h']
  clear hb1 cS rR H1
  have d1 : (w1.setCell ⟨w.heap.size + 1, 0, none⟩ (.int .i64 0)).cell? ⟨w.heap.size + 1, 0, none⟩ = some (.int .i64 0) := World.cell?_setCell_same' _ _ _ (by rw [d0]; rfl)
  have f1 : (w1.setCell ⟨w.heap.size + 1, 0, none⟩ (.int .i64 0)).frozen? ⟨w.heap.size + 1, 0, none⟩ = false := (World.frozen?_setCell _ _ _ _).trans f0
  have cS2 : (w1.setCell ⟨w.heap.size + 1, 0, none⟩ (.int .i64 0)).cell? ⟨w.heap.size, 0, none⟩ = some (.slice ao S.length cap) := cell_set_other cS1 (by simp)
  have B2 : Below w.heap.size w (w1.setCell ⟨w.heap.size + 1, 0, none⟩ (.int .i64 0)) := B1.setCell (show w.heap.size ≤ w.heap.size + 1 by omega) _
  have s2 : w.heap.size + 2 ≤ (w1.setCell ⟨w.heap.size + 1, 0, none⟩ (.int .i64 0)).heap.size := by simpa using s1
  go_wp2_with fail
  obtain ⟨W2, hW2⟩ : ∃ W2, W2 = w1.setCell ⟨w.heap.size + 1, 0, none⟩ (.int .i64 0) := ⟨_, rfl⟩
  rw [← hW2] at d1 f1 cS2 B2 s2 ⊢
  clear hW2 d0 f0 cS1 rR1 B1 s1
  refine (linearCodeOf_no ao S cap hn ac C capc hE hl pv W2 (hS.below B2) (hC.below B2) (hG.below B2 hpos)).mono ?_
  rintro e w3 ⟨rfl, hb3⟩
  have d3 := kept_cell hb3 d1 (by omega)
  have f3 : w3.frozen? ⟨w.heap.size + 1, 0, none⟩ = false := (hb3.frozen (p := ⟨w.heap.size + 1, 0, none⟩) (show w.heap.size + 1 < W2.heap.size by omega)).trans f1
  have B3 := B2.trans (hb3.mono (by omega))
  have d5 : (w3.setCell ⟨w.heap.size + 1, 0, none⟩ (.int .i64 5)).cell? ⟨w.heap.size + 1, 0, none⟩ = some (.int .i64 5) := World.cell?_setCell_same' _ _ _ (by rw [d3]; rfl)
  have B5 : Below w.heap.size w (w3.setCell ⟨w.heap.size + 1, 0, none⟩ (.int .i64 5)) := B3.setCell (show w.heap.size ≤ w.heap.size + 1 by omega) _
  clear hb3 d1 f1 cS2 B2 s2
  go_wp2_with fail
  refine leaves_cons (f := 110) (args := #[.pointer (some ⟨w.heap.size + 1, 0, none⟩)]) (by simp) (by simp [go_sem]) ?_
  refine (catch_panickingL _ pv [] _ d3 f3).mono ?_
  rintro e u' w'' ⟨rfl, rfl, rfl⟩
  simp [Leaves, settle, results, Tryz.results59, go_sem, d5]
  exact B5

set_option maxHeartbeats 2000000 in
theorem askLinear_err (ao : Option Addr) (S : List Int) (cap : Nat) (hn : S.length ≤ 4294967296) (ac : Option Addr) (C : List Int) (capc : Nat) (hnc : C.length ≤ 4294967296) (hE : eCode S C ≠ 0) (f : Nat) (pre post : Array Value) (w : World) (hS : Ints w ao S) (hC : Ints w ac C) :
    Calls Tryz.prog 62 #[.agg #[.slice ao S.length cap], .slice ac C.length capc, .func (.func f) pre post] w fun e w' => e = .returned (.tuple #[.int .i64 0, .int .i64 (eCode S C)]) ∧ Below w.heap.size w w' := by
  have hmf : ∀ (fn : Fn) (first cap : Array Value) (w : World), (Instr.makeFunc fn first cap).run Tryz.prog w = .ok (.func fn first cap) w := fun _ _ _ _ => rfl
  obtain ⟨W0, hW0, cS, rR, z0, B0⟩ := box2i w (.slice ao S.length cap) (.int .i64 0) 26 2
  have HW0 := Lib.hid hW0
  have z0a : w.heap.size + 2 ≤ W0.heap.size := by omega
  have h1 := codeError_any ao S cap hn ac C capc hnc W0 (hS.below B0) (hC.below B0)
  have hen : (eCode S C != 0) = true := by simpa using hE
  obtain ⟨E, hEE⟩ : ∃ E, E = eCode S C := ⟨_, rfl⟩
  rw [← hEE] at h1 hen ⊢
  have H1 := Lib.hid h1
  clear hW0 z0 h1 hE hEE
  go_enter_defers Tryz.func62, Tryz.ntmps62
  go_wp2_with fail
  rw [← HW0.out]
  refine H1.out.mono ?_
  rintro e w1 ⟨rfl, hb1⟩
  have s1 : w.heap.size + 2 ≤ w1.heap.size := by have := hb1.size; omega
  have cS1 := kept_cell hb1 cS (by omega)
  have rR1 : w1.heap[w.heap.size + 1]? = some (.cells #[.int .i64 0] 2 (0, 0)) := by rw [hb1.block (w.heap.size + 1) (by omega)]; exact rR
  have B1 := B0.trans (hb1.mono (by omega))
  have d0 : w1.cell? ⟨w.heap.size + 1, 0, none⟩ = some (.int .i64 0) := by rw [cell_of_row w1 (w.heap.size + 1) 0 _ _ _ rR1]; rfl
  have f0 : w1.frozen? ⟨w.heap.size + 1, 0, none⟩ = false := by have h' := rR1; simp [World.frozen?, h']
  clear hb1 cS rR H1
  have d1 : (w1.setCell ⟨w.heap.size + 1, 0, none⟩ (.int .i64 E)).cell? ⟨w.heap.size + 1, 0, none⟩ = some (.int .i64 E) := World.cell?_setCell_same' _ _ _ (by rw [d0]; rfl)
  have f1 : (w1.setCell ⟨w.heap.size + 1, 0, none⟩ (.int .i64 E)).frozen? ⟨w.heap.size + 1, 0, none⟩ = false := (World.frozen?_setCell _ _ _ _).trans f0
  have cS2 : (w1.setCell ⟨w.heap.size + 1, 0, none⟩ (.int .i64 E)).cell? ⟨w.heap.size, 0, none⟩ = some (.slice ao S.length cap) := cell_set_other cS1 (by simp)
  have B2 : Below w.heap.size w (w1.setCell ⟨w.heap.size + 1, 0, none⟩ (.int .i64 E)) := B1.setCell (show w.heap.size ≤ w.heap.size + 1 by omega) _
  have s2 : w.heap.size + 2 ≤ (w1.setCell ⟨w.heap.size + 1, 0, none⟩ (.int .i64 E)).heap.size := by simpa using s1
  go_wp2_with fail
  obtain ⟨W2, hW2⟩ : ∃ W2, W2 = w1.setCell ⟨w.heap.size + 1, 0, none⟩ (.int .i64 E) := ⟨_, rfl⟩
  rw [← hW2] at d1 f1 cS2 B2 s2 ⊢
  clear hW2 d0 f0 cS1 rR1 B1 s1 cS2
  have d5 : (W2.setCell ⟨w.heap.size + 1, 0, none⟩ (.int .i64 E)).cell? ⟨w.heap.size + 1, 0, none⟩ = some (.int .i64 E) := World.cell?_setCell_same' _ _ _ (by rw [d1]; rfl)
  have B5 : Below w.heap.size w (W2.setCell ⟨w.heap.size + 1, 0, none⟩ (.int .i64 E)) := B2.setCell (show w.heap.size ≤ w.heap.size + 1 by omega) _
  go_region
  all_goals (go_wp2_with fail)
  have d6 : (W2.setCell ⟨w.heap.size + 1, 0, none⟩ (.int .i64 E)).drew.cell? ⟨w.heap.size + 1, 0, none⟩ = some (.int .i64 E) := d5
  simp [bodyPostD, Leaves, settle, results, Tryz.results62, go_sem, d6]
  exact B5.drew

set_option maxHeartbeats 2000000 in
theorem askLinearL_err (ao : Option Addr) (S : List Int) (cap : Nat) (hn : S.length ≤ 4294967296) (ac : Option Addr) (C : List Int) (capc : Nat) (hnc : C.length ≤ 4294967296) (hE : eCode S C ≠ 0) (f : Nat) (pre post : Array Value) (w : World) (hS : Ints w ao S) (hC : Ints w ac C) :
    Calls Tryz.prog 59 #[.agg #[.slice ao S.length cap], .slice ac C.length capc, .func (.func f) pre post] w fun e w' => e = .returned (.tuple #[.slice none 0 0, .int .i64 (eCode S C)]) ∧ Below w.heap.size w w' := by
  have hmf : ∀ (fn : Fn) (first cap : Array Value) (w : World), (Instr.makeFunc fn first cap).run Tryz.prog w = .ok (.func fn first cap) w := fun _ _ _ _ => rfl
  obtain ⟨W0, hW0, cS, rR, z0, B0⟩ := box2i w (.slice ao S.length cap) (.int .i64 0) 26 2
  have HW0 := Lib.hid hW0
  have z0a : w.heap.size + 2 ≤ W0.heap.size := by omega
  have h1 := codeError_any ao S cap hn ac C capc hnc W0 (hS.below B0) (hC.below B0)
  have hen : (eCode S C != 0) = true := by simpa using hE
  obtain ⟨E, hEE⟩ : ∃ E, E = eCode S C := ⟨_, rfl⟩
  rw [← hEE] at h1 hen ⊢
  have H1 := Lib.hid h1
  clear hW0 z0 h1 hE hEE
  go_enter_defers Tryz.func59, Tryz.ntmps59
  go_wp2_with fail
  rw [← HW0.out]
  refine H1.out.mono ?_
  rintro e w1 ⟨rfl, hb1⟩
  have s1 : w.heap.size + 2 ≤ w1.heap.size := by have := hb1.size; omega
  have cS1 := kept_cell hb1 cS (by omega)
  have rR1 : w1.heap[w.heap.size + 1]? = some (.cells #[.int .i64 0] 2 (0, 0)) := by rw [hb1.block (w.heap.size + 1) (by omega)]; exact rR
  have B1 := B0.trans (hb1.mono (by omega))
  have d0 : w1.cell? ⟨w.heap.size + 1, 0, none⟩ = some (.int .i64 0) := by rw [cell_of_row w1 (w.heap.size + 1) 0 _ _ _ rR1]; rfl
  have f0 : w1.frozen? ⟨w.heap.size + 1, 0, none⟩ = false := by have h' := rR1; simp [World.frozen?, h']
  clear hb1 cS rR H1
  have d1 : (w1.setCell ⟨w.heap.size + 1, 0, none⟩ (.int .i64 E)).cell? ⟨w.heap.size + 1, 0, none⟩ = some (.int .i64 E) := World.cell?_setCell_same' _ _ _ (by rw [d0]; rfl)
  have f1 : (w1.setCell ⟨w.heap.size + 1, 0, none⟩ (.int .i64 E)).frozen? ⟨w.heap.size + 1, 0, none⟩ = false := (World.frozen?_setCell _ _ _ _).trans f0
  have cS2 : (w1.setCell ⟨w.heap.size + 1, 0, none⟩ (.int .i64 E)).cell? ⟨w.heap.size, 0, none⟩ = some (.slice ao S.length cap) := cell_set_other cS1 (by simp)
  have B2 : Below w.heap.size w (w1.setCell ⟨w.heap.size + 1, 0, none⟩ (.int .i64 E)) := B1.setCell (show w.heap.size ≤ w.heap.size + 1 by omega) _
  have s2 : w.heap.size + 2 ≤ (w1.setCell ⟨w.heap.size + 1, 0, none⟩ (.int .i64 E)).heap.size := by simpa using s1
  go_wp2_with fail
  obtain ⟨W2, hW2⟩ : ∃ W2, W2 = w1.setCell ⟨w.heap.size + 1, 0, none⟩ (.int .i64 E) := ⟨_, rfl⟩
  rw [← hW2] at d1 f1 cS2 B2 s2 ⊢
  clear hW2 d0 f0 cS1 rR1 B1 s1 cS2
  have d5 : (W2.setCell ⟨w.heap.size + 1, 0, none⟩ (.int .i64 E)).cell? ⟨w.heap.size + 1, 0, none⟩ = some (.int .i64 E) := World.cell?_setCell_same' _ _ _ (by rw [d1]; rfl)
  have B5 : Below w.heap.size w (W2.setCell ⟨w.heap.size + 1, 0, none⟩ (.int .i64 E)) := B2.setCell (show w.heap.size ≤ w.heap.size + 1 by omega) _
  go_region
  all_goals (go_wp2_with fail)
  have d6 : (W2.setCell ⟨w.heap.size + 1, 0, none⟩ (.int .i64 E)).drew.cell? ⟨w.heap.size + 1, 0, none⟩ = some (.int .i64 E) := d5
  simp [bodyPostD, Leaves, settle, results, Tryz.results59, go_sem, d6]
  exact B5.drew

end Go.Proofs.YtcnnijeokefboaaGreatDoor
