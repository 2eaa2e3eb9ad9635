/-
  The leader of a class and the class, in the program. By an AI agent.
-/
import Derived.Test.YthinedjblpgalaaDoorLdr
import Derived.Test.YthinedjblpgalaaDoorSums2
import Derived.Deep.WholeRow
namespace Go.Proofs.YthinedjblpgalaaDoor
open Go.RowKit Go.Shelf Cv
set_option linter.unusedVariables false
set_option linter.unusedSimpArgs false
set_option maxRecDepth 100000

set_option maxHeartbeats 2000000 in
theorem leader_cmp (sb : Nat) (ao : Option Addr) (S : List Int) (cap : Nat) (hSp : Sp S) (L : List Int) (hL : ∀ x, x ∈ L → 0 ≤ x ∧ x ≤ 9223372036854775807) (n : Nat) (w : World) (hsb : sb < n) (hn : n ≤ w.heap.size) (cS : w.cell? ⟨sb, 0, none⟩ = some (.slice ao S.length cap)) (hSn : ∀ W, Below n w W → Ints W ao S) :
    CmpN 69 #[] #[.pointer (some ⟨sb, 0, none⟩)] S n w L := by
  intro W u x hb hu hx
  obtain ⟨u1, u2⟩ := hL u hu
  obtain ⟨x1, x2⟩ := hL x hx
  have c1 := kept_cell hb cS hsb
  have hSW := hSn W hb
  have sW := hb.size
  have ls : sb < W.heap.size := by omega
  have hsb2 : sb < W.drew.heap.size := ls
  clear cS hSn hb
  show Calls Tryd.prog 69 #[.int .i64 u, .int .i64 x, .pointer (some ⟨sb, 0, none⟩)] W _
  go_enter Tryd.func69, Tryd.ntmps69
  go_wp2_with fail
  refine wp_region_held_drew (S := fun w' => w'.cell? ⟨sb, 0, none⟩ = some (.slice ao S.length cap)) (by kernel_rfl) c1 (fun hHeld => ?_)
  refine wpAnyH_take (i := 0) (v := ?_) rfl (by kernel_rfl) (by kernel_rfl) (by kernel_rfl) (fun _ _ _ h => h) (Or.inl ⟨by rfl, ?_⟩) (by assumption) ?_
  rotate_left
  · (intro w hSw; (try dsimp only at hSw); go_simp; try (with_reducible rfl))
  (try simp only [Act.put, List.setIfInBounds_toArray, List.set_cons_zero, List.set_cons_succ])
  refine wpAnyH_take (i := 1) (v := ?_) rfl (by kernel_rfl) (by kernel_rfl) (by kernel_rfl) (fun _ _ _ h => h) (Or.inl ⟨by rfl, ?_⟩) (by assumption) ?_
  rotate_left
  · (intro w hSw; (try dsimp only at hSw); go_simp; try (with_reducible rfl))
  (try simp only [Act.put, List.setIfInBounds_toArray, List.set_cons_zero, List.set_cons_succ])
  refine wpAnyH_take (i := 3) (v := ?_) rfl (by kernel_rfl) (by kernel_rfl) (by kernel_rfl) (fun _ _ _ h => h) (Or.inl ⟨by rfl, ?_⟩) (by assumption) ?_
  rotate_left
  · (intro w hSw; (try dsimp only at hSw); go_simp; try (with_reducible rfl))
  (try simp only [Act.put, List.setIfInBounds_toArray, List.set_cons_zero, List.set_cons_succ])
  refine wpAnyH_take (i := 4) (v := ?_) rfl (by kernel_rfl) (by kernel_rfl) (by kernel_rfl) (fun _ _ _ h => h) (Or.inl ⟨by rfl, ?_⟩) (by assumption) ?_
  rotate_left
  · (intro w hSw; (try dsimp only at hSw); go_simp; try (with_reducible rfl))
  (try simp only [Act.put, List.setIfInBounds_toArray, List.set_cons_zero, List.set_cons_succ])
  refine wpAnyH_take (i := 7) (v := ?_) rfl (by kernel_rfl) (by kernel_rfl) (by kernel_rfl) (fun _ _ _ h => h) (Or.inl ⟨by rfl, ?_⟩) (by assumption) ?_
  rotate_left
  · (intro w hSw; (try dsimp only at hSw); go_simp; try (with_reducible rfl))
  (try simp only [Act.put, List.setIfInBounds_toArray, List.set_cons_zero, List.set_cons_succ])
  refine wpAnyH_take (i := 8) (v := ?_) rfl (by kernel_rfl) (by kernel_rfl) (by kernel_rfl) (fun _ _ _ h => h) (Or.inl ⟨by rfl, ?_⟩) (by assumption) ?_
  rotate_left
  · (intro w hSw; (try dsimp only at hSw); go_simp; try (with_reducible rfl))
  (try simp only [Act.put, List.setIfInBounds_toArray, List.set_cons_zero, List.set_cons_succ])
  refine wpAnyH_ready (rs := [2]) (by kernel_rfl) (by simp) ?_
  refine AllReadyH.cons rfl (fun K hK => ?_) AllReadyH.nil
  go_simp
  (go_at_call 72; refine (distance_any ao S cap hSp 0 u (by omega) (by omega) u1 u2 _ (hSW.below (Below.refl _ _).drew)).mono ?_)
  rintro e w2 ⟨rfl, hb2'⟩
  have hb2 : Below W.heap.size W w2 := (Below.refl _ W).drew.trans hb2'
  refine hK.out _ _ (kept_cell hb2 c1 ls) (fun hHeld => ?_)
  clear hK K
  (try simp only [Act.put, List.setIfInBounds_toArray, List.set_cons_zero, List.set_cons_succ])
  refine wpAnyH_ready (rs := [5]) (by kernel_rfl) (by simp) ?_
  refine AllReadyH.cons rfl (fun K hK => ?_) AllReadyH.nil
  go_simp
  (go_at_call 72; refine (distance_any ao S cap hSp 0 x (by omega) (by omega) x1 x2 _ (hSW.below hb2)).mono ?_)
  rintro e w3 ⟨rfl, hb3'⟩
  have hb3 : Below W.heap.size W w3 := hb2.trans (hb3'.mono hb2.size)
  refine hK.out _ _ (kept_cell hb3 c1 ls) (fun hHeld => ?_)
  clear hK K
  (try simp only [Act.put, List.setIfInBounds_toArray, List.set_cons_zero, List.set_cons_succ])
  refine wpAnyH_ready (rs := [6]) (by kernel_rfl) (by simp) ?_
  refine AllReadyH.cons rfl (fun K hK => ?_) AllReadyH.nil
  go_simp
  (go_at_call 71; refine (compare_any (dist S 0 u) (dist S 0 x) _).mono ?_)
  rintro e w4 ⟨rfl, rfl⟩
  refine hK.out _ _ (kept_cell hb3 c1 ls) (fun hHeld => ?_)
  clear hK K
  (try simp only [Act.put, List.setIfInBounds_toArray, List.set_cons_zero, List.set_cons_succ])
  refine wpAnyH_ready (rs := [9]) (by kernel_rfl) (by simp) ?_
  refine AllReadyH.cons rfl (fun K hK => ?_) AllReadyH.nil
  go_simp
  (go_at_call 71; refine (compare_any u x _).mono ?_)
  rintro e w4 ⟨rfl, rfl⟩
  refine hK.out _ _ (kept_cell hb3 c1 ls) (fun hHeld => ?_)
  clear hK K
  (try simp only [Act.put, List.setIfInBounds_toArray, List.set_cons_zero, List.set_cons_succ])
  refine wpAnyH_ready (rs := [10]) (by kernel_rfl) (by simp) ?_
  refine AllReadyH.cons rfl (fun K hK => ?_) AllReadyH.nil
  have hb4 : Below W.heap.size W (w3.alloc (.cells #[.int .i64 (cmpI (dist S 0 u) (dist S 0 x)), .int .i64 (cmpI u x)] 3)) := hb3.alloc hb3.size _
  go_simp
  refine hK.out _ _ (kept_cell hb4 c1 ls) (fun hHeld => ?_)
  clear hK K
  (try simp only [Act.put, List.setIfInBounds_toArray, List.set_cons_zero, List.set_cons_succ])
  refine wpAnyH_ready (rs := [11]) (by kernel_rfl) (by simp) ?_
  refine AllReadyH.cons rfl (fun K hK => ?_) AllReadyH.nil
  go_simp
  (go_at_call 70; refine (cmpOrI2 _ (cmpI (dist S 0 u) (dist S 0 x)) (cmpI u x) _ _ (ints_new2 _ _ _ _ rfl)).mono ?_)
  rintro e w5 ⟨rfl, rfl⟩
  refine hK.out _ _ (kept_cell hb4 c1 ls) (fun hHeld => ?_)
  clear hK K
  (try simp only [Act.put, List.setIfInBounds_toArray, List.set_cons_zero, List.set_cons_succ])
  refine wpAnyH_take (i := 12) (v := ?_) rfl (by kernel_rfl) (by kernel_rfl) (by kernel_rfl) (fun _ _ _ h => h) (Or.inl ⟨by rfl, ?_⟩) (by assumption) ?_
  rotate_left
  · (intro w hSw; (try dsimp only at hSw); go_simp; try (with_reducible rfl))
  (try simp only [Act.put, List.setIfInBounds_toArray, List.set_cons_zero, List.set_cons_succ])
  refine wpAnyH_done (by kernel_rfl) ?_ _
  (try simp only [List.getElem_toArray, List.getElem_cons_succ, List.getElem_cons_zero, Act.put, List.setIfInBounds_toArray, List.set_cons_zero, List.set_cons_succ])
  go_wp2_with fail
  go_ret
  exact ⟨rfl, hb4⟩

theorem leaderOf_any (ao : Option Addr) (S : List Int) (cap : Nat) (hSp : Sp S) (ac : Option Addr) (L : List Int) (capc : Nat) (hl1 : 1 ≤ L.length) (hl : L.length ≤ 1048576) (hL : ∀ x, x ∈ L → 0 ≤ x ∧ x ≤ 9223372036854775807) (w : World) (hS : Ints w ao S) (hLI : Ints w ac L) :
    Calls Tryd.prog 48 #[.agg #[.slice ao S.length cap], .slice ac L.length capc] w fun e w' => e = .returned (.int .i64 (ldrTo S L (L.length - 1))) ∧ Below w.heap.size w w' := by
  have B0 : Below w.heap.size w (w.alloc (.cells #[.slice ao S.length cap] 28)) := by go_grown
  have c0 := cell_new w (.slice ao S.length cap) 28
  have hf := leader_cmp w.heap.size ao S cap hSp L hL _ _ (lt_alloc w (.cells #[.slice ao S.length cap] 28)) (Nat.le_refl _) c0 (fun W hb => (hS.below B0).below hb)
  have HF := Lib.hid hf
  clear hf c0
  go_enter Tryd.func48, Tryd.ntmps48
  go_wp2_with fail
  refine (minFunc_any ac capc L S hl1 hl 69 (enters_of Tryd.func69 (by kernel_rfl) rfl) #[] #[.pointer (some ⟨w.heap.size, 0, none⟩)] _ (hLI.below B0) HF.out).mono ?_
  rintro e w2 ⟨rfl, hb⟩
  go_wp2_with fail
  go_ret
  exact ⟨rfl, B0.trans (hb.mono B0.size)⟩

theorem class_fun (lb : Nat) (ao : Option Addr) (S : List Int) (cap : Nat) (hSp : Sp S) (C : List Int) (hC : ∀ x, x ∈ C → 0 ≤ x ∧ x ≤ 9223372036854775807) (x : Int) (hx : 0 ≤ x ∧ x ≤ 9223372036854775807) (n : Nat) (w : World) (hlb : lb + 1 < n) (cS : w.cell? ⟨lb, 0, none⟩ = some (.slice ao S.length cap)) (cX : w.cell? ⟨lb + 1, 0, none⟩ = some (.int .i64 x)) (hSn : ∀ W, Below n w W → Ints W ao S) :
    FunN 74 #[] #[.pointer (some ⟨lb, 0, none⟩), .pointer (some ⟨lb + 1, 0, none⟩)] (fun u => sumW S u x) n w C := by
  intro W u hb hu
  obtain ⟨u1, u2⟩ := hC u hu
  have c1 := kept_cell hb cS (by omega)
  have c2 := kept_cell hb cX (by omega)
  have hSW := hSn W hb
  clear cS cX hSn hb
  show Calls Tryd.prog 74 #[.int .i64 u, .pointer (some ⟨lb, 0, none⟩), .pointer (some ⟨lb + 1, 0, none⟩)] W _
  go_enter Tryd.func74, Tryd.ntmps74
  go_wp2_with fail
  refine (sumOfWords_any ao S cap hSp u x u1 u2 hx.1 hx.2 _ hSW).mono ?_
  rintro e w2 ⟨rfl, hb2⟩
  go_wp2_with fail
  go_ret
  exact ⟨rfl, hb2⟩

theorem boxlc (w : World) (a b c : Value) (t u : TypeId) : ∃ W, W = (w.alloc (.cells #[a, b] t)).alloc (.cells #[c] u) ∧ W.cell? ⟨w.heap.size, 0, none⟩ = some a ∧ W.cell? ⟨w.heap.size, 1, none⟩ = some b ∧ W.cell? ⟨w.heap.size + 1, 0, none⟩ = some c ∧ W.heap.size = w.heap.size + 2 ∧ Below w.heap.size w W := by
  have s1 : (w.alloc (.cells #[a, b] t)).heap.size = w.heap.size + 1 := World.size_alloc _ _
  have s2 : ((w.alloc (.cells #[a, b] t)).alloc (.cells #[c] u)).heap.size = w.heap.size + 2 := by rw [World.size_alloc, s1]
  have b1 : Below (w.alloc (.cells #[a, b] t)).heap.size (w.alloc (.cells #[a, b] t)) ((w.alloc (.cells #[a, b] t)).alloc (.cells #[c] u)) := (Below.refl _ _).alloc (Nat.le_refl _) _
  have b0 : Below w.heap.size w ((w.alloc (.cells #[a, b] t)).alloc (.cells #[c] u)) := ((Below.refl _ _).alloc (Nat.le_refl _) _).trans (b1.mono (by omega))
  have y0 : (w.alloc (.cells #[a, b] t)).cell? ⟨w.heap.size, 0, none⟩ = some a := by rw [cell_of_row _ w.heap.size 0 _ _ _ (heap_alloc_last w (.cells #[a, b] t))]; rfl
  have y1 : (w.alloc (.cells #[a, b] t)).cell? ⟨w.heap.size, 1, none⟩ = some b := by rw [cell_of_row _ w.heap.size 1 _ _ _ (heap_alloc_last w (.cells #[a, b] t))]; rfl
  have x3 := cell_new (w.alloc (.cells #[a, b] t)) c u
  rw [s1] at x3
  exact ⟨_, rfl, kept_cell b1 y0 (lt_alloc _ _), kept_cell b1 y1 (lt_alloc _ _), x3, s2, b0⟩

theorem class_any (ao : Option Addr) (S : List Int) (cap : Nat) (hSp : Sp S) (ac : Option Addr) (C : List Int) (capc : Nat) (hl : C.length ≤ 1048576) (hC : ∀ x, x ∈ C → 0 ≤ x ∧ x ≤ 9223372036854775807) (x : Int) (hx : 0 ≤ x ∧ x ≤ 9223372036854775807) (w : World) (hS : Ints w ao S) (hCI : Ints w ac C) :
    Calls Tryd.prog 49 #[.agg #[.slice ao S.length cap, .slice ac C.length capc], .int .i64 x] w fun e w' => ∃ g, e = .returned (.slice (some ⟨g, 0, none⟩) C.length C.length) ∧ OwnInts w' w.heap.size (.slice (some ⟨g, 0, none⟩) C.length C.length) (shL S C x) ∧ Below w.heap.size w w' := by
  obtain ⟨W0, hW0, cS, cC, cX, z0, B0⟩ := boxlc w (.slice ao S.length cap) (.slice ac C.length capc) (.int .i64 x) 48 2
  have HW0 := Lib.hid hW0
  have z0a : w.heap.size + 2 ≤ W0.heap.size := by omega
  have hf := class_fun w.heap.size ao S cap hSp C hC x hx W0.heap.size W0 (by omega) cS cX (fun W hb => (hS.below B0).below hb)
  have HF := Lib.hid hf
  clear hW0 z0 hf
  go_enter Tryd.func49, Tryd.ntmps49
  go_wp2_with fail
  rw [← HW0.out]
  go_wp2_with fail
  refine (numbers_any ac capc C hl 74 (enters_of Tryd.func74 (by kernel_rfl) rfl) #[] #[.pointer (some ⟨w.heap.size, 0, none⟩), .pointer (some ⟨w.heap.size + 1, 0, none⟩)] (fun u => sumW S u x) _ (hCI.below B0) HF.out).mono ?_
  rintro e w2 ⟨g, rfl, own, hb⟩
  go_wp2_with fail
  go_ret
  exact ⟨_, rfl, own.rebase (by omega), B0.trans (hb.mono (by omega))⟩

end Go.Proofs.YthinedjblpgalaaDoor
