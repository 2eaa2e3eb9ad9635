/-
  The contract of the program's list of leaders. By an AI agent.
-/
import Derived.Test.YtcnnijeokefboaaGreatDoorMathB
import Derived.Test.YtcnnijeokefboaaGreatDoorPk36
import Derived.Test.YtcnnijeokefboaaGreatDoorPkSet
import Derived.Test.YtcnnijeokefboaaGreatDoorSort
import Derived.Test.YtcnnijeokefboaaGreatDoorAppendAt
namespace Go.Proofs.YtcnnijeokefboaaGreatDoor
open Go.RowKit Go.Shelf Cv
set_option linter.unusedVariables false
set_option linter.unusedSimpArgs false
set_option maxRecDepth 100000

set_option maxHeartbeats 4000000 in
theorem leaders_any (ao : Option Addr) (S : List Int) (cap : Nat) (hP : Pl S) (ac : Option Addr) (C : List Int) (capc : Nat) (hg : Gp S C) (hl : C.length ≤ 1024) (w : World) (hS : Ints w ao S) (hCI : Ints w ac C) :
    Calls Tryz.prog 88 #[.agg #[.slice ao S.length cap, .slice ac C.length capc]] w fun e w' => ∃ g c, e = .returned (.slice (some ⟨g, 0, none⟩) (ldsM S C (nW S).toNat).length c) ∧ OwnInts w' w.heap.size (.slice (some ⟨g, 0, none⟩) (ldsM S C (nW S).toNat).length c) (ldsM S C (nW S).toNat) ∧ Below w.heap.size w w' := by
  obtain ⟨N1, N2⟩ := nW_bd hP.sp
  have hl1 : 1 ≤ C.length := List.length_pos_of_mem hg.zero
  have HC9 : Hid (∀ u, u ∈ C → 0 ≤ u ∧ u ≤ 9223372036854775807) := Lib.hid fun u hu => by have := hg.wd u hu; unfold Wd at this; omega
  have HSame := Lib.hid (lds_same hP hg (nW S).toNat (Nat.le_refl _))
  have HLen : Hid (∀ k, k ≤ (nW S).toNat → (ldsTo S C k).length ≤ 1024) := Lib.hid fun k hk => lds_len hP hg k hk
  have HPos := Lib.hid (ldsM_pos (S := S) (C := C) (show 1 ≤ (nW S).toNat by omega))
  obtain ⟨N, hN⟩ : ∃ N : Nat, nW S = (N : Int) := ⟨(nW S).toNat, by omega⟩
  have hN2 : (nW S).toNat = N := by omega
  have HN := Lib.hid hN
  have HSp := Lib.hid hP.sp
  have HLW : Hid (∀ x, 0 ≤ ldr S C x ∧ ldr S C x ≤ 9223372036854775807) := Lib.hid fun x => by have := ldr_wd hP hg x; unfold Wd at this; have := nW_bd hP.sp; omega
  have HTw : Hid (∀ x y, y ∈ shL S C x → 0 ≤ y ∧ y < 1024) := Lib.hid fun x y hy => by
    obtain ⟨u, _, rfl⟩ := (mem_shL _ _ _ _).1 hy
    have := wd_sum hP.sp u x; unfold Wd at this; omega
  rw [hN2] at HSame HLen HPos ⊢
  rw [hN] at N1 N2
  obtain ⟨w2, hw2⟩ : ∃ w2, w2 = ((w.alloc (.cells #[.slice ao S.length cap, .slice ac C.length capc] 64)).alloc (.cells #[] 2)).alloc (.cells #[.int .u64 0, .int .u64 0, .int .u64 0, .int .u64 0, .int .u64 0, .int .u64 0, .int .u64 0, .int .u64 0, .int .u64 0, .int .u64 0, .int .u64 0, .int .u64 0, .int .u64 0, .int .u64 0, .int .u64 0, .int .u64 0] 115) := ⟨_, rfl⟩
  have hb1 : Below (w.alloc (.cells #[.slice ao S.length cap, .slice ac C.length capc] 64)).heap.size (w.alloc (.cells #[.slice ao S.length cap, .slice ac C.length capc] 64)) w2 := by rw [hw2]; go_grown
  have B2 : Below w.heap.size w w2 := ((Below.refl _ w).alloc (Nat.le_refl _) _).trans (hb1.mono (by simp))
  have y0 : (w.alloc (.cells #[.slice ao S.length cap, .slice ac C.length capc] 64)).cell? ⟨w.heap.size, 0, none⟩ = some (.slice ao S.length cap) := by rw [cell_of_row _ w.heap.size 0 _ _ _ (heap_alloc_last w (.cells #[.slice ao S.length cap, .slice ac C.length capc] 64))]; rfl
  have y1 : (w.alloc (.cells #[.slice ao S.length cap, .slice ac C.length capc] 64)).cell? ⟨w.heap.size, 1, none⟩ = some (.slice ac C.length capc) := by rw [cell_of_row _ w.heap.size 1 _ _ _ (heap_alloc_last w (.cells #[.slice ao S.length cap, .slice ac C.length capc] 64))]; rfl
  have c2 := kept_cell hb1 y0 (lt_alloc _ _)
  have d2 := kept_cell hb1 y1 (lt_alloc _ _)
  have z2 : w2.heap.size = w.heap.size + 1 + 1 + 1 := by rw [hw2]; simp
  have r2 : RowAt w2 (w.heap.size + 1 + 1) (fun _ => false) := by rw [hw2]; exact rowz_new _ (by simp)
  have o2 : OwnInts w2 (w.heap.size + 1) (.slice (some ⟨w.heap.size + 1, 0, none⟩) 0 0) [] := by rw [hw2]; exact (own_empty _ (w.heap.size + 1) (by simp) (by simp)).alloc _
  have c2e : (((w.alloc (.cells #[.slice ao S.length cap, .slice ac C.length capc] 64)).alloc (.cells #[] 2)).alloc (.cells #[.int .u64 0, .int .u64 0, .int .u64 0, .int .u64 0, .int .u64 0, .int .u64 0, .int .u64 0, .int .u64 0, .int .u64 0, .int .u64 0, .int .u64 0, .int .u64 0, .int .u64 0, .int .u64 0, .int .u64 0, .int .u64 0] 115)).cell? ⟨w.heap.size, 0, none⟩ = some (.slice ao S.length cap) := by rw [← hw2]; exact c2
  have HW2 := Lib.hid hw2
  clear hP hg hN hN2 hw2 hb1 y0 y1
  go_enter Tryz.func88, Tryz.ntmps88
  go_wp2_with fail
  clear c2e
  rw [← HW2.out]
  have hcall := wordCount_sp ao S cap w2 HSp.out (hS.below B2)
  rw [HN.out] at hcall
  refine hcall.mono ?_
  rintro e w3 ⟨rfl, hb3⟩
  have c3 := kept_cell hb3 c2 (by omega)
  have d3 := kept_cell hb3 d2 (by omega)
  have r3 := r2.below hb3 r2.lt
  have o3 := o2.below hb3
  have B3 := B2.trans (hb3.mono B2.size)
  have s3 := hb3.size
  clear hb3 c2 d2 r2 o2 B2 hcall HW2
  go_wp2_with fail
  go_loopw [3, 12] (fun v i wr => ∃ k : Nat, k ≤ N ∧ i = .int .i64 k ∧ OwnInts wr (w.heap.size + 1) v (ldsTo S C k) ∧ RowAt wr (w.heap.size + 1 + 1) (inL (knTo S C k)) ∧ wr.cell? ⟨w.heap.size, 0, none⟩ = some (.slice ao S.length cap) ∧ wr.cell? ⟨w.heap.size, 1, none⟩ = some (.slice ac C.length capc) ∧ w.heap.size + 1 + 1 + 1 ≤ wr.heap.size ∧ Below w.heap.size w wr) (fun _ i _ => N - (intOf i).toNat)
  case atStart =>
    have e : inL (knTo S C 0) = fun _ => false := by funext u; simp [inL, knTo]
    rw [← e] at r3
    exact ⟨0, Nat.zero_le _, rfl, o3, r3, c3, d3, by omega, B3⟩
  case round =>
    clear o3 r3 c3 d3 B3 z2 s3
    obtain ⟨k, hk, rfl, own, hr, c, d, l, B⟩ := hrel
    by_cases hlt : k < N
    · have hltI : (k : Int) < (N : Int) := by omega
      have hlen := HLen.out k hk
      have hl16 := lacks_any (inL (knTo S C k)) k (by omega) wr
      by_cases hm : (k : Int) ∈ knTo S C k
      · have HY := Lib.hid (kn_yes hm)
        have e : inL (knTo S C k) k = true := decide_eq_true hm
        rw [e] at hl16
        clear hm e
        go_wp2_with (first | (refine wpList_ld16 rfl _ rfl hr rfl ?_))
        refine hl16.mono ?_
        rintro e w4 ⟨rfl, hb4⟩
        go_wp2_with fail
        go_roundw
        case rel => exact ⟨k + 1, by omega, by go_num, by rw [HY.out.2.1]; exact own.below hb4, by rw [HY.out.1]; exact hr.below hb4 hr.lt, kept_cell hb4 c (by omega), kept_cell hb4 d (by omega), by have := hb4.size; omega, B.trans (hb4.mono B.size)⟩
        case measure => simp [intOf]; omega
      · have HY := Lib.hid (kn_no hm)
        have e : inL (knTo S C k) k = false := decide_eq_false hm
        rw [e] at hl16
        have hbits := kn_bits hm
        have hTb := HTw.out (k : Int)
        have hSL := shL_len S C (k : Int)
        have hldr : ldrTo S (shL S C (k : Int)) ((shL S C (k : Int)).length - 1) = ldr S C (k : Int) := rfl
        have hcls := fun (W : World) (h1 : Ints W ao S) (h2 : Ints W ac C) => class_any ao S cap HSp.out ac C capc (by omega) HC9.out (k : Int) ⟨by omega, by omega⟩ W h1 h2
        have hlw := HLW.out (k : Int)
        obtain ⟨T, hT⟩ : ∃ T, T = shL S C (k : Int) := ⟨_, rfl⟩
        obtain ⟨x, hx⟩ : ∃ x, x = ldr S C (k : Int) := ⟨_, rfl⟩
        rw [← hT] at hbits hTb hSL hldr hcls
        rw [← hx] at hldr HY hlw
        have HB := Lib.hid hbits
        have HCL := Lib.hid hcls
        have HLO : Hid (∀ (W : World) (a : Option Addr), Ints W ao S → Ints W a T → Calls Tryz.prog 125 #[.agg #[.slice ao S.length cap], .slice a C.length C.length] W fun e w' => e = .returned (.int .i64 x) ∧ Below W.heap.size W w') := Lib.hid fun W a h1 h2 => by
          have h := leaderOf_any ao S cap HSp.out a T C.length (by omega) (by omega) (fun y hy => by have := hTb y hy; omega) W h1 h2
          rw [hldr, hSL] at h; exact h
        have HSO' : Hid (∀ (W : World) (a : Option Addr), Ints W a T → Calls Tryz.prog 131 #[.slice a C.length C.length] W fun e w' => e = .returned (.agg (setA (inL T))) ∧ Below W.heap.size W w') := Lib.hid fun W a h => by
          have h := setOf_any a T C.length (by omega) (fun i hi => hTb _ (gi_mem hi)) W h
          rw [hSL] at h; exact h
        clear hm e hbits hTb hSL hldr hcls hT hx HTw
        go_wp2_with (first | (refine wpList_ld16 rfl _ rfl hr rfl ?_))
        refine hl16.mono ?_
        rintro e w4 ⟨rfl, hb4⟩
        have own4 := own.below hb4
        have c4 := kept_cell hb4 c (by omega)
        have d4 := kept_cell hb4 d (by omega)
        have r4 := hr.below hb4 hr.lt
        have B4 := B.trans (hb4.mono B.size)
        have s4 := hb4.size
        have hrin := World.ownsRow.lt own4
        clear hb4 c d B hl16 hr own
        go_wp2_with fail
        refine (HCL.out w4 (hS.below B4) (hCI.below B4)).mono ?_
        rintro e w3 ⟨gT, rfl, ownT, hb3⟩
        have own3 := own4.below hb3
        have c3 := kept_cell hb3 c4 (by omega)
        have d3 := kept_cell hb3 d4 (by omega)
        have r3 := r4.below hb3 r4.lt
        have B3 := B4.trans (hb3.mono B4.size)
        have s3 := hb3.size
        have hgT := ownT.base_le
        clear hb3 c4 d4 r4 B4 own4 HCL
        go_wp2_with fail
        refine (HLO.out w3 (some ⟨gT, 0, none⟩) (hS.below B3) (own_ints ownT)).mono ?_
        rintro e w0 ⟨rfl, hb0⟩
        have own0 := own3.below hb0
        have ownT0 := ownT.below hb0
        have c0 := kept_cell hb0 c3 (by omega)
        have d0 := kept_cell hb0 d3 (by omega)
        have r0 := r3.below hb0 r3.lt
        have B0 := B3.trans (hb0.mono B3.size)
        have s0 := hb0.size
        clear hb0 c3 d3 r3 B3 own3 HLO ownT
        obtain ⟨P, hPl⟩ : ∃ P, P = (ldsTo S C k).length := ⟨_, rfl⟩
        have HPl := Lib.hid hPl
        have E0 : IntKind.i64.wrap x = x := IntWalk.i64_in _ ⟨by omega, by omega⟩
        have hlA : (ldsTo S C k).length ≤ 1024 := hlen
        clear hPl hlen
        go_wp2_with (at_builtin; refine wpList_append_int rfl _ _ rfl (w.heap.size + 1) _ _ rfl (own0.alloc _) w0.heap.size _ rfl (cell_new _ _ _) (by omega) (by rw [World.size_alloc]; omega) ?_; intro v' w5 hown' hgrow)
        have sB0 := B0.size
        have hbT : Below w0.heap.size w0 (w0.alloc (.cells #[.int .i64 x] 2)) := (Below.refl _ _).alloc (Nat.le_refl _) _
        have B5 := grown_below (B0.alloc sB0 _) (by rw [World.size_alloc]; omega) hgrow (own0.alloc _) (by omega)
        have c5 : w5.cell? ⟨w.heap.size, 0, none⟩ = some (.slice ao S.length cap) := hgrow.cell (a := ⟨w.heap.size, 0, none⟩) (kept_cell hbT c0 (by omega)) (fun e => by have := World.ownsRow.lt own0 _ e.symm; simp at this; omega)
        have d5 : w5.cell? ⟨w.heap.size, 1, none⟩ = some (.slice ac C.length capc) := hgrow.cell (a := ⟨w.heap.size, 1, none⟩) (kept_cell hbT d0 (by omega)) (fun e => by have := World.ownsRow.lt own0 _ e.symm; simp at this; omega)
        have s5 : w0.heap.size + 1 ≤ w5.heap.size := by have := hgrow.size; simpa using this
        have r5 : RowAt w5 (w.heap.size + 1 + 1) (inL (knTo S C k)) := by unfold RowAt; rw [hgrow.block (w.heap.size + 1 + 1) (by have := r0.lt; simp; omega) (fun e => own_not_set own0 r0 e.symm)]; exact (r0.alloc _)
        have oT5 : OwnInts w5 w4.heap.size (.slice (some ⟨gT, 0, none⟩) C.length C.length) T := (ownT0.alloc (.cells #[.int .i64 x] 2)).kept hgrow (.inr fun e => by have := hrin gT e.symm; omega)
        have hT5 : Ints w5.drew (some ⟨gT, 0, none⟩) T := (own_ints oT5.drew)
        have HSO : Hid (∀ (W : World), Ints W (some ⟨gT, 0, none⟩) T → Calls Tryz.prog 131 #[.slice (some ⟨gT, 0, none⟩) C.length C.length] W fun e w' => e = .returned (.agg (setA (inL T))) ∧ Below W.heap.size W w') := Lib.hid fun W h => HSO'.out W (some ⟨gT, 0, none⟩) h
        rw [← HY.out.2.1] at hown'
        have rD : RowAt w5.drew (w.heap.size + 1 + 1) (inL (knTo S C k)) := r5
        clear own0 ownT0 hgrow c0 d0 r0 B0 oT5 HSO' hbT
        go_wp2_with fail
        refine wp_region_held_drew (S := fun w' => w'.cell? ⟨w.heap.size, 0, none⟩ = some (.slice ao S.length cap)) (by kernel_rfl) c5 (fun hHeld => ?_)
        refine wpAnyH_take (i := 1) (v := ?_) rfl (by kernel_rfl) (by kernel_rfl) (by kernel_rfl) (fun _ _ _ h => h) (Or.inl ⟨by rfl, ?_⟩) (by assumption) ?_
        rotate_left
        · (intro w hSw; (try dsimp only at hSw); go_simp; try (with_reducible rfl))
        (try simp only [Act.put, List.setIfInBounds_toArray, List.set_cons_zero, List.set_cons_succ])
        refine wpAnyH_ready (rs := [0, 2]) (by kernel_rfl) (by simp) ?_
        refine AllReadyH.cons rfl (fun K hK => ?_) ?_
        · refine wp_ld16 (.tmp 4) rfl rD rfl ?_
          refine hK.out _ _ (c5) (fun hHeld => ?_)
          clear hK K
          (try simp only [Act.put, List.setIfInBounds_toArray, List.set_cons_zero, List.set_cons_succ])
          refine wpAnyH_ready (rs := [2]) (by kernel_rfl) (by simp) ?_
          refine AllReadyH.cons rfl (fun K hK => ?_) AllReadyH.nil
          go_simp
          (go_at_call 131; refine (HSO.out w5.drew hT5).mono ?_)
          rintro e w6 ⟨rfl, hb6⟩
          have h56 : Below w5.heap.size w5 w6 := Below.trans ((Below.refl w5.heap.size w5).drew) hb6
          have c6 := kept_cell h56 c5 (by omega)
          have d6 := kept_cell h56 d5 (by omega)
          have r6 := r5.below h56 r5.lt
          have B6 := B5.trans (h56.mono B5.size)
          have o6 := hown'.below h56
          have s6 := h56.size
          clear hb6
          refine hK.out _ _ (c6) (fun hHeld => ?_)
          clear hK K
          (try simp only [Act.put, List.setIfInBounds_toArray, List.set_cons_zero, List.set_cons_succ])
          refine wpAnyH_ready (rs := [3]) (by kernel_rfl) (by simp) ?_
          refine AllReadyH.cons rfl (fun K hK => ?_) AllReadyH.nil
          go_simp
          (go_at_call 130; refine (with_any (inL (knTo S C k)) (inL T) w6).mono ?_)
          rintro e w7 ⟨rfl, hb7⟩
          have c7 := kept_cell hb7 c6 (by omega)
          have d7 := kept_cell hb7 d6 (by omega)
          have r7 := r6.below hb7 r6.lt
          have B7 := B6.trans (hb7.mono B6.size)
          have o7 := o6.below hb7
          have s7 := hb7.size
          clear hb7
          refine hK.out _ _ (c7) (fun hHeld => ?_)
          clear hK K
          (try simp only [Act.put, List.setIfInBounds_toArray, List.set_cons_zero, List.set_cons_succ])
          refine wpAnyH_ready (rs := [4]) (by kernel_rfl) (by simp) ?_
          refine AllReadyH.cons rfl (fun K hK => ?_) AllReadyH.nil
          refine wp_st16 (.tmp 4) (.tmp 31) rfl r7 (fun u => inL (knTo S C k) u || inL T u) rfl rfl ?_
          have g8 := grown_setRow (w := w7) (b := w.heap.size + 1 + 1) (setA fun u => inL (knTo S C k) u || inL T u)
          have c8 : (w7.setRow (w.heap.size + 1 + 1) (setA fun u => inL (knTo S C k) u || inL T u)).cell? ⟨w.heap.size, 0, none⟩ = some (.slice ao S.length cap) := g8.cell (a := ⟨w.heap.size, 0, none⟩) c7 (fun e => by have e2 := Option.some.inj e; simp at e2; omega)
          have d8 : (w7.setRow (w.heap.size + 1 + 1) (setA fun u => inL (knTo S C k) u || inL T u)).cell? ⟨w.heap.size, 1, none⟩ = some (.slice ac C.length capc) := g8.cell (a := ⟨w.heap.size, 1, none⟩) d7 (fun e => by have e2 := Option.some.inj e; simp at e2; omega)
          refine hK.out _ _ (c8) (fun hHeld => ?_)
          clear hK K
          (try simp only [Act.put, List.setIfInBounds_toArray, List.set_cons_zero, List.set_cons_succ])
          refine wpAnyH_done (by kernel_rfl) ?_ _
          go_wp2_with fail
          go_roundw
          case rel => exact ⟨k + 1, by omega, by go_num, o7.kept g8 (.inr fun e => own_not_set o7 r7 e), by rw [HB.out]; exact row_set r7, c8, d8, by have := g8.size; omega, B7.grown g8 B7.size fun j hj => by cases hj; omega⟩
          case measure => simp [intOf]; omega
        refine AllReadyH.cons rfl (fun K hK => ?_) AllReadyH.nil
        go_simp
        (go_at_call 131; refine (HSO.out w5.drew hT5).mono ?_)
        rintro e w6 ⟨rfl, hb6⟩
        have h56 : Below w5.heap.size w5 w6 := Below.trans ((Below.refl w5.heap.size w5).drew) hb6
        have c6 := kept_cell h56 c5 (by omega)
        have d6 := kept_cell h56 d5 (by omega)
        have r6 := r5.below h56 r5.lt
        have B6 := B5.trans (h56.mono B5.size)
        have o6 := hown'.below h56
        have s6 := h56.size
        clear hb6
        refine hK.out _ _ (c6) (fun hHeld => ?_)
        clear hK K
        (try simp only [Act.put, List.setIfInBounds_toArray, List.set_cons_zero, List.set_cons_succ])
        refine wpAnyH_ready (rs := [0]) (by kernel_rfl) (by simp) ?_
        refine AllReadyH.cons rfl (fun K hK => ?_) AllReadyH.nil
        refine wp_ld16 (.tmp 4) rfl r6 rfl ?_
        refine hK.out _ _ (c6) (fun hHeld => ?_)
        clear hK K
        (try simp only [Act.put, List.setIfInBounds_toArray, List.set_cons_zero, List.set_cons_succ])
        refine wpAnyH_ready (rs := [3]) (by kernel_rfl) (by simp) ?_
        refine AllReadyH.cons rfl (fun K hK => ?_) AllReadyH.nil
        go_simp
        (go_at_call 130; refine (with_any (inL (knTo S C k)) (inL T) w6).mono ?_)
        rintro e w7 ⟨rfl, hb7⟩
        have c7 := kept_cell hb7 c6 (by omega)
        have d7 := kept_cell hb7 d6 (by omega)
        have r7 := r6.below hb7 r6.lt
        have B7 := B6.trans (hb7.mono B6.size)
        have o7 := o6.below hb7
        have s7 := hb7.size
        clear hb7
        refine hK.out _ _ (c7) (fun hHeld => ?_)
        clear hK K
        (try simp only [Act.put, List.setIfInBounds_toArray, List.set_cons_zero, List.set_cons_succ])
        refine wpAnyH_ready (rs := [4]) (by kernel_rfl) (by simp) ?_
        refine AllReadyH.cons rfl (fun K hK => ?_) AllReadyH.nil
        refine wp_st16 (.tmp 4) (.tmp 31) rfl r7 (fun u => inL (knTo S C k) u || inL T u) rfl rfl ?_
        have g8 := grown_setRow (w := w7) (b := w.heap.size + 1 + 1) (setA fun u => inL (knTo S C k) u || inL T u)
        have c8 : (w7.setRow (w.heap.size + 1 + 1) (setA fun u => inL (knTo S C k) u || inL T u)).cell? ⟨w.heap.size, 0, none⟩ = some (.slice ao S.length cap) := g8.cell (a := ⟨w.heap.size, 0, none⟩) c7 (fun e => by have e2 := Option.some.inj e; simp at e2; omega)
        have d8 : (w7.setRow (w.heap.size + 1 + 1) (setA fun u => inL (knTo S C k) u || inL T u)).cell? ⟨w.heap.size, 1, none⟩ = some (.slice ac C.length capc) := g8.cell (a := ⟨w.heap.size, 1, none⟩) d7 (fun e => by have e2 := Option.some.inj e; simp at e2; omega)
        refine hK.out _ _ (c8) (fun hHeld => ?_)
        clear hK K
        (try simp only [Act.put, List.setIfInBounds_toArray, List.set_cons_zero, List.set_cons_succ])
        refine wpAnyH_done (by kernel_rfl) ?_ _
        go_wp2_with fail
        go_roundw
        case rel => exact ⟨k + 1, by omega, by go_num, o7.kept g8 (.inr fun e => own_not_set o7 r7 e), by rw [HB.out]; exact row_set r7, c8, d8, by have := g8.size; omega, B7.grown g8 B7.size fun j hj => by cases hj; omega⟩
        case measure => simp [intOf]; omega
    · have ek : k = N := by omega
      subst ek
      have hltI : ¬ (k : Int) < (k : Int) := by omega
      have hne : ldsTo S C k ≠ [] := fun h => by
        have h1 := HPos.out
        rw [← HSame.out, h] at h1
        simp [sorted_len] at h1
      obtain ⟨g, cg, hv, _⟩ := own_some own hne
      subst hv
      have hsrt := sort_any (w.heap.size + 1) g cg (ldsTo S C k) wr (by have := HLen.out k (Nat.le_refl _); omega) own
      have HSL : Hid ((ldsM S C k).length = (ldsTo S C k).length) := Lib.hid (by rw [← HSame.out]; exact sorted_len _)
      rw [HSame.out] at hsrt
      obtain ⟨P, hPl⟩ : ∃ P, P = (ldsTo S C k).length := ⟨_, rfl⟩
      rw [← hPl] at own hsrt ⊢
      have HPl := Lib.hid hPl
      clear hPl hne
      have hgb := own.base_le
      go_wp2_with fail
      refine hsrt.mono ?_
      rintro e w2 ⟨rfl, own2, hg2⟩
      go_wp2_with fail
      go_ret
      exact ⟨g, cg, by rw [HSL.out, ← HPl.out]; rfl, by rw [HSL.out, ← HPl.out]; exact own2.rebase (Nat.le_succ _), B.grown hg2 B.size (by intro z hz; simp at hz; omega)⟩

end Go.Proofs.YtcnnijeokefboaaGreatDoor
