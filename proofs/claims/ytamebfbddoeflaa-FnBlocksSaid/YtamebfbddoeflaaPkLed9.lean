/-
  The contracts of AreLed, in the program and in the model, and the errors of columns. By an AI agent.
-/
import Derived.Test.YtamebfbddoeflaaPkMth9
import Derived.Test.YtamebfbddoeflaaPkErr
import Derived.Test.YtamebfbddoeflaaPk33
import Derived.Test.YtamebfbddoeflaaPkAppend
import Derived.Test.YtamebfbddoeflaaPk34
import Derived.Test.YtamebfbddoeflaaPk20
import Derived.Deep.RegionHeld3
namespace Go.Proofs.Ytamebfbddoeflaa
open Go.RowKit Cv
set_option linter.unusedVariables false
set_option linter.unusedSimpArgs false
set_option maxRecDepth 100000

theorem cmpOr3 (ao : Option Addr) (x y z : Int) (cap : Nat) (w : World) (h : Ints w ao [x, y, z]) :
    Calls Try.prog 54 #[.slice ao 3 cap] w fun e w' => e = .returned (.int .i64 (orI (orI x y) z)) ∧ w = w' := by
  obtain ⟨b, o, rfl, hb, hc⟩ := h.at (i := 0) (by simp)
  have c0 : w.cell? ⟨b, o, none⟩ = some (.int .i64 x) := by simpa [gi] using hc 0 (by simp)
  have c1 : w.cell? ⟨b, o + 1, none⟩ = some (.int .i64 y) := by simpa [gi] using hc 1 (by simp)
  have c2 : w.cell? ⟨b, o + 2, none⟩ = some (.int .i64 z) := by simpa [gi] using hc 2 (by simp)
  clear hc h
  by_cases hx : x = 0
  · subst hx
    by_cases hy : y = 0
    · subst hy
      have HO : Hid (orI (orI 0 0) z = z) := Lib.hid rfl
      by_cases hz : z = 0
      · subst hz
        go_enter Try.func54, Try.ntmps54
        go_wp2
        go_rounds 4
        go_ret
        exact ⟨rfl, rfl⟩
      · have hn : (z != 0) = true := by simpa using hz
        go_enter Try.func54, Try.ntmps54
        go_wp2
        go_rounds 3
        go_ret
        exact ⟨ret_int HO.out.symm, rfl⟩
    · have HO : Hid (orI (orI 0 y) z = y) := Lib.hid (by unfold orI; simp [hy])
      have hn : (y != 0) = true := by simpa using hy
      clear hy
      go_enter Try.func54, Try.ntmps54
      go_wp2
      go_rounds 2
      go_ret
      exact ⟨ret_int HO.out.symm, rfl⟩
  · have HO : Hid (orI (orI x y) z = x) := Lib.hid (by unfold orI; simp [hx])
    have hn : (x != 0) = true := by simpa using hx
    clear hx
    go_enter Try.func54, Try.ntmps54
    go_wp2
    go_rounds 1
    go_ret
    exact ⟨ret_int HO.out.symm, rfl⟩

set_option maxHeartbeats 2000000 in
theorem columnsError_any (ao : Option Addr) (S : List Int) (cap : Nat) (hn : S.length ≤ 4294967296) (ac : Option Addr) (C : List Int) (capc : Nat) (hnc : C.length ≤ 4294967296) (at' : Option Addr) (T : List Int) (capt : Nat) (hnt : T.length ≤ 4294967296) (m : Int) (w : World) (hS : Ints w ao S) (hC : Ints w ac C) (hT : Ints w at' T) :
    Calls Try.prog 25 #[.agg #[.slice ao S.length cap], .slice ac C.length capc, .slice at' T.length capt, .int .i64 m] w fun e w' => e = .returned (.int .i64 (eCs S C T m)) ∧ Below w.heap.size w w' := by
  obtain ⟨W0, hW0⟩ : ∃ W0, W0 = w.alloc (.cells #[.slice ao S.length cap] 26) := ⟨_, rfl⟩
  have B0 : Below w.heap.size w W0 := by rw [hW0]; go_grown
  have c0 : W0.cell? ⟨w.heap.size, 0, none⟩ = some (.slice ao S.length cap) := by rw [hW0]; exact cell_new _ _ _
  have l0 : w.heap.size < W0.heap.size := by rw [hW0]; exact lt_alloc _ _
  have HW0 := Lib.hid hW0
  have hv := eCs_prog S C T m
  obtain ⟨E, hE⟩ : ∃ E, E = orI (orI (eCW S C T) (eNum S (T.length : Int) 0 8)) (eNum S m 0 8) := ⟨_, rfl⟩
  have HE : Hid (orI (orI (eCW S C T) (eNum S (T.length : Int) 0 8)) (eNum S m 0 8) = E) := Lib.hid hE.symm
  rw [← hE] at hv
  by_cases hz : E = 0
  · have hlo : 1 ≤ S.length := by
      rw [hE] at hz
      have h1 := (orI_zero hz).2
      exact (eNum_zero h1).1.lo
    have HV : Hid (eCs S C T m = if isPl S = false then 5 else 0) := Lib.hid (by rw [hv, hz]; cases isPl S <;> rfl)
    subst hz
    clear hv hE hW0
    go_enter Try.func25, Try.ntmps25
    go_wp2_with fail
    rw [← HW0.out]
    refine wp_region_held_drew (S := fun w' => w'.cell? ⟨w.heap.size, 0, none⟩ = some (.slice ao S.length cap)) (by kernel_rfl) (c0) (fun hHeld => ?_)
    refine wpAnyH_take (i := 0) (v := ?_) rfl (by kernel_rfl) (by kernel_rfl) (by kernel_rfl) (fun _ _ _ h => h) (Or.inl ⟨by rfl, ?_⟩) (by assumption) ?_
    rotate_left
    · (intro w hSw; obtain hSw := hSw; (try dsimp only at hSw); go_simp; try (with_reducible rfl))
    (try simp only [Act.put, List.setIfInBounds_toArray, List.set_cons_zero, List.set_cons_succ, List.getElem_toArray, List.getElem_cons_succ, List.getElem_cons_zero])
    refine wpAnyH_take (i := 1) (v := ?_) rfl (by kernel_rfl) (by kernel_rfl) (by kernel_rfl) (fun _ _ _ h => h) (Or.inl ⟨by rfl, ?_⟩) (by assumption) ?_
    rotate_left
    · (intro w hSw; obtain hSw := hSw; (try dsimp only at hSw); go_simp; try (with_reducible rfl))
    (try simp only [Act.put, List.setIfInBounds_toArray, List.set_cons_zero, List.set_cons_succ, List.getElem_toArray, List.getElem_cons_succ, List.getElem_cons_zero])
    refine wpAnyH_take (i := 2) (v := ?_) rfl (by kernel_rfl) (by kernel_rfl) (by kernel_rfl) (fun _ _ _ h => h) (Or.inl ⟨by rfl, ?_⟩) (by assumption) ?_
    rotate_left
    · (intro w hSw; obtain hSw := hSw; (try dsimp only at hSw); go_simp; try (with_reducible rfl))
    (try simp only [Act.put, List.setIfInBounds_toArray, List.set_cons_zero, List.set_cons_succ, List.getElem_toArray, List.getElem_cons_succ, List.getElem_cons_zero])
    refine wpAnyH_take (i := 4) (v := ?_) rfl (by kernel_rfl) (by kernel_rfl) (by kernel_rfl) (fun _ _ _ h => h) (Or.inl ⟨by rfl, ?_⟩) (by assumption) ?_
    rotate_left
    · (intro w hSw; obtain hSw := hSw; (try dsimp only at hSw); go_simp; try (with_reducible rfl))
    (try simp only [Act.put, List.setIfInBounds_toArray, List.set_cons_zero, List.set_cons_succ, List.getElem_toArray, List.getElem_cons_succ, List.getElem_cons_zero])
    refine wpAnyH_take (i := 5) (v := ?_) rfl (by kernel_rfl) (by kernel_rfl) (by kernel_rfl) (fun _ _ _ h => h) (Or.inl ⟨by rfl, ?_⟩) (by assumption) ?_
    rotate_left
    · (intro w hSw; obtain hSw := hSw; (try dsimp only at hSw); go_simp; try (with_reducible rfl))
    (try simp only [Act.put, List.setIfInBounds_toArray, List.set_cons_zero, List.set_cons_succ, List.getElem_toArray, List.getElem_cons_succ, List.getElem_cons_zero])
    refine wpAnyH_take (i := 7) (v := ?_) rfl (by kernel_rfl) (by kernel_rfl) (by kernel_rfl) (fun _ _ _ h => h) (Or.inl ⟨by rfl, ?_⟩) (by assumption) ?_
    rotate_left
    · (intro w hSw; obtain hSw := hSw; (try dsimp only at hSw); go_simp; try (with_reducible rfl))
    (try simp only [Act.put, List.setIfInBounds_toArray, List.set_cons_zero, List.set_cons_succ, List.getElem_toArray, List.getElem_cons_succ, List.getElem_cons_zero])
    refine wpAnyH_take (i := 8) (v := ?_) rfl (by kernel_rfl) (by kernel_rfl) (by kernel_rfl) (fun _ _ _ h => h) (Or.inl ⟨by rfl, ?_⟩) (by assumption) ?_
    rotate_left
    · (intro w hSw; obtain hSw := hSw; (try dsimp only at hSw); go_simp; try (with_reducible rfl))
    (try simp only [Act.put, List.setIfInBounds_toArray, List.set_cons_zero, List.set_cons_succ, List.getElem_toArray, List.getElem_cons_succ, List.getElem_cons_zero])
    refine wpAnyH_ready (rs := [3]) (by kernel_rfl) (by simp) ?_
    refine AllReadyH.cons rfl (fun K hK => ?_) AllReadyH.nil
    go_simp
    (go_at_call 55; refine (codeAndWordsError_any ao S cap hn ac C capc hnc at' T capt hnt _ (hS.below (B0.trans (Below.mono (Below.refl W0.heap.size W0).drew B0.size))) (hC.below (B0.trans (Below.mono (Below.refl W0.heap.size W0).drew B0.size))) (hT.below (B0.trans (Below.mono (Below.refl W0.heap.size W0).drew B0.size)))).mono ?_)
    rintro e x1 ⟨rfl, hb1⟩
    have H1 : Below W0.heap.size W0 x1 := Below.trans (Below.refl W0.heap.size W0).drew (hb1.mono (Below.size (Below.refl W0.heap.size W0).drew))
    refine hK.out _ _ (kept_cell H1 c0 l0) (fun hHeld => ?_)
    clear hK K
    (try simp only [Act.put, List.setIfInBounds_toArray, List.set_cons_zero, List.set_cons_succ, List.getElem_toArray, List.getElem_cons_succ, List.getElem_cons_zero])
    refine wpAnyH_ready (rs := [6]) (by kernel_rfl) (by simp) ?_
    refine AllReadyH.cons rfl (fun K hK => ?_) AllReadyH.nil
    go_simp
    (go_at_call 56; refine (numberError_any ao S cap hn (T.length : Int) 0 8 _ (hS.below (B0.trans (Below.mono H1 B0.size)))).mono ?_)
    rintro e x2 ⟨rfl, hb2⟩
    have H2 : Below W0.heap.size W0 x2 := Below.trans H1 (hb2.mono (Below.size H1))
    refine hK.out _ _ (kept_cell H2 c0 l0) (fun hHeld => ?_)
    clear hK K
    (try simp only [Act.put, List.setIfInBounds_toArray, List.set_cons_zero, List.set_cons_succ, List.getElem_toArray, List.getElem_cons_succ, List.getElem_cons_zero])
    refine wpAnyH_ready (rs := [9]) (by kernel_rfl) (by simp) ?_
    refine AllReadyH.cons rfl (fun K hK => ?_) AllReadyH.nil
    go_simp
    (go_at_call 56; refine (numberError_any ao S cap hn m 0 8 _ (hS.below (B0.trans (Below.mono H2 B0.size)))).mono ?_)
    rintro e x3 ⟨rfl, hb3⟩
    have H3 : Below W0.heap.size W0 x3 := Below.trans H2 (hb3.mono (Below.size H2))
    refine hK.out _ _ (kept_cell H3 c0 l0) (fun hHeld => ?_)
    clear hK K
    (try simp only [Act.put, List.setIfInBounds_toArray, List.set_cons_zero, List.set_cons_succ, List.getElem_toArray, List.getElem_cons_succ, List.getElem_cons_zero])
    refine wpAnyH_ready (rs := [10]) (by kernel_rfl) (by simp) ?_
    refine AllReadyH.cons rfl (fun K hK => ?_) AllReadyH.nil
    go_simp
    have H4 : Below W0.heap.size W0 (x3.alloc (.cells #[.int .i64 (eCW S C T), .int .i64 (eNum S (T.length : Int) 0 8), .int .i64 (eNum S m 0 8)] 2)) := Below.alloc H3 (Below.size H3) _
    have he4 : Ints (x3.alloc (.cells #[.int .i64 (eCW S C T), .int .i64 (eNum S (T.length : Int) 0 8), .int .i64 (eNum S m 0 8)] 2)) (some ⟨x3.heap.size, 0, none⟩) [eCW S C T, eNum S (T.length : Int) 0 8, eNum S m 0 8] := ints_new _ [eCW S C T, eNum S (T.length : Int) 0 8, eNum S m 0 8] _
    refine hK.out _ _ (kept_cell H4 c0 l0) (fun hHeld => ?_)
    clear hK K
    (try simp only [Act.put, List.setIfInBounds_toArray, List.set_cons_zero, List.set_cons_succ, List.getElem_toArray, List.getElem_cons_succ, List.getElem_cons_zero])
    refine wpAnyH_ready (rs := [11]) (by kernel_rfl) (by simp) ?_
    refine AllReadyH.cons rfl (fun K hK => ?_) AllReadyH.nil
    go_simp
    (go_at_call 54; refine (cmpOr3 _ _ _ _ _ _ he4).mono ?_)
    rintro e x5 ⟨rfl, rfl⟩
    refine hK.out _ _ (kept_cell H4 c0 l0) (fun hHeld => ?_)
    clear hK K
    (try simp only [Act.put, List.setIfInBounds_toArray, List.set_cons_zero, List.set_cons_succ, List.getElem_toArray, List.getElem_cons_succ, List.getElem_cons_zero])
    refine wpAnyH_take (i := 12) (v := ?_) rfl (by kernel_rfl) (by kernel_rfl) (by kernel_rfl) (fun _ _ _ h => h) (Or.inl ⟨by rfl, ?_⟩) (by assumption) ?_
    rotate_left
    · (intro w hSw; obtain hSw := hSw; (try dsimp only at hSw); go_simp; try (with_reducible rfl))
    (try simp only [Act.put, List.setIfInBounds_toArray, List.set_cons_zero, List.set_cons_succ, List.getElem_toArray, List.getElem_cons_succ, List.getElem_cons_zero])
    refine wpAnyH_done (by kernel_rfl) ?_ _
    (try simp only [Act.put, List.setIfInBounds_toArray, List.set_cons_zero, List.set_cons_succ, List.getElem_toArray, List.getElem_cons_succ, List.getElem_cons_zero])
    obtain ⟨W5, hW5⟩ : ∃ W5, W5 = (x3.alloc (.cells #[.int .i64 (eCW S C T), .int .i64 (eNum S (T.length : Int) 0 8), .int .i64 (eNum S m 0 8)] 2)) := ⟨_, rfl⟩
    have B5 : Below w.heap.size w W5 := by rw [hW5]; exact B0.trans (Below.mono H4 B0.size)
    have c5 : W5.cell? ⟨w.heap.size, 0, none⟩ = some (.slice ao S.length cap) := by rw [hW5]; exact kept_cell H4 c0 l0
    rw [← hW5]
    rw [HE.out]
    clear hW5 H1 H2 H3 H4 c0 l0
    go_wp2_with fail
    refine (isPlain_any ao S cap hlo hn _ (hS.below B5)).mono ?_
    cases hp : isPl S with
    | true =>
      rintro e w6 ⟨rfl, hb6⟩
      have HF : Hid (eCs S C T m = 0) := Lib.hid (by rw [HV.out, hp]; rfl)
      go_wp2_with fail
      go_ret
      exact ⟨ret_int HF.out.symm, B5.trans (hb6.mono B5.size)⟩
    | false =>
      rintro e w6 ⟨rfl, hb6⟩
      have HF : Hid (eCs S C T m = 5) := Lib.hid (by rw [HV.out, hp]; rfl)
      go_wp2_with fail
      go_ret
      exact ⟨ret_int HF.out.symm, B5.trans (hb6.mono B5.size)⟩
  · have HV : Hid (eCs S C T m = E) := Lib.hid (by rw [hv, if_neg (fun g => hz g.1)])
    have hzb : (E == 0) = false := by simpa using hz
    clear hv hE hW0 hz
    go_enter Try.func25, Try.ntmps25
    go_wp2_with fail
    rw [← HW0.out]
    refine wp_region_held_drew (S := fun w' => w'.cell? ⟨w.heap.size, 0, none⟩ = some (.slice ao S.length cap)) (by kernel_rfl) (c0) (fun hHeld => ?_)
    refine wpAnyH_take (i := 0) (v := ?_) rfl (by kernel_rfl) (by kernel_rfl) (by kernel_rfl) (fun _ _ _ h => h) (Or.inl ⟨by rfl, ?_⟩) (by assumption) ?_
    rotate_left
    · (intro w hSw; obtain hSw := hSw; (try dsimp only at hSw); go_simp; try (with_reducible rfl))
    (try simp only [Act.put, List.setIfInBounds_toArray, List.set_cons_zero, List.set_cons_succ, List.getElem_toArray, List.getElem_cons_succ, List.getElem_cons_zero])
    refine wpAnyH_take (i := 1) (v := ?_) rfl (by kernel_rfl) (by kernel_rfl) (by kernel_rfl) (fun _ _ _ h => h) (Or.inl ⟨by rfl, ?_⟩) (by assumption) ?_
    rotate_left
    · (intro w hSw; obtain hSw := hSw; (try dsimp only at hSw); go_simp; try (with_reducible rfl))
    (try simp only [Act.put, List.setIfInBounds_toArray, List.set_cons_zero, List.set_cons_succ, List.getElem_toArray, List.getElem_cons_succ, List.getElem_cons_zero])
    refine wpAnyH_take (i := 2) (v := ?_) rfl (by kernel_rfl) (by kernel_rfl) (by kernel_rfl) (fun _ _ _ h => h) (Or.inl ⟨by rfl, ?_⟩) (by assumption) ?_
    rotate_left
    · (intro w hSw; obtain hSw := hSw; (try dsimp only at hSw); go_simp; try (with_reducible rfl))
    (try simp only [Act.put, List.setIfInBounds_toArray, List.set_cons_zero, List.set_cons_succ, List.getElem_toArray, List.getElem_cons_succ, List.getElem_cons_zero])
    refine wpAnyH_take (i := 4) (v := ?_) rfl (by kernel_rfl) (by kernel_rfl) (by kernel_rfl) (fun _ _ _ h => h) (Or.inl ⟨by rfl, ?_⟩) (by assumption) ?_
    rotate_left
    · (intro w hSw; obtain hSw := hSw; (try dsimp only at hSw); go_simp; try (with_reducible rfl))
    (try simp only [Act.put, List.setIfInBounds_toArray, List.set_cons_zero, List.set_cons_succ, List.getElem_toArray, List.getElem_cons_succ, List.getElem_cons_zero])
    refine wpAnyH_take (i := 5) (v := ?_) rfl (by kernel_rfl) (by kernel_rfl) (by kernel_rfl) (fun _ _ _ h => h) (Or.inl ⟨by rfl, ?_⟩) (by assumption) ?_
    rotate_left
    · (intro w hSw; obtain hSw := hSw; (try dsimp only at hSw); go_simp; try (with_reducible rfl))
    (try simp only [Act.put, List.setIfInBounds_toArray, List.set_cons_zero, List.set_cons_succ, List.getElem_toArray, List.getElem_cons_succ, List.getElem_cons_zero])
    refine wpAnyH_take (i := 7) (v := ?_) rfl (by kernel_rfl) (by kernel_rfl) (by kernel_rfl) (fun _ _ _ h => h) (Or.inl ⟨by rfl, ?_⟩) (by assumption) ?_
    rotate_left
    · (intro w hSw; obtain hSw := hSw; (try dsimp only at hSw); go_simp; try (with_reducible rfl))
    (try simp only [Act.put, List.setIfInBounds_toArray, List.set_cons_zero, List.set_cons_succ, List.getElem_toArray, List.getElem_cons_succ, List.getElem_cons_zero])
    refine wpAnyH_take (i := 8) (v := ?_) rfl (by kernel_rfl) (by kernel_rfl) (by kernel_rfl) (fun _ _ _ h => h) (Or.inl ⟨by rfl, ?_⟩) (by assumption) ?_
    rotate_left
    · (intro w hSw; obtain hSw := hSw; (try dsimp only at hSw); go_simp; try (with_reducible rfl))
    (try simp only [Act.put, List.setIfInBounds_toArray, List.set_cons_zero, List.set_cons_succ, List.getElem_toArray, List.getElem_cons_succ, List.getElem_cons_zero])
    refine wpAnyH_ready (rs := [3]) (by kernel_rfl) (by simp) ?_
    refine AllReadyH.cons rfl (fun K hK => ?_) AllReadyH.nil
    go_simp
    (go_at_call 55; refine (codeAndWordsError_any ao S cap hn ac C capc hnc at' T capt hnt _ (hS.below (B0.trans (Below.mono (Below.refl W0.heap.size W0).drew B0.size))) (hC.below (B0.trans (Below.mono (Below.refl W0.heap.size W0).drew B0.size))) (hT.below (B0.trans (Below.mono (Below.refl W0.heap.size W0).drew B0.size)))).mono ?_)
    rintro e x1 ⟨rfl, hb1⟩
    have H1 : Below W0.heap.size W0 x1 := Below.trans (Below.refl W0.heap.size W0).drew (hb1.mono (Below.size (Below.refl W0.heap.size W0).drew))
    refine hK.out _ _ (kept_cell H1 c0 l0) (fun hHeld => ?_)
    clear hK K
    (try simp only [Act.put, List.setIfInBounds_toArray, List.set_cons_zero, List.set_cons_succ, List.getElem_toArray, List.getElem_cons_succ, List.getElem_cons_zero])
    refine wpAnyH_ready (rs := [6]) (by kernel_rfl) (by simp) ?_
    refine AllReadyH.cons rfl (fun K hK => ?_) AllReadyH.nil
    go_simp
    (go_at_call 56; refine (numberError_any ao S cap hn (T.length : Int) 0 8 _ (hS.below (B0.trans (Below.mono H1 B0.size)))).mono ?_)
    rintro e x2 ⟨rfl, hb2⟩
    have H2 : Below W0.heap.size W0 x2 := Below.trans H1 (hb2.mono (Below.size H1))
    refine hK.out _ _ (kept_cell H2 c0 l0) (fun hHeld => ?_)
    clear hK K
    (try simp only [Act.put, List.setIfInBounds_toArray, List.set_cons_zero, List.set_cons_succ, List.getElem_toArray, List.getElem_cons_succ, List.getElem_cons_zero])
    refine wpAnyH_ready (rs := [9]) (by kernel_rfl) (by simp) ?_
    refine AllReadyH.cons rfl (fun K hK => ?_) AllReadyH.nil
    go_simp
    (go_at_call 56; refine (numberError_any ao S cap hn m 0 8 _ (hS.below (B0.trans (Below.mono H2 B0.size)))).mono ?_)
    rintro e x3 ⟨rfl, hb3⟩
    have H3 : Below W0.heap.size W0 x3 := Below.trans H2 (hb3.mono (Below.size H2))
    refine hK.out _ _ (kept_cell H3 c0 l0) (fun hHeld => ?_)
    clear hK K
    (try simp only [Act.put, List.setIfInBounds_toArray, List.set_cons_zero, List.set_cons_succ, List.getElem_toArray, List.getElem_cons_succ, List.getElem_cons_zero])
    refine wpAnyH_ready (rs := [10]) (by kernel_rfl) (by simp) ?_
    refine AllReadyH.cons rfl (fun K hK => ?_) AllReadyH.nil
    go_simp
    have H4 : Below W0.heap.size W0 (x3.alloc (.cells #[.int .i64 (eCW S C T), .int .i64 (eNum S (T.length : Int) 0 8), .int .i64 (eNum S m 0 8)] 2)) := Below.alloc H3 (Below.size H3) _
    have he4 : Ints (x3.alloc (.cells #[.int .i64 (eCW S C T), .int .i64 (eNum S (T.length : Int) 0 8), .int .i64 (eNum S m 0 8)] 2)) (some ⟨x3.heap.size, 0, none⟩) [eCW S C T, eNum S (T.length : Int) 0 8, eNum S m 0 8] := ints_new _ [eCW S C T, eNum S (T.length : Int) 0 8, eNum S m 0 8] _
    refine hK.out _ _ (kept_cell H4 c0 l0) (fun hHeld => ?_)
    clear hK K
    (try simp only [Act.put, List.setIfInBounds_toArray, List.set_cons_zero, List.set_cons_succ, List.getElem_toArray, List.getElem_cons_succ, List.getElem_cons_zero])
    refine wpAnyH_ready (rs := [11]) (by kernel_rfl) (by simp) ?_
    refine AllReadyH.cons rfl (fun K hK => ?_) AllReadyH.nil
    go_simp
    (go_at_call 54; refine (cmpOr3 _ _ _ _ _ _ he4).mono ?_)
    rintro e x5 ⟨rfl, rfl⟩
    refine hK.out _ _ (kept_cell H4 c0 l0) (fun hHeld => ?_)
    clear hK K
    (try simp only [Act.put, List.setIfInBounds_toArray, List.set_cons_zero, List.set_cons_succ, List.getElem_toArray, List.getElem_cons_succ, List.getElem_cons_zero])
    refine wpAnyH_take (i := 12) (v := ?_) rfl (by kernel_rfl) (by kernel_rfl) (by kernel_rfl) (fun _ _ _ h => h) (Or.inl ⟨by rfl, ?_⟩) (by assumption) ?_
    rotate_left
    · (intro w hSw; obtain hSw := hSw; (try dsimp only at hSw); go_simp; try (with_reducible rfl))
    (try simp only [Act.put, List.setIfInBounds_toArray, List.set_cons_zero, List.set_cons_succ, List.getElem_toArray, List.getElem_cons_succ, List.getElem_cons_zero])
    refine wpAnyH_done (by kernel_rfl) ?_ _
    (try simp only [Act.put, List.setIfInBounds_toArray, List.set_cons_zero, List.set_cons_succ, List.getElem_toArray, List.getElem_cons_succ, List.getElem_cons_zero])
    rw [HE.out]
    go_wp2_with fail
    go_ret
    exact ⟨ret_int HV.out.symm, B0.trans (Below.mono H4 B0.size)⟩

theorem equal_any (a a' : Option Addr) (A B : List Int) (n n' c c' : Nat) (w : World) (e1 : A.length = n) (e2 : B.length = n') (hn : n ≤ 4294967296) (h : Ints w a A) (h' : Ints w a' B) :
    Calls Try.prog 64 #[.slice a n c, .slice a' n' c'] w fun e w' => e = .returned (.bool (eqL A B)) ∧ Below w.heap.size w w' := by
  have E1 := Lib.hid e1
  have E2 := Lib.hid e2
  by_cases hne : n = n'
  · subst hne
    clear e1 e2
    go_enter Try.func64, Try.ntmps64
    go_wp2_with fail
    go_loopw [13] (fun i wr => ∃ k : Nat, k ≤ n ∧ i = .int .i64 k ∧ Hid (∀ j, j < k → gi A j = gi B j) ∧ Below w.heap.size w wr) (fun i _ => n - (intOf i).toNat)
    case atStart => exact ⟨0, Nat.zero_le _, rfl, Lib.hid fun j h => by omega, Below.refl _ _⟩
    case round =>
      obtain ⟨k, hk, rfl, HK, Bw⟩ := hrel
      by_cases hlt : k < n
      · obtain ⟨b, o, rfl, hbl, hc⟩ := h.at (i := k) (by rw [E1.out]; exact hlt)
        obtain ⟨b', o', rfl, hbl', hc'⟩ := h'.at (i := k) (by rw [E2.out]; exact hlt)
        have hck := kept_cell Bw (hc k (by rw [E1.out]; exact hlt)) hbl
        have hck' := kept_cell Bw (hc' k (by rw [E2.out]; exact hlt)) hbl'
        have i1 : (k : Int) < (n : Int) := by omega
        have i0 : (0 : Int) ≤ (k : Int) := by omega
        clear hc hc'
        by_cases hq : gi A k = gi B k
        · have e1 : (gi A k != gi B k) = false := by simp [hq]
          have HQ := Lib.hid hq
          clear hq
          go_wp2_with fail
          go_quiet (fail)
          go_wp2_with fail
          go_roundw
          case rel =>
            refine ⟨k + 1, by omega, by go_num, Lib.hid fun j hj => ?_, below_drewN Bw _⟩
            by_cases e : j = k
            · rw [e]; exact HQ.out
            · exact HK.out j (by omega)
          case measure => simp [intOf]; omega
        · have e1 : (gi A k != gi B k) = true := by simpa using hq
          have HF : Hid (eqL A B = false) := Lib.hid (eqL_at hq)
          clear hq
          go_wp2_with fail
          go_quiet (fail)
          go_wp2_with fail
          go_ret
          exact ⟨ret_bool HF.out.symm, below_drewN Bw _⟩
      · have HF : Hid (eqL A B = true) := Lib.hid (eqL_all (by rw [E1.out, E2.out]) fun j hj => HK.out j (by rw [E1.out] at hj; omega))
        go_wp2_with fail
        go_ret
        exact ⟨ret_bool HF.out.symm, Bw⟩
  · have HF : Hid (eqL A B = false) := Lib.hid (eqL_len (by rw [e1, e2]; exact hne))
    have hb : ((n : Int) != (n' : Int)) = true := by simp; omega
    clear e1 e2
    go_enter Try.func64, Try.ntmps64
    go_wp2_with fail
    go_ret
    exact ⟨ret_bool HF.out.symm, Below.refl _ _⟩

set_option maxHeartbeats 1000000 in
theorem areLed_any (ao : Option Addr) (S : List Int) (cap : Nat) (hP : Pl S) (at' : Option Addr) (T : List Int) (capt : Nat) (hnt : T.length ≤ 4294967296) (hct : T.length ≤ capt) (w : World) (hS : Ints w ao S) (hT : Ints w at' T) :
    Calls Try.prog 33 #[.agg #[.slice ao S.length cap], .slice at' T.length capt] w fun e w' => e = .returned (.bool (ldB S T)) ∧ Below w.heap.size w w' := by
  have hSp := hP.sp
  have hN := nW_bd hSp
  obtain ⟨N, hNe⟩ : ∃ N : Nat, nW S = (N : Int) := ⟨(nW S).toNat, by omega⟩
  have HN := Lib.hid hNe
  have hlo := hSp.lo
  have hhi := hSp.hi
  have HP := Lib.hid hP
  obtain ⟨q, hq⟩ : ∃ q, q = gi S 0 := ⟨_, rfl⟩
  have hq2 : 2 ≤ q ∧ q ≤ 3 := by have := hP.q; omega
  obtain ⟨q1, q3⟩ := hq2
  have hz := ldX_zero hP
  rw [← hq, hNe] at hz
  have hx0 := ldX_bd hP 0
  have HST : Hid (∀ k, k < S.length → ldX S k / q = ldX S (k + 1)) := Lib.hid fun k hk => by rw [hq]; exact ldX_step hP k hk
  obtain ⟨b, o, rfl, hbl, hc⟩ := hS.at (i := 0) (by omega)
  have hc0 := hc 0 (by omega)
  rw [← hq, Nat.add_zero] at hc0
  have c0 := cell_new w (.slice (some ⟨b, o, none⟩) S.length cap) 26
  have HZ := Lib.hid hz
  obtain ⟨y1, y2⟩ : 0 ≤ (N : Int) / q ∧ (N : Int) / q ≤ 1024 := by rw [hz]; exact hx0
  have N1 : (0 : Int) ≤ (N : Int) := by omega
  have hqz : ¬ q = 0 := by omega
  have hqb : (q == 0) = false := by simpa using hqz
  clear hSp hN hNe hq hP hz hc
  have B0 : Below w.heap.size w ((w.alloc (.cells #[.slice (some ⟨b, o, none⟩) S.length cap] 26)).alloc (.cells #[] 2)) := by go_grown
  have k0 : ((w.alloc (.cells #[.slice (some ⟨b, o, none⟩) S.length cap] 26)).alloc (.cells #[] 2)).cell? ⟨w.heap.size, 0, none⟩ = some (.slice (some ⟨b, o, none⟩) S.length cap) := kept_cell ((Below.refl _ (w.alloc (.cells #[.slice (some ⟨b, o, none⟩) S.length cap] 26))).alloc (Nat.le_refl _) _) c0 (lt_alloc _ _)
  have own0 : OwnInts ((w.alloc (.cells #[.slice (some ⟨b, o, none⟩) S.length cap] 26)).alloc (.cells #[] 2)) w.heap.size (.slice (some ⟨w.heap.size + 1, 0, none⟩) 0 0) [] := own_empty _ _ (by simp) (by simp)
  have hcq := kept_cell B0 hc0 hbl
  clear c0 hc0
  go_enter Try.func33, Try.ntmps33
  go_wp2_with fail
  refine (wordCount_nat _ S cap N HN _ HP.out.sp (hS.below B0)).mono ?_
  rintro e w1 ⟨rfl, hb⟩
  have own1 := own0.below hb
  have B1 := B0.trans (hb.mono (by simp; omega))
  clear hb own0 k0 hcq B0
  go_wp2_with fail
  rw [HZ.out]
  go_loopw [5, 7] (fun v x wr => ∃ k : Nat, k ≤ S.length ∧ x = .int .i64 (ldX S k) ∧ OwnInts wr w.heap.size v (ldL S k) ∧ Below w.heap.size w wr) (fun _ x _ => (intOf x).toNat)
  case atStart => exact ⟨0, Nat.zero_le _, rfl, own1, B1⟩
  case round =>
    clear own1 B1
    obtain ⟨k, hk, rfl, own, B⟩ := hrel
    by_cases hlt : k < S.length
    · have x1 := ldX_pos HP.out k hlt
      have x2 := (ldX_bd HP.out k).2
      have HL := Lib.hid (ldL_step S k hlt)
      have hst := HST.out k hlt
      have HS := Lib.hid hst
      have hlen := ldL_len S k
      obtain ⟨x, hx⟩ : ∃ x, x = ldX S k := ⟨_, rfl⟩
      rw [← hx] at x1 x2 HL HS ⊢
      have hdec : x / q < x := Int.ediv_lt_self_of_pos_of_ne_one x1 (by omega)
      have x0 : 0 ≤ x := by omega
      clear hst hx
      obtain ⟨L, hL⟩ : ∃ L, L = ldL S k := ⟨_, rfl⟩
      rw [← hL] at own HL hlen
      clear hL
      have hBs := B.size
      go_wp2_with (at_builtin; refine wpList_append_int rfl _ _ rfl w.heap.size _ _ rfl (own.alloc _) wr.heap.size _ rfl (cell_new _ _ _) (by omega) (by simp; omega) ?_; intro v' w4 hown' hgrow)
      have B4 : Below w.heap.size w w4 := grown_below (B.alloc B.size _) (by simp; omega) hgrow (own.alloc _) (Nat.le_refl _)
      go_roundw
      case rel => exact ⟨k + 1, by omega, by rw [HS.out], by rw [← HL.out]; exact hown', B4⟩
      case measure => simp [intOf]; omega
    · have hk0 : Hid (k = S.length) := Lib.hid (by omega)
      rw [ldX_out S k hlt]
      rw [hk0.out] at own
      have hlen := ldL_len S S.length
      have HB : Hid (S.length ≤ T.length → eqL (T.take S.length) (ldL S S.length) = ldB S T) := Lib.hid ldB_eq
      obtain ⟨L, hL⟩ : ∃ L, L = ldL S S.length := ⟨_, rfl⟩
      rw [← hL] at own HB hlen
      obtain ⟨av, kv, rfl⟩ := own.shape
      have HLN := Lib.hid hlen
      rw [hlen] at own ⊢
      clear hL hlen
      by_cases hle : S.length ≤ T.length
      · obtain ⟨b', o', rfl, hbl', hc'⟩ := hT.at (i := 0) (by omega)
        have hTt : Ints wr (some ⟨b', o', none⟩) (T.take S.length) := .inr ⟨b', o', rfl, lt_of_below B hbl', fun j hj => by
          have hj2 : j < S.length := by simp at hj; omega
          rw [gi_take _ _ _ hj2]; exact kept_cell B (hc' j (by omega)) hbl'⟩
        have HV : Hid (eqL (T.take S.length) L = ldB S T) := Lib.hid (HB.out hle)
        have i1 : (S.length : Int) ≤ (T.length : Int) := by omega
        have i2 : (S.length : Int) ≤ (capt : Int) := by omega
        have hl3 : (T.take S.length).length = S.length := by simp; omega
        have HL3 := Lib.hid hl3
        clear hl3 hc'
        go_wp2_with fail
        refine (equal_any _ _ (T.take S.length) L _ _ _ _ _ HL3.out HLN.out (by omega) hTt (own_ints own)).mono ?_
        rintro e w5 ⟨rfl, hb5⟩
        go_wp2_with fail
        go_ret
        exact ⟨ret_bool HV.out, B.trans (hb5.mono B.size)⟩
      · have HV : Hid (ldB S T = false) := Lib.hid (ldB_short hle)
        go_wp2_with fail
        go_ret
        exact ⟨ret_bool HV.out.symm, B⟩

set_option maxHeartbeats 1000000 in
theorem l09Led_any (ao : Option Addr) (S : List Int) (cap : Nat) (hP : Pl S) (at' : Option Addr) (T : List Int) (capt : Nat) (hnt : T.length ≤ 4294967296) (w : World) (hS : Ints w ao S) (hT : Ints w at' T) :
    Calls Try.prog 39 #[.agg #[.slice ao S.length cap], .slice at' T.length capt] w fun e w' => e = .returned (.bool (ldB S T)) ∧ Below w.heap.size w w' := by
  have hSp := hP.sp
  have hN := nW_bd hSp
  obtain ⟨N, hNe⟩ : ∃ N : Nat, nW S = (N : Int) := ⟨(nW S).toNat, by omega⟩
  have HN := Lib.hid hNe
  have HN0 : Hid ((N : Int) = ldW S 0) := Lib.hid (by rw [← hNe]; rfl)
  have hhi := hSp.hi
  have hlo := hSp.lo
  have HP := Lib.hid hP
  have B0 : Below w.heap.size w (w.alloc (.cells #[.slice ao S.length cap] 26)) := by go_grown
  have c0 := cell_new w (.slice ao S.length cap) 26
  have l0 := lt_alloc w (.cells #[.slice ao S.length cap] 26)
  clear hSp hN hNe hP
  by_cases hle : S.length ≤ T.length
  · go_enter Try.func39, Try.ntmps39
    go_wp2_with fail
    refine (l01N_natz ao S cap N HN _ HP.out.sp (hS.below B0)).mono ?_
    rintro e w1 ⟨rfl, hb⟩
    have c1 := kept_cell hb c0 l0
    have B1 := B0.trans (hb.mono B0.size)
    clear hb c0 l0 B0
    go_wp2_with fail
    rw [HN0.out]
    go_loopw [5, 18] (fun x i wr => ∃ k : Nat, k ≤ S.length ∧ i = .int .i64 k ∧ x = .int .i64 (ldW S k) ∧ Hid (∀ j, j < k → gi T j = ldW S (j + 1)) ∧ wr = w1) (fun _ i _ => S.length - (intOf i).toNat)
    case atStart => exact ⟨0, Nat.zero_le _, rfl, rfl, Lib.hid fun j h => by omega, rfl⟩
    case round =>
      obtain ⟨k, hk, rfl, rfl, HK, rfl⟩ := hrel
      by_cases hlt : k < S.length
      · obtain ⟨b, o, rfl, hbl, hc⟩ := hS.at hlt
        have hck := kept_cell B1 (hc k hlt) hbl
        obtain ⟨b', o', rfl, hbl', hc'⟩ := hT.at (i := k) (by omega)
        have hck' := kept_cell B1 (hc' k (by omega)) hbl'
        have x1 := ldW_bd HP.out k hk
        have x2 := ldW_bd HP.out (k + 1) hlt
        have hg := HP.out.sp.bd k hlt
        have HS : Hid (ldW S k / gi S k = ldW S (k + 1)) := Lib.hid rfl
        have hgz : ¬ gi S k = 0 := by omega
        have hgb : (gi S k == 0) = false := by simpa using hgz
        have i1 : (k : Int) < (T.length : Int) := by omega
        obtain ⟨x, hx⟩ : ∃ x, x = ldW S k := ⟨_, rfl⟩
        obtain ⟨y, hy⟩ : ∃ y, y = ldW S (k + 1) := ⟨_, rfl⟩
        rw [← hx, ← hy] at HS
        rw [← hx] at x1 ⊢
        rw [← hy] at x2
        have x0 : 0 ≤ x := by omega
        have HY := Lib.hid hy
        clear hx hy hc hc'
        by_cases heq : gi T k = y
        · have e1 : (gi T k != y) = false := by simp [heq]
          have e2 : (gi T k != x / gi S k) = false := by rw [HS.out]; exact e1
          have HQ := Lib.hid heq
          clear heq
          go_wp2_with fail
          go_roundw
          case rel =>
            refine ⟨k + 1, by omega, by go_num, by rw [HS.out, HY.out], Lib.hid fun j hj => ?_, trivial⟩
            by_cases e : j = k
            · rw [e, HQ.out, HY.out]
            · exact HK.out j (by omega)
          case measure => simp [intOf]; omega
        · have e1 : (gi T k != y) = true := by simpa using heq
          have e2 : (gi T k != x / gi S k) = true := by rw [HS.out]; exact e1
          have HV : Hid (ldB S T = false) := Lib.hid (ldB_not hlt (by rw [← HY.out]; exact heq))
          clear heq
          go_wp2_with fail
          go_ret
          exact ⟨ret_bool HV.out.symm, B1⟩
      · have HV : Hid (ldB S T = true) := Lib.hid ((ldB_iff S T).2 ⟨hle, fun j hj => HK.out j (by omega)⟩)
        go_wp2_with fail
        go_ret
        exact ⟨ret_bool HV.out.symm, B1⟩
  · have HV : Hid (ldB S T = false) := Lib.hid (ldB_short hle)
    go_enter Try.func39, Try.ntmps39
    go_wp2_with fail
    go_ret
    exact ⟨ret_bool HV.out.symm, B0⟩

set_option maxHeartbeats 1000000 in
theorem l09Columns_any (ao : Option Addr) (S : List Int) (cap : Nat) (hn : S.length ≤ 4294967296) (at' : Option Addr) (T : List Int) (capt : Nat) (hnt : T.length ≤ 4294967296) (w : World) (hS : Ints w ao S) (hT : Ints w at' T) :
    Calls Try.prog 49 #[.agg #[.slice ao S.length cap], .slice at' T.length capt] w fun e w' => e = .returned (.int .i64 (eCs S [] T 0)) ∧ Below w.heap.size w w' := by
  obtain ⟨W0, hW0⟩ : ∃ W0, W0 = w.alloc (.cells #[.slice ao S.length cap] 26) := ⟨_, rfl⟩
  have B0 : Below w.heap.size w W0 := by rw [hW0]; go_grown
  have c0 : W0.cell? ⟨w.heap.size, 0, none⟩ = some (.slice ao S.length cap) := by rw [hW0]; exact cell_new _ _ _
  have l0 : w.heap.size < W0.heap.size := by rw [hW0]; exact lt_alloc _ _
  have HW0 := Lib.hid hW0
  have hv := eCs_cols S T
  have hw := l01Words_any ao S cap hn at' T capt hnt W0 (hS.below B0) (hT.below B0)
  by_cases hz : eWords S T = 0
  · rw [if_pos hz] at hv
    rw [hz] at hw
    have HW := Lib.hid hw
    clear hz hw hW0
    by_cases h8 : 8 < T.length
    · have HV : Hid (eCs S [] T 0 = 2) := Lib.hid (by rw [hv, if_pos h8])
      have i1 : (8 : Int) < (T.length : Int) := by omega
      clear hv
      go_enter Try.func49, Try.ntmps49
      go_wp2_with fail
      rw [← HW0.out]
      refine HW.out.mono ?_
      rintro e w1 ⟨rfl, hb1⟩
      go_wp2_with fail
      go_ret
      exact ⟨ret_int HV.out.symm, B0.trans (hb1.mono B0.size)⟩
    · have HV : Hid (eCs S [] T 0 = if isPl S = true then 0 else 5) := Lib.hid (by rw [hv, if_neg h8])
      have i1 : ¬ (8 : Int) < (T.length : Int) := by omega
      clear hv
      go_enter Try.func49, Try.ntmps49
      go_wp2_with fail
      rw [← HW0.out]
      refine HW.out.mono ?_
      rintro e w1 ⟨rfl, hb1⟩
      have B1 := B0.trans (hb1.mono B0.size)
      have c1 := kept_cell hb1 c0 l0
      clear hb1 c0 l0 B0 HW
      go_wp2_with fail
      refine (l05Plain_any ao S cap hn _ (hS.below B1)).mono ?_
      cases hp : isPl S with
      | true =>
        rintro e w2 ⟨rfl, hb2⟩
        have HF : Hid (eCs S [] T 0 = 0) := Lib.hid (by rw [HV.out, hp]; rfl)
        go_wp2_with fail
        go_ret
        exact ⟨ret_int HF.out.symm, B1.trans (hb2.mono B1.size)⟩
      | false =>
        rintro e w2 ⟨rfl, hb2⟩
        have HF : Hid (eCs S [] T 0 = 5) := Lib.hid (by rw [HV.out, hp]; rfl)
        go_wp2_with fail
        go_ret
        exact ⟨ret_int HF.out.symm, B1.trans (hb2.mono B1.size)⟩
  · rw [if_neg hz] at hv
    have HV := Lib.hid hv
    have hzn : (eWords S T != 0) = true := by simpa using hz
    have HW := Lib.hid hw
    clear hv hw hz hW0
    go_enter Try.func49, Try.ntmps49
    go_wp2_with fail
    rw [← HW0.out]
    refine HW.out.mono ?_
    rintro e w1 ⟨rfl, hb1⟩
    go_wp2_with fail
    go_ret
    exact ⟨ret_int HV.out.symm, B0.trans (hb1.mono B0.size)⟩


set_option maxHeartbeats 1000000 in
theorem spec_AreLed (ao : Option Addr) (S : List Int) (cap : Nat) (hn : S.length ≤ 4294967296) (at' : Option Addr) (T : List Int) (capt : Nat) (hnt : T.length ≤ 4294967296) (hct : T.length ≤ capt) (w : World) (hS : Ints w ao S) (hT : Ints w at' T) :
    Calls Try.prog 18 #[.agg #[.slice ao S.length cap], .slice at' T.length capt] w fun e w' => e = .returned (.tuple #[.bool (vLed S T), .int .i64 (eCs S [] T 0)]) ∧ Below w.heap.size w w' := by
  obtain ⟨W0, hW0⟩ : ∃ W0, W0 = w.alloc (.cells #[.slice ao S.length cap] 26) := ⟨_, rfl⟩
  have B0 : Below w.heap.size w W0 := by rw [hW0]; go_grown
  have c0 : W0.cell? ⟨w.heap.size, 0, none⟩ = some (.slice ao S.length cap) := by rw [hW0]; exact cell_new _ _ _
  have l0 : w.heap.size < W0.heap.size := by rw [hW0]; exact lt_alloc _ _
  have HW0 := Lib.hid hW0
  have he := l09Columns_any ao S cap hn at' T capt hnt W0 (hS.below B0) (hT.below B0)
  by_cases hz : eCs S [] T 0 = 0
  · have HV : Hid (vLed S T = ldB S T) := Lib.hid (by unfold vLed; rw [if_pos hz])
    have HP := Lib.hid (eCs_zero hz).1
    rw [hz] at he
    have HE := Lib.hid he
    have HZ := Lib.hid hz
    clear he hz hW0
    go_enter Try.func18, Try.ntmps18
    go_wp2_with fail
    rw [← HW0.out]
    refine HE.out.mono ?_
    rintro e w1 ⟨rfl, hb1⟩
    have B1 := B0.trans (hb1.mono B0.size)
    have c1 := kept_cell hb1 c0 l0
    clear hb1 c0 l0 B0 HE
    go_wp2_with fail
    refine (l09Led_any ao S cap HP.out at' T capt hnt _ (hS.below B1) (hT.below B1)).mono ?_
    rintro e w2 ⟨rfl, hb2⟩
    go_wp2_with fail
    go_ret2
    exact ⟨by rw [HZ.out, HV.out]; rfl, B1.trans (hb2.mono B1.size)⟩
  · have HV : Hid (vLed S T = false) := Lib.hid (by unfold vLed; rw [if_neg hz])
    have hzn : (eCs S [] T 0 != 0) = true := by simpa using hz
    have HE := Lib.hid he
    clear he hz hW0
    go_enter Try.func18, Try.ntmps18
    go_wp2_with fail
    rw [← HW0.out]
    refine HE.out.mono ?_
    rintro e w1 ⟨rfl, hb1⟩
    go_wp2_with fail
    go_ret2
    exact ⟨by rw [HV.out]; rfl, B0.trans (hb1.mono B0.size)⟩

set_option maxHeartbeats 1000000 in
theorem impl_AreLed (ao : Option Addr) (S : List Int) (cap : Nat) (hn : S.length ≤ 4294967296) (at' : Option Addr) (T : List Int) (capt : Nat) (hnt : T.length ≤ 4294967296) (hct : T.length ≤ capt) (w : World) (hS : Ints w ao S) (hT : Ints w at' T) :
    Calls Try.prog 17 #[.agg #[.slice ao S.length cap], .slice at' T.length capt] w fun e w' => e = .returned (.tuple #[.bool (vLed S T), .int .i64 (eCs S [] T 0)]) ∧ Below w.heap.size w w' := by
  obtain ⟨W0, hW0⟩ : ∃ W0, W0 = w.alloc (.cells #[.slice ao S.length cap] 26) := ⟨_, rfl⟩
  have B0 : Below w.heap.size w W0 := by rw [hW0]; go_grown
  have c0 : W0.cell? ⟨w.heap.size, 0, none⟩ = some (.slice ao S.length cap) := by rw [hW0]; exact cell_new _ _ _
  have l0 : w.heap.size < W0.heap.size := by rw [hW0]; exact lt_alloc _ _
  have HW0 := Lib.hid hW0
  have he := columnsError_any ao S cap hn none [] 0 (by simp) at' T capt hnt 0 W0 (hS.below B0) (.inl rfl) (hT.below B0)
  by_cases hz : eCs S [] T 0 = 0
  · have HV : Hid (vLed S T = ldB S T) := Lib.hid (by unfold vLed; rw [if_pos hz])
    have HP := Lib.hid (eCs_zero hz).1
    rw [hz] at he
    have HE := Lib.hid he
    have HZ := Lib.hid hz
    clear he hz hW0
    go_enter Try.func17, Try.ntmps17
    go_wp2_with fail
    rw [← HW0.out]
    refine HE.out.mono ?_
    rintro e w1 ⟨rfl, hb1⟩
    have B1 := B0.trans (hb1.mono B0.size)
    have c1 := kept_cell hb1 c0 l0
    clear hb1 c0 l0 B0 HE
    go_wp2_with fail
    refine (areLed_any ao S cap HP.out at' T capt hnt hct _ (hS.below B1) (hT.below B1)).mono ?_
    rintro e w2 ⟨rfl, hb2⟩
    go_wp2_with fail
    go_ret2
    exact ⟨by rw [HZ.out, HV.out]; rfl, B1.trans (hb2.mono B1.size)⟩
  · have HV : Hid (vLed S T = false) := Lib.hid (by unfold vLed; rw [if_neg hz])
    have hzn : (eCs S [] T 0 != 0) = true := by simpa using hz
    have HE := Lib.hid he
    clear he hz hW0
    go_enter Try.func17, Try.ntmps17
    go_wp2_with fail
    rw [← HW0.out]
    refine HE.out.mono ?_
    rintro e w1 ⟨rfl, hb1⟩
    go_wp2_with fail
    go_ret2
    exact ⟨by rw [HV.out]; rfl, B0.trans (hb1.mono B0.size)⟩

end Go.Proofs.Ytamebfbddoeflaa
