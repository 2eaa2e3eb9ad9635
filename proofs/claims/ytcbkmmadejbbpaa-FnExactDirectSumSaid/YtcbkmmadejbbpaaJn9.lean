/-
  The contracts of joined words and of the errors of two spaces and codes, in the program. By an AI agent.
-/
import Derived.Test.YtcbkmmadejbbpaaMjn9
import Derived.Test.YtcbkmmadejbbpaaAppend
import Derived.Test.YtcbkmmadejbbpaaMark
import Derived.Test.YtcbkmmadejbbpaaErr
import Derived.Deep.RegionHeld3
namespace Go.Proofs.Ytcbkmmadejbbpaa
open Go.RowKit Cv
set_option linter.unusedVariables false
set_option linter.unusedSimpArgs false
set_option maxRecDepth 100000

set_option maxHeartbeats 2000000 in
theorem bothError_any (ao : Option Addr) (S : List Int) (cap : Nat) (hn : S.length ≤ 4294967296) (ac : Option Addr) (C : List Int) (capc : Nat) (hnc : C.length ≤ 4294967296) (ax : Option Addr) (X : List Int) (capx : Nat) (hnx : X.length ≤ 4294967296) (ad : Option Addr) (D : List Int) (capd : Nat) (hnd : D.length ≤ 4294967296) (w : World) (hS : Ints w ao S) (hC : Ints w ac C) (hX : Ints w ax X) (hD : Ints w ad D) :
    Calls Try.prog 51 #[.agg #[.slice ao S.length cap], .slice ac C.length capc, .agg #[.slice ax X.length capx], .slice ad D.length capd] w fun e w' => e = .returned (.int .i64 (eBo S C X D)) ∧ Below w.heap.size w w' := by
  obtain ⟨W0, hW0⟩ : ∃ W0, W0 = (w.alloc (.cells #[.slice ao S.length cap] 26)).alloc (.cells #[.slice ax X.length capx] 26) := ⟨_, rfl⟩
  have B0 : Below w.heap.size w W0 := by rw [hW0]; go_grown
  have cS : W0.cell? ⟨w.heap.size, 0, none⟩ = some (.slice ao S.length cap) := by rw [hW0]; exact kept_cell ((Below.refl _ (w.alloc (.cells #[.slice ao S.length cap] 26))).alloc (Nat.le_refl _) _) (cell_new _ _ _) (lt_alloc _ _)
  have cX : W0.cell? ⟨w.heap.size + 1, 0, none⟩ = some (.slice ax X.length capx) := by
    have h := cell_new (w.alloc (.cells #[.slice ao S.length cap] 26)) (.slice ax X.length capx) 26
    rw [World.size_alloc] at h; rw [hW0]; exact h
  have l0 : w.heap.size + 2 ≤ W0.heap.size := by rw [hW0]; simp
  have HW0 := Lib.hid hW0
  cases h1 : isSp S with
  | false =>
    have HE : Hid (eBo S C X D = 1) := Lib.hid (by unfold eBo; rw [if_neg (by rw [h1]; simp)])
    have hs := IsSpace_any ao S cap W0 hn (hS.below B0)
    rw [h1] at hs
    have HS := Lib.hid hs
    clear hW0 hs h1
    go_enter Try.func51, Try.ntmps51
    go_wp2_with fail
    rw [← HW0.out]
    refine HS.out.mono ?_
    rintro e w1 ⟨rfl, hb1⟩
    go_wp2_with fail
    go_ret
    exact ⟨ret_int HE.out.symm, B0.trans (hb1.mono B0.size)⟩
  | true =>
    have hs := IsSpace_any ao S cap W0 hn (hS.below B0)
    rw [h1] at hs
    have HS := Lib.hid hs
    have H1 := Lib.hid h1
    clear hW0 hs h1
    cases h2 : isSp X with
    | false =>
      have HE : Hid (eBo S C X D = 1) := Lib.hid (by unfold eBo; rw [if_neg (by rw [h2]; simp)])
      have H2 := Lib.hid h2
      clear h2
      go_enter Try.func51, Try.ntmps51
      go_wp2_with fail
      rw [← HW0.out]
      refine HS.out.mono ?_
      rintro e w1 ⟨rfl, hb1⟩
      have B1 := B0.trans (hb1.mono B0.size)
      have cX1 := kept_cell hb1 cX (by omega)
      have cS1 := kept_cell hb1 cS (by omega)
      go_wp2_with fail
      refine (IsSpace_any ax X capx _ hnx (hX.below B1)).mono ?_
      rw [H2.out]
      rintro e w2 ⟨rfl, hb2⟩
      go_wp2_with fail
      go_ret
      exact ⟨ret_int HE.out.symm, B1.trans (hb2.mono B1.size)⟩
    | true =>
      have HE : Hid (eBo S C X D = orI (eCode S C) (eCode X D)) := Lib.hid (eBo_or H1.out h2)
      have H2 := Lib.hid h2
      clear h2
      go_enter Try.func51, Try.ntmps51
      go_wp2_with fail
      rw [← HW0.out]
      refine HS.out.mono ?_
      rintro e w1 ⟨rfl, hb1⟩
      have B1 := B0.trans (hb1.mono B0.size)
      have cX1 := kept_cell hb1 cX (by omega)
      have cS1 := kept_cell hb1 cS (by omega)
      have l1 : w.heap.size + 2 ≤ w1.heap.size := Nat.le_trans l0 hb1.size
      clear hb1 cX cS B0 HS
      go_wp2_with fail
      refine (IsSpace_any ax X capx _ hnx (hX.below B1)).mono ?_
      rw [H2.out]
      rintro e w2 ⟨rfl, hb2⟩
      have B2 := B1.trans (hb2.mono B1.size)
      have cX2 := kept_cell hb2 cX1 (by omega)
      have cS2 := kept_cell hb2 cS1 (by omega)
      have l2 : w.heap.size + 2 ≤ w2.heap.size := Nat.le_trans l1 hb2.size
      clear hb2 cX1 cS1 B1
      go_wp2_with fail
      refine wp_region_held_drew (S := fun w' => w'.cell? ⟨w.heap.size, 0, none⟩ = some (.slice ao S.length cap) ∧ w'.cell? ⟨w.heap.size + 1, 0, none⟩ = some (.slice ax X.length capx)) (by kernel_rfl) (⟨cS2, cX2⟩) (fun hHeld => ?_)
      refine wpAnyH_take (i := 0) (v := ?_) rfl (by kernel_rfl) (by kernel_rfl) (by kernel_rfl) (fun _ _ _ h => h) (Or.inl ⟨by rfl, ?_⟩) (by assumption) ?_
      rotate_left
      · (intro w hSw; obtain ⟨hSw0, hSw1⟩ := hSw; (try dsimp only at hSw0 hSw1); go_simp; try (with_reducible rfl))
      (try simp only [Act.put, List.setIfInBounds_toArray, List.set_cons_zero, List.set_cons_succ, List.getElem_toArray, List.getElem_cons_succ, List.getElem_cons_zero])
      refine wpAnyH_take (i := 1) (v := ?_) rfl (by kernel_rfl) (by kernel_rfl) (by kernel_rfl) (fun _ _ _ h => h) (Or.inl ⟨by rfl, ?_⟩) (by assumption) ?_
      rotate_left
      · (intro w hSw; obtain ⟨hSw0, hSw1⟩ := hSw; (try dsimp only at hSw0 hSw1); go_simp; try (with_reducible rfl))
      (try simp only [Act.put, List.setIfInBounds_toArray, List.set_cons_zero, List.set_cons_succ, List.getElem_toArray, List.getElem_cons_succ, List.getElem_cons_zero])
      refine wpAnyH_take (i := 3) (v := ?_) rfl (by kernel_rfl) (by kernel_rfl) (by kernel_rfl) (fun _ _ _ h => h) (Or.inl ⟨by rfl, ?_⟩) (by assumption) ?_
      rotate_left
      · (intro w hSw; obtain ⟨hSw0, hSw1⟩ := hSw; (try dsimp only at hSw0 hSw1); go_simp; try (with_reducible rfl))
      (try simp only [Act.put, List.setIfInBounds_toArray, List.set_cons_zero, List.set_cons_succ, List.getElem_toArray, List.getElem_cons_succ, List.getElem_cons_zero])
      refine wpAnyH_take (i := 4) (v := ?_) rfl (by kernel_rfl) (by kernel_rfl) (by kernel_rfl) (fun _ _ _ h => h) (Or.inl ⟨by rfl, ?_⟩) (by assumption) ?_
      rotate_left
      · (intro w hSw; obtain ⟨hSw0, hSw1⟩ := hSw; (try dsimp only at hSw0 hSw1); go_simp; try (with_reducible rfl))
      (try simp only [Act.put, List.setIfInBounds_toArray, List.set_cons_zero, List.set_cons_succ, List.getElem_toArray, List.getElem_cons_succ, List.getElem_cons_zero])
      refine wpAnyH_ready (rs := [2]) (by kernel_rfl) (by simp) ?_
      refine AllReadyH.cons rfl (fun K hK => ?_) AllReadyH.nil
      go_simp
      (go_at_call 60; refine (codeError_any ao S cap hn ac C capc hnc _ (hS.below (B2.trans (Below.mono (Below.refl w2.heap.size w2).drew B2.size))) (hC.below (B2.trans (Below.mono (Below.refl w2.heap.size w2).drew B2.size)))).mono ?_)
      rintro e x1 ⟨rfl, hb1⟩
      have H1 : Below w2.heap.size w2 x1 := Below.trans (Below.refl w2.heap.size w2).drew (hb1.mono (Below.size (Below.refl w2.heap.size w2).drew))
      refine hK.out _ _ (⟨kept_cell H1 cS2 (by omega), kept_cell H1 cX2 (by omega)⟩) (fun hHeld => ?_)
      clear hK K
      (try simp only [Act.put, List.setIfInBounds_toArray, List.set_cons_zero, List.set_cons_succ, List.getElem_toArray, List.getElem_cons_succ, List.getElem_cons_zero])
      refine wpAnyH_ready (rs := [5]) (by kernel_rfl) (by simp) ?_
      refine AllReadyH.cons rfl (fun K hK => ?_) AllReadyH.nil
      go_simp
      (go_at_call 60; refine (codeError_any ax X capx hnx ad D capd hnd _ (hX.below (B2.trans (Below.mono H1 B2.size))) (hD.below (B2.trans (Below.mono H1 B2.size)))).mono ?_)
      rintro e x2 ⟨rfl, hb2⟩
      have H2 : Below w2.heap.size w2 x2 := Below.trans H1 (hb2.mono (Below.size H1))
      refine hK.out _ _ (⟨kept_cell H2 cS2 (by omega), kept_cell H2 cX2 (by omega)⟩) (fun hHeld => ?_)
      clear hK K
      (try simp only [Act.put, List.setIfInBounds_toArray, List.set_cons_zero, List.set_cons_succ, List.getElem_toArray, List.getElem_cons_succ, List.getElem_cons_zero])
      refine wpAnyH_ready (rs := [6]) (by kernel_rfl) (by simp) ?_
      refine AllReadyH.cons rfl (fun K hK => ?_) AllReadyH.nil
      go_simp
      have H3 : Below w2.heap.size w2 (x2.alloc (.cells #[.int .i64 (eCode S C), .int .i64 (eCode X D)] 2)) := Below.alloc H2 (Below.size H2) _
      have he3 : Ints (x2.alloc (.cells #[.int .i64 (eCode S C), .int .i64 (eCode X D)] 2)) (some ⟨x2.heap.size, 0, none⟩) [eCode S C, eCode X D] := ints_new2 _ _ _ _ rfl
      refine hK.out _ _ (⟨kept_cell H3 cS2 (by omega), kept_cell H3 cX2 (by omega)⟩) (fun hHeld => ?_)
      clear hK K
      (try simp only [Act.put, List.setIfInBounds_toArray, List.set_cons_zero, List.set_cons_succ, List.getElem_toArray, List.getElem_cons_succ, List.getElem_cons_zero])
      refine wpAnyH_ready (rs := [7]) (by kernel_rfl) (by simp) ?_
      refine AllReadyH.cons rfl (fun K hK => ?_) AllReadyH.nil
      go_simp
      (go_at_call 89; refine (cmpOr2 _ _ _ _ _ he3).mono ?_)
      rintro e x4 ⟨rfl, rfl⟩
      refine hK.out _ _ (⟨kept_cell H3 cS2 (by omega), kept_cell H3 cX2 (by omega)⟩) (fun hHeld => ?_)
      clear hK K
      (try simp only [Act.put, List.setIfInBounds_toArray, List.set_cons_zero, List.set_cons_succ, List.getElem_toArray, List.getElem_cons_succ, List.getElem_cons_zero])
      refine wpAnyH_take (i := 8) (v := ?_) rfl (by kernel_rfl) (by kernel_rfl) (by kernel_rfl) (fun _ _ _ h => h) (Or.inl ⟨by rfl, ?_⟩) (by assumption) ?_
      rotate_left
      · (intro w hSw; obtain ⟨hSw0, hSw1⟩ := hSw; (try dsimp only at hSw0 hSw1); go_simp; try (with_reducible rfl))
      (try simp only [Act.put, List.setIfInBounds_toArray, List.set_cons_zero, List.set_cons_succ, List.getElem_toArray, List.getElem_cons_succ, List.getElem_cons_zero])
      refine wpAnyH_done (by kernel_rfl) ?_ _
      (try simp only [Act.put, List.setIfInBounds_toArray, List.set_cons_zero, List.set_cons_succ, List.getElem_toArray, List.getElem_cons_succ, List.getElem_cons_zero])
      go_wp2_with fail
      go_ret
      exact ⟨ret_int HE.out.symm, (B2.trans (Below.mono H3 B2.size))⟩

end Go.Proofs.Ytcbkmmadejbbpaa
