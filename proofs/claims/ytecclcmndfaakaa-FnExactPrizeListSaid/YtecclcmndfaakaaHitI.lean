/-
  The contracts of HitsOf. By an AI agent.
-/
import Derived.Test.YtecclcmndfaakaaHitC
namespace Go.Proofs.Ytecclcmndfaakaa
open Go.RowKit Cv
set_option linter.unusedVariables false
set_option linter.unusedSimpArgs false
set_option maxRecDepth 100000

theorem ret_iih {a b c d : Int} (h1 : a = b) (h2 : c = d) : Ending.returned (.tuple #[.int .i64 a, .int .i64 c]) = .returned (.tuple #[.int .i64 b, .int .i64 d]) := by rw [h1, h2]
theorem counted_0 (ao : Option Addr) (S : List Int) (cap : Nat) (hSp : Sp S) (base P g : Nat) (T U : List Int) (K : Nat) (hK : K = T.length) (hT : T.length ≤ 1048576) (x : Int) (hx : 0 ≤ x) (hx2 : x ≤ 9223372036854775807) (w : World) (hS : Ints w ao S) (hp : PartsAt w base P g S T U) :
    Calls Try.prog 79 #[.int .i64 0, .agg #[.slice ao S.length cap], .slice (some ⟨P, 0, none⟩) K K, .int .i64 x] w fun e w' =>
      ∃ q, e = .returned (.slice (some ⟨q, 0, none⟩) K K) ∧ OwnInts w' w.heap.size (.slice (some ⟨q, 0, none⟩) K K) (htL S T x) ∧ Below w.heap.size w w' := by
  refine (counted_any 0 (.inl rfl) ao S cap hSp base P g T U K hK hT x hx hx2 w hS hp).mono ?_
  rintro e w' ⟨q, h1, h2, h3⟩
  have e1 : T.map (wyF 0 S x) = htL S T x := List.map_congr_left fun u _ => by unfold wyF; rw [if_pos rfl]
  rw [e1] at h2
  exact ⟨q, h1, h2, h3⟩
theorem counted_1 (ao : Option Addr) (S : List Int) (cap : Nat) (hSp : Sp S) (base P g : Nat) (T U : List Int) (K : Nat) (hK : K = T.length) (hT : T.length ≤ 1048576) (x : Int) (hx : 0 ≤ x) (hx2 : x ≤ 9223372036854775807) (w : World) (hS : Ints w ao S) (hp : PartsAt w base P g S T U) :
    Calls Try.prog 79 #[.int .i64 1, .agg #[.slice ao S.length cap], .slice (some ⟨P, 0, none⟩) K K, .int .i64 x] w fun e w' =>
      ∃ q, e = .returned (.slice (some ⟨q, 0, none⟩) K K) ∧ OwnInts w' w.heap.size (.slice (some ⟨q, 0, none⟩) K K) (msL S T x) ∧ Below w.heap.size w w' := by
  refine (counted_any 1 (.inr rfl) ao S cap hSp base P g T U K hK hT x hx hx2 w hS hp).mono ?_
  rintro e w' ⟨q, h1, h2, h3⟩
  have e1 : T.map (wyF 1 S x) = msL S T x := List.map_congr_left fun u _ => by unfold wyF; rw [if_neg (by decide)]
  rw [e1] at h2
  exact ⟨q, h1, h2, h3⟩

set_option maxHeartbeats 1000000 in
theorem impl_HitsOf (ao : Option Addr) (S : List Int) (cap : Nat) (hn : S.length ≤ 4294967296) (u : Int) (hu : -9223372036854775808 ≤ u ∧ u ≤ 9223372036854775807) (x : Int) (hx : -9223372036854775808 ≤ x ∧ x ≤ 9223372036854775807) (w : World) (hS : Ints w ao S) :
    Calls Try.prog 46 #[.agg #[.slice ao S.length cap], .int .i64 u, .int .i64 x] w fun e w' => e = .returned (.tuple #[.int .i64 (vHits S u x), .int .i64 (eWords S [u, x])]) ∧ Below w.heap.size w w' := by
  obtain ⟨W, hW⟩ : ∃ W, W = w.alloc (.cells #[.slice ao S.length cap] 28) := ⟨_, rfl⟩
  have hWs : W.heap.size = w.heap.size + 1 := by rw [hW]; simp
  have B0 : Below w.heap.size w W := by rw [hW]; go_grown
  have c0 : W.cell? ⟨w.heap.size, 0, none⟩ = some (.slice ao S.length cap) := by rw [hW]; exact cell_new _ _ _
  have l0 : w.heap.size < W.heap.size := by omega
  have HW := Lib.hid hW
  clear hW
  have hb0 : Below W.heap.size W (W.alloc (.cells #[.int .i64 u, .int .i64 x] 2)) := (Below.refl _ W).alloc (Nat.le_refl _) _
  have B0' : Below w.heap.size w (W.alloc (.cells #[.int .i64 u, .int .i64 x] 2)) := B0.trans (hb0.mono B0.size)
  have c0' := kept_cell hb0 c0 l0
  have l0' := lt_of_below hb0 l0
  by_cases hz : eWords S [u, x] = 0
  · obtain ⟨hSp, ⟨u1, u2⟩, x1, x2⟩ := eWords2 hz
    obtain ⟨N1, N2⟩ := nW_bd hSp
    have HV : Hid (vHits S u x = hitW S u x) := Lib.hid (by unfold vHits; rw [if_pos hz])
    have HE := Lib.hid hz
    have HSp := Lib.hid hSp
    have hhi := hSp.hi
    have hzn : (eWords S [u, x] != 0) = false := by simp [hz]
    clear hz hSp
    go_enter Try.func46, Try.ntmps46
    go_wp2_with fail
    rw [← HW.out]
    refine (wordsError_n ao S cap hn _ [u, x] 2 _ rfl (by omega) _ (hS.below B0') (ints_new2 W u x _ hWs.symm)).mono ?_
    rintro e w1 ⟨rfl, hb⟩
    have c1 := kept_cell hb c0' l0'
    have l1 := lt_of_below hb l0'
    have B1 : Below w.heap.size w w1 := B0'.trans (hb.mono B0'.size)
    clear hb c0' l0' B0' hb0 c0 l0 B0
    go_wp2_with fail
    refine wp_region_held_drew (S := fun w' => w'.cell? ⟨w.heap.size, 0, none⟩ = some (.slice ao S.length cap)) (by kernel_rfl) c1 (fun hHeld => ?_)
    refine wpAnyH_take (i := 0) (v := ?_) rfl (by kernel_rfl) (by kernel_rfl) (by kernel_rfl) (fun _ _ _ h => h) (Or.inl ⟨by rfl, ?_⟩) (by assumption) ?_
    rotate_left
    · (intro w hSw; (try dsimp only at hSw); go_simp; try (with_reducible rfl))
    (try simp only [Act.put, List.setIfInBounds_toArray, List.set_cons_zero, List.set_cons_succ, List.getElem_toArray, List.getElem_cons_succ, List.getElem_cons_zero])
    refine wpAnyH_take (i := 1) (v := ?_) rfl (by kernel_rfl) (by kernel_rfl) (by kernel_rfl) (fun _ _ _ h => h) (Or.inl ⟨by rfl, ?_⟩) (by assumption) ?_
    rotate_left
    · (intro w hSw; (try dsimp only at hSw); go_simp; try (with_reducible rfl))
    (try simp only [Act.put, List.setIfInBounds_toArray, List.set_cons_zero, List.set_cons_succ, List.getElem_toArray, List.getElem_cons_succ, List.getElem_cons_zero])
    refine wpAnyH_take (i := 2) (v := ?_) rfl (by kernel_rfl) (by kernel_rfl) (by kernel_rfl) (fun _ _ _ h => h) (Or.inl ⟨by rfl, ?_⟩) (by assumption) ?_
    rotate_left
    · (intro w hSw; (try dsimp only at hSw); go_simp; try (with_reducible rfl))
    (try simp only [Act.put, List.setIfInBounds_toArray, List.set_cons_zero, List.set_cons_succ, List.getElem_toArray, List.getElem_cons_succ, List.getElem_cons_zero])
    refine wpAnyH_take (i := 5) (v := ?_) rfl (by kernel_rfl) (by kernel_rfl) (by kernel_rfl) (fun _ _ _ h => h) (Or.inl ⟨by rfl, ?_⟩) (by assumption) ?_
    rotate_left
    · (intro w hSw; (try dsimp only at hSw); go_simp; try (with_reducible rfl))
    (try simp only [Act.put, List.setIfInBounds_toArray, List.set_cons_zero, List.set_cons_succ, List.getElem_toArray, List.getElem_cons_succ, List.getElem_cons_zero])
    have BA : Below w1.heap.size w1 (w1.drew.alloc (.cells #[.int .i64 u] 2)) := (Below.refl _ w1).drew.alloc (Nat.le_refl _) _
    refine wpAnyH_ready (rs := [3]) (by kernel_rfl) (by simp) ?_
    refine AllReadyH.cons rfl (fun K hK => ?_) AllReadyH.nil
    go_simp
    refine hK.out _ _ (kept_cell BA c1 l1) (fun hHeld => ?_)
    clear hK K
    (try simp only [Act.put, List.setIfInBounds_toArray, List.set_cons_zero, List.set_cons_succ, List.getElem_toArray, List.getElem_cons_succ, List.getElem_cons_zero])
    refine wpAnyH_ready (rs := [4]) (by kernel_rfl) (by simp) ?_
    refine AllReadyH.cons rfl (fun K hK => ?_) AllReadyH.nil
    go_simp
    (go_at_call 75; refine (digitParts_n ao S cap HSp.out.lo hhi HSp.out.bd _ [u] 1 _ rfl (by omega) (by intro i hi; match i, hi with | 0, _ => exact ⟨u1, by rw [gi1]; omega⟩) _ (hS.below (B1.trans (BA.mono B1.size))) (ints_new1 _ u _ (by rfl))).mono ?_)
    rintro e w2 ⟨P, g, U, rfl, hp, hb⟩
    have BB : Below w1.heap.size w1 w2 := BA.trans (hb.mono BA.size)
    refine hK.out _ _ (kept_cell BB c1 l1) (fun hHeld => ?_)
    clear hK K
    (try simp only [Act.put, List.setIfInBounds_toArray, List.set_cons_zero, List.set_cons_succ, List.getElem_toArray, List.getElem_cons_succ, List.getElem_cons_zero])
    refine wpAnyH_ready (rs := [6]) (by kernel_rfl) (by simp) ?_
    refine AllReadyH.cons rfl (fun K hK => ?_) AllReadyH.nil
    go_simp
    (go_at_call 79; refine (counted_0 ao S cap HSp.out _ P g [u] U 1 rfl (by simp) x x1 (by omega) _ (hS.below (B1.trans (BB.mono B1.size))) hp).mono ?_)
    rintro e w3 ⟨q, rfl, own, hb3⟩
    have BC : Below w1.heap.size w1 w3 := BB.trans (hb3.mono BB.size)
    have hq : w3.cell? ⟨q, 0, none⟩ = some (.int .i64 (hitW S u x)) := own.cell (k := 0) (by simp [htL])
    refine hK.out _ _ (kept_cell BC c1 l1) (fun hHeld => ?_)
    clear hK K
    (try simp only [Act.put, List.setIfInBounds_toArray, List.set_cons_zero, List.set_cons_succ, List.getElem_toArray, List.getElem_cons_succ, List.getElem_cons_zero])
    refine wpAnyH_take (i := 7) (v := ?_) rfl (by kernel_rfl) (by kernel_rfl) (by kernel_rfl) (fun _ _ _ h => h) (Or.inl ⟨by rfl, ?_⟩) (by assumption) ?_
    rotate_left
    · (intro w hSw; (try dsimp only at hSw); go_simp; try (with_reducible rfl))
    (try simp only [Act.put, List.setIfInBounds_toArray, List.set_cons_zero, List.set_cons_succ, List.getElem_toArray, List.getElem_cons_succ, List.getElem_cons_zero])
    refine wpAnyH_ready (rs := [8]) (by kernel_rfl) (by simp) ?_
    refine AllReadyH.cons rfl (fun K hK => ?_) AllReadyH.nil
    go_simp
    refine hK.out _ _ (kept_cell BC c1 l1) (fun hHeld => ?_)
    clear hK K
    (try simp only [Act.put, List.setIfInBounds_toArray, List.set_cons_zero, List.set_cons_succ, List.getElem_toArray, List.getElem_cons_succ, List.getElem_cons_zero])
    refine wpAnyH_take (i := 9) (v := ?_) rfl (by kernel_rfl) (by kernel_rfl) (by kernel_rfl) (fun _ _ _ h => h) (Or.inl ⟨by rfl, ?_⟩) (by assumption) ?_
    rotate_left
    · (intro w hSw; (try dsimp only at hSw); go_simp; try (with_reducible rfl))
    (try simp only [Act.put, List.setIfInBounds_toArray, List.set_cons_zero, List.set_cons_succ, List.getElem_toArray, List.getElem_cons_succ, List.getElem_cons_zero])
    refine wpAnyH_take (i := 10) (v := ?_) rfl (by kernel_rfl) (by kernel_rfl) (by kernel_rfl) (fun _ _ _ h => h) (Or.inl ⟨by rfl, ?_⟩) (by assumption) ?_
    rotate_left
    · (intro w hSw; (try dsimp only at hSw); go_simp; try (with_reducible rfl))
    (try simp only [Act.put, List.setIfInBounds_toArray, List.set_cons_zero, List.set_cons_succ, List.getElem_toArray, List.getElem_cons_succ, List.getElem_cons_zero])
    refine wpAnyH_done (by kernel_rfl) ?_ _
    (try simp only [Act.put, List.setIfInBounds_toArray, List.set_cons_zero, List.set_cons_succ, List.getElem_toArray, List.getElem_cons_succ, List.getElem_cons_zero])
    go_wp2_with fail
    go_ret2
    exact ⟨ret_iih HV.out.symm HE.out.symm, B1.trans (BC.mono B1.size)⟩
  · have HV : Hid (vHits S u x = 0) := Lib.hid (by unfold vHits; rw [if_neg hz])
    have hzn : (eWords S [u, x] != 0) = true := by simpa using hz
    clear hz
    go_enter Try.func46, Try.ntmps46
    go_wp2_with fail
    rw [← HW.out]
    refine (wordsError_n ao S cap hn _ [u, x] 2 _ rfl (by omega) _ (hS.below B0') (ints_new2 W u x _ hWs.symm)).mono ?_
    rintro e w1 ⟨rfl, hb⟩
    go_wp2_with fail
    go_ret2
    exact ⟨ret_iih HV.out.symm rfl, B0'.trans (hb.mono B0'.size)⟩

end Go.Proofs.Ytecclcmndfaakaa
