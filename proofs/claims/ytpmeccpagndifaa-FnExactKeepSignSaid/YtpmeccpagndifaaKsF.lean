/-
  The contract of the program's KeepSign. By an AI agent.
-/
import Derived.Test.YtpmeccpagndifaaTkI
import Derived.Test.YtpmeccpagndifaaMath28
import Derived.Test.YtpmeccpagndifaaClone
import Derived.Test.YtpmeccpagndifaaDel
namespace Go.Proofs.Ytpmeccpagndifaa
open Go.RowKit Go.Shelf Cv
set_option linter.unusedVariables false
set_option linter.unusedSimpArgs false
set_option maxRecDepth 100000

set_option maxHeartbeats 2000000 in
theorem keepSign_fun (sb : Nat) (ao : Option Addr) (S : List Int) (cap : Nat) (hSp : Sp S) (k : Nat) (hk : k < S.length) (d : Int) (L : List Int) (hL : ∀ x, x ∈ L → 0 ≤ x ∧ x ≤ 9223372036854775807) (n : Nat) (w : World) (hsb : sb + 2 < n) (hn : n ≤ w.heap.size) (cS : w.cell? ⟨sb, 0, none⟩ = some (.slice ao S.length cap)) (cI : w.cell? ⟨sb + 1, 0, none⟩ = some (.int .i64 (k : Int))) (cD : w.cell? ⟨sb + 2, 0, none⟩ = some (.int .i64 d)) (hS : Ints w ao S) (hSn : ∀ W, Below n w W → Ints W ao S) :
    PredN 67 #[] #[.pointer (some ⟨sb, 0, none⟩), .pointer (some ⟨sb + 1, 0, none⟩), .pointer (some ⟨sb + 2, 0, none⟩)] (fun x => dig S x k != d) n w L := by
  intro W x hb hx
  obtain ⟨x1, x2⟩ := hL x hx
  have c1 := kept_cell hb cS (by omega)
  have c2 := kept_cell hb cI (by omega)
  have c3 := kept_cell hb cD (by omega)
  have hSW := hSn W hb
  have sW := hb.size
  have hlo := hSp.lo
  have hhi := hSp.hi
  have hk9 : (k : Int) < (S.length : Int) := by omega
  have HSp := Lib.hid hSp
  clear cS cI cD hS hSn hb hSp
  show Calls Try.prog 67 #[.int .i64 x, .pointer (some ⟨sb, 0, none⟩), .pointer (some ⟨sb + 1, 0, none⟩), .pointer (some ⟨sb + 2, 0, none⟩)] W _
  go_enter Try.func67, Try.ntmps67
  go_wp2_with fail
  refine wp_region_held_drew (S := fun w' => w'.cell? ⟨sb, 0, none⟩ = some (.slice ao S.length cap) ∧ w'.cell? ⟨sb + 1, 0, none⟩ = some (.int .i64 (k : Int)) ∧ w'.cell? ⟨sb + 2, 0, none⟩ = some (.int .i64 d)) (by kernel_rfl) ⟨c1, c2, c3⟩ (fun hHeld => ?_)
  refine wpAnyH_take (i := 0) (v := ?_) rfl (by kernel_rfl) (by kernel_rfl) (by kernel_rfl) (fun _ _ _ h => h) (Or.inl ⟨by rfl, ?_⟩) (by assumption) ?_
  rotate_left
  · (intro w hSw; (try dsimp only at hSw); go_simp; try (with_reducible rfl))
  (try simp only [Act.put, List.setIfInBounds_toArray, List.set_cons_zero, List.set_cons_succ])
  refine wpAnyH_take (i := 1) (v := ?_) rfl (by kernel_rfl) (by kernel_rfl) (by kernel_rfl) (fun _ _ _ h => h) (Or.inl ⟨by rfl, ?_⟩) (by assumption) ?_
  rotate_left
  · (intro w hSw; (try dsimp only at hSw); go_simp; try (with_reducible rfl))
  (try simp only [Act.put, List.setIfInBounds_toArray, List.set_cons_zero, List.set_cons_succ])
  refine wpAnyH_take (i := 6) (v := .int .i64 (k : Int)) rfl (by kernel_rfl) (by kernel_rfl) (by kernel_rfl) (fun _ _ _ h => h) (Or.inl ⟨by rfl, ?_⟩) (by assumption) ?_
  · (intro W1 hSw; obtain ⟨_, h2, _⟩ := hSw; (try dsimp only at h2); go_simp)
  (try simp only [Act.put, List.setIfInBounds_toArray, List.set_cons_zero, List.set_cons_succ])
  refine wpAnyH_take (i := 9) (v := .int .i64 d) rfl (by kernel_rfl) (by kernel_rfl) (by kernel_rfl) (fun _ _ _ h => h) (Or.inl ⟨by rfl, ?_⟩) (by assumption) ?_
  · (intro W1 hSw; obtain ⟨_, _, h3⟩ := hSw; (try dsimp only at h3); go_simp)
  (try simp only [Act.put, List.setIfInBounds_toArray, List.set_cons_zero, List.set_cons_succ])
  refine wpAnyH_ready (rs := [2]) (by kernel_rfl) (by simp) ?_
  refine AllReadyH.cons rfl (fun K hK => ?_) AllReadyH.nil
  have h12 : Below W.heap.size W (W.drew.alloc (.cells #[.int .i64 x] 2)) := (Below.refl _ W).drew.alloc (Nat.le_refl _) _
  go_simp
  refine hK.out _ _ (⟨kept_cell h12 c1 (by omega), kept_cell h12 c2 (by omega), kept_cell h12 c3 (by omega)⟩) (fun hHeld => ?_)
  clear hK K
  (try simp only [Act.put, List.setIfInBounds_toArray, List.set_cons_zero, List.set_cons_succ])
  refine wpAnyH_ready (rs := [3]) (by kernel_rfl) (by simp) ?_
  refine AllReadyH.cons rfl (fun K hK => ?_) AllReadyH.nil
  go_simp
  (go_at_call 68; refine (digitParts_n ao S cap hlo hhi HSp.out.bd _ [x] 1 _ rfl (by omega) (by intro i hi; match i, hi with | 0, _ => exact ⟨x1, x2⟩) _ (hSW.below h12) (ints_new1 _ x _ rfl)).mono ?_)
  rintro e w3 ⟨P, g, U, rfl, hp, hb3⟩
  have h13 := h12.trans (hb3.mono h12.size)
  have hrow := hp.row 0 (by simp)
  rw [Nat.zero_mul] at hrow
  have hcu := hp.own.cell (k := k) (by rw [hp.len]; simp; omega)
  have hdg := hp.dg 0 k (by simp) hk
  rw [Nat.zero_mul, Nat.zero_add] at hdg
  rw [hdg] at hcu
  have e0 : gi [x] 0 = x := rfl
  rw [e0] at hcu
  clear hp hdg e0 hb3
  refine hK.out _ _ (⟨kept_cell h13 c1 (by omega), kept_cell h13 c2 (by omega), kept_cell h13 c3 (by omega)⟩) (fun hHeld => ?_)
  clear hK K
  (try simp only [Act.put, List.setIfInBounds_toArray, List.set_cons_zero, List.set_cons_succ])
  refine wpAnyH_take (i := 4) (v := .pointer (some ⟨P, 0, none⟩)) rfl (by kernel_rfl) (by kernel_rfl) (by kernel_rfl) (fun _ _ _ h => h) (Or.inl ⟨by rfl, ?_⟩) (by assumption) ?_
  · (intro W1 hSw; go_simp)
  (try simp only [Act.put, List.setIfInBounds_toArray, List.set_cons_zero, List.set_cons_succ])
  refine wpAnyH_ready (rs := [5]) (by kernel_rfl) (by simp) ?_
  refine AllReadyH.cons rfl (fun K hK => ?_) AllReadyH.nil
  go_simp
  refine hK.out _ _ (⟨kept_cell h13 c1 (by omega), kept_cell h13 c2 (by omega), kept_cell h13 c3 (by omega)⟩) (fun hHeld => ?_)
  clear hK K
  (try simp only [Act.put, List.setIfInBounds_toArray, List.set_cons_zero, List.set_cons_succ])
  refine wpAnyH_take (i := 7) (v := .pointer (some ⟨g, k, none⟩)) rfl (by kernel_rfl) (by kernel_rfl) (by kernel_rfl) (fun _ _ _ h => h) (Or.inl ⟨by rfl, ?_⟩) (by assumption) ?_
  · (intro W1 hSw; go_simp)
  (try simp only [Act.put, List.setIfInBounds_toArray, List.set_cons_zero, List.set_cons_succ])
  refine wpAnyH_ready (rs := [8]) (by kernel_rfl) (by simp) ?_
  refine AllReadyH.cons rfl (fun K hK => ?_) AllReadyH.nil
  go_simp
  refine hK.out _ _ (⟨kept_cell h13 c1 (by omega), kept_cell h13 c2 (by omega), kept_cell h13 c3 (by omega)⟩) (fun hHeld => ?_)
  clear hK K
  (try simp only [Act.put, List.setIfInBounds_toArray, List.set_cons_zero, List.set_cons_succ])
  refine wpAnyH_take (i := 10) (v := .bool (dig S x k != d)) rfl (by kernel_rfl) (by kernel_rfl) (by kernel_rfl) (fun _ _ _ h => h) (Or.inl ⟨by rfl, ?_⟩) (by assumption) ?_
  · (intro W1 hSw; go_simp)
  (try simp only [Act.put, List.setIfInBounds_toArray, List.set_cons_zero, List.set_cons_succ])
  refine wpAnyH_take (i := 11) (v := ?_) rfl (by kernel_rfl) (by kernel_rfl) (by kernel_rfl) (fun _ _ _ h => h) (Or.inl ⟨by rfl, ?_⟩) (by assumption) ?_
  rotate_left
  · (intro w hSw; (try dsimp only at hSw); go_simp; try (with_reducible rfl))
  (try simp only [Act.put, List.setIfInBounds_toArray, List.set_cons_zero, List.set_cons_succ])
  refine wpAnyH_done (by kernel_rfl) ?_ _
  (try simp only [List.getElem_toArray, List.getElem_cons_succ, List.getElem_cons_zero, Act.put, List.setIfInBounds_toArray, List.set_cons_zero, List.set_cons_succ])
  go_wp2_with fail
  go_ret
  exact ⟨rfl, h13⟩

end Go.Proofs.Ytpmeccpagndifaa
