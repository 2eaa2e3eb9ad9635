/-
  The contracts of SplitSlip, both sides. By an AI agent.
-/
import Derived.Test.YtcbkmmadejbbpaaSpA
import Derived.Test.YtcbkmmadejbbpaaMm7
import Derived.Test.YtcbkmmadejbbpaaErr2
namespace Go.Proofs.Ytcbkmmadejbbpaa
open Go.RowKit Cv
set_option linter.unusedVariables false
set_option linter.unusedSimpArgs false
set_option maxRecDepth 100000

def spT (T : List Int) (k m : Nat) : List (List Int) := ((sgL (gi T k)).take m).map fun d => T.set k (pw d)
def spL (T : List Int) (k : Nat) : List (List Int) := (sgL (gi T k)).map fun d => T.set k (pw d)
theorem spT_all (T : List Int) (k m : Nat) (h : m = (sgL (gi T k)).length) : spT T k m = spL T k := by
  unfold spT spL; rw [List.take_of_length_le (by omega)]
theorem spT_succ (T : List Int) (k m : Nat) (h : m < (sgL (gi T k)).length) : spT T k (m + 1) = spT T k m ++ [T.set k (pw (gi (sgL (gi T k)) m))] := by
  unfold spT
  generalize sgL (gi T k) = L at h ⊢
  rw [List.take_add_one, List.map_append, List.getElem?_eq_getElem h]
  have e : gi L m = L[m] := by simp [gi, List.getD, List.getElem?_eq_getElem h]
  rw [e]; rfl
theorem spT_len (T : List Int) (k m : Nat) : (spT T k m).length ≤ 4 := by
  unfold spT
  rw [List.length_map, List.length_take]
  have := selL_len (bitI (gi T k)) 4
  unfold sgL; omega
def eSpl (S T : List Int) (i : Int) : Int := if eSls S [T] = 0 then (if 0 ≤ i ∧ i < S.length then 0 else 2) else eSls S [T]
def vSpl (S T : List Int) (i : Int) : List (List Int) := if eSpl S T i = 0 then spL T i.toNat else []
theorem eSpl_or (S T : List Int) (i : Int) : orI (eSls S [T]) (ePlc S [] i) = eSpl S T i := by
  unfold orI eSpl
  by_cases h : eSls S [T] = 0
  · rw [if_pos h, if_pos h]
    have hS := (eSls1 h).1
    unfold ePlc
    have h2 : eCode S [] = 0 := by
      have h3 : isSp S = true := (isSp_iff S).2 hS
      unfold eCode
      rw [if_pos h3, if_pos (by simp [codeB, okW, ascB])]
    rw [if_pos h2]
  · rw [if_neg h, if_neg h]
theorem eSpl_zero {S T : List Int} {i : Int} (h : eSpl S T i = 0) : eSls S [T] = 0 ∧ 0 ≤ i ∧ i < S.length := by
  unfold eSpl at h
  split at h
  · rename_i h1
    split at h
    · rename_i h2; exact ⟨h1, h2⟩
    · cases h
  · rename_i h1; exact absurd h h1
theorem vSpl_len (S T : List Int) (i : Int) : (vSpl S T i).length ≤ 4096 ∧ ∀ j, (rr (vSpl S T i) j).length ≤ 4096 := by
  unfold vSpl
  split
  · rename_i h
    obtain ⟨h1, _⟩ := eSpl_zero h
    obtain ⟨hSp, hSl⟩ := eSls1 h1
    have hl := hSl.len
    have hh := hSp.hi
    refine ⟨?_, fun j => ?_⟩
    · have := selL_len (bitI (gi T i.toNat)) 4
      unfold spL sgL; rw [List.length_map]; omega
    · unfold rr spL
      by_cases hj : j < (sgL (gi T i.toNat)).length
      · simp [List.getD, hj]; omega
      · simp [List.getD, List.getElem?_eq_none (Nat.le_of_not_lt hj)]
  · exact ⟨by simp, fun j => by simp [rr]⟩
theorem sgL_bdp (t : Int) : ∀ i, i < (sgL t).length → 0 ≤ gi (sgL t) i ∧ gi (sgL t) i ≤ 3 := fun i hi => by
  have hm : gi (sgL t) i ∈ sgL t := by
    simp only [gi, List.getD, List.getElem?_eq_getElem hi, Option.getD_some]
    exact List.getElem_mem hi
  obtain ⟨j, hj, _, e⟩ := (mem_selL (bitI t) 4 _).1 hm
  omega
theorem shl_pq {q : Int} (h : 0 ≤ q ∧ q ≤ 3) : IntKind.i64.wrap (1 * 2 ^ q.toNat) = pw q ∧ IntKind.i64.wrap (2 ^ q.toNat) = pw q ∧ IntKind.u64.wrap q = q ∧ IntKind.i64.wrap (2 ^ min q.toNat 64) = pw q ∧ wrap64 (2 ^ q.toNat) = pw q := by
  rcases (show q = 0 ∨ q = 1 ∨ q = 2 ∨ q = 3 by omega) with rfl | rfl | rfl | rfl <;> exact ⟨by decide, by decide, by decide, by decide, by unfold wrap64; decide⟩
theorem placeError_0 (ao : Option Addr) (S : List Int) (cap : Nat) (hn : S.length ≤ 4294967296) (i : Int) (w : World) (hS : Ints w ao S) :
    Calls Try.prog 91 #[.agg #[.slice ao S.length cap], .slice none 0 0, .int .i64 i] w fun e w' => e = .returned (.int .i64 (ePlc S [] i)) ∧ Below w.heap.size w w' :=
  placeError_any ao S cap hn none [] 0 (by simp) i w hS (.inl rfl)
theorem sl_bdp {S T : List Int} (h : Sl S T) {k : Nat} (hk : k < T.length) : 0 ≤ gi T k ∧ gi T k < 16 := by
  have := h.bd k (by have := h.len; omega)
  omega

set_option maxHeartbeats 2000000 in
theorem impl_SplitSlip (ao : Option Addr) (S : List Int) (cap : Nat) (hn : S.length ≤ 4294967296) (at' : Option Addr) (T : List Int) (capt : Nat) (hnt : T.length ≤ 4294967296) (i : Int) (hi : -9223372036854775808 ≤ i ∧ i ≤ 9223372036854775807) (w : World) (hS : Ints w ao S) (hT : Ints w at' T) :
    Calls Try.prog 37 #[.agg #[.slice ao S.length cap], .slice at' T.length capt, .int .i64 i] w fun e w' => ∃ v, e = .returned (.tuple #[v, .int .i64 (eSpl S T i)]) ∧ OwnRws w' w.heap.size w'.heap.size v (vSpl S T i) ∧ Below w.heap.size w w' := by
  obtain ⟨W, hW⟩ : ∃ W, W = w.alloc (.cells #[.slice ao S.length cap] 26) := ⟨_, rfl⟩
  have hWs : W.heap.size = w.heap.size + 1 := by rw [hW]; simp
  have B0 : Below w.heap.size w W := by rw [hW]; go_grown
  have c0 : W.cell? ⟨w.heap.size, 0, none⟩ = some (.slice ao S.length cap) := by rw [hW]; exact cell_new _ _ _
  have l0 : w.heap.size < W.heap.size := by omega
  have HW := Lib.hid hW
  have HO := Lib.hid (eSpl_or S T i)
  clear hW
  by_cases hz : eSpl S T i = 0
  case neg =>
    have HV : Hid (vSpl S T i = []) := Lib.hid (by unfold vSpl; rw [if_neg hz])
    have hzn : (eSpl S T i != 0) = true := by simpa using hz
    clear hz
    go_enter Try.func37, Try.ntmps37
    go_wp2_with fail
    rw [← HW.out]
    refine wp_region_held_drew (S := fun w' => w'.cell? ⟨w.heap.size, 0, none⟩ = some (.slice ao S.length cap)) (by kernel_rfl) c0 (fun hHeld => ?_)
    refine wpAnyH_take (i := 0) (v := ?_) rfl (by kernel_rfl) (by kernel_rfl) (by kernel_rfl) (fun _ _ _ h => h) (Or.inl ⟨by rfl, ?_⟩) (by assumption) ?_
    rotate_left
    · (intro w hSw; (try dsimp only at hSw); go_simp; try (with_reducible rfl))
    (try simp only [Act.put, List.setIfInBounds_toArray, List.set_cons_zero, List.set_cons_succ, List.getElem_toArray, List.getElem_cons_succ, List.getElem_cons_zero])
    refine wpAnyH_take (i := 1) (v := ?_) rfl (by kernel_rfl) (by kernel_rfl) (by kernel_rfl) (fun _ _ _ h => h) (Or.inl ⟨by rfl, ?_⟩) (by assumption) ?_
    rotate_left
    · (intro w hSw; (try dsimp only at hSw); go_simp; try (with_reducible rfl))
    (try simp only [Act.put, List.setIfInBounds_toArray, List.set_cons_zero, List.set_cons_succ, List.getElem_toArray, List.getElem_cons_succ, List.getElem_cons_zero])
    refine wpAnyH_take (i := 4) (v := ?_) rfl (by kernel_rfl) (by kernel_rfl) (by kernel_rfl) (fun _ _ _ h => h) (Or.inl ⟨by rfl, ?_⟩) (by assumption) ?_
    rotate_left
    · (intro w hSw; (try dsimp only at hSw); go_simp; try (with_reducible rfl))
    (try simp only [Act.put, List.setIfInBounds_toArray, List.set_cons_zero, List.set_cons_succ, List.getElem_toArray, List.getElem_cons_succ, List.getElem_cons_zero])
    refine wpAnyH_take (i := 5) (v := ?_) rfl (by kernel_rfl) (by kernel_rfl) (by kernel_rfl) (fun _ _ _ h => h) (Or.inl ⟨by rfl, ?_⟩) (by assumption) ?_
    rotate_left
    · (intro w hSw; (try dsimp only at hSw); go_simp; try (with_reducible rfl))
    (try simp only [Act.put, List.setIfInBounds_toArray, List.set_cons_zero, List.set_cons_succ, List.getElem_toArray, List.getElem_cons_succ, List.getElem_cons_zero])
    have BA : Below W.heap.size W (W.drew.alloc (.cells #[.slice at' T.length capt] 51)) := (Below.refl _ W).drew.alloc (Nat.le_refl _) _
    refine wpAnyH_ready (rs := [2]) (by kernel_rfl) (by simp) ?_
    refine AllReadyH.cons rfl (fun K hK => ?_) AllReadyH.nil
    go_simp
    refine hK.out _ _ (kept_cell BA c0 l0) (fun hHeld => ?_)
    clear hK K
    (try simp only [Act.put, List.setIfInBounds_toArray, List.set_cons_zero, List.set_cons_succ, List.getElem_toArray, List.getElem_cons_succ, List.getElem_cons_zero])
    refine wpAnyH_ready (rs := [3]) (by kernel_rfl) (by simp) ?_
    refine AllReadyH.cons rfl (fun K hK => ?_) AllReadyH.nil
    go_simp
    (go_at_call 90; refine (slipsError_any ao S cap hn _ [T] 1 1 rfl (by simp) _ (hS.below (B0.trans (BA.mono B0.size))) (slips_one (c := capt) hnt (hT.below B0.drew) 51 (by first | rfl | exact hWs.symm))).mono ?_)
    rintro e w2 ⟨rfl, hb2⟩
    have BB : Below W.heap.size W w2 := BA.trans (hb2.mono BA.size)
    refine hK.out _ _ (kept_cell BB c0 l0) (fun hHeld => ?_)
    clear hK K
    (try simp only [Act.put, List.setIfInBounds_toArray, List.set_cons_zero, List.set_cons_succ, List.getElem_toArray, List.getElem_cons_succ, List.getElem_cons_zero])
    refine wpAnyH_ready (rs := [6]) (by kernel_rfl) (by simp) ?_
    refine AllReadyH.cons rfl (fun K hK => ?_) AllReadyH.nil
    go_simp
    (go_at_call 91; refine (placeError_0 ao S cap hn i _ (hS.below (B0.trans (BB.mono B0.size)))).mono ?_)
    rintro e w3 ⟨rfl, hb3⟩
    have BC : Below W.heap.size W w3 := BB.trans (hb3.mono BB.size)
    refine hK.out _ _ (kept_cell BC c0 l0) (fun hHeld => ?_)
    clear hK K
    (try simp only [Act.put, List.setIfInBounds_toArray, List.set_cons_zero, List.set_cons_succ, List.getElem_toArray, List.getElem_cons_succ, List.getElem_cons_zero])
    have BD : Below W.heap.size W (w3.alloc (.cells #[.int .i64 (eSls S [T]), .int .i64 (ePlc S [] i)] 2)) := BC.alloc BC.size _
    refine wpAnyH_ready (rs := [7]) (by kernel_rfl) (by simp) ?_
    refine AllReadyH.cons rfl (fun K hK => ?_) AllReadyH.nil
    go_simp
    refine hK.out _ _ (kept_cell BD c0 l0) (fun hHeld => ?_)
    clear hK K
    (try simp only [Act.put, List.setIfInBounds_toArray, List.set_cons_zero, List.set_cons_succ, List.getElem_toArray, List.getElem_cons_succ, List.getElem_cons_zero])
    refine wpAnyH_ready (rs := [8]) (by kernel_rfl) (by simp) ?_
    refine AllReadyH.cons rfl (fun K hK => ?_) AllReadyH.nil
    go_simp
    (go_at_call 89; refine (cmpOr2 _ (eSls S [T]) (ePlc S [] i) _ _ (ints_new2 _ _ _ _ rfl)).mono ?_)
    rintro e w4 ⟨rfl, rfl⟩
    rw [HO.out]
    refine hK.out _ _ (kept_cell BD c0 l0) (fun hHeld => ?_)
    clear hK K
    (try simp only [Act.put, List.setIfInBounds_toArray, List.set_cons_zero, List.set_cons_succ, List.getElem_toArray, List.getElem_cons_succ, List.getElem_cons_zero])
    refine wpAnyH_take (i := 9) (v := ?_) rfl (by kernel_rfl) (by kernel_rfl) (by kernel_rfl) (fun _ _ _ h => h) (Or.inl ⟨by rfl, ?_⟩) (by assumption) ?_
    rotate_left
    · (intro w hSw; (try dsimp only at hSw); go_simp; try (with_reducible rfl))
    (try simp only [Act.put, List.setIfInBounds_toArray, List.set_cons_zero, List.set_cons_succ, List.getElem_toArray, List.getElem_cons_succ, List.getElem_cons_zero])
    refine wpAnyH_done (by kernel_rfl) ?_ _
    (try simp only [Act.put, List.setIfInBounds_toArray, List.set_cons_zero, List.set_cons_succ, List.getElem_toArray, List.getElem_cons_succ, List.getElem_cons_zero])
    have B1 : Below w.heap.size w (w3.alloc (.cells #[.int .i64 (eSls S [T]), .int .i64 (ePlc S [] i)] 2)) := B0.trans (BD.mono B0.size)
    obtain ⟨W1, hW1⟩ : ∃ W1, W1 = w3.alloc (.cells #[.int .i64 (eSls S [T]), .int .i64 (ePlc S [] i)] 2) := ⟨_, rfl⟩
    rw [← hW1] at B1 ⊢
    clear hW1 BD BC BB BA hb2 hb3 c0 l0
    go_wp2_with fail
    go_ret2
    exact ⟨_, rfl, by rw [HV.out]; exact OwnRws.nil _ _ _, B1⟩
  obtain ⟨hz1, i0, i1⟩ := eSpl_zero hz
  obtain ⟨hSp, hSl⟩ := eSls1 hz1
  have hTn := hSl.len
  have hhi := hSp.hi
  have hT8 : T.length ≤ 8 := by omega
  have HSl := Lib.hid hSl
  have HV : Hid (vSpl S T i = spL T i.toNat) := Lib.hid (by unfold vSpl; rw [if_pos hz])
  have HZ := Lib.hid hz
  have hzn : (eSpl S T i != 0) = false := by simp [hz]
  obtain ⟨k, rfl⟩ := Int.eq_ofNat_of_zero_le i0
  have hk : k < T.length := by omega
  rw [show ((k : Int)).toNat = k by simp] at HV
  obtain ⟨t0, t1⟩ := sl_bdp hSl hk
  obtain ⟨b, o, rfl, hbl, hc⟩ := hT.at hk
  have hck0 := hc k hk
  have i2 : (k : Int) < (T.length : Int) := by omega
  clear hz hz1 hSp hSl hc hTn
  go_enter Try.func37, Try.ntmps37
  go_wp2_with fail
  rw [← HW.out]
  refine wp_region_held_drew (S := fun w' => w'.cell? ⟨w.heap.size, 0, none⟩ = some (.slice ao S.length cap)) (by kernel_rfl) c0 (fun hHeld => ?_)
  refine wpAnyH_take (i := 0) (v := ?_) rfl (by kernel_rfl) (by kernel_rfl) (by kernel_rfl) (fun _ _ _ h => h) (Or.inl ⟨by rfl, ?_⟩) (by assumption) ?_
  rotate_left
  · (intro w hSw; (try dsimp only at hSw); go_simp; try (with_reducible rfl))
  (try simp only [Act.put, List.setIfInBounds_toArray, List.set_cons_zero, List.set_cons_succ, List.getElem_toArray, List.getElem_cons_succ, List.getElem_cons_zero])
  refine wpAnyH_take (i := 1) (v := ?_) rfl (by kernel_rfl) (by kernel_rfl) (by kernel_rfl) (fun _ _ _ h => h) (Or.inl ⟨by rfl, ?_⟩) (by assumption) ?_
  rotate_left
  · (intro w hSw; (try dsimp only at hSw); go_simp; try (with_reducible rfl))
  (try simp only [Act.put, List.setIfInBounds_toArray, List.set_cons_zero, List.set_cons_succ, List.getElem_toArray, List.getElem_cons_succ, List.getElem_cons_zero])
  refine wpAnyH_take (i := 4) (v := ?_) rfl (by kernel_rfl) (by kernel_rfl) (by kernel_rfl) (fun _ _ _ h => h) (Or.inl ⟨by rfl, ?_⟩) (by assumption) ?_
  rotate_left
  · (intro w hSw; (try dsimp only at hSw); go_simp; try (with_reducible rfl))
  (try simp only [Act.put, List.setIfInBounds_toArray, List.set_cons_zero, List.set_cons_succ, List.getElem_toArray, List.getElem_cons_succ, List.getElem_cons_zero])
  refine wpAnyH_take (i := 5) (v := ?_) rfl (by kernel_rfl) (by kernel_rfl) (by kernel_rfl) (fun _ _ _ h => h) (Or.inl ⟨by rfl, ?_⟩) (by assumption) ?_
  rotate_left
  · (intro w hSw; (try dsimp only at hSw); go_simp; try (with_reducible rfl))
  (try simp only [Act.put, List.setIfInBounds_toArray, List.set_cons_zero, List.set_cons_succ, List.getElem_toArray, List.getElem_cons_succ, List.getElem_cons_zero])
  have BA : Below W.heap.size W (W.drew.alloc (.cells #[.slice (some ⟨b, o, none⟩) T.length capt] 51)) := (Below.refl _ W).drew.alloc (Nat.le_refl _) _
  refine wpAnyH_ready (rs := [2]) (by kernel_rfl) (by simp) ?_
  refine AllReadyH.cons rfl (fun K hK => ?_) AllReadyH.nil
  go_simp
  refine hK.out _ _ (kept_cell BA c0 l0) (fun hHeld => ?_)
  clear hK K
  (try simp only [Act.put, List.setIfInBounds_toArray, List.set_cons_zero, List.set_cons_succ, List.getElem_toArray, List.getElem_cons_succ, List.getElem_cons_zero])
  refine wpAnyH_ready (rs := [3]) (by kernel_rfl) (by simp) ?_
  refine AllReadyH.cons rfl (fun K hK => ?_) AllReadyH.nil
  go_simp
  (go_at_call 90; refine (slipsError_any ao S cap hn _ [T] 1 1 rfl (by simp) _ (hS.below (B0.trans (BA.mono B0.size))) (slips_one (c := capt) hnt (hT.below B0.drew) 51 (by first | rfl | exact hWs.symm))).mono ?_)
  rintro e w2 ⟨rfl, hb2⟩
  have BB : Below W.heap.size W w2 := BA.trans (hb2.mono BA.size)
  refine hK.out _ _ (kept_cell BB c0 l0) (fun hHeld => ?_)
  clear hK K
  (try simp only [Act.put, List.setIfInBounds_toArray, List.set_cons_zero, List.set_cons_succ, List.getElem_toArray, List.getElem_cons_succ, List.getElem_cons_zero])
  refine wpAnyH_ready (rs := [6]) (by kernel_rfl) (by simp) ?_
  refine AllReadyH.cons rfl (fun K hK => ?_) AllReadyH.nil
  go_simp
  (go_at_call 91; refine (placeError_0 ao S cap hn (k : Int) _ (hS.below (B0.trans (BB.mono B0.size)))).mono ?_)
  rintro e w3 ⟨rfl, hb3⟩
  have BC : Below W.heap.size W w3 := BB.trans (hb3.mono BB.size)
  refine hK.out _ _ (kept_cell BC c0 l0) (fun hHeld => ?_)
  clear hK K
  (try simp only [Act.put, List.setIfInBounds_toArray, List.set_cons_zero, List.set_cons_succ, List.getElem_toArray, List.getElem_cons_succ, List.getElem_cons_zero])
  have BD : Below W.heap.size W (w3.alloc (.cells #[.int .i64 (eSls S [T]), .int .i64 (ePlc S [] (k : Int))] 2)) := BC.alloc BC.size _
  refine wpAnyH_ready (rs := [7]) (by kernel_rfl) (by simp) ?_
  refine AllReadyH.cons rfl (fun K hK => ?_) AllReadyH.nil
  go_simp
  refine hK.out _ _ (kept_cell BD c0 l0) (fun hHeld => ?_)
  clear hK K
  (try simp only [Act.put, List.setIfInBounds_toArray, List.set_cons_zero, List.set_cons_succ, List.getElem_toArray, List.getElem_cons_succ, List.getElem_cons_zero])
  refine wpAnyH_ready (rs := [8]) (by kernel_rfl) (by simp) ?_
  refine AllReadyH.cons rfl (fun K hK => ?_) AllReadyH.nil
  go_simp
  (go_at_call 89; refine (cmpOr2 _ (eSls S [T]) (ePlc S [] (k : Int)) _ _ (ints_new2 _ _ _ _ rfl)).mono ?_)
  rintro e w4 ⟨rfl, rfl⟩
  rw [HO.out]
  refine hK.out _ _ (kept_cell BD c0 l0) (fun hHeld => ?_)
  clear hK K
  (try simp only [Act.put, List.setIfInBounds_toArray, List.set_cons_zero, List.set_cons_succ, List.getElem_toArray, List.getElem_cons_succ, List.getElem_cons_zero])
  refine wpAnyH_take (i := 9) (v := ?_) rfl (by kernel_rfl) (by kernel_rfl) (by kernel_rfl) (fun _ _ _ h => h) (Or.inl ⟨by rfl, ?_⟩) (by assumption) ?_
  rotate_left
  · (intro w hSw; (try dsimp only at hSw); go_simp; try (with_reducible rfl))
  (try simp only [Act.put, List.setIfInBounds_toArray, List.set_cons_zero, List.set_cons_succ, List.getElem_toArray, List.getElem_cons_succ, List.getElem_cons_zero])
  refine wpAnyH_done (by kernel_rfl) ?_ _
  (try simp only [Act.put, List.setIfInBounds_toArray, List.set_cons_zero, List.set_cons_succ, List.getElem_toArray, List.getElem_cons_succ, List.getElem_cons_zero])
  have B1 : Below w.heap.size w (w3.alloc (.cells #[.int .i64 (eSls S [T]), .int .i64 (ePlc S [] (k : Int))] 2)) := B0.trans (BD.mono B0.size)
  obtain ⟨W1, hW1⟩ : ∃ W1, W1 = w3.alloc (.cells #[.int .i64 (eSls S [T]), .int .i64 (ePlc S [] (k : Int))] 2) := ⟨_, rfl⟩
  rw [← hW1] at B1 ⊢
  clear hW1 BD BC BB BA hb2 hb3 c0 l0
  have s1 := B1.size
  have hck1 := kept_cell (B1.alloc B1.size (.cells #[] 51)) hck0 hbl
  go_wp2_with fail
  refine (membersS_any (gi T k) t0 t1 _).mono ?_
  rintro e w5 ⟨v, rfl, own, hb⟩
  have hR0 := (OwnRws.empty W1 w.heap.size s1 rfl).below hb
  replace hR0 := hR0.top
  have B5 : Below w.heap.size w w5 := (B1.alloc B1.size _).trans (hb.mono (by simp; omega))
  have hdis : ∀ q, v.ownBlock = some q → q ≠ W1.heap.size := fun q hq => by have := (World.ownsRow.lt own q hq).1; simp at this; omega
  replace own := own.rebase (base' := w.heap.size) (by simp; omega)
  obtain ⟨av, cv, hv⟩ := own.shape
  subst hv
  have HLB := Lib.hid (sgL_bdp (gi T k))
  have HL4 : (sgL (gi T k)).length ≤ 4 := selL_len _ _
  have HSU := Lib.hid (spT_succ T k)
  have HAL := Lib.hid (spT_all T k)
  have hR00 : OwnRws w5 w.heap.size w5.heap.size (.slice (some ⟨W1.heap.size, 0, none⟩) 0 0) (spT T k 0) := hR0
  obtain ⟨L, hL⟩ : ∃ L, L = sgL (gi T k) := ⟨_, rfl⟩
  rw [← hL] at own HLB HL4 HSU HAL hdis ⊢
  have hd0 : (Value.slice av L.length cv).ownBlock = none ∨ (Value.slice av L.length cv).ownBlock ≠ (Value.slice (some ⟨W1.heap.size, 0, none⟩) 0 0).ownBlock := by
    cases hq : (Value.slice av L.length cv).ownBlock with
    | none => exact .inl rfl
    | some q => exact .inr fun e => hdis q hq (Option.some.inj e)
  clear hb hL hck1 hR0 hdis
  go_wp2_with fail
  go_loopw [9, 32] (fun z j wr => ∃ m : Nat, m ≤ L.length ∧ j = .int .i64 m ∧ OwnRws wr w.heap.size wr.heap.size z (spT T k m) ∧ OwnInts wr w.heap.size (.slice av L.length cv) L ∧ ((Value.slice av L.length cv).ownBlock = none ∨ (Value.slice av L.length cv).ownBlock ≠ z.ownBlock) ∧ Below w.heap.size w wr) (fun _ j _ => L.length - (intOf j).toNat)
  case atStart => exact ⟨0, Nat.zero_le _, rfl, hR00, own, hd0, B5⟩
  case round =>
    clear hR00 own hd0 B5
    obtain ⟨m, hm, rfl, hR, own, hd, B⟩ := hrel
    by_cases hlm : m < L.length
    · obtain ⟨b5, o5, hav, hb5, hc5⟩ := (own_ints own).at hlm
      have hcm := hc5 m hlm
      obtain ⟨d0, d1⟩ := HLB.out m hlm
      have HS1 := Lib.hid (HSU.out m hlm)
      have hRl := spT_len T k m
      have hs := B.size
      subst hav
      clear hc5
      go_wp2_with fail
      refine (clone_slip 0 T capt w.heap.size _ (by omega) hs ⟨b, o, none⟩ (hT.below B)).mono ?_
      rintro e w6 ⟨g6, c6, rfl, own6, hb6⟩
      have hg6 := own6.base_le
      have hcell := own6.cell (k := k) hk
      have hfree := own6.free k
      obtain ⟨d, hd'⟩ : ∃ d, d = gi L m := ⟨_, rfl⟩
      have HD := Lib.hid hd'
      rw [← hd'] at d0 d1 hcm ⊢
      have hcm6 := kept_cell hb6 hcm (Nat.lt_of_lt_of_le hb5 (Nat.le_refl _))
      have own7 := own6.stored k (pw d)
      have hb7 : Below wr.heap.size wr (w6.setCell ⟨g6, k, none⟩ (.int .i64 (pw d))) := hb6.setCell (by simp; omega) _
      have hR7 := hR.below hb7
      have ownL7 := own.below hb7
      have B7 := B.trans (hb7.mono B.size)
      have hcx : ((w6.setCell ⟨g6, k, none⟩ (.int .i64 (pw d))).alloc (.cells #[.slice (some ⟨g6, 0, none⟩) T.length c6] 51)).cell? ⟨w6.heap.size, 0, none⟩ = some (.slice (some ⟨g6, 0, none⟩) T.length c6) := by
        have h9 := cell_new (w6.setCell ⟨g6, k, none⟩ (.int .i64 (pw d))) (.slice (some ⟨g6, 0, none⟩) T.length c6) 51
        simpa using h9
      have HCX := Lib.hid hcx
      clear hd' hcm hb6 own6 hcx
      obtain ⟨e1, e2, e3, e4, e5⟩ := shl_pq ⟨d0, d1⟩
      go_wp2_with (at_builtin; clear e1 e2 e3 e4 e5; refine wpList_append_rw rfl _ _ rfl w.heap.size wr.heap.size _ (spT T k m) rfl (hR7.below ((Below.refl _ _).alloc (Nat.le_refl _) _)) w6.heap.size _ (T.set k (pw d)) ((own7.rebase (base' := w.heap.size) hs).alloc _) (fun q hq => by have h9 := (World.ownsRow.lt own7 q hq).1; exact h9) rfl HCX.out (by omega) (by simp; omega) ?_; intro v' w8 hR8 hgrow hnew)
      have hgb := (B7.alloc B7.size _).grown hgrow (by simp; omega) (fun q hq => (OwnRws.lo hR7) q hq)
      have ownL8 := World.ownsRow.kept (ownL7.alloc _) hgrow hd
      have hd8 : (Value.slice (some ⟨b5, o5, none⟩) L.length cv).ownBlock = none ∨ (Value.slice (some ⟨b5, o5, none⟩) L.length cv).ownBlock ≠ v'.ownBlock := by
        rcases hnew with e | e
        · rw [e]; exact hd
        · rw [e]
          refine .inr fun e9 => ?_
          have := World.ownsRow.lt ownL7 _ e9
          simp at this
          omega
      clear hgrow hnew hR7 ownL7 B7 own7 hb7 hR own hd hcell hfree hcm6
      go_wp2_with fail
      go_roundw
      case rel => exact ⟨m + 1, by omega, by go_num, by rw [HS1.out, ← HD.out]; exact hR8, ownL8, hd8, hgb⟩
      case measure => simp [intOf]; omega
    · have HE := Lib.hid (HAL.out m (by omega))
      go_wp2_with fail
      go_ret2
      exact ⟨_, by rw [HZ.out]; rfl, by rw [HV.out, ← HE.out]; exact hR, B⟩

end Go.Proofs.Ytcbkmmadejbbpaa
