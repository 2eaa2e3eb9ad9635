/-
  Texts put together: LdsT, Rad, RadS. By an AI agent.
-/
import Derived.Test.YtcnnijeokefboaaGreatDoorPk44
import Derived.Test.YtcnnijeokefboaaGreatDoorPkLdsI
import Derived.Test.YtcnnijeokefboaaGreatDoorPk36
import Derived.Deep.WholeRow
import Derived.Deep.RegionHeld3
namespace Go.Proofs.YtcnnijeokefboaaGreatDoor
open Go.RowKit Cv
set_option linter.unusedVariables false
set_option linter.unusedSimpArgs false
set_option maxRecDepth 100000

theorem spec_LeadersOf (ao : Option Addr) (S : List Int) (cap : Nat) (hn : S.length ≤ 4294967296) (ac : Option Addr) (C : List Int) (capc : Nat) (hnc : C.length ≤ 4294967296) (w : World) (hS : Ints w ao S) (hC : Ints w ac C) :
    Calls Tryz.prog 35 #[.agg #[.slice ao S.length cap], .slice ac C.length capc] w fun e w' => ∃ v, e = .returned (.tuple #[v, .int .i64 (eLin S C)]) ∧ OwnInts w' w.heap.size v (vLds S C) ∧ Below w.heap.size w w' := by
  have B0 : Below w.heap.size w (w.alloc (.cells #[.slice ao S.length cap] 26)) := by go_grown
  have c0 := cell_new w (.slice ao S.length cap) 26
  have l0 := lt_alloc w (.cells #[.slice ao S.length cap] 26)
  have h1 := l05Given_any ao S cap hn ac C capc hnc _ (hS.below B0) (hC.below B0)
  by_cases hz : eLin S C = 0
  · obtain ⟨hc0, hlb⟩ := eLin_zero hz
    obtain ⟨hP, hg⟩ := lin_gp hc0 hlb
    have hlen := code_len0 hc0
    have hpos := List.length_pos_of_mem hg.zero
    have HV : Hid (vLds S C = ldsM S C (nW S).toNat) := Lib.hid (by unfold vLds; rw [if_pos hz])
    rw [hz] at h1
    have HZ := Lib.hid hz
    have H1 := Lib.hid h1
    obtain ⟨b, o, rfl, hbl, hc⟩ := hC.at hpos
    have HA := Lib.hid (fun (W : World) (h1 : Ints W ao S) (h2 : Ints W (some ⟨b, o, none⟩) C) => l05Leaders_any ao S cap hP ⟨b, o, none⟩ C capc hg hlen W h1 h2)
    clear hz h1 hc0 hlb hP hg hc
    go_enter Tryz.func35, Tryz.ntmps35
    go_wp2_with fail
    refine H1.out.mono ?_
    rintro e w1 ⟨rfl, hb⟩
    have c1 := kept_cell hb c0 l0
    have B1 := B0.trans (hb.mono B0.size)
    clear hb c0 l0 B0
    go_wp2_with fail
    refine (HA.out w1 (hS.below B1) (hC.below B1)).mono ?_
    rintro e w2 ⟨g, c, rfl, own, hb2⟩
    go_wp2_with fail
    go_ret2
    exact ⟨_, by rw [HZ.out]; try rfl, by rw [HV.out]; exact own.rebase B1.size, B1.trans (hb2.mono B1.size)⟩
  · have hzn : (eLin S C != 0) = true := by simpa using hz
    have HV : Hid (vLds S C = []) := Lib.hid (by unfold vLds; rw [if_neg hz])
    clear hz
    go_enter Tryz.func35, Tryz.ntmps35
    go_wp2_with fail
    refine h1.mono ?_
    rintro e w1 ⟨rfl, hb⟩
    go_wp2_with fail
    go_ret2
    exact ⟨_, rfl, by rw [HV.out]; exact own_nil _ _, B0.trans (hb.mono B0.size)⟩

end Go.Proofs.YtcnnijeokefboaaGreatDoor

namespace Go.Proofs.YtcnnijeokefboaaGreatDoor
open Go.RowKit Go.Shelf Cv
set_option linter.unusedVariables false
set_option linter.unusedSimpArgs false
set_option maxRecDepth 100000

theorem max_any (al : Option Addr) (L : List Int) (cap : Nat) (h1 : 1 ≤ L.length) (hl : L.length ≤ 1048576) (hL : ∀ i, i < L.length → 0 ≤ gi L i ∧ gi L i ≤ 9223372036854775807) (w : World) (h : Ints w al L) :
    Calls Tryz.prog 132 #[.slice al L.length cap] w fun e w' => e = .returned (.int .i64 (mxTo L (L.length - 1))) ∧ w' = w := by
  obtain ⟨b, o, rfl, hbl, hc⟩ := h.at (show 0 < L.length by omega)
  have h0 := hc 0 (by omega)
  rw [Nat.add_zero] at h0
  have HC := Lib.hid hc
  have HL := Lib.hid hL
  have HB : Hid (∀ k, k < L.length → 0 ≤ mxTo L k ∧ mxTo L k ≤ 9223372036854775807) := Lib.hid fun k hk => mxTo_bd hL k hk
  have n1 : ¬ ((L.length : Int) < 1) := by omega
  clear hc hL h
  go_enter Tryz.func132, Tryz.ntmps132
  go_wp2_with fail
  go_loopw [3, 4] (fun m i wr => ∃ k : Nat, k < L.length ∧ i = .int .i64 ((k : Int) + 1) ∧ m = .int .i64 (mxTo L k) ∧ wr = w) (fun _ i _ => L.length + 1 - (intOf i).toNat)
  case atStart => exact ⟨0, by omega, rfl, rfl, rfl⟩
  case round =>
    obtain ⟨k, hk, rfl, rfl, rfl⟩ := hrel
    by_cases hlt : k + 1 < L.length
    · have hlI : (k : Int) + 1 < (L.length : Int) := by omega
      have hck := HC.out (k + 1) hlt
      have i1 : (0 : Int) ≤ (k : Int) + 1 := by omega
      have HS : Hid (mxTo L (k + 1) = max (mxTo L k) (gi L (k + 1))) := Lib.hid (by rw [mxTo]; split <;> omega)
      go_wp2_with fail
      go_roundw
      case rel => exact ⟨k + 1, hlt, by go_num, by rw [HS.out], trivial⟩
      case measure => simp [intOf]; omega
    · have ek : Hid (L.length - 1 = k) := Lib.hid (by omega)
      have hlI : ¬ (k : Int) + 1 < (L.length : Int) := by omega
      go_wp2_with fail
      go_ret
      exact ⟨by rw [ek.out]; rfl, rfl⟩

theorem boxr2 (w : World) (a b : Value) (t : TypeId) : ∃ W, W = w.alloc (.cells #[a, b] t) ∧ W.cell? ⟨w.heap.size, 0, none⟩ = some a ∧ W.cell? ⟨w.heap.size, 1, none⟩ = some b ∧ W.heap.size = w.heap.size + 1 ∧ Below w.heap.size w W := by
  have y0 : (w.alloc (.cells #[a, b] t)).cell? ⟨w.heap.size, 0, none⟩ = some a := by rw [cell_of_row _ w.heap.size 0 _ _ _ (heap_alloc_last w (.cells #[a, b] t))]; rfl
  have y1 : (w.alloc (.cells #[a, b] t)).cell? ⟨w.heap.size, 1, none⟩ = some b := by rw [cell_of_row _ w.heap.size 1 _ _ _ (heap_alloc_last w (.cells #[a, b] t))]; rfl
  exact ⟨_, rfl, y0, y1, World.size_alloc _ _, (Below.refl _ _).alloc (Nat.le_refl _) _⟩

set_option maxHeartbeats 2000000 in
theorem radiusL_any (ao : Option Addr) (S : List Int) (cap : Nat) (hP : Pl S) (ac : Option Addr) (C : List Int) (capc : Nat) (hg : Gp S C) (hl : C.length ≤ 1024) (w : World) (hS : Ints w ao S) (hCI : Ints w ac C) :
    Calls Tryz.prog 90 #[.agg #[.slice ao S.length cap, .slice ac C.length capc]] w fun e w' => e = .returned (.int .i64 (wmTo S (ldsM S C (nW S).toNat) (ldsM S C (nW S).toNat).length)) ∧ Below w.heap.size w w' := by
  obtain ⟨N1, N2⟩ := nW_bd hP.sp
  have HSp := Lib.hid hP.sp
  obtain ⟨W0, hW0, cS, cC, z0, B0⟩ := boxr2 w (.slice ao S.length cap) (.slice ac C.length capc) 64
  have HW0 := Lib.hid hW0
  have z0a : w.heap.size + 1 ≤ W0.heap.size := by omega
  have hpos := ldsM_pos (S := S) (C := C) (show 1 ≤ (nW S).toNat by omega)
  have hle := ldsM_len S C (nW S).toNat
  have hwd := fun y hy => ldsM_wd hP hg (nW S).toNat y hy
  have hlds := leaders_any ao S cap hP ac C capc hg hl W0.drew (hS.below B0.drew) (hCI.below B0.drew)
  have hmx := mx_wm S (ldsM S C (nW S).toNat) ((ldsM S C (nW S).toNat).length - 1) (by omega)
  obtain ⟨L, hL⟩ : ∃ L, L = ldsM S C (nW S).toNat := ⟨_, rfl⟩
  rw [← hL] at hpos hle hwd hlds hmx ⊢
  rw [show L.length - 1 + 1 = L.length by omega] at hmx
  have HLD := Lib.hid hlds
  have HWG : Hid (∀ (W : World) (g c : Nat), Ints W ao S → Ints W (some ⟨g, 0, none⟩) L → Calls Tryz.prog 119 #[.agg #[.slice ao S.length cap], .slice (some ⟨g, 0, none⟩) L.length c] W fun e w' => ∃ g, e = .returned (.slice (some ⟨g, 0, none⟩) L.length L.length) ∧ OwnInts w' W.heap.size (.slice (some ⟨g, 0, none⟩) L.length L.length) (L.map (dist S 0)) ∧ Below W.heap.size W w') := Lib.hid fun W g c h1 h2 =>
    weights_any ao S cap HSp.out (some ⟨g, 0, none⟩) L c (by omega) (fun x hx => by have := hwd x hx; unfold Wd at this; omega) W h1 h2
  have HMX : Hid (∀ (W : World) (g : Nat), Ints W (some ⟨g, 0, none⟩) (L.map (dist S 0)) → Calls Tryz.prog 132 #[.slice (some ⟨g, 0, none⟩) L.length L.length] W fun e w' => e = .returned (.int .i64 (wmTo S L L.length)) ∧ w' = W) := Lib.hid fun W g h => by
    have h1 := max_any (some ⟨g, 0, none⟩) (L.map (dist S 0)) L.length (by simpa using hpos) (by simp; omega) (fun i hi => by
      have hi2 : i < L.length := by simpa using hi
      have e : gi (L.map (dist S 0)) i = dist S 0 (gi L i) := by rw [gi_lt _ _ hi, gi_lt _ _ hi2]; simp
      have hb := dist_bd S 0 (gi L i)
      have := HSp.out.hi
      rw [e]; omega) W h
    rw [List.length_map, hmx] at h1; exact h1
  clear hW0 z0 hP hg hL hlds hmx hwd
  go_enter Tryz.func90, Tryz.ntmps90
  go_wp2_with fail
  rw [← HW0.out]
  refine wp_region_held_drew (S := fun w' => w'.cell? ⟨w.heap.size, 0, none⟩ = some (.slice ao S.length cap) ∧ w'.cell? ⟨w.heap.size, 1, none⟩ = some (.slice ac C.length capc)) (by kernel_rfl) ⟨cS, cC⟩ (fun hHeld => ?_)
  refine wpAnyH_take (i := 0) (v := ?_) rfl (by kernel_rfl) (by kernel_rfl) (by kernel_rfl) (fun _ _ _ h => h) (Or.inl ⟨by rfl, ?_⟩) (by assumption) ?_
  rotate_left
  · (intro w hSw; (try dsimp only at hSw); go_simp; try (with_reducible rfl))
  (try simp only [Act.put, List.setIfInBounds_toArray, List.set_cons_zero, List.set_cons_succ])
  refine wpAnyH_take (i := 1) (v := .agg #[.slice ao S.length cap]) rfl (by kernel_rfl) (by kernel_rfl) (by kernel_rfl) (fun _ _ _ h => h) (Or.inl ⟨by rfl, ?_⟩) (by assumption) ?_
  · (intro W1 hSw; obtain ⟨h1, h2⟩ := hSw; (try dsimp only at h1 h2); go_simp)
  (try simp only [Act.put, List.setIfInBounds_toArray, List.set_cons_zero, List.set_cons_succ])
  refine wpAnyH_take (i := 2) (v := .agg #[.slice ao S.length cap, .slice ac C.length capc]) rfl (by kernel_rfl) (by kernel_rfl) (by kernel_rfl) (fun _ _ _ h => h) (Or.inl ⟨by rfl, ?_⟩) (by assumption) ?_
  · (intro W1 hSw; obtain ⟨h1, h2⟩ := hSw; (try dsimp only at h1 h2); go_simp)
  (try simp only [Act.put, List.setIfInBounds_toArray, List.set_cons_zero, List.set_cons_succ])
  refine wpAnyH_ready (rs := [3]) (by kernel_rfl) (by simp) ?_
  refine AllReadyH.cons rfl (fun K hK => ?_) AllReadyH.nil
  go_simp
  (go_at_call 88; refine HLD.out.mono ?_)
  rintro e w3 ⟨g, c, rfl, own, hb3'⟩
  have hb3 : Below W0.heap.size W0 w3 := (Below.refl _ W0).drew.trans hb3'
  clear hb3'
  have cS3 := kept_cell hb3 cS (by omega)
  have cC3 := kept_cell hb3 cC (by omega)
  have B3 := B0.trans (hb3.mono (by omega))
  have s3 := hb3.size
  refine hK.out _ _ (⟨cS3, cC3⟩) (fun hHeld => ?_)
  clear hK K
  (try simp only [Act.put, List.setIfInBounds_toArray, List.set_cons_zero, List.set_cons_succ])
  refine wpAnyH_ready (rs := [4]) (by kernel_rfl) (by simp) ?_
  refine AllReadyH.cons rfl (fun K hK => ?_) AllReadyH.nil
  go_simp
  (go_at_call 119; refine (HWG.out w3 g c (hS.below B3) (own_ints own)).mono ?_)
  rintro e w4 ⟨g4, rfl, own4, hb4⟩
  have cS4 := kept_cell hb4 cS3 (by omega)
  have cC4 := kept_cell hb4 cC3 (by omega)
  have B4 := B3.trans (hb4.mono (by omega))
  refine hK.out _ _ (⟨cS4, cC4⟩) (fun hHeld => ?_)
  clear hK K
  (try simp only [Act.put, List.setIfInBounds_toArray, List.set_cons_zero, List.set_cons_succ])
  refine wpAnyH_ready (rs := [5]) (by kernel_rfl) (by simp) ?_
  refine AllReadyH.cons rfl (fun K hK => ?_) AllReadyH.nil
  go_simp
  (go_at_call 132; refine (HMX.out w4 g4 (own_ints own4)).mono ?_)
  rintro e w5 ⟨rfl, rfl⟩
  refine hK.out _ _ (⟨cS4, cC4⟩) (fun hHeld => ?_)
  clear hK K
  (try simp only [Act.put, List.setIfInBounds_toArray, List.set_cons_zero, List.set_cons_succ])
  refine wpAnyH_take (i := 6) (v := ?_) rfl (by kernel_rfl) (by kernel_rfl) (by kernel_rfl) (fun _ _ _ h => h) (Or.inl ⟨by rfl, ?_⟩) (by assumption) ?_
  rotate_left
  · (intro w hSw; (try dsimp only at hSw); go_simp; try (with_reducible rfl))
  (try simp only [Act.put, List.setIfInBounds_toArray, List.set_cons_zero, List.set_cons_succ])
  refine wpAnyH_done (by kernel_rfl) ?_ _
  (try simp only [List.getElem_toArray, List.getElem_cons_succ, List.getElem_cons_zero, Act.put, List.setIfInBounds_toArray, List.set_cons_zero, List.set_cons_succ])
  go_wp2_with fail
  go_ret
  exact ⟨rfl, B4⟩

theorem impl_RadiusByLeaders (ao : Option Addr) (S : List Int) (cap : Nat) (hn : S.length ≤ 4294967296) (ac : Option Addr) (C : List Int) (capc : Nat) (hnc : C.length ≤ 4294967296) (pv : Value) (w : World) (hG : Glob pv w) (hS : Ints w ao S) (hC : Ints w ac C) :
    Calls Tryz.prog 36 #[.agg #[.slice ao S.length cap], .slice ac C.length capc] w fun e w' => e = .returned (.tuple #[.int .i64 (vRad S C), .int .i64 (eLin S C)]) ∧ Below w.heap.size w w' := by
  have B0 : Below w.heap.size w (w.alloc (.cells #[.slice ao S.length cap] 26)) := by go_grown
  have c0 := cell_new w (.slice ao S.length cap) 26
  have hpos := hG.2
  have hG0 := hG.below B0 hpos
  by_cases hc0 : eCode S C = 0
  · cases hlb : linB S C with
    | true =>
      obtain ⟨hP, hg⟩ := lin_gp hc0 hlb
      have hlen := code_len0 hc0
      have HE : Hid (eLin S C = 0) := Lib.hid (by unfold eLin; rw [if_pos hc0, if_pos hlb])
      have HV : Hid (vRad S C = wmTo S (ldsM S C (nW S).toNat) (ldsM S C (nW S).toNat).length) := Lib.hid (by unfold vRad; rw [if_pos HE.out])
      have HA := Lib.hid (askLinear_yes ao S cap hn ac C capc hnc hc0 hlb 90 (enters_of Tryz.func90 (by kernel_rfl) rfl) #[] #[] (wmTo S (ldsM S C (nW S).toNat) (ldsM S C (nW S).toNat).length) _ (hS.below B0) (hC.below B0) (fun W hb => radiusL_any ao S cap hP ac C capc hg hlen W ((hS.below B0).below hb) ((hC.below B0).below hb)))
      clear hc0 hlb hP hg hlen hG0
      go_enter Tryz.func36, Tryz.ntmps36
      go_wp2_with fail
      refine HA.out.mono ?_
      rintro e w2 ⟨rfl, hb2⟩
      go_wp2_with fail
      go_ret2
      exact ⟨by rw [HE.out, HV.out]; rfl, B0.trans (hb2.mono B0.size)⟩
    | false =>
      have HE : Hid (eLin S C = 5) := Lib.hid (by unfold eLin; rw [if_pos hc0, if_neg (by rw [hlb]; decide)])
      have HV : Hid (vRad S C = 0) := Lib.hid (by unfold vRad; rw [if_neg (by rw [HE.out]; decide)])
      have HA := Lib.hid (askLinear_no ao S cap hn ac C capc hnc hc0 hlb 90 #[] #[] pv _ (hS.below B0) (hC.below B0) hG0)
      clear hc0 hlb hG0
      go_enter Tryz.func36, Tryz.ntmps36
      go_wp2_with fail
      refine HA.out.mono ?_
      rintro e w2 ⟨rfl, hb2⟩
      go_wp2_with fail
      go_ret2
      exact ⟨by rw [HE.out, HV.out]; rfl, B0.trans (hb2.mono B0.size)⟩
  · have HE : Hid (eLin S C = eCode S C) := Lib.hid (by unfold eLin; rw [if_neg hc0])
    have HV : Hid (vRad S C = 0) := Lib.hid (by unfold vRad; rw [if_neg (by rw [HE.out]; exact hc0)])
    have HA := Lib.hid (askLinear_err ao S cap hn ac C capc hnc hc0 90 #[] #[] _ (hS.below B0) (hC.below B0))
    clear hc0 hG0
    go_enter Tryz.func36, Tryz.ntmps36
    go_wp2_with fail
    refine HA.out.mono ?_
    rintro e w2 ⟨rfl, hb2⟩
    go_wp2_with fail
    go_ret2
    exact ⟨by rw [HE.out, HV.out]; rfl, B0.trans (hb2.mono B0.size)⟩

end Go.Proofs.YtcnnijeokefboaaGreatDoor

namespace Go.Proofs.YtcnnijeokefboaaGreatDoor
open Go.RowKit Cv
set_option linter.unusedVariables false
set_option linter.unusedSimpArgs false
set_option maxRecDepth 100000

set_option maxHeartbeats 2000000 in
theorem spec_RadiusByLeaders (ao : Option Addr) (S : List Int) (cap : Nat) (hn : S.length ≤ 4294967296) (ac : Option Addr) (C : List Int) (capc : Nat) (hnc : C.length ≤ 4294967296) (w : World) (hS : Ints w ao S) (hC : Ints w ac C) :
    Calls Tryz.prog 37 #[.agg #[.slice ao S.length cap], .slice ac C.length capc] w fun e w' => e = .returned (.tuple #[.int .i64 (vRad S C), .int .i64 (eLin S C)]) ∧ Below w.heap.size w w' := by
  have B0 : Below w.heap.size w (w.alloc (.cells #[.slice ao S.length cap] 26)) := by go_grown
  have c0 := cell_new w (.slice ao S.length cap) 26
  have l0 := lt_alloc w (.cells #[.slice ao S.length cap] 26)
  have h1 := l05Given_any ao S cap hn ac C capc hnc _ (hS.below B0) (hC.below B0)
  by_cases hz : eLin S C = 0
  · obtain ⟨hc0, hlb⟩ := eLin_zero hz
    obtain ⟨hP, hg⟩ := lin_gp hc0 hlb
    have hlen := code_len0 hc0
    have hpos := List.length_pos_of_mem hg.zero
    have hn8 := hP.sp.hi
    obtain ⟨N1, N2⟩ := nW_bd hP.sp
    have HV : Hid (vRad S C = wmTo S (ldsM S C (nW S).toNat) (ldsM S C (nW S).toNat).length) := Lib.hid (by unfold vRad; rw [if_pos hz])
    rw [hz] at h1
    have HSp := Lib.hid hP.sp
    have HZ := Lib.hid hz
    have H1 := Lib.hid h1
    have hle := ldsM_len S C (nW S).toNat
    have hwd := fun y hy => ldsM_wd hP hg (nW S).toNat y hy
    have hlp := ldsM_pos (S := S) (C := C) (show 1 ≤ (nW S).toNat by omega)
    obtain ⟨b, o, rfl, hbl, hc⟩ := hC.at hpos
    have hA := fun (W : World) (h1 : Ints W ao S) (h2 : Ints W (some ⟨b, o, none⟩) C) => l05Leaders_any ao S cap hP ⟨b, o, none⟩ C capc hg hlen W h1 h2
    obtain ⟨L, hL⟩ : ∃ L, L = ldsM S C (nW S).toNat := ⟨_, rfl⟩
    rw [← hL] at HV hle hwd hlp hA
    have HA := Lib.hid hA
    have HLb : Hid (∀ i, i < L.length → 0 ≤ gi L i ∧ gi L i ≤ 9223372036854775807) := Lib.hid fun i hi => by have := hwd _ (gi_mem hi); unfold Wd at this; omega
    clear hz h1 hc0 hlb hP hg hc hA hL hwd
    go_enter Tryz.func37, Tryz.ntmps37
    go_wp2_with fail
    refine H1.out.mono ?_
    rintro e w1 ⟨rfl, hb⟩
    have c1 := kept_cell hb c0 l0
    have l1 := lt_of_below hb l0
    have B1 := B0.trans (hb.mono B0.size)
    clear hb c0 l0 B0
    go_wp2_with fail
    refine (HA.out w1 (hS.below B1) (hC.below B1)).mono ?_
    rintro e w2 ⟨g, c, rfl, own, hb2⟩
    have c2 := kept_cell hb2 c1 l1
    have l2 := lt_of_below hb2 l1
    have B2 := B1.trans (hb2.mono B1.size)
    have hcell : Hid (∀ i, i < L.length → w2.cell? ⟨g, i, none⟩ = some (.int .i64 (gi L i))) := Lib.hid fun i hi => own.cell hi
    have hgl := own.base_le.2
    have s2 := B2.size
    clear hb2 c1 l1 B1 own HA
    go_wp2_with fail
    go_loopw [8, 21] (fun m i wr => ∃ k : Nat, k ≤ L.length ∧ i = .int .i64 k ∧ m = .int .i64 (wmTo S L k) ∧ Below w2.heap.size w2 wr) (fun _ i _ => L.length - (intOf i).toNat)
    case atStart => exact ⟨0, Nat.zero_le _, rfl, rfl, Below.refl _ _⟩
    case round =>
      obtain ⟨k, hk, rfl, rfl, BW⟩ := hrel
      have B := B2.trans (BW.mono s2)
      have hwm := wmTo_bd S L k
      by_cases hlt : k < L.length
      · have hck := kept_cell BW (hcell.out k hlt) hgl
        have cS := kept_cell BW c2 l2
        have ls := lt_of_below BW l2
        have lg := lt_of_below BW hgl
        obtain ⟨y1, y2⟩ := HLb.out k hlt
        have HD : Hid (wmTo S L (k + 1) = max (wmTo S L k) (dist S 0 (gi L k))) := Lib.hid (by rw [wmTo]; split <;> omega)
        have i1 : (0 : Int) ≤ (k : Int) := by omega
        have i2 : (k : Int) < (L.length : Int) := by omega
        go_wp2_with fail
        refine wp_region_held_drew (S := fun w' => w'.cell? ⟨w.heap.size, 0, none⟩ = some (.slice ao S.length cap) ∧ w'.cell? ⟨g, k, none⟩ = some (.int .i64 (gi L k))) (by kernel_rfl) ⟨cS, hck⟩ (fun hHeld => ?_)
        refine wpAnyH_take (i := 0) (v := .int .i64 (wmTo S L k)) rfl (by kernel_rfl) (by kernel_rfl) (by kernel_rfl) (fun _ _ _ h => h) (Or.inl ⟨by rfl, ?_⟩) (by assumption) ?_
        · (intro W1 hSw; go_simp)
        (try simp only [Act.put, List.setIfInBounds_toArray, List.set_cons_zero, List.set_cons_succ])
        refine wpAnyH_take (i := 1) (v := .agg #[.slice ao S.length cap]) rfl (by kernel_rfl) (by kernel_rfl) (by kernel_rfl) (fun _ _ _ h => h) (Or.inl ⟨by rfl, ?_⟩) (by assumption) ?_
        · (intro W1 hSw; obtain ⟨h1, h2⟩ := hSw; (try dsimp only at h1 h2); go_simp)
        (try simp only [Act.put, List.setIfInBounds_toArray, List.set_cons_zero, List.set_cons_succ])
        refine wpAnyH_take (i := 2) (v := .slice (some ⟨g, 0, none⟩) L.length c) rfl (by kernel_rfl) (by kernel_rfl) (by kernel_rfl) (fun _ _ _ h => h) (Or.inl ⟨by rfl, ?_⟩) (by assumption) ?_
        · (intro W1 hSw; go_simp)
        (try simp only [Act.put, List.setIfInBounds_toArray, List.set_cons_zero, List.set_cons_succ])
        refine wpAnyH_take (i := 3) (v := .int .i64 (k : Int)) rfl (by kernel_rfl) (by kernel_rfl) (by kernel_rfl) (fun _ _ _ h => h) (Or.inl ⟨by rfl, ?_⟩) (by assumption) ?_
        · (intro W1 hSw; go_simp)
        (try simp only [Act.put, List.setIfInBounds_toArray, List.set_cons_zero, List.set_cons_succ])
        refine wpAnyH_take (i := 4) (v := .pointer (some ⟨g, k, none⟩)) rfl (by kernel_rfl) (by kernel_rfl) (by kernel_rfl) (fun _ _ _ h => h) (Or.inl ⟨by rfl, ?_⟩) (by assumption) ?_
        · (intro W1 hSw; go_simp)
        (try simp only [Act.put, List.setIfInBounds_toArray, List.set_cons_zero, List.set_cons_succ])
        refine wpAnyH_take (i := 5) (v := .int .i64 (gi L k)) rfl (by kernel_rfl) (by kernel_rfl) (by kernel_rfl) (fun _ _ _ h => h) (Or.inl ⟨by rfl, ?_⟩) (by assumption) ?_
        · (intro W1 hSw; obtain ⟨h1, h2⟩ := hSw; (try dsimp only at h1 h2); go_simp)
        (try simp only [Act.put, List.setIfInBounds_toArray, List.set_cons_zero, List.set_cons_succ])
        refine wpAnyH_ready (rs := [6]) (by kernel_rfl) (by simp) ?_
        refine AllReadyH.cons rfl (fun K hK => ?_) AllReadyH.nil
        go_simp
        (go_at_call 91; refine (l01Distance_any ao S cap hn8 HSp.out.bd 0 (gi L k) (by omega) (by omega) y1 y2 _ (hS.below B.drew)).mono ?_)
        rintro e w4 ⟨rfl, hb4'⟩
        have hb4 : Below wr.heap.size wr w4 := (Below.refl _ wr).drew.trans hb4'
        have k1 := kept_cell hb4 cS ls
        have k2 := kept_cell hb4 hck lg
        have B4 := B.trans (hb4.mono B.size)
        have BW4 := BW.trans (hb4.mono BW.size)
        refine hK.out _ _ (⟨k1, k2⟩) (fun hHeld => ?_)
        clear hK K
        (try simp only [Act.put, List.setIfInBounds_toArray, List.set_cons_zero, List.set_cons_succ])
        refine wpAnyH_take (i := 7) (v := .int .i64 (max (wmTo S L k) (dist S 0 (gi L k)))) rfl (by kernel_rfl) (by kernel_rfl) (by kernel_rfl) (fun _ _ _ h => h) (Or.inl ⟨by rfl, ?_⟩) (by assumption) ?_
        · (intro W1 hSw; go_simp)
        (try simp only [Act.put, List.setIfInBounds_toArray, List.set_cons_zero, List.set_cons_succ])
        refine wpAnyH_take (i := 8) (v := ?_) rfl (by kernel_rfl) (by kernel_rfl) (by kernel_rfl) (fun _ _ _ h => h) (Or.inl ⟨by rfl, ?_⟩) (by assumption) ?_
        rotate_left
        · (intro W1 hSw; go_simp; try (with_reducible rfl))
        (try simp only [Act.put, List.setIfInBounds_toArray, List.set_cons_zero, List.set_cons_succ])
        refine wpAnyH_done (by kernel_rfl) ?_ _
        (try simp only [List.getElem_toArray, List.getElem_cons_succ, List.getElem_cons_zero, Act.put, List.setIfInBounds_toArray, List.set_cons_zero, List.set_cons_succ])
        go_wp2_with fail
        go_roundw
        case rel => exact ⟨k + 1, by omega, by go_num, by rw [HD.out], BW4⟩
        case measure => simp [intOf]; omega
      · have ek : Hid (k = L.length) := Lib.hid (by omega)
        go_wp2_with fail
        go_ret2
        exact ⟨by rw [HZ.out, HV.out, ← ek.out]; rfl, B⟩
  · have hzn : (eLin S C != 0) = true := by simpa using hz
    have HV : Hid (vRad S C = 0) := Lib.hid (by unfold vRad; rw [if_neg hz])
    clear hz
    go_enter Tryz.func37, Tryz.ntmps37
    go_wp2_with fail
    refine h1.mono ?_
    rintro e w1 ⟨rfl, hb⟩
    go_wp2_with fail
    go_ret2
    exact ⟨by rw [HV.out]; rfl, B0.trans (hb.mono B0.size)⟩

end Go.Proofs.YtcnnijeokefboaaGreatDoor
