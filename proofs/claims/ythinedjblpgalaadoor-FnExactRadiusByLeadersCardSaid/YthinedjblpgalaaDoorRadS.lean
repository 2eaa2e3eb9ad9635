/-
  The contract of the model of RadiusByLeaders. By an AI agent.
-/
import Derived.Test.YthinedjblpgalaaDoorLdsS
namespace Go.Proofs.YthinedjblpgalaaDoor
open Go.RowKit Cv
set_option linter.unusedVariables false
set_option linter.unusedSimpArgs false
set_option maxRecDepth 100000

set_option maxHeartbeats 2000000 in
theorem spec_RadiusByLeaders (ao : Option Addr) (S : List Int) (cap : Nat) (hn : S.length ≤ 4294967296) (ac : Option Addr) (C : List Int) (capc : Nat) (hnc : C.length ≤ 4294967296) (w : World) (hS : Ints w ao S) (hC : Ints w ac C) :
    Calls Tryd.prog 18 #[.agg #[.slice ao S.length cap], .slice ac C.length capc] w fun e w' => e = .returned (.tuple #[.int .i64 (vRad S C), .int .i64 (eLin S C)]) ∧ Below w.heap.size w w' := by
  have B0 : Below w.heap.size w (w.alloc (.cells #[.slice ao S.length cap] 28)) := by go_grown
  have c0 := cell_new w (.slice ao S.length cap) 28
  have l0 := lt_alloc w (.cells #[.slice ao S.length cap] 28)
  have h1 := l05Given_any ao S cap hn ac C capc hnc _ (hS.below B0) (hC.below B0)
  by_cases hz : eLin S C = 0
  · obtain ⟨hc0, hlb⟩ := eLin_zero hz
    obtain ⟨hP, hg⟩ := lin_gp hc0 hlb
    have hlen := code_len0 hc0
    have hpos := List.length_pos_of_mem hg.zero
    have hn8 := hP.sp.hi
    obtain ⟨N1, N2⟩ := nW_bd hP.sp
    have HV : Hid (vRad S C = wmTo S (ldsM S C (nW S).toNat) (ldsM S C (nW S).toNat).length) := Lib.hid (by unfold vRad; rw [if_pos hz])
    rw [hz] at h1
    have HSp := Lib.hid hP.sp
    have HZ := Lib.hid hz
    have H1 := Lib.hid h1
    have hle := ldsM_len S C (nW S).toNat
    have hwd := fun y hy => ldsM_wd hP hg (nW S).toNat y hy
    have hlp := ldsM_pos (S := S) (C := C) (show 1 ≤ (nW S).toNat by omega)
    obtain ⟨b, o, rfl, hbl, hc⟩ := hC.at hpos
    have hA := fun (W : World) (h1 : Ints W ao S) (h2 : Ints W (some ⟨b, o, none⟩) C) => l05Leaders_any ao S cap hP ⟨b, o, none⟩ C capc hg hlen W h1 h2
    obtain ⟨L, hL⟩ : ∃ L, L = ldsM S C (nW S).toNat := ⟨_, rfl⟩
    rw [← hL] at HV hle hwd hlp hA
    have HA := Lib.hid hA
    have HLb : Hid (∀ i, i < L.length → 0 ≤ gi L i ∧ gi L i ≤ 9223372036854775807) := Lib.hid fun i hi => by have := hwd _ (gi_mem hi); unfold Wd at this; omega
    clear hz h1 hc0 hlb hP hg hc hA hL hwd
    go_enter Tryd.func18, Tryd.ntmps18
    go_wp2_with fail
    refine H1.out.mono ?_
    rintro e w1 ⟨rfl, hb⟩
    have c1 := kept_cell hb c0 l0
    have l1 := lt_of_below hb l0
    have B1 := B0.trans (hb.mono B0.size)
    clear hb c0 l0 B0
    go_wp2_with fail
    refine (HA.out w1 (hS.below B1) (hC.below B1)).mono ?_
    rintro e w2 ⟨g, c, rfl, own, hb2⟩
    have c2 := kept_cell hb2 c1 l1
    have l2 := lt_of_below hb2 l1
    have B2 := B1.trans (hb2.mono B1.size)
    have hcell : Hid (∀ i, i < L.length → w2.cell? ⟨g, i, none⟩ = some (.int .i64 (gi L i))) := Lib.hid fun i hi => own.cell hi
    have hgl := own.base_le.2
    have s2 := B2.size
    clear hb2 c1 l1 B1 own HA
    go_wp2_with fail
    go_loopw [8, 21] (fun m i wr => ∃ k : Nat, k ≤ L.length ∧ i = .int .i64 k ∧ m = .int .i64 (wmTo S L k) ∧ Below w2.heap.size w2 wr) (fun _ i _ => L.length - (intOf i).toNat)
    case atStart => exact ⟨0, Nat.zero_le _, rfl, rfl, Below.refl _ _⟩
    case round =>
      obtain ⟨k, hk, rfl, rfl, BW⟩ := hrel
      have B := B2.trans (BW.mono s2)
      have hwm := wmTo_bd S L k
      by_cases hlt : k < L.length
      · have hck := kept_cell BW (hcell.out k hlt) hgl
        have cS := kept_cell BW c2 l2
        have ls := lt_of_below BW l2
        have lg := lt_of_below BW hgl
        obtain ⟨y1, y2⟩ := HLb.out k hlt
        have HD : Hid (wmTo S L (k + 1) = max (wmTo S L k) (dist S 0 (gi L k))) := Lib.hid (by rw [wmTo]; split <;> omega)
        have i1 : (0 : Int) ≤ (k : Int) := by omega
        have i2 : (k : Int) < (L.length : Int) := by omega
        go_wp2_with fail
        refine wp_region_held_drew (S := fun w' => w'.cell? ⟨w.heap.size, 0, none⟩ = some (.slice ao S.length cap) ∧ w'.cell? ⟨g, k, none⟩ = some (.int .i64 (gi L k))) (by kernel_rfl) ⟨cS, hck⟩ (fun hHeld => ?_)
        refine wpAnyH_take (i := 0) (v := .int .i64 (wmTo S L k)) rfl (by kernel_rfl) (by kernel_rfl) (by kernel_rfl) (fun _ _ _ h => h) (Or.inl ⟨by rfl, ?_⟩) (by assumption) ?_
        · (intro W1 hSw; go_simp)
        (try simp only [Act.put, List.setIfInBounds_toArray, List.set_cons_zero, List.set_cons_succ])
        refine wpAnyH_take (i := 1) (v := .agg #[.slice ao S.length cap]) rfl (by kernel_rfl) (by kernel_rfl) (by kernel_rfl) (fun _ _ _ h => h) (Or.inl ⟨by rfl, ?_⟩) (by assumption) ?_
        · (intro W1 hSw; obtain ⟨h1, h2⟩ := hSw; (try dsimp only at h1 h2); go_simp)
        (try simp only [Act.put, List.setIfInBounds_toArray, List.set_cons_zero, List.set_cons_succ])
        refine wpAnyH_take (i := 2) (v := .slice (some ⟨g, 0, none⟩) L.length c) rfl (by kernel_rfl) (by kernel_rfl) (by kernel_rfl) (fun _ _ _ h => h) (Or.inl ⟨by rfl, ?_⟩) (by assumption) ?_
        · (intro W1 hSw; go_simp)
        (try simp only [Act.put, List.setIfInBounds_toArray, List.set_cons_zero, List.set_cons_succ])
        refine wpAnyH_take (i := 3) (v := .int .i64 (k : Int)) rfl (by kernel_rfl) (by kernel_rfl) (by kernel_rfl) (fun _ _ _ h => h) (Or.inl ⟨by rfl, ?_⟩) (by assumption) ?_
        · (intro W1 hSw; go_simp)
        (try simp only [Act.put, List.setIfInBounds_toArray, List.set_cons_zero, List.set_cons_succ])
        refine wpAnyH_take (i := 4) (v := .pointer (some ⟨g, k, none⟩)) rfl (by kernel_rfl) (by kernel_rfl) (by kernel_rfl) (fun _ _ _ h => h) (Or.inl ⟨by rfl, ?_⟩) (by assumption) ?_
        · (intro W1 hSw; go_simp)
        (try simp only [Act.put, List.setIfInBounds_toArray, List.set_cons_zero, List.set_cons_succ])
        refine wpAnyH_take (i := 5) (v := .int .i64 (gi L k)) rfl (by kernel_rfl) (by kernel_rfl) (by kernel_rfl) (fun _ _ _ h => h) (Or.inl ⟨by rfl, ?_⟩) (by assumption) ?_
        · (intro W1 hSw; obtain ⟨h1, h2⟩ := hSw; (try dsimp only at h1 h2); go_simp)
        (try simp only [Act.put, List.setIfInBounds_toArray, List.set_cons_zero, List.set_cons_succ])
        refine wpAnyH_ready (rs := [6]) (by kernel_rfl) (by simp) ?_
        refine AllReadyH.cons rfl (fun K hK => ?_) AllReadyH.nil
        go_simp
        (go_at_call 32; refine (l01Distance_any ao S cap hn8 HSp.out.bd 0 (gi L k) (by omega) (by omega) y1 y2 _ (hS.below B.drew)).mono ?_)
        rintro e w4 ⟨rfl, hb4'⟩
        have hb4 : Below wr.heap.size wr w4 := (Below.refl _ wr).drew.trans hb4'
        have k1 := kept_cell hb4 cS ls
        have k2 := kept_cell hb4 hck lg
        have B4 := B.trans (hb4.mono B.size)
        have BW4 := BW.trans (hb4.mono BW.size)
        refine hK.out _ _ (⟨k1, k2⟩) (fun hHeld => ?_)
        clear hK K
        (try simp only [Act.put, List.setIfInBounds_toArray, List.set_cons_zero, List.set_cons_succ])
        refine wpAnyH_take (i := 7) (v := .int .i64 (max (wmTo S L k) (dist S 0 (gi L k)))) rfl (by kernel_rfl) (by kernel_rfl) (by kernel_rfl) (fun _ _ _ h => h) (Or.inl ⟨by rfl, ?_⟩) (by assumption) ?_
        · (intro W1 hSw; go_simp)
        (try simp only [Act.put, List.setIfInBounds_toArray, List.set_cons_zero, List.set_cons_succ])
        refine wpAnyH_take (i := 8) (v := ?_) rfl (by kernel_rfl) (by kernel_rfl) (by kernel_rfl) (fun _ _ _ h => h) (Or.inl ⟨by rfl, ?_⟩) (by assumption) ?_
        rotate_left
        · (intro W1 hSw; go_simp; try (with_reducible rfl))
        (try simp only [Act.put, List.setIfInBounds_toArray, List.set_cons_zero, List.set_cons_succ])
        refine wpAnyH_done (by kernel_rfl) ?_ _
        (try simp only [List.getElem_toArray, List.getElem_cons_succ, List.getElem_cons_zero, Act.put, List.setIfInBounds_toArray, List.set_cons_zero, List.set_cons_succ])
        go_wp2_with fail
        go_roundw
        case rel => exact ⟨k + 1, by omega, by go_num, by rw [HD.out], BW4⟩
        case measure => simp [intOf]; omega
      · have ek : Hid (k = L.length) := Lib.hid (by omega)
        go_wp2_with fail
        go_ret2
        exact ⟨by rw [HZ.out, HV.out, ← ek.out]; rfl, B⟩
  · have hzn : (eLin S C != 0) = true := by simpa using hz
    have HV : Hid (vRad S C = 0) := Lib.hid (by unfold vRad; rw [if_neg hz])
    clear hz
    go_enter Tryd.func18, Tryd.ntmps18
    go_wp2_with fail
    refine h1.mono ?_
    rintro e w1 ⟨rfl, hb⟩
    go_wp2_with fail
    go_ret2
    exact ⟨by rw [HV.out]; rfl, B0.trans (hb.mono B0.size)⟩

end Go.Proofs.YthinedjblpgalaaDoor
