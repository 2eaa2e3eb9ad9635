/-
  The contract of the model of NearestWord. By an AI agent.
-/
import Derived.Test.YtcnnijeokefboaaGreatDoorMathB
import Derived.Test.YtcnnijeokefboaaGreatDoorPkLinS
import Derived.Test.YtcnnijeokefboaaGreatDoorPk23
import Derived.Deep.RegionHeld3
namespace Go.Proofs.YtcnnijeokefboaaGreatDoor
open Go.RowKit Cv
set_option linter.unusedVariables false
set_option linter.unusedSimpArgs false
set_option maxRecDepth 100000

theorem l05Given_any (ao : Option Addr) (S : List Int) (cap : Nat) (hn : S.length ≤ 4294967296) (ac : Option Addr) (C : List Int) (capc : Nat) (hnc : C.length ≤ 4294967296) (w : World) (hS : Ints w ao S) (hC : Ints w ac C) :
    Calls Tryz.prog 73 #[.agg #[.slice ao S.length cap], .slice ac C.length capc] w fun e w' => e = .returned (.int .i64 (eLin S C)) ∧ Below w.heap.size w w' := by
  have B0 : Below w.heap.size w (w.alloc (.cells #[.slice ao S.length cap] 26)) := by go_grown
  have c0 := cell_new w (.slice ao S.length cap) 26
  have l0 := lt_alloc w (.cells #[.slice ao S.length cap] 26)
  have h1 := l01Given_any ao S cap hn ac C capc hnc _ (hS.below B0) (hC.below B0)
  by_cases hz : eCode S C = 0
  · rw [hz] at h1
    have H1 := Lib.hid h1
    have HL := Lib.hid (lin_same hz)
    cases hl : linB S C with
    | true =>
      have HE : Hid (eLin S C = 0) := Lib.hid (by unfold eLin; rw [if_pos hz, if_pos hl])
      have HZ := Lib.hid hz
      rw [hl] at HL
      clear hz h1 hl
      go_enter Tryz.func73, Tryz.ntmps73
      go_wp2_with fail
      refine H1.out.mono ?_
      rintro e w1 ⟨rfl, hb⟩
      have c1 := kept_cell hb c0 l0
      have B1 := B0.trans (hb.mono B0.size)
      clear hb c0 l0 B0
      go_wp2_with fail
      refine (l05Linear_any ao S cap hn ac C capc HZ.out _ (hS.below B1) (hC.below B1)).mono ?_
      rw [HL.out]
      rintro e w2 ⟨rfl, hb2⟩
      go_wp2_with fail
      go_ret
      exact ⟨ret_int HE.out.symm, B1.trans (hb2.mono B1.size)⟩
    | false =>
      have HE : Hid (eLin S C = 5) := Lib.hid (by unfold eLin; rw [if_pos hz, if_neg (by rw [hl]; decide)])
      have HZ := Lib.hid hz
      rw [hl] at HL
      clear hz h1 hl
      go_enter Tryz.func73, Tryz.ntmps73
      go_wp2_with fail
      refine H1.out.mono ?_
      rintro e w1 ⟨rfl, hb⟩
      have c1 := kept_cell hb c0 l0
      have B1 := B0.trans (hb.mono B0.size)
      clear hb c0 l0 B0
      go_wp2_with fail
      refine (l05Linear_any ao S cap hn ac C capc HZ.out _ (hS.below B1) (hC.below B1)).mono ?_
      rw [HL.out]
      rintro e w2 ⟨rfl, hb2⟩
      go_wp2_with fail
      go_ret
      exact ⟨ret_int HE.out.symm, B1.trans (hb2.mono B1.size)⟩
  · have HE : Hid (eLin S C = eCode S C) := Lib.hid (by unfold eLin; rw [if_neg hz])
    have hq : (eCode S C == 0) = false := by simpa using hz
    clear hz
    go_enter Tryz.func73, Tryz.ntmps73
    go_wp2_with fail
    refine h1.mono ?_
    rintro e w1 ⟨rfl, hb⟩
    go_wp2_with fail
    go_ret
    exact ⟨ret_int HE.out.symm, B0.trans (hb.mono B0.size)⟩

set_option maxHeartbeats 2000000 in
theorem l05Leader_any (ao : Option Addr) (S : List Int) (cap : Nat) (hSp : Sp S) (ac : Addr) (C : List Int) (capc : Nat) (hl1 : 1 ≤ C.length) (hl : C.length ≤ 1024) (hC : ∀ i, i < C.length → 0 ≤ gi C i ∧ gi C i ≤ 9223372036854775807) (x : Int) (hx : 0 ≤ x ∧ x ≤ 9223372036854775807) (w : World) (hS : Ints w ao S) (hCI : Ints w (some ac) C) :
    Calls Tryz.prog 86 #[.agg #[.slice ao S.length cap], .slice (some ac) C.length capc, .int .i64 x] w fun e w' => e = .returned (.int .i64 (ldr S C x)) ∧ Below w.heap.size w w' := by
  have N := nW_bd hSp
  have hn8 := hSp.hi
  have HSp := Lib.hid hSp
  have HM := Lib.hid (ldrM_same (S := S) (C := C) (by omega) x)
  have hpl := putTo_len [] (fun i => sumW S (gi C i) x) C.length
  simp only [List.length_nil, Nat.zero_add] at hpl
  have B0 : Below w.heap.size w (w.alloc (.cells #[.slice ao S.length cap] 26)) := by go_grown
  have c0 := cell_new w (.slice ao S.length cap) 26
  have l0 := lt_alloc w (.cells #[.slice ao S.length cap] 26)
  have hsh := shifted_any ao S cap hSp ac C capc hl hC x hx _ (hS.below B0) (hCI.below B0)
  have hmem : ∀ y, y ∈ putTo [] (fun i => sumW S (gi C i) x) C.length → 0 ≤ y ∧ y ≤ 9223372036854775807 := fun y hy => by
    rcases (mem_putTo _ _ _ _).1 hy with h | ⟨i, _, e⟩
    · simp at h
    · have := wd_sum hSp (gi C i) x; unfold Wd at this; rw [e]; show 0 ≤ sumW S (gi C i) x ∧ _; omega
  have hne : putTo [] (fun i => sumW S (gi C i) x) C.length ≠ [] := fun h => by
    have h2 := (mem_putTo [] (fun i => sumW S (gi C i) x) C.length (sumW S (gi C 0) x)).2 (.inr ⟨0, by omega, rfl⟩)
    rw [h] at h2; simp at h2
  obtain ⟨L, hL⟩ : ∃ L, L = putTo [] (fun i => sumW S (gi C i) x) C.length := ⟨_, rfl⟩
  rw [← hL] at HM hpl hsh hmem hne
  have hL1 : 1 ≤ L.length := List.length_pos_iff.2 hne
  have HLb : Hid (∀ i, i < L.length → 0 ≤ gi L i ∧ gi L i ≤ 9223372036854775807) := Lib.hid fun i hi => hmem _ (gi_mem hi)
  have HMb : Hid (∀ k, 0 ≤ ldrM S L k ∧ ldrM S L k ≤ 9223372036854775807) := Lib.hid fun k => by
    induction k with
    | zero => exact hmem _ (gi_mem (by omega))
    | succ k ih =>
      rw [ldrM]
      split
      · by_cases hk : k < L.length
        · exact hmem _ (gi_mem hk)
        · rw [gi_out _ _ (by omega)]; omega
      · exact ih
  have HSH := Lib.hid hsh
  have HNE := Lib.hid hne
  clear hSp hsh hmem hL hne
  go_enter Tryz.func86, Tryz.ntmps86
  go_wp2_with fail
  refine HSH.out.mono ?_
  rintro e w1 ⟨v, rfl, own, hb1⟩
  obtain ⟨g, c, hv, _⟩ := own_some own HNE.out
  have hown : OwnInts w1 (w.alloc (.cells #[.slice ao S.length cap] 26)).heap.size (.slice (some ⟨g, 0, none⟩) L.length c) L := by rw [← hv]; exact own
  have hcell : Hid (∀ i, i < L.length → w1.cell? ⟨g, i, none⟩ = some (.int .i64 (gi L i))) := Lib.hid fun i hi => hown.cell hi
  have hg : g < w1.heap.size := hown.base_le.2
  clear hown
  subst hv
  have c1 := kept_cell hb1 c0 l0
  have l1 := lt_of_below hb1 l0
  have B1 := B0.trans (hb1.mono B0.size)
  have h0 := hcell.out 0 (by omega)
  have s1 := B1.size
  clear own hb1 c0 l0 B0 HSH
  go_wp2_with fail
  go_loopw [8, 19] (fun m i wr => ∃ k : Nat, k ≤ L.length ∧ i = .int .i64 k ∧ m = .int .i64 (ldrM S L k) ∧ Below w1.heap.size w1 wr) (fun _ i _ => L.length - (intOf i).toNat)
  case atStart => exact ⟨0, Nat.zero_le _, rfl, rfl, Below.refl _ _⟩
  case round =>
    clear h0
    obtain ⟨k, hk, rfl, rfl, BW⟩ := hrel
    have B := B1.trans (BW.mono s1)
    by_cases hlt : k < L.length
    · have hck := kept_cell BW (hcell.out k hlt) hg
      have cS := kept_cell BW c1 l1
      have ls := lt_of_below BW l1
      have lg := lt_of_below BW hg
      obtain ⟨y1, y2⟩ := HLb.out k hlt
      obtain ⟨m1, m2⟩ := HMb.out k
      have HD : Hid (ldrM S L (k + 1) = if dist S 0 (gi L k) < dist S 0 (ldrM S L k) then gi L k else ldrM S L k) := Lib.hid rfl
      have i1 : (0 : Int) ≤ (k : Int) := by omega
      have i2 : (k : Int) < (L.length : Int) := by omega
      obtain ⟨m, hm⟩ : ∃ m, m = ldrM S L k := ⟨_, rfl⟩
      rw [← hm] at m1 m2 HD ⊢
      clear hm
      by_cases hq : dist S 0 (gi L k) < dist S 0 m
      · have hd : decide (dist S 0 (gi L k) < dist S 0 m) = true := by simpa using hq
        rw [if_pos hq] at HD
        clear hq
        go_wp2_with fail
        refine wp_region_held_drew (S := fun w' => w'.cell? ⟨w.heap.size, 0, none⟩ = some (.slice ao S.length cap) ∧ w'.cell? ⟨g, k, none⟩ = some (.int .i64 (gi L k))) (by kernel_rfl) ⟨cS, hck⟩ (fun hHeld => ?_)
        refine wpAnyH_take (i := 0) (v := .agg #[.slice ao S.length cap]) rfl (by kernel_rfl) (by kernel_rfl) (by kernel_rfl) (fun _ _ _ h => h) (Or.inl ⟨by rfl, ?_⟩) (by assumption) ?_
        · (intro W1 hSw; obtain ⟨h1, h2⟩ := hSw; (try dsimp only at h1 h2); go_simp)
        (try simp only [Act.put, List.setIfInBounds_toArray, List.set_cons_zero, List.set_cons_succ])
        refine wpAnyH_take (i := 1) (v := .slice (some ⟨g, 0, none⟩) L.length c) rfl (by kernel_rfl) (by kernel_rfl) (by kernel_rfl) (fun _ _ _ h => h) (Or.inl ⟨by rfl, ?_⟩) (by assumption) ?_
        · (intro W1 hSw; go_simp)
        (try simp only [Act.put, List.setIfInBounds_toArray, List.set_cons_zero, List.set_cons_succ])
        refine wpAnyH_take (i := 2) (v := .int .i64 (k : Int)) rfl (by kernel_rfl) (by kernel_rfl) (by kernel_rfl) (fun _ _ _ h => h) (Or.inl ⟨by rfl, ?_⟩) (by assumption) ?_
        · (intro W1 hSw; go_simp)
        (try simp only [Act.put, List.setIfInBounds_toArray, List.set_cons_zero, List.set_cons_succ])
        refine wpAnyH_take (i := 3) (v := .pointer (some ⟨g, k, none⟩)) rfl (by kernel_rfl) (by kernel_rfl) (by kernel_rfl) (fun _ _ _ h => h) (Or.inl ⟨by rfl, ?_⟩) (by assumption) ?_
        · (intro W1 hSw; go_simp)
        (try simp only [Act.put, List.setIfInBounds_toArray, List.set_cons_zero, List.set_cons_succ])
        refine wpAnyH_take (i := 4) (v := .int .i64 (gi L k)) rfl (by kernel_rfl) (by kernel_rfl) (by kernel_rfl) (fun _ _ _ h => h) (Or.inl ⟨by rfl, ?_⟩) (by assumption) ?_
        · (intro W1 hSw; obtain ⟨h1, h2⟩ := hSw; (try dsimp only at h1 h2); go_simp)
        (try simp only [Act.put, List.setIfInBounds_toArray, List.set_cons_zero, List.set_cons_succ])
        refine wpAnyH_take (i := 6) (v := .agg #[.slice ao S.length cap]) rfl (by kernel_rfl) (by kernel_rfl) (by kernel_rfl) (fun _ _ _ h => h) (Or.inl ⟨by rfl, ?_⟩) (by assumption) ?_
        · (intro W1 hSw; obtain ⟨h1, h2⟩ := hSw; (try dsimp only at h1 h2); go_simp)
        (try simp only [Act.put, List.setIfInBounds_toArray, List.set_cons_zero, List.set_cons_succ])
        refine wpAnyH_take (i := 7) (v := .int .i64 m) rfl (by kernel_rfl) (by kernel_rfl) (by kernel_rfl) (fun _ _ _ h => h) (Or.inl ⟨by rfl, ?_⟩) (by assumption) ?_
        · (intro W1 hSw; go_simp)
        (try simp only [Act.put, List.setIfInBounds_toArray, List.set_cons_zero, List.set_cons_succ])
        refine wpAnyH_ready (rs := [5]) (by kernel_rfl) (by simp) ?_
        refine AllReadyH.cons rfl (fun K hK => ?_) AllReadyH.nil
        go_simp
        (go_at_call 91; refine (l01Distance_any ao S cap hn8 HSp.out.bd 0 (gi L k) (by omega) (by omega) y1 y2 _ (hS.below B.drew)).mono ?_)
        rintro e w4 ⟨rfl, hb4'⟩
        have hb4 : Below wr.heap.size wr w4 := (Below.refl _ wr).drew.trans hb4'
        have k1 := kept_cell hb4 cS ls
        have k2 := kept_cell hb4 hck lg
        have B4 := B.trans (hb4.mono B.size)
        refine hK.out _ _ (⟨k1, k2⟩) (fun hHeld => ?_)
        clear hK K
        (try simp only [Act.put, List.setIfInBounds_toArray, List.set_cons_zero, List.set_cons_succ])
        refine wpAnyH_ready (rs := [8]) (by kernel_rfl) (by simp) ?_
        refine AllReadyH.cons rfl (fun K hK => ?_) AllReadyH.nil
        go_simp
        (go_at_call 91; refine (l01Distance_any ao S cap hn8 HSp.out.bd 0 m (by omega) (by omega) m1 m2 _ (hS.below B4)).mono ?_)
        rintro e w5 ⟨rfl, hb5'⟩
        have hb5 : Below wr.heap.size wr w5 := hb4.trans (hb5'.mono hb4.size)
        have k3 := kept_cell hb5 cS ls
        have k4 := kept_cell hb5 hck lg
        refine hK.out _ _ (⟨k3, k4⟩) (fun hHeld => ?_)
        clear hK K
        (try simp only [Act.put, List.setIfInBounds_toArray, List.set_cons_zero, List.set_cons_succ])
        refine wpAnyH_take (i := 9) (v := .bool true) rfl (by kernel_rfl) (by kernel_rfl) (by kernel_rfl) (fun _ _ _ h => h) (Or.inl ⟨by rfl, ?_⟩) (by assumption) ?_
        · (intro W1 hSw; go_simp)
        (try simp only [Act.put, List.setIfInBounds_toArray, List.set_cons_zero, List.set_cons_succ])
        refine wpAnyH_done (by kernel_rfl) ?_ _
        (try simp only [List.getElem_toArray, List.getElem_cons_succ, List.getElem_cons_zero, Act.put, List.setIfInBounds_toArray, List.set_cons_zero, List.set_cons_succ])
        have BW5 := BW.trans (hb5.mono BW.size)
        clear cS hck k1 k2 k3 hb4 hb5 B4 B BW
        go_wp2_with fail
        go_roundw
        case rel => exact ⟨k + 1, by omega, by go_num, by rw [HD.out], BW5⟩
        case measure => simp [intOf]; omega
      · have hd : decide (dist S 0 (gi L k) < dist S 0 m) = false := by simpa using hq
        rw [if_neg hq] at HD
        clear hq
        go_wp2_with fail
        refine wp_region_held_drew (S := fun w' => w'.cell? ⟨w.heap.size, 0, none⟩ = some (.slice ao S.length cap) ∧ w'.cell? ⟨g, k, none⟩ = some (.int .i64 (gi L k))) (by kernel_rfl) ⟨cS, hck⟩ (fun hHeld => ?_)
        refine wpAnyH_take (i := 0) (v := .agg #[.slice ao S.length cap]) rfl (by kernel_rfl) (by kernel_rfl) (by kernel_rfl) (fun _ _ _ h => h) (Or.inl ⟨by rfl, ?_⟩) (by assumption) ?_
        · (intro W1 hSw; obtain ⟨h1, h2⟩ := hSw; (try dsimp only at h1 h2); go_simp)
        (try simp only [Act.put, List.setIfInBounds_toArray, List.set_cons_zero, List.set_cons_succ])
        refine wpAnyH_take (i := 1) (v := .slice (some ⟨g, 0, none⟩) L.length c) rfl (by kernel_rfl) (by kernel_rfl) (by kernel_rfl) (fun _ _ _ h => h) (Or.inl ⟨by rfl, ?_⟩) (by assumption) ?_
        · (intro W1 hSw; go_simp)
        (try simp only [Act.put, List.setIfInBounds_toArray, List.set_cons_zero, List.set_cons_succ])
        refine wpAnyH_take (i := 2) (v := .int .i64 (k : Int)) rfl (by kernel_rfl) (by kernel_rfl) (by kernel_rfl) (fun _ _ _ h => h) (Or.inl ⟨by rfl, ?_⟩) (by assumption) ?_
        · (intro W1 hSw; go_simp)
        (try simp only [Act.put, List.setIfInBounds_toArray, List.set_cons_zero, List.set_cons_succ])
        refine wpAnyH_take (i := 3) (v := .pointer (some ⟨g, k, none⟩)) rfl (by kernel_rfl) (by kernel_rfl) (by kernel_rfl) (fun _ _ _ h => h) (Or.inl ⟨by rfl, ?_⟩) (by assumption) ?_
        · (intro W1 hSw; go_simp)
        (try simp only [Act.put, List.setIfInBounds_toArray, List.set_cons_zero, List.set_cons_succ])
        refine wpAnyH_take (i := 4) (v := .int .i64 (gi L k)) rfl (by kernel_rfl) (by kernel_rfl) (by kernel_rfl) (fun _ _ _ h => h) (Or.inl ⟨by rfl, ?_⟩) (by assumption) ?_
        · (intro W1 hSw; obtain ⟨h1, h2⟩ := hSw; (try dsimp only at h1 h2); go_simp)
        (try simp only [Act.put, List.setIfInBounds_toArray, List.set_cons_zero, List.set_cons_succ])
        refine wpAnyH_take (i := 6) (v := .agg #[.slice ao S.length cap]) rfl (by kernel_rfl) (by kernel_rfl) (by kernel_rfl) (fun _ _ _ h => h) (Or.inl ⟨by rfl, ?_⟩) (by assumption) ?_
        · (intro W1 hSw; obtain ⟨h1, h2⟩ := hSw; (try dsimp only at h1 h2); go_simp)
        (try simp only [Act.put, List.setIfInBounds_toArray, List.set_cons_zero, List.set_cons_succ])
        refine wpAnyH_take (i := 7) (v := .int .i64 m) rfl (by kernel_rfl) (by kernel_rfl) (by kernel_rfl) (fun _ _ _ h => h) (Or.inl ⟨by rfl, ?_⟩) (by assumption) ?_
        · (intro W1 hSw; go_simp)
        (try simp only [Act.put, List.setIfInBounds_toArray, List.set_cons_zero, List.set_cons_succ])
        refine wpAnyH_ready (rs := [5]) (by kernel_rfl) (by simp) ?_
        refine AllReadyH.cons rfl (fun K hK => ?_) AllReadyH.nil
        go_simp
        (go_at_call 91; refine (l01Distance_any ao S cap hn8 HSp.out.bd 0 (gi L k) (by omega) (by omega) y1 y2 _ (hS.below B.drew)).mono ?_)
        rintro e w4 ⟨rfl, hb4'⟩
        have hb4 : Below wr.heap.size wr w4 := (Below.refl _ wr).drew.trans hb4'
        have k1 := kept_cell hb4 cS ls
        have k2 := kept_cell hb4 hck lg
        have B4 := B.trans (hb4.mono B.size)
        refine hK.out _ _ (⟨k1, k2⟩) (fun hHeld => ?_)
        clear hK K
        (try simp only [Act.put, List.setIfInBounds_toArray, List.set_cons_zero, List.set_cons_succ])
        refine wpAnyH_ready (rs := [8]) (by kernel_rfl) (by simp) ?_
        refine AllReadyH.cons rfl (fun K hK => ?_) AllReadyH.nil
        go_simp
        (go_at_call 91; refine (l01Distance_any ao S cap hn8 HSp.out.bd 0 m (by omega) (by omega) m1 m2 _ (hS.below B4)).mono ?_)
        rintro e w5 ⟨rfl, hb5'⟩
        have hb5 : Below wr.heap.size wr w5 := hb4.trans (hb5'.mono hb4.size)
        have k3 := kept_cell hb5 cS ls
        have k4 := kept_cell hb5 hck lg
        refine hK.out _ _ (⟨k3, k4⟩) (fun hHeld => ?_)
        clear hK K
        (try simp only [Act.put, List.setIfInBounds_toArray, List.set_cons_zero, List.set_cons_succ])
        refine wpAnyH_take (i := 9) (v := .bool false) rfl (by kernel_rfl) (by kernel_rfl) (by kernel_rfl) (fun _ _ _ h => h) (Or.inl ⟨by rfl, ?_⟩) (by assumption) ?_
        · (intro W1 hSw; go_simp)
        (try simp only [Act.put, List.setIfInBounds_toArray, List.set_cons_zero, List.set_cons_succ])
        refine wpAnyH_done (by kernel_rfl) ?_ _
        (try simp only [List.getElem_toArray, List.getElem_cons_succ, List.getElem_cons_zero, Act.put, List.setIfInBounds_toArray, List.set_cons_zero, List.set_cons_succ])
        have BW5 := BW.trans (hb5.mono BW.size)
        clear cS hck k1 k2 k3 k4 hb4 hb5 B4 B BW
        go_wp2_with fail
        go_roundw
        case rel => exact ⟨k + 1, by omega, by go_num, by rw [HD.out], BW5⟩
        case measure => simp [intOf]; omega
    · have ek : Hid (k = L.length) := Lib.hid (by omega)
      have e4 : ¬ (k : Int) < (L.length : Int) := by omega
      go_wp2_with fail
      go_ret
      exact ⟨ret_int (by rw [ek.out, HM.out]), B⟩

end Go.Proofs.YtcnnijeokefboaaGreatDoor
