/-
  Texts put together: NrS, NrT. By an AI agent.
-/
import Derived.Test.YtcnnijeokefboaaGreatDoorMathB
import Derived.Test.YtcnnijeokefboaaGreatDoorPkLinS
import Derived.Test.YtcnnijeokefboaaGreatDoorPk32
import Derived.Deep.RegionHeld3
namespace Go.Proofs.YtcnnijeokefboaaGreatDoor
open Go.RowKit Cv
set_option linter.unusedVariables false
set_option linter.unusedSimpArgs false
set_option maxRecDepth 100000

theorem l05Given_any (ao : Option Addr) (S : List Int) (cap : Nat) (hn : S.length ≤ 4294967296) (ac : Option Addr) (C : List Int) (capc : Nat) (hnc : C.length ≤ 4294967296) (w : World) (hS : Ints w ao S) (hC : Ints w ac C) :
    Calls Tryz.prog 73 #[.agg #[.slice ao S.length cap], .slice ac C.length capc] w fun e w' => e = .returned (.int .i64 (eLin S C)) ∧ Below w.heap.size w w' := by
  have B0 : Below w.heap.size w (w.alloc (.cells #[.slice ao S.length cap] 26)) := by go_grown
  have c0 := cell_new w (.slice ao S.length cap) 26
  have l0 := lt_alloc w (.cells #[.slice ao S.length cap] 26)
  have h1 := l01Given_any ao S cap hn ac C capc hnc _ (hS.below B0) (hC.below B0)
  by_cases hz : eCode S C = 0
  · rw [hz] at h1
    have H1 := Lib.hid h1
    have HL := Lib.hid (lin_same hz)
    cases hl : linB S C with
    | true =>
      have HE : Hid (eLin S C = 0) := Lib.hid (by unfold eLin; rw [if_pos hz, if_pos hl])
      have HZ := Lib.hid hz
      rw [hl] at HL
      clear hz h1 hl
      go_enter Tryz.func73, Tryz.ntmps73
      go_wp2_with fail
      refine H1.out.mono ?_
      rintro e w1 ⟨rfl, hb⟩
      have c1 := kept_cell hb c0 l0
      have B1 := B0.trans (hb.mono B0.size)
      clear hb c0 l0 B0
      go_wp2_with fail
      refine (l05Linear_any ao S cap hn ac C capc HZ.out _ (hS.below B1) (hC.below B1)).mono ?_
      rw [HL.out]
      rintro e w2 ⟨rfl, hb2⟩
      go_wp2_with fail
      go_ret
      exact ⟨ret_int HE.out.symm, B1.trans (hb2.mono B1.size)⟩
    | false =>
      have HE : Hid (eLin S C = 5) := Lib.hid (by unfold eLin; rw [if_pos hz, if_neg (by rw [hl]; decide)])
      have HZ := Lib.hid hz
      rw [hl] at HL
      clear hz h1 hl
      go_enter Tryz.func73, Tryz.ntmps73
      go_wp2_with fail
      refine H1.out.mono ?_
      rintro e w1 ⟨rfl, hb⟩
      have c1 := kept_cell hb c0 l0
      have B1 := B0.trans (hb.mono B0.size)
      clear hb c0 l0 B0
      go_wp2_with fail
      refine (l05Linear_any ao S cap hn ac C capc HZ.out _ (hS.below B1) (hC.below B1)).mono ?_
      rw [HL.out]
      rintro e w2 ⟨rfl, hb2⟩
      go_wp2_with fail
      go_ret
      exact ⟨ret_int HE.out.symm, B1.trans (hb2.mono B1.size)⟩
  · have HE : Hid (eLin S C = eCode S C) := Lib.hid (by unfold eLin; rw [if_neg hz])
    have hq : (eCode S C == 0) = false := by simpa using hz
    clear hz
    go_enter Tryz.func73, Tryz.ntmps73
    go_wp2_with fail
    refine h1.mono ?_
    rintro e w1 ⟨rfl, hb⟩
    go_wp2_with fail
    go_ret
    exact ⟨ret_int HE.out.symm, B0.trans (hb.mono B0.size)⟩

set_option maxHeartbeats 2000000 in
theorem l05Leader_any (ao : Option Addr) (S : List Int) (cap : Nat) (hSp : Sp S) (ac : Addr) (C : List Int) (capc : Nat) (hl1 : 1 ≤ C.length) (hl : C.length ≤ 1024) (hC : ∀ i, i < C.length → 0 ≤ gi C i ∧ gi C i ≤ 9223372036854775807) (x : Int) (hx : 0 ≤ x ∧ x ≤ 9223372036854775807) (w : World) (hS : Ints w ao S) (hCI : Ints w (some ac) C) :
    Calls Tryz.prog 86 #[.agg #[.slice ao S.length cap], .slice (some ac) C.length capc, .int .i64 x] w fun e w' => e = .returned (.int .i64 (ldr S C x)) ∧ Below w.heap.size w w' := by
  have N := nW_bd hSp
  have hn8 := hSp.hi
  have HSp := Lib.hid hSp
  have HM := Lib.hid (ldrM_same (S := S) (C := C) (by omega) x)
  have hpl := putTo_len [] (fun i => sumW S (gi C i) x) C.length
  simp only [List.length_nil, Nat.zero_add] at hpl
  have B0 : Below w.heap.size w (w.alloc (.cells #[.slice ao S.length cap] 26)) := by go_grown
  have c0 := cell_new w (.slice ao S.length cap) 26
  have l0 := lt_alloc w (.cells #[.slice ao S.length cap] 26)
  have hsh := shifted_any ao S cap hSp ac C capc hl hC x hx _ (hS.below B0) (hCI.below B0)
  have hmem : ∀ y, y ∈ putTo [] (fun i => sumW S (gi C i) x) C.length → 0 ≤ y ∧ y ≤ 9223372036854775807 := fun y hy => by
    rcases (mem_putTo _ _ _ _).1 hy with h | ⟨i, _, e⟩
    · simp at h
    · have := wd_sum hSp (gi C i) x; unfold Wd at this; rw [e]; show 0 ≤ sumW S (gi C i) x ∧ _; omega
  have hne : putTo [] (fun i => sumW S (gi C i) x) C.length ≠ [] := fun h => by
    have h2 := (mem_putTo [] (fun i => sumW S (gi C i) x) C.length (sumW S (gi C 0) x)).2 (.inr ⟨0, by omega, rfl⟩)
    rw [h] at h2; simp at h2
  obtain ⟨L, hL⟩ : ∃ L, L = putTo [] (fun i => sumW S (gi C i) x) C.length := ⟨_, rfl⟩
  rw [← hL] at HM hpl hsh hmem hne
  have hL1 : 1 ≤ L.length := List.length_pos_iff.2 hne
  have HLb : Hid (∀ i, i < L.length → 0 ≤ gi L i ∧ gi L i ≤ 9223372036854775807) := Lib.hid fun i hi => hmem _ (gi_mem hi)
  have HMb : Hid (∀ k, 0 ≤ ldrM S L k ∧ ldrM S L k ≤ 9223372036854775807) := Lib.hid fun k => by
    induction k with
    | zero => exact hmem _ (gi_mem (by omega))
    | succ k ih =>
      rw [ldrM]
      split
      · by_cases hk : k < L.length
        · exact hmem _ (gi_mem hk)
        · rw [gi_out _ _ (by omega)]; omega
      · exact ih
  have HSH := Lib.hid hsh
  have HNE := Lib.hid hne
  clear hSp hsh hmem hL hne
  go_enter Tryz.func86, Tryz.ntmps86
  go_wp2_with fail
  refine HSH.out.mono ?_
  rintro e w1 ⟨v, rfl, own, hb1⟩
  obtain ⟨g, c, hv, _⟩ := own_some own HNE.out
  have hown : OwnInts w1 (w.alloc (.cells #[.slice ao S.length cap] 26)).heap.size (.slice (some ⟨g, 0, none⟩) L.length c) L := by rw [← hv]; exact own
  have hcell : Hid (∀ i, i < L.length → w1.cell? ⟨g, i, none⟩ = some (.int .i64 (gi L i))) := Lib.hid fun i hi => hown.cell hi
  have hg : g < w1.heap.size := hown.base_le.2
  clear hown
  subst hv
  have c1 := kept_cell hb1 c0 l0
  have l1 := lt_of_below hb1 l0
  have B1 := B0.trans (hb1.mono B0.size)
  have h0 := hcell.out 0 (by omega)
  have s1 := B1.size
  clear own hb1 c0 l0 B0 HSH
  go_wp2_with fail
  go_loopw [8, 19] (fun m i wr => ∃ k : Nat, k ≤ L.length ∧ i = .int .i64 k ∧ m = .int .i64 (ldrM S L k) ∧ Below w1.heap.size w1 wr) (fun _ i _ => L.length - (intOf i).toNat)
  case atStart => exact ⟨0, Nat.zero_le _, rfl, rfl, Below.refl _ _⟩
  case round =>
    clear h0
    obtain ⟨k, hk, rfl, rfl, BW⟩ := hrel
    have B := B1.trans (BW.mono s1)
    by_cases hlt : k < L.length
    · have hck := kept_cell BW (hcell.out k hlt) hg
      have cS := kept_cell BW c1 l1
      have ls := lt_of_below BW l1
      have lg := lt_of_below BW hg
      obtain ⟨y1, y2⟩ := HLb.out k hlt
      obtain ⟨m1, m2⟩ := HMb.out k
      have HD : Hid (ldrM S L (k + 1) = if dist S 0 (gi L k) < dist S 0 (ldrM S L k) then gi L k else ldrM S L k) := Lib.hid rfl
      have i1 : (0 : Int) ≤ (k : Int) := by omega
      have i2 : (k : Int) < (L.length : Int) := by omega
      obtain ⟨m, hm⟩ : ∃ m, m = ldrM S L k := ⟨_, rfl⟩
      rw [← hm] at m1 m2 HD ⊢
      clear hm
      by_cases hq : dist S 0 (gi L k) < dist S 0 m
      · have hd : decide (dist S 0 (gi L k) < dist S 0 m) = true := by simpa using hq
        rw [if_pos hq] at HD
        clear hq
        go_wp2_with fail
        refine wp_region_held_drew (S := fun w' => w'.cell? ⟨w.heap.size, 0, none⟩ = some (.slice ao S.length cap) ∧ w'.cell? ⟨g, k, none⟩ = some (.int .i64 (gi L k))) (by kernel_rfl) ⟨cS, hck⟩ (fun hHeld => ?_)
        refine wpAnyH_take (i := 0) (v := .agg #[.slice ao S.length cap]) rfl (by kernel_rfl) (by kernel_rfl) (by kernel_rfl) (fun _ _ _ h => h) (Or.inl ⟨by rfl, ?_⟩) (by assumption) ?_
        · (intro W1 hSw; obtain ⟨h1, h2⟩ := hSw; (try dsimp only at h1 h2); go_simp)
        (try simp only [Act.put, List.setIfInBounds_toArray, List.set_cons_zero, List.set_cons_succ])
        refine wpAnyH_take (i := 1) (v := .slice (some ⟨g, 0, none⟩) L.length c) rfl (by kernel_rfl) (by kernel_rfl) (by kernel_rfl) (fun _ _ _ h => h) (Or.inl ⟨by rfl, ?_⟩) (by assumption) ?_
        · (intro W1 hSw; go_simp)
        (try simp only [Act.put, List.setIfInBounds_toArray, List.set_cons_zero, List.set_cons_succ])
        refine wpAnyH_take (i := 2) (v := .int .i64 (k : Int)) rfl (by kernel_rfl) (by kernel_rfl) (by kernel_rfl) (fun _ _ _ h => h) (Or.inl ⟨by rfl, ?_⟩) (by assumption) ?_
        · (intro W1 hSw; go_simp)
        (try simp only [Act.put, List.setIfInBounds_toArray, List.set_cons_zero, List.set_cons_succ])
        refine wpAnyH_take (i := 3) (v := .pointer (some ⟨g, k, none⟩)) rfl (by kernel_rfl) (by kernel_rfl) (by kernel_rfl) (fun _ _ _ h => h) (Or.inl ⟨by rfl, ?_⟩) (by assumption) ?_
        · (intro W1 hSw; go_simp)
        (try simp only [Act.put, List.setIfInBounds_toArray, List.set_cons_zero, List.set_cons_succ])
        refine wpAnyH_take (i := 4) (v := .int .i64 (gi L k)) rfl (by kernel_rfl) (by kernel_rfl) (by kernel_rfl) (fun _ _ _ h => h) (Or.inl ⟨by rfl, ?_⟩) (by assumption) ?_
        · (intro W1 hSw; obtain ⟨h1, h2⟩ := hSw; (try dsimp only at h1 h2); go_simp)
        (try simp only [Act.put, List.setIfInBounds_toArray, List.set_cons_zero, List.set_cons_succ])
        refine wpAnyH_take (i := 6) (v := .agg #[.slice ao S.length cap]) rfl (by kernel_rfl) (by kernel_rfl) (by kernel_rfl) (fun _ _ _ h => h) (Or.inl ⟨by rfl, ?_⟩) (by assumption) ?_
        · (intro W1 hSw; obtain ⟨h1, h2⟩ := hSw; (try dsimp only at h1 h2); go_simp)
        (try simp only [Act.put, List.setIfInBounds_toArray, List.set_cons_zero, List.set_cons_succ])
        refine wpAnyH_take (i := 7) (v := .int .i64 m) rfl (by kernel_rfl) (by kernel_rfl) (by kernel_rfl) (fun _ _ _ h => h) (Or.inl ⟨by rfl, ?_⟩) (by assumption) ?_
        · (intro W1 hSw; go_simp)
        (try simp only [Act.put, List.setIfInBounds_toArray, List.set_cons_zero, List.set_cons_succ])
        refine wpAnyH_ready (rs := [5]) (by kernel_rfl) (by simp) ?_
        refine AllReadyH.cons rfl (fun K hK => ?_) AllReadyH.nil
        go_simp
        (go_at_call 91; refine (l01Distance_any ao S cap hn8 HSp.out.bd 0 (gi L k) (by omega) (by omega) y1 y2 _ (hS.below B.drew)).mono ?_)
        rintro e w4 ⟨rfl, hb4'⟩
        have hb4 : Below wr.heap.size wr w4 := (Below.refl _ wr).drew.trans hb4'
        have k1 := kept_cell hb4 cS ls
        have k2 := kept_cell hb4 hck lg
        have B4 := B.trans (hb4.mono B.size)
        refine hK.out _ _ (⟨k1, k2⟩) (fun hHeld => ?_)
        clear hK K
        (try simp only [Act.put, List.setIfInBounds_toArray, List.set_cons_zero, List.set_cons_succ])
        refine wpAnyH_ready (rs := [8]) (by kernel_rfl) (by simp) ?_
        refine AllReadyH.cons rfl (fun K hK => ?_) AllReadyH.nil
        go_simp
        (go_at_call 91; refine (l01Distance_any ao S cap hn8 HSp.out.bd 0 m (by omega) (by omega) m1 m2 _ (hS.below B4)).mono ?_)
        rintro e w5 ⟨rfl, hb5'⟩
        have hb5 : Below wr.heap.size wr w5 := hb4.trans (hb5'.mono hb4.size)
        have k3 := kept_cell hb5 cS ls
        have k4 := kept_cell hb5 hck lg
        refine hK.out _ _ (⟨k3, k4⟩) (fun hHeld => ?_)
        clear hK K
        (try simp only [Act.put, List.setIfInBounds_toArray, List.set_cons_zero, List.set_cons_succ])
        refine wpAnyH_take (i := 9) (v := .bool true) rfl (by kernel_rfl) (by kernel_rfl) (by kernel_rfl) (fun _ _ _ h => h) (Or.inl ⟨by rfl, ?_⟩) (by assumption) ?_
        · (intro W1 hSw; go_simp)
        (try simp only [Act.put, List.setIfInBounds_toArray, List.set_cons_zero, List.set_cons_succ])
        refine wpAnyH_done (by kernel_rfl) ?_ _
        (try simp only [List.getElem_toArray, List.getElem_cons_succ, List.getElem_cons_zero, Act.put, List.setIfInBounds_toArray, List.set_cons_zero, List.set_cons_succ])
        have BW5 := BW.trans (hb5.mono BW.size)
        clear cS hck k1 k2 k3 hb4 hb5 B4 B BW
        go_wp2_with fail
        go_roundw
        case rel => exact ⟨k + 1, by omega, by go_num, by rw [HD.out], BW5⟩
        case measure => simp [intOf]; omega
      · have hd : decide (dist S 0 (gi L k) < dist S 0 m) = false := by simpa using hq
        rw [if_neg hq] at HD
        clear hq
        go_wp2_with fail
        refine wp_region_held_drew (S := fun w' => w'.cell? ⟨w.heap.size, 0, none⟩ = some (.slice ao S.length cap) ∧ w'.cell? ⟨g, k, none⟩ = some (.int .i64 (gi L k))) (by kernel_rfl) ⟨cS, hck⟩ (fun hHeld => ?_)
        refine wpAnyH_take (i := 0) (v := .agg #[.slice ao S.length cap]) rfl (by kernel_rfl) (by kernel_rfl) (by kernel_rfl) (fun _ _ _ h => h) (Or.inl ⟨by rfl, ?_⟩) (by assumption) ?_
        · (intro W1 hSw; obtain ⟨h1, h2⟩ := hSw; (try dsimp only at h1 h2); go_simp)
        (try simp only [Act.put, List.setIfInBounds_toArray, List.set_cons_zero, List.set_cons_succ])
        refine wpAnyH_take (i := 1) (v := .slice (some ⟨g, 0, none⟩) L.length c) rfl (by kernel_rfl) (by kernel_rfl) (by kernel_rfl) (fun _ _ _ h => h) (Or.inl ⟨by rfl, ?_⟩) (by assumption) ?_
        · (intro W1 hSw; go_simp)
        (try simp only [Act.put, List.setIfInBounds_toArray, List.set_cons_zero, List.set_cons_succ])
        refine wpAnyH_take (i := 2) (v := .int .i64 (k : Int)) rfl (by kernel_rfl) (by kernel_rfl) (by kernel_rfl) (fun _ _ _ h => h) (Or.inl ⟨by rfl, ?_⟩) (by assumption) ?_
        · (intro W1 hSw; go_simp)
        (try simp only [Act.put, List.setIfInBounds_toArray, List.set_cons_zero, List.set_cons_succ])
        refine wpAnyH_take (i := 3) (v := .pointer (some ⟨g, k, none⟩)) rfl (by kernel_rfl) (by kernel_rfl) (by kernel_rfl) (fun _ _ _ h => h) (Or.inl ⟨by rfl, ?_⟩) (by assumption) ?_
        · (intro W1 hSw; go_simp)
        (try simp only [Act.put, List.setIfInBounds_toArray, List.set_cons_zero, List.set_cons_succ])
        refine wpAnyH_take (i := 4) (v := .int .i64 (gi L k)) rfl (by kernel_rfl) (by kernel_rfl) (by kernel_rfl) (fun _ _ _ h => h) (Or.inl ⟨by rfl, ?_⟩) (by assumption) ?_
        · (intro W1 hSw; obtain ⟨h1, h2⟩ := hSw; (try dsimp only at h1 h2); go_simp)
        (try simp only [Act.put, List.setIfInBounds_toArray, List.set_cons_zero, List.set_cons_succ])
        refine wpAnyH_take (i := 6) (v := .agg #[.slice ao S.length cap]) rfl (by kernel_rfl) (by kernel_rfl) (by kernel_rfl) (fun _ _ _ h => h) (Or.inl ⟨by rfl, ?_⟩) (by assumption) ?_
        · (intro W1 hSw; obtain ⟨h1, h2⟩ := hSw; (try dsimp only at h1 h2); go_simp)
        (try simp only [Act.put, List.setIfInBounds_toArray, List.set_cons_zero, List.set_cons_succ])
        refine wpAnyH_take (i := 7) (v := .int .i64 m) rfl (by kernel_rfl) (by kernel_rfl) (by kernel_rfl) (fun _ _ _ h => h) (Or.inl ⟨by rfl, ?_⟩) (by assumption) ?_
        · (intro W1 hSw; go_simp)
        (try simp only [Act.put, List.setIfInBounds_toArray, List.set_cons_zero, List.set_cons_succ])
        refine wpAnyH_ready (rs := [5]) (by kernel_rfl) (by simp) ?_
        refine AllReadyH.cons rfl (fun K hK => ?_) AllReadyH.nil
        go_simp
        (go_at_call 91; refine (l01Distance_any ao S cap hn8 HSp.out.bd 0 (gi L k) (by omega) (by omega) y1 y2 _ (hS.below B.drew)).mono ?_)
        rintro e w4 ⟨rfl, hb4'⟩
        have hb4 : Below wr.heap.size wr w4 := (Below.refl _ wr).drew.trans hb4'
        have k1 := kept_cell hb4 cS ls
        have k2 := kept_cell hb4 hck lg
        have B4 := B.trans (hb4.mono B.size)
        refine hK.out _ _ (⟨k1, k2⟩) (fun hHeld => ?_)
        clear hK K
        (try simp only [Act.put, List.setIfInBounds_toArray, List.set_cons_zero, List.set_cons_succ])
        refine wpAnyH_ready (rs := [8]) (by kernel_rfl) (by simp) ?_
        refine AllReadyH.cons rfl (fun K hK => ?_) AllReadyH.nil
        go_simp
        (go_at_call 91; refine (l01Distance_any ao S cap hn8 HSp.out.bd 0 m (by omega) (by omega) m1 m2 _ (hS.below B4)).mono ?_)
        rintro e w5 ⟨rfl, hb5'⟩
        have hb5 : Below wr.heap.size wr w5 := hb4.trans (hb5'.mono hb4.size)
        have k3 := kept_cell hb5 cS ls
        have k4 := kept_cell hb5 hck lg
        refine hK.out _ _ (⟨k3, k4⟩) (fun hHeld => ?_)
        clear hK K
        (try simp only [Act.put, List.setIfInBounds_toArray, List.set_cons_zero, List.set_cons_succ])
        refine wpAnyH_take (i := 9) (v := .bool false) rfl (by kernel_rfl) (by kernel_rfl) (by kernel_rfl) (fun _ _ _ h => h) (Or.inl ⟨by rfl, ?_⟩) (by assumption) ?_
        · (intro W1 hSw; go_simp)
        (try simp only [Act.put, List.setIfInBounds_toArray, List.set_cons_zero, List.set_cons_succ])
        refine wpAnyH_done (by kernel_rfl) ?_ _
        (try simp only [List.getElem_toArray, List.getElem_cons_succ, List.getElem_cons_zero, Act.put, List.setIfInBounds_toArray, List.set_cons_zero, List.set_cons_succ])
        have BW5 := BW.trans (hb5.mono BW.size)
        clear cS hck k1 k2 k3 k4 hb4 hb5 B4 B BW
        go_wp2_with fail
        go_roundw
        case rel => exact ⟨k + 1, by omega, by go_num, by rw [HD.out], BW5⟩
        case measure => simp [intOf]; omega
    · have ek : Hid (k = L.length) := Lib.hid (by omega)
      have e4 : ¬ (k : Int) < (L.length : Int) := by omega
      go_wp2_with fail
      go_ret
      exact ⟨ret_int (by rw [ek.out, HM.out]), B⟩

end Go.Proofs.YtcnnijeokefboaaGreatDoor

namespace Go.Proofs.YtcnnijeokefboaaGreatDoor
open Go.RowKit Cv
set_option linter.unusedVariables false
set_option linter.unusedSimpArgs false
set_option maxRecDepth 100000

set_option maxHeartbeats 2000000 in
theorem spec_NearestWord (ao : Option Addr) (S : List Int) (cap : Nat) (hn : S.length ≤ 4294967296) (ac : Option Addr) (C : List Int) (capc : Nat) (hnc : C.length ≤ 4294967296) (x : Int) (hx : -9223372036854775808 ≤ x ∧ x ≤ 9223372036854775807) (w : World) (hS : Ints w ao S) (hC : Ints w ac C) :
    Calls Tryz.prog 33 #[.agg #[.slice ao S.length cap], .slice ac C.length capc, .int .i64 x] w fun e w' => e = .returned (.tuple #[.int .i64 (vNrW S C x), .int .i64 (eNrW S C x)]) ∧ Below w.heap.size w w' := by
  have B0 : Below w.heap.size w (w.alloc (.cells #[.slice ao S.length cap] 26)) := by go_grown
  have c0 := cell_new w (.slice ao S.length cap) 26
  have l0 := lt_alloc w (.cells #[.slice ao S.length cap] 26)
  have B1 : Below w.heap.size w ((w.alloc (.cells #[.slice ao S.length cap] 26)).alloc (.cells #[.int .i64 x] 2)) := by go_grown
  by_cases hw : eWords S [x] = 0
  · have hwb : (eWords S [x] == 0) = true := by simp [hw]
    have HM : Hid (eNrW S C x = eLin S C) := Lib.hid (by rw [eNrW_model, if_pos hw])
    have HW := Lib.hid hw
    have hxw := (eWords1 hw).2
    by_cases hz : eLin S C = 0
    · have hzn : (eLin S C != 0) = false := by simp [hz]
      have HZ := Lib.hid hz
      have HE : Hid (eNrW S C x = 0) := Lib.hid (by rw [HM.out, hz])
      have HV : Hid (vNrW S C x = nrW S C x) := Lib.hid (by unfold vNrW; rw [if_pos HE.out])
      obtain ⟨hc0, _, hlb⟩ := eNrW_zero HE.out
      obtain ⟨hP, hg⟩ := lin_gp hc0 hlb
      have hpos := List.length_pos_of_mem hg.zero
      have hlen := code_len0 hc0
      have N := nW_bd hP.sp
      have HSp := Lib.hid hP.sp
      have HC9 : Hid (∀ i, i < C.length → 0 ≤ gi C i ∧ gi C i ≤ 9223372036854775807) := Lib.hid fun i hi => by have := hg.wd _ (gi_mem hi); unfold Wd at this; omega
      have hx9 : 0 ≤ x ∧ x ≤ 9223372036854775807 := by omega
      have hlw := ldr_wd hP hg x
      have HQ : Hid (∀ i, i < C.length → (sumW S (gi C i) (ldr S C x) = x ↔ gi C i = nrW S C x)) := Lib.hid fun i hi => minus_iff hP.sp (hg.wd _ (gi_mem hi)) hlw hxw
      have HX : Hid (∃ j, j < C.length ∧ gi C j = nrW S C x) := Lib.hid (mem_gi (nr_mem hP hg hxw))
      obtain ⟨b, o, rfl, hbl, hc⟩ := hC.at (show 0 < C.length by omega)
      have HC := Lib.hid hc
      have HL := Lib.hid (fun (W : World) (h1 : Ints W ao S) (h2 : Ints W (some ⟨b, o, none⟩) C) => l05Leader_any ao S cap hP.sp ⟨b, o, none⟩ C capc hpos hlen HC9.out x hx9 W h1 h2)
      unfold Wd at hlw
      obtain ⟨y, hy⟩ : ∃ y, y = ldr S C x := ⟨_, rfl⟩
      rw [← hy] at hlw HQ HL
      obtain ⟨r, hr⟩ : ∃ r, r = nrW S C x := ⟨_, rfl⟩
      rw [← hr] at HQ HX HV
      clear hw hz hxw hc0 hlb hP hg hc hy hr
      go_enter Tryz.func33, Tryz.ntmps33
      go_wp2_with fail
      refine (l01Words_n ao S cap hn _ [x] 1 _ rfl (by omega) _ (hS.below B1) (ints_new1 _ x _ (by simp))).mono ?_
      rw [HW.out]
      rintro e w1 ⟨rfl, hb⟩
      have hq := Below.trans ((Below.refl _ (w.alloc (.cells #[.slice ao S.length cap] 26))).alloc (Nat.le_refl _) (.cells #[.int .i64 x] 2)) (hb.mono (by simp))
      have c1 := kept_cell hq c0 l0
      have l1 := lt_of_below hq l0
      have B2 := B1.trans (hb.mono B1.size)
      clear hb hq B0 B1 c0 l0
      go_wp2_with fail
      refine (l05Given_any ao S cap hn (some ⟨b, o, none⟩) C capc hnc _ (hS.below B2) (hC.below B2)).mono ?_
      rw [HZ.out]
      rintro e w2 ⟨rfl, hb⟩
      have c2 := kept_cell hb c1 l1
      have l2 := lt_of_below hb l1
      have B3 := B2.trans (hb.mono B2.size)
      clear hb B2 c1 l1
      go_wp2_with fail
      refine (HL.out _ (hS.below B3) (hC.below B3)).mono ?_
      rintro e w3 ⟨rfl, hb⟩
      have c3 := kept_cell hb c2 l2
      have l3 := lt_of_below hb l2
      have B4 := B3.trans (hb.mono B3.size)
      have s4 := B4.size
      clear hb B3 c2 l2 HL
      go_wp2_with fail
      go_loopw [29] (fun i wr => ∃ k : Nat, k ≤ C.length ∧ i = .int .i64 k ∧ Hid (∀ j, j < k → gi C j ≠ r) ∧ Below w3.heap.size w3 wr) (fun i _ => C.length - (intOf i).toNat)
      case atStart => exact ⟨0, Nat.zero_le _, rfl, Lib.hid fun j hj => by omega, Below.refl _ _⟩
      case round =>
        obtain ⟨k, hk, rfl, HA, BW⟩ := hrel
        have B := B4.trans (BW.mono s4)
        by_cases hlt : k < C.length
        · have hck := kept_cell B (HC.out k hlt) hbl
          have cS := kept_cell BW c3 l3
          have ls := lt_of_below BW l3
          have lb := lt_of_below B hbl
          obtain ⟨u1, u2⟩ := HC9.out k hlt
          have hiff := HQ.out k hlt
          have i1 : (0 : Int) ≤ (k : Int) := by omega
          have i2 : (k : Int) < (C.length : Int) := by omega
          by_cases hq : gi C k = r
          · have hd : (sumW S (gi C k) y == x) = true := by simpa using hiff.2 hq
            have HR := Lib.hid hq
            clear hq hiff
            go_wp2_with fail
            go_region_held3 (fun w' => w'.cell? ⟨w.heap.size, 0, none⟩ = some (.slice ao S.length cap) ∧ w'.cell? ⟨b, o + k, none⟩ = some (.int .i64 (gi C k))) (first | exact ⟨cS, hck⟩ | exact ⟨k1, k2⟩) (first | (go_at_call 87; refine (l01Sum_any ao S cap HSp.out (gi C k) y u1 u2 hlw.1 (by omega) _ (hS.below B.drew)).mono ?_; rintro e w4 ⟨rfl, hb4'⟩; have hb4 : Below wr.heap.size wr w4 := (Below.refl _ wr).drew.trans hb4'; have k1 := kept_cell hb4 cS ls; have k2 := kept_cell hb4 hck lb))
            have B5 := B.trans (hb4.mono B.size)
            clear cS hck k1 hb4 B BW
            go_wp2_with fail
            go_ret2
            exact ⟨by rw [HE.out, HV.out, HR.out]; rfl, B5⟩
          · have hd : (sumW S (gi C k) y == x) = false := by simpa using fun h => hq (hiff.1 h)
            have HR := Lib.hid hq
            clear hq hiff
            go_wp2_with fail
            go_region_held3 (fun w' => w'.cell? ⟨w.heap.size, 0, none⟩ = some (.slice ao S.length cap) ∧ w'.cell? ⟨b, o + k, none⟩ = some (.int .i64 (gi C k))) (first | exact ⟨cS, hck⟩ | exact ⟨k1, k2⟩) (first | (go_at_call 87; refine (l01Sum_any ao S cap HSp.out (gi C k) y u1 u2 hlw.1 (by omega) _ (hS.below B.drew)).mono ?_; rintro e w4 ⟨rfl, hb4'⟩; have hb4 : Below wr.heap.size wr w4 := (Below.refl _ wr).drew.trans hb4'; have k1 := kept_cell hb4 cS ls; have k2 := kept_cell hb4 hck lb))
            have BW5 := BW.trans (hb4.mono BW.size)
            clear cS hck k1 k2 hb4 B BW
            go_wp2_with fail
            go_roundw
            case rel =>
              refine ⟨k + 1, by omega, by go_num, Lib.hid fun j hj => ?_, BW5⟩
              by_cases e : j = k
              · subst e; exact HR.out
              · exact HA.out j (by omega)
            case measure => simp [intOf]; omega
        · exfalso
          obtain ⟨j, hj, e⟩ := HX.out
          exact HA.out j (by omega) e
    · have hzn : (eLin S C != 0) = true := by simpa using hz
      have HE : Hid (eNrW S C x = eLin S C) := HM
      have HV : Hid (vNrW S C x = 0) := Lib.hid (by unfold vNrW; rw [if_neg (by rw [HE.out]; exact hz)])
      clear hz hw hxw
      go_enter Tryz.func33, Tryz.ntmps33
      go_wp2_with fail
      refine (l01Words_n ao S cap hn _ [x] 1 _ rfl (by omega) _ (hS.below B1) (ints_new1 _ x _ (by simp))).mono ?_
      rw [HW.out]
      rintro e w1 ⟨rfl, hb⟩
      have hq := Below.trans ((Below.refl _ (w.alloc (.cells #[.slice ao S.length cap] 26))).alloc (Nat.le_refl _) (.cells #[.int .i64 x] 2)) (hb.mono (by simp))
      have c1 := kept_cell hq c0 l0
      have B2 := B1.trans (hb.mono B1.size)
      clear hb hq B0 B1 c0 l0
      go_wp2_with fail
      refine (l05Given_any ao S cap hn ac C capc hnc _ (hS.below B2) (hC.below B2)).mono ?_
      rintro e w2 ⟨rfl, hb⟩
      go_wp2_with fail
      go_ret2
      exact ⟨by rw [HE.out, HV.out]; rfl, B2.trans (hb.mono B2.size)⟩
  · have hwb : (eWords S [x] == 0) = false := by simpa using hw
    have hwn : (eWords S [x] != 0) = true := by simpa using hw
    have HE : Hid (eNrW S C x = eWords S [x]) := Lib.hid (by rw [eNrW_model, if_neg hw])
    have HV : Hid (vNrW S C x = 0) := Lib.hid (by unfold vNrW; rw [if_neg (by rw [HE.out]; exact hw)])
    clear hw
    go_enter Tryz.func33, Tryz.ntmps33
    go_wp2_with fail
    refine (l01Words_n ao S cap hn _ [x] 1 _ rfl (by omega) _ (hS.below B1) (ints_new1 _ x _ (by simp))).mono ?_
    rintro e w1 ⟨rfl, hb⟩
    go_wp2_with fail
    go_ret2
    exact ⟨by rw [HE.out, HV.out]; rfl, B1.trans (hb.mono B1.size)⟩

end Go.Proofs.YtcnnijeokefboaaGreatDoor
