/-
  The contracts of the program's weightCounts and DualCounts. By an AI agent.
-/
import Derived.Test.YtcnnijeokefboaaGreatDoorMathB
import Derived.Test.YtcnnijeokefboaaGreatDoorPk20
import Derived.Shelf.Abstract
import Derived.Deep.RegionHeld3
import Derived.Test.YtcnnijeokefboaaGreatDoorPk22
import Derived.Test.YtcnnijeokefboaaGreatDoorPkDua
import Derived.Test.YtcnnijeokefboaaGreatDoorMacW
namespace Go.Proofs.YtcnnijeokefboaaGreatDoor
open Go.RowKit Go.Shelf Cv
set_option linter.unusedVariables false
set_option linter.unusedSimpArgs false
set_option maxRecDepth 100000

/-- a function value that answers D at the numbers of L, in every world in which what lay below n lies still -/
def FunN (f : Nat) (pre post : Array Value) (D : Int → Int) (n : Nat) (w : World) (L : List Int) : Prop :=
  ∀ (W : World) (x : Int), Below n w W → x ∈ L → Calls Tryz.prog f (pre.push (.int .i64 x) ++ post) W fun e w' => e = .returned (.int .i64 (D x)) ∧ Below W.heap.size W w'

set_option maxHeartbeats 1000000 in
theorem numbers_any (a : Option Addr) (cap : Nat) (L : List Int) (hl : L.length ≤ 1048576) (f : Nat) (eg : ∀ args w, (callFunc f args).run Tryz.prog w = .ok (.enter f args) w) (pre post : Array Value) (D : Int → Int) (w : World) (hL : Ints w a L) (hp : FunN f pre post D w.heap.size w L) :
    Calls Tryz.prog 145 #[.slice a L.length cap, .func (.func f) pre post] w fun e w' => ∃ g, e = .returned (.slice (some ⟨g, 0, none⟩) L.length L.length) ∧ OwnInts w' w.heap.size (.slice (some ⟨g, 0, none⟩) L.length L.length) (L.map D) ∧ Below w.heap.size w w' := by
  obtain ⟨i0, hi, hz0, hz1, hz2⟩ := info_parts infoI64
  have HP := Lib.hid hp
  clear hp
  go_enter Tryz.func145, Tryz.ntmps145
  go_wp2_with (at_make; refine wpList_make_full _ rfl _ _ 24 rfl w.heap.size 2 i0 (.int .i64 0) 1 Tryz.underlying24 hi hz0 hz1 .i64 .i64 _ _ L.length rfl rfl rfl rfl (by rw [hz2]; omega) (by unfold maxLen; omega) (Nat.le_refl _) ?_; intro w1 hown hgrow)
  have B1 : Below w.heap.size w w1 := below_grown0 hgrow
  replace hown := own_made hown
  clear hgrow
  go_loopw [13] (fun i wr => ∃ (k : Nat) (T : List Int), k ≤ L.length ∧ i = .int .i64 k ∧ OwnInts wr w.heap.size (.slice (some ⟨w.heap.size, 0, none⟩) L.length L.length) T ∧ Hid (T.length = L.length ∧ ∀ j, j < k → gi T j = D (gi L j)) ∧ Below w.heap.size w wr) (fun i _ => L.length - (intOf i).toNat)
  case atStart => exact ⟨0, _, Nat.zero_le _, rfl, hown, Lib.hid ⟨by simp, fun j h => by omega⟩, B1⟩
  case round =>
    clear hown B1
    obtain ⟨k, T, hk, rfl, own, HT, B⟩ := hrel
    by_cases hlt : k < L.length
    · obtain ⟨b, o, rfl, hbl, hc⟩ := hL.at hlt
      have hck := kept_cell B (hc k hlt) hbl
      have hcall := HP.out wr (gi L k) B (gi_mem hlt)
      have hs := B.size
      clear hc
      go_wp2_with fail
      refine hcall.mono ?_
      rintro e w2 ⟨rfl, hb⟩
      have own2 := own.below hb
      have B2 := B.trans (hb.mono hs)
      have hc2 := own2.cell (k := k) (by rw [HT.out.1]; exact hlt)
      have hf2 := own2.free k
      clear hb own hck B
      go_wp2_with fail
      go_roundw
      case rel =>
        refine ⟨k + 1, _, by omega, by go_num, own2.stored k (D (gi L k)), Lib.hid ⟨by rw [List.length_set]; exact HT.out.1, fun j hj => ?_⟩, B2.setCell (by simp) _⟩
        rw [gi_set _ _ _ _ (by rw [HT.out.1]; exact hlt)]
        by_cases e : j = k
        · subst e; rw [if_pos rfl]
        · rw [if_neg e]; exact HT.out.2 j (by omega)
      case measure => simp [intOf]; omega
    · have hT : T = L.map D := ext_gi (by rw [List.length_map]; exact HT.out.1) fun j hj => by
        rw [HT.out.1] at hj
        rw [HT.out.2 j (by omega)]; simp [gi, hj]
      rw [hT] at own
      clear hT
      go_wp2_with fail
      go_ret
      exact ⟨_, rfl, own, B⟩

/-- the weight of a word, as a function value over the boxed space -/
theorem weight_fun (sb : Nat) (ao : Option Addr) (S : List Int) (cap : Nat) (hSp : Sp S) (C : List Int) (hC : ∀ x, x ∈ C → 0 ≤ x ∧ x ≤ 9223372036854775807) (n : Nat) (w : World) (hsb : sb < n) (hn : n ≤ w.heap.size) (c : w.cell? ⟨sb, 0, none⟩ = some (.slice ao S.length cap)) (hS : ∀ W, Below n w W → Ints W ao S) :
    FunN 146 #[] #[.pointer (some ⟨sb, 0, none⟩)] (dist S 0) n w C := by
  intro W x hb hx
  obtain ⟨x1, x2⟩ := hC x hx
  have cW := kept_cell hb c hsb
  have hSW := hS W hb
  show Calls Tryz.prog 146 #[.int .i64 x, .pointer (some ⟨sb, 0, none⟩)] W _
  go_enter Tryz.func146, Tryz.ntmps146
  go_wp2_with fail
  refine (distance_any ao S cap hSp 0 x (by omega) (by omega) x1 x2 _ hSW).mono ?_
  rintro e w2 ⟨rfl, hb2⟩
  go_wp2_with fail
  go_ret
  exact ⟨rfl, hb2⟩

theorem weights_any (ao : Option Addr) (S : List Int) (cap : Nat) (hSp : Sp S) (ac : Option Addr) (C : List Int) (capc : Nat) (hl : C.length ≤ 1048576) (hC : ∀ x, x ∈ C → 0 ≤ x ∧ x ≤ 9223372036854775807) (w : World) (hS : Ints w ao S) (hCI : Ints w ac C) :
    Calls Tryz.prog 119 #[.agg #[.slice ao S.length cap], .slice ac C.length capc] w fun e w' => ∃ g, e = .returned (.slice (some ⟨g, 0, none⟩) C.length C.length) ∧ OwnInts w' w.heap.size (.slice (some ⟨g, 0, none⟩) C.length C.length) (C.map (dist S 0)) ∧ Below w.heap.size w w' := by
  have B0 : Below w.heap.size w (w.alloc (.cells #[.slice ao S.length cap] 26)) := by go_grown
  have c0 := cell_new w (.slice ao S.length cap) 26
  have hf := weight_fun w.heap.size ao S cap hSp C hC _ _ (lt_alloc w (.cells #[.slice ao S.length cap] 26)) (Nat.le_refl _) c0 (fun W hb => (hS.below B0).below hb)
  have HF := Lib.hid hf
  clear hf c0
  go_enter Tryz.func119, Tryz.ntmps119
  go_wp2_with fail
  refine (numbers_any ac capc C hl 146 (enters_of Tryz.func146 (by kernel_rfl) rfl) #[] #[.pointer (some ⟨w.heap.size, 0, none⟩)] (dist S 0) _ (hCI.below B0) HF.out).mono ?_
  rintro e w2 ⟨g, rfl, own, hb⟩
  go_wp2_with fail
  go_ret
  exact ⟨_, rfl, own.rebase (by simp), B0.trans (hb.mono B0.size)⟩

end Go.Proofs.YtcnnijeokefboaaGreatDoor

namespace Go.Proofs.YtcnnijeokefboaaGreatDoor
open Go.RowKit Go.Shelf Cv
set_option linter.unusedVariables false
set_option linter.unusedSimpArgs false
set_option maxRecDepth 100000

set_option maxHeartbeats 1000000 in
theorem weightCounts_any (ao : Option Addr) (S : List Int) (cap : Nat) (hSp : Sp S) (ac : Option Addr) (C : List Int) (capc : Nat) (hlen : C.length ≤ 1024) (hC : ∀ x, x ∈ C → 0 ≤ x ∧ x ≤ 9223372036854775807) (w : World) (hS : Ints w ao S) (hCI : Ints w ac C) :
    Calls Tryz.prog 65 #[.agg #[.slice ao S.length cap], .slice ac C.length capc] w fun e w' => ∃ v, e = .returned v ∧ OwnInts w' w.heap.size v (wcTo S C C.length) ∧ Below w.heap.size w w' := by
  obtain ⟨i0, hi, hz0, hz1, hz2⟩ := info_parts infoI64
  have HSp := Lib.hid hSp
  have HC := Lib.hid hC
  have hlo := hSp.lo
  have hhi := hSp.hi
  have B0 : Below w.heap.size w (w.alloc (.cells #[.slice ao S.length cap] 26)) := by go_grown
  have c1 := cell_new w (.slice ao S.length cap) 26
  have l1 := lt_alloc w (.cells #[.slice ao S.length cap] 26)
  clear hSp hC
  go_enter Tryz.func65, Tryz.ntmps65
  go_wp2_with (at_make; refine wpList_make_full _ rfl _ _ 24 rfl (w.heap.size + 1) 2 i0 (.int .i64 0) 1 Tryz.underlying24 hi hz0 hz1 .i64 .i64 ((S.length : Int) + 1) ((S.length : Int) + 1) (S.length + 1) rfl rfl (by simp) (by simp) (by rw [hz2]; omega) (by unfold maxLen; omega) (by simp) ?_; intro w2 hown hgrow; have hb2 := below_grown0 hgrow; have c2 := kept_cell hb2 c1 l1)
  replace hown := own_made hown
  rw [← wcTo_0 S C] at hown
  have B2 : Below w.heap.size w w2 := B0.trans (hb2.mono (by simp))
  have s2 := B2.size
  obtain ⟨q, hq⟩ : ∃ q, q = w.heap.size + 1 := ⟨_, rfl⟩
  simp only [World.size_alloc] at hown
  rw [← hq] at hown
  try rw [← hq]
  have hqw : w.heap.size < q := by omega
  clear c1 hgrow hb2 B0 hq
  refine (weights_any ao S cap HSp.out ac C capc (by omega) HC.out _ (hS.below B2) (hCI.below B2)).mono ?_
  rintro e w3 ⟨g, rfl, ownW, hb3⟩
  have own3 := hown.below hb3
  have B3 := B2.trans (hb3.mono s2)
  have hgw := ownW.base_le
  have hq2 := hown.base_le.2
  have hcell : Hid (∀ j, j < C.length → w3.cell? ⟨g, j, none⟩ = some (.int .i64 (dist S 0 (gi C j)))) := Lib.hid fun j hj => by
    have h := ownW.cell (k := j) (by simpa using hj)
    have e : gi (C.map (dist S 0)) j = dist S 0 (gi C j) := by simp [gi, hj]
    rw [e] at h; exact h
  clear hown hb3 B2 c2 ownW
  go_wp2_with fail
  go_loopw [17] (fun i wr => ∃ k : Nat, k ≤ C.length ∧ i = .int .i64 k ∧ OwnInts wr q (.slice (some ⟨q, 0, none⟩) (S.length + 1) (S.length + 1)) (wcTo S C k) ∧ w3.grownBy wr (some q)) (fun i _ => C.length - (intOf i).toNat)
  case atStart => exact ⟨0, Nat.zero_le _, rfl, own3, grown_of_below (Below.refl _ _) _⟩
  case round =>
    clear own3
    obtain ⟨k, hk, rfl, own, G⟩ := hrel
    by_cases hlt : k < C.length
    · have hck := G.cell (a := ⟨g, k, none⟩) (hcell.out k hlt) (by simp; omega)
      obtain ⟨d1, d2⟩ := dist_bd S 0 (gi C k)
      obtain ⟨D, hD⟩ : ∃ D : Nat, dist S 0 (gi C k) = (D : Int) := ⟨_, (Int.toNat_of_nonneg d1).symm⟩
      rw [hD] at d1 d2 hck
      have hDl : D < S.length + 1 := by omega
      have hD0 : (0 : Int) ≤ (D : Int) := by omega
      have hD1 : (D : Int) < (S.length : Int) + 1 := by omega
      obtain ⟨s1, s2⟩ := wcTo_bd S C k D
      have HL : Hid ((wcTo S C k).set D (gi (wcTo S C k) D + 1) = wcTo S C (k + 1)) := Lib.hid (wcTo_step S C k D hD)
      have HN : Hid ((wcTo S C k).length = S.length + 1) := Lib.hid (wcTo_len _ _ _)
      obtain ⟨L, hL⟩ : ∃ L, L = wcTo S C k := ⟨_, rfl⟩
      rw [← hL] at own s1 s2 HL HN
      have EW : IntKind.i64.wrap (gi L D + 1) = gi L D + 1 := IntWalk.i64_in _ ⟨by omega, by omega⟩
      have hcell4 := own.cell (k := D) (by rw [HN.out]; omega)
      have hfree4 := own.free D
      clear hL hD d1 d2
      go_wp2_with fail
      go_roundw
      case rel => exact ⟨k + 1, by omega, by go_num, by rw [← HL.out]; exact own.stored D _, grown_setCell G _ _⟩
      case measure => simp [intOf]; omega
    · have ek : k = C.length := by omega
      go_wp2_with fail
      go_ret
      exact ⟨_, rfl, by rw [← ek]; exact own.rebase (by omega), B3.grown G B3.size (by intro z hz; simp at hz; omega)⟩

theorem impl_WeightCounts (ao : Option Addr) (S : List Int) (cap : Nat) (hn : S.length ≤ 4294967296) (ac : Option Addr) (C : List Int) (capc : Nat) (hnc : C.length ≤ 4294967296) (w : World) (hS : Ints w ao S) (hC : Ints w ac C) :
    Calls Tryz.prog 17 #[.agg #[.slice ao S.length cap], .slice ac C.length capc] w fun e w' => ∃ v, e = .returned (.tuple #[v, .int .i64 (eCode S C)]) ∧ OwnInts w' w.heap.size v (vWc S C) ∧ Below w.heap.size w w' := by
  have B0 : Below w.heap.size w (w.alloc (.cells #[.slice ao S.length cap] 26)) := by go_grown
  have c0 := cell_new w (.slice ao S.length cap) 26
  have l0 := lt_alloc w (.cells #[.slice ao S.length cap] 26)
  by_cases hz : eCode S C = 0
  · obtain ⟨hSp, hc1, hc2⟩ := eCode_zero hz
    have hlen := code_len hSp hc1 hc2
    have N := nW_bd hSp
    have HSp := Lib.hid hSp
    have HC1 : Hid (∀ x, x ∈ C → 0 ≤ x ∧ x ≤ 9223372036854775807) := Lib.hid fun x h => by obtain ⟨i, hi, rfl⟩ := mem_gi h; have := hc1 i hi; omega
    have HV : Hid (vWc S C = wcTo S C C.length) := Lib.hid (by unfold vWc; rw [if_pos hz])
    have hzn : (eCode S C != 0) = false := by simp [hz]
    have HZ := Lib.hid hz
    clear hSp hc1 hc2 N hz
    go_enter Tryz.func17, Tryz.ntmps17
    go_wp2_with fail
    refine (codeError_any ao S cap hn ac C capc hnc _ (hS.below B0) (hC.below B0)).mono ?_
    rintro e w1 ⟨rfl, hb⟩
    have c1 := kept_cell hb c0 l0
    have B1 : Below w.heap.size w w1 := B0.trans (hb.mono B0.size)
    have s1 := B1.size
    clear hb B0 c0 l0
    go_wp2_with fail
    refine (weightCounts_any ao S cap HSp.out ac C capc hlen HC1.out _ (hS.below B1) (hC.below B1)).mono ?_
    rintro e w2 ⟨v, rfl, own, hb⟩
    go_wp2_with fail
    go_ret2
    exact ⟨_, by rw [HZ.out]; rfl, by rw [HV.out]; exact own.rebase s1, B1.trans (hb.mono s1)⟩
  · have hzn : (eCode S C != 0) = true := by simpa using hz
    have HV : Hid (vWc S C = []) := Lib.hid (by unfold vWc; rw [if_neg hz])
    clear hz
    go_enter Tryz.func17, Tryz.ntmps17
    go_wp2_with fail
    refine (codeError_any ao S cap hn ac C capc hnc _ (hS.below B0) (hC.below B0)).mono ?_
    rintro e w1 ⟨rfl, hb⟩
    go_wp2_with fail
    go_ret2
    exact ⟨_, rfl, by rw [HV.out]; exact own_nil _ _, B0.trans (hb.mono B0.size)⟩

end Go.Proofs.YtcnnijeokefboaaGreatDoor

namespace Go.Proofs.YtcnnijeokefboaaGreatDoor
open Go.RowKit Cv
set_option linter.unusedVariables false
set_option linter.unusedSimpArgs false
set_option maxRecDepth 100000

set_option maxHeartbeats 2000000 in
theorem dualCounts_any (ao : Option Addr) (S : List Int) (cap : Nat) (hP : Pl S) (ac : Option Addr) (C : List Int) (capc : Nat) (hA : Asc C) (hg : Gp S C) (hl : C.length ≤ 1024) (w : World) (hS : Ints w ao S) (hCI : Ints w ac C) :
    Calls Tryz.prog 64 #[.agg #[.slice ao S.length cap, .slice ac C.length capc]] w fun e w' => ∃ v, e = .returned v ∧ OwnInts w' w.heap.size v (wcTo S (duL S C) (duL S C).length) ∧ Below w.heap.size w w' := by
  obtain ⟨W0, hW0, c0, d0, z0, B0⟩ := boxd2 w (.slice ao S.length cap) (.slice ac C.length capc) 64
  have HDA := Lib.hid (fun W (h1 : Ints W ao S) (h2 : Ints W ac C) => dualCode_any ao S cap hP ac C capc hA hg hl W h1 h2)
  have HNE : Hid (duL S C ≠ []) := Lib.hid (duL_ne hP)
  have HDL : Hid ((duL S C).length ≤ 1024) := Lib.hid (duL_len hP.sp C)
  have HDB : Hid (∀ x, x ∈ duL S C → 0 ≤ x ∧ x ≤ 9223372036854775807) := Lib.hid fun x hx => duL_bd hP.sp hx
  have HSp := Lib.hid hP.sp
  have HW0 := Lib.hid hW0
  have c0e := c0
  have d0e := d0
  rw [hW0] at c0e d0e
  clear hW0 hP hA hg
  go_enter Tryz.func64, Tryz.ntmps64
  go_wp2_with fail
  rw [← HW0.out]
  clear c0e d0e
  refine wp_region_held_drew (S := fun w' => w'.cell? ⟨w.heap.size, 0, none⟩ = some (.slice ao S.length cap) ∧ w'.cell? ⟨w.heap.size, 1, none⟩ = some (.slice ac C.length capc)) (by kernel_rfl) ⟨c0, d0⟩ (fun hHeld => ?_)
  refine wpAnyH_take (i := 0) (v := ?_) rfl (by kernel_rfl) (by kernel_rfl) (by kernel_rfl) (fun _ _ _ h => h) (Or.inl ⟨by rfl, ?_⟩) (by assumption) ?_
  rotate_left
  · (intro w hSw; obtain ⟨hSa, hSb⟩ := hSw; (try dsimp only at hSa hSb); go_simp; try (with_reducible rfl))
  (try simp only [Act.put, List.setIfInBounds_toArray, List.set_cons_zero, List.set_cons_succ])
  refine wpAnyH_take (i := 1) (v := ?_) rfl (by kernel_rfl) (by kernel_rfl) (by kernel_rfl) (fun _ _ _ h => h) (Or.inl ⟨by rfl, ?_⟩) (by assumption) ?_
  rotate_left
  · (intro w hSw; obtain ⟨hSa, hSb⟩ := hSw; (try dsimp only at hSa hSb); go_simp; try (with_reducible rfl))
  (try simp only [Act.put, List.setIfInBounds_toArray, List.set_cons_zero, List.set_cons_succ])
  refine wpAnyH_take (i := 2) (v := ?_) rfl (by kernel_rfl) (by kernel_rfl) (by kernel_rfl) (fun _ _ _ h => h) (Or.inl ⟨by rfl, ?_⟩) (by assumption) ?_
  rotate_left
  · (intro w hSw; obtain ⟨hSa, hSb⟩ := hSw; (try dsimp only at hSa hSb); go_simp; try (with_reducible rfl))
  (try simp only [Act.put, List.setIfInBounds_toArray, List.set_cons_zero, List.set_cons_succ])
  refine wpAnyH_ready (rs := [3]) (by kernel_rfl) (by simp) ?_
  refine AllReadyH.cons rfl (fun K hK => ?_) AllReadyH.nil
  go_simp
  (go_at_call 60; refine (HDA.out W0.drew (hS.below B0.drew) (hCI.below B0.drew)).mono ?_)
  rintro e w1 ⟨v1, rfl, o1, hb1'⟩
  have hb1 : Below W0.heap.size W0 w1 := (Below.refl _ W0).drew.trans hb1'
  have c1 := kept_cell hb1 c0 (by omega)
  have d1 := kept_cell hb1 d0 (by omega)
  have B1 := B0.trans (hb1.mono B0.size)
  obtain ⟨g1, k1, rfl, _⟩ := own_some o1 HNE.out
  refine hK.out _ _ (⟨c1, d1⟩) (fun hHeld => ?_)
  clear hK K
  (try simp only [Act.put, List.setIfInBounds_toArray, List.set_cons_zero, List.set_cons_succ])
  refine wpAnyH_ready (rs := [4]) (by kernel_rfl) (by simp) ?_
  refine AllReadyH.cons rfl (fun K hK => ?_) AllReadyH.nil
  go_simp
  (go_at_call 65; refine (weightCounts_any ao S cap HSp.out _ (duL S C) k1 HDL.out HDB.out _ (hS.below B1) (own_ints o1)).mono ?_)
  rintro e w2 ⟨v2, rfl, o2, hb2⟩
  have c2 := kept_cell hb2 c1 (by have := hb1.size; omega)
  have d2 := kept_cell hb2 d1 (by have := hb1.size; omega)
  have B2 := B1.trans (hb2.mono B1.size)
  refine hK.out _ _ (⟨c2, d2⟩) (fun hHeld => ?_)
  clear hK K
  (try simp only [Act.put, List.setIfInBounds_toArray, List.set_cons_zero, List.set_cons_succ])
  refine wpAnyH_take (i := 5) (v := ?_) rfl (by kernel_rfl) (by kernel_rfl) (by kernel_rfl) (fun _ _ _ h => h) (Or.inl ⟨by rfl, ?_⟩) (by assumption) ?_
  rotate_left
  · (intro w hSw; obtain ⟨hSa, hSb⟩ := hSw; (try dsimp only at hSa hSb); go_simp; try (with_reducible rfl))
  (try simp only [Act.put, List.setIfInBounds_toArray, List.set_cons_zero, List.set_cons_succ])
  refine wpAnyH_done (by kernel_rfl) ?_ _
  simp only [List.getElem_toArray, List.getElem_cons_succ, List.getElem_cons_zero, Act.put, List.setIfInBounds_toArray, List.set_cons_zero, List.set_cons_succ]
  go_wp2_with fail
  go_ret
  exact ⟨v2, rfl, o2.rebase B1.size, B2⟩

theorem impl_DualCounts (ao : Option Addr) (S : List Int) (cap : Nat) (hn : S.length ≤ 4294967296) (ac : Option Addr) (C : List Int) (capc : Nat) (hnc : C.length ≤ 4294967296) (pv : Value) (w : World) (hG : Glob pv w) (hS : Ints w ao S) (hC : Ints w ac C) :
    Calls Tryz.prog 16 #[.agg #[.slice ao S.length cap], .slice ac C.length capc] w fun e w' => ∃ v, e = .returned (.tuple #[v, .int .i64 (eLin S C)]) ∧ OwnInts w' w.heap.size v (vDc S C) ∧ Below w.heap.size w w' := by
  have B0 : Below w.heap.size w (w.alloc (.cells #[.slice ao S.length cap] 26)) := by go_grown
  have c0 := cell_new w (.slice ao S.length cap) 26
  have hpos := hG.2
  have hG0 := hG.below B0 hpos
  by_cases hc0 : eCode S C = 0
  · cases hlb : linB S C with
    | true =>
      obtain ⟨hP, hg⟩ := lin_gp hc0 hlb
      have hlen := code_len0 hc0
      have hA := asc_code hc0
      have HE : Hid (eLin S C = 0) := Lib.hid (by unfold eLin; rw [if_pos hc0, if_pos hlb])
      have HV : Hid (vDc S C = dcL S C) := Lib.hid (by unfold vDc; rw [if_pos HE.out])
      have HA := Lib.hid (askLinearL_yes ao S cap hn ac C capc hnc hc0 hlb 64 (enters_of Tryz.func64 (by kernel_rfl) rfl) #[] #[] (dcL S C) _ (hS.below B0) (hC.below B0) (fun W hb => dualCounts_any ao S cap hP ac C capc hA hg hlen W ((hS.below B0).below hb) ((hC.below B0).below hb)))
      clear hc0 hlb hP hg hlen hG0 hA
      go_enter Tryz.func16, Tryz.ntmps16
      go_wp2_with fail
      refine HA.out.mono ?_
      rintro e w2 ⟨v, rfl, own, hb2⟩
      go_wp2_with fail
      go_ret2
      exact ⟨_, by rw [HE.out]; try rfl, by rw [HV.out]; exact own.rebase B0.size, B0.trans (hb2.mono B0.size)⟩
    | false =>
      have HE : Hid (eLin S C = 5) := Lib.hid (by unfold eLin; rw [if_pos hc0, if_neg (by rw [hlb]; decide)])
      have HV : Hid (vDc S C = []) := Lib.hid (by unfold vDc; rw [if_neg (by rw [HE.out]; decide)])
      have HA := Lib.hid (askLinearL_no ao S cap hn ac C capc hnc hc0 hlb 64 #[] #[] pv _ (hS.below B0) (hC.below B0) hG0)
      clear hc0 hlb hG0
      go_enter Tryz.func16, Tryz.ntmps16
      go_wp2_with fail
      refine HA.out.mono ?_
      rintro e w2 ⟨rfl, hb2⟩
      go_wp2_with fail
      go_ret2
      exact ⟨_, by rw [HE.out]; try rfl, by rw [HV.out]; exact own_nil _ _, B0.trans (hb2.mono B0.size)⟩
  · have HE : Hid (eLin S C = eCode S C) := Lib.hid (by unfold eLin; rw [if_neg hc0])
    have HV : Hid (vDc S C = []) := Lib.hid (by unfold vDc; rw [if_neg (by rw [HE.out]; exact hc0)])
    have HA := Lib.hid (askLinearL_err ao S cap hn ac C capc hnc hc0 64 #[] #[] _ (hS.below B0) (hC.below B0))
    clear hc0 hG0
    go_enter Tryz.func16, Tryz.ntmps16
    go_wp2_with fail
    refine HA.out.mono ?_
    rintro e w2 ⟨rfl, hb2⟩
    go_wp2_with fail
    go_ret2
    exact ⟨_, by rw [HE.out]; try rfl, by rw [HV.out]; exact own_nil _ _, B0.trans (hb2.mono B0.size)⟩

end Go.Proofs.YtcnnijeokefboaaGreatDoor
