/-
  The contracts of the program's dualCode and DualCode. By an AI agent.
-/
import Derived.Test.YtcnnijeokefboaaGreatDoorPk34
import Derived.Test.YtcnnijeokefboaaGreatDoorPk21
import Derived.Test.YtcnnijeokefboaaGreatDoorPkBas
import Derived.Deep.RegionHeld3
namespace Go.Proofs.YtcnnijeokefboaaGreatDoor
open Go.RowKit Cv
set_option linter.unusedVariables false
set_option linter.unusedSimpArgs false
set_option maxRecDepth 100000

theorem dual11_any (ao : Option Addr) (S : List Int) (cap g : Nat) (hP : Pl S) (G : List Int) (k : Nat) (hG : Wd S (gi G k)) (x : Int) (hx : Wd S x) (xb : Nat) (w : World) (hS : Ints w ao S) (hI : Ints w (some ⟨g, k * S.length, none⟩) (digs S (gi G k))) (hxb : w.cell? ⟨xb, 0, none⟩ = some (.int .i64 x)) :
    Calls Tryz.prog 116 #[chkVal ao S cap g G k, .pointer (some ⟨xb, 0, none⟩)] w fun e w' => e = .returned (.bool (prW S (gi G k) x != 0)) ∧ Below w.heap.size w w' := by
  by_cases h2 : gi S 0 = 2
  · have hb := bitRest_any S hP h2 (gi G k) x hG hx w
    unfold chkVal
    rw [if_pos h2]
    clear hI hS
    obtain ⟨c, hc⟩ : ∃ c, c = gi G k := ⟨_, rfl⟩
    obtain ⟨p, hp⟩ : ∃ p, p = prW S c x := ⟨_, rfl⟩
    rw [← hc, ← hp] at hb ⊢
    clear hc hp h2 hG
    go_enter Tryz.func116, Tryz.ntmps116
    go_wp2_with fail
    refine hb.mono ?_
    rintro e w1 ⟨rfl, hb1⟩
    go_wp2_with fail
    go_ret
    exact ⟨rfl, hb1⟩
  · have hb := digRest_any ao S cap hP (gi G k) x g (k * S.length) hx w hS hI
    unfold chkVal
    rw [if_neg h2]
    clear hI hS
    obtain ⟨c, hc⟩ : ∃ c, c = gi G k := ⟨_, rfl⟩
    obtain ⟨p, hp⟩ : ∃ p, p = prW S c x := ⟨_, rfl⟩
    rw [← hc, ← hp] at hb ⊢
    clear hc hp h2 hG
    go_enter Tryz.func116, Tryz.ntmps116
    go_wp2_with fail
    refine hb.mono ?_
    rintro e w1 ⟨rfl, hb1⟩
    go_wp2_with fail
    go_ret
    exact ⟨rfl, hb1⟩

theorem deleteFunc_n (n g cap K : Nat) (L : List Int) (hK : K = L.length) (f : Nat) (eg : ∀ args w, (callFunc f args).run Tryz.prog w = .ok (.enter f args) w) (pre post : Array Value) (p : Int → Bool) (w : World) (hl : L.length ≤ 4294967296)
    (hrow : OwnInts w n (.slice (some ⟨g, 0, none⟩) K cap) L) (hp : PredN f pre post p n w L) :
    Calls Tryz.prog 112 #[.slice (some ⟨g, 0, none⟩) K cap, .func (.func f) pre post] w fun e w' => ∃ v, e = .returned v ∧ OwnInts w' n v (L.filter fun x => !p x) ∧ w.grownBy w' (some g) := by
  subst hK; exact deleteFunc_any n g cap L f eg pre post p w hl hrow hp
theorem upto_sel (N : Nat) (f : Int → Bool) : ((upto N).filter fun x => !(!f x)) = selL (fun (i : Nat) => f (i : Int)) N := by
  simp only [Bool.not_not, upto, selL, List.filter_map]; rfl

/-- whether a word is not upright to some word of a list, as a function value -/
theorem dual1_pred (ao : Option Addr) (S : List Int) (cap g : Nat) (hP : Pl S) (G : List Int) (hlG : G.length ≤ 1024) (hG : ∀ k, k < G.length → Wd S (gi G k)) (v : Value) (base cb n : Nat) (L : List Int) (hL : ∀ x, x ∈ L → Wd S x) (w w0 : World) (hn : w0.heap.size ≤ n) (hnw : n ≤ w.heap.size) (hb0 : Below n w0 w) (hcb : cb < n) (hcv : w.cell? ⟨cb, 0, none⟩ = some v) (hch : ChksAt w0 base v ao S cap g G) (hS : Ints w0 ao S) :
    PredN 114 #[] #[.pointer (some ⟨cb, 0, none⟩)] (fun x => !upB S G x G.length) n w L := by
  intro W x hb hx
  have hxw := hL x hx
  have hb2 : Below w0.heap.size w0 W := (hb0.trans hb).mono hn
  have hcW := kept_cell hb hcv hcb
  have hchW := hch.below hb2
  obtain ⟨a, c, rfl, hV⟩ := vals_row hchW.row (chkVals_len _ _ _ _ _ _)
  have hSW := hS.below hb2
  have B1 : Below W.heap.size W (W.alloc (.cells #[.int .i64 x] 2)) := (Below.refl _ _).alloc (Nat.le_refl _) _
  have hcon := containsFunc_chks a c (chkVals ao S cap g G G.length) 116 (enters_of Tryz.func116 (by kernel_rfl) rfl) #[] #[.pointer (some ⟨W.heap.size, 0, none⟩)] (fun j => prW S (gi G j) x != 0) _ (by rw [chkVals_len]; omega) (hV.below B1) (fun W2 j u hb' hu => by
    have hj : j < G.length := by have := (List.getElem?_eq_some_iff.1 hu).1; rwa [chkVals_len] at this
    rw [chkVals_at _ _ _ _ _ _ _ hj] at hu
    obtain rfl := Option.some.inj hu
    have hbW : Below W.heap.size W W2 := B1.trans (hb'.mono B1.size)
    exact dual11_any ao S cap g hP G j (hG j hj) x hxw W.heap.size W2 (hSW.below hbW) ((hchW.ints j hj).below hbW) (kept_cell hb' (cell_new _ _ _) (lt_alloc _ _)))
  rw [chkVals_len] at hcon
  have hres : decide (∃ j, j < G.length ∧ (prW S (gi G j) x != 0) = true) = !upB S G x G.length := by
    unfold upB
    rw [Bool.eq_iff_iff]
    simp only [decide_eq_true_eq, Bool.not_eq_true', decide_eq_false_iff_not, bne_iff_ne]
    constructor
    · rintro ⟨j, hj, h⟩ hall; exact h (hall j hj)
    · intro h
      apply Classical.byContradiction
      intro g'
      exact h fun i hi => Classical.byContradiction fun e => g' ⟨i, hi, e⟩
  rw [hres] at hcon
  have HC := Lib.hid hcon
  show Calls Tryz.prog 114 #[.int .i64 x, .pointer (some ⟨cb, 0, none⟩)] W fun e w' => e = .returned (.bool (!upB S G x G.length)) ∧ Below W.heap.size W w'
  obtain ⟨r, hr⟩ : ∃ r, r = !upB S G x G.length := ⟨_, rfl⟩
  obtain ⟨m, hm⟩ : ∃ m, m = G.length := ⟨_, rfl⟩
  have hsW := hb.size
  have lcb : cb < W.heap.size := by omega
  rw [← hr] at HC ⊢
  rw [← hm] at HC hcW
  clear hcon hres hr hV hchW hSW hb hb2 hm hch hcv hS hb0 hG hL hx
  go_enter Tryz.func114, Tryz.ntmps114
  go_wp2_with fail
  refine HC.out.mono ?_
  rintro e w1 ⟨rfl, hb1⟩
  go_wp2_with fail
  go_ret
  exact ⟨rfl, B1.trans (hb1.mono B1.size)⟩

set_option maxHeartbeats 4000000 in
theorem dualCode_any (ao : Option Addr) (S : List Int) (cap : Nat) (hP : Pl S) (ac : Option Addr) (C : List Int) (capc : Nat) (hA : Asc C) (hg : Gp S C) (hl : C.length ≤ 1024) (w : World) (hS : Ints w ao S) (hCI : Ints w ac C) :
    Calls Tryz.prog 60 #[.agg #[.slice ao S.length cap, .slice ac C.length capc]] w fun e w' => ∃ v, e = .returned v ∧ OwnInts w' w.heap.size v (duL S C) ∧ Below w.heap.size w w' := by
  obtain ⟨W0, hW0, c0, d0, z0, B0⟩ := boxd2 w (.slice ao S.length cap) (.slice ac C.length capc) 64
  have HP := Lib.hid hP
  have HBl := Lib.hid (basUp_len S C S.length)
  have HBw : Hid (∀ i, i < (basUp S C S.length).length → Wd S (gi (basUp S C S.length) i)) := Lib.hid fun i hi => hg.wd _ (basUp_mem S C _ _ (gi_mem hi))
  have HDU := Lib.hid (duL_bas hP hg)
  have hhi := hP.sp.hi
  have HLB := Lib.hid (fun W (h1 : Ints W ao S) (h2 : Ints W ac C) => leastBasis_any ao S cap hP ac C capc hA hl W h1 h2)
  obtain ⟨G, hG⟩ : ∃ G, G = basUp S C S.length := ⟨_, rfl⟩
  rw [← hG] at HBl HBw HDU HLB
  have HCK := Lib.hid (fun W a c (h1 : Ints W ao S) (h2 : Ints W a G) => checksOf_any ao S cap hP a G c (by have := HBl.out; omega) HBw.out W h1 h2)
  obtain ⟨N, hN⟩ : ∃ N : Nat, nW S = (N : Int) := ⟨(nW S).toNat, by have := (nW_bd hP.sp).1; omega⟩
  have HN := Lib.hid hN
  have HW0 := Lib.hid hW0
  have z0a : w.heap.size + 1 ≤ W0.heap.size := by omega
  have c0e := c0
  have d0e := d0
  rw [hW0] at c0e d0e
  clear hW0 hP hA hg hG hN z0
  go_enter Tryz.func60, Tryz.ntmps60
  go_wp2_with fail
  rw [← HW0.out]
  clear c0e d0e
  refine wp_region_held_drew (S := fun w' => w'.cell? ⟨w.heap.size, 0, none⟩ = some (.slice ao S.length cap) ∧ w'.cell? ⟨w.heap.size, 1, none⟩ = some (.slice ac C.length capc)) (by kernel_rfl) ⟨c0, d0⟩ (fun hHeld => ?_)
  refine wpAnyH_take (i := 0) (v := ?_) rfl (by kernel_rfl) (by kernel_rfl) (by kernel_rfl) (fun _ _ _ h => h) (Or.inl ⟨by rfl, ?_⟩) (by assumption) ?_
  rotate_left
  · (intro w hSw; obtain ⟨hSa, hSb⟩ := hSw; (try dsimp only at hSa hSb); go_simp; try (with_reducible rfl))
  (try simp only [Act.put, List.setIfInBounds_toArray, List.set_cons_zero, List.set_cons_succ])
  refine wpAnyH_take (i := 1) (v := ?_) rfl (by kernel_rfl) (by kernel_rfl) (by kernel_rfl) (fun _ _ _ h => h) (Or.inl ⟨by rfl, ?_⟩) (by assumption) ?_
  rotate_left
  · (intro w hSw; obtain ⟨hSa, hSb⟩ := hSw; (try dsimp only at hSa hSb); go_simp; try (with_reducible rfl))
  (try simp only [Act.put, List.setIfInBounds_toArray, List.set_cons_zero, List.set_cons_succ])
  refine wpAnyH_take (i := 2) (v := ?_) rfl (by kernel_rfl) (by kernel_rfl) (by kernel_rfl) (fun _ _ _ h => h) (Or.inl ⟨by rfl, ?_⟩) (by assumption) ?_
  rotate_left
  · (intro w hSw; obtain ⟨hSa, hSb⟩ := hSw; (try dsimp only at hSa hSb); go_simp; try (with_reducible rfl))
  (try simp only [Act.put, List.setIfInBounds_toArray, List.set_cons_zero, List.set_cons_succ])
  refine wpAnyH_ready (rs := [3, 5]) (by kernel_rfl) (by simp) ?_
  have B0' : Below w.heap.size w W0.drew := B0.drew
  have c0' : W0.drew.cell? ⟨w.heap.size, 0, none⟩ = some (.slice ao S.length cap) := c0
  have d0' : W0.drew.cell? ⟨w.heap.size, 1, none⟩ = some (.slice ac C.length capc) := d0
  have s0 : w.heap.size < W0.heap.size := by omega
  have s0' : w.heap.size < W0.drew.heap.size := s0
  refine AllReadyH.cons rfl (fun K hK => ?_) ?_
  · go_simp
    (go_at_call 61; refine (HLB.out _ (hS.below B0') (hCI.below B0')).mono ?_)
    rintro e w1 ⟨vB, rfl, own1, hb1⟩
    obtain ⟨aB, kB, hvB, iB1⟩ := own1.ints
    subst hvB
    have c1 := kept_cell hb1 c0' s0'
    have d1 := kept_cell hb1 d0' s0'
    have B1 := B0'.trans (hb1.mono B0'.size)
    have s1 := lt_of_below hb1 s0'
    refine hK.out _ _ (⟨c1, d1⟩) (fun hHeld => ?_)
    clear hK K
    (try simp only [Act.put, List.setIfInBounds_toArray, List.set_cons_zero, List.set_cons_succ])
    refine wpAnyH_ready (rs := [4, 5]) (by kernel_rfl) (by simp) ?_
    refine AllReadyH.cons rfl (fun K hK => ?_) ?_
    · go_simp
      (go_at_call 67; refine (HCK.out _ _ _ (hS.below B1) iB1).mono ?_)
      rintro e w2 ⟨vC, rfl, hck2, hb2⟩
      obtain ⟨g, hck2⟩ := hck2
      obtain ⟨aC, kC, hvC, _⟩ := vals_row hck2.row (chkVals_len _ _ _ _ _ _)
      subst hvC
      have c2 := kept_cell hb2 c1 s1
      have d2 := kept_cell hb2 d1 s1
      have B2 := B1.trans (hb2.mono B1.size)
      have s2 := lt_of_below hb2 s1
      refine hK.out _ _ (⟨c2, d2⟩) (fun hHeld => ?_)
      clear hK K
      (try simp only [Act.put, List.setIfInBounds_toArray, List.set_cons_zero, List.set_cons_succ])
      refine wpAnyH_ready (rs := [5]) (by kernel_rfl) (by simp) ?_
      refine AllReadyH.cons rfl (fun K hK => ?_) AllReadyH.nil
      go_simp
      obtain ⟨w3, hw3⟩ : ∃ w3, w3 = w2.alloc (.cells #[.slice none 0 0] 69) := ⟨_, rfl⟩
      have ha3 : Below w2.heap.size w2 w3 := by rw [hw3]; exact (Below.refl _ _).alloc (Nat.le_refl _) _
      have z3 : w2.heap.size < w3.heap.size := by rw [hw3]; exact lt_alloc _ _
      have p3 : w3.cell? ⟨w2.heap.size, 0, none⟩ = some (.slice none 0 0) := by rw [hw3]; exact cell_new _ _ _
      have f3 : w3.frozen? ⟨w2.heap.size, 0, none⟩ = false := by rw [hw3]; simp
      rw [← hw3]
      clear hw3
      have c3 := kept_cell ha3 c2 s2
      have d3 := kept_cell ha3 d2 s2
      have B3 := B2.trans (ha3.mono B2.size)
      have s3 := lt_of_below ha3 s2
      refine hK.out _ _ (⟨c3, d3⟩) (fun hHeld => ?_)
      clear hK K
      (try simp only [Act.put, List.setIfInBounds_toArray, List.set_cons_zero, List.set_cons_succ])
      refine wpAnyH_ready (rs := [6]) (by kernel_rfl) (by simp) ?_
      refine AllReadyH.cons rfl (fun K hK => ?_) AllReadyH.nil
      have hne : w.heap.size ≠ w2.heap.size := by omega
      go_simp
      have c4 := cell_set_other (a := ⟨w2.heap.size, 0, none⟩) (u := (.slice aC G.length kC)) c3 (by simpa using hne)
      have d4 := cell_set_other (a := ⟨w2.heap.size, 0, none⟩) (u := (.slice aC G.length kC)) d3 (by simpa using hne)
      have p4 : (w3.setCell ⟨w2.heap.size, 0, none⟩ (.slice aC G.length kC)).cell? ⟨w2.heap.size, 0, none⟩ = some (.slice aC G.length kC) := World.cell?_setCell_same' _ _ _ (by rw [p3]; rfl)
      have z4 : w2.heap.size < (w3.setCell ⟨w2.heap.size, 0, none⟩ (.slice aC G.length kC)).heap.size := by simpa using z3
      have B4 : Below w.heap.size w (w3.setCell ⟨w2.heap.size, 0, none⟩ (.slice aC G.length kC)) := B3.setCell (by show w.heap.size ≤ w2.heap.size; omega) (.slice aC G.length kC)
      have ck4 : ChksAt (w3.setCell ⟨w2.heap.size, 0, none⟩ (.slice aC G.length kC)) w1.heap.size (.slice aC G.length kC) ao S cap g G := hck2.below (ha3.setCell (Nat.le_refl _) _)
      obtain ⟨w4, hw4⟩ : ∃ w4, w4 = w3.setCell ⟨w2.heap.size, 0, none⟩ (.slice aC G.length kC) := ⟨_, rfl⟩
      rw [← hw4] at c4 d4 p4 z4 B4 ck4
      try rw [← hw4]
      have s4 := Nat.lt_of_lt_of_le s3 (show w3.heap.size ≤ w4.heap.size by rw [hw4]; simp)
      clear hw4
      refine hK.out _ _ (⟨c4, d4⟩) (fun hHeld => ?_)
      clear hK K
      (try simp only [Act.put, List.setIfInBounds_toArray, List.set_cons_zero, List.set_cons_succ])
      refine wpAnyH_done (by kernel_rfl) ?_ _
      go_wp2_with fail
      refine (allWords_any ao S cap HP.out.sp N HN _ (hS.below B4)).mono ?_
      rintro e w5 ⟨q, rfl, o5, hb5⟩
      have q5 := o5.base_le
      have p5 := kept_cell hb5 p4 z4
      have B5 := B4.trans (hb5.mono B4.size)
      have hdel := deleteFunc_n w4.heap.size q N N (upto N) (upto_len N).symm 114 (enters_of Tryz.func114 (by kernel_rfl) rfl) #[] #[.pointer (some ⟨w2.heap.size, 0, none⟩)] (fun x => !upB S G x G.length) w5 (by rw [upto_len]; have := (nW_bd HP.out.sp).2; have := HN.out; omega) o5 (dual1_pred ao S cap g HP.out G (by have := HBl.out; omega) HBw.out (.slice aC G.length kC) _ w2.heap.size w4.heap.size (upto N) (fun x hx => by obtain ⟨i, hi, rfl⟩ := mem_gi hx; rw [upto_len] at hi; rw [gi_upto _ _ hi]; have := HN.out; unfold Wd; omega) w5 w4 (Nat.le_refl _) hb5.size hb5 z4 p5 ck4 (hS.below B4))
      have HDEL := Lib.hid hdel
      clear hdel
      go_wp2_with fail
      refine HDEL.out.mono ?_
      rintro e w6 ⟨v6, rfl, own6, hg6⟩
      rw [upto_sel N (fun x => upB S G x G.length)] at own6
      rw [show N = (nW S).toNat by have := HN.out; omega, ← HDU.out] at own6
      go_wp2_with fail
      go_ret
      exact ⟨_, rfl, own6.rebase B4.size, B5.grown hg6 B5.size (by intro z hz; simp at hz; have := B4.size; omega)⟩
    refine AllReadyH.cons rfl (fun K hK => ?_) AllReadyH.nil
    go_simp
    obtain ⟨w2, hw2⟩ : ∃ w2, w2 = w1.alloc (.cells #[.slice none 0 0] 69) := ⟨_, rfl⟩
    have ha2 : Below w1.heap.size w1 w2 := by rw [hw2]; exact (Below.refl _ _).alloc (Nat.le_refl _) _
    have z2 : w1.heap.size < w2.heap.size := by rw [hw2]; exact lt_alloc _ _
    have p2 : w2.cell? ⟨w1.heap.size, 0, none⟩ = some (.slice none 0 0) := by rw [hw2]; exact cell_new _ _ _
    have f2 : w2.frozen? ⟨w1.heap.size, 0, none⟩ = false := by rw [hw2]; simp
    rw [← hw2]
    clear hw2
    have c2 := kept_cell ha2 c1 s1
    have d2 := kept_cell ha2 d1 s1
    have B2 := B1.trans (ha2.mono B1.size)
    have s2 := lt_of_below ha2 s1
    have iB2 := iB1.below ha2
    refine hK.out _ _ (⟨c2, d2⟩) (fun hHeld => ?_)
    clear hK K
    (try simp only [Act.put, List.setIfInBounds_toArray, List.set_cons_zero, List.set_cons_succ])
    refine wpAnyH_ready (rs := [4]) (by kernel_rfl) (by simp) ?_
    refine AllReadyH.cons rfl (fun K hK => ?_) AllReadyH.nil
    go_simp
    (go_at_call 67; refine (HCK.out _ _ _ (hS.below B2) iB2).mono ?_)
    rintro e w3 ⟨vC, rfl, hck3, hb3⟩
    obtain ⟨g, hck3⟩ := hck3
    obtain ⟨aC, kC, hvC, _⟩ := vals_row hck3.row (chkVals_len _ _ _ _ _ _)
    subst hvC
    have c3 := kept_cell hb3 c2 s2
    have d3 := kept_cell hb3 d2 s2
    have B3 := B2.trans (hb3.mono B2.size)
    have s3 := lt_of_below hb3 s2
    have p3 := kept_cell hb3 p2 z2
    have f3 := (hb3.frozen (p := ⟨w1.heap.size, 0, none⟩) z2).trans f2
    have z3 := lt_of_below hb3 z2
    refine hK.out _ _ (⟨c3, d3⟩) (fun hHeld => ?_)
    clear hK K
    (try simp only [Act.put, List.setIfInBounds_toArray, List.set_cons_zero, List.set_cons_succ])
    refine wpAnyH_ready (rs := [6]) (by kernel_rfl) (by simp) ?_
    refine AllReadyH.cons rfl (fun K hK => ?_) AllReadyH.nil
    have hne : w.heap.size ≠ w1.heap.size := by omega
    go_simp
    have c4 := cell_set_other (a := ⟨w1.heap.size, 0, none⟩) (u := (.slice aC G.length kC)) c3 (by simpa using hne)
    have d4 := cell_set_other (a := ⟨w1.heap.size, 0, none⟩) (u := (.slice aC G.length kC)) d3 (by simpa using hne)
    have p4 : (w3.setCell ⟨w1.heap.size, 0, none⟩ (.slice aC G.length kC)).cell? ⟨w1.heap.size, 0, none⟩ = some (.slice aC G.length kC) := World.cell?_setCell_same' _ _ _ (by rw [p3]; rfl)
    have z4 : w1.heap.size < (w3.setCell ⟨w1.heap.size, 0, none⟩ (.slice aC G.length kC)).heap.size := by simpa using z3
    have B4 : Below w.heap.size w (w3.setCell ⟨w1.heap.size, 0, none⟩ (.slice aC G.length kC)) := B3.setCell (by show w.heap.size ≤ w1.heap.size; omega) (.slice aC G.length kC)
    have ck4 := hck3.set (p := w1.heap.size) (by omega) (.slice aC G.length kC)
    obtain ⟨w4, hw4⟩ : ∃ w4, w4 = w3.setCell ⟨w1.heap.size, 0, none⟩ (.slice aC G.length kC) := ⟨_, rfl⟩
    rw [← hw4] at c4 d4 p4 z4 B4 ck4
    try rw [← hw4]
    have s4 := Nat.lt_of_lt_of_le s3 (show w3.heap.size ≤ w4.heap.size by rw [hw4]; simp)
    clear hw4
    refine hK.out _ _ (⟨c4, d4⟩) (fun hHeld => ?_)
    clear hK K
    (try simp only [Act.put, List.setIfInBounds_toArray, List.set_cons_zero, List.set_cons_succ])
    refine wpAnyH_done (by kernel_rfl) ?_ _
    go_wp2_with fail
    refine (allWords_any ao S cap HP.out.sp N HN _ (hS.below B4)).mono ?_
    rintro e w5 ⟨q, rfl, o5, hb5⟩
    have q5 := o5.base_le
    have p5 := kept_cell hb5 p4 z4
    have B5 := B4.trans (hb5.mono B4.size)
    have hdel := deleteFunc_n w4.heap.size q N N (upto N) (upto_len N).symm 114 (enters_of Tryz.func114 (by kernel_rfl) rfl) #[] #[.pointer (some ⟨w1.heap.size, 0, none⟩)] (fun x => !upB S G x G.length) w5 (by rw [upto_len]; have := (nW_bd HP.out.sp).2; have := HN.out; omega) o5 (dual1_pred ao S cap g HP.out G (by have := HBl.out; omega) HBw.out (.slice aC G.length kC) _ w1.heap.size w4.heap.size (upto N) (fun x hx => by obtain ⟨i, hi, rfl⟩ := mem_gi hx; rw [upto_len] at hi; rw [gi_upto _ _ hi]; have := HN.out; unfold Wd; omega) w5 w4 (Nat.le_refl _) hb5.size hb5 z4 p5 ck4 (hS.below B4))
    have HDEL := Lib.hid hdel
    clear hdel
    go_wp2_with fail
    refine HDEL.out.mono ?_
    rintro e w6 ⟨v6, rfl, own6, hg6⟩
    rw [upto_sel N (fun x => upB S G x G.length)] at own6
    rw [show N = (nW S).toNat by have := HN.out; omega, ← HDU.out] at own6
    go_wp2_with fail
    go_ret
    exact ⟨_, rfl, own6.rebase B4.size, B5.grown hg6 B5.size (by intro z hz; simp at hz; have := B4.size; omega)⟩
  refine AllReadyH.cons rfl (fun K hK => ?_) AllReadyH.nil
  go_simp
  obtain ⟨w1, hw1⟩ : ∃ w1, w1 = (W0.alloc (.cells #[.slice none 0 0] 69)).drew := ⟨_, rfl⟩
  have ha1 : Below W0.heap.size W0 w1 := by rw [hw1]; exact ((Below.refl _ _).alloc (Nat.le_refl _) _).drew
  have z1 : W0.heap.size < w1.heap.size := by rw [hw1]; exact lt_alloc W0 (.cells #[.slice none 0 0] 69)
  have p1 : w1.cell? ⟨W0.heap.size, 0, none⟩ = some (.slice none 0 0) := by rw [hw1]; exact cell_new W0 _ _
  have f1 : w1.frozen? ⟨W0.heap.size, 0, none⟩ = false := by rw [hw1]; simp
  rw [← hw1]
  clear hw1
  have c1 := kept_cell ha1 c0 s0
  have d1 := kept_cell ha1 d0 s0
  have B1 := B0.trans (ha1.mono B0.size)
  have s1 := lt_of_below ha1 s0
  refine hK.out _ _ (⟨c1, d1⟩) (fun hHeld => ?_)
  clear hK K
  (try simp only [Act.put, List.setIfInBounds_toArray, List.set_cons_zero, List.set_cons_succ])
  refine wpAnyH_ready (rs := [3]) (by kernel_rfl) (by simp) ?_
  refine AllReadyH.cons rfl (fun K hK => ?_) AllReadyH.nil
  go_simp
  (go_at_call 61; refine (HLB.out _ (hS.below B1) (hCI.below B1)).mono ?_)
  rintro e w2 ⟨vB, rfl, own2, hb2⟩
  obtain ⟨aB, kB, hvB, iB2⟩ := own2.ints
  subst hvB
  have c2 := kept_cell hb2 c1 s1
  have d2 := kept_cell hb2 d1 s1
  have B2 := B1.trans (hb2.mono B1.size)
  have s2 := lt_of_below hb2 s1
  have p2 := kept_cell hb2 p1 z1
  have f2 := (hb2.frozen (p := ⟨W0.heap.size, 0, none⟩) z1).trans f1
  have z2 := lt_of_below hb2 z1
  refine hK.out _ _ (⟨c2, d2⟩) (fun hHeld => ?_)
  clear hK K
  (try simp only [Act.put, List.setIfInBounds_toArray, List.set_cons_zero, List.set_cons_succ])
  refine wpAnyH_ready (rs := [4]) (by kernel_rfl) (by simp) ?_
  refine AllReadyH.cons rfl (fun K hK => ?_) AllReadyH.nil
  go_simp
  (go_at_call 67; refine (HCK.out _ _ _ (hS.below B2) iB2).mono ?_)
  rintro e w3 ⟨vC, rfl, hck3, hb3⟩
  obtain ⟨g, hck3⟩ := hck3
  obtain ⟨aC, kC, hvC, _⟩ := vals_row hck3.row (chkVals_len _ _ _ _ _ _)
  subst hvC
  have c3 := kept_cell hb3 c2 s2
  have d3 := kept_cell hb3 d2 s2
  have B3 := B2.trans (hb3.mono B2.size)
  have s3 := lt_of_below hb3 s2
  have p3 := kept_cell hb3 p2 z2
  have f3 := (hb3.frozen (p := ⟨W0.heap.size, 0, none⟩) z2).trans f2
  have z3 := lt_of_below hb3 z2
  refine hK.out _ _ (⟨c3, d3⟩) (fun hHeld => ?_)
  clear hK K
  (try simp only [Act.put, List.setIfInBounds_toArray, List.set_cons_zero, List.set_cons_succ])
  refine wpAnyH_ready (rs := [6]) (by kernel_rfl) (by simp) ?_
  refine AllReadyH.cons rfl (fun K hK => ?_) AllReadyH.nil
  have hne : w.heap.size ≠ W0.heap.size := by omega
  go_simp
  have c4 := cell_set_other (a := ⟨W0.heap.size, 0, none⟩) (u := (.slice aC G.length kC)) c3 (by simpa using hne)
  have d4 := cell_set_other (a := ⟨W0.heap.size, 0, none⟩) (u := (.slice aC G.length kC)) d3 (by simpa using hne)
  have p4 : (w3.setCell ⟨W0.heap.size, 0, none⟩ (.slice aC G.length kC)).cell? ⟨W0.heap.size, 0, none⟩ = some (.slice aC G.length kC) := World.cell?_setCell_same' _ _ _ (by rw [p3]; rfl)
  have z4 : W0.heap.size < (w3.setCell ⟨W0.heap.size, 0, none⟩ (.slice aC G.length kC)).heap.size := by simpa using z3
  have B4 : Below w.heap.size w (w3.setCell ⟨W0.heap.size, 0, none⟩ (.slice aC G.length kC)) := B3.setCell (by show w.heap.size ≤ W0.heap.size; omega) (.slice aC G.length kC)
  have ck4 := hck3.set (p := W0.heap.size) (by omega) (.slice aC G.length kC)
  obtain ⟨w4, hw4⟩ : ∃ w4, w4 = w3.setCell ⟨W0.heap.size, 0, none⟩ (.slice aC G.length kC) := ⟨_, rfl⟩
  rw [← hw4] at c4 d4 p4 z4 B4 ck4
  try rw [← hw4]
  have s4 := Nat.lt_of_lt_of_le s3 (show w3.heap.size ≤ w4.heap.size by rw [hw4]; simp)
  clear hw4
  refine hK.out _ _ (⟨c4, d4⟩) (fun hHeld => ?_)
  clear hK K
  (try simp only [Act.put, List.setIfInBounds_toArray, List.set_cons_zero, List.set_cons_succ])
  refine wpAnyH_done (by kernel_rfl) ?_ _
  go_wp2_with fail
  refine (allWords_any ao S cap HP.out.sp N HN _ (hS.below B4)).mono ?_
  rintro e w5 ⟨q, rfl, o5, hb5⟩
  have q5 := o5.base_le
  have p5 := kept_cell hb5 p4 z4
  have B5 := B4.trans (hb5.mono B4.size)
  have hdel := deleteFunc_n w4.heap.size q N N (upto N) (upto_len N).symm 114 (enters_of Tryz.func114 (by kernel_rfl) rfl) #[] #[.pointer (some ⟨W0.heap.size, 0, none⟩)] (fun x => !upB S G x G.length) w5 (by rw [upto_len]; have := (nW_bd HP.out.sp).2; have := HN.out; omega) o5 (dual1_pred ao S cap g HP.out G (by have := HBl.out; omega) HBw.out (.slice aC G.length kC) _ W0.heap.size w4.heap.size (upto N) (fun x hx => by obtain ⟨i, hi, rfl⟩ := mem_gi hx; rw [upto_len] at hi; rw [gi_upto _ _ hi]; have := HN.out; unfold Wd; omega) w5 w4 (Nat.le_refl _) hb5.size hb5 z4 p5 ck4 (hS.below B4))
  have HDEL := Lib.hid hdel
  clear hdel
  go_wp2_with fail
  refine HDEL.out.mono ?_
  rintro e w6 ⟨v6, rfl, own6, hg6⟩
  rw [upto_sel N (fun x => upB S G x G.length)] at own6
  rw [show N = (nW S).toNat by have := HN.out; omega, ← HDU.out] at own6
  go_wp2_with fail
  go_ret
  exact ⟨_, rfl, own6.rebase B4.size, B5.grown hg6 B5.size (by intro z hz; simp at hz; have := B4.size; omega)⟩

theorem impl_DualCode (ao : Option Addr) (S : List Int) (cap : Nat) (hn : S.length ≤ 4294967296) (ac : Option Addr) (C : List Int) (capc : Nat) (hnc : C.length ≤ 4294967296) (pv : Value) (w : World) (hG : Glob pv w) (hS : Ints w ao S) (hC : Ints w ac C) :
    Calls Tryz.prog 13 #[.agg #[.slice ao S.length cap], .slice ac C.length capc] w fun e w' => ∃ v, e = .returned (.tuple #[v, .int .i64 (eLin S C)]) ∧ OwnInts w' w.heap.size v (vDual S C) ∧ Below w.heap.size w w' := by
  have B0 : Below w.heap.size w (w.alloc (.cells #[.slice ao S.length cap] 26)) := by go_grown
  have c0 := cell_new w (.slice ao S.length cap) 26
  have hpos := hG.2
  have hG0 := hG.below B0 hpos
  by_cases hc0 : eCode S C = 0
  · cases hlb : linB S C with
    | true =>
      obtain ⟨hP, hg⟩ := lin_gp hc0 hlb
      have hlen := code_len0 hc0
      have hA := asc_code hc0
      have HE : Hid (eLin S C = 0) := Lib.hid (by unfold eLin; rw [if_pos hc0, if_pos hlb])
      have HV : Hid (vDual S C = duL S C) := Lib.hid (by unfold vDual; rw [if_pos HE.out])
      have HA := Lib.hid (askLinearL_yes ao S cap hn ac C capc hnc hc0 hlb 60 (enters_of Tryz.func60 (by kernel_rfl) rfl) #[] #[] (duL S C) _ (hS.below B0) (hC.below B0) (fun W hb => dualCode_any ao S cap hP ac C capc hA hg hlen W ((hS.below B0).below hb) ((hC.below B0).below hb)))
      clear hc0 hlb hP hg hlen hG0 hA
      go_enter Tryz.func13, Tryz.ntmps13
      go_wp2_with fail
      refine HA.out.mono ?_
      rintro e w2 ⟨v, rfl, own, hb2⟩
      go_wp2_with fail
      go_ret2
      exact ⟨_, by rw [HE.out]; try rfl, by rw [HV.out]; exact own.rebase B0.size, B0.trans (hb2.mono B0.size)⟩
    | false =>
      have HE : Hid (eLin S C = 5) := Lib.hid (by unfold eLin; rw [if_pos hc0, if_neg (by rw [hlb]; decide)])
      have HV : Hid (vDual S C = []) := Lib.hid (by unfold vDual; rw [if_neg (by rw [HE.out]; decide)])
      have HA := Lib.hid (askLinearL_no ao S cap hn ac C capc hnc hc0 hlb 60 #[] #[] pv _ (hS.below B0) (hC.below B0) hG0)
      clear hc0 hlb hG0
      go_enter Tryz.func13, Tryz.ntmps13
      go_wp2_with fail
      refine HA.out.mono ?_
      rintro e w2 ⟨rfl, hb2⟩
      go_wp2_with fail
      go_ret2
      exact ⟨_, by rw [HE.out]; try rfl, by rw [HV.out]; exact own_nil _ _, B0.trans (hb2.mono B0.size)⟩
  · have HE : Hid (eLin S C = eCode S C) := Lib.hid (by unfold eLin; rw [if_neg hc0])
    have HV : Hid (vDual S C = []) := Lib.hid (by unfold vDual; rw [if_neg (by rw [HE.out]; exact hc0)])
    have HA := Lib.hid (askLinearL_err ao S cap hn ac C capc hnc hc0 60 #[] #[] _ (hS.below B0) (hC.below B0))
    clear hc0 hG0
    go_enter Tryz.func13, Tryz.ntmps13
    go_wp2_with fail
    refine HA.out.mono ?_
    rintro e w2 ⟨rfl, hb2⟩
    go_wp2_with fail
    go_ret2
    exact ⟨_, by rw [HE.out]; try rfl, by rw [HV.out]; exact own_nil _ _, B0.trans (hb2.mono B0.size)⟩

end Go.Proofs.YtcnnijeokefboaaGreatDoor
