/-
  Texts put together: MathW, MathF. By an AI agent.
-/
import Derived.Test.YtcnnijeokefboaaGreatDoorPk47
import Derived.Test.YtcnnijeokefboaaGreatDoorMath
namespace Go.Proofs.YtcnnijeokefboaaGreatDoor
set_option linter.unusedVariables false
set_option linter.unusedSimpArgs false
namespace Cv

theorem eW2_zero {S : List Int} {u x : Int} (h : eWords S [u, x] = 0) : Sp S ∧ Wd S u ∧ Wd S x := by
  obtain ⟨h1, h2⟩ := eWords_zero h
  exact ⟨h1, h2 0 (by simp), h2 1 (by simp)⟩
theorem eW2_mk {S : List Int} (hS : Sp S) {u x : Int} (hu : Wd S u) (hx : Wd S x) : eWords S [u, x] = 0 := by
  unfold eWords
  rw [if_pos ((isSp_iff S).2 hS), if_pos ((okW_iff _ _ _).2 fun i hi => ?_)]
  have : i = 0 ∨ i = 1 := by simp at hi; omega
  rcases this with rfl | rfl
  · exact hu
  · exact hx
theorem eW1_mk {S : List Int} (hS : Sp S) {u : Int} (hu : Wd S u) : eWords S [u] = 0 := by
  unfold eWords
  rw [if_pos ((isSp_iff S).2 hS), if_pos ((okW_iff _ _ _).2 fun i hi => ?_)]
  have : i = 0 := by simpa using hi
  subst this; exact hu
theorem eW1_zero {S : List Int} {u : Int} (h : eWords S [u] = 0) : Sp S ∧ Wd S u := by
  obtain ⟨h1, h2⟩ := eWords_zero h
  exact ⟨h1, h2 0 (by simp)⟩
theorem dist_sub {S : List Int} (hS : Sp S) (u x : Int) : dist S 0 (sumW S u (oppW S x)) = dist S u x := by
  unfold dist
  refine cnt_congr _ _ _ fun i hi => ?_
  rw [dig_sum hS _ _ i hi, dig_opp hS _ i hi, dig_0]
  have s := hS.bd i hi
  have a := dig_bd S u hS.bd i hi
  have b := dig_bd S x hS.bd i hi
  rw [Bool.eq_iff_iff]
  simp only [bne_iff_ne, ne_eq]
  generalize dig S u i = A at *
  generalize dig S x i = B at *
  generalize gi S i = q at *
  have hq : q = 2 ∨ q = 3 ∨ q = 4 := by omega
  rcases hq with rfl | rfl | rfl <;> omega
theorem dist_add {S : List Int} (hS : Sp S) (u x : Int) : dist S u (sumW S u x) = dist S 0 x := by
  unfold dist
  refine cnt_congr _ _ _ fun i hi => ?_
  rw [dig_sum hS _ _ i hi, dig_0]
  have s := hS.bd i hi
  have a := dig_bd S u hS.bd i hi
  have b := dig_bd S x hS.bd i hi
  rw [Bool.eq_iff_iff]
  simp only [bne_iff_ne, ne_eq]
  generalize dig S u i = A at *
  generalize dig S x i = B at *
  generalize gi S i = q at *
  have hq : q = 2 ∨ q = 3 ∨ q = 4 := by omega
  rcases hq with rfl | rfl | rfl <;> omega
theorem dist_nil {S : List Int} (hS : Sp S) {u x : Int} (hu : Wd S u) (hx : Wd S x) : dist S u x = 0 ↔ u = x := by
  constructor
  · intro h
    unfold dist at h
    rw [cnt_zero] at h
    refine word_ext hS hu hx fun i hi => ?_
    simpa using h i hi
  · rintro rfl; exact dist_self S u
/-- what holds of two words of a space -/
structure FwI (S : List Int) (u w : Int) : Prop where
  e1 : eWords S [w] = 0
  bk : vWordOf S (vDigits S w) = w
  eb : eWordOf S (vDigits S w) = 0
  e2 : eWords S [w, vOpp S w] = 0
  z : vSum S w (vOpp S w) = 0
  e3 : eWords S [u, vOpp S w] = 0
  e4 : eWords S [vSum S u (vOpp S w)] = 0
  wt : vWeight S (vSum S u (vOpp S w)) = vDist S u w
  e5 : eWords S [w, u] = 0
  mu : vDist S w u = vDist S u w
  e6 : eWords S [u, vSum S u w] = 0
  via : vDist S u (vSum S u w) = vWeight S w
  nil : vDist S u w = 0 ↔ u = w
  bd : (0 ≤ u ∧ u < 1025) ∧ (0 ≤ w ∧ w < 1025) ∧ (0 ≤ vOpp S w ∧ vOpp S w < 1025) ∧ (0 ≤ vSum S u w ∧ vSum S u w < 1025) ∧ 0 ≤ vSum S u (vOpp S w) ∧ vSum S u (vOpp S w) < 1025
theorem fw_all {S : List Int} {u w : Int} (h : eWords S [u, w] = 0) : FwI S u w := by
  obtain ⟨hS, hu, hw⟩ := eW2_zero h
  have h1 := eW1_mk hS hw
  have N := nW_bd hS
  have ho : Wd S (oppW S w) := wd_opp hS w
  have eo : vOpp S w = oppW S w := by unfold vOpp; rw [if_pos h1]
  have hd : vDigits S w = digs S w := by unfold vDigits; rw [if_pos h1]
  have hdb : dgB S (digs S w) = true := dgB_ok (digs_length S w) fun i hi => by rw [gi_digs _ _ _ hi]; exact dig_bd S w hS.bd i hi
  have es : vSum S u (oppW S w) = sumW S u (oppW S w) := by unfold vSum; rw [if_pos (eW2_mk hS hu ho)]
  have et : vSum S u w = sumW S u w := by unfold vSum; rw [if_pos h]
  have ed : vDist S u w = dist S u w := by unfold vDist; rw [if_pos h]
  have ws : Wd S (sumW S u (oppW S w)) := wd_sum hS _ _
  have wt : Wd S (sumW S u w) := wd_sum hS _ _
  have isS := (isSp_iff S).2 hS
  unfold Wd at hu hw ho ws wt
  refine ⟨h1, ?_, ?_, ?_, ?_, ?_, ?_, ?_, eW2_mk hS hw hu, ?_, ?_, ?_, ?_, ?_⟩
  · rw [hd]; unfold vWordOf; rw [if_pos ⟨isS, hdb⟩]; exact wordTo_digs S w hS hw.1 hw.2
  · rw [hd]; unfold eWordOf; rw [if_pos isS, if_pos hdb]
  · rw [eo]; exact eW2_mk hS hw ho
  · rw [eo]; unfold vSum; rw [if_pos (eW2_mk hS hw ho)]; exact sum_opp hS w
  · rw [eo]; exact eW2_mk hS hu ho
  · rw [eo, es]; exact eW1_mk hS ws
  · rw [eo, es, ed]; unfold vWeight; rw [if_pos (eW1_mk hS ws)]; exact dist_sub hS u w
  · rw [ed]; unfold vDist; rw [if_pos (eW2_mk hS hw hu)]; exact dist_comm S w u
  · rw [et]; exact eW2_mk hS hu wt
  · rw [et]; unfold vDist vWeight; rw [if_pos (eW2_mk hS hu wt), if_pos h1]; exact dist_add hS u w
  · rw [ed]; exact dist_nil hS hu hw
  · rw [eo, et, es]; exact ⟨⟨hu.1, by omega⟩, ⟨hw.1, by omega⟩, ⟨ho.1, by omega⟩, ⟨wt.1, by omega⟩, ws.1, by omega⟩

theorem selTo_len_mono {p q : Nat → Bool} (h : ∀ u, p u = true → q u = true) (n : Nat) : (selTo p n).length ≤ (selTo q n).length := by
  induction n with
  | zero => exact Nat.le_refl _
  | succ n ih =>
    rw [selTo, selTo, List.length_append, List.length_append]
    by_cases hp : p n = true
    · rw [if_pos hp, if_pos (h n hp)]; simpa using ih
    · rw [if_neg hp]; simp; omega
theorem selTo_mem_mono {p q : Nat → Bool} (h : ∀ u, p u = true → q u = true) (n : Nat) (y : Int) (hy : y ∈ selTo p n) : y ∈ selTo q n := by
  induction n with
  | zero => exact hy
  | succ n ih =>
    rw [selTo, List.mem_append] at hy ⊢
    rcases hy with hy | hy
    · exact .inl (ih hy)
    · by_cases hp : p n = true
      · rw [if_pos hp] at hy; rw [if_pos (h n hp)]; exact .inr hy
      · rw [if_neg hp] at hy; cases hy
/-- what holds of a ball and its sphere -/
theorem fb_all {S : List Int} {x r : Int} (h : eBall S x r = 0) : ((vBall S x r).length : Int) = vSize S r ∧ (vSph S x r).length ≤ (vBall S x r).length ∧ ∀ k, k < (vSph S x r).length → gi (vSph S x r) k ∈ vBall S x r := by
  obtain ⟨h1, r0, r8⟩ := eBall_zero h
  obtain ⟨hS, hx⟩ := eW1_zero h1
  have e0 : eBall S 0 r = 0 := by unfold eBall; rw [if_pos (eW1_mk hS (wd_0 hS)), if_pos ⟨r0, r8⟩]
  have hb : vBall S x r = ballW S x r := by unfold vBall; rw [if_pos h]
  have hs : vSph S x r = sphW S x r := by unfold vSph; rw [if_pos h]
  have hz : vSize S r = sizeN S r := by unfold vSize; rw [if_pos e0]
  have hsub : ∀ u, sphB S x r u = true → ballB S x r u = true := fun u hu => by
    unfold sphB at hu; unfold ballB
    simp only [decide_eq_true_eq] at hu ⊢
    omega
  rw [hb, hs, hz]
  refine ⟨ballW_size hS x r0, selTo_len_mono hsub _, fun k hk => selTo_mem_mono hsub _ _ ?_⟩
  rw [gi_lt _ _ hk]; exact List.getElem_mem _

theorem cnt_one {p : Nat → Bool} {i : Nat} (h : ∀ j, p j = true → j = i) (n : Nat) : cnt p n ≤ 1 := by
  induction n with
  | zero => simp [cnt]
  | succ n ih =>
    rw [cnt]
    by_cases e : p n = true
    · have hn := h n e
      have hz : cnt p n = 0 := (cnt_zero p n).2 fun j hj => by
        rw [← Bool.not_eq_true]; intro e2; have := h j e2; omega
      rw [hz, if_pos e]; omega
    · rw [if_neg e]; omega
/-- a changed word -/
theorem fc_all {S : List Int} {x i d : Int} (h : eChange S x i d = 0) : eWords S [x, vChange S x i d] = 0 ∧ vDist S x (vChange S x i d) ≤ 1 ∧ 0 ≤ vChange S x i d ∧ vChange S x i d < 1025 := by
  unfold eChange at h
  split at h
  · rename_i h1
    split at h
    · rename_i hc
      obtain ⟨hS, hx⟩ := eW1_zero h1
      obtain ⟨⟨i0, i1⟩, d0, d1⟩ := (chgB_iff S i d).1 hc
      have N := nW_bd hS
      have ev : vChange S x i d = chgW S x i.toNat d := by unfold vChange; rw [if_pos ⟨h1, hc⟩]
      have hl : ((digs S x).set i.toNat d).length = S.length := by rw [List.length_set, digs_length]
      have hg : ∀ j, j < S.length → gi ((digs S x).set i.toNat d) j = if i.toNat = j then d else dig S x j := fun j hj => by
        have hjl : j < (digs S x).length := by rw [digs_length]; exact hj
        rw [gi_lt _ _ (by rw [hl]; exact hj), List.getElem_set]
        by_cases e : i.toNat = j
        · rw [if_pos e, if_pos e]
        · rw [if_neg e, if_neg e, ← gi_lt _ _ hjl, gi_digs _ _ _ hj]
      have hb : ∀ j, j < S.length → 0 ≤ gi ((digs S x).set i.toNat d) j ∧ gi ((digs S x).set i.toNat d) j < gi S j := fun j hj => by
        rw [hg j hj]
        by_cases e : i.toNat = j
        · rw [if_pos e, ← e]; exact ⟨d0, d1⟩
        · rw [if_neg e]; exact dig_bd S x hS.bd j hj
      have hw : Wd S (chgW S x i.toNat d) := wordTo_bd S _ S.length hS.bd hb
      have e2 := eW2_mk hS hx hw
      have hdg := digs_word hS hl hb
      rw [ev]
      unfold Wd at hw
      refine ⟨e2, ?_, hw.1, by omega⟩
      unfold vDist
      rw [if_pos e2]
      unfold dist
      have key : cnt (fun j => dig S x j != dig S (chgW S x i.toNat d) j) S.length = cnt (fun j => decide (j < S.length) && (dig S x j != dig S (chgW S x i.toNat d) j)) S.length := cnt_congr _ _ _ fun j hj => by simp [hj]
      rw [key]
      refine cnt_one (i := i.toNat) (fun j hj => ?_) _
      simp only [Bool.and_eq_true, decide_eq_true_eq, bne_iff_ne, ne_eq] at hj
      obtain ⟨hj1, hj2⟩ := hj
      by_cases e : i.toNat = j
      · exact e.symm
      · exfalso
        refine hj2 ?_
        have : gi (digs S (chgW S x i.toNat d)) j = dig S x j := by
          rw [show chgW S x i.toNat d = wordTo S ((digs S x).set i.toNat d) S.length from rfl, hdg, hg j hj1, if_neg e]
        rw [gi_digs _ _ _ hj1] at this
        exact this.symm
    · omega
  · rename_i h1; exact absurd h h1

end Cv
end Go.Proofs.YtcnnijeokefboaaGreatDoor

namespace Go.Proofs.YtcnnijeokefboaaGreatDoor
set_option linter.unusedVariables false
set_option linter.unusedSimpArgs false
namespace Cv

theorem minTo_at (f : Nat → Int) (k : Nat) : ∃ j, j ≤ k ∧ f j = minTo f k := by
  induction k with
  | zero => exact ⟨0, Nat.le_refl _, rfl⟩
  | succ k ih =>
    obtain ⟨j, hj, e⟩ := ih
    show ∃ j, _ ∧ f j = min (minTo f k) (f (k + 1))
    by_cases h : minTo f k ≤ f (k + 1)
    · exact ⟨j, by omega, by rw [Int.min_eq_left h]; exact e⟩
    · exact ⟨k + 1, by omega, by rw [Int.min_eq_right (by omega)]⟩
theorem farB_at (f : Nat → Int) (k : Nat) : f (farB f k).1.toNat = (farB f k).2 := by
  induction k with
  | zero => rfl
  | succ k ih =>
    simp only [farB]
    split
    · show f ((k + 1 : Nat) : Int).toNat = _
      rw [Int.toNat_natCast]
    · exact ih
theorem mem_nearOut {S C : List Int} {x m u : Int} (k : Nat) : u ∈ nearOut S C x m k ↔ ∃ j, j < k ∧ gi C j = u ∧ dist S u x = m := by
  induction k with
  | zero => simp [nearOut]
  | succ k ih =>
    simp only [nearOut, List.mem_append, ih]
    constructor
    · rintro (⟨j, hj, h1, h2⟩ | h)
      · exact ⟨j, by omega, h1, h2⟩
      · split at h
        · rename_i hd
          have e : u = gi C k := by simpa using h
          exact ⟨k, by omega, e.symm, by rw [e]; exact hd⟩
        · simp at h
    · rintro ⟨j, hj, h1, h2⟩
      by_cases e : j = k
      · subst e
        rw [h1, if_pos h2]
        exact .inr (by simp)
      · exact .inl ⟨j, by omega, h1, h2⟩
theorem near_own {S C : List Int} {x : Int} (h : eNear S C x = 0) {i : Nat} (hi : i < C.length) :
    eWords S [gi C i, x] = 0 ∧ vDist S (gi C i) x = dist S (gi C i) x ∧ toW S C x ≤ dist S (gi C i) x ∧ (dist S (gi C i) x = toW S C x ↔ gi C i ∈ vNear S C x) := by
  obtain ⟨h1, h2⟩ := eCW_zero h
  obtain ⟨hs, hc, _⟩ := eCode_zero h1
  obtain ⟨_, x0, x1⟩ := eWords1 h2
  have hw : eWords S [gi C i, x] = 0 := eWords_ok ((isSp_iff S).2 hs) fun k hk => by
    match k, hk with
    | 0, _ => exact hc i hi
    | 1, _ => exact ⟨x0, x1⟩
  refine ⟨hw, by unfold vDist; rw [if_pos hw], minTo_le _ _ i (by omega), ?_⟩
  unfold vNear
  rw [if_pos h, mem_nearOut]
  constructor
  · intro e; exact ⟨i, hi, rfl, e⟩
  · rintro ⟨j, _, _, e⟩; exact e
theorem near_some {S C : List Int} {x : Int} (h : eNear S C x = 0) (hc : 0 < C.length) : 0 < (vNear S C x).length := by
  obtain ⟨j, hj, e⟩ := minTo_at (fun k => dist S (gi C k) x) (C.length - 1)
  have := ((near_own h (i := j) (by omega)).2.2.2).1 e
  exact List.length_pos_of_mem this
theorem near_no {S C : List Int} {x : Int} (h : eNear S C x ≠ 0) : vNear S C x = [] ∧ eTo S C x = eNear S C x := by
  refine ⟨by unfold vNear; rw [if_neg h], ?_⟩
  unfold eTo eSome
  rw [if_neg (fun e => h e.1)]; rfl
theorem near_nil {S C : List Int} {x : Int} (h : eNear S C x = 0) (hc : C.length = 0) : vNear S C x = [] ∧ eTo S C x = 5 := by
  refine ⟨by unfold vNear; rw [if_pos h, hc]; rfl, ?_⟩
  unfold eTo eSome
  rw [if_pos ⟨h, hc⟩]
theorem near_to {S C : List Int} {x : Int} (h : eNear S C x = 0) (hc : 0 < C.length) : eTo S C x = 0 ∧ vTo S C x = toW S C x := by
  have e : eTo S C x = 0 := by
    unfold eTo eSome
    rw [if_neg (by omega)]; exact h
  exact ⟨e, by unfold vTo; rw [if_pos e]⟩
theorem far_to {S C : List Int} (h : eFull S C = 0) : eTo S C (vFarthest S C) = 0 ∧ vTo S C (vFarthest S C) = vRadius S C ∧ 0 ≤ vFarthest S C ∧ vFarthest S C < nW S := by
  obtain ⟨h1, hc⟩ := eFull_zero h
  obtain ⟨hs, _, _⟩ := eCode_zero h1
  have hn := nW_bd hs
  have hf : vFarthest S C = (farW S C).1 := by unfold vFarthest; rw [if_pos h]
  have hr : vRadius S C = (farW S C).2 := by unfold vRadius; rw [if_pos h]
  have hb := (farB_bd (fun (u : Nat) => toW S C (u : Int)) ((nW S).toNat - 1) 0 S.length (fun j _ => toW_bd S C j)).1
  have ha := farB_at (fun (u : Nat) => toW S C (u : Int)) ((nW S).toNat - 1)
  have b0 : 0 ≤ (farW S C).1 := hb.1
  have b1 : (farW S C).1 < nW S := by have := hb.2; show (farB _ _).1 < _; omega
  have hw : eWords S [(farW S C).1] = 0 := by rw [eWords_w hs, if_pos ⟨b0, b1⟩]
  have hn0 : eNear S C (farW S C).1 = 0 := by unfold eNear eCW orI; rw [if_pos h1]; exact hw
  obtain ⟨t1, t2⟩ := near_to hn0 hc
  rw [hf, hr]
  refine ⟨t1, ?_, b0, b1⟩
  rw [t2]
  have e : (((farW S C).1.toNat : Nat) : Int) = (farW S C).1 := by omega
  have ha' : toW S C (((farW S C).1.toNat : Nat) : Int) = (farW S C).2 := ha
  rw [e] at ha'
  exact ha'

end Cv
end Go.Proofs.YtcnnijeokefboaaGreatDoor
