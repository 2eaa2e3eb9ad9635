/-
  A word is needed, by sets, just where it is needed, by counts. By an AI agent.
-/
import Derived.Test.YtgaelpcghljihaaNed10
import Derived.Test.YtgaelpcghljihaaNedS
namespace Go.Proofs.Ytgaelpcghljihaa
open Go.RowKit Cv
set_option linter.unusedVariables false
set_option linter.unusedSimpArgs false
set_option maxRecDepth 100000

theorem cnt_one (p : Nat → Bool) (n k : Nat) (hk : k < n) (hp : p k = true) : cnt p n = 1 ↔ ∀ i, i < n → i ≠ k → p i = false := by
  induction n with
  | zero => omega
  | succ n ih =>
    rw [cnt_at]
    by_cases e : k = n
    · subst e
      rw [if_pos hp]
      constructor
      · intro h i hi hne
        exact (cnt_zero p k).1 (by omega) i (by omega)
      · intro h
        rw [(cnt_zero p k).2 fun j hj => h j (by omega) (by omega)]; rfl
    · have hb := cnt_bd p n
      have h0 : cnt p n ≠ 0 := fun h => by have := (cnt_zero p n).1 h k (by omega); rw [hp] at this; cases this
      constructor
      · intro h i hi hne
        by_cases e2 : p n = true
        · rw [if_pos e2] at h; omega
        · rw [if_neg e2] at h
          by_cases e3 : i = n
          · subst e3; simpa using e2
          · exact (ih (by omega)).1 (by omega) i (by omega) hne
      · intro h
        rw [if_neg (by rw [h n (by omega) (Ne.symm e)]; simp), (ih (by omega)).2 fun i hi hne => h i (by omega) hne]; rfl
theorem unionL_iff (L : List (Nat → Bool)) (u : Nat) : unionL L u = true ↔ ∃ i, i < L.length ∧ pAt L i u = true := by
  unfold unionL
  rw [List.any_eq_true]
  constructor
  · rintro ⟨p, hp, h⟩
    obtain ⟨i, hi, rfl⟩ := List.mem_iff_getElem.1 hp
    exact ⟨i, hi, by unfold pAt; rw [List.getD_eq_getElem?_getD, List.getElem?_eq_getElem hi]; exact h⟩
  · rintro ⟨i, hi, h⟩
    refine ⟨L[i], List.getElem_mem hi, ?_⟩
    unfold pAt at h; rw [List.getD_eq_getElem?_getD, List.getElem?_eq_getElem hi] at h; exact h
theorem pAt_map (S C : List Int) (r : Int) (i : Nat) (hi : i < C.length) : pAt (C.map (ballN S r)) i = ballN S r (gi C i) := by
  unfold pAt gi; simp [List.getD_eq_getElem?_getD, hi]
theorem pAt_take (L : List (Nat → Bool)) (k i : Nat) (hi : i < k) : pAt (L.take k) i = pAt L i := by
  unfold pAt; rw [List.getD_eq_getElem?_getD, List.getD_eq_getElem?_getD, List.getElem?_take_of_lt hi]
theorem pAt_drop (L : List (Nat → Bool)) (k i : Nat) : pAt (L.drop k) i = pAt L (k + i) := by
  unfold pAt; rw [List.getD_eq_getElem?_getD, List.getD_eq_getElem?_getD, List.getElem?_drop]
theorem bef_all (L : List (Nat → Bool)) (k : Nat) (hk : k ≤ L.length) : befT L false k = unionL (L.take k) := by
  induction k with
  | zero => rfl
  | succ k ih =>
    rw [befT, if_pos (by simp), ih (by omega), List.take_succ_eq_append_getElem (by omega), unionL_snoc]
    funext u
    congr 1
    unfold pAt; rw [List.getD_eq_getElem?_getD, List.getElem?_eq_getElem (by omega)]; rfl
/-- the other sets' words -/
theorem others_iff (S C : List Int) (r : Int) (k u : Nat) (hk : k < C.length) : (befT (C.map (ballN S r)) false k u || behU (C.map (ballN S r)) k u) = true ↔ ∃ i, i < C.length ∧ i ≠ k ∧ ballN S r (gi C i) u = true := by
  rw [bef_all _ _ (by simp; omega), Bool.or_eq_true, unionL_iff, behU, unionL_iff]
  constructor
  · rintro (⟨i, hi, h⟩ | ⟨i, hi, h⟩)
    · simp at hi
      rw [pAt_take _ _ _ (by omega), pAt_map _ _ _ _ (by omega)] at h
      exact ⟨i, by omega, by omega, h⟩
    · simp at hi
      rw [pAt_drop, pAt_map _ _ _ _ (by omega)] at h
      exact ⟨k + 1 + i, by omega, by omega, h⟩
  · rintro ⟨i, hi, hne, h⟩
    by_cases e : i < k
    · exact .inl ⟨i, by simp; omega, by rw [pAt_take _ _ _ e, pAt_map _ _ _ _ hi]; exact h⟩
    · exact .inr ⟨i - (k + 1), by simp; omega, by rw [pAt_drop, show k + 1 + (i - (k + 1)) = i by omega, pAt_map _ _ _ _ hi]; exact h⟩
theorem need_iff (S C : List Int) (r x : Int) : needB (timesL S C r) S x r = true ↔ ∃ u : Nat, u < (nW S).toNat ∧ dist S u x ≤ r ∧ tAt S C r u = 1 := by
  unfold needB
  rw [oneTo_iff]
  constructor
  · rintro ⟨j, hj, h⟩
    have hb : 0 ≤ gi (ballW S x r) j ∧ gi (ballW S x r) j < ((nW S).toNat : Nat) := selTo_bd _ _ j hj
    have hm : ballN S r x (gi (ballW S x r) j).toNat = true := by
      unfold ballN inL; rw [decide_eq_true_eq, Int.toNat_of_nonneg hb.1]; exact gi_mem hj
    rw [ballN_in, decide_eq_true_eq] at hm
    rw [gi_timesA _ _ _ _ hm.1] at h
    exact ⟨_, hm.1, hm.2, h⟩
  · rintro ⟨u, hu, hd, h⟩
    have hm : ballN S r x u = true := by rw [ballN_in, decide_eq_true_eq]; exact ⟨hu, hd⟩
    unfold ballN inL at hm
    rw [decide_eq_true_eq] at hm
    obtain ⟨j, hj, e⟩ := mem_gi hm
    exact ⟨j, hj, by rw [e]; simpa [gi_timesA _ _ _ _ hu] using h⟩
theorem need_eq (S C : List Int) (r : Int) (hN : nW S ≤ 1024) (k : Nat) (hk : k < C.length) : needS (C.map (ballN S r)) (befT (C.map (ballN S r)) false k) k = needB (timesL S C r) S (gi C k) r := by
  rw [Bool.eq_iff_iff, need_iff]
  unfold needS
  rw [Bool.not_eq_true', ← Bool.not_eq_true, eqS_iff]
  have one : ∀ u : Nat, dist S u (gi C k) ≤ r → (tAt S C r u = 1 ↔ ∀ i, i < C.length → i ≠ k → ¬ dist S u (gi C i) ≤ r) := fun u hd => by
    unfold tAt tcov
    rw [cnt_one _ _ k hk (by rw [decide_eq_true_eq, dist_comm]; exact hd)]
    constructor
    · intro h i hi hne g
      have := h i hi hne
      rw [decide_eq_false_iff_not, dist_comm] at this
      exact this g
    · intro h i hi hne
      rw [decide_eq_false_iff_not, dist_comm]; exact h i hi hne
  constructor
  · intro h
    have h' : ∃ u, u < 1024 ∧ ¬ (befT (C.map (ballN S r)) false k u || behU (C.map (ballN S r)) k u || pAt (C.map (ballN S r)) k u) = (befT (C.map (ballN S r)) false k u || behU (C.map (ballN S r)) k u) := by
      refine Classical.byContradiction fun g => h fun u hu => Classical.byContradiction fun g2 => g ⟨u, hu, g2⟩
    obtain ⟨u, hu, hne⟩ := h'
    cases ho : (befT (C.map (ballN S r)) false k u || behU (C.map (ballN S r)) k u) with
    | true => rw [ho] at hne; simp at hne
    | false =>
      rw [ho, Bool.false_or, pAt_map _ _ _ _ hk] at hne
      have hp : ballN S r (gi C k) u = true := by simpa using hne
      rw [ballN_in, decide_eq_true_eq] at hp
      refine ⟨u, hp.1, hp.2, (one u hp.2).2 fun i hi hik hd => ?_⟩
      have := (others_iff S C r k u hk).2 ⟨i, hi, hik, by rw [ballN_in, decide_eq_true_eq]; exact ⟨hp.1, hd⟩⟩
      rw [ho] at this; cases this
  · rintro ⟨u, hu, hd, ht⟩ h
    have h1 := h u (by omega)
    have hp : ballN S r (gi C k) u = true := by rw [ballN_in, decide_eq_true_eq]; exact ⟨hu, hd⟩
    rw [pAt_map _ _ _ _ hk, hp, Bool.or_true] at h1
    obtain ⟨i, hi, hne, g⟩ := (others_iff S C r k u hk).1 h1.symm
    rw [ballN_in, decide_eq_true_eq] at g
    exact (one u hd).1 ht i hi hne g.2
theorem out_need (S C : List Int) (r : Int) (hN : nW S ≤ 1024) (k : Nat) (hk : k ≤ C.length) : outT (C.map (ballN S r)) C false k = needTo S C r k := by
  induction k with
  | zero => rfl
  | succ k ih => rw [outT, needTo, need_eq S C r hN k (by omega), ih (by omega)]

set_option maxHeartbeats 1000000 in
theorem impl_NeededWords (ao : Option Addr) (S : List Int) (cap : Nat) (hn : S.length ≤ 4294967296) (ac : Option Addr) (C : List Int) (capc : Nat) (hnc : C.length ≤ 4294967296) (r : Int) (hr : -9223372036854775808 ≤ r ∧ r ≤ 9223372036854775807) (w : World) (hS : Ints w ao S) (hC : Ints w ac C) :
    Calls Try.prog 44 #[.agg #[.slice ao S.length cap], .slice ac C.length capc, .int .i64 r] w fun e w' => ∃ v, e = .returned (.tuple #[v, .int .i64 (eCov S C r)]) ∧ OwnInts w' w.heap.size v (vNeed S C r) ∧ Below w.heap.size w w' := by
  have B0 : Below w.heap.size w (w.alloc (.cells #[.slice ao S.length cap] 24)) := by go_grown
  have HQ := Lib.hid (eCov2_nil S C r)
  have cS := cell_new w (.slice ao S.length cap) 24
  have lS := lt_alloc w (.cells #[.slice ao S.length cap] 24)
  by_cases hq : eCov S C r = 0
  · obtain ⟨hz, r1, r2⟩ := eCov_zero hq
    obtain ⟨hSp, hc1, hc2⟩ := eCode_zero hz
    have N1 := nW_bd hSp
    have hlen := code_len hSp hc1 hc2
    have HSp := Lib.hid hSp
    have HC1 : Hid (∀ i, i < C.length → 0 ≤ gi C i ∧ gi C i ≤ 9223372036854775807) := Lib.hid fun i h => by have := hc1 i h; omega
    have HV : Hid (vNeed S C r = outT (C.map (ballN S r)) C false C.length) := Lib.hid (by unfold vNeed; rw [if_pos hq, out_need S C r (by omega) _ (Nat.le_refl _)])
    have hqn : (eCov2 S C [] r != 0) = false := by rw [HQ.out]; simp [hq]
    have HQ0 := Lib.hid hq
    clear hc1 hc2 hSp hq hz N1
    go_enter Try.func44, Try.ntmps44
    go_wp2_with fail
    refine (coverError_n ao S cap hn ac C capc hnc r none [] 0 0 rfl (by omega) _ (hS.below B0) (hC.below B0) (.inl rfl)).mono ?_
    rintro e w1 ⟨rfl, hb⟩
    replace cS := kept_cell hb cS lS
    replace lS := lt_of_below hb lS
    have B1 : Below w.heap.size w w1 := B0.trans (hb.mono B0.size)
    have hs1 := B1.size
    clear hb B0
    go_wp2_with fail
    refine (balls_any ao S cap ac C capc r _).mono ?_
    rintro e w2 ⟨wb, sb, rb, rfl, hbb, hwb, hsb, hrb, hb2⟩
    have B2 := B1.trans (hb2.mono B1.size)
    clear hb2 hbb
    go_wp2_with fail
    refine (collectBalls_any S HSp.out ao cap ac C capc (by omega) HC1.out r r1 r2 wb sb rb w w2 B2 hS hC hwb hsb hrb).mono ?_
    rintro e w3 ⟨vs, rfl, oS, hb3⟩
    obtain ⟨av, cs, hv⟩ := sets_shape oS
    rw [List.length_map] at hv
    subst hv
    have B3 := B2.trans (hb3.mono B2.size)
    have s3 := hb3.size
    clear hwb hsb hrb hb3
    go_wp2_with fail
    refine (neededOf_any ac C capc (by omega) w2.heap.size av cs (C.map (ballN S r)) (by simp) false _ s3 (hC.below B3) oS).mono ?_
    rintro e w4 ⟨v, rfl, own, hb4⟩
    have hs3 := B3.size
    go_wp2_with fail
    go_ret2
    exact ⟨_, by rw [HQ0.out]; rfl, by rw [HV.out]; exact own.rebase hs3, B3.trans (hb4.mono hs3)⟩
  · have hqn : (eCov2 S C [] r != 0) = true := by rw [HQ.out]; simpa using hq
    have HV : Hid (vNeed S C r = []) := Lib.hid (by unfold vNeed; rw [if_neg hq])
    clear hq
    go_enter Try.func44, Try.ntmps44
    go_wp2_with fail
    refine (coverError_n ao S cap hn ac C capc hnc r none [] 0 0 rfl (by omega) _ (hS.below B0) (hC.below B0) (.inl rfl)).mono ?_
    rintro e w1 ⟨rfl, hb⟩
    go_wp2_with fail
    go_ret2
    exact ⟨_, by rw [HQ.out]; rfl, by rw [HV.out]; exact own_nil _ _, B0.trans (hb.mono B0.size)⟩

end Go.Proofs.Ytgaelpcghljihaa
