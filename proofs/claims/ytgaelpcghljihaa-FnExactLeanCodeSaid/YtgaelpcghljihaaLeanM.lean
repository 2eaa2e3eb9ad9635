/-
  The program's lean code: kept, by sets, just where kept by counts. By an AI agent.
-/
import Derived.Test.YtgaelpcghljihaaNedM
namespace Go.Proofs.Ytgaelpcghljihaa
open Go.RowKit Cv
set_option linter.unusedVariables false
set_option linter.unusedSimpArgs false
set_option maxRecDepth 100000

theorem cnt_off (p q : Nat → Bool) (n k : Nat) (hk : k < n) (h : ∀ j, j ≠ k → p j = q j) (hq : q k = false) : cnt p n = cnt q n + if p k = true then 1 else 0 := by
  induction n with
  | zero => omega
  | succ n ih =>
    rw [cnt_at, cnt_at]
    by_cases e : k = n
    · subst e
      rw [hq, cnt_congr p q k fun i hi => h i (by omega)]; simp
    · rw [ih (by omega), h n (Ne.symm e)]; omega
theorem need_iffT (T S : List Int) (r x : Int) : needB T S x r = true ↔ ∃ u : Nat, u < (nW S).toNat ∧ dist S u x ≤ r ∧ gi T u = 1 := by
  unfold needB
  rw [oneTo_iff]
  constructor
  · rintro ⟨j, hj, h⟩
    have hb : 0 ≤ gi (ballW S x r) j ∧ gi (ballW S x r) j < ((nW S).toNat : Nat) := selTo_bd _ _ j hj
    have hm : ballN S r x (gi (ballW S x r) j).toNat = true := by
      unfold ballN inL; rw [decide_eq_true_eq, Int.toNat_of_nonneg hb.1]; exact gi_mem hj
    rw [ballN_in, decide_eq_true_eq] at hm
    exact ⟨_, hm.1, hm.2, h⟩
  · rintro ⟨u, hu, hd, h⟩
    have hm : ballN S r x u = true := by rw [ballN_in, decide_eq_true_eq]; exact ⟨hu, hd⟩
    unfold ballN inL at hm
    rw [decide_eq_true_eq] at hm
    obtain ⟨j, hj, e⟩ := mem_gi hm
    exact ⟨j, hj, by rw [e]; simpa using h⟩
def kept (S C : List Int) (r : Int) (j : Nat) : Bool := needB (lnT S C r j) S (gi C j) r
theorem lnT_cnt (S C : List Int) (r : Int) (u : Nat) (hu : u < (nW S).toNat) (k : Nat) (hk : k ≤ C.length) : gi (lnT S C r k) u = cnt (fun j => decide (dist S u (gi C j) ≤ r) && (decide (k ≤ j) || kept S C r j)) C.length := by
  induction k with
  | zero =>
    rw [lnT, gi_timesA _ _ _ _ hu]
    unfold tAt tcov
    exact cnt_congr _ _ _ fun i hi => by rw [dist_comm]; simp
  | succ k ih =>
    rw [lnT]
    by_cases e : needB (lnT S C r k) S (gi C k) r = true
    · rw [if_pos e, ih (by omega)]
      refine cnt_congr _ _ _ fun i hi => ?_
      congr 1
      by_cases e2 : i = k
      · subst e2; rw [show kept S C r i = true from e]; simp
      · have : decide (k ≤ i) = decide (k + 1 ≤ i) := by rw [decide_eq_decide]; omega
        rw [this]
    · rw [if_neg e, gi_decL _ _ _ (by rw [lnT_len]; exact hu), ih (by omega)]
      have h2 : cntIn (ballW S (gi C k) r) u (ballW S (gi C k) r).length = if u < (nW S).toNat ∧ ballB S (gi C k) r u = true then 1 else 0 := cntIn_sel (ballB S (gi C k) r) (nW S).toNat u
      have e' : kept S C r k = false := by unfold kept; simpa using e
      rw [h2, cnt_off _ (fun j => decide (dist S u (gi C j) ≤ r) && (decide (k + 1 ≤ j) || kept S C r j)) C.length k (by omega) (fun j hj => by
        have : decide (k ≤ j) = decide (k + 1 ≤ j) := by rw [decide_eq_decide]; omega
        rw [this]) (by rw [e']; simp)]
      have h3 : (u < (nW S).toNat ∧ ballB S (gi C k) r u = true) ↔ (decide (dist S u (gi C k) ≤ r) && (decide (k ≤ k) || kept S C r k)) = true := by
        simp [hu, ballB]
      simp only [h3]
      omega
theorem lean_others (S C : List Int) (r : Int) (k u : Nat) (hk : k < C.length) (bf : Nat → Bool) (hbf : ∀ u, bf u = true ↔ ∃ j, j < k ∧ kept S C r j = true ∧ ballN S r (gi C j) u = true) :
    (bf u || behU (C.map (ballN S r)) k u) = true ↔ ∃ i, i < C.length ∧ i ≠ k ∧ (k ≤ i ∨ kept S C r i = true) ∧ ballN S r (gi C i) u = true := by
  rw [Bool.or_eq_true, hbf, behU, unionL_iff]
  constructor
  · rintro (⟨i, hi, h1, h2⟩ | ⟨i, hi, h⟩)
    · exact ⟨i, by omega, by omega, .inr h1, h2⟩
    · simp at hi
      rw [pAt_drop, pAt_map _ _ _ _ (by omega)] at h
      exact ⟨k + 1 + i, by omega, by omega, .inl (by omega), h⟩
  · rintro ⟨i, hi, hne, hkk, h⟩
    by_cases e : i < k
    · exact .inl ⟨i, e, by rcases hkk with g | g; omega; exact g, h⟩
    · exact .inr ⟨i - (k + 1), by simp; omega, by rw [pAt_drop, show k + 1 + (i - (k + 1)) = i by omega, pAt_map _ _ _ _ hi]; exact h⟩
theorem lean_eq (S C : List Int) (r : Int) (hN : nW S ≤ 1024) (k : Nat) (hk : k < C.length) (bf : Nat → Bool) (hbf : ∀ u, bf u = true ↔ ∃ j, j < k ∧ kept S C r j = true ∧ ballN S r (gi C j) u = true) :
    needS (C.map (ballN S r)) bf k = kept S C r k := by
  rw [Bool.eq_iff_iff, kept, need_iffT]
  unfold needS
  rw [Bool.not_eq_true', ← Bool.not_eq_true, eqS_iff]
  have one : ∀ u : Nat, u < (nW S).toNat → dist S u (gi C k) ≤ r → (gi (lnT S C r k) u = 1 ↔ ∀ i, i < C.length → i ≠ k → ¬ ((k ≤ i ∨ kept S C r i = true) ∧ dist S u (gi C i) ≤ r)) := fun u hu hd => by
    rw [lnT_cnt S C r u hu k (by omega), cnt_one _ _ k hk (by simp [hd])]
    constructor
    · intro h i hi hne g
      have := h i hi hne
      simp [g.2] at this
      rcases g.1 with g1 | g1
      · omega
      · rw [this.2] at g1; cases g1
    · intro h i hi hne
      have g := h i hi hne
      rw [Bool.and_eq_false_iff, decide_eq_false_iff_not]
      by_cases e : dist S u (gi C i) ≤ r
      · refine .inr ?_
        rw [Bool.or_eq_false_iff, decide_eq_false_iff_not]
        exact ⟨fun e2 => g ⟨.inl e2, e⟩, by cases h2 : kept S C r i with | true => exact absurd ⟨.inr h2, e⟩ g | false => rfl⟩
      · exact .inl e
  constructor
  · intro h
    have h' : ∃ u, u < 1024 ∧ ¬ (bf u || behU (C.map (ballN S r)) k u || pAt (C.map (ballN S r)) k u) = (bf u || behU (C.map (ballN S r)) k u) := by
      refine Classical.byContradiction fun g => h fun u hu => Classical.byContradiction fun g2 => g ⟨u, hu, g2⟩
    obtain ⟨u, hu, hne⟩ := h'
    cases ho : (bf u || behU (C.map (ballN S r)) k u) with
    | true => rw [ho] at hne; simp at hne
    | false =>
      rw [ho, Bool.false_or, pAt_map _ _ _ _ hk] at hne
      have hp : ballN S r (gi C k) u = true := by simpa using hne
      rw [ballN_in, decide_eq_true_eq] at hp
      refine ⟨u, hp.1, hp.2, (one u hp.1 hp.2).2 fun i hi hik hd => ?_⟩
      have := (lean_others S C r k u hk bf hbf).2 ⟨i, hi, hik, hd.1, by rw [ballN_in, decide_eq_true_eq]; exact ⟨hp.1, hd.2⟩⟩
      rw [ho] at this; cases this
  · rintro ⟨u, hu, hd, ht⟩ h
    have h1 := h u (by omega)
    have hp : ballN S r (gi C k) u = true := by rw [ballN_in, decide_eq_true_eq]; exact ⟨hu, hd⟩
    rw [pAt_map _ _ _ _ hk, hp, Bool.or_true] at h1
    obtain ⟨i, hi, hne, hkk, g⟩ := (lean_others S C r k u hk bf hbf).1 h1.symm
    rw [ballN_in, decide_eq_true_eq] at g
    exact (one u hu hd).1 ht i hi hne ⟨hkk, g.2⟩
theorem lean_all (S C : List Int) (r : Int) (hN : nW S ≤ 1024) (k : Nat) (hk : k ≤ C.length) :
    (∀ u, befT (C.map (ballN S r)) true k u = true ↔ ∃ j, j < k ∧ kept S C r j = true ∧ ballN S r (gi C j) u = true) ∧ outT (C.map (ballN S r)) C true k = lnTo S C r k := by
  induction k with
  | zero => exact ⟨fun u => by simp [befT], rfl⟩
  | succ k ih =>
    obtain ⟨h1, h2⟩ := ih (by omega)
    have he := lean_eq S C r hN k (by omega) _ h1
    refine ⟨fun u => ?_, ?_⟩
    · rw [befT, he]
      cases hkk : kept S C r k with
      | true =>
        rw [if_pos (by simp)]
        simp only [Bool.or_eq_true, h1, pAt_map S C r k (by omega)]
        constructor
        · rintro (⟨j, hj, a, b⟩ | h)
          · exact ⟨j, by omega, a, b⟩
          · exact ⟨k, by omega, hkk, h⟩
        · rintro ⟨j, hj, a, b⟩
          by_cases e : j = k
          · subst e; exact .inr b
          · exact .inl ⟨j, by omega, a, b⟩
      | false =>
        rw [if_neg (by simp), h1]
        constructor
        · rintro ⟨j, hj, a, b⟩; exact ⟨j, by omega, a, b⟩
        · rintro ⟨j, hj, a, b⟩
          refine ⟨j, ?_, a, b⟩
          by_cases e : j = k
          · subst e; rw [hkk] at a; cases a
          · omega
    · rw [outT, he, h2, lnTo]; rfl

set_option maxHeartbeats 1000000 in
theorem impl_LeanCode (ao : Option Addr) (S : List Int) (cap : Nat) (hn : S.length ≤ 4294967296) (ac : Option Addr) (C : List Int) (capc : Nat) (hnc : C.length ≤ 4294967296) (r : Int) (hr : -9223372036854775808 ≤ r ∧ r ≤ 9223372036854775807) (w : World) (hS : Ints w ao S) (hC : Ints w ac C) :
    Calls Try.prog 46 #[.agg #[.slice ao S.length cap], .slice ac C.length capc, .int .i64 r] w fun e w' => ∃ v, e = .returned (.tuple #[v, .int .i64 (eCov S C r)]) ∧ OwnInts w' w.heap.size v (vLean S C r) ∧ Below w.heap.size w w' := by
  have B0 : Below w.heap.size w (w.alloc (.cells #[.slice ao S.length cap] 24)) := by go_grown
  have HQ := Lib.hid (eCov2_nil S C r)
  have cS := cell_new w (.slice ao S.length cap) 24
  have lS := lt_alloc w (.cells #[.slice ao S.length cap] 24)
  by_cases hq : eCov S C r = 0
  · obtain ⟨hz, r1, r2⟩ := eCov_zero hq
    obtain ⟨hSp, hc1, hc2⟩ := eCode_zero hz
    have N1 := nW_bd hSp
    have hlen := code_len hSp hc1 hc2
    have HSp := Lib.hid hSp
    have HC1 : Hid (∀ i, i < C.length → 0 ≤ gi C i ∧ gi C i ≤ 9223372036854775807) := Lib.hid fun i h => by have := hc1 i h; omega
    have HV : Hid (vLean S C r = outT (C.map (ballN S r)) C true C.length) := Lib.hid (by unfold vLean; rw [if_pos hq, (lean_all S C r (by omega) _ (Nat.le_refl _)).2])
    have hqn : (eCov2 S C [] r != 0) = false := by rw [HQ.out]; simp [hq]
    have HQ0 := Lib.hid hq
    clear hc1 hc2 hSp hq hz N1
    go_enter Try.func46, Try.ntmps46
    go_wp2_with fail
    refine (coverError_n ao S cap hn ac C capc hnc r none [] 0 0 rfl (by omega) _ (hS.below B0) (hC.below B0) (.inl rfl)).mono ?_
    rintro e w1 ⟨rfl, hb⟩
    replace cS := kept_cell hb cS lS
    replace lS := lt_of_below hb lS
    have B1 : Below w.heap.size w w1 := B0.trans (hb.mono B0.size)
    have hs1 := B1.size
    clear hb B0
    go_wp2_with fail
    refine (balls_any ao S cap ac C capc r _).mono ?_
    rintro e w2 ⟨wb, sb, rb, rfl, hbb, hwb, hsb, hrb, hb2⟩
    have B2 := B1.trans (hb2.mono B1.size)
    clear hb2 hbb
    go_wp2_with fail
    refine (collectBalls_any S HSp.out ao cap ac C capc (by omega) HC1.out r r1 r2 wb sb rb w w2 B2 hS hC hwb hsb hrb).mono ?_
    rintro e w3 ⟨vs, rfl, oS, hb3⟩
    obtain ⟨av, cs, hv⟩ := sets_shape oS
    rw [List.length_map] at hv
    subst hv
    have B3 := B2.trans (hb3.mono B2.size)
    have s3 := hb3.size
    clear hwb hsb hrb hb3
    go_wp2_with fail
    refine (neededOf_any ac C capc (by omega) w2.heap.size av cs (C.map (ballN S r)) (by simp) true _ s3 (hC.below B3) oS).mono ?_
    rintro e w4 ⟨v, rfl, own, hb4⟩
    have hs3 := B3.size
    go_wp2_with fail
    go_ret2
    exact ⟨_, by rw [HQ0.out]; rfl, by rw [HV.out]; exact own.rebase hs3, B3.trans (hb4.mono hs3)⟩
  · have hqn : (eCov2 S C [] r != 0) = true := by rw [HQ.out]; simpa using hq
    have HV : Hid (vLean S C r = []) := Lib.hid (by unfold vLean; rw [if_neg hq])
    clear hq
    go_enter Try.func46, Try.ntmps46
    go_wp2_with fail
    refine (coverError_n ao S cap hn ac C capc hnc r none [] 0 0 rfl (by omega) _ (hS.below B0) (hC.below B0) (.inl rfl)).mono ?_
    rintro e w1 ⟨rfl, hb⟩
    go_wp2_with fail
    go_ret2
    exact ⟨_, by rw [HQ.out]; rfl, by rw [HV.out]; exact own_nil _ _, B0.trans (hb.mono B0.size)⟩

end Go.Proofs.Ytgaelpcghljihaa
