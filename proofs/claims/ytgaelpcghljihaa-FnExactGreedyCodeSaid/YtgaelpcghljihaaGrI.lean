/-
  The contract of the program's GreedyCode. By an AI agent.
-/
import Derived.Test.YtgaelpcghljihaaGrM
import Derived.Test.YtgaelpcghljihaaCovd
import Derived.Test.YtgaelpcghljihaaSetEq
import Derived.Test.YtgaelpcghljihaaSort
import Derived.Test.YtgaelpcghljihaaAppendAt
import Derived.Test.YtgaelpcghljihaaGrW
import Derived.Test.YtgaelpcghljihaaAllW
import Derived.Test.YtgaelpcghljihaaErr2
import Derived.Deep.RegionHeld3
namespace Go.Proofs.Ytgaelpcghljihaa
open Go.RowKit Go.Shelf Cv
set_option linter.unusedVariables false
set_option linter.unusedSimpArgs false
set_option maxRecDepth 100000

/-- the words around a word -/
def bF (S : List Int) (r : Int) (w u : Nat) : Bool := ballN S r (w : Int) u
theorem bF_arnd {S : List Int} (hS : Sp S) {r : Int} (hr : 0 ≤ r) : Arnd (bF S r) (nW S).toNat := by
  refine ⟨fun w hw => ?_, fun w u h => ?_, by have := nW_bd hS; omega⟩
  · unfold bF; rw [ballN_in, decide_eq_true_eq, dist_self]; exact ⟨hw, hr⟩
  · unfold bF at h; rw [ballN_in, decide_eq_true_eq] at h; exact h.1
def eGr (S : List Int) (r : Int) : Int := if isSp S = true then (if 0 ≤ r ∧ r ≤ 8 then 0 else 2) else 1
def vGr (S : List Int) (r : Int) : List Int := if eGr S r = 0 then sorted (grL (bF S r) (nW S).toNat) else []
theorem eGr_zero {S : List Int} {r : Int} (h : eGr S r = 0) : Sp S ∧ 0 ≤ r ∧ r ≤ 8 := by
  unfold eGr at h
  split at h
  · rename_i h1
    split at h
    · rename_i h2; exact ⟨(isSp_iff S).1 h1, h2⟩
    · cases h
  · cases h
theorem grRun_len {F : Nat → Nat → Bool} {N : Nat} (hF : Arnd F N) (n : Nat) : ∀ c L, GrI F N c L → (grRun F N n c L).length ≤ N := by
  induction n with
  | zero => intro c L g; exact gri_len g
  | succ n ih =>
    intro c L g
    cases h : grDone c N with
    | true => rw [grRun_done h]; exact gri_len g
    | false => rw [grRun_step h]; exact ih _ _ (gri_step hF g h).2
theorem vGr_len (S : List Int) (r : Int) : (vGr S r).length ≤ 1048576 := by
  unfold vGr
  split
  · rename_i h
    obtain ⟨hS, h0, _⟩ := eGr_zero h
    have hF := bF_arnd hS h0
    have := grRun_len hF ((nW S).toNat + 1) _ _ (gri_0 (bF S r) (nW S).toNat fun _ => false)
    have := hF.n1
    rw [sorted_len]
    show (grRun (bF S r) (nW S).toNat ((nW S).toNat + 1) (fun _ => false) []).length ≤ _
    omega
  · simp
theorem eGr_impl (S : List Int) (r : Int) : eCov2 S [] [] r = eGr S r := by
  rw [eCov2_nil]
  unfold eCov eGr
  cases h : isSp S with
  | true =>
    have : eCode S [] = 0 := eCode_ok h rfl
    rw [if_pos this]; simp
  | false =>
    rw [eCode_inv h]; simp
theorem upto_at (S : List Int) (r : Int) (N j : Nat) (hj : j < N) : pAt ((upto N).map (ballN S r)) j = bF S r j := by
  unfold pAt bF
  simp [upto, hj]
theorem mbI_congr {f g : Nat → Nat} {k : Nat} (h : ∀ j, j < k → f j = g j) : mbI f k = mbI g k ∧ mbV f k = mbV g k := by
  induction k with
  | zero => exact ⟨rfl, rfl⟩
  | succ k ih =>
    have h1 := ih fun j hj => h j (by omega)
    have h2 := h k (by omega)
    simp only [mbI, mbV, h1.1, h1.2, h2, and_self]
theorem done_eq (c : Nat → Bool) (S : List Int) (hN : (nW S).toNat ≤ 1024) (hc : ∀ u, c u = true → u < (nW S).toNat) : eqS c (allN S) = grDone c (nW S).toNat := by
  rw [Bool.eq_iff_iff, eqS_iff]
  unfold grDone allN
  rw [decide_eq_true_eq]
  constructor
  · intro h u hu
    rw [h u (by omega), decide_eq_true hu]
  · intro h u _
    by_cases hu : u < (nW S).toNat
    · rw [h u hu, decide_eq_true hu]
    · rw [decide_eq_false hu]
      cases e : c u with
      | true => exact absurd (hc u e) hu
      | false => rfl
theorem balls_n (ao : Option Addr) (S : List Int) (cap : Nat) (ac : Option Addr) (C : List Int) (K capc : Nat) (hK : K = C.length) (r : Int) (w : World) :
    Calls Try.prog 98 #[.agg #[.slice ao S.length cap], .slice ac K capc, .int .i64 r] w fun e w' =>
      ∃ wb sb rb, e = .returned (.func (.func 142) #[] #[.pointer (some ⟨wb, 0, none⟩), .pointer (some ⟨sb, 0, none⟩), .pointer (some ⟨rb, 0, none⟩)]) ∧ (w.heap.size ≤ wb ∧ w.heap.size ≤ sb ∧ w.heap.size ≤ rb) ∧ w'.heap[wb]? = some (.cells #[.slice ac C.length capc] 22 (0, 0)) ∧ w'.heap[sb]? = some (.cells #[.slice ao S.length cap] 24 (0, 0)) ∧ w'.heap[rb]? = some (.cells #[.int .i64 r] 2 (0, 0)) ∧ Below w.heap.size w w' := by
  subst hK; exact balls_any ao S cap ac C capc r w
theorem upto_ne {N : Nat} (h : 1 ≤ N) (f : Int → Nat → Bool) : (upto N).map f ≠ [] := by
  intro e
  have := congrArg List.length e
  rw [List.length_map, upto_len] at this
  simp at this; omega
def slen : Value → Nat
  | .slice _ n _ => n
  | _ => 0

theorem gn_gr {F G : Nat → Nat → Bool} {N : Nat} {Q : Nat → Bool} (hF : Arnd F N) (hG : ∀ j, j < N → G j = F j) (hD : ∀ c : Nat → Bool, (∀ u, c u = true → u < N) → eqS c Q = grDone c N) : ∀ n c L, (∀ u, c u = true → u < N) → gnRun G N Q n c L = grRun F N n c L
  | 0, _, _, _ => rfl
  | n + 1, c, L, hc => by
    have hw : gnW G N c = grW F N c := (gn_congr (f := gF G c) (g := gF F c) (k := N) fun j hj => by unfold gF; rw [hG j hj]).1
    rw [gnRun, grRun, hD c hc]
    by_cases h : grDone c N = true
    · rw [if_pos h, if_pos h]
    · rw [if_neg h, if_neg h]
      have hp := (gr_pick hF (by simpa using h)).1
      have hcc : gnC G N c = grC F N c := by unfold gnC grC; rw [hw, hG _ hp]
      rw [hcc, hw]
      exact gn_gr hF hG hD n _ _ fun u hu => by
        simp only [grC, Bool.or_eq_true] at hu
        rcases hu with hu | hu
        · exact hc u hu
        · exact hF.wd _ _ hu
theorem gn_len1 (F : Nat → Nat → Bool) (N : Nat) : ∀ n c L, 1 ≤ L.length → 1 ≤ (grRun F N n c L).length
  | 0, _, _, h => h
  | n + 1, c, L, h => by
    rw [grRun]
    split
    · exact h
    · exact gn_len1 F N n _ _ (by rw [List.length_append]; simp)
theorem cnt_lt (N : Nat) : ∀ n, cntTo (fun u => decide (u < N)) n = min n N
  | 0 => by simp [cntTo]
  | n + 1 => by
    rw [cntTo, cnt_lt N n]
    by_cases h : n < N
    · rw [if_pos (by simpa using h)]; omega
    · rw [if_neg (by simpa using h)]; omega
theorem lf_all {S : List Int} {N : Nat} (hN : (nW S).toNat = N) (h : N ≤ 1024) : lf (allN S) (fun _ => false) = N := by
  have e : byd (allN S) (fun _ => false) = fun u => decide (u < N) := by funext u; unfold byd allN; rw [hN]; simp
  unfold lf
  rw [e, cnt_lt]; omega

set_option maxHeartbeats 4000000 in
theorem impl_GreedyCode (ao : Option Addr) (S : List Int) (cap : Nat) (hn : S.length ≤ 4294967296) (r : Int) (hrb : -9223372036854775808 ≤ r ∧ r ≤ 9223372036854775807) (w : World) (hS : Ints w ao S) :
    Calls Try.prog 48 #[.agg #[.slice ao S.length cap], .int .i64 r] w fun e w' => ∃ v, e = .returned (.tuple #[v, .int .i64 (eGr S r)]) ∧ OwnInts w' w.heap.size v (vGr S r) ∧ Below w.heap.size w w' := by
  have B0 : Below w.heap.size w (w.alloc (.cells #[.slice ao S.length cap] 24)) := by go_grown
  have c0 := cell_new w (.slice ao S.length cap) 24
  have l0 := lt_alloc w (.cells #[.slice ao S.length cap] 24)
  have hce := coverError_n ao S cap hn none [] 0 (by simp) r none [] 0 0 rfl (by omega) _ (hS.below B0) (.inl rfl) (.inl rfl)
  rw [eGr_impl] at hce
  by_cases hz : eGr S r = 0
  · obtain ⟨hSp, hr0, hr8⟩ := eGr_zero hz
    have HSp := Lib.hid hSp
    obtain ⟨N1, N2⟩ := nW_bd hSp
    obtain ⟨N, hN⟩ : ∃ N : Nat, nW S = (N : Int) := ⟨(nW S).toNat, by omega⟩
    have hNt : (nW S).toNat = N := by omega
    have HN := Lib.hid hN
    have hA := bF_arnd hSp hr0
    rw [hNt] at hA
    rw [hN] at N1 N2
    have N1n : 1 ≤ N := by omega
    have N2n : N ≤ 1024 := by omega
    have hFP : ∀ j, j < N → pAt ((upto N).map (ballN S r)) j = bF S r j := fun j hj => upto_at S r N j hj
    have hDE : ∀ c : Nat → Bool, (∀ u, c u = true → u < N) → eqS c (allN S) = grDone c N := fun c h => by rw [← hNt]; exact done_eq c S (by omega) (by rw [hNt]; exact h)
    have hCv : Cvr (pAt ((upto N).map (ballN S r))) N (allN S) := ⟨fun j u hj h => by rw [hFP j hj] at h; unfold allN; rw [hNt, decide_eq_true_eq]; exact hA.wd _ _ h,
      fun u hu => by unfold allN at hu; rw [hNt, decide_eq_true_eq] at hu; exact ⟨u, hu, by rw [hFP u hu]; exact hA.own u hu⟩, fun u hu => by unfold allN at hu; rw [hNt, decide_eq_true_eq] at hu; omega⟩
    have hL : gnL (pAt ((upto N).map (ballN S r))) N (allN S) = grL (bF S r) N := by
      unfold gnL grL
      rw [lf_all hNt N2n]
      exact gn_gr hA hFP hDE _ _ _ (fun u h => by cases h)
    have HV : Hid (vGr S r = sorted (gnL (pAt ((upto N).map (ballN S r))) N (allN S))) := Lib.hid (by unfold vGr; rw [if_pos hz, hNt, hL])
    have hlen : 1 ≤ (gnL (pAt ((upto N).map (ballN S r))) N (allN S)).length ∧ (gnL (pAt ((upto N).map (ballN S r))) N (allN S)).length ≤ 1048576 := by
      rw [hL]
      refine ⟨?_, by have := grRun_len hA (N + 1) _ _ (gri_0 (bF S r) N fun _ => false); unfold grL; omega⟩
      unfold grL
      rw [grRun_step (by unfold grDone; rw [decide_eq_false_iff_not]; intro h; have := h 0 (by omega); cases this)]
      exact gn_len1 _ _ _ _ _ (by simp)
    obtain ⟨LL, hLL⟩ : ∃ LL, LL = gnL (pAt ((upto N).map (ballN S r))) N (allN S) := ⟨_, rfl⟩
    rw [← hLL] at hlen HV
    rw [hz] at hce
    have HZ := Lib.hid hz
    have HCE := Lib.hid hce
    have HCv := Lib.hid hCv
    have HLL := Lib.hid hLL
    clear hz hce hSp hN hNt hA hFP hDE hCv hL hLL
    go_enter Try.func48, Try.ntmps48
    go_wp2_with fail
    refine HCE.out.mono ?_
    rintro e w1 ⟨rfl, hb0⟩
    have c1 := kept_cell hb0 c0 l0
    have B1 := B0.trans (hb0.mono B0.size)
    have l1 := lt_of_below hb0 l0
    clear hb0 c0 l0 B0
    go_wp2_with fail
    refine wp_region_held_drew (S := fun w' => w'.cell? ⟨w.heap.size, 0, none⟩ = some (.slice ao S.length cap)) (by kernel_rfl) (c1) (fun hHeld => ?_)
    refine wpAnyH_take (i := 0) (v := ?_) rfl (by kernel_rfl) (by kernel_rfl) (by kernel_rfl) (fun _ _ _ h => h) (Or.inl ⟨by rfl, ?_⟩) (by assumption) ?_
    rotate_left
    · (intro w hSw; obtain hSw := hSw; (try dsimp only at hSw); go_simp; try (with_reducible rfl))
    (try simp only [Act.put, List.setIfInBounds_toArray, List.set_cons_zero, List.set_cons_succ, List.getElem_toArray, List.getElem_cons_succ, List.getElem_cons_zero])
    refine wpAnyH_take (i := 1) (v := ?_) rfl (by kernel_rfl) (by kernel_rfl) (by kernel_rfl) (fun _ _ _ h => h) (Or.inl ⟨by rfl, ?_⟩) (by assumption) ?_
    rotate_left
    · (intro w hSw; obtain hSw := hSw; (try dsimp only at hSw); go_simp; try (with_reducible rfl))
    (try simp only [Act.put, List.setIfInBounds_toArray, List.set_cons_zero, List.set_cons_succ, List.getElem_toArray, List.getElem_cons_succ, List.getElem_cons_zero])
    refine wpAnyH_take (i := 3) (v := ?_) rfl (by kernel_rfl) (by kernel_rfl) (by kernel_rfl) (fun _ _ _ h => h) (Or.inl ⟨by rfl, ?_⟩) (by assumption) ?_
    rotate_left
    · (intro w hSw; obtain hSw := hSw; (try dsimp only at hSw); go_simp; try (with_reducible rfl))
    (try simp only [Act.put, List.setIfInBounds_toArray, List.set_cons_zero, List.set_cons_succ, List.getElem_toArray, List.getElem_cons_succ, List.getElem_cons_zero])
    refine wpAnyH_ready (rs := [2]) (by kernel_rfl) (by simp) ?_
    refine AllReadyH.cons rfl (fun K hK => ?_) AllReadyH.nil
    go_simp
    (go_at_call 78; refine (allWords_any ao S cap HSp.out N HN _ (hS.below (B1.trans (Below.mono (Below.refl w1.heap.size w1).drew B1.size)))).mono ?_)
    rintro e x1 ⟨q, rfl, oq, hb1⟩
    have H1 : Below w1.heap.size w1 x1 := Below.trans (Below.refl w1.heap.size w1).drew (hb1.mono (Below.size (Below.refl w1.heap.size w1).drew))
    refine hK.out _ _ (kept_cell H1 c1 l1) (fun hHeld => ?_)
    clear hK K
    (try simp only [Act.put, List.setIfInBounds_toArray, List.set_cons_zero, List.set_cons_succ, List.getElem_toArray, List.getElem_cons_succ, List.getElem_cons_zero])
    refine wpAnyH_ready (rs := [4]) (by kernel_rfl) (by simp) ?_
    refine AllReadyH.cons rfl (fun K hK => ?_) AllReadyH.nil
    go_simp
    (go_at_call 98; refine (balls_n ao S cap (some ⟨q, 0, none⟩) (upto N) N N (upto_len N).symm r _).mono ?_)
    rintro e x2 ⟨wb, sb, rb, rfl, hbb, hwb, hsb, hrb, hb2⟩
    have H2 : Below w1.heap.size w1 x2 := Below.trans H1 (hb2.mono (Below.size H1))
    refine hK.out _ _ (kept_cell H2 c1 l1) (fun hHeld => ?_)
    clear hK K
    (try simp only [Act.put, List.setIfInBounds_toArray, List.set_cons_zero, List.set_cons_succ, List.getElem_toArray, List.getElem_cons_succ, List.getElem_cons_zero])
    refine wpAnyH_ready (rs := [5]) (by kernel_rfl) (by simp) ?_
    refine AllReadyH.cons rfl (fun K hK => ?_) AllReadyH.nil
    go_simp
    (go_at_call 97; refine (collectBalls_any S HSp.out ao cap (some ⟨q, 0, none⟩) (upto N) N (by rw [upto_len]; omega) (fun i hi => by rw [upto_len] at hi; rw [gi_upto _ _ hi]; omega) r hr0 hr8 wb sb rb x1 x2 hb2 (hS.below (B1.trans (Below.mono H1 B1.size))) (own_ints oq) hwb hsb hrb).mono ?_)
    rintro e x3 ⟨vS, rfl, os, hb3⟩
    have H3 : Below w1.heap.size w1 x3 := Below.trans H2 (hb3.mono (Below.size H2))
    obtain ⟨gs, cs, rfl⟩ := sets_some os (upto_ne N1n _)
    rw [List.length_map, upto_len] at os
    try rw [List.length_map, upto_len]
    refine hK.out _ _ (kept_cell H3 c1 l1) (fun hHeld => ?_)
    clear hK K
    (try simp only [Act.put, List.setIfInBounds_toArray, List.set_cons_zero, List.set_cons_succ, List.getElem_toArray, List.getElem_cons_succ, List.getElem_cons_zero])
    refine wpAnyH_take (i := 6) (v := ?_) rfl (by kernel_rfl) (by kernel_rfl) (by kernel_rfl) (fun _ _ _ h => h) (Or.inl ⟨by rfl, ?_⟩) (by assumption) ?_
    rotate_left
    · (intro w hSw; obtain hSw := hSw; (try dsimp only at hSw); go_simp; try (with_reducible rfl))
    (try simp only [Act.put, List.setIfInBounds_toArray, List.set_cons_zero, List.set_cons_succ, List.getElem_toArray, List.getElem_cons_succ, List.getElem_cons_zero])
    refine wpAnyH_done (by kernel_rfl) ?_ _
    (try simp only [Act.put, List.setIfInBounds_toArray, List.set_cons_zero, List.set_cons_succ, List.getElem_toArray, List.getElem_cons_succ, List.getElem_cons_zero])
    have Hn := H3
    have B5 := B1.trans (Below.mono Hn B1.size)
    have c5 := kept_cell Hn c1 l1
    have l5 := lt_of_below Hn l1
    clear hHeld oq hwb hsb hrb hbb hb1 hb2 H1 H2 H3 Hn c1 l1 B1
    go_wp2_with fail
    refine (wholeSet_any ao S cap HSp.out _ (hS.below B5)).mono ?_
    rintro e w6 ⟨rfl, hb6⟩
    have B6 := B5.trans (hb6.mono B5.size)
    have os6 := os.below hb6
    have s6 := os6.base_le
    clear hb6 os c5 l5 B5
    go_wp2_with fail
    refine (greedyRounds_any gs N cs (allN S) w6).mono ?_
    rintro e w7 ⟨rfl, rw7, hs7, hb7⟩
    have B7 := B6.trans (hb7.mono B6.size)
    have os7 : OwnSets w7 _ (.slice (some ⟨gs, 0, none⟩) N cs) ((upto N).map (ballN S r)) := os6.below hb7
    have lw := rw7.lt
    have ls := (Array.getElem?_eq_some_iff.1 hs7).1
    have lg := os7.base_le.2
    have hst := sorted_any2 147 #[.pointer (some ⟨w6.heap.size + 1, 0, none⟩), .pointer (some ⟨w6.heap.size, 0, none⟩)] (enters_of Try.func147 (by kernel_rfl) rfl) LL hlen.1 hlen.2 _ 1024 (by omega) w7 1 (KpR (w6.heap.size + 1) w6.heap.size gs) kpR_t
      (fun A C h => ⟨fun cur t e => (h.block _ lw).trans e, fun cur t e => (h.block _ ls).trans e, fun cur t e => (h.block _ lg).trans e⟩)
      (fun n hn => by rw [HLL.out]; exact greedyRounds_gives n hn _ gs cs N _ (by rw [List.length_map, upto_len]) N1n (by omega) (allN S) HCv.out _ _ w7 os7 rw7 hs7)
    have s7 := B7.size
    clear os7 hb7 os6 rw7 hs7
    go_wp2_with fail
    refine hst.mono ?_
    rintro e w8 ⟨v, rfl, own, hb8⟩
    go_wp2_with fail
    go_ret2
    exact ⟨_, by rw [HZ.out]; try rfl, by rw [HV.out]; exact own.rebase s7, B7.trans (hb8.mono B7.size)⟩
  · have hzn : (eGr S r != 0) = true := by simpa using hz
    have HV : Hid (vGr S r = []) := Lib.hid (by unfold vGr; rw [if_neg hz])
    have HCE := Lib.hid hce
    clear hz hce
    go_enter Try.func48, Try.ntmps48
    go_wp2_with fail
    refine HCE.out.mono ?_
    rintro e w1 ⟨rfl, hb1⟩
    go_wp2_with fail
    go_ret2
    exact ⟨_, rfl, by rw [HV.out]; exact own_nil _ _, B0.trans (hb1.mono B0.size)⟩

end Go.Proofs.Ytgaelpcghljihaa
