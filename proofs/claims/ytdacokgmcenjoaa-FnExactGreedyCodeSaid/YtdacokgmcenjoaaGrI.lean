/-
  The contract of the program's GreedyCode. By an AI agent.
-/
import Derived.Test.YtdacokgmcenjoaaGrM
import Derived.Test.YtdacokgmcenjoaaCovd
import Derived.Test.YtdacokgmcenjoaaSetEq
import Derived.Test.YtdacokgmcenjoaaSort
import Derived.Test.YtdacokgmcenjoaaAppendAt
import Derived.Test.YtdacokgmcenjoaaAllW
import Derived.Test.YtdacokgmcenjoaaErr2
import Derived.Deep.RegionHeld3
namespace Go.Proofs.Ytdacokgmcenjoaa
open Go.RowKit Go.Shelf Cv
set_option linter.unusedVariables false
set_option linter.unusedSimpArgs false
set_option maxRecDepth 100000

/-- the words around a word -/
def bF (S : List Int) (r : Int) (w u : Nat) : Bool := ballN S r (w : Int) u
theorem bF_arnd {S : List Int} (hS : Sp S) {r : Int} (hr : 0 ≤ r) : Arnd (bF S r) (nW S).toNat := by
  refine ⟨fun w hw => ?_, fun w u h => ?_, by have := nW_bd hS; omega⟩
  · unfold bF; rw [ballN_in, decide_eq_true_eq, dist_self]; exact ⟨hw, hr⟩
  · unfold bF at h; rw [ballN_in, decide_eq_true_eq] at h; exact h.1
def eGr (S : List Int) (r : Int) : Int := if isSp S = true then (if 0 ≤ r ∧ r ≤ 8 then 0 else 2) else 1
def vGr (S : List Int) (r : Int) : List Int := if eGr S r = 0 then sorted (grL (bF S r) (nW S).toNat) else []
theorem eGr_zero {S : List Int} {r : Int} (h : eGr S r = 0) : Sp S ∧ 0 ≤ r ∧ r ≤ 8 := by
  unfold eGr at h
  split at h
  · rename_i h1
    split at h
    · rename_i h2; exact ⟨(isSp_iff S).1 h1, h2⟩
    · cases h
  · cases h
theorem grRun_len {F : Nat → Nat → Bool} {N : Nat} (hF : Arnd F N) (n : Nat) : ∀ c L, GrI F N c L → (grRun F N n c L).length ≤ N := by
  induction n with
  | zero => intro c L g; exact gri_len g
  | succ n ih =>
    intro c L g
    cases h : grDone c N with
    | true => rw [grRun_done h]; exact gri_len g
    | false => rw [grRun_step h]; exact ih _ _ (gri_step hF g h).2
theorem vGr_len (S : List Int) (r : Int) : (vGr S r).length ≤ 1048576 := by
  unfold vGr
  split
  · rename_i h
    obtain ⟨hS, h0, _⟩ := eGr_zero h
    have hF := bF_arnd hS h0
    have := grRun_len hF ((nW S).toNat + 1) _ _ (gri_0 (bF S r) (nW S).toNat fun _ => false)
    have := hF.n1
    rw [sorted_len]
    show (grRun (bF S r) (nW S).toNat ((nW S).toNat + 1) (fun _ => false) []).length ≤ _
    omega
  · simp
theorem eGr_impl (S : List Int) (r : Int) : eCov2 S [] [] r = eGr S r := by
  rw [eCov2_nil]
  unfold eCov eGr
  cases h : isSp S with
  | true =>
    have : eCode S [] = 0 := eCode_ok h rfl
    rw [if_pos this]; simp
  | false =>
    rw [eCode_inv h]; simp
theorem upto_at (S : List Int) (r : Int) (N j : Nat) (hj : j < N) : pAt ((upto N).map (ballN S r)) j = bF S r j := by
  unfold pAt bF
  simp [upto, hj]
theorem mbI_congr {f g : Nat → Nat} {k : Nat} (h : ∀ j, j < k → f j = g j) : mbI f k = mbI g k ∧ mbV f k = mbV g k := by
  induction k with
  | zero => exact ⟨rfl, rfl⟩
  | succ k ih =>
    have h1 := ih fun j hj => h j (by omega)
    have h2 := h k (by omega)
    simp only [mbI, mbV, h1.1, h1.2, h2, and_self]
theorem done_eq (c : Nat → Bool) (S : List Int) (hN : (nW S).toNat ≤ 1024) (hc : ∀ u, c u = true → u < (nW S).toNat) : eqS c (allN S) = grDone c (nW S).toNat := by
  rw [Bool.eq_iff_iff, eqS_iff]
  unfold grDone allN
  rw [decide_eq_true_eq]
  constructor
  · intro h u hu
    rw [h u (by omega), decide_eq_true hu]
  · intro h u _
    by_cases hu : u < (nW S).toNat
    · rw [h u hu, decide_eq_true hu]
    · rw [decide_eq_false hu]
      cases e : c u with
      | true => exact absurd (hc u e) hu
      | false => rfl
theorem balls_n (ao : Option Addr) (S : List Int) (cap : Nat) (ac : Option Addr) (C : List Int) (K capc : Nat) (hK : K = C.length) (r : Int) (w : World) :
    Calls Try.prog 33 #[.agg #[.slice ao S.length cap], .slice ac K capc, .int .i64 r] w fun e w' =>
      ∃ wb sb rb, e = .returned (.func (.func 65) #[] #[.pointer (some ⟨wb, 0, none⟩), .pointer (some ⟨sb, 0, none⟩), .pointer (some ⟨rb, 0, none⟩)]) ∧ (w.heap.size ≤ wb ∧ w.heap.size ≤ sb ∧ w.heap.size ≤ rb) ∧ w'.heap[wb]? = some (.cells #[.slice ac C.length capc] 22 (0, 0)) ∧ w'.heap[sb]? = some (.cells #[.slice ao S.length cap] 28 (0, 0)) ∧ w'.heap[rb]? = some (.cells #[.int .i64 r] 2 (0, 0)) ∧ Below w.heap.size w w' := by
  subst hK; exact balls_any ao S cap ac C capc r w
theorem upto_ne {N : Nat} (h : 1 ≤ N) (f : Int → Nat → Bool) : (upto N).map f ≠ [] := by
  intro e
  have := congrArg List.length e
  rw [List.length_map, upto_len] at this
  simp at this; omega
def slen : Value → Nat
  | .slice _ n _ => n
  | _ => 0

set_option maxHeartbeats 4000000 in
theorem impl_GreedyCode (ao : Option Addr) (S : List Int) (cap : Nat) (hn : S.length ≤ 4294967296) (r : Int) (hrb : -9223372036854775808 ≤ r ∧ r ≤ 9223372036854775807) (w : World) (hS : Ints w ao S) :
    Calls Try.prog 10 #[.agg #[.slice ao S.length cap], .int .i64 r] w fun e w' => ∃ v, e = .returned (.tuple #[v, .int .i64 (eGr S r)]) ∧ OwnInts w' w.heap.size v (vGr S r) ∧ Below w.heap.size w w' := by
  have B0 : Below w.heap.size w (w.alloc (.cells #[.slice ao S.length cap] 28)) := by go_grown
  have c0 := cell_new w (.slice ao S.length cap) 28
  have l0 := lt_alloc w (.cells #[.slice ao S.length cap] 28)
  have hce := coverError_n ao S cap hn none [] 0 (by simp) r none [] 0 0 rfl (by omega) _ (hS.below B0) (.inl rfl) (.inl rfl)
  rw [eGr_impl] at hce
  by_cases hz : eGr S r = 0
  · obtain ⟨hSp, hr0, hr8⟩ := eGr_zero hz
    have HSp := Lib.hid hSp
    obtain ⟨N1, N2⟩ := nW_bd hSp
    obtain ⟨N, hN⟩ : ∃ N : Nat, nW S = (N : Int) := ⟨(nW S).toNat, by omega⟩
    have hNt : (nW S).toNat = N := by omega
    have HN := Lib.hid hN
    have hA := bF_arnd hSp hr0
    rw [hNt] at hA
    have HA := Lib.hid hA
    obtain ⟨F, hF⟩ : ∃ F, F = bF S r := ⟨_, rfl⟩
    have HV : Hid (vGr S r = sorted (grL F N)) := Lib.hid (by unfold vGr; rw [if_pos hz, hNt, hF])
    have HFP : Hid (∀ j, j < N → pAt ((upto N).map (ballN S r)) j = F j) := Lib.hid fun j hj => by rw [hF]; exact upto_at S r N j hj
    have HDE : Hid (∀ c : Nat → Bool, (∀ u, c u = true → u < N) → eqS c (allN S) = grDone c N) := Lib.hid fun c h => by rw [← hNt]; exact done_eq c S (by omega) (by rw [hNt]; exact h)
    rw [← hF] at HA
    rw [hz] at hce
    have HZ := Lib.hid hz
    have HCE := Lib.hid hce
    rw [hN] at N1 N2
    have N1n : 1 ≤ N := by omega
    have N2n : N ≤ 1024 := by omega
    clear hz hce hSp hN hNt hA hF
    go_enter Try.func10, Try.ntmps10
    go_wp2_with fail
    refine HCE.out.mono ?_
    rintro e w1 ⟨rfl, hb1⟩
    have c1 := kept_cell hb1 c0 l0
    have B1 := B0.trans (hb1.mono B0.size)
    have s1 : w.heap.size < w1.heap.size := lt_of_below hb1 l0
    have oo := own_empty w1 (w.heap.size + 1) (by omega) rfl
    obtain ⟨w2, hw2⟩ : ∃ w2, w2 = w1.alloc (.cells #[] 2) := ⟨_, rfl⟩
    rw [← hw2] at oo
    have hb2 : Below w1.heap.size w1 w2 := by rw [hw2]; exact (Below.refl _ _).alloc (Nat.le_refl _) _
    have s2 : w1.heap.size < w2.heap.size := by rw [hw2]; exact lt_alloc _ _
    have c2 := kept_cell hb2 c1 s1
    have B2 := B1.trans (hb2.mono B1.size)
    have HW2 := Lib.hid hw2
    clear hb1 c0 l0 B0 c1 B1 hb2 hw2
    go_wp2_with fail
    rw [← HW2.out]
    refine wp_region_held_drew (S := fun w' => w'.cell? ⟨w.heap.size, 0, none⟩ = some (.slice ao S.length cap)) (by kernel_rfl) c2 (fun hHeld => ?_)
    refine wpAnyH_take (i := 0) (v := ?_) rfl (by kernel_rfl) (by kernel_rfl) (by kernel_rfl) (fun _ _ _ h => h) (Or.inl ⟨by rfl, ?_⟩) (by assumption) ?_
    rotate_left
    · (intro w hSw; (try dsimp only at hSw); go_simp; try (with_reducible rfl))
    (try simp only [Act.put, List.setIfInBounds_toArray, List.set_cons_zero, List.set_cons_succ])
    refine wpAnyH_take (i := 1) (v := ?_) rfl (by kernel_rfl) (by kernel_rfl) (by kernel_rfl) (fun _ _ _ h => h) (Or.inl ⟨by rfl, ?_⟩) (by assumption) ?_
    rotate_left
    · (intro w hSw; (try dsimp only at hSw); go_simp; try (with_reducible rfl))
    (try simp only [Act.put, List.setIfInBounds_toArray, List.set_cons_zero, List.set_cons_succ])
    refine wpAnyH_take (i := 3) (v := ?_) rfl (by kernel_rfl) (by kernel_rfl) (by kernel_rfl) (fun _ _ _ h => h) (Or.inl ⟨by rfl, ?_⟩) (by assumption) ?_
    rotate_left
    · (intro w hSw; (try dsimp only at hSw); go_simp; try (with_reducible rfl))
    (try simp only [Act.put, List.setIfInBounds_toArray, List.set_cons_zero, List.set_cons_succ])
    refine wpAnyH_ready (rs := [2]) (by kernel_rfl) (by simp) ?_
    refine AllReadyH.cons rfl (fun K hK => ?_) AllReadyH.nil
    go_simp
    (go_at_call 34; refine (allWords_any ao S cap HSp.out N HN _ (hS.below B2.drew)).mono ?_)
    rintro e w3 ⟨q, rfl, oq, hb3'⟩
    have hb3 : Below w2.heap.size w2 w3 := (Below.refl _ w2).drew.trans hb3'
    have c3 := kept_cell hb3 c2 (by omega)
    have B3 := B2.trans (hb3.mono B2.size)
    have s3 := hb3.size
    have oo3 := oo.below hb3
    refine hK.out _ _ (c3) (fun hHeld => ?_)
    clear hK K
    (try simp only [Act.put, List.setIfInBounds_toArray, List.set_cons_zero, List.set_cons_succ])
    refine wpAnyH_ready (rs := [4]) (by kernel_rfl) (by simp) ?_
    refine AllReadyH.cons rfl (fun K hK => ?_) AllReadyH.nil
    go_simp
    (go_at_call 33; refine (balls_n ao S cap (some ⟨q, 0, none⟩) (upto N) N N (upto_len N).symm r _).mono ?_)
    rintro e w4 ⟨wb, sb, rb, rfl, hbb, hwb, hsb, hrb, hb4⟩
    have c4 := kept_cell hb4 c3 (by omega)
    have B4 := B3.trans (hb4.mono B3.size)
    have s4 := hb4.size
    have oo4 := oo3.below hb4
    refine hK.out _ _ (c4) (fun hHeld => ?_)
    clear hK K
    (try simp only [Act.put, List.setIfInBounds_toArray, List.set_cons_zero, List.set_cons_succ])
    refine wpAnyH_ready (rs := [5]) (by kernel_rfl) (by simp) ?_
    refine AllReadyH.cons rfl (fun K hK => ?_) AllReadyH.nil
    go_simp
    (go_at_call 32; refine (collectBalls_any S HSp.out ao cap (some ⟨q, 0, none⟩) (upto N) N (by rw [upto_len]; omega) (fun i hi => by rw [upto_len] at hi; rw [gi_upto _ _ hi]; omega) r hr0 hr8 wb sb rb w3 w4 hb4 (hS.below B3) (own_ints oq) hwb hsb hrb).mono ?_)
    rintro e w5 ⟨vS, rfl, os, hb5⟩
    obtain ⟨gs, cs, rfl⟩ := sets_some os (upto_ne N1n _)
    rw [List.length_map, upto_len] at os
    try rw [List.length_map, upto_len]
    have c5 := kept_cell hb5 c4 (by omega)
    have B5 := B4.trans (hb5.mono B4.size)
    have s5 := hb5.size
    have oo5 := oo4.below hb5
    have qs := os.base_le
    refine hK.out _ _ (c5) (fun hHeld => ?_)
    clear hK K
    (try simp only [Act.put, List.setIfInBounds_toArray, List.set_cons_zero, List.set_cons_succ])
    refine wpAnyH_take (i := 6) (v := ?_) rfl (by kernel_rfl) (by kernel_rfl) (by kernel_rfl) (fun _ _ _ h => h) (Or.inl ⟨by rfl, ?_⟩) (by assumption) ?_
    rotate_left
    · (intro w hSw; (try dsimp only at hSw); go_simp; try (with_reducible rfl))
    (try simp only [Act.put, List.setIfInBounds_toArray, List.set_cons_zero, List.set_cons_succ])
    refine wpAnyH_done (by kernel_rfl) ?_ _
    clear oq hwb hsb hrb hbb hb4 hb5 oo4 oo3 oo c4 c3 c2 B4 B3 B2 hb3 hb3'
    go_wp2_with fail
    refine (wholeSet_any ao S cap HSp.out w5 (hS.below B5)).mono ?_
    rintro e w6 ⟨rfl, hb6⟩
    have c6 := kept_cell hb6 c5 (by omega)
    have B6 := B5.trans (hb6.mono B5.size)
    have s6 := hb6.size
    have oo6 := oo5.below hb6
    have os6 := os.below hb6
    clear hb6 os oo5 c5 B5

    have h9 : RowAt ((w6.alloc (.cells #[.int .u64 0, .int .u64 0, .int .u64 0, .int .u64 0, .int .u64 0, .int .u64 0, .int .u64 0, .int .u64 0, .int .u64 0, .int .u64 0, .int .u64 0, .int .u64 0, .int .u64 0, .int .u64 0, .int .u64 0, .int .u64 0] 55)).alloc (.cells #[.int .u64 0, .int .u64 0, .int .u64 0, .int .u64 0, .int .u64 0, .int .u64 0, .int .u64 0, .int .u64 0, .int .u64 0, .int .u64 0, .int .u64 0, .int .u64 0, .int .u64 0, .int .u64 0, .int .u64 0, .int .u64 0] 55)) w6.heap.size (fun _ => false) := (rowz_new w6 rfl).alloc _
    have h10 : RowAt ((w6.alloc (.cells #[.int .u64 0, .int .u64 0, .int .u64 0, .int .u64 0, .int .u64 0, .int .u64 0, .int .u64 0, .int .u64 0, .int .u64 0, .int .u64 0, .int .u64 0, .int .u64 0, .int .u64 0, .int .u64 0, .int .u64 0, .int .u64 0] 55)).alloc (.cells #[.int .u64 0, .int .u64 0, .int .u64 0, .int .u64 0, .int .u64 0, .int .u64 0, .int .u64 0, .int .u64 0, .int .u64 0, .int .u64 0, .int .u64 0, .int .u64 0, .int .u64 0, .int .u64 0, .int .u64 0, .int .u64 0] 55)) (w6.heap.size + 1) (fun _ => false) := rowz_new (w6.alloc (.cells #[.int .u64 0, .int .u64 0, .int .u64 0, .int .u64 0, .int .u64 0, .int .u64 0, .int .u64 0, .int .u64 0, .int .u64 0, .int .u64 0, .int .u64 0, .int .u64 0, .int .u64 0, .int .u64 0, .int .u64 0, .int .u64 0] 55)) (by rw [World.size_alloc])
    have b67 : Below w6.heap.size w6 ((w6.alloc (.cells #[.int .u64 0, .int .u64 0, .int .u64 0, .int .u64 0, .int .u64 0, .int .u64 0, .int .u64 0, .int .u64 0, .int .u64 0, .int .u64 0, .int .u64 0, .int .u64 0, .int .u64 0, .int .u64 0, .int .u64 0, .int .u64 0] 55)).alloc (.cells #[.int .u64 0, .int .u64 0, .int .u64 0, .int .u64 0, .int .u64 0, .int .u64 0, .int .u64 0, .int .u64 0, .int .u64 0, .int .u64 0, .int .u64 0, .int .u64 0, .int .u64 0, .int .u64 0, .int .u64 0, .int .u64 0] 55)) := ((Below.refl _ _).alloc (Nat.le_refl _) _).alloc (by rw [World.size_alloc]; omega) _
    have z67 : ((w6.alloc (.cells #[.int .u64 0, .int .u64 0, .int .u64 0, .int .u64 0, .int .u64 0, .int .u64 0, .int .u64 0, .int .u64 0, .int .u64 0, .int .u64 0, .int .u64 0, .int .u64 0, .int .u64 0, .int .u64 0, .int .u64 0, .int .u64 0] 55)).alloc (.cells #[.int .u64 0, .int .u64 0, .int .u64 0, .int .u64 0, .int .u64 0, .int .u64 0, .int .u64 0, .int .u64 0, .int .u64 0, .int .u64 0, .int .u64 0, .int .u64 0, .int .u64 0, .int .u64 0, .int .u64 0, .int .u64 0] 55)).heap.size = w6.heap.size + 2 := by rw [World.size_alloc, World.size_alloc]
    rw [← setA_none]
    go_wp2_with (first | (refine wpList_st16 rfl _ _ rfl h9 (fun _ => false) rfl rfl ?_; have h9b := row_set (q := fun _ => false) h9; have h10b := h10.kept (grown_setRow (b := w6.heap.size) (setA fun _ => false)) (by omega)) | (refine wpList_st16 rfl _ _ rfl h10b (allN S) rfl rfl ?_))
    have r9 : RowAt ((((w6.alloc (.cells #[.int .u64 0, .int .u64 0, .int .u64 0, .int .u64 0, .int .u64 0, .int .u64 0, .int .u64 0, .int .u64 0, .int .u64 0, .int .u64 0, .int .u64 0, .int .u64 0, .int .u64 0, .int .u64 0, .int .u64 0, .int .u64 0] 55)).alloc (.cells #[.int .u64 0, .int .u64 0, .int .u64 0, .int .u64 0, .int .u64 0, .int .u64 0, .int .u64 0, .int .u64 0, .int .u64 0, .int .u64 0, .int .u64 0, .int .u64 0, .int .u64 0, .int .u64 0, .int .u64 0, .int .u64 0] 55)).setRow w6.heap.size (setA fun _ => false)).setRow (w6.heap.size + 1) (setA (allN S))) w6.heap.size (fun _ => false) := h9b.kept (grown_setRow (b := w6.heap.size + 1) _) (by omega)
    have r10 : RowAt ((((w6.alloc (.cells #[.int .u64 0, .int .u64 0, .int .u64 0, .int .u64 0, .int .u64 0, .int .u64 0, .int .u64 0, .int .u64 0, .int .u64 0, .int .u64 0, .int .u64 0, .int .u64 0, .int .u64 0, .int .u64 0, .int .u64 0, .int .u64 0] 55)).alloc (.cells #[.int .u64 0, .int .u64 0, .int .u64 0, .int .u64 0, .int .u64 0, .int .u64 0, .int .u64 0, .int .u64 0, .int .u64 0, .int .u64 0, .int .u64 0, .int .u64 0, .int .u64 0, .int .u64 0, .int .u64 0, .int .u64 0] 55)).setRow w6.heap.size (setA fun _ => false)).setRow (w6.heap.size + 1) (setA (allN S))) (w6.heap.size + 1) (allN S) := row_set h10b
    have B7 : Below w.heap.size w ((((w6.alloc (.cells #[.int .u64 0, .int .u64 0, .int .u64 0, .int .u64 0, .int .u64 0, .int .u64 0, .int .u64 0, .int .u64 0, .int .u64 0, .int .u64 0, .int .u64 0, .int .u64 0, .int .u64 0, .int .u64 0, .int .u64 0, .int .u64 0] 55)).alloc (.cells #[.int .u64 0, .int .u64 0, .int .u64 0, .int .u64 0, .int .u64 0, .int .u64 0, .int .u64 0, .int .u64 0, .int .u64 0, .int .u64 0, .int .u64 0, .int .u64 0, .int .u64 0, .int .u64 0, .int .u64 0, .int .u64 0] 55)).setRow w6.heap.size (setA fun _ => false)).setRow (w6.heap.size + 1) (setA (allN S))) := ((B6.trans (b67.mono B6.size)).grown (grown_setRow (b := w6.heap.size) _) (by rw [z67]; have := B6.size; omega) (by intro z hz; cases hz; exact B6.size)).grown (grown_setRow (b := w6.heap.size + 1) _) (by simp; have := B6.size; omega) (by intro z hz; cases hz; have := B6.size; omega)
    have hgs : gs < w6.heap.size := by omega
    have os7 : OwnSets ((((w6.alloc (.cells #[.int .u64 0, .int .u64 0, .int .u64 0, .int .u64 0, .int .u64 0, .int .u64 0, .int .u64 0, .int .u64 0, .int .u64 0, .int .u64 0, .int .u64 0, .int .u64 0, .int .u64 0, .int .u64 0, .int .u64 0, .int .u64 0] 55)).alloc (.cells #[.int .u64 0, .int .u64 0, .int .u64 0, .int .u64 0, .int .u64 0, .int .u64 0, .int .u64 0, .int .u64 0, .int .u64 0, .int .u64 0, .int .u64 0, .int .u64 0, .int .u64 0, .int .u64 0, .int .u64 0, .int .u64 0] 55)).setRow w6.heap.size (setA fun _ => false)).setRow (w6.heap.size + 1) (setA (allN S))) w4.heap.size (.slice (some ⟨gs, 0, none⟩) N cs) ((upto N).map (ballN S r)) := World.ownsRow.kept (World.ownsRow.kept (os6.below b67) (grown_setRow (b := w6.heap.size) _) (.inr (show some gs ≠ some w6.heap.size from fun e => by have := Option.some.inj e; omega))) (grown_setRow (b := w6.heap.size + 1) _) (.inr (show some gs ≠ some (w6.heap.size + 1) from fun e => by have := Option.some.inj e; omega))
    have oo7 : OwnInts ((((w6.alloc (.cells #[.int .u64 0, .int .u64 0, .int .u64 0, .int .u64 0, .int .u64 0, .int .u64 0, .int .u64 0, .int .u64 0, .int .u64 0, .int .u64 0, .int .u64 0, .int .u64 0, .int .u64 0, .int .u64 0, .int .u64 0, .int .u64 0] 55)).alloc (.cells #[.int .u64 0, .int .u64 0, .int .u64 0, .int .u64 0, .int .u64 0, .int .u64 0, .int .u64 0, .int .u64 0, .int .u64 0, .int .u64 0, .int .u64 0, .int .u64 0, .int .u64 0, .int .u64 0, .int .u64 0, .int .u64 0] 55)).setRow w6.heap.size (setA fun _ => false)).setRow (w6.heap.size + 1) (setA (allN S))) (w.heap.size + 1) (.slice (some ⟨w1.heap.size, 0, none⟩) 0 0) [] := World.ownsRow.kept (World.ownsRow.kept (oo6.below b67) (grown_setRow (b := w6.heap.size) _) (.inr (show some w1.heap.size ≠ some w6.heap.size from fun e => by have := Option.some.inj e; omega))) (grown_setRow (b := w6.heap.size + 1) _) (.inr (show some w1.heap.size ≠ some (w6.heap.size + 1) from fun e => by have := Option.some.inj e; omega))
    have s7 : w6.heap.size + 1 < ((((w6.alloc (.cells #[.int .u64 0, .int .u64 0, .int .u64 0, .int .u64 0, .int .u64 0, .int .u64 0, .int .u64 0, .int .u64 0, .int .u64 0, .int .u64 0, .int .u64 0, .int .u64 0, .int .u64 0, .int .u64 0, .int .u64 0, .int .u64 0] 55)).alloc (.cells #[.int .u64 0, .int .u64 0, .int .u64 0, .int .u64 0, .int .u64 0, .int .u64 0, .int .u64 0, .int .u64 0, .int .u64 0, .int .u64 0, .int .u64 0, .int .u64 0, .int .u64 0, .int .u64 0, .int .u64 0, .int .u64 0] 55)).setRow w6.heap.size (setA fun _ => false)).setRow (w6.heap.size + 1) (setA (allN S))).heap.size := by simp
    obtain ⟨W7, hW7⟩ : ∃ W7, W7 = ((((w6.alloc (.cells #[.int .u64 0, .int .u64 0, .int .u64 0, .int .u64 0, .int .u64 0, .int .u64 0, .int .u64 0, .int .u64 0, .int .u64 0, .int .u64 0, .int .u64 0, .int .u64 0, .int .u64 0, .int .u64 0, .int .u64 0, .int .u64 0] 55)).alloc (.cells #[.int .u64 0, .int .u64 0, .int .u64 0, .int .u64 0, .int .u64 0, .int .u64 0, .int .u64 0, .int .u64 0, .int .u64 0, .int .u64 0, .int .u64 0, .int .u64 0, .int .u64 0, .int .u64 0, .int .u64 0, .int .u64 0] 55)).setRow w6.heap.size (setA fun _ => false)).setRow (w6.heap.size + 1) (setA (allN S))) := ⟨_, rfl⟩
    rw [← hW7] at r9 r10 B7 os7 oo7 s7 ⊢
    obtain ⟨cb, hcb⟩ : ∃ cb, cb = w6.heap.size := ⟨_, rfl⟩
    rw [← hcb] at r9 r10 hgs s7 ⊢
    have hcb1 : w1.heap.size < cb := by omega
    have hbw : w.heap.size + 1 ≤ w4.heap.size := by omega
    have hbg : w4.heap.size ≤ gs := by omega
    have HU0 : Hid (GrI F N (fun _ => false) [] ∧ uc (fun _ => false) N < N + 1 ∧ grRun F N (N + 1) (fun _ => false) [] = grL F N ∧ ∀ u, (fun _ : Nat => false) u = true → u < N) := Lib.hid ⟨gri_0 _ _ _, by have := uc_le (fun _ => false) N; omega, rfl, fun u h => by cases h⟩
    clear hW7 hcb h9 h10 h9b h10b b67 z67 os6 oo6 B6 c6
    go_loopw [7] (fun v wr => ∃ (fu : Nat) (c : Nat → Bool) (L : List Int) (g cp : Nat), v = .slice (some ⟨g, 0, none⟩) L.length cp ∧ OwnInts wr (w.heap.size + 1) (.slice (some ⟨g, 0, none⟩) L.length cp) L ∧ Hid (GrI F N c L ∧ uc c N < fu ∧ grRun F N fu c L = grL F N ∧ ∀ u, c u = true → u < N) ∧ RowAt wr cb c ∧ RowAt wr (cb + 1) (allN S) ∧ OwnSets wr w4.heap.size (.slice (some ⟨gs, 0, none⟩) N cs) ((upto N).map (ballN S r)) ∧ (g ≠ gs ∧ g ≠ cb ∧ g ≠ cb + 1) ∧ Below w.heap.size w wr ∧ cb + 1 < wr.heap.size) (fun v _ => N + 1 - slen v)
    case atStart => exact ⟨N + 1, _, [], w1.heap.size, 0, rfl, oo7, HU0, r9, r10, os7, ⟨by omega, by omega, by omega⟩, B7, s7⟩
    case round =>
      clear r9 r10 os7 oo7 B7 s7 HU0
      obtain ⟨fu, c, L, g, cp, rfl, own, HU, r9, r10, os, ⟨g1, g2, g3⟩, B, sc⟩ := hrel
      have hg := guardSet
      have hLN := gri_len HU.out.1
      cases hd : grDone c N with
      | true =>
        have heq : ∀ w', (Op.equalIn 10000 55 (.agg (setA c)) (.agg (setA (allN S)))).run Try.prog w' = .ok true w' := fun w' => by rw [run_eqSet, HDE.out c HU.out.2.2.2, hd]
        have HLg : Hid (L = grL F N) := Lib.hid (by have := HU.out.2.2.1; rwa [grRun_done hd] at this)
        have hsrt := sort_any (w.heap.size + 1) g cp L wr (by omega) own
        obtain ⟨P, hPl⟩ : ∃ P, P = L.length := ⟨_, rfl⟩
        rw [← hPl] at own hsrt ⊢
        have HSRT := Lib.hid hsrt
        have hgb := own.base_le
        clear hPl hsrt hd
        go_wp2_with (first | refine wpList_ld16 rfl _ rfl r9 rfl ?_ | refine wpList_ld16 rfl _ rfl r10 rfl ?_)
        refine HSRT.out.mono ?_
        rintro e w8 ⟨rfl, own8, hg8⟩
        go_wp2_with fail
        go_ret2
        exact ⟨_, by rw [HZ.out]; try rfl, by rw [HV.out, ← HLg.out]; exact own8.rebase (by omega), B.grown hg8 B.size (by intro z hz; cases hz; omega)⟩
      | false =>
        have heq : ∀ w', (Op.equalIn 10000 55 (.agg (setA c)) (.agg (setA (allN S)))).run Try.prog w' = .ok false w' := fun w' => by rw [run_eqSet, HDE.out c HU.out.2.2.2, hd]
        obtain ⟨hp1, hp2, hp3⟩ := gr_pick HA.out hd
        obtain ⟨hnm, hgs'⟩ := gri_step HA.out HU.out.1 hd
        have hless := gr_less HA.out hd
        obtain ⟨fu', rfl⟩ : ∃ fu', fu = fu' + 1 := ⟨fu - 1, by have := HU.out.2.1; omega⟩
        have HRS : Hid (grRun F N fu' (grC F N c) (L ++ [(grW F N c : Int)]) = grL F N) := Lib.hid (by have := HU.out.2.2.1; rwa [grRun_step hd] at this)
        have hmb := mostBeyond_any w4.heap.size gs cs N ((upto N).map (ballN S r)) c (by rw [List.length_map, upto_len]) (by omega) N1n wr (by have := os.base_le; omega) os
        rw [(mbI_congr (g := gF F c) (fun j hj => by unfold gF; rw [HFP.out j hj])).1] at hmb
        have HUn : Hid (GrI F N (grC F N c) (L ++ [(grW F N c : Int)]) ∧ uc (grC F N c) N < fu' ∧ grRun F N fu' (grC F N c) (L ++ [(grW F N c : Int)]) = grL F N ∧ ∀ u, grC F N c u = true → u < N) := Lib.hid ⟨hgs', by have := HU.out.2.1; omega, HRS.out, fun u hu => by
          simp only [grC, Bool.or_eq_true] at hu
          rcases hu with hu | hu
          · exact HU.out.2.2.2 u hu
          · exact HA.out.wd _ _ hu⟩
        have HPD := HFP.out (grW F N c) hp1
        have hgc : grC F N c = fun u => c u || F (grW F N c) u := rfl
        change Calls Try.prog _ _ _ (fun e w' => e = .returned (.int .i64 (grW F N c : Nat)) ∧ _) at hmb
        obtain ⟨c2, hc2⟩ : ∃ c2, c2 = grC F N c := ⟨_, rfl⟩
        rw [← hc2] at HUn hgc
        obtain ⟨D, hD⟩ : ∃ D, D = grW F N c := ⟨_, rfl⟩
        rw [← hD] at hmb HUn hgc HPD hp1
        have HMB := Lib.hid hmb
        have HGC := Lib.hid hgc
        have hcellD : ∀ k, k < 16 → wr.cell? ⟨gs, D * 16 + k, none⟩ = some (.int .u64 (partN (F D) k)) := fun k hk => by
          rw [← HPD]; exact os.cells D (by rw [List.length_map, upto_len]; exact hp1) k hk
        obtain ⟨P, hPl⟩ : ∃ P, P = L.length := ⟨_, rfl⟩
        rw [← hPl] at hLN ⊢
        have own' : OwnInts wr (w.heap.size + 1) (.slice (some ⟨g, 0, none⟩) P cp) L := by rw [hPl]; exact own
        have HPl := Lib.hid hPl
        clear hPl own hd hp2 hp3 hnm hgs' hless hmb hgc hc2 hD HU HRS HPD
        go_wp2_with (first | refine wpList_ld16 rfl _ rfl r9 rfl ?_ | refine wpList_ld16 rfl _ rfl r10 rfl ?_)
        refine HMB.out.mono ?_
        rintro e w8 ⟨rfl, hb8⟩
        have r9b := r9.below hb8 (by omega)
        have r10b := r10.below hb8 (by omega)
        have os8 := os.below hb8
        have own8 := own'.below hb8
        have B8 := B.trans (hb8.mono B.size)
        have s8 := hb8.size
        have hgb := own'.base_le
        have hcell8 : ∀ k, k < 16 → w8.cell? ⟨gs, D * 16 + k, none⟩ = some (.int .u64 (partN (F D) k)) := fun k hk => kept_cell hb8 (hcellD k hk) (by omega)
        have E0 : IntKind.i64.wrap (D : Int) = (D : Int) := IntWalk.i64_in _ ⟨by omega, by omega⟩
        have hLl : L.length ≤ 1073741824 := by rw [← HPl.out]; omega
        clear hcellD r9 r10 os own' B hb8 heq
        go_wp2_with (at_builtin; refine wpList_append_int_at rfl _ _ rfl (w.heap.size + 1) (.slice (some ⟨g, 0, none⟩) P cp) L rfl (own8.alloc _) w8.heap.size (D : Int) rfl (cell_new _ _ _) hLl (by rw [World.size_alloc]; omega) ?_; intro v' w9 hown' hgrow hblk)
        obtain ⟨g', cp', hv', _⟩ := own_some hown' (by simp)
        subst hv'
        have hbT : Below w8.heap.size w8 (w8.alloc (.cells #[.int .i64 (D : Int)] 2)) := (Below.refl _ _).alloc (Nat.le_refl _) _
        have B9 := (B8.alloc B8.size (.cells #[.int .i64 (D : Int)] 2)).grown hgrow (by rw [World.size_alloc]; have := B8.size; omega) (fun z hz => by cases hz; (try dsimp only); omega)
        have r9c := (r9b.below hbT (by omega)).kept (c := g) hgrow (by omega)
        have r10c := (r10b.below hbT (by omega)).kept (c := g) hgrow (by omega)
        have os9 : OwnSets w9 w4.heap.size (.slice (some ⟨gs, 0, none⟩) N cs) ((upto N).map (ballN S r)) := World.ownsRow.kept (os8.alloc _) hgrow (.inr (show some gs ≠ some g from fun e => by have := Option.some.inj e; omega))
        have s9 : w8.heap.size < w9.heap.size := by have := hgrow.size; rw [World.size_alloc] at this; omega
        have g1' : g' ≠ gs ∧ g' ≠ cb ∧ g' ≠ cb + 1 := by rcases hblk with h | h <;> simp [Value.ownBlock] at h <;> omega
        have hcell9 : ∀ k, k < 16 → w9.cell? ⟨gs, D * 16 + k, none⟩ = some (.int .u64 (partN (F D) k)) := fun k hk => hgrow.cell (a := ⟨gs, D * 16 + k, none⟩) (kept_cell hbT (hcell8 k hk) (by omega)) (fun e => by have := Option.some.inj e; simp at this; omega)
        have hLen : (L ++ [(D : Int)]).length = P + 1 := by rw [List.length_append, ← HPl.out]; rfl
        have hown9 : OwnInts w9 (w.heap.size + 1) (.slice (some ⟨g', 0, none⟩) (P + 1) cp') (L ++ [(D : Int)]) := by rw [← hLen]; exact hown'
        rw [hLen]
        have HLen := Lib.hid hLen
        have DI : (D : Int) < (N : Int) := by omega
        have D0 : (0 : Int) ≤ (D : Int) := by omega
        clear hblk hgrow hbT hcell8 r9b r10b os8 own8 B8 hown' hLen
        go_wp2_with fail
        refine wp_region_held_drew (S := fun w' => ∀ k, k < 16 → w'.cell? ⟨gs, D * 16 + k, none⟩ = some (.int .u64 (partN (F D) k))) (by kernel_rfl) hcell9 (fun hHeld => ?_)
        refine wpAnyH_take (i := 1) (v := ?_) rfl (by kernel_rfl) (by kernel_rfl) (by kernel_rfl) (fun _ _ _ h => h) (Or.inl ⟨by rfl, ?_⟩) (by assumption) ?_
        rotate_left
        · (intro w hSw; (try dsimp only at hSw); go_simp; try (with_reducible rfl))
        (try simp only [Act.put, List.setIfInBounds_toArray, List.set_cons_zero, List.set_cons_succ])
        refine wpAnyH_take (i := 2) (v := ?_) rfl (by kernel_rfl) (by kernel_rfl) (by kernel_rfl) (fun _ _ _ h => h) (Or.inl ⟨by rfl, ?_⟩) (by assumption) ?_
        rotate_left
        · (intro w hSw; (try dsimp only at hSw); go_simp; try (with_reducible rfl))
        (try simp only [Act.put, List.setIfInBounds_toArray, List.set_cons_zero, List.set_cons_succ])
        refine wpAnyH_take (i := 3) (v := ?_) rfl (by kernel_rfl) (by kernel_rfl) (by kernel_rfl) (fun _ _ _ h => h) (Or.inl ⟨by rfl, ?_⟩) (by assumption) ?_
        rotate_left
        · (intro w hSw; (try dsimp only at hSw); go_simp; try (with_reducible rfl))
        (try simp only [Act.put, List.setIfInBounds_toArray, List.set_cons_zero, List.set_cons_succ])
        refine wpAnyH_take (i := 4) (v := .agg (setA (F D))) rfl (by kernel_rfl) (by kernel_rfl) (by kernel_rfl) (fun _ _ _ h => h) (Or.inl ⟨by rfl, ?_⟩) (by assumption) ?_
        · intro w hSw
          exact exec_ldAt hSw _ (.tmp 41) (by kernel_rfl) (by kernel_rfl)
        (try simp only [Act.put, List.setIfInBounds_toArray, List.set_cons_zero, List.set_cons_succ])
        refine wpAnyH_ready (rs := [0]) (by kernel_rfl) (by simp) ?_
        refine AllReadyH.cons rfl (fun K hK => ?_) AllReadyH.nil
        refine wp_ld16 (.tmp 9) rfl r9c (by kernel_rfl) ?_
        refine hK.out _ _ (hcell9) (fun hHeld => ?_)
        clear hK K
        (try simp only [Act.put, List.setIfInBounds_toArray, List.set_cons_zero, List.set_cons_succ])
        refine wpAnyH_ready (rs := [5]) (by kernel_rfl) (by simp) ?_
        refine AllReadyH.cons rfl (fun K hK => ?_) AllReadyH.nil
        go_simp
        (go_at_call 37; refine (with_any c (F D) _).mono ?_)
        rintro e w10 ⟨rfl, hb10'⟩
        have hb10 : Below w9.heap.size w9 w10 := (Below.refl _ w9).drew.trans hb10'
        have s10 := hb10.size
        have r9d := r9c.below hb10 (by omega)
        have r10d := r10c.below hb10 (by omega)
        have os10 := os9.below hb10
        have own10 := hown9.below hb10
        have B10 := B9.trans (hb10.mono B9.size)
        rw [← HGC.out]
        refine hK.out _ _ (fun k hk => kept_cell hb10 (hcell9 k hk) (by omega)) (fun hHeld => ?_)
        clear hK K
        (try simp only [Act.put, List.setIfInBounds_toArray, List.set_cons_zero, List.set_cons_succ])
        refine wpAnyH_ready (rs := [6]) (by kernel_rfl) (by simp) ?_
        refine AllReadyH.cons rfl (fun K hK => ?_) AllReadyH.nil
        refine wp_st16 (.tmp 9) (.tmp 43) rfl r9d c2 (by kernel_rfl) (by rfl) ?_
        have r9e := row_set (q := c2) r9d
        have r10e := r10d.kept (grown_setRow (b := cb) (setA c2)) (by omega)
        have os11 : OwnSets (w10.setRow cb (setA c2)) w4.heap.size (.slice (some ⟨gs, 0, none⟩) N cs) ((upto N).map (ballN S r)) := World.ownsRow.kept os10 (grown_setRow (b := cb) _) (.inr (show some gs ≠ some cb from fun e => by have := Option.some.inj e; omega))
        have own11 : OwnInts (w10.setRow cb (setA c2)) (w.heap.size + 1) (.slice (some ⟨g', 0, none⟩) (P + 1) cp') (L ++ [(D : Int)]) := World.ownsRow.kept own10 (grown_setRow (b := cb) _) (.inr (show some g' ≠ some cb from fun e => g1'.2.1 (Option.some.inj e)))
        have B11 : Below w.heap.size w (w10.setRow cb (setA c2)) := B10.grown (grown_setRow (b := cb) _) B10.size (by intro z hz; cases hz; omega)
        have s11 : cb + 1 < (w10.setRow cb (setA c2)).heap.size := by simp; omega
        have hcell11 : ∀ k, k < 16 → (w10.setRow cb (setA c2)).cell? ⟨gs, D * 16 + k, none⟩ = some (.int .u64 (partN (F D) k)) := fun k hk => (grown_setRow (w := w10) (b := cb) (setA c2)).cell (a := ⟨gs, D * 16 + k, none⟩) (kept_cell hb10 (hcell9 k hk) (by omega)) (fun e => by have := Option.some.inj e; simp at this; omega)
        obtain ⟨w11, hw11⟩ : ∃ w11, w11 = w10.setRow cb (setA c2) := ⟨_, rfl⟩
        rw [← hw11] at r9e r10e os11 own11 B11 s11 hcell11 ⊢
        refine hK.out _ _ hcell11 (fun hHeld => ?_)
        clear hK K
        (try simp only [Act.put, List.setIfInBounds_toArray, List.set_cons_zero, List.set_cons_succ])
        refine wpAnyH_done (by kernel_rfl) ?_ _
        go_wp2_with fail
        go_roundw
        case rel => exact ⟨fu', c2, L ++ [(D : Int)], g', cp', by rw [HLen.out], by rw [HLen.out]; exact own11, HUn, r9e, r10e, os11, g1', B11, s11⟩
        case measure => simp [slen]; omega
  · have hzn : (eGr S r != 0) = true := by simpa using hz
    have HV : Hid (vGr S r = []) := Lib.hid (by unfold vGr; rw [if_neg hz])
    have HCE := Lib.hid hce
    clear hz hce
    go_enter Try.func10, Try.ntmps10
    go_wp2_with fail
    refine HCE.out.mono ?_
    rintro e w1 ⟨rfl, hb1⟩
    go_wp2_with fail
    go_ret2
    exact ⟨_, rfl, by rw [HV.out]; exact own_nil _ _, B0.trans (hb1.mono B0.size)⟩

end Go.Proofs.Ytdacokgmcenjoaa
