/-
  Texts put together: MathK, MathR, MathS. By an AI agent.
-/
import Derived.Test.YtcnnijeokefboaaGreatDoorMathP
namespace Go.Proofs.YtcnnijeokefboaaGreatDoor
set_option linter.unusedVariables false
set_option linter.unusedSimpArgs false
namespace Cv

/-- the sum of a list's first k numbers, each with its weight -/
def wsT (g : Nat → Int) (L : List Int) : Nat → Int
  | 0 => 0
  | k + 1 => wsT g L k + g k * gi L k
/-- the sum of the first values -/
def sT (f : Nat → Int) : Nat → Int
  | 0 => 0
  | k + 1 => sT f k + f k
theorem wsT_bump (g : Nat → Int) (L : List Int) (v : Int) (h0 : 0 ≤ v) (hv : v.toNat < L.length) (n : Nat) : wsT g (bump L v) n = wsT g L n + if v.toNat < n then g v.toNat else 0 := by
  induction n with
  | zero => simp [wsT]
  | succ n ih =>
    rw [wsT, wsT, ih]
    have e : gi (bump L v) n = gi L n + if n = v.toNat then 1 else 0 := by
      unfold bump
      rw [gi_set _ _ _ _ hv]
      by_cases e : n = v.toNat
      · subst e; rw [if_pos rfl, if_pos rfl]
      · rw [if_neg e, if_neg e]; omega
    rw [e, Int.mul_add]
    by_cases h1 : n = v.toNat
    · subst h1; rw [if_neg (by omega), if_pos rfl, if_pos (by omega)]; omega
    · rw [if_neg h1, Int.mul_zero]
      by_cases h2 : v.toNat < n
      · rw [if_pos h2, if_pos (by omega)]; omega
      · rw [if_neg h2, if_neg (by omega)]; omega
theorem wsT_rep (g : Nat → Int) (m n : Nat) : wsT g (List.replicate m 0) n = 0 := by
  induction n with
  | zero => rfl
  | succ n ih => rw [wsT, ih, gi_rep0]; simp
theorem wsT_cov (g f : Nat → Int) (n : Nat) (k : Nat) (h : ∀ u, u < k → 0 ≤ f u ∧ (f u).toNat < n) : wsT g (covTo f n k) n = sT (fun u => g (f u).toNat) k := by
  induction k with
  | zero => rw [covTo, wsT_rep]; rfl
  | succ k ih =>
    obtain ⟨h1, h2⟩ := h k (by omega)
    rw [covTo, wsT_bump g _ _ h1 (by rw [covTo_len]; exact h2), ih fun u hu => h u (by omega), if_pos h2]
    rfl
theorem sT_congr {f g : Nat → Int} (n : Nat) (h : ∀ u, u < n → f u = g u) : sT f n = sT g n := by
  induction n with
  | zero => rfl
  | succ n ih => rw [sT, sT, ih fun u hu => h u (by omega), h n (by omega)]
theorem sT_add (f g : Nat → Int) (n : Nat) : sT (fun u => f u + g u) n = sT f n + sT g n := by
  induction n with
  | zero => rfl
  | succ n ih => simp only [sT]; rw [ih]; omega
theorem sT_one (n : Nat) : sT (fun _ => 1) n = n := by
  induction n with
  | zero => rfl
  | succ n ih => rw [sT, ih]; omega
theorem sT_zero (n : Nat) : sT (fun _ => 0) n = 0 := by
  induction n with
  | zero => rfl
  | succ n ih => rw [sT, ih]; omega
theorem sT_sel (p : Nat → Bool) (n : Nat) : sT (fun u => if p u = true then 1 else 0) n = ((selTo p n).length : Int) := by
  induction n with
  | zero => rfl
  | succ n ih =>
    rw [sT, ih, selTo, List.length_append]
    by_cases e : p n = true
    · rw [if_pos e, if_pos e]; simp
    · rw [if_neg e, if_neg e]; simp
theorem exS_sT (f : Nat → Int) (n : Nat) : exS f n = sT f n - n := by
  induction n with
  | zero => rfl
  | succ n ih => rw [exS, sT, ih]; omega
theorem sT_tcov {S : List Int} (hS : Sp S) (C : List Int) {r : Int} (hr : 0 ≤ r) (k : Nat) : sT (fun u => tcov S C r (u : Int) k) (nW S).toNat = (k : Int) * sizeN S r := by
  induction k with
  | zero =>
    have e : sT (fun u => tcov S C r (u : Int) 0) (nW S).toNat = sT (fun _ => 0) (nW S).toNat := sT_congr _ fun u _ => rfl
    rw [e, sT_zero]; simp
  | succ k ih =>
    have e : sT (fun u => tcov S C r (u : Int) (k + 1)) (nW S).toNat = sT (fun u => tcov S C r (u : Int) k + if ballB S (gi C k) r u = true then 1 else 0) (nW S).toNat := by
      refine sT_congr _ fun u hu => ?_
      rw [tcov_ball S C r u k hu]
      have h3 : cntIn (ballW S (gi C k) r) u (ballW S (gi C k) r).length = if u < (nW S).toNat ∧ ballB S (gi C k) r u = true then 1 else 0 := cntIn_sel _ _ _
      rw [h3]
      by_cases e : ballB S (gi C k) r u = true
      · rw [if_pos ⟨hu, e⟩, if_pos e]
      · rw [if_neg (fun g => e g.2), if_neg e]
    have h4 : ((selTo (ballB S (gi C k) r) (nW S).toNat).length : Int) = sizeN S r := ballW_size hS (gi C k) hr
    rw [e, sT_add, ih, sT_sel, h4]
    push_cast
    rw [Int.add_mul, Int.one_mul]
theorem cov0_iff (f : Nat → Int) (n : Nat) (hn : 1 ≤ n) (k : Nat) (h : ∀ u, u < k → 0 ≤ f u ∧ (f u).toNat < n) : gi (covTo f n k) 0 = 0 ↔ zTo f k = false := by
  induction k with
  | zero => simp [covTo, zTo, gi_rep0]
  | succ k ih =>
    obtain ⟨h1, h2⟩ := h k (by omega)
    have hb := covTo_bd f n k 0
    have ih' := ih fun u hu => h u (by omega)
    have hl := covTo_len f n k
    rw [covTo, zTo, Bool.or_eq_false_iff, ← ih', decide_eq_false_iff_not]
    unfold bump
    rw [gi_set _ _ _ _ (by rw [hl]; exact h2)]
    by_cases e : f k = 0
    · rw [e]; simp; omega
    · rw [if_neg (by omega)]
      exact ⟨fun g => ⟨g, e⟩, fun g => g.1⟩
/-- what holds of the counts of a code that covers -/
theorem fk_all {S C : List Int} {r : Int} (h : eCov S C r = 0) : (vCov S C r).length = C.length + 1 ∧ wsT (fun _ => 1) (vCov S C r) (C.length + 1) = nW S ∧ wsT (fun k => (k : Int)) (vCov S C r) (C.length + 1) = vSize S r * C.length ∧ (eExc S C r = 0 ↔ gi (vCov S C r) 0 = 0) ∧ (eExc S C r = 0 → vExc S C r = vSize S r * C.length - nW S) := by
  obtain ⟨hz, r0, r8⟩ := eCov_zero h
  obtain ⟨hS, _, _⟩ := eCode_zero hz
  have N := nW_bd hS
  have hv : vCov S C r = covTo (tAt S C r) (C.length + 1) (nW S).toNat := by unfold vCov; rw [if_pos h]
  have e0 : eBall S 0 r = 0 := by
    unfold eBall
    have : eWords S [0] = 0 := by
      unfold eWords
      rw [if_pos ((isSp_iff S).2 hS), if_pos ((okW_iff _ _ _).2 fun i hi => ?_)]
      have : i = 0 := by simpa using hi
      subst this; exact ⟨Int.le_refl _, by show (0 : Int) < nW S; omega⟩
    rw [if_pos this, if_pos ⟨r0, r8⟩]
  have hsz : vSize S r = sizeN S r := by unfold vSize; rw [if_pos e0]
  have hf : ∀ u, u < (nW S).toNat → 0 ≤ tAt S C r u ∧ (tAt S C r u).toNat < C.length + 1 := fun u _ => by have := tAt_bd S C r u; omega
  have hsum : sT (tAt S C r) (nW S).toNat = (C.length : Int) * sizeN S r := sT_tcov hS C r0 C.length
  have hc0 := cov0_iff (tAt S C r) (C.length + 1) (by omega) (nW S).toNat hf
  rw [hv, hsz]
  refine ⟨covTo_len _ _ _, ?_, ?_, ?_, ?_⟩
  · rw [wsT_cov _ _ _ _ hf, sT_one]; omega
  · rw [wsT_cov _ _ _ _ hf, sT_congr (g := tAt S C r) _ fun u hu => Int.toNat_of_nonneg (hf u hu).1, hsum, Int.mul_comm]
  · rw [hc0]
    unfold eExc
    rw [if_pos h]
    cases zTo (tAt S C r) (nW S).toNat <;> simp
  · intro hx
    have hzt : zTo (tAt S C r) (nW S).toNat = false := by
      unfold eExc at hx
      rw [if_pos h] at hx
      cases e : zTo (tAt S C r) (nW S).toNat with
      | false => rfl
      | true => rw [e] at hx; simp at hx
    unfold vExc
    rw [if_pos ⟨h, hzt⟩, exS_sT, hsum, Int.mul_comm]
    omega

end Cv
end Go.Proofs.YtcnnijeokefboaaGreatDoor

namespace Go.Proofs.YtcnnijeokefboaaGreatDoor
open Cv
set_option linter.unusedVariables false
set_option linter.unusedSimpArgs false

/-- whether two words are bound at a place -/
def bndB (S : List Int) (i : Nat) (x y : Int) : Bool := decide (dist S x y = 3) && (dig S x i != dig S y i)
/-- a list with the words of the first k of a code that are bound to x and that it lacks -/
def buIn (S C : List Int) (i : Nat) (x : Int) (Q : List Int) : Nat → List Int
  | 0 => Q
  | k + 1 => if bndB S i x (gi C k) = true ∧ ¬ gi C k ∈ buIn S C i x Q k then buIn S C i x Q k ++ [gi C k] else buIn S C i x Q k
def buTo (S C : List Int) (i : Nat) (w : Int) : Nat → List Int
  | 0 => [w]
  | k + 1 => if k < (buTo S C i w k).length then buIn S C i (gi (buTo S C i w k) k) (buTo S C i w k) C.length else buTo S C i w k
def bunL (S C : List Int) (i : Nat) (w : Int) : List Int := buTo S C i w C.length
structure Sub (C Q : List Int) : Prop where
  nd : Q.Nodup
  sub : ∀ y, y ∈ Q → y ∈ C
theorem Sub.len {C Q : List Int} (h : Sub C Q) : Q.length ≤ C.length := nd_len h.nd h.sub
theorem sub_in {S C : List Int} (i : Nat) (x : Int) {Q : List Int} (h : Sub C Q) (k : Nat) (hk : k ≤ C.length) : Sub C (buIn S C i x Q k) := by
  induction k with
  | zero => exact h
  | succ k ih =>
    have h1 := ih (by omega)
    rw [buIn]
    split
    · rename_i g
      refine ⟨List.nodup_append.2 ⟨h1.nd, by simp, ?_⟩, ?_⟩
      · intro a ha b hb e
        rw [List.mem_singleton] at hb
        subst hb; subst e; exact g.2 ha
      · intro y hy
        rw [List.mem_append, List.mem_singleton] at hy
        rcases hy with hy | hy
        · exact h1.sub y hy
        · subst hy; exact gi_mem (by omega)
    · exact h1
theorem in_len {S C : List Int} (i : Nat) (x : Int) (Q : List Int) (k : Nat) : Q.length ≤ (buIn S C i x Q k).length := by
  induction k with
  | zero => exact Nat.le_refl _
  | succ k ih =>
    rw [buIn]; split
    · rw [List.length_append]; omega
    · exact ih
theorem in_gi {S C : List Int} (i : Nat) (x : Int) (Q : List Int) (k j : Nat) (hj : j < Q.length) : gi (buIn S C i x Q k) j = gi Q j := by
  induction k with
  | zero => rfl
  | succ k ih =>
    have := in_len (S := S) (C := C) i x Q k
    rw [buIn]; split
    · rw [gi_append_lt _ _ _ (by omega), ih]
    · exact ih
theorem sub_to {S C : List Int} (i : Nat) {w : Int} (hw : w ∈ C) (k : Nat) : Sub C (buTo S C i w k) := by
  induction k with
  | zero => exact ⟨by simp [buTo], fun y hy => by simp [buTo] at hy; subst hy; exact hw⟩
  | succ k ih =>
    rw [buTo]; split
    · exact sub_in i _ ih _ (Nat.le_refl _)
    · exact ih
theorem to_len {S C : List Int} (i : Nat) (w : Int) (k : Nat) : 1 ≤ (buTo S C i w k).length := by
  induction k with
  | zero => simp [buTo]
  | succ k ih =>
    rw [buTo]; split
    · have := in_len (S := S) (C := C) i (gi (buTo S C i w k) k) (buTo S C i w k) C.length; omega
    · exact ih
theorem to_step {S C : List Int} {i : Nat} {w : Int} {k : Nat} (h : k < (buTo S C i w k).length) : buTo S C i w (k + 1) = buIn S C i (gi (buTo S C i w k) k) (buTo S C i w k) C.length := by rw [buTo, if_pos h]
theorem to_end {S C : List Int} {i : Nat} {w : Int} (hw : w ∈ C) {k : Nat} (hk : k ≤ (buTo S C i w k).length) (h : ¬ k < (buTo S C i w k).length) : bunL S C i w = buTo S C i w k := by
  have h1 := (sub_to (S := S) i hw k).len
  have key : ∀ m, buTo S C i w (k + m) = buTo S C i w k := by
    intro m
    induction m with
    | zero => rfl
    | succ m ih => rw [← Nat.add_assoc, buTo, ih, if_neg (by omega)]
  unfold bunL
  have := key (C.length - k)
  rw [show k + (C.length - k) = C.length by omega] at this
  exact this
theorem bun_sub {S C : List Int} (i : Nat) {w : Int} (hw : w ∈ C) : Sub C (bunL S C i w) := sub_to i hw _
theorem put_srt {L : List Int} (h : L.Nodup) {x : Int} (hx : x ∉ L) : putL (sorted L) x = sorted (L ++ [x]) := by
  refine asc_ext (asc_putL (asc_sorted h) x) (asc_sorted ?_) fun y => ?_
  · refine List.nodup_append.2 ⟨h, by simp, ?_⟩
    intro a ha b hb e
    rw [List.mem_singleton] at hb
    subst hb; subst e; exact hx ha
  · rw [mem_putL, mem_sorted, mem_sorted, List.mem_append, List.mem_singleton]
theorem sorted_1 (x : Int) : sorted [x] = [x] := by
  have h := sorted_perm [x]
  exact List.perm_singleton.1 h

/-- the error of a code, a word and a place -/
def eBuA (S C : List Int) (x i : Int) : Int := if eCode S C = 0 then (if (0 ≤ x ∧ x < nW S) ∧ 0 ≤ i ∧ i < S.length then 0 else 2) else eCode S C
def allTwo (S : List Int) : Bool := decide (∀ k, k < S.length → gi S k = 2)
def eBun (S C : List Int) (x i : Int) : Int := if eBuA S C x i = 0 then (if allTwo S = true ∧ perB S C 1 = true ∧ x ∈ C then 0 else 5) else eBuA S C x i
def vBun (S C : List Int) (x i : Int) : List Int := if eBun S C x i = 0 then sorted (bunL S C i.toNat x) else []
theorem eBuA_zero {S C : List Int} {x i : Int} (h : eBuA S C x i = 0) : eCode S C = 0 ∧ (0 ≤ x ∧ x < nW S) ∧ 0 ≤ i ∧ i < S.length := by
  unfold eBuA at h
  split at h
  · rename_i h1
    split at h
    · rename_i h2; exact ⟨h1, h2⟩
    · omega
  · rename_i h1; exact absurd h h1
theorem eBun_zero {S C : List Int} {x i : Int} (h : eBun S C x i = 0) : eBuA S C x i = 0 ∧ allTwo S = true ∧ perB S C 1 = true ∧ x ∈ C := by
  unfold eBun at h
  split at h
  · rename_i h1
    split at h
    · rename_i h2; exact ⟨h1, h2⟩
    · omega
  · rename_i h1; exact absurd h h1
theorem eBuA_or (S C : List Int) (x i : Int) : orI (eCW S C [x]) (ePlc S C i) = eBuA S C x i := by
  unfold eBuA
  by_cases h : eCode S C = 0
  · rw [if_pos h, eCW_at h, ePlc, if_pos h]
    unfold orI
    repeat' split
    all_goals first | rfl | omega
  · have h2 : eCW S C [x] = eCode S C := by unfold eCW orI; rw [if_neg h]
    rw [if_neg h, h2]
    unfold orI; rw [if_neg h]
theorem vBun_len (S C : List Int) (x i : Int) : (vBun S C x i).length ≤ 1024 := by
  unfold vBun
  split
  · rename_i h
    obtain ⟨h1, _, _, h4⟩ := eBun_zero h
    have h5 := code_len0 (eBuA_zero h1).1
    have := (bun_sub (S := S) i.toNat h4).len
    rw [sorted_len]; omega
  · simp
end Go.Proofs.YtcnnijeokefboaaGreatDoor

namespace Go.Proofs.YtcnnijeokefboaaGreatDoor
open Cv
set_option linter.unusedVariables false
set_option linter.unusedSimpArgs false

/-- a word with the other digit at a place -/
def flpD (S : List Int) (i : Nat) (c : Int) : List Int := (digs S c).set i (1 - dig S c i)
def flpW (S : List Int) (i : Nat) (c : Int) : Int := wordTo S (flpD S i c) S.length
theorem flpD_len (S : List Int) (i : Nat) (c : Int) : (flpD S i c).length = S.length := by unfold flpD; rw [List.length_set, digs_length]
theorem gi_flpD {S : List Int} {i : Nat} (hi : i < S.length) (c : Int) (j : Nat) (hj : j < S.length) : gi (flpD S i c) j = if j = i then 1 - dig S c i else dig S c j := by
  unfold flpD
  rw [gi_set _ _ _ _ (by rw [digs_length]; exact hi)]
  split
  · rfl
  · rw [gi_digs _ _ _ hj]
theorem flpD_dg {S : List Int} (h2 : ∀ k, k < S.length → gi S k = 2) (hS : Sp S) {i : Nat} (hi : i < S.length) (c : Int) : (flpD S i c).length = S.length ∧ ∀ j, j < S.length → 0 ≤ gi (flpD S i c) j ∧ gi (flpD S i c) j < gi S j := by
  refine ⟨flpD_len S i c, fun j hj => ?_⟩
  have hb := dig_bd S c hS.bd j hj
  have hbi := dig_bd S c hS.bd i hi
  rw [h2 j hj] at hb ⊢
  rw [h2 i hi] at hbi
  rw [gi_flpD hi c j hj]
  split <;> omega
theorem flp_bd {S : List Int} (h2 : ∀ k, k < S.length → gi S k = 2) (hS : Sp S) {i : Nat} (hi : i < S.length) (c : Int) : 0 ≤ flpW S i c ∧ flpW S i c < nW S :=
  wordTo_bd S _ S.length (fun j hj => hS.bd j hj) (flpD_dg h2 hS hi c).2
/-- the word with the digit 1 at one place -/
def stpW (S : List Int) (i : Nat) : Int := chgW S 0 i 1
theorem gi_stpD {S : List Int} {i : Nat} (hi : i < S.length) (j : Nat) (hj : j < S.length) : gi ((digs S 0).set i 1) j = if j = i then 1 else 0 := by
  rw [gi_set _ _ _ _ (by rw [digs_length]; exact hi)]
  split
  · rfl
  · rw [gi_digs _ _ _ hj, dig_0]
theorem stp_dg {S : List Int} (h2 : ∀ k, k < S.length → gi S k = 2) {i : Nat} (hi : i < S.length) : ∀ j, j < S.length → 0 ≤ gi ((digs S 0).set i 1) j ∧ gi ((digs S 0).set i 1) j < gi S j := fun j hj => by
  rw [gi_stpD hi j hj, h2 j hj]; split <;> omega
theorem stp_bd {S : List Int} (h2 : ∀ k, k < S.length → gi S k = 2) (hS : Sp S) {i : Nat} (hi : i < S.length) : 0 ≤ stpW S i ∧ stpW S i < nW S :=
  wordTo_bd S _ S.length (fun j hj => hS.bd j hj) (stp_dg h2 hi)
theorem dig_stp {S : List Int} (h2 : ∀ k, k < S.length → gi S k = 2) (hS : Sp S) {i : Nat} (hi : i < S.length) (j : Nat) (hj : j < S.length) : dig S (stpW S i) j = if j = i then 1 else 0 := by
  have h := digs_word hS (D := (digs S 0).set i 1) (by rw [List.length_set, digs_length]) (stp_dg h2 hi)
  rw [← gi_digs S _ j hj]
  unfold stpW chgW
  rw [h, gi_stpD hi j hj]
/-- a shift by that word is a step at the place -/
theorem sum_flp {S : List Int} (h2 : ∀ k, k < S.length → gi S k = 2) (hS : Sp S) {i : Nat} (hi : i < S.length) (c : Int) : sumW S c (stpW S i) = flpW S i c := by
  unfold sumW flpW
  congr 1
  refine ext_gi (by rw [sumD_length, flpD_len]) fun j hj => ?_
  rw [sumD_length] at hj
  rw [gi_sumD _ _ _ _ hj, gi_flpD hi c j hj, gi_digs _ _ _ hj, gi_digs _ _ _ hj, dig_stp h2 hS hi j hj, h2 j hj]
  have hb := dig_bd S c hS.bd j hj
  rw [h2 j hj] at hb
  by_cases e : j = i
  · subst e; rw [if_pos rfl, if_pos rfl]; omega
  · rw [if_neg e, if_neg e]; omega

/-- the switched code -/
def swF (S C B : List Int) (i k : Nat) : Int := if gi C k ∈ B then flpW S i (gi C k) else gi C k
def swiL (S C B : List Int) (i : Nat) : List Int := putTo [] (swF S C B i) C.length
def vSwi (S C : List Int) (x i : Int) : List Int := if eBun S C x i = 0 then swiL S C (bunL S C i.toNat x) i.toNat else []
theorem swiL_len (S C B : List Int) (i : Nat) : (swiL S C B i).length ≤ C.length := by
  have := putTo_len [] (swF S C B i) C.length
  unfold swiL; simpa using this
theorem vSwi_len (S C : List Int) (x i : Int) : (vSwi S C x i).length ≤ 1024 := by
  unfold vSwi
  split
  · rename_i h
    have := swiL_len S C (bunL S C i.toNat x) i.toNat
    have := code_len0 (eBuA_zero (eBun_zero h).1).1
    omega
  · simp
theorem code_of {S L : List Int} (hS : Sp S) (ha : Asc L) (hb : ∀ y, y ∈ L → 0 ≤ y ∧ y < nW S) : eCode S L = 0 := by
  have h1 : codeB S L = true := by
    unfold codeB
    rw [Bool.and_eq_true, okW_iff, ascB_iff]
    exact ⟨fun i hi => hb _ (gi_mem hi), fun i h0 hi => asc_lt ha (by omega) hi⟩
  unfold eCode
  rw [if_pos ((isSp_iff S).2 hS), if_pos h1]
theorem asc_filter {L : List Int} (p : Int → Bool) (h : Asc L) : Asc (L.filter p) := List.Pairwise.filter p h
/-- the words that are kept and the shifted bundle, together -/
theorem swi_tog {S C B : List Int} (h : eCode S C = 0) (h2 : ∀ k, k < S.length → gi S k = 2) {i : Nat} (hi : i < S.length) (hB : Sub C B) (p : Int → Bool) (hp : ∀ y, y ∈ C → p y = decide (y ∈ B)) :
    eCode S (sorted B) = 0 ∧ eShift S (sorted B) (stpW S i) = 0 ∧ eTwo S (C.filter fun y => !p y) (vShift S (sorted B) (stpW S i)) = 0 ∧ vTog S (C.filter fun y => !p y) (vShift S (sorted B) (stpW S i)) = swiL S C B i := by
  obtain ⟨hS, hc1, hc2⟩ := eCode_zero h
  have hN := nW_bd hS
  have hCb : ∀ y, y ∈ C → 0 ≤ y ∧ y < nW S := fun y hy => by obtain ⟨t, ht, rfl⟩ := mem_gi hy; exact hc1 t ht
  have e1 : eCode S (sorted B) = 0 := code_of hS (asc_sorted hB.nd) fun y hy => hCb y (hB.sub y ((mem_sorted B y).1 hy))
  have hst := stp_bd h2 hS hi
  have ew : eWords S [stpW S i] = 0 := eWords_ok ((isSp_iff S).2 hS) fun t ht => by match t, ht with | 0, _ => rw [gi1]; exact hst
  have e2 : eShift S (sorted B) (stpW S i) = 0 := by rw [eShift_w ew, e1]
  have hv : vShift S (sorted B) (stpW S i) = sorted (sumsL S (sorted B) (stpW S i)) := by unfold vShift; rw [if_pos e2]
  have hmem : ∀ y, y ∈ vShift S (sorted B) (stpW S i) ↔ ∃ c, c ∈ B ∧ y = flpW S i c := fun y => by
    rw [hv, mem_sorted]
    unfold sumsL
    rw [List.mem_map]
    constructor
    · rintro ⟨c, hc, e⟩; exact ⟨c, (mem_sorted B c).1 hc, by rw [← e, sum_flp h2 hS hi]⟩
    · rintro ⟨c, hc, e⟩; exact ⟨c, (mem_sorted B c).2 hc, by rw [sum_flp h2 hS hi, e]⟩
  have hasc : Asc (vShift S (sorted B) (stpW S i)) := by rw [hv, sums_put e1]; exact asc_putTo asc_nil _ _
  have e3 : eCode S (vShift S (sorted B) (stpW S i)) = 0 := code_of hS hasc fun y hy => by
    obtain ⟨c, _, e⟩ := (hmem y).1 hy
    rw [e]; exact flp_bd h2 hS hi c
  have e4 : eCode S (C.filter fun y => !p y) = 0 := code_of hS (asc_filter _ (asc_code h)) fun y hy => hCb y (List.mem_filter.1 hy).1
  have e5 : eTwo S (C.filter fun y => !p y) (vShift S (sorted B) (stpW S i)) = 0 := by rw [eTwo_ok e4, e3]
  refine ⟨e1, e2, e5, ?_⟩
  unfold vTog
  rw [if_pos e5]
  unfold togL swiL
  refine asc_ext (asc_selL _ _) (asc_putTo asc_nil _ _) fun y => ?_
  rw [mem_selL, mem_putTo]
  constructor
  · rintro ⟨u, hu, hh, rfl⟩
    rw [Bool.or_eq_true] at hh
    refine .inr ?_
    rcases hh with hh | hh
    · have hm : (u : Int) ∈ C.filter fun y => !p y := by simpa [inL] using hh
      obtain ⟨hm1, hm2⟩ := List.mem_filter.1 hm
      obtain ⟨k, hk, e⟩ := mem_gi hm1
      have hnb : ¬ gi C k ∈ B := by
        rw [hp _ hm1] at hm2
        rw [e]; simpa using hm2
      exact ⟨k, hk, by unfold swF; rw [if_neg hnb, e]⟩
    · have hm : (u : Int) ∈ vShift S (sorted B) (stpW S i) := by simpa [inL] using hh
      obtain ⟨c, hc, e⟩ := (hmem _).1 hm
      obtain ⟨k, hk, ek⟩ := mem_gi (hB.sub c hc)
      exact ⟨k, hk, by unfold swF; rw [if_pos (by rw [ek]; exact hc), ek, e]⟩
  · rintro (hh | ⟨k, hk, e⟩)
    · simp at hh
    · have hkC := gi_mem (L := C) hk
      have hy : 0 ≤ y ∧ y < nW S := by
        rw [e]; unfold swF; split
        · exact flp_bd h2 hS hi _
        · exact hCb _ hkC
      refine ⟨y.toNat, by omega, ?_, by omega⟩
      have hyt : ((y.toNat : Nat) : Int) = y := by omega
      rw [Bool.or_eq_true]
      unfold inL
      rw [decide_eq_true_eq, decide_eq_true_eq, hyt]
      by_cases hb : gi C k ∈ B
      · exact .inr ((hmem y).2 ⟨gi C k, hb, by rw [e]; unfold swF; rw [if_pos hb]⟩)
      · refine .inl (List.mem_filter.2 ?_)
        have : y = gi C k := by rw [e]; unfold swF; rw [if_neg hb]
        rw [this]
        exact ⟨hkC, by rw [hp _ hkC]; simpa using hb⟩
end Go.Proofs.YtcnnijeokefboaaGreatDoor
