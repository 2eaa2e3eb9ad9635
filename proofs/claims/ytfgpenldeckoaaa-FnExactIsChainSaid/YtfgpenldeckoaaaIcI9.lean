/-
  The contract of the program's IsChain. By an AI agent.
-/
import Derived.Test.YtfgpenldeckoaaaMic9
import Derived.Test.YtfgpenldeckoaaaCnt9
import Derived.Test.YtfgpenldeckoaaaNum
import Derived.Test.YtfgpenldeckoaaaSet
import Derived.Test.YtfgpenldeckoaaaJn9
import Derived.Deep.RegionLaw
namespace Go.Proofs.Ytfgpenldeckoaaa
open Go.RowKit Cv
set_option linter.unusedVariables false
set_option linter.unusedSimpArgs false
set_option maxRecDepth 100000

theorem tup_ici {b c : Bool} {x y : Int} (hb : b = c) (hx : x = y) : Ending.returned (.tuple #[.bool b, .int .i64 x]) = Ending.returned (.tuple #[.bool c, .int .i64 y]) := by rw [hb, hx]
theorem code_bd9 {S C : List Int} (h : isSp S = true) (hc : codeB S C = true) (i : Nat) (hi : i < C.length) : 0 ≤ gi C i ∧ gi C i < 1024 := by
  have hz : eCode S C = 0 := by unfold eCode; rw [if_pos h, if_pos hc]
  have := (eCode_zero hz).2.1 i hi
  have h2 := nW_bd (eCode_zero hz).1
  omega
def eRw (S : List Int) (R : List (List Int)) : Nat → Int
  | 0 => 0
  | k + 1 => if eRw S R k = 0 then eCode S (rr R k) else eRw S R k
theorem eRw_stop {S : List Int} {R : List (List Int)} {k : Nat} (h : eRw S R k ≠ 0) (n : Nat) (hk : k ≤ n) : eRw S R n = eRw S R k := by
  induction n with
  | zero => rw [show k = 0 from by omega]
  | succ n ih =>
    by_cases e : k = n + 1
    · subst e; rfl
    · have := ih (by omega)
      rw [eRw, this, if_neg h]
theorem eRw_sp {S : List Int} {R : List (List Int)} (h : isSp S = true) (k : Nat) : eRw S R k = if alC S R k = true then 0 else 2 := by
  induction k with
  | zero => rfl
  | succ k ih =>
    rw [eRw, ih, alC]
    cases h1 : alC S R k <;> cases h2 : codeB S (rr R k) <;> simp [eCode, h, h2]
theorem ic_err (S : List Int) (R : List (List Int)) : orI (eNum S (R.length : Int) 0 10) (eRw S R R.length) = eIc S R := by
  unfold eIc
  cases h : isSp S with
  | false => simp [eNum, h, orI]
  | true =>
    rw [eRw_sp h]
    by_cases h2 : R.length ≤ 10
    · have e : eNum S (R.length : Int) 0 10 = 0 := by unfold eNum; rw [if_pos h, if_pos ⟨by omega, by omega⟩]
      rw [e]; simp [orI, h2]
    · have e : eNum S (R.length : Int) 0 10 = 2 := by unfold eNum; rw [if_pos h, if_neg (by omega)]
      rw [e]; simp [orI, h2]
theorem eIc_zero {S : List Int} {R : List (List Int)} (h : eIc S R = 0) : isSp S = true ∧ R.length ≤ 10 ∧ alC S R R.length = true ∧ vIc S R = chB R (R.length - 1) := by
  have h0 := h
  unfold eIc at h
  split at h
  case isFalse => omega
  split at h
  case isFalse => omega
  split at h
  case isFalse => omega
  rename_i a b c
  exact ⟨a, b, c, by unfold vIc; rw [if_pos h0]⟩
theorem alC_at {S : List Int} {R : List (List Int)} {k : Nat} (h : alC S R k = true) (j : Nat) (hj : j < k) : codeB S (rr R j) = true := by
  cases hc : codeB S (rr R j) with
  | true => rfl
  | false =>
    have : alC S R (j + 1) = false := by simp [alC, hc]
    rw [alC_stop this k hj] at h; cases h
theorem cntTo_no {p : Nat → Bool} (h : ∀ u, p u = false) (n : Nat) : cntTo p n = 0 := by
  induction n with
  | zero => rfl
  | succ n ih => rw [cntTo, ih, h]; rfl
theorem cntTo_yes {p : Nat → Bool} {n u : Nat} (hu : u < n) (h : p u = true) : 0 < cntTo p n := by
  induction n with
  | zero => omega
  | succ n ih =>
    rw [cntTo]
    by_cases e : u = n
    · subst e; rw [if_pos h]; omega
    · have := ih (by omega); omega
theorem sbB_iff (A B : List Int) (k : Nat) : sbB A B k = true ↔ ∀ j, j < k → gi A j ∈ B := by
  induction k with
  | zero => simp [sbB]
  | succ k ih =>
    rw [sbB, Bool.and_eq_true, ih, decide_eq_true_eq]
    constructor
    · rintro ⟨h1, h2⟩ j hj
      by_cases e : j = k
      · subst e; exact h2
      · exact h1 j (by omega)
    · intro h; exact ⟨fun j hj => h j (by omega), h k (by omega)⟩
theorem cnt_sbB {A B : List Int} (hA : ∀ i, i < A.length → 0 ≤ gi A i ∧ gi A i < 1024) : cntTo (byd (inL A) (inL B)) 1024 = 0 ↔ sbB A B A.length = true := by
  rw [sbB_iff]
  constructor
  · intro h j hj
    obtain ⟨a1, a2⟩ := hA j hj
    by_cases hB : gi A j ∈ B
    · exact hB
    · have : 0 < cntTo (byd (inL A) (inL B)) 1024 := cntTo_yes (u := (gi A j).toNat) (by omega) (by
        have e : ((gi A j).toNat : Int) = gi A j := Int.toNat_of_nonneg a1
        simp [byd, inL, e, gi_mem hj, hB])
      omega
  · intro h
    refine cntTo_no (fun u => ?_) _
    by_cases hu : (u : Int) ∈ A
    · obtain ⟨j, hj, e⟩ := mem_gi hu
      have := h j hj
      simp [byd, inL]; intro _; rw [e] at *; first | exact this | (rw [← e]; exact this)
    · simp [byd, inL, hu]
theorem countBeyond_n (p q : Nat → Bool) (N : Nat) (hN : cntTo (byd p q) 1024 = N) (w : World) :
    Calls Try.prog 70 #[.agg (setA p), .agg (setA q)] w fun e w' => e = .returned (.int .i64 (N : Int)) ∧ Below w.heap.size w w' := by
  subst hN; exact countBeyond_any p q w

set_option maxHeartbeats 2000000 in
theorem codesError_rd (ao : Option Addr) (S : List Int) (cap : Nat) (hn : S.length ≤ 4294967296) (ar : Option Addr) (R : List (List Int)) (capr : Nat) (hnr : R.length ≤ 4294967296) (hRl : ∀ i, i < R.length → (rr R i).length ≤ 4294967296) (lo hi : Nat) (w : World) (hS : Ints w ao S) (hR : RdRws w lo hi (.slice ar R.length capr) R) :
    Calls Try.prog 68 #[.agg #[.slice ao S.length cap], .slice ar R.length capr] w fun e w' => e = .returned (.int .i64 (eRw S R R.length)) ∧ Below w.heap.size w w' := by
  have B0 : Below w.heap.size w (w.alloc (.cells #[.slice ao S.length cap] 28)) := by go_grown
  have c0 := cell_new w (.slice ao S.length cap) 28
  have l0 := lt_alloc w (.cells #[.slice ao S.length cap] 28)
  go_enter Try.func68, Try.ntmps68
  go_wp2_with fail
  go_loopw [10] (fun i wr => ∃ k : Nat, k ≤ R.length ∧ i = .int .i64 k ∧ Hid (eRw S R k = 0) ∧ wr.cell? ⟨w.heap.size, 0, none⟩ = some (.slice ao S.length cap) ∧ w.heap.size < wr.heap.size ∧ Below w.heap.size w wr) (fun i _ => R.length - (intOf i).toNat)
  case atStart => exact ⟨0, Nat.zero_le _, rfl, Lib.hid rfl, c0, l0, B0⟩
  case round =>
    clear c0 l0 B0
    obtain ⟨k, hk, rfl, HE, c, l, B⟩ := hrel
    by_cases hlt : k < R.length
    · obtain ⟨g, z, rfl, hgl, hck, hz⟩ := (hR.below B).at hlt
      obtain ⟨za, zk, rfl⟩ := hz.shape
      have hl := hRl k hlt
      have HN : Hid (eRw S R (k + 1) = eCode S (rr R k)) := Lib.hid (by rw [eRw, if_pos HE.out])
      by_cases hz0 : eCode S (rr R k) = 0
      · have hzn : (eCode S (rr R k) != 0) = false := by simp [hz0]
        have HZ := Lib.hid hz0
        clear hz0
        go_wp2_with fail
        refine (codeError_any ao S cap hn za (rr R k) zk hl _ (hS.below B) (own_ints hz)).mono ?_
        rintro e w2 ⟨rfl, hb2⟩
        replace c := kept_cell hb2 c l
        replace l := lt_of_below hb2 l
        replace B := B.trans (hb2.mono B.size)
        clear hb2 hck hz
        go_wp2_with fail
        go_roundw
        case rel => exact ⟨k + 1, by omega, by go_num, Lib.hid (by rw [HN.out, HZ.out]), c, l, B⟩
        case measure => simp [intOf]; omega
      · have hzn : (eCode S (rr R k) != 0) = true := by simpa using hz0
        have HZ : Hid (eRw S R R.length = eCode S (rr R k)) := Lib.hid (by rw [← HN.out]; exact eRw_stop (by rw [HN.out]; exact hz0) _ (by omega))
        clear hz0
        go_wp2_with fail
        refine (codeError_any ao S cap hn za (rr R k) zk hl _ (hS.below B) (own_ints hz)).mono ?_
        rintro e w2 ⟨rfl, hb2⟩
        replace B := B.trans (hb2.mono B.size)
        clear hb2 hck hz
        go_wp2_with fail
        go_ret
        exact ⟨ret_int HZ.out.symm, B⟩
    · have ek : Hid (k = R.length) := Lib.hid (by omega)
      go_wp2_with fail
      go_ret
      exact ⟨ret_int (by rw [← ek.out, HE.out]), B⟩

set_option maxHeartbeats 4000000 in
theorem impl_IsChain (ao : Option Addr) (S : List Int) (cap : Nat) (hn : S.length ≤ 4294967296) (ar : Option Addr) (R : List (List Int)) (capr : Nat) (hnr : R.length ≤ 4294967296) (hRl : ∀ i, i < R.length → (rr R i).length ≤ 4294967296) (lo hi : Nat) (w : World) (hS : Ints w ao S) (hR : RdRws w lo hi (.slice ar R.length capr) R) :
    Calls Try.prog 34 #[.agg #[.slice ao S.length cap], .slice ar R.length capr] w fun e w' => e = .returned (.tuple #[.bool (vIc S R), .int .i64 (eIc S R)]) ∧ Below w.heap.size w w' := by
  by_cases hz : eIc S R = 0
  case neg =>
    have HV : Hid (vIc S R = false) := Lib.hid (by unfold vIc; rw [if_neg hz])
    have hzn : (eIc S R != 0) = true := by simpa using hz
    clear hz
    obtain ⟨W0, hW0⟩ : ∃ W0, W0 = w.alloc (.cells #[.slice ao S.length cap] 28) := ⟨_, rfl⟩
    have B0 : Below w.heap.size w W0 := by rw [hW0]; go_grown
    have c0 : W0.cell? ⟨w.heap.size, 0, none⟩ = some (.slice ao S.length cap) := by rw [hW0]; exact cell_new _ _ _
    have l0 : w.heap.size < W0.heap.size := by rw [hW0]; exact lt_alloc _ _
    have HW0 := Lib.hid hW0
    have HOR : Hid (orI (eNum S (R.length : Int) 0 10) (eRw S R R.length) = eIc S R) := Lib.hid (ic_err S R)
    clear hW0
    go_enter Try.func34, Try.ntmps34
    go_wp2_with fail
    rw [← HW0.out]
    refine wp_region_held_drew (S := fun w' => w'.cell? ⟨w.heap.size, 0, none⟩ = some (.slice ao S.length cap)) (by kernel_rfl) (c0) (fun hHeld => ?_)
    refine wpAnyH_take (i := 0) (v := ?_) rfl (by kernel_rfl) (by kernel_rfl) (by kernel_rfl) (fun _ _ _ h => h) (Or.inl ⟨by rfl, ?_⟩) (by assumption) ?_
    rotate_left
    · (intro w hSw; obtain hSw := hSw; (try dsimp only at hSw); go_simp; try (with_reducible rfl))
    (try simp only [Act.put, List.setIfInBounds_toArray, List.set_cons_zero, List.set_cons_succ, List.getElem_toArray, List.getElem_cons_succ, List.getElem_cons_zero])
    refine wpAnyH_take (i := 1) (v := ?_) rfl (by kernel_rfl) (by kernel_rfl) (by kernel_rfl) (fun _ _ _ h => h) (Or.inl ⟨by rfl, ?_⟩) (by assumption) ?_
    rotate_left
    · (intro w hSw; obtain hSw := hSw; (try dsimp only at hSw); go_simp; try (with_reducible rfl))
    (try simp only [Act.put, List.setIfInBounds_toArray, List.set_cons_zero, List.set_cons_succ, List.getElem_toArray, List.getElem_cons_succ, List.getElem_cons_zero])
    refine wpAnyH_take (i := 2) (v := ?_) rfl (by kernel_rfl) (by kernel_rfl) (by kernel_rfl) (fun _ _ _ h => h) (Or.inl ⟨by rfl, ?_⟩) (by assumption) ?_
    rotate_left
    · (intro w hSw; obtain hSw := hSw; (try dsimp only at hSw); go_simp; try (with_reducible rfl))
    (try simp only [Act.put, List.setIfInBounds_toArray, List.set_cons_zero, List.set_cons_succ, List.getElem_toArray, List.getElem_cons_succ, List.getElem_cons_zero])
    refine wpAnyH_take (i := 4) (v := ?_) rfl (by kernel_rfl) (by kernel_rfl) (by kernel_rfl) (fun _ _ _ h => h) (Or.inl ⟨by rfl, ?_⟩) (by assumption) ?_
    rotate_left
    · (intro w hSw; obtain hSw := hSw; (try dsimp only at hSw); go_simp; try (with_reducible rfl))
    (try simp only [Act.put, List.setIfInBounds_toArray, List.set_cons_zero, List.set_cons_succ, List.getElem_toArray, List.getElem_cons_succ, List.getElem_cons_zero])
    refine wpAnyH_take (i := 5) (v := ?_) rfl (by kernel_rfl) (by kernel_rfl) (by kernel_rfl) (fun _ _ _ h => h) (Or.inl ⟨by rfl, ?_⟩) (by assumption) ?_
    rotate_left
    · (intro w hSw; obtain hSw := hSw; (try dsimp only at hSw); go_simp; try (with_reducible rfl))
    (try simp only [Act.put, List.setIfInBounds_toArray, List.set_cons_zero, List.set_cons_succ, List.getElem_toArray, List.getElem_cons_succ, List.getElem_cons_zero])
    refine wpAnyH_ready (rs := [3]) (by kernel_rfl) (by simp) ?_
    refine AllReadyH.cons rfl (fun K hK => ?_) AllReadyH.nil
    go_simp
    (go_at_call 67; refine (numberError_any ao S cap hn (R.length : Int) 0 10 _ (hS.below (B0.trans (Below.mono (Below.refl W0.heap.size W0).drew B0.size)))).mono ?_)
    rintro e x1 ⟨rfl, hb1⟩
    have H1 : Below W0.heap.size W0 x1 := Below.trans (Below.refl W0.heap.size W0).drew (hb1.mono (Below.size (Below.refl W0.heap.size W0).drew))
    refine hK.out _ _ (kept_cell H1 c0 l0) (fun hHeld => ?_)
    clear hK K
    (try simp only [Act.put, List.setIfInBounds_toArray, List.set_cons_zero, List.set_cons_succ, List.getElem_toArray, List.getElem_cons_succ, List.getElem_cons_zero])
    refine wpAnyH_ready (rs := [6]) (by kernel_rfl) (by simp) ?_
    refine AllReadyH.cons rfl (fun K hK => ?_) AllReadyH.nil
    go_simp
    (go_at_call 68; refine (codesError_rd ao S cap hn ar R capr hnr hRl lo hi _ (hS.below (B0.trans (Below.mono H1 B0.size))) (hR.below (B0.trans (Below.mono H1 B0.size)))).mono ?_)
    rintro e x2 ⟨rfl, hb2⟩
    have H2 : Below W0.heap.size W0 x2 := Below.trans H1 (hb2.mono (Below.size H1))
    refine hK.out _ _ (kept_cell H2 c0 l0) (fun hHeld => ?_)
    clear hK K
    (try simp only [Act.put, List.setIfInBounds_toArray, List.set_cons_zero, List.set_cons_succ, List.getElem_toArray, List.getElem_cons_succ, List.getElem_cons_zero])
    refine wpAnyH_ready (rs := [7]) (by kernel_rfl) (by simp) ?_
    refine AllReadyH.cons rfl (fun K hK => ?_) AllReadyH.nil
    go_simp
    have H3 : Below W0.heap.size W0 (x2.alloc (.cells #[.int .i64 (eNum S (R.length : Int) 0 10), .int .i64 (eRw S R R.length)] 2)) := Below.alloc H2 (Below.size H2) _
    have he3 : Ints (x2.alloc (.cells #[.int .i64 (eNum S (R.length : Int) 0 10), .int .i64 (eRw S R R.length)] 2)) (some ⟨x2.heap.size, 0, none⟩) [eNum S (R.length : Int) 0 10, eRw S R R.length] := ints_new2 _ _ _ _ rfl
    refine hK.out _ _ (kept_cell H3 c0 l0) (fun hHeld => ?_)
    clear hK K
    (try simp only [Act.put, List.setIfInBounds_toArray, List.set_cons_zero, List.set_cons_succ, List.getElem_toArray, List.getElem_cons_succ, List.getElem_cons_zero])
    refine wpAnyH_ready (rs := [8]) (by kernel_rfl) (by simp) ?_
    refine AllReadyH.cons rfl (fun K hK => ?_) AllReadyH.nil
    go_simp
    (go_at_call 46; refine (cmpOr2 _ _ _ _ _ he3).mono ?_)
    rintro e x4 ⟨rfl, rfl⟩
    refine hK.out _ _ (kept_cell H3 c0 l0) (fun hHeld => ?_)
    clear hK K
    (try simp only [Act.put, List.setIfInBounds_toArray, List.set_cons_zero, List.set_cons_succ, List.getElem_toArray, List.getElem_cons_succ, List.getElem_cons_zero])
    refine wpAnyH_take (i := 9) (v := ?_) rfl (by kernel_rfl) (by kernel_rfl) (by kernel_rfl) (fun _ _ _ h => h) (Or.inl ⟨by rfl, ?_⟩) (by assumption) ?_
    rotate_left
    · (intro w hSw; obtain hSw := hSw; (try dsimp only at hSw); go_simp; try (with_reducible rfl))
    (try simp only [Act.put, List.setIfInBounds_toArray, List.set_cons_zero, List.set_cons_succ, List.getElem_toArray, List.getElem_cons_succ, List.getElem_cons_zero])
    refine wpAnyH_done (by kernel_rfl) ?_ _
    (try simp only [Act.put, List.setIfInBounds_toArray, List.set_cons_zero, List.set_cons_succ, List.getElem_toArray, List.getElem_cons_succ, List.getElem_cons_zero])
    rw [HOR.out]
    have Hn := B0.trans (Below.mono H3 B0.size)
    obtain ⟨w1, hw1⟩ : ∃ z, z = (x2.alloc (.cells #[.int .i64 (eNum S (R.length : Int) 0 10), .int .i64 (eRw S R R.length)] 2)) := ⟨_, rfl⟩
    rw [← hw1] at Hn ⊢
    clear hw1 c0 l0 B0
    go_wp2_with fail
    go_ret2
    exact ⟨tup_ici HV.out.symm rfl, Hn⟩
  obtain ⟨_, h10, hall, hv⟩ := eIc_zero hz
  have HV := Lib.hid hv
  have HE := Lib.hid hz
  have HAL : Hid (∀ j, j < R.length → ∀ i, i < (rr R j).length → 0 ≤ gi (rr R j) i ∧ gi (rr R j) i < 1024) := Lib.hid fun j hj i hi => code_bd9 (eIc_zero hz).1 (alC_at hall j hj) i hi
  clear hz hall hv
  obtain ⟨W0, hW0⟩ : ∃ W0, W0 = w.alloc (.cells #[.slice ao S.length cap] 28) := ⟨_, rfl⟩
  have B0 : Below w.heap.size w W0 := by rw [hW0]; go_grown
  have c0 : W0.cell? ⟨w.heap.size, 0, none⟩ = some (.slice ao S.length cap) := by rw [hW0]; exact cell_new _ _ _
  have l0 : w.heap.size < W0.heap.size := by rw [hW0]; exact lt_alloc _ _
  have HW0 := Lib.hid hW0
  have HOR : Hid (orI (eNum S (R.length : Int) 0 10) (eRw S R R.length) = eIc S R) := Lib.hid (ic_err S R)
  clear hW0
  go_enter Try.func34, Try.ntmps34
  go_wp2_with fail
  rw [← HW0.out]
  refine wp_region_held_drew (S := fun w' => w'.cell? ⟨w.heap.size, 0, none⟩ = some (.slice ao S.length cap)) (by kernel_rfl) (c0) (fun hHeld => ?_)
  refine wpAnyH_take (i := 0) (v := ?_) rfl (by kernel_rfl) (by kernel_rfl) (by kernel_rfl) (fun _ _ _ h => h) (Or.inl ⟨by rfl, ?_⟩) (by assumption) ?_
  rotate_left
  · (intro w hSw; obtain hSw := hSw; (try dsimp only at hSw); go_simp; try (with_reducible rfl))
  (try simp only [Act.put, List.setIfInBounds_toArray, List.set_cons_zero, List.set_cons_succ, List.getElem_toArray, List.getElem_cons_succ, List.getElem_cons_zero])
  refine wpAnyH_take (i := 1) (v := ?_) rfl (by kernel_rfl) (by kernel_rfl) (by kernel_rfl) (fun _ _ _ h => h) (Or.inl ⟨by rfl, ?_⟩) (by assumption) ?_
  rotate_left
  · (intro w hSw; obtain hSw := hSw; (try dsimp only at hSw); go_simp; try (with_reducible rfl))
  (try simp only [Act.put, List.setIfInBounds_toArray, List.set_cons_zero, List.set_cons_succ, List.getElem_toArray, List.getElem_cons_succ, List.getElem_cons_zero])
  refine wpAnyH_take (i := 2) (v := ?_) rfl (by kernel_rfl) (by kernel_rfl) (by kernel_rfl) (fun _ _ _ h => h) (Or.inl ⟨by rfl, ?_⟩) (by assumption) ?_
  rotate_left
  · (intro w hSw; obtain hSw := hSw; (try dsimp only at hSw); go_simp; try (with_reducible rfl))
  (try simp only [Act.put, List.setIfInBounds_toArray, List.set_cons_zero, List.set_cons_succ, List.getElem_toArray, List.getElem_cons_succ, List.getElem_cons_zero])
  refine wpAnyH_take (i := 4) (v := ?_) rfl (by kernel_rfl) (by kernel_rfl) (by kernel_rfl) (fun _ _ _ h => h) (Or.inl ⟨by rfl, ?_⟩) (by assumption) ?_
  rotate_left
  · (intro w hSw; obtain hSw := hSw; (try dsimp only at hSw); go_simp; try (with_reducible rfl))
  (try simp only [Act.put, List.setIfInBounds_toArray, List.set_cons_zero, List.set_cons_succ, List.getElem_toArray, List.getElem_cons_succ, List.getElem_cons_zero])
  refine wpAnyH_take (i := 5) (v := ?_) rfl (by kernel_rfl) (by kernel_rfl) (by kernel_rfl) (fun _ _ _ h => h) (Or.inl ⟨by rfl, ?_⟩) (by assumption) ?_
  rotate_left
  · (intro w hSw; obtain hSw := hSw; (try dsimp only at hSw); go_simp; try (with_reducible rfl))
  (try simp only [Act.put, List.setIfInBounds_toArray, List.set_cons_zero, List.set_cons_succ, List.getElem_toArray, List.getElem_cons_succ, List.getElem_cons_zero])
  refine wpAnyH_ready (rs := [3]) (by kernel_rfl) (by simp) ?_
  refine AllReadyH.cons rfl (fun K hK => ?_) AllReadyH.nil
  go_simp
  (go_at_call 67; refine (numberError_any ao S cap hn (R.length : Int) 0 10 _ (hS.below (B0.trans (Below.mono (Below.refl W0.heap.size W0).drew B0.size)))).mono ?_)
  rintro e x1 ⟨rfl, hb1⟩
  have H1 : Below W0.heap.size W0 x1 := Below.trans (Below.refl W0.heap.size W0).drew (hb1.mono (Below.size (Below.refl W0.heap.size W0).drew))
  refine hK.out _ _ (kept_cell H1 c0 l0) (fun hHeld => ?_)
  clear hK K
  (try simp only [Act.put, List.setIfInBounds_toArray, List.set_cons_zero, List.set_cons_succ, List.getElem_toArray, List.getElem_cons_succ, List.getElem_cons_zero])
  refine wpAnyH_ready (rs := [6]) (by kernel_rfl) (by simp) ?_
  refine AllReadyH.cons rfl (fun K hK => ?_) AllReadyH.nil
  go_simp
  (go_at_call 68; refine (codesError_rd ao S cap hn ar R capr hnr hRl lo hi _ (hS.below (B0.trans (Below.mono H1 B0.size))) (hR.below (B0.trans (Below.mono H1 B0.size)))).mono ?_)
  rintro e x2 ⟨rfl, hb2⟩
  have H2 : Below W0.heap.size W0 x2 := Below.trans H1 (hb2.mono (Below.size H1))
  refine hK.out _ _ (kept_cell H2 c0 l0) (fun hHeld => ?_)
  clear hK K
  (try simp only [Act.put, List.setIfInBounds_toArray, List.set_cons_zero, List.set_cons_succ, List.getElem_toArray, List.getElem_cons_succ, List.getElem_cons_zero])
  refine wpAnyH_ready (rs := [7]) (by kernel_rfl) (by simp) ?_
  refine AllReadyH.cons rfl (fun K hK => ?_) AllReadyH.nil
  go_simp
  have H3 : Below W0.heap.size W0 (x2.alloc (.cells #[.int .i64 (eNum S (R.length : Int) 0 10), .int .i64 (eRw S R R.length)] 2)) := Below.alloc H2 (Below.size H2) _
  have he3 : Ints (x2.alloc (.cells #[.int .i64 (eNum S (R.length : Int) 0 10), .int .i64 (eRw S R R.length)] 2)) (some ⟨x2.heap.size, 0, none⟩) [eNum S (R.length : Int) 0 10, eRw S R R.length] := ints_new2 _ _ _ _ rfl
  refine hK.out _ _ (kept_cell H3 c0 l0) (fun hHeld => ?_)
  clear hK K
  (try simp only [Act.put, List.setIfInBounds_toArray, List.set_cons_zero, List.set_cons_succ, List.getElem_toArray, List.getElem_cons_succ, List.getElem_cons_zero])
  refine wpAnyH_ready (rs := [8]) (by kernel_rfl) (by simp) ?_
  refine AllReadyH.cons rfl (fun K hK => ?_) AllReadyH.nil
  go_simp
  (go_at_call 46; refine (cmpOr2 _ _ _ _ _ he3).mono ?_)
  rintro e x4 ⟨rfl, rfl⟩
  refine hK.out _ _ (kept_cell H3 c0 l0) (fun hHeld => ?_)
  clear hK K
  (try simp only [Act.put, List.setIfInBounds_toArray, List.set_cons_zero, List.set_cons_succ, List.getElem_toArray, List.getElem_cons_succ, List.getElem_cons_zero])
  refine wpAnyH_take (i := 9) (v := ?_) rfl (by kernel_rfl) (by kernel_rfl) (by kernel_rfl) (fun _ _ _ h => h) (Or.inl ⟨by rfl, ?_⟩) (by assumption) ?_
  rotate_left
  · (intro w hSw; obtain hSw := hSw; (try dsimp only at hSw); go_simp; try (with_reducible rfl))
  (try simp only [Act.put, List.setIfInBounds_toArray, List.set_cons_zero, List.set_cons_succ, List.getElem_toArray, List.getElem_cons_succ, List.getElem_cons_zero])
  refine wpAnyH_done (by kernel_rfl) ?_ _
  (try simp only [Act.put, List.setIfInBounds_toArray, List.set_cons_zero, List.set_cons_succ, List.getElem_toArray, List.getElem_cons_succ, List.getElem_cons_zero])
  rw [HOR.out]
  have Hn := B0.trans (Below.mono H3 B0.size)
  obtain ⟨w1, hw1⟩ : ∃ z, z = (x2.alloc (.cells #[.int .i64 (eNum S (R.length : Int) 0 10), .int .i64 (eRw S R R.length)] 2)) := ⟨_, rfl⟩
  rw [← hw1] at Hn ⊢
  clear hw1 c0 l0 B0
  rw [HE.out]
  go_wp2_with fail
  go_loopw [7] (fun i wr => ∃ k : Nat, k ≤ R.length - 1 ∧ i = .int .i64 ((k : Int) + 1) ∧ Hid (chB R k = true) ∧ Below w.heap.size w wr) (fun i _ => R.length - (intOf i).toNat)
  case atStart => exact ⟨0, Nat.zero_le _, by simp, Lib.hid rfl, Hn⟩
  case round =>
    clear Hn
    obtain ⟨k, hk, rfl, HA, B⟩ := hrel
    by_cases hlt : k + 1 < R.length
    · have i2 : (k : Int) + 1 < (R.length : Int) := by omega
      have i3 : (0 : Int) ≤ (k : Int) + 1 := by omega
      have i4 : ((k : Int) + 1).toNat = k + 1 := by omega
      have i5 : (k : Int) < (R.length : Int) := by omega
      have EWK : IntKind.i64.wrap (k : Int) = (k : Int) := IntWalk.i64_in _ ⟨by omega, by omega⟩
      have i0 : (0 : Int) ≤ (k : Int) := by omega
      obtain ⟨g, z, rfl, hgl, hca, ha⟩ := (hR.below B).at (show k < R.length by omega)
      obtain ⟨za, zk, rfl⟩ := ha.shape
      obtain ⟨g2, z2, e3, hgl2, hcb, hb⟩ := (hR.below B).at hlt
      obtain ⟨zb, zm, rfl⟩ := hb.shape
      simp only [Option.some.injEq, Addr.mk.injEq, and_true] at e3
      subst e3
      have hal := hRl k (by omega)
      have hbl := hRl (k + 1) hlt
      have HA1 := Lib.hid (HAL.out k (by omega))
      have HB1 := Lib.hid (HAL.out (k + 1) hlt)
      have HN : Hid (chB R (k + 1) = sbB (rr R k) (rr R (k + 1)) (rr R k).length) := Lib.hid (by simp [chB, HA.out])
      have HK : Hid (chB R (k + 1) = false → chB R (R.length - 1) = false) := Lib.hid fun h => chB_stop h _ (by omega)
      have HCI := Lib.hid (cnt_sbB (B := rr R (k + 1)) HA1.out)
      obtain ⟨N, hN⟩ : ∃ N, cntTo (byd (inL (rr R k)) (inL (rr R (k + 1)))) 1024 = N := ⟨_, rfl⟩
      rw [hN] at HCI
      have HNc := Lib.hid hN
      clear hN hgl2
      by_cases h0 : N = 0
      · have HT : Hid (chB R (k + 1) = true) := Lib.hid (by rw [HN.out]; exact HCI.out.1 h0)
        subst h0
        clear HCI
        go_wp2_with fail
        refine wp_region_held_drew (S := fun w' => w'.cell? ⟨g, k + 1, none⟩ = some (.slice zb (rr R (k + 1)).length zm) ∧ w'.cell? ⟨g, k, none⟩ = some (.slice za (rr R k).length zk)) (by kernel_rfl) (⟨hcb, hca⟩) (fun hHeld => ?_)
        refine wpAnyH_take (i := 0) (v := ?_) rfl (by kernel_rfl) (by kernel_rfl) (by kernel_rfl) (fun _ _ _ h => h) (Or.inl ⟨by rfl, ?_⟩) (by assumption) ?_
        rotate_left
        · (intro w hSw; obtain ⟨hSw0, hSw1⟩ := hSw; (try dsimp only at hSw0 hSw1); go_simp; try (with_reducible rfl))
        (try simp only [Act.put, List.setIfInBounds_toArray, List.set_cons_zero, List.set_cons_succ, List.getElem_toArray, List.getElem_cons_succ, List.getElem_cons_zero])
        refine wpAnyH_take (i := 1) (v := ?_) rfl (by kernel_rfl) (by kernel_rfl) (by kernel_rfl) (fun _ _ _ h => h) (Or.inl ⟨by rfl, ?_⟩) (by assumption) ?_
        rotate_left
        · (intro w hSw; obtain ⟨hSw0, hSw1⟩ := hSw; (try dsimp only at hSw0 hSw1); go_simp; try (with_reducible rfl))
        (try simp only [Act.put, List.setIfInBounds_toArray, List.set_cons_zero, List.set_cons_succ, List.getElem_toArray, List.getElem_cons_succ, List.getElem_cons_zero])
        refine wpAnyH_take (i := 2) (v := ?_) rfl (by kernel_rfl) (by kernel_rfl) (by kernel_rfl) (fun _ _ _ h => h) (Or.inl ⟨by rfl, ?_⟩) (by assumption) ?_
        rotate_left
        · (intro w hSw; obtain ⟨hSw0, hSw1⟩ := hSw; (try dsimp only at hSw0 hSw1); go_simp; try (with_reducible rfl))
        (try simp only [Act.put, List.setIfInBounds_toArray, List.set_cons_zero, List.set_cons_succ, List.getElem_toArray, List.getElem_cons_succ, List.getElem_cons_zero])
        refine wpAnyH_take (i := 3) (v := ?_) rfl (by kernel_rfl) (by kernel_rfl) (by kernel_rfl) (fun _ _ _ h => h) (Or.inl ⟨by rfl, ?_⟩) (by assumption) ?_
        rotate_left
        · (intro w hSw; obtain ⟨hSw0, hSw1⟩ := hSw; (try dsimp only at hSw0 hSw1); go_simp; try (with_reducible rfl))
        (try simp only [Act.put, List.setIfInBounds_toArray, List.set_cons_zero, List.set_cons_succ, List.getElem_toArray, List.getElem_cons_succ, List.getElem_cons_zero])
        refine wpAnyH_take (i := 4) (v := ?_) rfl (by kernel_rfl) (by kernel_rfl) (by kernel_rfl) (fun _ _ _ h => h) (Or.inl ⟨by rfl, ?_⟩) (by assumption) ?_
        rotate_left
        · (intro w hSw; obtain ⟨hSw0, hSw1⟩ := hSw; (try dsimp only at hSw0 hSw1); go_simp; try (with_reducible rfl))
        (try simp only [Act.put, List.setIfInBounds_toArray, List.set_cons_zero, List.set_cons_succ, List.getElem_toArray, List.getElem_cons_succ, List.getElem_cons_zero])
        refine wpAnyH_take (i := 6) (v := ?_) rfl (by kernel_rfl) (by kernel_rfl) (by kernel_rfl) (fun _ _ _ h => h) (Or.inl ⟨by rfl, ?_⟩) (by assumption) ?_
        rotate_left
        · (intro w hSw; obtain ⟨hSw0, hSw1⟩ := hSw; (try dsimp only at hSw0 hSw1); go_simp; try (with_reducible rfl))
        (try simp only [Act.put, List.setIfInBounds_toArray, List.set_cons_zero, List.set_cons_succ, List.getElem_toArray, List.getElem_cons_succ, List.getElem_cons_zero])
        refine wpAnyH_take (i := 7) (v := ?_) rfl (by kernel_rfl) (by kernel_rfl) (by kernel_rfl) (fun _ _ _ h => h) (Or.inl ⟨by rfl, ?_⟩) (by assumption) ?_
        rotate_left
        · (intro w hSw; obtain ⟨hSw0, hSw1⟩ := hSw; (try dsimp only at hSw0 hSw1); go_simp; try (with_reducible rfl))
        (try simp only [Act.put, List.setIfInBounds_toArray, List.set_cons_zero, List.set_cons_succ, List.getElem_toArray, List.getElem_cons_succ, List.getElem_cons_zero])
        refine wpAnyH_take (i := 8) (v := ?_) rfl (by kernel_rfl) (by kernel_rfl) (by kernel_rfl) (fun _ _ _ h => h) (Or.inl ⟨by rfl, ?_⟩) (by assumption) ?_
        rotate_left
        · (intro w hSw; obtain ⟨hSw0, hSw1⟩ := hSw; (try dsimp only at hSw0 hSw1); go_simp; try (with_reducible rfl))
        (try simp only [Act.put, List.setIfInBounds_toArray, List.set_cons_zero, List.set_cons_succ, List.getElem_toArray, List.getElem_cons_succ, List.getElem_cons_zero])
        refine wpAnyH_take (i := 9) (v := ?_) rfl (by kernel_rfl) (by kernel_rfl) (by kernel_rfl) (fun _ _ _ h => h) (Or.inl ⟨by rfl, ?_⟩) (by assumption) ?_
        rotate_left
        · (intro w hSw; obtain ⟨hSw0, hSw1⟩ := hSw; (try dsimp only at hSw0 hSw1); go_simp; try (with_reducible rfl))
        (try simp only [Act.put, List.setIfInBounds_toArray, List.set_cons_zero, List.set_cons_succ, List.getElem_toArray, List.getElem_cons_succ, List.getElem_cons_zero])
        refine wpAnyH_ready (rs := [5]) (by kernel_rfl) (by simp) ?_
        refine AllReadyH.cons rfl (fun K hK => ?_) AllReadyH.nil
        go_simp
        (go_at_call 69; refine (setOf_any za (rr R k) zk hal HA1.out _ ((own_ints ha).below (Below.refl wr.heap.size wr).drew)).mono ?_)
        rintro e x1 ⟨rfl, hb1⟩
        have H1 : Below wr.heap.size wr x1 := Below.trans (Below.refl wr.heap.size wr).drew (hb1.mono (Below.size (Below.refl wr.heap.size wr).drew))
        refine hK.out _ _ (⟨kept_cell H1 hcb hgl, kept_cell H1 hca hgl⟩) (fun hHeld => ?_)
        clear hK K
        (try simp only [Act.put, List.setIfInBounds_toArray, List.set_cons_zero, List.set_cons_succ, List.getElem_toArray, List.getElem_cons_succ, List.getElem_cons_zero])
        refine wpAnyH_ready (rs := [10]) (by kernel_rfl) (by simp) ?_
        refine AllReadyH.cons rfl (fun K hK => ?_) AllReadyH.nil
        go_simp
        (go_at_call 69; refine (setOf_any zb (rr R (k + 1)) zm hbl HB1.out _ ((own_ints hb).below H1)).mono ?_)
        rintro e x2 ⟨rfl, hb2⟩
        have H2 : Below wr.heap.size wr x2 := Below.trans H1 (hb2.mono (Below.size H1))
        refine hK.out _ _ (⟨kept_cell H2 hcb hgl, kept_cell H2 hca hgl⟩) (fun hHeld => ?_)
        clear hK K
        (try simp only [Act.put, List.setIfInBounds_toArray, List.set_cons_zero, List.set_cons_succ, List.getElem_toArray, List.getElem_cons_succ, List.getElem_cons_zero])
        refine wpAnyH_ready (rs := [11]) (by kernel_rfl) (by simp) ?_
        refine AllReadyH.cons rfl (fun K hK => ?_) AllReadyH.nil
        go_simp
        (go_at_call 70; refine (countBeyond_n (inL (rr R k)) (inL (rr R (k + 1))) _ HNc.out _).mono ?_)
        rintro e x3 ⟨rfl, hb3⟩
        have H3 : Below wr.heap.size wr x3 := Below.trans H2 (hb3.mono (Below.size H2))
        refine hK.out _ _ (⟨kept_cell H3 hcb hgl, kept_cell H3 hca hgl⟩) (fun hHeld => ?_)
        clear hK K
        (try simp only [Act.put, List.setIfInBounds_toArray, List.set_cons_zero, List.set_cons_succ, List.getElem_toArray, List.getElem_cons_succ, List.getElem_cons_zero])
        refine wpAnyH_take (i := 12) (v := ?_) rfl (by kernel_rfl) (by kernel_rfl) (by kernel_rfl) (fun _ _ _ h => h) (Or.inl ⟨by rfl, ?_⟩) (by assumption) ?_
        rotate_left
        · (intro w hSw; obtain ⟨hSw0, hSw1⟩ := hSw; (try dsimp only at hSw0 hSw1); go_simp; try (with_reducible rfl))
        (try simp only [Act.put, List.setIfInBounds_toArray, List.set_cons_zero, List.set_cons_succ, List.getElem_toArray, List.getElem_cons_succ, List.getElem_cons_zero])
        refine wpAnyH_done (by kernel_rfl) ?_ _
        (try simp only [Act.put, List.setIfInBounds_toArray, List.set_cons_zero, List.set_cons_succ, List.getElem_toArray, List.getElem_cons_succ, List.getElem_cons_zero])
        have Hn := B.trans (Below.mono H3 B.size)
        obtain ⟨wn, hwn⟩ : ∃ z, z = x3 := ⟨_, rfl⟩
        rw [← hwn] at Hn ⊢
        clear hwn hca hcb hgl ha hb B
        go_wp2_with fail
        go_roundw
        case rel => exact ⟨k + 1, by omega, by go_num, HT, Hn⟩
        case measure => simp [intOf]; omega
      · have HF : Hid (vIc S R = false) := Lib.hid (by
          rw [HV.out]; refine HK.out ?_
          rw [HN.out]
          cases hq : sbB (rr R k) (rr R (k + 1)) (rr R k).length with
          | false => rfl
          | true => exact absurd (HCI.out.2 hq) h0)
        have i9 : (0 : Int) < (N : Int) := by omega
        clear HCI h0
        go_wp2_with fail
        refine wp_region_held_drew (S := fun w' => w'.cell? ⟨g, k + 1, none⟩ = some (.slice zb (rr R (k + 1)).length zm) ∧ w'.cell? ⟨g, k, none⟩ = some (.slice za (rr R k).length zk)) (by kernel_rfl) (⟨hcb, hca⟩) (fun hHeld => ?_)
        refine wpAnyH_take (i := 0) (v := ?_) rfl (by kernel_rfl) (by kernel_rfl) (by kernel_rfl) (fun _ _ _ h => h) (Or.inl ⟨by rfl, ?_⟩) (by assumption) ?_
        rotate_left
        · (intro w hSw; obtain ⟨hSw0, hSw1⟩ := hSw; (try dsimp only at hSw0 hSw1); go_simp; try (with_reducible rfl))
        (try simp only [Act.put, List.setIfInBounds_toArray, List.set_cons_zero, List.set_cons_succ, List.getElem_toArray, List.getElem_cons_succ, List.getElem_cons_zero])
        refine wpAnyH_take (i := 1) (v := ?_) rfl (by kernel_rfl) (by kernel_rfl) (by kernel_rfl) (fun _ _ _ h => h) (Or.inl ⟨by rfl, ?_⟩) (by assumption) ?_
        rotate_left
        · (intro w hSw; obtain ⟨hSw0, hSw1⟩ := hSw; (try dsimp only at hSw0 hSw1); go_simp; try (with_reducible rfl))
        (try simp only [Act.put, List.setIfInBounds_toArray, List.set_cons_zero, List.set_cons_succ, List.getElem_toArray, List.getElem_cons_succ, List.getElem_cons_zero])
        refine wpAnyH_take (i := 2) (v := ?_) rfl (by kernel_rfl) (by kernel_rfl) (by kernel_rfl) (fun _ _ _ h => h) (Or.inl ⟨by rfl, ?_⟩) (by assumption) ?_
        rotate_left
        · (intro w hSw; obtain ⟨hSw0, hSw1⟩ := hSw; (try dsimp only at hSw0 hSw1); go_simp; try (with_reducible rfl))
        (try simp only [Act.put, List.setIfInBounds_toArray, List.set_cons_zero, List.set_cons_succ, List.getElem_toArray, List.getElem_cons_succ, List.getElem_cons_zero])
        refine wpAnyH_take (i := 3) (v := ?_) rfl (by kernel_rfl) (by kernel_rfl) (by kernel_rfl) (fun _ _ _ h => h) (Or.inl ⟨by rfl, ?_⟩) (by assumption) ?_
        rotate_left
        · (intro w hSw; obtain ⟨hSw0, hSw1⟩ := hSw; (try dsimp only at hSw0 hSw1); go_simp; try (with_reducible rfl))
        (try simp only [Act.put, List.setIfInBounds_toArray, List.set_cons_zero, List.set_cons_succ, List.getElem_toArray, List.getElem_cons_succ, List.getElem_cons_zero])
        refine wpAnyH_take (i := 4) (v := ?_) rfl (by kernel_rfl) (by kernel_rfl) (by kernel_rfl) (fun _ _ _ h => h) (Or.inl ⟨by rfl, ?_⟩) (by assumption) ?_
        rotate_left
        · (intro w hSw; obtain ⟨hSw0, hSw1⟩ := hSw; (try dsimp only at hSw0 hSw1); go_simp; try (with_reducible rfl))
        (try simp only [Act.put, List.setIfInBounds_toArray, List.set_cons_zero, List.set_cons_succ, List.getElem_toArray, List.getElem_cons_succ, List.getElem_cons_zero])
        refine wpAnyH_take (i := 6) (v := ?_) rfl (by kernel_rfl) (by kernel_rfl) (by kernel_rfl) (fun _ _ _ h => h) (Or.inl ⟨by rfl, ?_⟩) (by assumption) ?_
        rotate_left
        · (intro w hSw; obtain ⟨hSw0, hSw1⟩ := hSw; (try dsimp only at hSw0 hSw1); go_simp; try (with_reducible rfl))
        (try simp only [Act.put, List.setIfInBounds_toArray, List.set_cons_zero, List.set_cons_succ, List.getElem_toArray, List.getElem_cons_succ, List.getElem_cons_zero])
        refine wpAnyH_take (i := 7) (v := ?_) rfl (by kernel_rfl) (by kernel_rfl) (by kernel_rfl) (fun _ _ _ h => h) (Or.inl ⟨by rfl, ?_⟩) (by assumption) ?_
        rotate_left
        · (intro w hSw; obtain ⟨hSw0, hSw1⟩ := hSw; (try dsimp only at hSw0 hSw1); go_simp; try (with_reducible rfl))
        (try simp only [Act.put, List.setIfInBounds_toArray, List.set_cons_zero, List.set_cons_succ, List.getElem_toArray, List.getElem_cons_succ, List.getElem_cons_zero])
        refine wpAnyH_take (i := 8) (v := ?_) rfl (by kernel_rfl) (by kernel_rfl) (by kernel_rfl) (fun _ _ _ h => h) (Or.inl ⟨by rfl, ?_⟩) (by assumption) ?_
        rotate_left
        · (intro w hSw; obtain ⟨hSw0, hSw1⟩ := hSw; (try dsimp only at hSw0 hSw1); go_simp; try (with_reducible rfl))
        (try simp only [Act.put, List.setIfInBounds_toArray, List.set_cons_zero, List.set_cons_succ, List.getElem_toArray, List.getElem_cons_succ, List.getElem_cons_zero])
        refine wpAnyH_take (i := 9) (v := ?_) rfl (by kernel_rfl) (by kernel_rfl) (by kernel_rfl) (fun _ _ _ h => h) (Or.inl ⟨by rfl, ?_⟩) (by assumption) ?_
        rotate_left
        · (intro w hSw; obtain ⟨hSw0, hSw1⟩ := hSw; (try dsimp only at hSw0 hSw1); go_simp; try (with_reducible rfl))
        (try simp only [Act.put, List.setIfInBounds_toArray, List.set_cons_zero, List.set_cons_succ, List.getElem_toArray, List.getElem_cons_succ, List.getElem_cons_zero])
        refine wpAnyH_ready (rs := [5]) (by kernel_rfl) (by simp) ?_
        refine AllReadyH.cons rfl (fun K hK => ?_) AllReadyH.nil
        go_simp
        (go_at_call 69; refine (setOf_any za (rr R k) zk hal HA1.out _ ((own_ints ha).below (Below.refl wr.heap.size wr).drew)).mono ?_)
        rintro e x1 ⟨rfl, hb1⟩
        have H1 : Below wr.heap.size wr x1 := Below.trans (Below.refl wr.heap.size wr).drew (hb1.mono (Below.size (Below.refl wr.heap.size wr).drew))
        refine hK.out _ _ (⟨kept_cell H1 hcb hgl, kept_cell H1 hca hgl⟩) (fun hHeld => ?_)
        clear hK K
        (try simp only [Act.put, List.setIfInBounds_toArray, List.set_cons_zero, List.set_cons_succ, List.getElem_toArray, List.getElem_cons_succ, List.getElem_cons_zero])
        refine wpAnyH_ready (rs := [10]) (by kernel_rfl) (by simp) ?_
        refine AllReadyH.cons rfl (fun K hK => ?_) AllReadyH.nil
        go_simp
        (go_at_call 69; refine (setOf_any zb (rr R (k + 1)) zm hbl HB1.out _ ((own_ints hb).below H1)).mono ?_)
        rintro e x2 ⟨rfl, hb2⟩
        have H2 : Below wr.heap.size wr x2 := Below.trans H1 (hb2.mono (Below.size H1))
        refine hK.out _ _ (⟨kept_cell H2 hcb hgl, kept_cell H2 hca hgl⟩) (fun hHeld => ?_)
        clear hK K
        (try simp only [Act.put, List.setIfInBounds_toArray, List.set_cons_zero, List.set_cons_succ, List.getElem_toArray, List.getElem_cons_succ, List.getElem_cons_zero])
        refine wpAnyH_ready (rs := [11]) (by kernel_rfl) (by simp) ?_
        refine AllReadyH.cons rfl (fun K hK => ?_) AllReadyH.nil
        go_simp
        (go_at_call 70; refine (countBeyond_n (inL (rr R k)) (inL (rr R (k + 1))) _ HNc.out _).mono ?_)
        rintro e x3 ⟨rfl, hb3⟩
        have H3 : Below wr.heap.size wr x3 := Below.trans H2 (hb3.mono (Below.size H2))
        refine hK.out _ _ (⟨kept_cell H3 hcb hgl, kept_cell H3 hca hgl⟩) (fun hHeld => ?_)
        clear hK K
        (try simp only [Act.put, List.setIfInBounds_toArray, List.set_cons_zero, List.set_cons_succ, List.getElem_toArray, List.getElem_cons_succ, List.getElem_cons_zero])
        refine wpAnyH_take (i := 12) (v := ?_) rfl (by kernel_rfl) (by kernel_rfl) (by kernel_rfl) (fun _ _ _ h => h) (Or.inl ⟨by rfl, ?_⟩) (by assumption) ?_
        rotate_left
        · (intro w hSw; obtain ⟨hSw0, hSw1⟩ := hSw; (try dsimp only at hSw0 hSw1); go_simp; try (with_reducible rfl))
        (try simp only [Act.put, List.setIfInBounds_toArray, List.set_cons_zero, List.set_cons_succ, List.getElem_toArray, List.getElem_cons_succ, List.getElem_cons_zero])
        refine wpAnyH_done (by kernel_rfl) ?_ _
        (try simp only [Act.put, List.setIfInBounds_toArray, List.set_cons_zero, List.set_cons_succ, List.getElem_toArray, List.getElem_cons_succ, List.getElem_cons_zero])
        have Hn := B.trans (Below.mono H3 B.size)
        obtain ⟨wn, hwn⟩ : ∃ z, z = x3 := ⟨_, rfl⟩
        rw [← hwn] at Hn ⊢
        clear hwn hca hcb hgl ha hb B
        go_wp2_with fail
        go_ret2
        exact ⟨tup_ici HF.out.symm HE.out.symm, Hn⟩
    · have ek : Hid (k = R.length - 1) := Lib.hid (by omega)
      rw [ek.out] at HA
      have i2 : ¬ (k : Int) + 1 < (R.length : Int) := by omega
      go_wp2_with fail
      go_ret2
      exact ⟨tup_ici (by rw [HV.out, HA.out]) HE.out.symm, B⟩

end Go.Proofs.Ytfgpenldeckoaaa
