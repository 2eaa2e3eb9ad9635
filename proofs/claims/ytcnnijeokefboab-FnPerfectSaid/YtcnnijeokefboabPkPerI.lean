/-
  The contracts of the program's IsPerfect and PerfectRadius. By an AI agent.
-/
import Derived.Test.YtcnnijeokefboabMathP
import Derived.Test.YtcnnijeokefboabPk36
import Derived.Test.YtcnnijeokefboabPk37
import Derived.Test.YtcnnijeokefboabPk30
import Derived.Test.YtcnnijeokefboabPk18
import Derived.Test.YtcnnijeokefboabPk6
namespace Go.Proofs.Ytcnnijeokefboab
open Go.RowKit Cv
set_option linter.unusedVariables false
set_option linter.unusedSimpArgs false
set_option maxRecDepth 100000

theorem per_cov {S : List Int} (hS : Sp S) (C : List Int) {r : Int} (hr : 0 ≤ r) : perB S C r = (((C.length : Int) * sizeN S r == nW S) && eqS (covN S C r) (allN S)) := by
  have hN := nW_bd hS
  rw [Bool.eq_iff_iff, per_iff hS C hr, Bool.and_eq_true, beq_iff_eq, eqS_iff]
  refine and_congr_right fun _ => ?_
  constructor
  · intro h u hu
    rw [covN_in, allN]
    by_cases hn : u < (nW S).toNat
    · obtain ⟨k, h1, h2⟩ := h u hn
      simp only [hn, true_and, decide_true, decide_eq_true_eq]
      exact ⟨gi C k, gi_mem h1, h2⟩
    · simp [hn]
  · intro h u hu
    have h1 := h u (by omega)
    rw [covN_in, allN, Bool.eq_iff_iff, decide_eq_true_eq, decide_eq_true_eq] at h1
    obtain ⟨c, hc, hd⟩ := (h1.2 hu).2
    obtain ⟨k, hk, e⟩ := mem_gi hc
    exact ⟨k, hk, by rw [e]; exact hd⟩

set_option maxHeartbeats 1000000 in
theorem isPerfect_any (ao : Option Addr) (S : List Int) (cap : Nat) (hSp : Sp S) (ac : Option Addr) (C : List Int) (capc : Nat) (hlen : C.length ≤ 1024) (hC0 : ∀ i, i < C.length → 0 ≤ gi C i ∧ gi C i ≤ 9223372036854775807) (r : Int) (hr0 : 0 ≤ r) (hr8 : r ≤ 8) (w : World) (hS : Ints w ao S) (hC : Ints w ac C) :
    Calls Try.prog 29 #[.agg #[.slice ao S.length cap], .slice ac C.length capc, .int .i64 r] w fun e w' => e = .returned (.bool (perB S C r)) ∧ Below w.heap.size w w' := by
  obtain ⟨N1, N2⟩ := nW_bd hSp
  have hsz := size_bd hSp r hr0 hr8
  have HP := Lib.hid (per_cov hSp C hr0)
  have B0 : Below w.heap.size w (w.alloc (.cells #[.slice ao S.length cap] 26)) := by go_grown
  have c0 := cell_new w (.slice ao S.length cap) 26
  have hsize := impl_BallSize ao S cap (by have := hSp.hi; omega) r ⟨by omega, by omega⟩ (w.alloc (.cells #[.slice ao S.length cap] 26)) (hS.below B0)
  have he : eBall S 0 r = 0 := by rw [eBall_sp hSp, if_pos ⟨hr0, hr8⟩]
  rw [show vSize S r = sizeN S r by unfold vSize; rw [if_pos he], he] at hsize
  have hwc := Lib.hid fun W h => wordCount_sp ao S cap W hSp h
  have hmul : (C.length : Int) * sizeN S r ≤ 1024 * 589824 := Int.mul_le_mul (by omega) hsz.2 (by omega) (by omega)
  have hmul0 : 0 ≤ (C.length : Int) * sizeN S r := Int.mul_nonneg (by omega) (by omega)
  have E1 : IntKind.i64.wrap ((C.length : Int) * sizeN S r) = (C.length : Int) * sizeN S r := IntWalk.i64_in _ ⟨by omega, by omega⟩
  clear he
  go_enter Try.func29, Try.ntmps29
  go_wp2_with fail
  refine hsize.mono ?_
  rintro e w1 ⟨rfl, hb⟩
  have c1 := kept_cell hb c0 (lt_alloc _ _)
  have B1 : Below w.heap.size w w1 := B0.trans (hb.mono B0.size)
  clear hb B0 c0 hsize
  go_wp2_with fail
  have fc := fam_cell c1
  by_cases hg : (C.length : Int) * sizeN S r = nW S
  · have hgb : ((C.length : Int) * sizeN S r == nW S) = true := by simp [hg]
    have HP2 : Hid (perB S C r = eqS (covN S C r) (allN S)) := Lib.hid (by rw [HP.out, hgb, Bool.true_and])
    refine wp_region_fam (by kernel_rfl) (by kernel_rfl) ?_
    repeat (go_big_quiet_step (first | (go_at_call 63; exact fam_calls (hwc.out _ (hS.below (B1.trans ((fam_below _).mono B1.size))))) | (go_at_call 64; exact fam_calls (coveredWords_any ao S cap hSp ac C capc (by omega) hC0 r hr0 hr8 _ (hS.below (B1.trans ((fam_below _).mono B1.size))) (hC.below (B1.trans ((fam_below _).mono B1.size))))) | (go_at_call 65; exact fam_calls (wholeSet_any ao S cap hSp _ (hS.below (B1.trans ((fam_below _).mono B1.size)))))))
    go_big_quiet_want
    refine quiet_exec _ (fun w _ => exec_eqSet (p := covN S C r) (q := allN S) _ (.tmp 26) (.tmp 28) rfl rfl rfl) ?_
    go_big_quiet_on
    simp only [Act.put, List.setIfInBounds_toArray, List.set_cons_zero, List.set_cons_succ]
    repeat (go_big_quiet_step (fail))
    refine wpQuiet_nil ?_
    rintro _ ⟨y, rfl⟩
    have hb2 := fam_below y
    generalize fam w1 y = w2 at hb2 ⊢
    clear fc
    go_wp2_with fail
    go_ret
    exact ⟨by rw [HP2.out]; try rfl, B1.trans (hb2.mono B1.size)⟩
  · have hgb : ((C.length : Int) * sizeN S r == nW S) = false := by simpa using hg
    have HP2 : Hid (perB S C r = false) := Lib.hid (by rw [HP.out, hgb, Bool.false_and])
    refine wp_region_fam (by kernel_rfl) (by kernel_rfl) ?_
    repeat (go_big_quiet_step (first | (go_at_call 63; exact fam_calls (hwc.out _ (hS.below (B1.trans ((fam_below _).mono B1.size)))))))
    refine wpQuiet_nil ?_
    rintro _ ⟨y, rfl⟩
    have hb2 := fam_below y
    generalize fam w1 y = w2 at hb2 ⊢
    clear fc
    go_wp2_with fail
    go_ret
    exact ⟨by rw [HP2.out]; try rfl, B1.trans (hb2.mono B1.size)⟩

set_option maxHeartbeats 1000000 in
theorem impl_IsPerfect (ao : Option Addr) (S : List Int) (cap : Nat) (hn : S.length ≤ 4294967296) (ac : Option Addr) (C : List Int) (capc : Nat) (hnc : C.length ≤ 4294967296) (r : Int) (hr : -9223372036854775808 ≤ r ∧ r ≤ 9223372036854775807) (w : World) (hS : Ints w ao S) (hC : Ints w ac C) :
    Calls Try.prog 9 #[.agg #[.slice ao S.length cap], .slice ac C.length capc, .int .i64 r] w fun e w' => e = .returned (.tuple #[.bool (vPer S C r), .int .i64 (eCov S C r)]) ∧ Below w.heap.size w w' := by
  have B0 : Below w.heap.size w (w.alloc (.cells #[.slice ao S.length cap] 26)) := by go_grown
  have HN2 := Lib.hid (eCov2_nil S C r)
  by_cases hq : eCov S C r = 0
  · obtain ⟨hz, r1, r2⟩ := eCov_zero hq
    have hqn : (eCov2 S C [] r != 0) = false := by rw [HN2.out]; simp [hq]
    obtain ⟨hSp, hc1, hc2⟩ := eCode_zero hz
    have hN := nW_bd hSp
    have hlen := code_len hSp hc1 hc2
    have HC1 : ∀ i, i < C.length → 0 ≤ gi C i ∧ gi C i ≤ 9223372036854775807 := fun i h => by have := hc1 i h; omega
    have HV : Hid (vPer S C r = perB S C r) := Lib.hid (by unfold vPer; rw [if_pos hq])
    have HQ0 := Lib.hid hq
    have hIs := Lib.hid fun W h1 h2 => isPerfect_any ao S cap hSp ac C capc (by omega) HC1 r r1 r2 W h1 h2
    clear hq hz hN hc1 hc2 hSp HC1
    go_enter Try.func9, Try.ntmps9
    go_wp2_with fail
    refine (coverError_n ao S cap hn ac C capc hnc r none [] 0 0 rfl (by omega) _ (hS.below B0) (hC.below B0) (.inl rfl)).mono ?_
    rintro e w1 ⟨rfl, hb⟩
    have c1 := kept_cell hb (cell_new w (.slice ao S.length cap) 26) (lt_alloc _ _)
    have B1 : Below w.heap.size w w1 := B0.trans (hb.mono B0.size)
    clear hb B0
    go_wp2_with fail
    refine (hIs.out _ (hS.below B1) (hC.below B1)).mono ?_
    rintro e w2 ⟨rfl, hb⟩
    go_wp2_with fail
    go_ret2
    exact ⟨by rw [HV.out, HQ0.out]; try rfl, B1.trans (hb.mono B1.size)⟩
  · have hqn : (eCov2 S C [] r != 0) = true := by rw [HN2.out]; simpa using hq
    have HV : Hid (vPer S C r = false) := Lib.hid (by unfold vPer; rw [if_neg hq])
    clear hq
    go_enter Try.func9, Try.ntmps9
    go_wp2_with fail
    refine (coverError_n ao S cap hn ac C capc hnc r none [] 0 0 rfl (by omega) _ (hS.below B0) (hC.below B0) (.inl rfl)).mono ?_
    rintro e w1 ⟨rfl, hb⟩
    go_wp2_with fail
    go_ret2
    exact ⟨by rw [HV.out, HN2.out]; try rfl, B0.trans (hb.mono B0.size)⟩

set_option maxHeartbeats 1000000 in
theorem impl_PerfectRadius (ao : Option Addr) (S : List Int) (cap : Nat) (hn : S.length ≤ 4294967296) (ac : Option Addr) (C : List Int) (capc : Nat) (hnc : C.length ≤ 4294967296) (w : World) (hS : Ints w ao S) (hC : Ints w ac C) :
    Calls Try.prog 11 #[.agg #[.slice ao S.length cap], .slice ac C.length capc] w fun e w' => e = .returned (.tuple #[.int .i64 (vPr S C), .int .i64 (ePr S C)]) ∧ Below w.heap.size w w' := by
  have B0 : Below w.heap.size w (w.alloc (.cells #[.slice ao S.length cap] 26)) := by go_grown
  have l0 := lt_alloc w (.cells #[.slice ao S.length cap] 26)
  have c0 := cell_new w (.slice ao S.length cap) 26
  by_cases hz : eCode S C = 0
  · have hqn : (eCode S C != 0) = false := by simp [hz]
    obtain ⟨hSp, hc1, hc2⟩ := eCode_zero hz
    have hN := nW_bd hSp
    have hlen := code_len hSp hc1 hc2
    have HC1 : ∀ i, i < C.length → 0 ≤ gi C i ∧ gi C i ≤ 9223372036854775807 := fun i h => by have := hc1 i h; omega
    have HZ := Lib.hid hz
    have hs8 := hSp.hi
    have hIs := Lib.hid fun (k : Nat) (hk : k < 9) W h1 h2 => isPerfect_any ao S cap hSp ac C capc (by omega) HC1 (k : Int) (by omega) (by omega) W h1 h2
    have HM := Lib.hid (pr_more hs8 C)
    clear hz hN hc1 hc2 hSp HC1
    go_enter Try.func11, Try.ntmps11
    go_wp2_with fail
    refine (codeError_any ao S cap hn ac C capc hnc _ (hS.below B0) (hC.below B0)).mono ?_
    rintro e w1 ⟨rfl, hb⟩
    have c1 := kept_cell hb c0 l0
    have l1 := lt_of_below hb l0
    have B1 : Below w.heap.size w w1 := B0.trans (hb.mono B0.size)
    clear hb B0 c0 l0
    go_wp2_with fail
    go_loopw [14] (fun i wr => ∃ k : Nat, k ≤ 9 ∧ i = .int .i64 k ∧ Hid (∀ j : Nat, j < k → perB S C (j : Int) = false) ∧ wr.cell? ⟨w.heap.size, 0, none⟩ = some (.slice ao S.length cap) ∧ w.heap.size < wr.heap.size ∧ Below w.heap.size w wr) (fun i _ => 9 - (intOf i).toNat)
    case atStart => exact ⟨0, Nat.zero_le _, rfl, Lib.hid fun u h => by omega, c1, l1, B1⟩
    case round =>
      clear c1 l1 B1
      obtain ⟨k, hk, rfl, HP, c, l, B⟩ := hrel
      by_cases hlt : k < 9
      · have hlI : (k : Int) < 9 := by omega
        have hcall2 := hIs.out k hlt wr (hS.below B) (hC.below B)
        have hs := B.size
        cases hp : perB S C (k : Int) with
        | true =>
          rw [hp] at hcall2
          have HJ : Hid (prI S C 9 = k) := Lib.hid (fstI_at (p := fun r => perB S C (r : Int)) (by omega) hp HP.out)
          have HI : Hid (prI S C (S.length + 1) = k ∧ k < S.length + 1) := Lib.hid (by
            have h1 := HM.out.2 (by rw [HJ.out]; exact hlt)
            have h2 := HM.out.1.1 (by rw [HJ.out]; exact hlt)
            rw [← h1, HJ.out] at h2
            exact ⟨by rw [← h1, HJ.out], h2⟩)
          have HE : Hid (ePr S C = 0) := Lib.hid (by unfold ePr; rw [if_pos HZ.out, if_pos (by rw [HI.out.1]; exact HI.out.2)])
          have HV : Hid (vPr S C = k) := Lib.hid (by unfold vPr; rw [if_pos HE.out, HI.out.1])
          clear hp
          go_wp2_with fail
          refine hcall2.mono ?_
          rintro e w2 ⟨rfl, hb⟩
          go_wp2_with fail
          go_ret2
          exact ⟨by rw [HE.out, HV.out]; try rfl, B.trans (hb.mono hs)⟩
        | false =>
          rw [hp] at hcall2
          have HPk := Lib.hid hp
          clear hp
          go_wp2_with fail
          refine hcall2.mono ?_
          rintro e w2 ⟨rfl, hb⟩
          have c2 := kept_cell hb c l
          have l2 := lt_of_below hb l
          have B2 := B.trans (hb.mono hs)
          clear hb
          go_wp2_with fail
          go_roundw
          case rel =>
            refine ⟨k + 1, by omega, by go_num, Lib.hid fun j hj => ?_, c2, l2, B2⟩
            by_cases e : j = k
            · subst e; exact HPk.out
            · exact HP.out j (by omega)
          case measure => simp [intOf]; omega
      · have ek : Hid (k = 9) := Lib.hid (by omega)
        have HJ : Hid (prI S C 9 = 9) := Lib.hid (fstI_none (p := fun r => perB S C (r : Int)) (by rw [← ek.out]; exact HP.out))
        have HI : Hid (¬ prI S C (S.length + 1) < S.length + 1) := Lib.hid fun g => by
          have := HM.out.1.2 g
          rw [HJ.out] at this; omega
        have HE : Hid (ePr S C = 4) := Lib.hid (by unfold ePr; rw [if_pos HZ.out, if_neg HI.out])
        have HV : Hid (vPr S C = 0) := Lib.hid (by unfold vPr; rw [if_neg (by rw [HE.out]; decide)])
        have hlI : ¬ (k : Int) < 9 := by omega
        go_wp2_with fail
        go_ret2
        exact ⟨by rw [HE.out, HV.out]; try rfl, B⟩
  · have hqn : (eCode S C != 0) = true := by simpa using hz
    have HE : Hid (ePr S C = eCode S C) := Lib.hid (by unfold ePr; rw [if_neg hz])
    have HV : Hid (vPr S C = 0) := Lib.hid (by unfold vPr; rw [HE.out, if_neg hz])
    clear hz
    go_enter Try.func11, Try.ntmps11
    go_wp2_with fail
    refine (codeError_any ao S cap hn ac C capc hnc _ (hS.below B0) (hC.below B0)).mono ?_
    rintro e w1 ⟨rfl, hb⟩
    go_wp2_with fail
    go_ret2
    exact ⟨by rw [HV.out, HE.out]; try rfl, B0.trans (hb.mono B0.size)⟩

end Go.Proofs.Ytcnnijeokefboab
