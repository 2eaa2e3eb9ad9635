/-
  The contracts of the program's CoversSpace and CanGrow. By an AI agent.
-/
import Derived.Test.YtgaelpcghljihaaCovd
import Derived.Test.YtgaelpcghljihaaNum
import Derived.Test.YtgaelpcghljihaaSetEq
import Derived.Test.YtgaelpcghljihaaMath
import Derived.Test.YtgaelpcghljihaaUnc2
namespace Go.Proofs.Ytgaelpcghljihaa
open Go.RowKit Cv
set_option linter.unusedVariables false
set_option linter.unusedSimpArgs false
set_option maxRecDepth 100000

/-- the words that are covered are all words just where none is uncovered -/
theorem covS_eq (S C : List Int) (r : Int) (hN : nW S ≤ 1024) : decide ((selL (uncP S C r) (nW S).toNat).length = 0) = eqS (covN S C r) (allN S) := by
  rw [Bool.eq_iff_iff, decide_eq_true_eq, selL_nil, eqS_iff]
  constructor
  · intro h u hu
    rw [covN_in, allN]
    by_cases hn : u < (nW S).toNat
    · have h1 := h u hn
      rw [uncP_in, decide_eq_false_iff_not, Classical.not_not] at h1
      simp [hn, h1]
    · simp [hn]
  · intro h u hu
    have h1 := h u (by omega)
    rw [covN_in, allN, Bool.eq_iff_iff, decide_eq_true_eq, decide_eq_true_eq] at h1
    rw [uncP_in, decide_eq_false_iff_not, Classical.not_not]
    exact (h1.2 hu).2
set_option maxHeartbeats 1000000 in
theorem impl_CoversSpace (ao : Option Addr) (S : List Int) (cap : Nat) (hn : S.length ≤ 4294967296) (ac : Option Addr) (C : List Int) (capc : Nat) (hnc : C.length ≤ 4294967296) (r : Int) (hr : -9223372036854775808 ≤ r ∧ r ≤ 9223372036854775807) (w : World) (hS : Ints w ao S) (hC : Ints w ac C) :
    Calls Try.prog 40 #[.agg #[.slice ao S.length cap], .slice ac C.length capc, .int .i64 r] w fun e w' => e = .returned (.tuple #[.bool (vCovS S C r), .int .i64 (eCov S C r)]) ∧ Below w.heap.size w w' := by
  have B0 : Below w.heap.size w (w.alloc (.cells #[.slice ao S.length cap] 24)) := by go_grown
  have HQ := Lib.hid (eCov2_nil S C r)
  by_cases hq : eCov S C r = 0
  · obtain ⟨hz, r1, r2⟩ := eCov_zero hq
    obtain ⟨hSp, hc1, hc2⟩ := eCode_zero hz
    obtain ⟨N1, N2⟩ := nW_bd hSp
    have hlen := code_len hSp hc1 hc2
    have HSp := Lib.hid hSp
    have HC1 : Hid (∀ i, i < C.length → 0 ≤ gi C i ∧ gi C i ≤ 9223372036854775807) := Lib.hid fun i h => by have := hc1 i h; omega
    clear hc1 hc2 hSp
    have hqn : (eCov2 S C [] r != 0) = false := by rw [HQ.out]; simp [hq]
    have HQ0 := Lib.hid hq
    have HV : Hid (vCovS S C r = eqS (covN S C r) (allN S)) := Lib.hid (by
      unfold vCovS; rw [if_pos hq, covS_eq S C r (by omega)])
    clear hq hz
    go_enter Try.func40, Try.ntmps40
    go_wp2_with fail
    refine (coverError_n ao S cap hn ac C capc hnc r none [] 0 0 rfl (by omega) _ (hS.below B0) (hC.below B0) (.inl rfl)).mono ?_
    rintro e w1 ⟨rfl, hb⟩
    have c1 := kept_cell hb (cell_new w (.slice ao S.length cap) 24) (lt_alloc _ _)
    have B1 : Below w.heap.size w w1 := B0.trans (hb.mono B0.size)
    clear hb B0
    go_wp2_with fail
    have fc := fam_cell c1
    refine wp_region_fam (by kernel_rfl) (by kernel_rfl) ?_
    repeat (go_big_quiet_step (first | (go_at_call 90; exact fam_calls (coveredWords_any ao S cap HSp.out ac C capc (by omega) HC1.out r r1 r2 _ (hS.below (B1.trans ((fam_below _).mono B1.size))) (hC.below (B1.trans ((fam_below _).mono B1.size))))) | (go_at_call 91; exact fam_calls (wholeSet_any ao S cap HSp.out _ (hS.below (B1.trans ((fam_below _).mono B1.size)))))))
    go_big_quiet_want
    refine quiet_exec _ (fun w _ => exec_eqSet (p := covN S C r) (q := allN S) _ (.tmp 19) (.tmp 21) rfl rfl rfl) ?_
    go_big_quiet_on
    simp only [Act.put, List.setIfInBounds_toArray, List.set_cons_zero, List.set_cons_succ]
    repeat (go_big_quiet_step (fail))
    refine wpQuiet_nil ?_
    rintro _ ⟨y, rfl⟩
    have hb2 := fam_below y
    generalize fam w1 y = w2 at hb2 ⊢
    clear fc
    go_wp2_with fail
    go_ret2
    exact ⟨by rw [HQ0.out, HV.out]; try rfl, B1.trans (hb2.mono B1.size)⟩
  · have HV : Hid (vCovS S C r = false) := Lib.hid (by unfold vCovS; rw [if_neg hq])
    have hqn : (eCov2 S C [] r != 0) = true := by rw [HQ.out]; simpa using hq
    clear hq
    go_enter Try.func40, Try.ntmps40
    go_wp2_with fail
    refine (coverError_n ao S cap hn ac C capc hnc r none [] 0 0 rfl (by omega) _ (hS.below B0) (hC.below B0) (.inl rfl)).mono ?_
    rintro e w1 ⟨rfl, hb⟩
    go_wp2_with fail
    go_ret2
    exact ⟨by rw [HV.out, HQ.out]; try rfl, B0.trans (hb.mono B0.size)⟩


set_option maxHeartbeats 1000000 in
theorem impl_CanGrow (ao : Option Addr) (S : List Int) (cap : Nat) (hn : S.length ≤ 4294967296) (ac : Option Addr) (C : List Int) (capc : Nat) (hnc : C.length ≤ 4294967296) (d : Int) (hd : -9223372036854775808 ≤ d ∧ d ≤ 9223372036854775807) (w : World) (hS : Ints w ao S) (hC : Ints w ac C) :
    Calls Try.prog 52 #[.agg #[.slice ao S.length cap], .slice ac C.length capc, .int .i64 d] w fun e w' => e = .returned (.tuple #[.bool (vGrow S C d), .int .i64 (eAp S C d)]) ∧ Below w.heap.size w w' := by
  have B0 : Below w.heap.size w (w.alloc (.cells #[.slice ao S.length cap] 24)) := by go_grown
  by_cases hq : eAp S C d = 0
  · obtain ⟨hz, d1, d9⟩ := eAp_zero hq
    obtain ⟨hSp, hc1, hc2⟩ := eCode_zero hz
    obtain ⟨N1, N2⟩ := nW_bd hSp
    have hlen := code_len hSp hc1 hc2
    have HSp := Lib.hid hSp
    have HC1 : Hid (∀ i, i < C.length → 0 ≤ gi C i ∧ gi C i ≤ 9223372036854775807) := Lib.hid fun i h => by have := hc1 i h; omega
    clear hc1 hc2 hSp
    have hqn : (eAp S C d != 0) = false := by simp [hq]
    have HQ0 := Lib.hid hq
    have HV : Hid (vGrow S C d = !eqS (covN S C (d - 1)) (allN S)) := Lib.hid (by
      unfold vGrow; rw [if_pos hq, growTo_unc S C d d1, covS_eq S C (d - 1) (by omega)])
    have E1 : IntKind.i64.wrap (d - 1) = d - 1 := IntWalk.i64_in _ ⟨by omega, by omega⟩
    clear hq hz
    go_enter Try.func52, Try.ntmps52
    go_wp2_with fail
    refine (apartError_any ao S cap hn ac C capc hnc d _ (hS.below B0) (hC.below B0)).mono ?_
    rintro e w1 ⟨rfl, hb⟩
    have c1 := kept_cell hb (cell_new w (.slice ao S.length cap) 24) (lt_alloc _ _)
    have B1 : Below w.heap.size w w1 := B0.trans (hb.mono B0.size)
    clear hb B0
    go_wp2_with fail
    have fc := fam_cell c1
    refine wp_region_fam (by kernel_rfl) (by kernel_rfl) ?_
    repeat (go_big_quiet_step (first | (go_at_call 90; exact fam_calls (coveredWords_any ao S cap HSp.out ac C capc (by omega) HC1.out (d - 1) (by omega) (by omega) _ (hS.below (B1.trans ((fam_below _).mono B1.size))) (hC.below (B1.trans ((fam_below _).mono B1.size))))) | (go_at_call 91; exact fam_calls (wholeSet_any ao S cap HSp.out _ (hS.below (B1.trans ((fam_below _).mono B1.size)))))))
    go_big_quiet_want
    refine quiet_exec _ (fun w _ => exec_neSet (p := covN S C (d - 1)) (q := allN S) _ (.tmp 20) (.tmp 22) rfl rfl rfl) ?_
    go_big_quiet_on
    simp only [Act.put, List.setIfInBounds_toArray, List.set_cons_zero, List.set_cons_succ]
    repeat (go_big_quiet_step (fail))
    refine wpQuiet_nil ?_
    rintro _ ⟨y, rfl⟩
    have hb2 := fam_below y
    generalize fam w1 y = w2 at hb2 ⊢
    clear fc
    go_wp2_with fail
    go_ret2
    exact ⟨by rw [HQ0.out, HV.out]; try rfl, B1.trans (hb2.mono B1.size)⟩
  · have HV : Hid (vGrow S C d = false) := Lib.hid (by unfold vGrow; rw [if_neg hq])
    have hqn : (eAp S C d != 0) = true := by simpa using hq
    clear hq
    go_enter Try.func52, Try.ntmps52
    go_wp2_with fail
    refine (apartError_any ao S cap hn ac C capc hnc d _ (hS.below B0) (hC.below B0)).mono ?_
    rintro e w1 ⟨rfl, hb⟩
    go_wp2_with fail
    go_ret2
    exact ⟨by rw [HV.out]; try rfl, B0.trans (hb.mono B0.size)⟩

end Go.Proofs.Ytgaelpcghljihaa
