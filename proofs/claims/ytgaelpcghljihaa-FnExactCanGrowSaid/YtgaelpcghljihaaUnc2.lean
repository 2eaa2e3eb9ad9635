/-
  The contract of the model of CoversSpace. By an AI agent.
-/
import Derived.Test.YtgaelpcghljihaaUnc
namespace Go.Proofs.Ytgaelpcghljihaa
open Go.RowKit Cv
set_option linter.unusedVariables false
set_option linter.unusedSimpArgs false
set_option maxRecDepth 100000

set_option maxHeartbeats 1000000 in
theorem spec_CoversSpace (ao : Option Addr) (S : List Int) (cap : Nat) (hn : S.length ≤ 4294967296) (ac : Option Addr) (C : List Int) (capc : Nat) (hnc : C.length ≤ 4294967296) (r : Int) (hr : -9223372036854775808 ≤ r ∧ r ≤ 9223372036854775807) (w : World) (hS : Ints w ao S) (hC : Ints w ac C) :
    Calls Try.prog 39 #[.agg #[.slice ao S.length cap], .slice ac C.length capc, .int .i64 r] w fun e w' => e = .returned (.tuple #[.bool (vCovS S C r), .int .i64 (eCov S C r)]) ∧ Below w.heap.size w w' := by
  have B0 : Below w.heap.size w (w.alloc (.cells #[.slice ao S.length cap] 24)) := by go_grown
  have c0 := cell_new w (.slice ao S.length cap) 24
  have l0 := lt_alloc w (.cells #[.slice ao S.length cap] 24)
  by_cases hq : eCov S C r = 0
  · obtain ⟨hz, r1, r2⟩ := eCov_zero hq
    have hqn : (eCov S C r != 0) = false := by simp [hq]
    obtain ⟨hSp, hc1, hc2⟩ := eCode_zero hz
    obtain ⟨N1, N2⟩ := nW_bd hSp
    have hlen := code_len hSp hc1 hc2
    have HSp := Lib.hid hSp
    have HC1 : Hid (∀ i, i < C.length → 0 ≤ gi C i ∧ gi C i ≤ 9223372036854775807) := Lib.hid fun i h => by have := hc1 i h; omega
    obtain ⟨N, hN⟩ : ∃ N : Nat, nW S = (N : Int) := ⟨(nW S).toNat, by omega⟩
    have HN := Lib.hid hN
    have HQ0 := Lib.hid hq
    obtain ⟨K, hK⟩ : ∃ K, K = (selL (uncP S C r) N).length := ⟨_, rfl⟩
    have HK := Lib.hid hK
    have HV : Hid (vCovS S C r = ((K : Int) == 0)) := Lib.hid (by
      unfold vCovS; rw [if_pos hq, hN]
      show decide ((selL (uncP S C r) N).length = 0) = _
      rw [← hK, Bool.eq_iff_iff]; simp)
    clear hq hz hN hc1 hc2 hSp hK
    go_enter Try.func39, Try.ntmps39
    go_wp2_with fail
    refine (l02Code_any ao S cap hn ac C capc hnc r _ (hS.below B0) (hC.below B0)).mono ?_
    rintro e w1 ⟨rfl, hb⟩
    replace c0 := kept_cell hb c0 l0
    replace l0 := lt_of_below hb l0
    have B1 : Below w.heap.size w w1 := B0.trans (hb.mono B0.size)
    have hs1 := B1.size
    clear hb B0
    go_wp2_with fail
    refine (l02Uncovered_any ao S cap HSp.out ac C capc (by omega) HC1.out r N HN _ (hS.below B1) (hC.below B1)).mono ?_
    rintro e w2 ⟨v, rfl, own, hb⟩
    obtain ⟨a1, k1, hv⟩ := own.shape
    subst hv
    rw [← HK.out] at own ⊢
    go_wp2_with fail
    go_ret2
    exact ⟨by rw [HV.out, HQ0.out]; rfl, B1.trans (hb.mono hs1)⟩
  · have hqn : (eCov S C r != 0) = true := by simpa using hq
    have HV : Hid (vCovS S C r = false) := Lib.hid (by unfold vCovS; rw [if_neg hq])
    clear hq
    go_enter Try.func39, Try.ntmps39
    go_wp2_with fail
    refine (l02Code_any ao S cap hn ac C capc hnc r _ (hS.below B0) (hC.below B0)).mono ?_
    rintro e w1 ⟨rfl, hb⟩
    go_wp2_with fail
    go_ret2
    exact ⟨by rw [HV.out]; rfl, B0.trans (hb.mono B0.size)⟩

end Go.Proofs.Ytgaelpcghljihaa
