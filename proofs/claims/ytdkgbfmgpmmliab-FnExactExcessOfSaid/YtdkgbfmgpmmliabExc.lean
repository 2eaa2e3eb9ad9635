/-
  The contracts of the excess of a code. By an AI agent.
-/
import Derived.Test.YtdkgbfmgpmmliabMath11
import Derived.Test.YtdkgbfmgpmmliabTimes
import Derived.Test.YtdkgbfmgpmmliabTimesC
namespace Go.Proofs.Ytdkgbfmgpmmliab
open Go.RowKit Cv
set_option linter.unusedVariables false
set_option linter.unusedSimpArgs false
set_option maxRecDepth 100000

set_option maxHeartbeats 2000000 in
theorem spec_ExcessOf (ao : Option Addr) (S : List Int) (cap : Nat) (hn : S.length ≤ 4294967296) (ac : Option Addr) (C : List Int) (capc : Nat) (hnc : C.length ≤ 4294967296) (r : Int) (hr : -9223372036854775808 ≤ r ∧ r ≤ 9223372036854775807) (w : World) (hS : Ints w ao S) (hC : Ints w ac C) :
    Calls Try.prog 21 #[.agg #[.slice ao S.length cap], .slice ac C.length capc, .int .i64 r] w fun e w' => e = .returned (.tuple #[.int .i64 (vExc S C r), .int .i64 (eExc S C r)]) ∧ Below w.heap.size w w' := by
  have B0 : Below w.heap.size w (w.alloc (.cells #[.slice ao S.length cap] 28)) := by go_grown
  have HQ := Lib.hid (eCov2_nil S C r)
  by_cases hq : eCov S C r = 0
  · obtain ⟨hz, r1, r2⟩ := eCov_zero hq
    obtain ⟨hSp, hc1, hc2⟩ := eCode_zero hz
    obtain ⟨N1, N2⟩ := nW_bd hSp
    have hlen := code_len hSp hc1 hc2
    have HSp := Lib.hid hSp
    have HC1 : Hid (∀ i, i < C.length → 0 ≤ gi C i ∧ gi C i ≤ 9223372036854775807) := Lib.hid fun i h => by have := hc1 i h; omega
    clear hc1 hc2 hSp
    have hqn : (eCov S C r != 0) = false := by simp [hq]
    obtain ⟨N, hN⟩ : ∃ N : Nat, nW S = (N : Int) := ⟨(nW S).toNat, by omega⟩
    have HNN : Hid ((nW S).toNat = N) := Lib.hid (by omega)
    have HN := Lib.hid hN
    have hNle : N ≤ 1024 := by omega
    have HQ0 := Lib.hid hq
    clear hq hz hN
    go_enter Try.func21, Try.ntmps21
    go_wp2_with fail
    refine (l02Code_any ao S cap hn ac C capc hnc r _ (hS.below B0) (hC.below B0)).mono ?_
    rintro e w1 ⟨rfl, hb⟩
    have c1 := kept_cell hb (cell_new w (.slice ao S.length cap) 28) (lt_alloc _ _)
    have B1 : Below w.heap.size w w1 := B0.trans (hb.mono B0.size)
    clear hb B0
    go_wp2_with fail
    refine (l02Times_any ao S cap HSp.out ac C capc (by omega) HC1.out r N HN _ (hS.below B1) (hC.below B1)).mono ?_
    rintro e w2 ⟨q, rfl, oq, hb2⟩
    have B2 := B1.trans (hb2.mono B1.size)
    have HT := Lib.hid (timesL_len S C r)
    clear hb2 B1 c1
    go_wp2_with fail
    go_loop [10, 25] (fun t i => ∃ k : Nat, k ≤ N ∧ i = .int .i64 k ∧ t = .int .i64 (exS (tAt S C r) k) ∧ Hid (∀ u : Nat, u < k → tAt S C r u ≠ 0)) (fun _ i => N - (intOf i).toNat)
    case atStart => exact ⟨0, Nat.zero_le _, rfl, rfl, Lib.hid fun u h => by omega⟩
    case round =>
      obtain ⟨k, hk, rfl, rfl, HZ⟩ := hrel
      by_cases hlt : k < N
      · have hck := oq.cell (k := k) (by rw [HT.out, HNN.out]; exact hlt)
        rw [gi_timesA _ _ _ _ (by rw [HNN.out]; exact hlt)] at hck
        obtain ⟨t1, t2⟩ := tAt_bd S C r k
        have hE := exS_bd (tAt S C r) C.length (by omega) (tAt_bd S C r) k
        have hkC : (k : Int) * (C.length : Int) ≤ 1024 * 1024 := Int.mul_le_mul (by omega) (by omega) (by omega) (by omega)
        obtain ⟨e1, e2⟩ := hE
        have e3 : exS (tAt S C r) k ≤ 1048576 := by omega
        clear e2 hkC
        by_cases hz : tAt S C r k = 0
        · have hzb : (tAt S C r k == 0) = true := by simp [hz]
          have HX := Lib.hid (exc_zero HQ0.out (by rw [HNN.out]; exact zTo_at hlt hz))
          clear hz
          go_wp2
          go_ret2
          exact ⟨by rw [HX.out.1, HX.out.2]; try rfl, B2⟩
        · have hzb : (tAt S C r k == 0) = false := by simpa using hz
          have HZk := Lib.hid hz
          have HS1 : Hid (exS (tAt S C r) (k + 1) = exS (tAt S C r) k + (tAt S C r k - 1)) := Lib.hid rfl
          clear hz
          go_wp2
          go_round
          case rel =>
            refine ⟨k + 1, by omega, by go_num, by rw [HS1.out]; go_num, Lib.hid fun u hu => ?_⟩
            by_cases e : u = k
            · subst e; exact HZk.out
            · exact HZ.out u (by omega)
          case measure => simp [intOf]; omega
      · have ek : Hid (k = N) := Lib.hid (by omega)
        have HX := Lib.hid (exc_ok HQ0.out (by rw [HNN.out]; exact zTo_none fun u hu => HZ.out u (by omega)))
        go_wp2
        go_ret2
        exact ⟨by rw [HX.out.1, HX.out.2, HNN.out, ← ek.out]; try rfl, B2⟩
  · have hqn : (eCov S C r != 0) = true := by simpa using hq
    have HX := Lib.hid (exc_bad hq)
    clear hq
    go_enter Try.func21, Try.ntmps21
    go_wp2_with fail
    refine (l02Code_any ao S cap hn ac C capc hnc r _ (hS.below B0) (hC.below B0)).mono ?_
    rintro e w1 ⟨rfl, hb⟩
    go_wp2_with fail
    go_ret2
    exact ⟨by rw [HX.out.1, HX.out.2]; try rfl, B0.trans (hb.mono B0.size)⟩

set_option maxHeartbeats 2000000 in
theorem impl_ExcessOf (ao : Option Addr) (S : List Int) (cap : Nat) (hn : S.length ≤ 4294967296) (ac : Option Addr) (C : List Int) (capc : Nat) (hnc : C.length ≤ 4294967296) (r : Int) (hr : -9223372036854775808 ≤ r ∧ r ≤ 9223372036854775807) (w : World) (hS : Ints w ao S) (hC : Ints w ac C) :
    Calls Try.prog 22 #[.agg #[.slice ao S.length cap], .slice ac C.length capc, .int .i64 r] w fun e w' => e = .returned (.tuple #[.int .i64 (vExc S C r), .int .i64 (eExc S C r)]) ∧ Below w.heap.size w w' := by
  have B0 : Below w.heap.size w (w.alloc (.cells #[.slice ao S.length cap] 28)) := by go_grown
  have HQ := Lib.hid (eCov2_nil S C r)
  by_cases hq : eCov S C r = 0
  · obtain ⟨hz, r1, r2⟩ := eCov_zero hq
    obtain ⟨hSp, hc1, hc2⟩ := eCode_zero hz
    obtain ⟨N1, N2⟩ := nW_bd hSp
    have hlen := code_len hSp hc1 hc2
    have HSp := Lib.hid hSp
    have HC1 : Hid (∀ i, i < C.length → 0 ≤ gi C i ∧ gi C i ≤ 9223372036854775807) := Lib.hid fun i h => by have := hc1 i h; omega
    clear hc1 hc2 hSp
    have hqn : (eCov2 S C [] r != 0) = false := by rw [HQ.out]; simp [hq]
    obtain ⟨N, hN⟩ : ∃ N : Nat, nW S = (N : Int) := ⟨(nW S).toNat, by omega⟩
    have HNN : Hid ((nW S).toNat = N) := Lib.hid (by omega)
    have HN := Lib.hid hN
    have hNle : N ≤ 1024 := by omega
    have HQ0 := Lib.hid hq
    clear hq hz hN
    go_enter Try.func22, Try.ntmps22
    go_wp2_with fail
    refine (coverError_n ao S cap hn ac C capc hnc r none [] 0 0 rfl (by omega) _ (hS.below B0) (hC.below B0) (.inl rfl)).mono ?_
    rintro e w1 ⟨rfl, hb⟩
    have c1 := kept_cell hb (cell_new w (.slice ao S.length cap) 28) (lt_alloc _ _)
    have B1 : Below w.heap.size w w1 := B0.trans (hb.mono B0.size)
    clear hb B0
    go_wp2_with fail
    refine (timesCovered_any ao S cap HSp.out ac C capc (by omega) HC1.out r r1 r2 N HN _ (hS.below B1) (hC.below B1)).mono ?_
    rintro e w2 ⟨q, rfl, oq, hb2⟩
    have B2 := B1.trans (hb2.mono B1.size)
    have HT := Lib.hid (timesL_len S C r)
    clear hb2 B1 c1
    go_wp2_with fail
    go_loop [9, 24] (fun t i => ∃ k : Nat, k ≤ N ∧ i = .int .i64 k ∧ t = .int .i64 (exS (tAt S C r) k) ∧ Hid (∀ u : Nat, u < k → tAt S C r u ≠ 0)) (fun _ i => N - (intOf i).toNat)
    case atStart => exact ⟨0, Nat.zero_le _, rfl, rfl, Lib.hid fun u h => by omega⟩
    case round =>
      obtain ⟨k, hk, rfl, rfl, HZ⟩ := hrel
      by_cases hlt : k < N
      · have hck := oq.cell (k := k) (by rw [HT.out, HNN.out]; exact hlt)
        rw [gi_timesA _ _ _ _ (by rw [HNN.out]; exact hlt)] at hck
        obtain ⟨t1, t2⟩ := tAt_bd S C r k
        have hE := exS_bd (tAt S C r) C.length (by omega) (tAt_bd S C r) k
        have hkC : (k : Int) * (C.length : Int) ≤ 1024 * 1024 := Int.mul_le_mul (by omega) (by omega) (by omega) (by omega)
        obtain ⟨e1, e2⟩ := hE
        have e3 : exS (tAt S C r) k ≤ 1048576 := by omega
        clear e2 hkC
        by_cases hz : tAt S C r k = 0
        · have hzb : (tAt S C r k == 0) = true := by simp [hz]
          have HX := Lib.hid (exc_zero HQ0.out (by rw [HNN.out]; exact zTo_at hlt hz))
          clear hz
          go_wp2
          go_ret2
          exact ⟨by rw [HX.out.1, HX.out.2]; try rfl, B2⟩
        · have hzb : (tAt S C r k == 0) = false := by simpa using hz
          have HZk := Lib.hid hz
          have HS1 : Hid (exS (tAt S C r) (k + 1) = exS (tAt S C r) k + (tAt S C r k - 1)) := Lib.hid rfl
          clear hz
          go_wp2
          go_round
          case rel =>
            refine ⟨k + 1, by omega, by go_num, by rw [HS1.out]; try rfl, Lib.hid fun u hu => ?_⟩
            by_cases e : u = k
            · subst e; exact HZk.out
            · exact HZ.out u (by omega)
          case measure => simp [intOf]; omega
      · have ek : Hid (k = N) := Lib.hid (by omega)
        have HX := Lib.hid (exc_ok HQ0.out (by rw [HNN.out]; exact zTo_none fun u hu => HZ.out u (by omega)))
        go_wp2
        go_ret2
        exact ⟨by rw [HX.out.1, HX.out.2, HNN.out, ← ek.out]; try rfl, B2⟩
  · have hqn : (eCov2 S C [] r != 0) = true := by rw [HQ.out]; simpa using hq
    have HX := Lib.hid (exc_bad hq)
    clear hq
    go_enter Try.func22, Try.ntmps22
    go_wp2_with fail
    refine (coverError_n ao S cap hn ac C capc hnc r none [] 0 0 rfl (by omega) _ (hS.below B0) (hC.below B0) (.inl rfl)).mono ?_
    rintro e w1 ⟨rfl, hb⟩
    go_wp2_with fail
    go_ret2
    exact ⟨by rw [HX.out.1, HX.out.2, ← HQ.out]; try rfl, B0.trans (hb.mono B0.size)⟩

end Go.Proofs.Ytdkgbfmgpmmliab
