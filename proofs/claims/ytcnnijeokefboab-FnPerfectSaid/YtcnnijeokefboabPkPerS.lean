/-
  The contracts of the models of IsPerfect, PerfectRadius and DecodeWord. By an AI agent.
-/
import Derived.Test.YtcnnijeokefboabMathP
import Derived.Test.YtcnnijeokefboabPk40
import Derived.Test.YtcnnijeokefboabPkCode2
import Derived.Test.YtcnnijeokefboabPk11
import Derived.Test.YtcnnijeokefboabPk6
namespace Go.Proofs.Ytcnnijeokefboab
open Go.RowKit Cv
set_option linter.unusedVariables false
set_option linter.unusedSimpArgs false
set_option maxRecDepth 100000

set_option maxHeartbeats 1000000 in
theorem l06Is_any (ao : Option Addr) (S : List Int) (cap : Nat) (hSp : Sp S) (ac : Option Addr) (C : List Int) (capc : Nat) (hlen : C.length ≤ 1048576) (hC0 : ∀ i, i < C.length → 0 ≤ gi C i ∧ gi C i ≤ 9223372036854775807) (r : Int) (w : World) (hS : Ints w ao S) (hC : Ints w ac C) :
    Calls Try.prog 35 #[.agg #[.slice ao S.length cap], .slice ac C.length capc, .int .i64 r] w fun e w' => e = .returned (.bool (perB S C r)) ∧ Below w.heap.size w w' := by
  obtain ⟨N1, N2⟩ := nW_bd hSp
  obtain ⟨N, hN⟩ : ∃ N : Nat, nW S = (N : Int) := ⟨(nW S).toNat, by omega⟩
  have HNN : Hid ((nW S).toNat = N) := Lib.hid (by omega)
  have HN := Lib.hid hN
  have hNle : N ≤ 1024 := by omega
  have B0 : Below w.heap.size w (w.alloc (.cells #[.slice ao S.length cap] 26)) := by go_grown
  clear hN N1 N2
  go_enter Try.func35, Try.ntmps35
  go_wp2_with fail
  refine (l02Times_any ao S cap hSp ac C capc hlen hC0 r N HN _ (hS.below B0) (hC.below B0)).mono ?_
  rintro e w1 ⟨q, rfl, oq, hb⟩
  have B1 := B0.trans (hb.mono B0.size)
  have HT := Lib.hid (timesL_len S C r)
  clear hb B0
  go_wp2_with fail
  go_loop [15] (fun i => ∃ k : Nat, k ≤ N ∧ i = .int .i64 k ∧ Hid (∀ u : Nat, u < k → tAt S C r u = 1)) (fun i => N - (intOf i).toNat)
  case atStart => exact ⟨0, Nat.zero_le _, rfl, Lib.hid fun u h => by omega⟩
  case round =>
    obtain ⟨k, hk, rfl, HZ⟩ := hrel
    by_cases hlt : k < N
    · have hck := oq.cell (k := k) (by rw [HT.out, HNN.out]; exact hlt)
      rw [gi_timesA _ _ _ _ (by rw [HNN.out]; exact hlt)] at hck
      have hlI : (k : Int) < (N : Int) := by omega
      by_cases hz : tAt S C r k = 1
      · have hzb : (tAt S C r k != 1) = false := by simp [hz]
        have HZk := Lib.hid hz
        clear hz
        go_wp2
        go_round
        case rel =>
          refine ⟨k + 1, by omega, by go_num, Lib.hid fun u hu => ?_⟩
          by_cases e : u = k
          · subst e; exact HZk.out
          · exact HZ.out u (by omega)
        case measure => simp [intOf]; omega
      · have hzb : (tAt S C r k != 1) = true := by simpa using hz
        have HX : Hid (perB S C r = false) := Lib.hid (by
          unfold perB; rw [decide_eq_false_iff_not]; intro h; exact hz (h k (by rw [HNN.out]; exact hlt)))
        clear hz
        go_wp2
        go_ret
        exact ⟨by rw [HX.out]; try rfl, B1⟩
    · have ek : Hid (k = N) := Lib.hid (by omega)
      have HX : Hid (perB S C r = true) := Lib.hid (by
        unfold perB; rw [decide_eq_true_eq]; intro u hu; exact HZ.out u (by rw [HNN.out] at hu; rw [ek.out]; exact hu))
      have hlI : ¬ (k : Int) < (N : Int) := by omega
      go_wp2
      go_ret
      exact ⟨by rw [HX.out]; try rfl, B1⟩

set_option maxHeartbeats 1000000 in
theorem spec_IsPerfect (ao : Option Addr) (S : List Int) (cap : Nat) (hn : S.length ≤ 4294967296) (ac : Option Addr) (C : List Int) (capc : Nat) (hnc : C.length ≤ 4294967296) (r : Int) (hr : -9223372036854775808 ≤ r ∧ r ≤ 9223372036854775807) (w : World) (hS : Ints w ao S) (hC : Ints w ac C) :
    Calls Try.prog 10 #[.agg #[.slice ao S.length cap], .slice ac C.length capc, .int .i64 r] w fun e w' => e = .returned (.tuple #[.bool (vPer S C r), .int .i64 (eCov S C r)]) ∧ Below w.heap.size w w' := by
  have B0 : Below w.heap.size w (w.alloc (.cells #[.slice ao S.length cap] 26)) := by go_grown
  by_cases hq : eCov S C r = 0
  · obtain ⟨hz, r1, r2⟩ := eCov_zero hq
    have hqn : (eCov S C r != 0) = false := by simp [hq]
    obtain ⟨hSp, hc1, hc2⟩ := eCode_zero hz
    have hN := nW_bd hSp
    have hlen := code_len hSp hc1 hc2
    have HC1 : ∀ i, i < C.length → 0 ≤ gi C i ∧ gi C i ≤ 9223372036854775807 := fun i h => by have := hc1 i h; omega
    have HV : Hid (vPer S C r = perB S C r) := Lib.hid (by unfold vPer; rw [if_pos hq])
    have HQ0 := Lib.hid hq
    have hIs := Lib.hid fun W h1 h2 => l06Is_any ao S cap hSp ac C capc (by omega) HC1 r W h1 h2
    clear hq hz hN hc1 hc2 hSp HC1
    go_enter Try.func10, Try.ntmps10
    go_wp2_with fail
    refine (l02Code_any ao S cap hn ac C capc hnc r _ (hS.below B0) (hC.below B0)).mono ?_
    rintro e w1 ⟨rfl, hb⟩
    have c1 := kept_cell hb (cell_new w (.slice ao S.length cap) 26) (lt_alloc _ _)
    have B1 : Below w.heap.size w w1 := B0.trans (hb.mono B0.size)
    clear hb B0
    go_wp2_with fail
    refine (hIs.out _ (hS.below B1) (hC.below B1)).mono ?_
    rintro e w2 ⟨rfl, hb⟩
    go_wp2_with fail
    go_ret2
    exact ⟨by rw [HV.out, HQ0.out]; try rfl, B1.trans (hb.mono B1.size)⟩
  · have hqn : (eCov S C r != 0) = true := by simpa using hq
    have HV : Hid (vPer S C r = false) := Lib.hid (by unfold vPer; rw [if_neg hq])
    clear hq
    go_enter Try.func10, Try.ntmps10
    go_wp2_with fail
    refine (l02Code_any ao S cap hn ac C capc hnc r _ (hS.below B0) (hC.below B0)).mono ?_
    rintro e w1 ⟨rfl, hb⟩
    go_wp2_with fail
    go_ret2
    exact ⟨by rw [HV.out]; try rfl, B0.trans (hb.mono B0.size)⟩

set_option maxHeartbeats 1000000 in
theorem spec_PerfectRadius (ao : Option Addr) (S : List Int) (cap : Nat) (hn : S.length ≤ 4294967296) (ac : Option Addr) (C : List Int) (capc : Nat) (hnc : C.length ≤ 4294967296) (w : World) (hS : Ints w ao S) (hC : Ints w ac C) :
    Calls Try.prog 12 #[.agg #[.slice ao S.length cap], .slice ac C.length capc] w fun e w' => e = .returned (.tuple #[.int .i64 (vPr S C), .int .i64 (ePr S C)]) ∧ Below w.heap.size w w' := by
  have B0 : Below w.heap.size w (w.alloc (.cells #[.slice ao S.length cap] 26)) := by go_grown
  have l0 := lt_alloc w (.cells #[.slice ao S.length cap] 26)
  have c0 := cell_new w (.slice ao S.length cap) 26
  by_cases hz : eCode S C = 0
  · have hqn : (eCode S C != 0) = false := by simp [hz]
    obtain ⟨hSp, hc1, hc2⟩ := eCode_zero hz
    have hN := nW_bd hSp
    have hlen := code_len hSp hc1 hc2
    have HC1 : ∀ i, i < C.length → 0 ≤ gi C i ∧ gi C i ≤ 9223372036854775807 := fun i h => by have := hc1 i h; omega
    have HZ := Lib.hid hz
    have hs8 := hSp.hi
    have hIs := Lib.hid fun (k : Nat) W h1 h2 => l06Is_any ao S cap hSp ac C capc (by omega) HC1 (k : Int) W h1 h2
    clear hz hN hc1 hc2 hSp HC1
    go_enter Try.func12, Try.ntmps12
    go_wp2_with fail
    refine (l01Given_any ao S cap hn ac C capc hnc _ (hS.below B0) (hC.below B0)).mono ?_
    rintro e w1 ⟨rfl, hb⟩
    have c1 := kept_cell hb c0 l0
    have l1 := lt_of_below hb l0
    have B1 : Below w.heap.size w w1 := B0.trans (hb.mono B0.size)
    clear hb B0 c0 l0
    go_wp2_with fail
    go_loopw [7] (fun i wr => ∃ k : Nat, k ≤ S.length + 1 ∧ i = .int .i64 k ∧ Hid (∀ j : Nat, j < k → perB S C (j : Int) = false) ∧ wr.cell? ⟨w.heap.size, 0, none⟩ = some (.slice ao S.length cap) ∧ w.heap.size < wr.heap.size ∧ Below w.heap.size w wr) (fun i _ => S.length + 1 - (intOf i).toNat)
    case atStart => exact ⟨0, Nat.zero_le _, rfl, Lib.hid fun u h => by omega, c1, l1, B1⟩
    case round =>
      clear c1 l1 B1
      obtain ⟨k, hk, rfl, HP, c, l, B⟩ := hrel
      have hcall := hIs.out k wr.drew (hS.below B.drew) (hC.below B.drew)
      have hcall2 := hIs.out k wr (hS.below B) (hC.below B)
      by_cases hlt : k ≤ S.length
      · have hlI : (k : Int) ≤ (S.length : Int) := by omega
        have hs := B.size
        cases hp : perB S C (k : Int) with
        | true =>
          rw [hp] at hcall hcall2
          have HI : Hid (prI S C (S.length + 1) = k) := Lib.hid (fstI_at (p := fun r => perB S C (r : Int)) (by omega) hp HP.out)
          have HE : Hid (ePr S C = 0) := Lib.hid (by unfold ePr; rw [if_pos HZ.out, if_pos (by rw [HI.out]; omega)])
          have HV : Hid (vPr S C = k) := Lib.hid (by unfold vPr; rw [if_pos HE.out, HI.out])
          clear hp
          go_wp2_with fail
          refine hcall2.mono ?_
          rintro e w2 ⟨rfl, hb⟩
          go_wp2_with fail
          go_ret2
          exact ⟨by rw [HE.out, HV.out]; try rfl, B.trans (hb.mono hs)⟩
        | false =>
          rw [hp] at hcall hcall2
          have HPk := Lib.hid hp
          clear hp
          go_wp2_with fail
          refine hcall2.mono ?_
          rintro e w2 ⟨rfl, hb⟩
          have c2 := kept_cell hb c l
          have l2 := lt_of_below hb l
          have B2 := B.trans (hb.mono hs)
          clear hb
          go_wp2_with fail
          go_roundw
          case rel =>
            refine ⟨k + 1, by omega, by go_num, Lib.hid fun j hj => ?_, c2, l2, B2⟩
            by_cases e : j = k
            · subst e; exact HPk.out
            · exact HP.out j (by omega)
          case measure => simp [intOf]; omega
      · have ek : Hid (k = S.length + 1) := Lib.hid (by omega)
        have HI : Hid (prI S C (S.length + 1) = S.length + 1) := Lib.hid (fstI_none (p := fun r => perB S C (r : Int)) (by rw [← ek.out]; exact HP.out))
        have HE : Hid (ePr S C = 4) := Lib.hid (by unfold ePr; rw [if_pos HZ.out, if_neg (by rw [HI.out]; omega)])
        have HV : Hid (vPr S C = 0) := Lib.hid (by unfold vPr; rw [if_neg (by rw [HE.out]; decide)])
        have hlI : ¬ (k : Int) ≤ (S.length : Int) := by omega
        go_wp2_with fail
        go_ret2
        exact ⟨by rw [HE.out, HV.out]; try rfl, B⟩
  · have hqn : (eCode S C != 0) = true := by simpa using hz
    have HE : Hid (ePr S C = eCode S C) := Lib.hid (by unfold ePr; rw [if_neg hz])
    have HV : Hid (vPr S C = 0) := Lib.hid (by unfold vPr; rw [HE.out, if_neg hz])
    clear hz
    go_enter Try.func12, Try.ntmps12
    go_wp2_with fail
    refine (l01Given_any ao S cap hn ac C capc hnc _ (hS.below B0) (hC.below B0)).mono ?_
    rintro e w1 ⟨rfl, hb⟩
    go_wp2_with fail
    go_ret2
    exact ⟨by rw [HV.out, HE.out]; try rfl, B0.trans (hb.mono B0.size)⟩

end Go.Proofs.Ytcnnijeokefboab
