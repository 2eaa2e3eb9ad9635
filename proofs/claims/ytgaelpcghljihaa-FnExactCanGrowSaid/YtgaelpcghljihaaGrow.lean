/-
  The contract of the model of CanGrow. By an AI agent.
-/
import Derived.Test.YtgaelpcghljihaaApart
import Derived.Test.YtgaelpcghljihaaCovI
import Derived.Test.YtgaelpcghljihaaTog3
namespace Go.Proofs.Ytgaelpcghljihaa
open Go.RowKit Cv
set_option linter.unusedVariables false
set_option linter.unusedSimpArgs false
set_option maxRecDepth 100000

set_option maxHeartbeats 2000000 in
theorem spec_CanGrow (ao : Option Addr) (S : List Int) (cap : Nat) (hn : S.length ≤ 4294967296) (ac : Option Addr) (C : List Int) (capc : Nat) (hnc : C.length ≤ 4294967296) (d : Int) (hd : -9223372036854775808 ≤ d ∧ d ≤ 9223372036854775807) (w : World) (hS : Ints w ao S) (hC : Ints w ac C) :
    Calls Try.prog 51 #[.agg #[.slice ao S.length cap], .slice ac C.length capc, .int .i64 d] w fun e w' => e = .returned (.tuple #[.bool (vGrow S C d), .int .i64 (eAp S C d)]) ∧ Below w.heap.size w w' := by
  have B0 : Below w.heap.size w (w.alloc (.cells #[.slice ao S.length cap] 24)) := by go_grown
  by_cases he : eAp S C d = 0
  · obtain ⟨hz, d1, d9⟩ := eAp_zero he
    obtain ⟨hSp, hc1, hc2⟩ := eCode_zero hz
    have hlen := code_len hSp hc1 hc2
    obtain ⟨N1, N2⟩ := nW_bd hSp
    obtain ⟨N, hN⟩ : ∃ N : Nat, nW S = (N : Int) := ⟨(nW S).toNat, by omega⟩
    have HN := Lib.hid hN
    have hN2 : N ≤ 1024 := by omega
    have HSp := Lib.hid hSp
    have HC1 : Hid (∀ i, i < C.length → 0 ≤ gi C i ∧ gi C i ≤ 9223372036854775807) := Lib.hid fun i h => by have := hc1 i h; omega
    have hen : (eAp S C d != 0) = false := by simp [he]
    have HE := Lib.hid he
    have HV : Hid (vGrow S C d = growTo S C d N) := Lib.hid (by unfold vGrow; rw [if_pos he, hN]; rfl)
    clear he hz hSp hc1 hc2 N1 N2 hN
    go_enter Try.func51, Try.ntmps51
    go_wp2_with fail
    refine (l04Given_any ao S cap hn ac C capc hnc d _ (hS.below B0) (hC.below B0)).mono ?_
    rintro e w1 ⟨rfl, hb⟩
    have c1 := kept_cell hb (cell_new w (.slice ao S.length cap) 24) (lt_alloc _ _)
    have l1 := lt_of_below hb (lt_alloc w (.cells #[.slice ao S.length cap] 24))
    have B1 : Below w.heap.size w w1 := B0.trans (hb.mono B0.size)
    clear hb B0
    go_wp2_with fail
    go_loopw [9] (fun i wr => ∃ k : Nat, k ≤ N ∧ i = .int .i64 k ∧ Hid (growTo S C d k = false) ∧ wr.cell? ⟨w.heap.size, 0, none⟩ = some (.slice ao S.length cap) ∧ w.heap.size < wr.heap.size ∧ Below w.heap.size w wr) (fun i _ => N - (intOf i).toNat)
    case atStart => exact ⟨0, Nat.zero_le _, rfl, Lib.hid rfl, c1, l1, B1⟩
    case round =>
      clear c1 l1 B1
      obtain ⟨k, hk, rfl, HF, c, l, B⟩ := hrel
      have hcall := l01N_sp ao S cap wr HSp.out (hS.below B)
      rw [HN.out] at hcall
      by_cases hlt : k < N
      · have hltI : (k : Int) < (N : Int) := by omega
        go_wp2_with fail
        refine hcall.mono ?_
        rintro e w2 ⟨rfl, hb2⟩
        have c2 := kept_cell hb2 c l
        have l2 := lt_of_below hb2 l
        have B2 := B.trans (hb2.mono B.size)
        clear hb2 c l B hcall
        have hhas := l01Has_any ac C capc (k : Int) hnc w2 (hC.below B2)
        cases hin : inL C k with
        | true =>
          rw [show decide ((k : Int) ∈ C) = true from hin] at hhas
          have HN1 : Hid (growTo S C d (k + 1) = false) := Lib.hid (by rw [growTo, HF.out, hin]; rfl)
          go_wp2_with fail
          refine hhas.mono ?_
          rintro e w3 ⟨rfl, rfl⟩
          go_wp2_with fail
          go_roundw
          case rel => exact ⟨k + 1, by omega, by go_num, HN1, c2, l2, B2⟩
          case measure => simp [intOf]; omega
        | false =>
          rw [show decide ((k : Int) ∈ C) = false from hin] at hhas
          have hfar := l04Far_n ao S cap HSp.out ac C C.length capc (Nat.le_refl _) (by omega) HC1.out (k : Int) ⟨by omega, by omega⟩ d w2 (hS.below B2) (hC.below B2)
          cases hf : farTo S C k d C.length with
          | true =>
            rw [hf] at hfar
            have HN1 : Hid (growTo S C d N = true) := Lib.hid ((growTo_iff S C d N).2 ⟨k, hlt, hin, hf⟩)
            go_wp2_with fail
            refine hhas.mono ?_
            rintro e w3 ⟨rfl, rfl⟩
            go_wp2_with fail
            refine hfar.mono ?_
            rintro e w4 ⟨rfl, hb4⟩
            go_wp2_with fail
            go_ret2
            exact ⟨by rw [HE.out, HV.out, HN1.out]; try rfl, B2.trans (hb4.mono B2.size)⟩
          | false =>
            rw [hf] at hfar
            have HN1 : Hid (growTo S C d (k + 1) = false) := Lib.hid (by rw [growTo, HF.out, hin, hf]; rfl)
            go_wp2_with fail
            refine hhas.mono ?_
            rintro e w3 ⟨rfl, rfl⟩
            go_wp2_with fail
            refine hfar.mono ?_
            rintro e w4 ⟨rfl, hb4⟩
            go_wp2_with fail
            go_roundw
            case rel => exact ⟨k + 1, by omega, by go_num, HN1, kept_cell hb4 c2 l2, lt_of_below hb4 l2, B2.trans (hb4.mono B2.size)⟩
            case measure => simp [intOf]; omega
      · have ek : Hid (k = N) := Lib.hid (by omega)
        have hltI : ¬ (k : Int) < (N : Int) := by omega
        go_wp2_with fail
        refine hcall.mono ?_
        rintro e w2 ⟨rfl, hb2⟩
        go_wp2_with fail
        go_ret2
        exact ⟨by rw [HE.out, HV.out, ← ek.out, HF.out]; try rfl, B.trans (hb2.mono B.size)⟩
  · have hen : (eAp S C d != 0) = true := by simpa using he
    have HV : Hid (vGrow S C d = false) := Lib.hid (by unfold vGrow; rw [if_neg he])
    clear he
    go_enter Try.func51, Try.ntmps51
    go_wp2_with fail
    refine (l04Given_any ao S cap hn ac C capc hnc d _ (hS.below B0) (hC.below B0)).mono ?_
    rintro e w1 ⟨rfl, hb⟩
    go_wp2_with fail
    go_ret2
    exact ⟨by rw [HV.out]; try rfl, B0.trans (hb.mono B0.size)⟩

end Go.Proofs.Ytgaelpcghljihaa
