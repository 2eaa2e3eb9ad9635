/-
  The contracts of the models of UncoveredWords and CoversSpace. By an AI agent.
-/
import Derived.Test.YtgaelpcghljihaaTimes
import Derived.Test.YtgaelpcghljihaaErr2
import Derived.Test.YtgaelpcghljihaaMath
import Derived.Test.YtgaelpcghljihaaAppend
import Derived.Deep.RegionHeld3
namespace Go.Proofs.Ytgaelpcghljihaa
open Go.RowKit Cv
set_option linter.unusedVariables false
set_option linter.unusedSimpArgs false
set_option maxRecDepth 100000

set_option maxHeartbeats 4000000 in
theorem l02Uncovered_any (ao : Option Addr) (S : List Int) (cap : Nat) (hSp : Sp S) (ac : Option Addr) (C : List Int) (capc : Nat) (hlen : C.length ≤ 1048576) (hC0 : ∀ i, i < C.length → 0 ≤ gi C i ∧ gi C i ≤ 9223372036854775807) (r : Int) (N : Nat) (hN : Hid (nW S = (N : Int))) (w : World) (hS : Ints w ao S) (hC : Ints w ac C) :
    Calls Try.prog 88 #[.agg #[.slice ao S.length cap], .slice ac C.length capc, .int .i64 r] w fun e w' => ∃ v, e = .returned v ∧ OwnInts w' w.heap.size v (selL (uncP S C r) N) ∧ Below w.heap.size w w' := by
  have HSp := Lib.hid hSp
  have HC0 := Lib.hid hC0
  have N2 : N ≤ 1024 := by have := (nW_bd hSp).2; have := hN.out; omega
  have HNN : Hid ((nW S).toNat = N) := Lib.hid (by have := hN.out; omega)
  clear hSp hC0
  have B0 : Below w.heap.size w (w.alloc (.cells #[.slice ao S.length cap] 24)) := by go_grown
  go_enter Try.func88, Try.ntmps88
  go_wp2_with fail
  refine (l02Times_any ao S cap HSp.out ac C capc hlen HC0.out r N hN _ (hS.below B0) (hC.below B0)).mono ?_
  rintro e w1 ⟨q, rfl, oq, hb1⟩
  have B1 := B0.trans (hb1.mono B0.size)
  have hs1 := B1.size
  have hq1 := oq.base_le
  simp only [World.size_alloc] at hq1
  replace oq := (oq.alloc (.cells #[] 2)).rebase (base' := w.heap.size) (by simp)
  have oo := own_empty w1 (q + 1) (by omega) rfl
  have B2 := B1.alloc hs1 (.cells #[] 2)
  have hg1 : q < w1.heap.size := hq1.2
  clear hb1 B1 B0 hq1
  have HT := Lib.hid (timesL_len S C r)
  have g0 : w.heap.size ≤ q := oq.base_le.1
  go_wp2_with fail
  go_loopw [8, 17] (fun v i wr => ∃ k : Nat, k ≤ N ∧ i = .int .i64 k ∧ OwnInts wr (q + 1) v (selL (uncP S C r) k) ∧ OwnInts wr w.heap.size (.slice (some ⟨q, 0, none⟩) N N) (timesL S C r) ∧ q < wr.heap.size ∧ Below w.heap.size w wr) (fun _ i _ => N - (intOf i).toNat)
  case atStart => exact ⟨0, Nat.zero_le _, rfl, oo, oq, by simp; omega, B2⟩
  case round =>
    clear oo oq B2 hs1 hg1
    obtain ⟨k, hk, rfl, oo, oq, hg1, B⟩ := hrel
    by_cases hlt : k < N
    · have hck := oq.cell (k := k) (by rw [HT.out, HNN.out]; exact hlt)
      rw [gi_timesA S C r k (by rw [HNN.out]; exact hlt)] at hck
      have hpl := selL_len (uncP S C r) k
      obtain ⟨t, ht⟩ : ∃ t, t = tAt S C r k := ⟨_, rfl⟩
      rw [← ht] at hck
      have hs := B.size
      by_cases h0 : t = 0
      · have hd : (t == 0) = true := by simpa using h0
        have H2 : Hid (selL (uncP S C r) (k + 1) = selL (uncP S C r) k ++ [(k : Int)]) := Lib.hid (by rw [selL_succ, if_pos (by unfold uncP; rw [← ht]; exact hd)])
        have E0 : IntKind.i64.wrap (k : Int) = (k : Int) := IntWalk.i64_in _ ⟨by omega, by omega⟩
        clear ht h0
        go_wp2_with (at_builtin; refine wpList_append_int rfl _ _ rfl (q + 1) _ _ rfl (oo.alloc _) wr.heap.size _ rfl (cell_new _ _ _) (by omega) (by rw [World.size_alloc]; omega) ?_; intro v' w4 hown' hgrow)
        have hgb := grown_below (B.alloc B.size _) (by rw [World.size_alloc]; omega) hgrow (oo.alloc _) (by omega)
        have oq4 := (oq.alloc _).kept hgrow (.inr (fun e => by have := World.ownsRow.lt oo _ e.symm; simp at this; omega))
        have hg4 : q < w4.heap.size := by have := hgrow.size; simp at this; omega
        clear oo oq hgrow
        go_wp2_with fail
        go_roundw
        case rel => exact ⟨k + 1, by omega, by go_num, by rw [H2.out]; exact hown', oq4, hg4, hgb⟩
        case measure => simp [intOf]; omega
      · have hd : (t == 0) = false := by simpa using h0
        have H2 : Hid (selL (uncP S C r) (k + 1) = selL (uncP S C r) k) := Lib.hid (by rw [selL_succ, if_neg (by unfold uncP; rw [← ht, hd]; simp), List.append_nil])
        clear ht h0
        go_wp2_with fail
        go_roundw
        case rel => exact ⟨k + 1, by omega, by go_num, by rw [H2.out]; exact oo, oq, hg1, B⟩
        case measure => simp [intOf]; omega
    · have ek : Hid (k = N) := Lib.hid (by omega)
      go_wp2_with fail
      go_ret
      exact ⟨_, rfl, by rw [← ek.out]; exact oo.rebase (by omega), B⟩

set_option maxHeartbeats 1000000 in
theorem spec_UncoveredWords (ao : Option Addr) (S : List Int) (cap : Nat) (hn : S.length ≤ 4294967296) (ac : Option Addr) (C : List Int) (capc : Nat) (hnc : C.length ≤ 4294967296) (r : Int) (hr : -9223372036854775808 ≤ r ∧ r ≤ 9223372036854775807) (w : World) (hS : Ints w ao S) (hC : Ints w ac C) :
    Calls Try.prog 41 #[.agg #[.slice ao S.length cap], .slice ac C.length capc, .int .i64 r] w fun e w' => ∃ v, e = .returned (.tuple #[v, .int .i64 (eCov S C r)]) ∧ OwnInts w' w.heap.size v (vUnc S C r) ∧ Below w.heap.size w w' := by
  have B0 : Below w.heap.size w (w.alloc (.cells #[.slice ao S.length cap] 24)) := by go_grown
  have c0 := cell_new w (.slice ao S.length cap) 24
  have l0 := lt_alloc w (.cells #[.slice ao S.length cap] 24)
  by_cases hq : eCov S C r = 0
  · obtain ⟨hz, r1, r2⟩ := eCov_zero hq
    have hqn : (eCov S C r != 0) = false := by simp [hq]
    obtain ⟨hSp, hc1, hc2⟩ := eCode_zero hz
    obtain ⟨N1, N2⟩ := nW_bd hSp
    have hlen := code_len hSp hc1 hc2
    have HSp := Lib.hid hSp
    have HC1 : Hid (∀ i, i < C.length → 0 ≤ gi C i ∧ gi C i ≤ 9223372036854775807) := Lib.hid fun i h => by have := hc1 i h; omega
    obtain ⟨N, hN⟩ : ∃ N : Nat, nW S = (N : Int) := ⟨(nW S).toNat, by omega⟩
    have HN := Lib.hid hN
    have HQ0 := Lib.hid hq
    have HV : Hid (vUnc S C r = selL (uncP S C r) N) := Lib.hid (by unfold vUnc; rw [if_pos hq, hN]; rfl)
    clear hq hz hN hc1 hc2 hSp
    go_enter Try.func41, Try.ntmps41
    go_wp2_with fail
    refine (l02Code_any ao S cap hn ac C capc hnc r _ (hS.below B0) (hC.below B0)).mono ?_
    rintro e w1 ⟨rfl, hb⟩
    replace c0 := kept_cell hb c0 l0
    replace l0 := lt_of_below hb l0
    have B1 : Below w.heap.size w w1 := B0.trans (hb.mono B0.size)
    have hs1 := B1.size
    clear hb B0
    go_wp2_with fail
    refine (l02Uncovered_any ao S cap HSp.out ac C capc (by omega) HC1.out r N HN _ (hS.below B1) (hC.below B1)).mono ?_
    rintro e w2 ⟨v, rfl, own, hb⟩
    go_wp2_with fail
    go_ret2
    exact ⟨_, by rw [HQ0.out]; rfl, by rw [HV.out]; exact own.rebase hs1, B1.trans (hb.mono hs1)⟩
  · have hqn : (eCov S C r != 0) = true := by simpa using hq
    have HV : Hid (vUnc S C r = []) := Lib.hid (by unfold vUnc; rw [if_neg hq])
    clear hq
    go_enter Try.func41, Try.ntmps41
    go_wp2_with fail
    refine (l02Code_any ao S cap hn ac C capc hnc r _ (hS.below B0) (hC.below B0)).mono ?_
    rintro e w1 ⟨rfl, hb⟩
    go_wp2_with fail
    go_ret2
    exact ⟨_, rfl, by rw [HV.out]; exact own_nil _ _, B0.trans (hb.mono B0.size)⟩

end Go.Proofs.Ytgaelpcghljihaa
