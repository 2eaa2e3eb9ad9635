/-
  The contract of the model of CodesInCommon. By an AI agent.
-/
import Derived.Test.YtpboeoidbimmcaaTog2
namespace Go.Proofs.Ytpboeoidbimmcaa
open Go.RowKit Cv
set_option linter.unusedVariables false
set_option linter.unusedSimpArgs false
set_option maxRecDepth 100000

theorem l01Has_any (at' : Option Addr) (T : List Int) (cap : Nat) (x : Int) (hl : T.length ≤ 4294967296) (w : World) (hT : Ints w at' T) :
    Calls Try.prog 89 #[.slice at' T.length cap, .int .i64 x] w fun e w' => e = .returned (.bool (decide (x ∈ T))) ∧ w = w' := by
  go_enter Try.func89, Try.ntmps89
  go_wp2_with fail
  go_loopw [5] (fun i wr => ∃ k : Nat, k ≤ T.length ∧ i = .int .i64 k ∧ Hid (∀ j, j < k → gi T j ≠ x) ∧ wr = w) (fun i _ => T.length - (intOf i).toNat)
  case atStart => exact ⟨0, Nat.zero_le _, rfl, Lib.hid fun j hj => by omega, rfl⟩
  case round =>
    obtain ⟨k, hk, rfl, HA, rfl⟩ := hrel
    by_cases hlt : k < T.length
    · obtain ⟨b, o, rfl, hbl, hc⟩ := hT.at hlt
      have hck := hc k hlt
      clear hc
      by_cases he : gi T k = x
      · have hq : (gi T k == x) = true := by simpa using he
        have HX : Hid (decide (x ∈ T) = true) := Lib.hid (by rw [decide_eq_true_eq, ← he]; exact gi_mem hlt)
        clear he
        go_wp2_with fail
        go_ret
        exact ⟨ret_bool HX.out.symm, rfl⟩
      · have hq : (gi T k == x) = false := by simpa using he
        have HX := Lib.hid he
        clear he
        go_wp2_with fail
        go_roundw
        case rel =>
          refine ⟨k + 1, by omega, by go_num, Lib.hid fun j hj => ?_, by first | rfl | trivial⟩
          by_cases e : j = k
          · subst e; exact HX.out
          · exact HA.out j (by omega)
        case measure => simp [intOf]; omega
    · have ek : Hid (k = T.length) := Lib.hid (by omega)
      have HX : Hid (decide (x ∈ T) = false) := Lib.hid (by
        rw [decide_eq_false_iff_not]; intro hm
        obtain ⟨j, hj, e⟩ := mem_gi hm
        exact HA.out j (by rw [ek.out]; exact hj) e)
      go_wp2_with fail
      go_ret
      exact ⟨ret_bool HX.out.symm, rfl⟩

set_option maxHeartbeats 1000000 in
theorem spec_CodesInCommon (ao : Option Addr) (S : List Int) (cap : Nat) (hn : S.length ≤ 4294967296) (ac : Addr) (C : List Int) (capc : Nat) (hnc : C.length ≤ 4294967296) (ad : Option Addr) (D : List Int) (capd : Nat) (hnd : D.length ≤ 4294967296) (w : World) (hS : Ints w ao S) (hC : Ints w (some ac) C) (hD : Ints w ad D) :
    Calls Try.prog 38 #[.agg #[.slice ao S.length cap], .slice (some ac) C.length capc, .slice ad D.length capd] w fun e w' => ∃ v, e = .returned (.tuple #[v, .int .i64 (eTwo S C D)]) ∧ OwnInts w' w.heap.size v (vCom S C D) ∧ Below w.heap.size w w' := by
  have B0 : Below w.heap.size w (w.alloc (.cells #[.slice ao S.length cap] 26)) := by go_grown
  by_cases hz : eTwo S C D = 0
  · have hzn : (eTwo S C D != 0) = false := by simp [hz]
    have HZ := Lib.hid hz
    obtain ⟨z1, z2⟩ := eTwo_zero hz
    have lc := code_len0 z1
    have HV : Hid (vCom S C D = comTo C D C.length) := Lib.hid (by unfold vCom; rw [if_pos hz])
    clear hz z1 z2
    go_enter Try.func38, Try.ntmps38
    go_wp2_with fail
    refine (l03Two_any ao S cap hn (some ac) C capc hnc ad D capd hnd _ (hS.below B0) (hC.below B0) (hD.below B0)).mono ?_
    rintro e w1 ⟨rfl, hb1⟩
    have B := B0.trans (hb1.mono B0.size)
    have hs1 := B.size
    clear hb1 B0
    go_wp2_with fail
    go_loopw [9, 21] (fun v i wr => ∃ k : Nat, k ≤ C.length ∧ i = .int .i64 k ∧ OwnInts wr w.heap.size v (comTo C D k) ∧ Below w.heap.size w wr) (fun _ i _ => C.length - (intOf i).toNat)
    case atStart => exact ⟨0, Nat.zero_le _, rfl, own_empty w1 w.heap.size (by omega) rfl, B.alloc hs1 _⟩
    case round =>
      clear B
      obtain ⟨k, hk, rfl, own, B⟩ := hrel
      have hpl := comTo_len C D k
      by_cases hlt : k < C.length
      · obtain ⟨b, o, he, hbl, hc⟩ := hC.at hlt
        obtain rfl : ac = ⟨b, o, none⟩ := by simpa using he
        have hck := kept_cell B (hc k hlt) hbl
        have hs := B.size
        have hhas := l01Has_any ad D capd (gi C k) hnd wr (hD.below B)
        clear hc he
        by_cases hm : gi C k ∈ D
        · rw [show decide (gi C k ∈ D) = true by simpa using hm] at hhas
          have H2 : Hid (comTo C D (k + 1) = comTo C D k ++ [gi C k]) := Lib.hid (by rw [comTo, if_pos hm])
          clear hm
          go_wp2_with fail
          refine hhas.mono ?_
          rintro e w3 ⟨rfl, rfl⟩
          go_wp2_with (at_builtin; refine wpList_append_int rfl _ _ rfl w.heap.size _ _ rfl (own.alloc _) wr.heap.size _ rfl (cell_new _ _ _) (by omega) (by rw [World.size_alloc]; omega) ?_; intro v' w4 hown' hgrow)
          have hgb := grown_below (B.alloc B.size _) (by rw [World.size_alloc]; omega) hgrow (own.alloc _) (Nat.le_refl _)
          clear own hgrow
          go_wp2_with fail
          go_roundw
          case rel => exact ⟨k + 1, by omega, by go_num, by rw [H2.out]; exact hown', hgb⟩
          case measure => simp [intOf]; omega
        · rw [show decide (gi C k ∈ D) = false by simpa using hm] at hhas
          have H2 : Hid (comTo C D (k + 1) = comTo C D k) := Lib.hid (by rw [comTo, if_neg hm, List.append_nil])
          clear hm
          go_wp2_with fail
          refine hhas.mono ?_
          rintro e w3 ⟨rfl, rfl⟩
          go_wp2_with fail
          go_roundw
          case rel => exact ⟨k + 1, by omega, by go_num, by rw [H2.out]; exact own, B⟩
          case measure => simp [intOf]; omega
      · have ek : Hid (k = C.length) := Lib.hid (by omega)
        go_wp2_with fail
        go_ret2
        exact ⟨_, by rw [HZ.out]; rfl, by rw [HV.out, ← ek.out]; exact own, B⟩
  · have hzn : (eTwo S C D != 0) = true := by simpa using hz
    have HV : Hid (vCom S C D = []) := Lib.hid (by unfold vCom; rw [if_neg hz])
    clear hz
    go_enter Try.func38, Try.ntmps38
    go_wp2_with fail
    refine (l03Two_any ao S cap hn (some ac) C capc hnc ad D capd hnd _ (hS.below B0) (hC.below B0) (hD.below B0)).mono ?_
    rintro e w1 ⟨rfl, hb1⟩
    have B := B0.trans (hb1.mono B0.size)
    go_wp2_with fail
    go_ret2
    exact ⟨_, rfl, by rw [HV.out]; exact own_nil _ _, B⟩

end Go.Proofs.Ytpboeoidbimmcaa
