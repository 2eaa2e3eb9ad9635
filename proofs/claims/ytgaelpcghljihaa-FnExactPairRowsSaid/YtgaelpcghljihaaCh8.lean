/-
  The contracts of CountTickets and CountDraws. By an AI agent.
-/
import Derived.Test.YtgaelpcghljihaaSet8
import Derived.Test.YtgaelpcghljihaaMark
namespace Go.Proofs.Ytgaelpcghljihaa
open Go.RowKit Cv
set_option linter.unusedVariables false
set_option linter.unusedSimpArgs false
set_option maxRecDepth 100000

theorem ch_out {n k : Nat} (h : n < k) : ch n k = 0 := by unfold ch; rw [if_neg (by omega)]
theorem ch_in {n k : Nat} (h : k ≤ n) : ch n k = chTo n k := by unfold ch; rw [if_pos h]

set_option maxHeartbeats 1000000 in
theorem l08Choose_any (n k : Nat) (hn : n < 14) (hk : k < 14) (w : World) :
    Calls Try.prog 134 #[.int .i64 (n : Int), .int .i64 (k : Int)] w fun e w' => e = .returned (.int .i64 (ch n k : Nat)) ∧ w' = w := by
  by_cases h1 : k ≤ n
  case neg =>
    have HC := Lib.hid (ch_out (n := n) (k := k) (by omega))
    have i1 : ¬ (k : Int) < 0 := by omega
    have i2 : (n : Int) < (k : Int) := by omega
    go_enter Try.func134, Try.ntmps134
    go_wp2_with fail
    go_ret
    exact ⟨ret_int (by rw [HC.out]; rfl), rfl⟩
  have HC := Lib.hid (ch_in h1)
  have i1 : ¬ (k : Int) < 0 := by omega
  have i2 : ¬ (n : Int) < (k : Int) := by omega
  go_enter Try.func134, Try.ntmps134
  go_wp2_with fail
  go_loopw [5, 6] (fun o i wr => ∃ t : Nat, t ≤ k ∧ o = .int .i64 (chTo n t : Nat) ∧ i = .int .i64 ((t : Int) + 1) ∧ wr = w) (fun _ i _ => k + 1 - (intOf i).toNat)
  case atStart => exact ⟨0, Nat.zero_le _, rfl, rfl, rfl⟩
  case round =>
    obtain ⟨t, ht, rfl, rfl, rfl⟩ := hrel
    by_cases hlt : t < k
    · obtain ⟨b1, b2⟩ := chTo_le n hn t (by omega)
      obtain ⟨b3, b4⟩ := chTo_le n hn (t + 1) (by omega)
      have i3 : (t : Int) + 1 ≤ (k : Int) := by omega
      have HD : Hid (wrap64 ((wrap64 ((chTo n t : Int) * ((n : Int) - ((t : Int) + 1) + 1))).tdiv ((t : Int) + 1)) = ((chTo n (t + 1) : Nat) : Int)) := Lib.hid (by
        have e : (chTo n t : Int) * ((n : Int) - ((t : Int) + 1) + 1) = ((chTo n t * (n - t) : Nat) : Int) := by
          rw [show (n : Int) - ((t : Int) + 1) + 1 = ((n - t : Nat) : Int) by omega]; push_cast; rfl
        have e2 : (((chTo n t * (n - t) : Nat) : Int)).tdiv ((t : Int) + 1) = ((chTo n (t + 1) : Nat) : Int) := by
          rw [Int.tdiv_eq_ediv_of_nonneg (by omega), chTo]; push_cast; rfl
        rw [e, IntWalk.wrap64_in ((chTo n t * (n - t) : Nat) : Int) ⟨by omega, by omega⟩, e2, IntWalk.wrap64_in _ ⟨by omega, by omega⟩])
      go_wp2_with fail
      go_roundw
      case rel => exact ⟨t + 1, by omega, by rw [HD.out], by go_num, by first | rfl | trivial⟩
      case measure => simp [intOf]; omega
    · have ek : Hid (t = k) := Lib.hid (by omega)
      have i3 : ¬ (t : Int) + 1 ≤ (k : Int) := by omega
      go_wp2_with fail
      go_ret
      exact ⟨ret_int (by rw [HC.out, ek.out]), rfl⟩

set_option maxHeartbeats 1000000 in
theorem setsOfNumbers_any (v : Int) (k : Nat) (hv : 1 ≤ v ∧ v ≤ 12) (w : World) :
    Calls Try.prog 136 #[.int .i64 v, .int .i64 (k : Int)] w fun e w' => ∃ x, e = .returned x ∧ OwnInts w' w.heap.size x (setsL v.toNat k) ∧ Below w.heap.size w w' := by
  obtain ⟨t1, t2⟩ := tw_bd hv
  have hN := tw_nat v
  obtain ⟨N, hNn⟩ : ∃ N, N = 2 ^ v.toNat := ⟨_, rfl⟩
  have HL := Lib.hid (show setsL v.toNat k = selL (isK k) N by unfold setsL; rw [hNn])
  rw [← hNn] at hN
  clear hNn
  have HN := Lib.hid hN
  obtain ⟨s1, s2⟩ := shl_tw hv
  obtain ⟨s3, s4, s5, s6, s7⟩ := shl_tw2 hv
  go_enter Try.func136, Try.ntmps136
  clear hN
  go_wp2_with fail
  clear s1 s2 s3 s4 s5 s6 s7
  go_loopw [5, 10] (fun x i wr => ∃ m : Nat, m ≤ N ∧ i = .int .i64 m ∧ OwnInts wr w.heap.size x (selL (isK k) m) ∧ Below w.heap.size w wr) (fun _ i _ => N - (intOf i).toNat)
  case atStart => exact ⟨0, Nat.zero_le _, rfl, own_empty w w.heap.size (Nat.le_refl _) rfl, (Below.refl _ w).alloc (Nat.le_refl _) _⟩
  case round =>
    obtain ⟨m, hm, rfl, own, B⟩ := hrel
    have hl := selL_len (isK k) m
    have hz := B.size
    by_cases hlt : m < N
    · have hlt' : (m : Int) < tw v := by have := HN.out; omega
      have hc := isSetOfNumbers_any (m : Int) v (k : Int) hv wr
      rw [setB_isK hlt'] at hc
      have hs := selL_succ (isK k) m
      cases hbt : isK k m with
      | true =>
        rw [hbt] at hc
        rw [hbt, if_pos rfl] at hs
        have HS := Lib.hid hs
        clear hs
        go_wp2_with fail
        refine hc.mono ?_
        rintro e w2 ⟨rfl, rfl⟩
        go_wp2_with (at_builtin; refine wpList_append_int rfl _ _ rfl w.heap.size _ _ rfl (own.alloc _) w2.heap.size _ rfl (cell_new _ _ _) (by omega) (by simp; omega) ?_; intro v' w4 hown' hgrow)
        have hgb := grown_below (B.alloc B.size _) (by simp; omega) hgrow (own.alloc _) (Nat.le_refl _)
        clear own hgrow
        go_wp2_with fail
        go_roundw
        case rel => exact ⟨m + 1, by omega, by go_num, by rw [HS.out]; exact hown', hgb⟩
        case measure => simp [intOf]; omega
      | false =>
        rw [hbt] at hc
        rw [hbt, if_neg (by decide), List.append_nil] at hs
        have HS := Lib.hid hs
        clear hs
        go_wp2_with fail
        refine hc.mono ?_
        rintro e w2 ⟨rfl, rfl⟩
        go_wp2_with fail
        go_roundw
        case rel => exact ⟨m + 1, by omega, by go_num, by rw [HS.out]; exact own, B⟩
        case measure => simp [intOf]; omega
    · have ek : Hid (m = N) := Lib.hid (by omega)
      have hlt' : ¬ (m : Int) < tw v := by have := HN.out; omega
      go_wp2_with fail
      go_ret
      exact ⟨_, rfl, by rw [HL.out, ← ek.out]; exact own, B⟩

theorem lot_nats {v p d h : Int} (g : lotB v p d h = true) : ∃ a b c : Nat, v = a ∧ p = b ∧ d = c ∧ 1 ≤ a ∧ a ≤ 12 ∧ 1 ≤ b ∧ b ≤ a ∧ 1 ≤ c ∧ c ≤ a := by
  have l := (lot_iff v p d h).1 g
  obtain ⟨g1, g2, g3, g4, g5, g6, g7, g8, g9⟩ := l
  exact ⟨v.toNat, p.toNat, d.toNat, by omega, by omega, by omega, by omega, by omega, by omega, by omega, by omega, by omega⟩
def vCt (v p d h : Int) : Int := if lotB v p d h = true then (ch v.toNat p.toNat : Nat) else 0
def vCd (v p d h : Int) : Int := if lotB v p d h = true then (ch v.toNat d.toNat : Nat) else 0

end Go.Proofs.Ytgaelpcghljihaa
