/-
  The contracts of RankOfTicket. By an AI agent.
-/
import Derived.Test.YtclahcnkkkgdhaaBs8
import Derived.Test.YtclahcnkkkgdhaaPr8
namespace Go.Proofs.Ytclahcnkkkgdhaa
open Go.RowKit Cv
set_option linter.unusedVariables false
set_option linter.unusedSimpArgs false
set_option maxRecDepth 100000

theorem bit_test {m : Nat} (hm : m < 4096) (k : Nat) : bits .and .i64 ((m : Int) / 2 ^ k) 1 = ((m / 2 ^ k % 2 : Nat) : Int) := by
  have hsh : ((m : Int) / 2 ^ k) = ((m / 2 ^ k : Nat) : Int) := by push_cast; rfl
  have hlo : m / 2 ^ k < 4096 := Nat.lt_of_le_of_lt (Nat.div_le_self _ _) hm
  rw [hsh]
  have := bits_andN (a := m / 2 ^ k) (b := 1) (by omega) (by omega)
  rw [Nat.and_one_is_mod] at this
  exact this
theorem cb_le (k n : Nat) : cb k n ≤ n := by
  induction n with
  | zero => exact Nat.le_refl _
  | succ n ih => rw [cb]; split <;> omega

set_option maxHeartbeats 2000000 in
theorem l08Rank_any (m : Nat) (hm : m < 4096) (w : World) :
    Calls Try.prog 46 #[.int .i64 (m : Int)] w fun e w' => e = .returned (.int .i64 (cb (pc m) m : Nat)) ∧ w' = w := by
  have HM : Hid (m % 2 ^ 12 = m) := Lib.hid (Nat.mod_eq_of_lt hm)
  go_enter Try.func46, Try.ntmps46
  go_wp2_with fail
  go_loopw [3, 4, 5] (fun o c i wr => ∃ k t u : Nat, k ≤ 12 ∧ o = .int .i64 (u : Int) ∧ c = .int .i64 (t : Int) ∧ i = .int .i64 (k : Int) ∧ Hid (t = pc (m % 2 ^ k) ∧ u = cb t (m % 2 ^ k)) ∧ wr = w) (fun _ _ i _ => 12 - (intOf i).toNat)
  case atStart => exact ⟨0, 0, 0, by omega, rfl, rfl, rfl, Lib.hid ⟨by rw [Nat.pow_zero, Nat.mod_one]; rfl, by rw [Nat.pow_zero, Nat.mod_one]; rfl⟩, rfl⟩
  case round =>
    obtain ⟨k, t, u, hk, rfl, rfl, rfl, HI, hw⟩ := hrel
    subst hw
    by_cases hlt : k < 12
    · have hb := bit_test hm k
      have i0 : (0 : Int) ≤ (k : Int) := by omega
      have i1 : (k : Int) < 12 := by omega
      have i2 : IntKind.u64.wrap (k : Int) = (k : Int) := by unfold IntKind.wrap; simp [IntKind.signed, IntKind.bits]; omega
      have i3 : min k 64 = k := by omega
      have HR := Lib.hid (rk_step (m := m) (i := k) hlt)
      have ht : t ≤ 12 := by rw [HI.out.1]; exact pc_le 12 (by omega) _ (Nat.lt_of_le_of_lt (Nat.mod_le _ _) hm)
      have hu : u ≤ 4096 := by have h1 := HI.out.2; have h2 := cb_le t (m % 2 ^ k); have h3 := Nat.mod_le m (2 ^ k); omega
      rcases Nat.mod_two_eq_zero_or_one (m / 2 ^ k) with e | e
      · have HE := Lib.hid e
        rw [e] at hb
        clear e
        go_wp2_with fail
        clear hb i2
        go_roundw
        case rel => exact ⟨k + 1, t, u, by omega, rfl, rfl, by go_num, Lib.hid (by rw [HR.out.1 HE.out]; exact HI.out), by first | rfl | trivial⟩
        case measure => simp [intOf]; omega
      · have HE := Lib.hid e
        rw [e] at hb
        have hc := ch_le (n := k) (k := t + 1) (by omega) (by omega)
        have hcall := l08Choose_any k (t + 1) (by omega) (by omega)
        obtain ⟨z, hz⟩ : ∃ z, z = ch k (t + 1) := ⟨_, rfl⟩
        rw [← hz] at hc hcall
        have hcast : (((t + 1 : Nat) : Int)) = (t : Int) + 1 := by omega
        rw [hcast] at hcall
        have HZ := Lib.hid hz
        clear e hz hcast
        go_wp2_with fail
        clear hb i2
        refine (hcall _).mono ?_
        rintro e w2 ⟨rfl, rfl⟩
        go_wp2_with fail
        go_roundw
        case rel =>
          refine ⟨k + 1, t + 1, u + z, by omega, by go_num, by go_num, by go_num, Lib.hid ?_, by first | rfl | trivial⟩
          obtain ⟨r1, r2⟩ := HR.out.2 HE.out
          obtain ⟨q1, q2⟩ := HI.out
          rw [r1, ← q1] at r2
          rw [r1, ← q1]
          refine ⟨rfl, ?_⟩
          rw [r2, ← q2, HZ.out]; omega
        case measure => simp [intOf]; omega
    · have HE : Hid (u = cb (pc m) m) := Lib.hid (by
        obtain ⟨q1, q2⟩ := HI.out
        rw [show k = 12 by omega, HM.out] at q1 q2
        rw [q2, q1])
      have i1 : ¬ (k : Int) < 12 := by omega
      go_wp2_with fail
      go_ret
      exact ⟨ret_int (by rw [HE.out]), rfl⟩

theorem eTk_tick (v p d h t : Int) (g : lotB v p d h = true) : eTk v p d h [t] [] = if setB v p t = true then 0 else 2 := by
  unfold eTk
  rw [if_pos g, tkB_one]
  cases setB v p t <;> simp
def vRk (v p d h t : Int) : Int := if eTk v p d h [t] [] = 0 then (cb p.toNat t.toNat : Nat) else 0

set_option maxHeartbeats 1000000 in
theorem impl_RankOfTicket (v p d h t : Int) (ht : -9223372036854775808 ≤ t ∧ t ≤ 9223372036854775807) (w : World) :
    Calls Try.prog 28 #[.agg #[.int .i64 v, .int .i64 p, .int .i64 d, .int .i64 h], .int .i64 t] w fun e w' => e = .returned (.tuple #[.int .i64 (vRk v p d h t), .int .i64 (eTk v p d h [t] [])]) ∧ Below w.heap.size w w' := by
  have B0 : Below w.heap.size w ((w.alloc (.cells #[.int .i64 v, .int .i64 p, .int .i64 d, .int .i64 h] 25)).alloc (.cells #[.int .i64 t] 2)) := by go_grown
  have I1 := ints_new1 (w.alloc (.cells #[.int .i64 v, .int .i64 p, .int .i64 d, .int .i64 h] 25)) t 2 (n := w.heap.size + 1) (by simp)
  have l0 := (lotAt_new w v p d h 25).below ((Below.refl _ _).alloc (Nat.le_refl _) (.cells #[.int .i64 t] 2))
  have hc := ticketsError_n v p d h _ [t] 1 1 rfl (by omega) none [] 0 0 rfl (by omega) _ I1 (.inl rfl)
  by_cases hE : eTk v p d h [t] [] = 0
  · have hV : vRk v p d h t = (cb p.toNat t.toNat : Nat) := by unfold vRk; rw [if_pos hE]
    obtain ⟨g, _, h3, _⟩ := eTk_zero hE
    rw [tkB_one] at h3
    obtain ⟨⟨h4, h5⟩, h6⟩ := (setB_iff v p t).1 h3
    obtain ⟨v, p, d, rfl, rfl, rfl, g1, g2, g3, g4, g5, g6⟩ := lot_nats g
    obtain ⟨m, rfl⟩ : ∃ m : Nat, t = m := ⟨t.toNat, by omega⟩
    rw [Int.toNat_natCast] at h6
    rw [tw_nat, Int.toNat_natCast] at h5
    have hm : m < 2 ^ v := by omega
    have hpm : pc m = p := by omega
    rw [Int.toNat_natCast, Int.toNat_natCast] at hV
    have hk : isK p m = true := by unfold isK; rw [hpm]; simp
    obtain ⟨e1, e2⟩ := gi_sel (isK p) hm hk
    rw [selK_len] at e1 e2
    have e3 : gi (setsL v p) (cb p m) = m := e1
    have e4 : cb p m < (setsL v p).length := e2
    have hlen : (setsL v p).length ≤ 4096 := Nat.le_trans (selL_len _ _) (pow_le12 g2)
    have HV := Lib.hid hV
    have HE := Lib.hid hE
    rw [hE] at hc
    obtain ⟨R, hR⟩ : ∃ R, R = cb p m := ⟨_, rfl⟩
    rw [← hR] at e3 e4 HV
    have H3 := Lib.hid e3
    clear hV hE g h3 h4 h5 h6 hm hpm hk e1 e2 hR e3
    go_enter Try.func28, Try.ntmps28
    go_wp2_with fail
    refine hc.mono ?_
    rintro e w1 ⟨rfl, hb1⟩
    have B1 := B0.trans (hb1.mono B0.size)
    obtain ⟨c0, c1, c2, c3, l1⟩ := l0.below hb1
    clear hc l0 hb1
    go_wp2_with fail
    refine (tickets_any v p d h g1 g2 _).mono ?_
    rintro e w2 ⟨x, rfl, own, hb2⟩
    have B2 := B1.trans (hb2.mono B1.size)
    obtain ⟨a, c, rfl⟩ := own.shape
    have hbs := binarySearch_any a (setsL v p) c hlen (asc_selL _ _) R e4 w2 (own_ints own)
    rw [H3.out] at hbs
    clear hb2 own I1
    go_wp2_with fail
    refine hbs.mono ?_
    rintro e w3 ⟨rfl, rfl⟩
    go_wp2_with fail
    go_ret2
    exact ⟨ret_ii HV.out.symm HE.out.symm, B2⟩
  · have hV : vRk v p d h t = 0 := by unfold vRk; rw [if_neg hE]
    have HV := Lib.hid hV
    clear hV I1
    obtain ⟨E, hEE⟩ : ∃ E, E = eTk v p d h [t] [] := ⟨_, rfl⟩
    rw [← hEE] at hc hE ⊢
    clear hEE
    go_enter Try.func28, Try.ntmps28
    go_wp2_with fail
    refine hc.mono ?_
    rintro e w1 ⟨rfl, hb1⟩
    have B1 := B0.trans (hb1.mono B0.size)
    clear hc
    go_wp2_with fail
    go_ret2
    exact ⟨ret_ii HV.out.symm rfl, B1⟩

set_option maxHeartbeats 1000000 in
theorem spec_RankOfTicket (v p d h t : Int) (ht : -9223372036854775808 ≤ t ∧ t ≤ 9223372036854775807) (w : World) :
    Calls Try.prog 27 #[.agg #[.int .i64 v, .int .i64 p, .int .i64 d, .int .i64 h], .int .i64 t] w fun e w' => e = .returned (.tuple #[.int .i64 (vRk v p d h t), .int .i64 (eTk v p d h [t] [])]) ∧ Below w.heap.size w w' := by
  have B0 : Below w.heap.size w (w.alloc (.cells #[.int .i64 v, .int .i64 p, .int .i64 d, .int .i64 h] 25)) := by go_grown
  have l0 := lotAt_new w v p d h 25
  obtain ⟨c0, c1, c2, c3, l1⟩ := lotAt_new w v p d h 25
  have hc := l08Is_any v p d h (w.alloc (.cells #[.int .i64 v, .int .i64 p, .int .i64 d, .int .i64 h] 25))
  cases hb : lotB v p d h with
  | false =>
    have e1 := eTk_inv hb [t] []
    have HE := Lib.hid e1
    have HV : Hid (vRk v p d h t = 0) := Lib.hid (by unfold vRk; rw [e1]; rfl)
    rw [hb] at hc
    clear hb e1
    go_enter Try.func27, Try.ntmps27
    go_wp2_with fail
    refine hc.mono ?_
    rintro e w1 ⟨rfl, hb⟩
    go_wp2_with fail
    go_ret2
    exact ⟨ret_ii HV.out.symm HE.out.symm, B0.trans (hb.mono B0.size)⟩
  | true =>
    have HVV := Lib.hid (lot_v hb)
    have hE := eTk_tick v p d h t hb
    rw [hb] at hc
    clear hb
    cases hs : setB v p t with
    | false =>
      rw [hs, if_neg (by decide)] at hE
      have HE := Lib.hid hE
      have HV : Hid (vRk v p d h t = 0) := Lib.hid (by unfold vRk; rw [hE]; rfl)
      clear hE
      go_enter Try.func27, Try.ntmps27
      go_wp2_with fail
      refine hc.mono ?_
      rintro e w1 ⟨rfl, hb⟩
      have B1 := B0.trans (hb.mono B0.size)
      clear c0 c1 c2 c3 l1
      obtain ⟨c0, c1, c2, c3, l1⟩ := l0.below hb
      have hst := l08Set_any v p d h t p HVV.out w1
      rw [hs] at hst
      clear hs
      go_wp2_with fail
      refine hst.mono ?_
      rintro e w2 ⟨rfl, hb2⟩
      go_wp2_with fail
      go_ret2
      exact ⟨ret_ii HV.out.symm HE.out.symm, B1.trans (hb2.mono B1.size)⟩
    | true =>
      rw [hs, if_pos rfl] at hE
      have HE := Lib.hid hE
      obtain ⟨m, rfl, hm, hpm⟩ := setB_nat HVV.out hs
      have HV : Hid (vRk v p d h (m : Int) = (cb (pc m) m : Nat)) := Lib.hid (by unfold vRk; rw [if_pos hE, Int.toNat_natCast, ← hpm, Int.toNat_natCast])
      clear hE hpm
      go_enter Try.func27, Try.ntmps27
      go_wp2_with fail
      refine hc.mono ?_
      rintro e w1 ⟨rfl, hb⟩
      have B1 := B0.trans (hb.mono B0.size)
      clear c0 c1 c2 c3 l1
      obtain ⟨c0, c1, c2, c3, l1⟩ := l0.below hb
      have hst := l08Set_any v p d h (m : Int) p HVV.out w1
      rw [hs] at hst
      clear hs
      go_wp2_with fail
      refine hst.mono ?_
      rintro e w2 ⟨rfl, hb2⟩
      have B2 := B1.trans (hb2.mono B1.size)
      go_wp2_with fail
      refine (l08Rank_any m hm _).mono ?_
      rintro e w3 ⟨rfl, rfl⟩
      go_wp2_with fail
      go_ret2
      exact ⟨ret_ii HV.out.symm HE.out.symm, B2⟩

end Go.Proofs.Ytclahcnkkkgdhaa
