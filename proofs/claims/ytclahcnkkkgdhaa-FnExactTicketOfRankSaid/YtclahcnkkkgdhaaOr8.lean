/-
  The contracts of TicketOfRank. By an AI agent.
-/
import Derived.Test.YtclahcnkkkgdhaaRk8
import Derived.Test.YtclahcnkkkgdhaaTo8
namespace Go.Proofs.Ytclahcnkkkgdhaa
open Go.RowKit Cv
set_option linter.unusedVariables false
set_option linter.unusedSimpArgs false
set_option maxRecDepth 100000

theorem or_top {m j i : Nat} (hi : i < j) : (m - m % 2 ^ j) ||| 2 ^ i = m - m % 2 ^ j + 2 ^ i := by
  have e : m - m % 2 ^ j = 2 ^ j * (m / 2 ^ j) := by have := Nat.div_add_mod m (2 ^ j); omega
  rw [e]
  exact (Nat.two_pow_add_eq_or_of_lt (Nat.pow_lt_pow_right (by omega) hi) _).symm
theorem pc_none {x : Nat} (hx : x < 4096) (h : pc x = 0) : x = 0 := by
  rcases Nat.eq_zero_or_pos x with h0 | h0
  · exact h0
  · have := pc_drop x hx h0; omega

set_option maxHeartbeats 4000000 in
theorem l08OfRank_any (m : Nat) (hm : m < 4096) (w : World) :
    Calls Try.prog 49 #[.int .i64 (pc m : Nat), .int .i64 (cb (pc m) m : Nat)] w fun e w' => e = .returned (.int .i64 (m : Int)) ∧ w' = w := by
  have HM : Hid (m % 2 ^ 12 = m) := Lib.hid (Nat.mod_eq_of_lt hm)
  obtain ⟨P, hP⟩ : ∃ P, P = pc m := ⟨_, rfl⟩
  obtain ⟨R, hR⟩ : ∃ R, R = cb (pc m) m := ⟨_, rfl⟩
  rw [← hR, ← hP]
  have HP := Lib.hid hP
  have HR := Lib.hid hR
  clear hP hR
  go_enter Try.func49, Try.ntmps49
  go_wp2_with fail
  go_loopw [0, 1, 5] (fun kv rv ov wr => ∃ k r o : Nat, k ≤ 12 ∧ r ≤ 4096 ∧ o < 4096 ∧ kv = .int .i64 (k : Int) ∧ rv = .int .i64 (r : Int) ∧ ov = .int .i64 (o : Int) ∧ Hid (∃ j, j ≤ 12 ∧ k = pc (m % 2 ^ j) ∧ r = cb k (m % 2 ^ j) ∧ o = m - m % 2 ^ j) ∧ wr = w) (fun kv _ _ _ => (intOf kv).toNat)
  case atStart =>
    refine ⟨P, R, 0, by rw [HP.out]; exact pc_le 12 (by omega) m (by omega), by rw [HR.out]; exact Nat.le_trans (cb_le _ _) (by omega), by omega, rfl, rfl, rfl, Lib.hid ⟨12, Nat.le_refl _, ?_, ?_, ?_⟩, rfl⟩
    · rw [HM.out]; exact HP.out
    · rw [HM.out, HR.out, HP.out]
    · rw [HM.out]; omega
  case round =>
    obtain ⟨k, r, o, hk, hr, ho, rfl, rfl, rfl, HI, hw⟩ := hrel
    subst hw
    by_cases hk0 : 0 < k
    · obtain ⟨k', hkk⟩ : ∃ k', k = k' + 1 := ⟨k - 1, by omega⟩
      obtain ⟨j, hj, j1, j2, j3⟩ := HI.out
      obtain ⟨i, hij, i1, i2, i3, i4, i5, i6⟩ := of_rank hj (j1.symm.trans hkk)
      rw [← hkk, ← j2] at i5 i6
      have HKK := Lib.hid hkk
      clear hkk
      have hor : o ||| 2 ^ i = m - m % 2 ^ i := by
        rw [j3, or_top hij]
        have h1 := Nat.mod_le m (2 ^ j)
        omega
      have hi12 : i < 12 := by omega
      have H5 := Lib.hid i5
      have H6 := Lib.hid i6
      have H2 := Lib.hid i2
      have HO := Lib.hid hor
      have KD : Hid (Value.int .i64 ((k : Int) - 1) = Value.int .i64 (k' : Int)) := Lib.hid (by rw [show (k : Int) - 1 = (k' : Int) by have := HKK.out; omega])
      clear HI j1 j2 j3 i1 i2 i5 i6 hor
      have k0 : (0 : Int) < (k : Int) := by omega
      go_wp2_with fail
      go_loopw [6] (fun xv wr2 => ∃ x : Nat, k' ≤ x ∧ x ≤ i ∧ xv = .int .i64 (x : Int) ∧ wr2 = wr) (fun xv _ => i - (intOf xv).toNat)
      case atStart => exact ⟨k', Nat.le_refl _, i3, KD.out, rfl⟩
      case round =>
        obtain ⟨x, hx1, hx2, rfl, hw⟩ := hrel
        subst hw
        have hcall := l08Choose_any (x + 1) k (by omega) (by omega)
        have e1 : (((x + 1 : Nat) : Int)) = (x : Int) + 1 := by omega
        rw [e1] at hcall
        have hb := ch_le (n := x + 1) (k := k) (by omega) (by omega)
        by_cases hlt : x < i
        · have hle : ch (x + 1) k ≤ r := by
            have h1 := ch_mono' (k := k') (by omega) (b := i) (x + 1) (by omega) (by omega)
            rw [← HKK.out] at h1
            have h2 := H5.out
            omega
          obtain ⟨z, hz⟩ : ∃ z, z = ch (x + 1) k := ⟨_, rfl⟩
          rw [← hz] at hcall hb hle
          have i7 : (z : Int) ≤ (r : Int) := by omega
          clear hz e1
          go_wp2_with fail
          refine (hcall _).mono ?_
          rintro e w2 ⟨rfl, rfl⟩
          go_wp2_with fail
          go_roundw
          case rel => exact ⟨x + 1, by omega, by omega, by go_num, by first | rfl | trivial⟩
          case measure => simp [intOf]; omega
        · obtain rfl : x = i := by omega
          obtain ⟨z, hz⟩ : ∃ z, z = ch (x + 1) k := ⟨_, rfl⟩
          have hle : r < z := by rw [hz]; exact H6.out
          rw [← hz] at hcall hb
          have i7 : ¬ (z : Int) ≤ (r : Int) := by omega
          have hcall2 := l08Choose_any x k (by omega) (by omega)
          obtain ⟨y, hy⟩ : ∃ y, y = ch x k := ⟨_, rfl⟩
          obtain ⟨u, hu⟩ : ∃ u, u = cb k' (m % 2 ^ x) := ⟨_, rfl⟩
          have hru : r = y + u := by rw [hy, hu]; exact H5.out
          rw [← hy] at hcall2
          have E1 : IntKind.i64.wrap ((r : Int) - (y : Int)) = (u : Int) := by rw [IntWalk.i64_in _ ⟨by omega, by omega⟩]; omega
          have hu2 : IntKind.u64.wrap (x : Int) = (x : Int) := by unfold IntKind.wrap; simp [IntKind.signed, IntKind.bits]; omega
          obtain ⟨s1, s2, s3, s4, s5⟩ := shl_tw0 (v := (x : Int)) ⟨by omega, by omega⟩
          have ho2 : o ||| 2 ^ x < 4096 := by rw [HO.out]; omega
          have hor : bits .or .i64 (o : Int) (tw (x : Int)) = ((o ||| 2 ^ x : Nat) : Int) := by
            rw [tw_nat, Int.toNat_natCast]
            exact bits_orN ho (Nat.pow_lt_pow_right (n := 12) (by omega) hi12)
          obtain ⟨q, hq⟩ : ∃ q, q = o ||| 2 ^ x := ⟨_, rfl⟩
          rw [← hq] at hor ho2
          have HQ := Lib.hid hq
          have HU := Lib.hid hu
          have HY := Lib.hid hru
          simp only [Int.toNat_natCast] at s1 s2 s4 s5
          clear hz e1 hy hu hq hru
          go_wp2_with fail
          refine (hcall _).mono ?_
          rintro e w2 ⟨rfl, rfl⟩
          go_wp2_with fail
          refine (hcall2 _).mono ?_
          rintro e w2 ⟨rfl, rfl⟩
          go_wp2_with fail
          clear s1 s2 s3 s4 s5
          go_roundw
          case rel =>
            refine ⟨k', u, q, by omega, by have := HY.out; omega, ho2, KD.out, by first | rfl | go_num, rfl, Lib.hid ⟨x, by omega, H2.out.symm, HU.out, ?_⟩, by first | rfl | trivial⟩
            rw [HQ.out]; exact HO.out
          case measure => have := HKK.out; simp [intOf]; try omega
    · have HE : Hid (o = m) := Lib.hid (by
        obtain ⟨j, hj, j1, j2, j3⟩ := HI.out
        have h1 := Nat.mod_le m (2 ^ j)
        have := pc_none (x := m % 2 ^ j) (by omega) (by omega)
        omega)
      have k0 : ¬ (0 : Int) < (k : Int) := by omega
      go_wp2_with fail
      go_ret
      exact ⟨ret_int (by rw [HE.out]), rfl⟩

def eOr (v p d h r : Int) : Int := if lotB v p d h = true then (if r < 0 then 2 else if (ch v.toNat p.toNat : Nat) ≤ r then 4 else 0) else 1
def vOr (v p d h r : Int) : Int := if eOr v p d h r = 0 then gi (setsL v.toNat p.toNat) r.toNat else 0
theorem eOr_inv {v p d h : Int} (g : lotB v p d h = false) (r : Int) : eOr v p d h r = 1 ∧ vOr v p d h r = 0 := by
  have e : eOr v p d h r = 1 := by unfold eOr; rw [g]; rfl
  exact ⟨e, by unfold vOr; rw [e]; rfl⟩
theorem eOr_neg {v p d h r : Int} (g : lotB v p d h = true) (b : r < 0) : eOr v p d h r = 2 ∧ vOr v p d h r = 0 := by
  have e : eOr v p d h r = 2 := by unfold eOr; rw [if_pos g, if_pos b]
  exact ⟨e, by unfold vOr; rw [e]; rfl⟩
theorem eOr_big {v p d h r : Int} (g : lotB v p d h = true) (b : ¬ r < 0) (c : (ch v.toNat p.toNat : Nat) ≤ r) : eOr v p d h r = 4 ∧ vOr v p d h r = 0 := by
  have e : eOr v p d h r = 4 := by unfold eOr; rw [if_pos g, if_neg b, if_pos c]
  exact ⟨e, by unfold vOr; rw [e]; rfl⟩
theorem eOr_ok {v p d h r : Int} (g : lotB v p d h = true) (b : ¬ r < 0) (c : ¬ (ch v.toNat p.toNat : Nat) ≤ r) : eOr v p d h r = 0 ∧ vOr v p d h r = gi (setsL v.toNat p.toNat) r.toNat := by
  have e : eOr v p d h r = 0 := by unfold eOr; rw [if_pos g, if_neg b, if_neg c]
  exact ⟨e, by unfold vOr; rw [if_pos e]⟩

set_option maxHeartbeats 2000000 in
theorem impl_TicketOfRank (v p d h r : Int) (hr : -9223372036854775808 ≤ r ∧ r ≤ 9223372036854775807) (w : World) :
    Calls Try.prog 30 #[.agg #[.int .i64 v, .int .i64 p, .int .i64 d, .int .i64 h], .int .i64 r] w fun e w' => e = .returned (.tuple #[.int .i64 (vOr v p d h r), .int .i64 (eOr v p d h r)]) ∧ Below w.heap.size w w' := by
  cases hb : lotB v p d h with
  | false =>
    have B0 : Below w.heap.size w (w.alloc (.cells #[.int .i64 v, .int .i64 p, .int .i64 d, .int .i64 h] 25)) := by go_grown
    obtain ⟨c0, c1, c2, c3, l1⟩ := lotAt_new w v p d h 25
    have hc := lotteryError_any v p d h (w.alloc (.cells #[.int .i64 v, .int .i64 p, .int .i64 d, .int .i64 h] 25))
    obtain ⟨e1, e2⟩ := eOr_inv hb r
    have HE := Lib.hid e1
    have HV := Lib.hid e2
    rw [lot_inv hb] at hc
    clear hb e1 e2
    go_enter Try.func30, Try.ntmps30
    go_wp2_with fail
    refine hc.mono ?_
    rintro e w1 ⟨rfl, hb⟩
    go_wp2_with fail
    go_ret2
    exact ⟨ret_ii HV.out.symm HE.out.symm, B0.trans (hb.mono B0.size)⟩
  | true =>
    have hneg := eOr_neg (r := r) hb
    have hbig := eOr_big (r := r) hb
    have hok := eOr_ok (r := r) hb
    obtain ⟨v, p, d, rfl, rfl, rfl, g1, g2, g3, g4, g5, g6⟩ := lot_nats hb
    simp only [Int.toNat_natCast] at hbig hok
    have hlen := setsL_len (v := v) (k := p) (by omega) (by omega)
    have hchl := ch_le (n := v) (k := p) (by omega) (by omega)
    have B0 : Below w.heap.size w (w.alloc (.cells #[.int .i64 (v : Int), .int .i64 (p : Int), .int .i64 (d : Int), .int .i64 h] 25)) := by go_grown
    have l0 := lotAt_new w v p d h 25
    obtain ⟨c0, c1, c2, c3, l1⟩ := lotAt_new w v p d h 25
    have hc := lotteryError_any v p d h (w.alloc (.cells #[.int .i64 (v : Int), .int .i64 (p : Int), .int .i64 (d : Int), .int .i64 h] 25))
    rw [lot_val hb] at hc
    clear hb
    by_cases h0 : r < 0
    case pos =>
      obtain ⟨e1, e2⟩ := hneg h0
      have HE := Lib.hid e1
      have HV := Lib.hid e2
      clear e1 e2 hneg hbig hok hlen
      go_enter Try.func30, Try.ntmps30
      go_wp2_with fail
      refine hc.mono ?_
      rintro e w1 ⟨rfl, hb⟩
      have B1 := B0.trans (hb.mono B0.size)
      have l2 := l0.below hb
      clear c0 c1 c2 c3 l1
      obtain ⟨c0, c1, c2, c3, l1⟩ := l0.below hb
      clear hc l0 hb B0
      go_wp2_with fail
      go_ret2
      exact ⟨ret_ii HV.out.symm HE.out.symm, B1⟩
    clear hneg
    by_cases h1 : (ch v p : Nat) ≤ r
    case pos =>
      obtain ⟨e1, e2⟩ := hbig h0 h1
      have HE := Lib.hid e1
      have HV := Lib.hid e2
      have HLn := Lib.hid hlen
      have H1 := Lib.hid h1
      clear e1 e2 hbig hok hlen h1
      go_enter Try.func30, Try.ntmps30
      go_wp2_with fail
      refine hc.mono ?_
      rintro e w1 ⟨rfl, hb⟩
      have B1 := B0.trans (hb.mono B0.size)
      have l2 := l0.below hb
      clear c0 c1 c2 c3 l1
      obtain ⟨c0, c1, c2, c3, l1⟩ := l0.below hb
      clear hc l0 hb B0
      go_wp2_with fail
      refine (tickets_any v p d h g1 g2 _).mono ?_
      rintro e w2 ⟨x, rfl, own, hb2⟩
      have B2 := B1.trans (hb2.mono B1.size)
      obtain ⟨a, c, rfl⟩ := own.shape
      obtain ⟨L, hL⟩ : ∃ L, L = setsL v p := ⟨_, rfl⟩
      rw [← hL] at own ⊢
      have hLl : (L.length : Int) ≤ r := by rw [hL, HLn.out]; exact H1.out
      clear hb2 hL
      go_wp2_with fail
      go_ret2
      exact ⟨ret_ii HV.out.symm HE.out.symm, B2⟩
    obtain ⟨e1, e2⟩ := hok h0 h1
    obtain ⟨q, rfl⟩ : ∃ q : Nat, r = q := ⟨r.toNat, by omega⟩
    rw [Int.toNat_natCast] at e2
    have HE := Lib.hid e1
    have HV := Lib.hid e2
    have hq : q < (setsL v p).length := by omega
    clear e1 e2 hbig hok hlen h1
    go_enter Try.func30, Try.ntmps30
    go_wp2_with fail
    refine hc.mono ?_
    rintro e w1 ⟨rfl, hb⟩
    have B1 := B0.trans (hb.mono B0.size)
    have l2 := l0.below hb
    clear c0 c1 c2 c3 l1
    obtain ⟨c0, c1, c2, c3, l1⟩ := l0.below hb
    clear hc l0 hb B0
    go_wp2_with fail
    refine (tickets_any v p d h g1 g2 _).mono ?_
    rintro e w2 ⟨x, rfl, own, hb2⟩
    have B2 := B1.trans (hb2.mono B1.size)
    obtain ⟨a, c, rfl⟩ := own.shape
    obtain ⟨L, hL⟩ : ∃ L, L = setsL v p := ⟨_, rfl⟩
    rw [← hL] at own hq HV ⊢
    clear hb2 hL
    obtain ⟨b, o, hab, hbl, hcc⟩ := (own_ints own).at hq
    subst hab
    have hck := hcc q hq
    have i1 : (0 : Int) ≤ (q : Int) := by omega
    have i2 : (q : Int) < (L.length : Int) := by omega
    have i3 : ¬ (L.length : Int) ≤ (q : Int) := by omega
    clear hcc own
    go_wp2_with fail
    go_ret2
    exact ⟨ret_ii HV.out.symm HE.out.symm, B2⟩

set_option maxHeartbeats 2000000 in
theorem spec_TicketOfRank (v p d h r : Int) (hr : -9223372036854775808 ≤ r ∧ r ≤ 9223372036854775807) (w : World) :
    Calls Try.prog 29 #[.agg #[.int .i64 v, .int .i64 p, .int .i64 d, .int .i64 h], .int .i64 r] w fun e w' => e = .returned (.tuple #[.int .i64 (vOr v p d h r), .int .i64 (eOr v p d h r)]) ∧ Below w.heap.size w w' := by
  cases hb : lotB v p d h with
  | false =>
    have B0 : Below w.heap.size w (w.alloc (.cells #[.int .i64 v, .int .i64 p, .int .i64 d, .int .i64 h] 25)) := by go_grown
    obtain ⟨c0, c1, c2, c3, l1⟩ := lotAt_new w v p d h 25
    have hc := l08Is_any v p d h (w.alloc (.cells #[.int .i64 v, .int .i64 p, .int .i64 d, .int .i64 h] 25))
    obtain ⟨e1, e2⟩ := eOr_inv hb r
    have HE := Lib.hid e1
    have HV := Lib.hid e2
    rw [hb] at hc
    clear hb e1 e2
    go_enter Try.func29, Try.ntmps29
    go_wp2_with fail
    refine hc.mono ?_
    rintro e w1 ⟨rfl, hb⟩
    go_wp2_with fail
    go_ret2
    exact ⟨ret_ii HV.out.symm HE.out.symm, B0.trans (hb.mono B0.size)⟩
  | true =>
    have hneg := eOr_neg (r := r) hb
    have hbig := eOr_big (r := r) hb
    have hok := eOr_ok (r := r) hb
    obtain ⟨v, p, d, rfl, rfl, rfl, g1, g2, g3, g4, g5, g6⟩ := lot_nats hb
    simp only [Int.toNat_natCast] at hbig hok
    have hlen := setsL_len (v := v) (k := p) (by omega) (by omega)
    have hchl := ch_le (n := v) (k := p) (by omega) (by omega)
    have B0 : Below w.heap.size w (w.alloc (.cells #[.int .i64 (v : Int), .int .i64 (p : Int), .int .i64 (d : Int), .int .i64 h] 25)) := by go_grown
    have l0 := lotAt_new w v p d h 25
    obtain ⟨c0, c1, c2, c3, l1⟩ := lotAt_new w v p d h 25
    have hc := l08Is_any v p d h (w.alloc (.cells #[.int .i64 (v : Int), .int .i64 (p : Int), .int .i64 (d : Int), .int .i64 h] 25))
    rw [hb] at hc
    clear hb
    by_cases h0 : r < 0
    case pos =>
      obtain ⟨e1, e2⟩ := hneg h0
      have HE := Lib.hid e1
      have HV := Lib.hid e2
      clear e1 e2 hneg hbig hok hlen
      go_enter Try.func29, Try.ntmps29
      go_wp2_with fail
      refine hc.mono ?_
      rintro e w1 ⟨rfl, hb⟩
      have B1 := B0.trans (hb.mono B0.size)
      have l2 := l0.below hb
      clear c0 c1 c2 c3 l1
      obtain ⟨c0, c1, c2, c3, l1⟩ := l0.below hb
      clear hc l0 hb B0
      go_wp2_with fail
      go_ret2
      exact ⟨ret_ii HV.out.symm HE.out.symm, B1⟩
    clear hneg
    have hcall := l08Choose_any v p (by omega) (by omega)
    obtain ⟨z, hz⟩ : ∃ z, z = ch v p := ⟨_, rfl⟩
    rw [← hz] at hcall hchl hbig hok hlen
    have HZ := Lib.hid hz
    clear hz
    by_cases h1 : (z : Int) ≤ r
    case pos =>
      obtain ⟨e1, e2⟩ := hbig h0 h1
      have HE := Lib.hid e1
      have HV := Lib.hid e2
      clear e1 e2 hbig hok hlen
      go_enter Try.func29, Try.ntmps29
      go_wp2_with fail
      refine hc.mono ?_
      rintro e w1 ⟨rfl, hb⟩
      have B1 := B0.trans (hb.mono B0.size)
      have l2 := l0.below hb
      clear c0 c1 c2 c3 l1
      obtain ⟨c0, c1, c2, c3, l1⟩ := l0.below hb
      clear hc l0 hb B0
      go_wp2_with fail
      refine (hcall _).mono ?_
      rintro e w2 ⟨rfl, rfl⟩
      go_wp2_with fail
      go_ret2
      exact ⟨ret_ii HV.out.symm HE.out.symm, B1⟩
    obtain ⟨e1, e2⟩ := hok h0 h1
    obtain ⟨q, rfl⟩ : ∃ q : Nat, r = q := ⟨r.toNat, by omega⟩
    rw [Int.toNat_natCast] at e2
    have hq : q < (setsL v p).length := by omega
    obtain ⟨m, m1, m2, m3, m4⟩ := sel_at (isK p) hq
    have m3' : gi (setsL v p) q = m := m3
    rw [m3'] at e2
    rw [selK_len] at m4
    have hpm : pc m = p := by unfold isK at m2; simpa using m2
    have hm : m < 4096 := Nat.lt_of_lt_of_le m1 (pow_le12 g2)
    have hcall2 := l08OfRank_any m hm
    rw [hpm, m4] at hcall2
    have HE := Lib.hid e1
    have HV := Lib.hid e2
    clear e1 e2 hbig hok hlen hq m1 m2 m3 m3' m4 hpm
    go_enter Try.func29, Try.ntmps29
    go_wp2_with fail
    refine hc.mono ?_
    rintro e w1 ⟨rfl, hb⟩
    have B1 := B0.trans (hb.mono B0.size)
    have l2 := l0.below hb
    clear c0 c1 c2 c3 l1
    obtain ⟨c0, c1, c2, c3, l1⟩ := l0.below hb
    clear hc l0 hb B0
    go_wp2_with fail
    refine (hcall _).mono ?_
    rintro e w2 ⟨rfl, rfl⟩
    go_wp2_with fail
    refine (hcall2 _).mono ?_
    rintro e w2 ⟨rfl, rfl⟩
    go_wp2_with fail
    go_ret2
    exact ⟨ret_ii HV.out.symm HE.out.symm, B1⟩

end Go.Proofs.Ytclahcnkkkgdhaa
