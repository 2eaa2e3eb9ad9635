/-
  The contracts of TicketOfRank. By an AI agent.
-/
import Derived.Test.YtgaelpcghljihaaRk8
import Derived.Test.YtgaelpcghljihaaTo8
namespace Go.Proofs.Ytgaelpcghljihaa
open Go.RowKit Cv
set_option linter.unusedVariables false
set_option linter.unusedSimpArgs false
set_option maxRecDepth 100000

theorem or_top {m j i : Nat} (hi : i < j) : (m - m % 2 ^ j) ||| 2 ^ i = m - m % 2 ^ j + 2 ^ i := by
  have e : m - m % 2 ^ j = 2 ^ j * (m / 2 ^ j) := by have := Nat.div_add_mod m (2 ^ j); omega
  rw [e]
  exact (Nat.two_pow_add_eq_or_of_lt (Nat.pow_lt_pow_right (by omega) hi) _).symm
theorem pc_none {x : Nat} (hx : x < 4096) (h : pc x = 0) : x = 0 := by
  rcases Nat.eq_zero_or_pos x with h0 | h0
  · exact h0
  · have := pc_drop x hx h0; omega

set_option maxHeartbeats 4000000 in
theorem l08OfRank_any (m : Nat) (hm : m < 4096) (w : World) :
    Calls Try.prog 81 #[.int .i64 (pc m : Nat), .int .i64 (cb (pc m) m : Nat)] w fun e w' => e = .returned (.int .i64 (m : Int)) ∧ w' = w := by
  have HM : Hid (m % 2 ^ 12 = m) := Lib.hid (Nat.mod_eq_of_lt hm)
  obtain ⟨P, hP⟩ : ∃ P, P = pc m := ⟨_, rfl⟩
  obtain ⟨R, hR⟩ : ∃ R, R = cb (pc m) m := ⟨_, rfl⟩
  rw [← hR, ← hP]
  have HP := Lib.hid hP
  have HR := Lib.hid hR
  clear hP hR
  go_enter Try.func81, Try.ntmps81
  go_wp2_with fail
  go_loopw [0, 1, 5] (fun kv rv ov wr => ∃ k r o : Nat, k ≤ 12 ∧ r ≤ 4096 ∧ o < 4096 ∧ kv = .int .i64 (k : Int) ∧ rv = .int .i64 (r : Int) ∧ ov = .int .i64 (o : Int) ∧ Hid (∃ j, j ≤ 12 ∧ k = pc (m % 2 ^ j) ∧ r = cb k (m % 2 ^ j) ∧ o = m - m % 2 ^ j) ∧ wr = w) (fun kv _ _ _ => (intOf kv).toNat)
  case atStart =>
    refine ⟨P, R, 0, by rw [HP.out]; exact pc_le 12 (by omega) m (by omega), by rw [HR.out]; exact Nat.le_trans (cb_le _ _) (by omega), by omega, rfl, rfl, rfl, Lib.hid ⟨12, Nat.le_refl _, ?_, ?_, ?_⟩, rfl⟩
    · rw [HM.out]; exact HP.out
    · rw [HM.out, HR.out, HP.out]
    · rw [HM.out]; omega
  case round =>
    obtain ⟨k, r, o, hk, hr, ho, rfl, rfl, rfl, HI, hw⟩ := hrel
    subst hw
    by_cases hk0 : 0 < k
    · obtain ⟨k', hkk⟩ : ∃ k', k = k' + 1 := ⟨k - 1, by omega⟩
      obtain ⟨j, hj, j1, j2, j3⟩ := HI.out
      obtain ⟨i, hij, i1, i2, i3, i4, i5, i6⟩ := of_rank hj (j1.symm.trans hkk)
      rw [← hkk, ← j2] at i5 i6
      have HKK := Lib.hid hkk
      clear hkk
      have hor : o ||| 2 ^ i = m - m % 2 ^ i := by
        rw [j3, or_top hij]
        have h1 := Nat.mod_le m (2 ^ j)
        omega
      have hi12 : i < 12 := by omega
      have H5 := Lib.hid i5
      have H6 := Lib.hid i6
      have H2 := Lib.hid i2
      have HO := Lib.hid hor
      have KD : Hid (Value.int .i64 ((k : Int) - 1) = Value.int .i64 (k' : Int)) := Lib.hid (by rw [show (k : Int) - 1 = (k' : Int) by have := HKK.out; omega])
      clear HI j1 j2 j3 i1 i2 i5 i6 hor
      have k0 : (0 : Int) < (k : Int) := by omega
      go_wp2_with fail
      go_loopw [6] (fun xv wr2 => ∃ x : Nat, k' ≤ x ∧ x ≤ i ∧ xv = .int .i64 (x : Int) ∧ wr2 = wr) (fun xv _ => i - (intOf xv).toNat)
      case atStart => exact ⟨k', Nat.le_refl _, i3, KD.out, rfl⟩
      case round =>
        obtain ⟨x, hx1, hx2, rfl, hw⟩ := hrel
        subst hw
        have hcall := l08Choose_any (x + 1) k (by omega) (by omega)
        have e1 : (((x + 1 : Nat) : Int)) = (x : Int) + 1 := by omega
        rw [e1] at hcall
        have hb := ch_le (n := x + 1) (k := k) (by omega) (by omega)
        by_cases hlt : x < i
        · have hle : ch (x + 1) k ≤ r := by
            have h1 := ch_mono' (k := k') (by omega) (b := i) (x + 1) (by omega) (by omega)
            rw [← HKK.out] at h1
            have h2 := H5.out
            omega
          obtain ⟨z, hz⟩ : ∃ z, z = ch (x + 1) k := ⟨_, rfl⟩
          rw [← hz] at hcall hb hle
          have i7 : (z : Int) ≤ (r : Int) := by omega
          clear hz e1
          go_wp2_with fail
          refine (hcall _).mono ?_
          rintro e w2 ⟨rfl, rfl⟩
          go_wp2_with fail
          go_roundw
          case rel => exact ⟨x + 1, by omega, by omega, by go_num, by first | rfl | trivial⟩
          case measure => simp [intOf]; omega
        · obtain rfl : x = i := by omega
          obtain ⟨z, hz⟩ : ∃ z, z = ch (x + 1) k := ⟨_, rfl⟩
          have hle : r < z := by rw [hz]; exact H6.out
          rw [← hz] at hcall hb
          have i7 : ¬ (z : Int) ≤ (r : Int) := by omega
          have hcall2 := l08Choose_any x k (by omega) (by omega)
          obtain ⟨y, hy⟩ : ∃ y, y = ch x k := ⟨_, rfl⟩
          obtain ⟨u, hu⟩ : ∃ u, u = cb k' (m % 2 ^ x) := ⟨_, rfl⟩
          have hru : r = y + u := by rw [hy, hu]; exact H5.out
          rw [← hy] at hcall2
          have E1 : IntKind.i64.wrap ((r : Int) - (y : Int)) = (u : Int) := by rw [IntWalk.i64_in _ ⟨by omega, by omega⟩]; omega
          have hu2 : IntKind.u64.wrap (x : Int) = (x : Int) := by unfold IntKind.wrap; simp [IntKind.signed, IntKind.bits]; omega
          obtain ⟨s1, s2, s3, s4, s5⟩ := shl_tw0 (v := (x : Int)) ⟨by omega, by omega⟩
          have ho2 : o ||| 2 ^ x < 4096 := by rw [HO.out]; omega
          have hor : bits .or .i64 (o : Int) (tw (x : Int)) = ((o ||| 2 ^ x : Nat) : Int) := by
            rw [tw_nat, Int.toNat_natCast]
            exact bits_orN ho (Nat.pow_lt_pow_right (n := 12) (by omega) hi12)
          obtain ⟨q, hq⟩ : ∃ q, q = o ||| 2 ^ x := ⟨_, rfl⟩
          rw [← hq] at hor ho2
          have HQ := Lib.hid hq
          have HU := Lib.hid hu
          have HY := Lib.hid hru
          simp only [Int.toNat_natCast] at s1 s2 s4 s5
          clear hz e1 hy hu hq hru
          go_wp2_with fail
          refine (hcall _).mono ?_
          rintro e w2 ⟨rfl, rfl⟩
          go_wp2_with fail
          refine (hcall2 _).mono ?_
          rintro e w2 ⟨rfl, rfl⟩
          go_wp2_with fail
          clear s1 s2 s3 s4 s5
          go_roundw
          case rel =>
            refine ⟨k', u, q, by omega, by have := HY.out; omega, ho2, KD.out, by first | rfl | go_num, rfl, Lib.hid ⟨x, by omega, H2.out.symm, HU.out, ?_⟩, by first | rfl | trivial⟩
            rw [HQ.out]; exact HO.out
          case measure => have := HKK.out; simp [intOf]; try omega
    · have HE : Hid (o = m) := Lib.hid (by
        obtain ⟨j, hj, j1, j2, j3⟩ := HI.out
        have h1 := Nat.mod_le m (2 ^ j)
        have := pc_none (x := m % 2 ^ j) (by omega) (by omega)
        omega)
      have k0 : ¬ (0 : Int) < (k : Int) := by omega
      go_wp2_with fail
      go_ret
      exact ⟨ret_int (by rw [HE.out]), rfl⟩

def eOr (v p d h r : Int) : Int := if lotB v p d h = true then (if r < 0 then 2 else if (ch v.toNat p.toNat : Nat) ≤ r then 4 else 0) else 1
def vOr (v p d h r : Int) : Int := if eOr v p d h r = 0 then gi (setsL v.toNat p.toNat) r.toNat else 0
theorem eOr_inv {v p d h : Int} (g : lotB v p d h = false) (r : Int) : eOr v p d h r = 1 ∧ vOr v p d h r = 0 := by
  have e : eOr v p d h r = 1 := by unfold eOr; rw [g]; rfl
  exact ⟨e, by unfold vOr; rw [e]; rfl⟩
theorem eOr_neg {v p d h r : Int} (g : lotB v p d h = true) (b : r < 0) : eOr v p d h r = 2 ∧ vOr v p d h r = 0 := by
  have e : eOr v p d h r = 2 := by unfold eOr; rw [if_pos g, if_pos b]
  exact ⟨e, by unfold vOr; rw [e]; rfl⟩
theorem eOr_big {v p d h r : Int} (g : lotB v p d h = true) (b : ¬ r < 0) (c : (ch v.toNat p.toNat : Nat) ≤ r) : eOr v p d h r = 4 ∧ vOr v p d h r = 0 := by
  have e : eOr v p d h r = 4 := by unfold eOr; rw [if_pos g, if_neg b, if_pos c]
  exact ⟨e, by unfold vOr; rw [e]; rfl⟩
theorem eOr_ok {v p d h r : Int} (g : lotB v p d h = true) (b : ¬ r < 0) (c : ¬ (ch v.toNat p.toNat : Nat) ≤ r) : eOr v p d h r = 0 ∧ vOr v p d h r = gi (setsL v.toNat p.toNat) r.toNat := by
  have e : eOr v p d h r = 0 := by unfold eOr; rw [if_pos g, if_neg b, if_neg c]
  exact ⟨e, by unfold vOr; rw [if_pos e]⟩

end Go.Proofs.Ytgaelpcghljihaa
