/-
  The contracts of sets of numbers: how many they have, whether they are sets of a lottery, how many there are, and all of them. By an AI agent.
-/
import Derived.Test.YtgaelpcghljihaaLot
import Derived.Test.YtgaelpcghljihaaOnesA
import Derived.Test.YtgaelpcghljihaaAppend
namespace Go.Proofs.Ytgaelpcghljihaa
open Go.RowKit Cv
set_option linter.unusedVariables false
set_option linter.unusedSimpArgs false
set_option maxRecDepth 100000

theorem ret_ii {a b c d : Int} (h1 : a = b) (h2 : c = d) : Ending.returned (.tuple #[.int .i64 a, .int .i64 c]) = .returned (.tuple #[.int .i64 b, .int .i64 d]) := by rw [h1, h2]
theorem ret_bi {a b : Bool} {c d : Int} (h1 : a = b) (h2 : c = d) : Ending.returned (.tuple #[.bool a, .int .i64 c]) = .returned (.tuple #[.bool b, .int .i64 d]) := by rw [h1, h2]

theorem shl_tw {v : Int} (h : 1 ≤ v ∧ v ≤ 12) : IntKind.i64.wrap (1 * 2 ^ v.toNat) = tw v ∧ IntKind.i64.wrap (2 ^ v.toNat) = tw v := by
  rcases (show v = 1 ∨ v = 2 ∨ v = 3 ∨ v = 4 ∨ v = 5 ∨ v = 6 ∨ v = 7 ∨ v = 8 ∨ v = 9 ∨ v = 10 ∨ v = 11 ∨ v = 12 by omega) with rfl | rfl | rfl | rfl | rfl | rfl | rfl | rfl | rfl | rfl | rfl | rfl <;> exact ⟨by decide, by decide⟩
theorem shl_tw2 {v : Int} (h : 1 ≤ v ∧ v ≤ 12) : IntKind.u64.wrap v = v ∧ IntKind.i64.wrap (2 ^ min v.toNat 64) = tw v ∧ IntKind.i64.wrap (tw v - 1) = tw v - 1 ∧ wrap64 (2 ^ v.toNat) = tw v ∧ wrap64 (tw v - 1) = tw v - 1 := by
  rcases (show v = 1 ∨ v = 2 ∨ v = 3 ∨ v = 4 ∨ v = 5 ∨ v = 6 ∨ v = 7 ∨ v = 8 ∨ v = 9 ∨ v = 10 ∨ v = 11 ∨ v = 12 by omega) with rfl | rfl | rfl | rfl | rfl | rfl | rfl | rfl | rfl | rfl | rfl | rfl <;> exact ⟨by decide, by decide, by decide, by unfold wrap64; decide, by unfold wrap64; decide⟩
theorem bits_andN {a b : Nat} (ha : a < 9223372036854775808) (hb : b < 9223372036854775808) : bits .and .i64 (a : Int) (b : Int) = ((a &&& b : Nat) : Int) := by
  have h : a &&& b ≤ a := Nat.and_le_left
  show IntKind.i64.wrap (((BitVec.ofInt 64 (a : Int) &&& BitVec.ofInt 64 (b : Int)).toNat : Nat) : Int) = _
  rw [BitVec.toNat_and, bv_nat a (by omega), bv_nat b (by omega), IntWalk.i64_in _ ⟨by omega, by omega⟩]

theorem countNumbers_any (m : Nat) (hm : m < 4096) (w : World) :
    Calls Try.prog 163 #[.int .i64 (m : Int)] w fun e w' => e = .returned (.int .i64 (pc m : Nat)) ∧ w' = w := by
  have hu : IntKind.u64.wrap (m : Int) = (m : Int) := by unfold IntKind.wrap; simp [IntKind.signed, IntKind.bits]; omega
  have HP := Lib.hid (pc64 hm)
  go_enter Try.func163, Try.ntmps163
  go_wp2_with fail
  refine (ones_any m (by omega) _).mono ?_
  rintro e w2 ⟨rfl, rfl⟩
  rw [HP.out]
  go_wp2_with fail
  go_ret
  exact ⟨rfl, rfl⟩

set_option maxHeartbeats 1000000 in
theorem l08Size_any (m : Nat) (hm : m < 4096) (w : World) :
    Calls Try.prog 149 #[.int .i64 (m : Int)] w fun e w' => e = .returned (.int .i64 (pc m : Nat)) ∧ w' = w := by
  go_enter Try.func149, Try.ntmps149
  go_wp2_with fail
  go_loopw [0, 3] (fun s c wr => ∃ (k t : Nat), k < 4096 ∧ t ≤ 100000 ∧ s = .int .i64 (k : Int) ∧ c = .int .i64 (t : Int) ∧ Hid (t + pc k = pc m) ∧ wr = w) (fun s _ _ => (intOf s).toNat)
  case atStart => exact ⟨m, 0, hm, by omega, rfl, rfl, Lib.hid (by omega), rfl⟩
  case round =>
    obtain ⟨k, t, hk, ht, rfl, rfl, HT, rfl⟩ := hrel
    by_cases h0 : 0 < k
    · have HD := Lib.hid (pc_drop k hk h0)
      have HL := Lib.hid (and_pred h0)
      have hp : bits .and .i64 (k : Int) ((k : Int) - 1) = ((k &&& (k - 1) : Nat) : Int) := by
        have := bits_andN (a := k) (b := k - 1) (by omega) (by omega)
        rw [show ((k - 1 : Nat) : Int) = (k : Int) - 1 by omega] at this
        exact this
      obtain ⟨q, hq⟩ : ∃ q, q = k &&& (k - 1) := ⟨_, rfl⟩
      rw [← hq] at hp HD HL
      clear hq
      go_wp2_with fail
      clear hp
      go_roundw
      case rel => exact ⟨q, t + 1, by have := HL.out; omega, by have h1 := HT.out; have h2 := HD.out; have h3 := pc_le 12 (by omega) m (by omega); omega, rfl, by go_num, Lib.hid (by have h1 := HT.out; have h2 := HD.out; omega), by first | rfl | trivial⟩
      case measure => have := HL.out; simp [intOf]; omega
    · have HE : Hid (t = pc m) := Lib.hid (by have := HT.out; rw [show k = 0 by omega] at this; simpa [pc, bsum] using this)
      go_wp2_with fail
      go_ret
      exact ⟨ret_int (by rw [HE.out]), rfl⟩

set_option maxHeartbeats 1000000 in
theorem isSetOfNumbers_any (x v k : Int) (hv : 1 ≤ v ∧ v ≤ 12) (w : World) :
    Calls Try.prog 150 #[.int .i64 x, .int .i64 v, .int .i64 k] w fun e w' => e = .returned (.bool (setB v k x)) ∧ w' = w := by
  obtain ⟨t1, t2⟩ := tw_bd hv
  obtain ⟨v1, v2⟩ := hv
  by_cases h0 : 0 ≤ x
  case neg =>
    have HQ := Lib.hid (setB_out (v := v) (k := k) (x := x) (fun g => h0 g.1))
    go_enter Try.func150, Try.ntmps150
    go_wp2_with fail
    go_ret
    exact ⟨ret_bool HQ.out.symm, rfl⟩
  by_cases h1 : x < tw v
  case neg =>
    have HQ := Lib.hid (setB_out (v := v) (k := k) (x := x) (fun g => h1 g.2))
    obtain ⟨s1, s2⟩ := shl_tw ⟨v1, v2⟩
    obtain ⟨s3, s4, s5, s6, s7⟩ := shl_tw2 ⟨v1, v2⟩
    go_enter Try.func150, Try.ntmps150
    go_wp2_with fail
    go_ret
    exact ⟨ret_bool HQ.out.symm, rfl⟩
  obtain ⟨m, rfl⟩ : ∃ m : Nat, x = m := ⟨x.toNat, by omega⟩
  have hm : m < 4096 := by omega
  have hs := setB_in (v := v) (k := k) ⟨h0, h1⟩
  rw [Int.toNat_natCast] at hs
  by_cases h2 : (pc m : Int) = k
  · have HQ := Lib.hid (hs.trans (decide_eq_true h2))
    subst h2
    clear hs
    obtain ⟨s1, s2⟩ := shl_tw ⟨v1, v2⟩
    obtain ⟨s3, s4, s5, s6, s7⟩ := shl_tw2 ⟨v1, v2⟩
    go_enter Try.func150, Try.ntmps150
    go_wp2_with fail
    refine (countNumbers_any m hm _).mono ?_
    rintro e w2 ⟨rfl, rfl⟩
    go_wp2_with fail
    go_ret
    exact ⟨ret_bool HQ.out.symm, rfl⟩
  · have HQ := Lib.hid (hs.trans (decide_eq_false h2))
    have hbe : ((pc m : Int) == k) = false := by simpa using h2
    clear hs
    obtain ⟨s1, s2⟩ := shl_tw ⟨v1, v2⟩
    obtain ⟨s3, s4, s5, s6, s7⟩ := shl_tw2 ⟨v1, v2⟩
    go_enter Try.func150, Try.ntmps150
    go_wp2_with fail
    refine (countNumbers_any m hm _).mono ?_
    rintro e w2 ⟨rfl, rfl⟩
    go_wp2_with fail
    go_ret
    exact ⟨ret_bool HQ.out.symm, rfl⟩

end Go.Proofs.Ytgaelpcghljihaa
