/-
  How many words a set has beyond another one, and which set of a list has the most. By an AI agent.
-/
import Derived.Test.YtfgpenldeckoaaaOnesA
import Derived.Test.YtfgpenldeckoaaaSet
namespace Go.Proofs.Ytfgpenldeckoaaa
open Go.RowKit Cv
set_option linter.unusedVariables false
set_option linter.unusedSimpArgs false
set_option maxRecDepth 100000

/-- how many numbers below n have p -/
def cntTo (p : Nat → Bool) : Nat → Nat
  | 0 => 0
  | n + 1 => cntTo p n + if p n = true then 1 else 0
theorem cntTo_le (p : Nat → Bool) (n : Nat) : cntTo p n ≤ n := by
  induction n with
  | zero => exact Nat.le_refl _
  | succ n ih => rw [cntTo]; split <;> omega
theorem bit_div (m j : Nat) : m / 2 ^ j % 2 = if m.testBit j = true then 1 else 0 := by
  rw [Nat.testBit_eq_decide_div_mod_eq]
  have : m / 2 ^ j % 2 = 0 ∨ m / 2 ^ j % 2 = 1 := by omega
  rcases this with h | h <;> simp [h]
theorem bsum_part (p : Nat → Bool) (k j : Nat) (hj : j ≤ 64) : cntTo p (64 * k) + bsum (partN p k) j = cntTo p (64 * k + j) := by
  induction j with
  | zero => rfl
  | succ j ih =>
    have h := ih (by omega)
    rw [bsum, bit_div, partN_bit p k j (by omega), ← Nat.add_assoc (64 * k) j 1, cntTo, ← h]; omega
/-- what is in p and not in q -/
def byd (p q : Nat → Bool) : Nat → Bool := fun u => p u && !q u
theorem andNot_part (p q : Nat → Bool) (k : Nat) : bits BinOp.andNot IntKind.u64 (partN p k : Int) (partN q k : Int) = (partN (byd p q) k : Int) := part_andNot p q k

set_option maxHeartbeats 1000000 in
theorem countBeyond_any (p q : Nat → Bool) (w : World) :
    Calls Try.prog 70 #[.agg (setA p), .agg (setA q)] w fun e w' => e = .returned (.int .i64 (cntTo (byd p q) 1024)) ∧ Below w.heap.size w w' := by
  have hx := (row_new w p).alloc (.cells (setA q) 76)
  have hy := rown_new (w.alloc (.cells (setA p) 76)) q (n := w.heap.size + 1) (by simp)
  have HB := Lib.hid (fun k => bsum_part (byd p q) k 64 (Nat.le_refl _))
  have HL := Lib.hid (cntTo_le (byd p q))
  have HA := Lib.hid (andNot_part p q)
  go_enter Try.func70, Try.ntmps70
  go_wp2_with (first | (refine wpList_ld16 rfl _ rfl hx rfl ?_))
  go_loopw [5, 9] (fun v i wr => ∃ k : Nat, k ≤ 16 ∧ i = .int .i64 k ∧ v = .int .i64 (cntTo (byd p q) (64 * k)) ∧ RowAt wr (w.heap.size + 1) q ∧ Below w.heap.size w wr) (fun _ i _ => 16 - (intOf i).toNat)
  case atStart => exact ⟨0, by omega, rfl, rfl, hy, by go_grown⟩
  case round =>
    clear hx hy
    obtain ⟨k, hk, rfl, rfl, hr, B⟩ := hrel
    by_cases hlt : k < 16
    · have hcx := hr.cell k hlt
      have hI := idx16 p k hlt wr
      have hO := HA.out k
      have hb := HB.out k
      have hl := HL.out (64 * k)
      have hl2 := HL.out (64 * k + 64)
      have hones := ones_any (partN (byd p q) k) (partN_lt _ _) wr
      obtain ⟨n1, h1⟩ : ∃ n1, n1 = cntTo (byd p q) (64 * k) := ⟨_, rfl⟩
      obtain ⟨n2, h2⟩ : ∃ n2, n2 = bsum (partN (byd p q) k) 64 := ⟨_, rfl⟩
      rw [← h1, ← h2] at hb
      rw [← h1] at hl ⊢
      rw [← h2] at hones
      have E : IntKind.i64.wrap ((n1 : Int) + (n2 : Int)) = ((n1 + n2 : Nat) : Int) := by rw [IntWalk.i64_in _ ⟨by omega, by omega⟩]; rfl
      have HN : Hid (((n1 + n2 : Nat) : Int) = (cntTo (byd p q) (64 * (k + 1)) : Int)) := Lib.hid (by rw [hb]; rfl)
      have kI : (k : Int) < 16 := by omega
      have k0 : (0 : Int) ≤ (k : Int) := by omega
      clear h1 h2 hb
      go_wp2_with fail
      refine hones.mono ?_
      rintro e w1 ⟨rfl, rfl⟩
      go_wp2_with fail
      go_roundw
      case rel => exact ⟨k + 1, by omega, by go_num, by rw [← HN.out]; rfl, hr, B⟩
      case measure => simp [intOf]; omega
    · have ek : Hid (k = 16) := Lib.hid (by omega)
      have kI : ¬ (k : Int) < 16 := by omega
      go_wp2_with fail
      go_ret
      exact ⟨by rw [show (1024 : Nat) = 64 * k by rw [ek.out]]; rfl, B⟩

end Go.Proofs.Ytfgpenldeckoaaa
