/-
  The contracts of what says whether there is a space, and how many words it has. By an AI agent.
-/
import Derived.Test.YthfddfhjcadomaaHelp
namespace Go.Proofs.Ythfddfhjcadomaa
open Go.RowKit Cv
set_option linter.unusedVariables false
set_option linter.unusedSimpArgs false

/-- whether a number is in a range -/
def inB (n low high : Int) : Bool := decide (low ≤ n) && decide (n ≤ high)
theorem inB_true {n low high : Int} (h1 : low ≤ n) (h2 : n ≤ high) : inB n low high = true := by simp [inB, h1, h2]
theorem inB_false {n low high : Int} (h : ¬ (low ≤ n ∧ n ≤ high)) : inB n low high = false := by
  simp only [inB]
  by_cases h1 : low ≤ n
  · have h2 : ¬ n ≤ high := fun h2 => h ⟨h1, h2⟩
    simp [h1, h2]
  · simp [h1]
theorem ret_bool {a b : Bool} (h : a = b) : Ending.returned (.bool a) = .returned (.bool b) := by rw [h]

theorem l01In_any (n low high : Int) (w : World) :
    Calls Try.prog 12 #[.int .i64 n, .int .i64 low, .int .i64 high] w fun e w' => e = .returned (.bool (inB n low high)) ∧ w = w' := by
  by_cases h1 : low ≤ n
  · by_cases h2 : n ≤ high
    · have HB := Lib.hid (inB_true h1 h2)
      go_enter Try.func12, Try.ntmps12
      go_wp2
      go_ret
      exact ⟨ret_bool HB.out.symm, rfl⟩
    · have HB := Lib.hid (inB_false (n := n) (low := low) (high := high) (by omega))
      go_enter Try.func12, Try.ntmps12
      go_wp2
      go_ret
      exact ⟨ret_bool HB.out.symm, rfl⟩
  · have HB := Lib.hid (inB_false (n := n) (low := low) (high := high) (by omega))
    go_enter Try.func12, Try.ntmps12
    go_wp2
    go_ret
    exact ⟨ret_bool HB.out.symm, rfl⟩

theorem l01N_any (ao : Option Addr) (S : List Int) (cap : Nat) (w : World) (hl : S.length ≤ 8) (hb : ∀ i, i < S.length → 2 ≤ gi S i ∧ gi S i ≤ 4) (hS : Ints w ao S) :
    Calls Try.prog 20 #[.agg #[.slice ao S.length cap]] w fun e w' => e = .returned (.int .i64 (prodTo S S.length)) ∧ Below w.heap.size w w' := by
  have HB := Lib.hid hb
  clear hb
  go_enter Try.func20, Try.ntmps20
  go_wp2
  go_loop [3, 4] (fun t i => ∃ k : Nat, k ≤ S.length ∧ i = .int .i64 k ∧ t = .int .i64 (prodTo S k)) (fun _ i => S.length - (intOf i).toNat)
  case atStart => exact ⟨0, Nat.zero_le _, rfl, rfl⟩
  case round =>
    obtain ⟨k, hk, rfl, rfl⟩ := hrel
    by_cases hlt : k < S.length
    · obtain ⟨b, o, rfl, hbl, hc⟩ := hS.at hlt
      have hck : ∀ o', (w.alloc o').cell? ⟨b, o + k, none⟩ = some (.int .i64 (gi S k)) := fun o' => ((Below.refl w.heap.size w).alloc (Nat.le_refl _) o').cell (p := ⟨b, o + k, none⟩) hbl |>.trans (hc k hlt)
      obtain ⟨p1, p2⟩ := prodTo_le S k (fun i hi => HB.out i (by omega)) (by omega)
      obtain ⟨q1, q2⟩ := HB.out k hlt
      have hm : 0 ≤ prodTo S k * gi S k ∧ prodTo S k * gi S k ≤ 65536 * 4 := ⟨Int.mul_nonneg (by omega) (by omega), Int.mul_le_mul p2 q2 (by omega) (by omega)⟩
      obtain ⟨m1, m2⟩ := hm
      clear hc
      go_wp2
      go_round
      case rel => exact ⟨k + 1, by omega, by go_num, rfl⟩
      case measure => simp [intOf]; omega
    · go_wp2
      go_ret
      have ek : k = S.length := by omega
      exact ⟨by rw [← ek]; rfl, by go_grown⟩

theorem wordCount_any (ao : Option Addr) (S : List Int) (cap : Nat) (w : World) (hl : S.length ≤ 8) (hb : ∀ i, i < S.length → 2 ≤ gi S i ∧ gi S i ≤ 4) (hS : Ints w ao S) :
    Calls Try.prog 22 #[.agg #[.slice ao S.length cap]] w fun e w' => e = .returned (.int .i64 (prodTo S S.length)) ∧ Below w.heap.size w w' := by
  have HB := Lib.hid hb
  clear hb
  go_enter Try.func22, Try.ntmps22
  go_wp2
  go_loop [3, 9] (fun t i => ∃ k : Nat, k ≤ S.length ∧ i = .int .i64 k ∧ t = .int .i64 (prodTo S k)) (fun _ i => S.length - (intOf i).toNat)
  case atStart => exact ⟨0, Nat.zero_le _, rfl, rfl⟩
  case round =>
    obtain ⟨k, hk, rfl, rfl⟩ := hrel
    by_cases hlt : k < S.length
    · obtain ⟨b, o, rfl, hbl, hc⟩ := hS.at hlt
      have hck : ∀ o', (w.alloc o').cell? ⟨b, o + k, none⟩ = some (.int .i64 (gi S k)) := fun o' => ((Below.refl w.heap.size w).alloc (Nat.le_refl _) o').cell (p := ⟨b, o + k, none⟩) hbl |>.trans (hc k hlt)
      obtain ⟨p1, p2⟩ := prodTo_le S k (fun i hi => HB.out i (by omega)) (by omega)
      obtain ⟨q1, q2⟩ := HB.out k hlt
      have hm : 0 ≤ prodTo S k * gi S k ∧ prodTo S k * gi S k ≤ 65536 * 4 := ⟨Int.mul_nonneg (by omega) (by omega), Int.mul_le_mul p2 q2 (by omega) (by omega)⟩
      obtain ⟨m1, m2⟩ := hm
      clear hc
      go_wp2
      go_round
      case rel => exact ⟨k + 1, by omega, by go_num, rfl⟩
      case measure => simp [intOf]; omega
    · go_wp2
      go_ret
      have ek : k = S.length := by omega
      exact ⟨by rw [← ek]; rfl, by go_grown⟩

end Go.Proofs.Ythfddfhjcadomaa
