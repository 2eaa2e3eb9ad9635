/-
  The contracts of what says whether there is a space, and how many words it has. By an AI agent.
-/
import Derived.Test.YtamebfbddoeflaaPkHelp
namespace Go.Proofs.Ytamebfbddoeflaa
open Go.RowKit Cv
set_option linter.unusedVariables false
set_option linter.unusedSimpArgs false

/-- whether a number is in a range -/
def inB (n low high : Int) : Bool := decide (low ≤ n) && decide (n ≤ high)
theorem inB_true {n low high : Int} (h1 : low ≤ n) (h2 : n ≤ high) : inB n low high = true := by simp [inB, h1, h2]
theorem inB_false {n low high : Int} (h : ¬ (low ≤ n ∧ n ≤ high)) : inB n low high = false := by
  simp only [inB]
  by_cases h1 : low ≤ n
  · have h2 : ¬ n ≤ high := fun h2 => h ⟨h1, h2⟩
    simp [h1, h2]
  · simp [h1]
theorem ret_bool {a b : Bool} (h : a = b) : Ending.returned (.bool a) = .returned (.bool b) := by rw [h]

theorem l01In_any (n low high : Int) (w : World) :
    Calls Try.prog 31 #[.int .i64 n, .int .i64 low, .int .i64 high] w fun e w' => e = .returned (.bool (inB n low high)) ∧ w = w' := by
  by_cases h1 : low ≤ n
  · by_cases h2 : n ≤ high
    · have HB := Lib.hid (inB_true h1 h2)
      go_enter Try.func31, Try.ntmps31
      go_wp2
      go_ret
      exact ⟨ret_bool HB.out.symm, rfl⟩
    · have HB := Lib.hid (inB_false (n := n) (low := low) (high := high) (by omega))
      go_enter Try.func31, Try.ntmps31
      go_wp2
      go_ret
      exact ⟨ret_bool HB.out.symm, rfl⟩
  · have HB := Lib.hid (inB_false (n := n) (low := low) (high := high) (by omega))
    go_enter Try.func31, Try.ntmps31
    go_wp2
    go_ret
    exact ⟨ret_bool HB.out.symm, rfl⟩

theorem l01N_any (ao : Option Addr) (S : List Int) (cap : Nat) (w : World) (hl : S.length ≤ 8) (hb : ∀ i, i < S.length → 2 ≤ gi S i ∧ gi S i ≤ 4) (hS : Ints w ao S) :
    Calls Try.prog 42 #[.agg #[.slice ao S.length cap]] w fun e w' => e = .returned (.int .i64 (prodTo S S.length)) ∧ Below w.heap.size w w' := by
  have HB := Lib.hid hb
  clear hb
  go_enter Try.func42, Try.ntmps42
  go_wp2
  go_loop [3, 4] (fun t i => ∃ k : Nat, k ≤ S.length ∧ i = .int .i64 k ∧ t = .int .i64 (prodTo S k)) (fun _ i => S.length - (intOf i).toNat)
  case atStart => exact ⟨0, Nat.zero_le _, rfl, rfl⟩
  case round =>
    obtain ⟨k, hk, rfl, rfl⟩ := hrel
    by_cases hlt : k < S.length
    · obtain ⟨b, o, rfl, hbl, hc⟩ := hS.at hlt
      have hck : ∀ o', (w.alloc o').cell? ⟨b, o + k, none⟩ = some (.int .i64 (gi S k)) := fun o' => ((Below.refl w.heap.size w).alloc (Nat.le_refl _) o').cell (p := ⟨b, o + k, none⟩) hbl |>.trans (hc k hlt)
      obtain ⟨p1, p2⟩ := prodTo_le S k (fun i hi => HB.out i (by omega)) (by omega)
      obtain ⟨q1, q2⟩ := HB.out k hlt
      have hm : 0 ≤ prodTo S k * gi S k ∧ prodTo S k * gi S k ≤ 65536 * 4 := ⟨Int.mul_nonneg (by omega) (by omega), Int.mul_le_mul p2 q2 (by omega) (by omega)⟩
      obtain ⟨m1, m2⟩ := hm
      clear hc
      go_wp2
      go_round
      case rel => exact ⟨k + 1, by omega, by go_num, rfl⟩
      case measure => simp [intOf]; omega
    · go_wp2
      go_ret
      have ek : k = S.length := by omega
      exact ⟨by rw [← ek]; rfl, by go_grown⟩

theorem wordCount_any (ao : Option Addr) (S : List Int) (cap : Nat) (w : World) (hl : S.length ≤ 8) (hb : ∀ i, i < S.length → 2 ≤ gi S i ∧ gi S i ≤ 4) (hS : Ints w ao S) :
    Calls Try.prog 45 #[.agg #[.slice ao S.length cap]] w fun e w' => e = .returned (.int .i64 (prodTo S S.length)) ∧ Below w.heap.size w w' := by
  have HB := Lib.hid hb
  clear hb
  go_enter Try.func45, Try.ntmps45
  go_wp2
  go_loop [3, 9] (fun t i => ∃ k : Nat, k ≤ S.length ∧ i = .int .i64 k ∧ t = .int .i64 (prodTo S k)) (fun _ i => S.length - (intOf i).toNat)
  case atStart => exact ⟨0, Nat.zero_le _, rfl, rfl⟩
  case round =>
    obtain ⟨k, hk, rfl, rfl⟩ := hrel
    by_cases hlt : k < S.length
    · obtain ⟨b, o, rfl, hbl, hc⟩ := hS.at hlt
      have hck : ∀ o', (w.alloc o').cell? ⟨b, o + k, none⟩ = some (.int .i64 (gi S k)) := fun o' => ((Below.refl w.heap.size w).alloc (Nat.le_refl _) o').cell (p := ⟨b, o + k, none⟩) hbl |>.trans (hc k hlt)
      obtain ⟨p1, p2⟩ := prodTo_le S k (fun i hi => HB.out i (by omega)) (by omega)
      obtain ⟨q1, q2⟩ := HB.out k hlt
      have hm : 0 ≤ prodTo S k * gi S k ∧ prodTo S k * gi S k ≤ 65536 * 4 := ⟨Int.mul_nonneg (by omega) (by omega), Int.mul_le_mul p2 q2 (by omega) (by omega)⟩
      obtain ⟨m1, m2⟩ := hm
      clear hc
      go_wp2
      go_round
      case rel => exact ⟨k + 1, by omega, by go_num, rfl⟩
      case measure => simp [intOf]; omega
    · go_wp2
      go_ret
      have ek : k = S.length := by omega
      exact ⟨by rw [← ek]; rfl, by go_grown⟩

theorem l01Is_any (ao : Option Addr) (S : List Int) (cap : Nat) (w : World) (hn : S.length ≤ 4294967296) (hS : Ints w ao S) :
    Calls Try.prog 40 #[.agg #[.slice ao S.length cap]] w fun e w' => e = .returned (.bool (isSp S)) ∧ Below w.heap.size w w' := by
  by_cases hlen : 1 ≤ S.length ∧ S.length ≤ 8
  · obtain ⟨hl1, hl8⟩ := hlen
    have B1 := inB_true (n := (S.length : Int)) (low := 1) (high := 8) (by omega) (by omega)
    go_enter Try.func40, Try.ntmps40
    go_wp2_with (go_at_call 31; refine (l01In_any _ _ _ _).mono ?_; rintro e w' ⟨rfl, rfl⟩)
    clear B1
    go_loop [3] (fun i => ∃ k : Nat, k ≤ S.length ∧ i = .int .i64 k ∧ Hid (∀ j, j < k → 2 ≤ gi S j ∧ gi S j ≤ 4)) (fun i => S.length - (intOf i).toNat)
    case atStart => exact ⟨0, Nat.zero_le _, rfl, Lib.hid fun j h => by omega⟩
    case round =>
      obtain ⟨k, hk, rfl, HK⟩ := hrel
      by_cases hlt : k < S.length
      · obtain ⟨b, o, rfl, hbl, hc⟩ := hS.at hlt
        have hck : ∀ o', (w.alloc o').cell? ⟨b, o + k, none⟩ = some (.int .i64 (gi S k)) := fun o' => ((Below.refl w.heap.size w).alloc (Nat.le_refl _) o').cell (p := ⟨b, o + k, none⟩) hbl |>.trans (hc k hlt)
        clear hc
        by_cases hq : 2 ≤ gi S k ∧ gi S k ≤ 4
        · have B2 := inB_true (n := gi S k) (low := 2) (high := 4) hq.1 hq.2
          have HQ := Lib.hid hq
          clear hq
          go_wp2_with (go_at_call 31; refine (l01In_any _ _ _ _).mono ?_; rintro e w' ⟨rfl, rfl⟩)
          go_round
          case rel =>
            refine ⟨k + 1, by omega, by go_num, Lib.hid fun j hj => ?_⟩
            by_cases e : j = k
            · subst e; exact HQ.out
            · exact HK.out j (by omega)
          case measure => simp [intOf]; omega
        · have B2 := inB_false (n := gi S k) (low := 2) (high := 4) hq
          have HQ := Lib.hid (isSp_at hlt hq)
          clear hq
          go_wp2_with (go_at_call 31; refine (l01In_any _ _ _ _).mono ?_; rintro e w' ⟨rfl, rfl⟩)
          go_ret
          exact ⟨ret_bool HQ.out.symm, by go_grown⟩
      · have hall : ∀ j, j < S.length → 2 ≤ gi S j ∧ gi S j ≤ 4 := fun j hj => HK.out j (by omega)
        have HP := Lib.hid (isSp_prod hl1 hl8 hall)
        have HA := Lib.hid hall
        clear hall
        go_wp2_with (go_at_call 42; refine (l01N_any ao S cap _ hl8 HA.out (hS.below ((Below.refl _ _).alloc (Nat.le_refl _) _))).mono ?_; rintro e w1 ⟨rfl, hb1⟩)
        go_ret
        exact ⟨ret_bool HP.out.symm, Below.trans (by go_grown) (hb1.mono (by simp))⟩
  · have B1 := inB_false (n := (S.length : Int)) (low := 1) (high := 8) (by omega)
    have HP := Lib.hid (isSp_len hlen)
    clear hlen
    go_enter Try.func40, Try.ntmps40
    go_wp2_with (go_at_call 31; refine (l01In_any _ _ _ _).mono ?_; rintro e w' ⟨rfl, rfl⟩)
    go_ret
    exact ⟨ret_bool HP.out.symm, by go_grown⟩

theorem IsSpace_any (ao : Option Addr) (S : List Int) (cap : Nat) (w : World) (hn : S.length ≤ 4294967296) (hS : Ints w ao S) :
    Calls Try.prog 35 #[.agg #[.slice ao S.length cap]] w fun e w' => e = .returned (.bool (isSp S)) ∧ Below w.heap.size w w' := by
  by_cases hlen : 1 ≤ S.length ∧ S.length ≤ 8
  · obtain ⟨hl1, hl8⟩ := hlen
    go_enter Try.func35, Try.ntmps35
    go_wp2_with fail
    go_loop [18] (fun i => ∃ k : Nat, k ≤ S.length ∧ i = .int .i64 k ∧ Hid (∀ j, j < k → 2 ≤ gi S j ∧ gi S j ≤ 4)) (fun i => S.length - (intOf i).toNat)
    case atStart => exact ⟨0, Nat.zero_le _, rfl, Lib.hid fun j h => by omega⟩
    case round =>
      obtain ⟨k, hk, rfl, HK⟩ := hrel
      by_cases hlt : k < S.length
      · obtain ⟨b, o, rfl, hbl, hc⟩ := hS.at hlt
        have hck : ∀ o', (w.alloc o').cell? ⟨b, o + k, none⟩ = some (.int .i64 (gi S k)) := fun o' => ((Below.refl w.heap.size w).alloc (Nat.le_refl _) o').cell (p := ⟨b, o + k, none⟩) hbl |>.trans (hc k hlt)
        clear hc
        by_cases hq : 2 ≤ gi S k
        · by_cases hq2 : gi S k ≤ 4
          · have HQ := Lib.hid (And.intro hq hq2)
            go_wp2_with fail
            go_round
            case rel =>
              refine ⟨k + 1, by omega, by go_num, Lib.hid fun j hj => ?_⟩
              by_cases e : j = k
              · subst e; exact HQ.out
              · exact HK.out j (by omega)
            case measure => simp [intOf]; omega
          · have HQ := Lib.hid (isSp_at hlt (by omega))
            go_wp2_with fail
            go_ret
            exact ⟨ret_bool HQ.out.symm, by go_grown⟩
        · have HQ := Lib.hid (isSp_at hlt (by omega))
          go_wp2_with fail
          go_ret
          exact ⟨ret_bool HQ.out.symm, by go_grown⟩
      · have hall : ∀ j, j < S.length → 2 ≤ gi S j ∧ gi S j ≤ 4 := fun j hj => HK.out j (by omega)
        have HP := Lib.hid (isSp_prod hl1 hl8 hall)
        have HA := Lib.hid hall
        clear hall
        go_wp2_with (go_at_call 45; refine (wordCount_any ao S cap _ hl8 HA.out (hS.below ((Below.refl _ _).alloc (Nat.le_refl _) _))).mono ?_; rintro e w1 ⟨rfl, hb1⟩)
        go_ret
        exact ⟨ret_bool HP.out.symm, Below.trans (by go_grown) (hb1.mono (by simp))⟩
  · have HP := Lib.hid (isSp_len hlen)
    by_cases h1 : 1 ≤ S.length
    · have h8 : 8 < S.length := by omega
      clear hlen
      go_enter Try.func35, Try.ntmps35
      go_wp2_with fail
      go_ret
      exact ⟨ret_bool HP.out.symm, by go_grown⟩
    · clear hlen
      go_enter Try.func35, Try.ntmps35
      go_wp2_with fail
      go_ret
      exact ⟨ret_bool HP.out.symm, by go_grown⟩


end Go.Proofs.Ytamebfbddoeflaa
