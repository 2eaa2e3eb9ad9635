/-
  slices.Contains and slices.Max on a list that came in (parts of SpnI and Rad: never import this beside those). By an AI agent.
-/
import Derived.Test.YtcbkmmadejbbpaaMathB
import Derived.Test.YtcbkmmadejbbpaaSpace
import Derived.Shelf.Abstract
import Derived.WalkMore
namespace Go.Proofs.Ytcbkmmadejbbpaa
open Go.RowKit Go.Shelf Cv
set_option linter.unusedVariables false
set_option linter.unusedSimpArgs false
set_option maxRecDepth 100000

theorem contains_any (at' : Option Addr) (T : List Int) (cap : Nat) (x : Int) (hl : T.length ≤ 4294967296) (w : World) (hT : Ints w at' T) :
    Calls Try.prog 111 #[.slice at' T.length cap, .int .i64 x] w fun e w' => e = .returned (.bool (decide (x ∈ T))) ∧ w = w' := by
  have hidx : Calls Try.prog 134 #[.slice at' T.length cap, .int .i64 x] w fun e w' => ∃ r : Int, e = .returned (.int .i64 r) ∧ Hid (decide (x ∈ T) = decide (0 ≤ r)) ∧ w = w' := by
    go_enter Try.func134, Try.ntmps134
    go_wp2_with fail
    go_loopw [8] (fun i wr => ∃ k : Nat, k ≤ T.length ∧ i = .int .i64 k ∧ Hid (∀ j, j < k → gi T j ≠ x) ∧ wr = w) (fun i _ => T.length - (intOf i).toNat)
    case atStart => exact ⟨0, Nat.zero_le _, rfl, Lib.hid fun j hj => by omega, rfl⟩
    case round =>
      obtain ⟨k, hk, rfl, HA, rfl⟩ := hrel
      by_cases hlt : k < T.length
      · obtain ⟨b, o, rfl, hbl, hc⟩ := hT.at hlt
        have hck := hc k hlt
        clear hc
        by_cases he : gi T k = x
        · have hq : (x == gi T k) = true := by simpa using he.symm
          have HX : Hid (decide (x ∈ T) = decide (0 ≤ (k : Int))) := Lib.hid (by rw [decide_eq_true (show (0 : Int) ≤ (k : Int) by omega), decide_eq_true_eq, ← he]; exact gi_mem hlt)
          clear he
          go_wp2_with fail
          go_ret
          exact ⟨_, rfl, HX, rfl⟩
        · have hq : (x == gi T k) = false := by simpa using fun h => he h.symm
          have HX := Lib.hid he
          clear he
          go_wp2_with fail
          go_roundw
          case rel =>
            refine ⟨k + 1, by omega, by go_num, Lib.hid fun j hj => ?_, by first | rfl | trivial⟩
            by_cases e : j = k
            · subst e; exact HX.out
            · exact HA.out j (by omega)
          case measure => simp [intOf]; omega
      · have HX : Hid (decide (x ∈ T) = decide (0 ≤ (-1 : Int))) := Lib.hid (by
          rw [decide_eq_false (show ¬ (0 : Int) ≤ -1 by omega), decide_eq_false_iff_not]; intro hm
          obtain ⟨j, hj, e⟩ := mem_gi hm
          exact HA.out j (by omega) e)
        go_wp2_with fail
        go_ret
        exact ⟨_, rfl, HX, rfl⟩
  go_enter Try.func111, Try.ntmps111
  go_wp2_with fail
  refine hidx.mono ?_
  rintro e w1 ⟨r, rfl, HX, rfl⟩
  go_wp2_with fail
  go_ret
  exact ⟨ret_bool HX.out.symm, rfl⟩

theorem max_any (al : Option Addr) (L : List Int) (cap : Nat) (h1 : 1 ≤ L.length) (hl : L.length ≤ 1048576) (hL : ∀ i, i < L.length → 0 ≤ gi L i ∧ gi L i ≤ 9223372036854775807) (w : World) (h : Ints w al L) :
    Calls Try.prog 110 #[.slice al L.length cap] w fun e w' => e = .returned (.int .i64 (mxTo L (L.length - 1))) ∧ w' = w := by
  obtain ⟨b, o, rfl, hbl, hc⟩ := h.at (show 0 < L.length by omega)
  have h0 := hc 0 (by omega)
  rw [Nat.add_zero] at h0
  have HC := Lib.hid hc
  have HL := Lib.hid hL
  have HB : Hid (∀ k, k < L.length → 0 ≤ mxTo L k ∧ mxTo L k ≤ 9223372036854775807) := Lib.hid fun k hk => mxTo_bd hL k hk
  have n1 : ¬ ((L.length : Int) < 1) := by omega
  clear hc hL h
  go_enter Try.func110, Try.ntmps110
  go_wp2_with fail
  go_loopw [3, 4] (fun m i wr => ∃ k : Nat, k < L.length ∧ i = .int .i64 ((k : Int) + 1) ∧ m = .int .i64 (mxTo L k) ∧ wr = w) (fun _ i _ => L.length + 1 - (intOf i).toNat)
  case atStart => exact ⟨0, by omega, rfl, rfl, rfl⟩
  case round =>
    obtain ⟨k, hk, rfl, rfl, rfl⟩ := hrel
    by_cases hlt : k + 1 < L.length
    · have hlI : (k : Int) + 1 < (L.length : Int) := by omega
      have hck := HC.out (k + 1) hlt
      have i1 : (0 : Int) ≤ (k : Int) + 1 := by omega
      have HS : Hid (mxTo L (k + 1) = max (mxTo L k) (gi L (k + 1))) := Lib.hid (by rw [mxTo]; split <;> omega)
      go_wp2_with fail
      go_roundw
      case rel => exact ⟨k + 1, hlt, by go_num, by first | rfl | rw [HS.out], trivial⟩
      case measure => simp [intOf]; omega
    · have ek : Hid (L.length - 1 = k) := Lib.hid (by omega)
      have hlI : ¬ (k : Int) + 1 < (L.length : Int) := by omega
      go_wp2_with fail
      go_ret
      exact ⟨by rw [ek.out]; rfl, rfl⟩

end Go.Proofs.Ytcbkmmadejbbpaa
