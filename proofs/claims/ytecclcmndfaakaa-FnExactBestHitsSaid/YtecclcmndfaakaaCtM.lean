/-
  slices.Contains and slices.Max on a list that came in (parts of SpnI and Rad: never import this beside those). By an AI agent.
-/
import Derived.Test.YtecclcmndfaakaaMathB
import Derived.Test.YtecclcmndfaakaaSpace
import Derived.Shelf.Abstract
import Derived.WalkMore
namespace Go.Proofs.Ytecclcmndfaakaa
open Go.RowKit Go.Shelf Cv
set_option linter.unusedVariables false
set_option linter.unusedSimpArgs false
set_option maxRecDepth 100000

theorem max_any (al : Option Addr) (L : List Int) (cap : Nat) (h1 : 1 ≤ L.length) (hl : L.length ≤ 1048576) (hL : ∀ i, i < L.length → 0 ≤ gi L i ∧ gi L i ≤ 9223372036854775807) (w : World) (h : Ints w al L) :
    Calls Try.prog 81 #[.slice al L.length cap] w fun e w' => e = .returned (.int .i64 (mxTo L (L.length - 1))) ∧ w' = w := by
  obtain ⟨b, o, rfl, hbl, hc⟩ := h.at (show 0 < L.length by omega)
  have h0 := hc 0 (by omega)
  rw [Nat.add_zero] at h0
  have HC := Lib.hid hc
  have HL := Lib.hid hL
  have HB : Hid (∀ k, k < L.length → 0 ≤ mxTo L k ∧ mxTo L k ≤ 9223372036854775807) := Lib.hid fun k hk => mxTo_bd hL k hk
  have n1 : ¬ ((L.length : Int) < 1) := by omega
  clear hc hL h
  go_enter Try.func81, Try.ntmps81
  go_wp2_with fail
  go_loopw [3, 4] (fun m i wr => ∃ k : Nat, k < L.length ∧ i = .int .i64 ((k : Int) + 1) ∧ m = .int .i64 (mxTo L k) ∧ wr = w) (fun _ i _ => L.length + 1 - (intOf i).toNat)
  case atStart => exact ⟨0, by omega, rfl, rfl, rfl⟩
  case round =>
    obtain ⟨k, hk, rfl, rfl, rfl⟩ := hrel
    by_cases hlt : k + 1 < L.length
    · have hlI : (k : Int) + 1 < (L.length : Int) := by omega
      have hck := HC.out (k + 1) hlt
      have i1 : (0 : Int) ≤ (k : Int) + 1 := by omega
      have HS : Hid (mxTo L (k + 1) = max (mxTo L k) (gi L (k + 1))) := Lib.hid (by rw [mxTo]; split <;> omega)
      go_wp2_with fail
      go_roundw
      case rel => exact ⟨k + 1, hlt, by go_num, by first | rfl | rw [HS.out], trivial⟩
      case measure => simp [intOf]; omega
    · have ek : Hid (L.length - 1 = k) := Lib.hid (by omega)
      have hlI : ¬ (k : Int) + 1 < (L.length : Int) := by omega
      go_wp2_with fail
      go_ret
      exact ⟨by rw [ek.out]; rfl, rfl⟩

end Go.Proofs.Ytecclcmndfaakaa
