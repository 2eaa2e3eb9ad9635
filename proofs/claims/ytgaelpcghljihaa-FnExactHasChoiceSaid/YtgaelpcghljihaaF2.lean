/-
  The contracts of WordOf, OppositeWord and ChangeDigit. By an AI agent.
-/
import Derived.Test.YtgaelpcghljihaaF1
namespace Go.Proofs.Ytgaelpcghljihaa
open Go.RowKit Cv
set_option linter.unusedVariables false
set_option linter.unusedSimpArgs false
set_option maxRecDepth 100000

set_option maxHeartbeats 1000000 in
theorem areDigits_any (ao : Option Addr) (S : List Int) (cap : Nat) (hn : S.length ≤ 4294967296) (ad : Option Addr) (D : List Int) (capd : Nat) (hnd : D.length ≤ 4294967296) (w : World) (hS : Ints w ao S) (hD : Ints w ad D) :
    Calls Try.prog 165 #[.agg #[.slice ao S.length cap], .slice ad D.length capd] w fun e w' => e = .returned (.bool (dgB S D)) ∧ Below w.heap.size w w' := by
  have Bx : ∀ o, Below w.heap.size w (w.alloc o) := fun o => (Below.refl _ _).alloc (Nat.le_refl _) _
  by_cases hl : D.length = S.length
  · have HL := Lib.hid hl
    rw [hl]
    clear hl
    go_enter Try.func165, Try.ntmps165
    go_wp2_with fail
    go_loop [16] (fun i => ∃ k : Nat, k ≤ S.length ∧ i = .int .i64 k ∧ Hid (∀ j, j < k → 0 ≤ gi D j ∧ gi D j < gi S j)) (fun i => S.length - (intOf i).toNat)
    case atStart => exact ⟨0, Nat.zero_le _, rfl, Lib.hid fun j h => by omega⟩
    case round =>
      obtain ⟨k, hk, rfl, HK⟩ := hrel
      by_cases hlt : k < S.length
      · obtain ⟨b, o, rfl, hbl, hc⟩ := hS.at hlt
        have hck : ∀ x, (w.alloc x).cell? ⟨b, o + k, none⟩ = some (.int .i64 (gi S k)) := fun x => kept_cell (Bx x) (hc k hlt) hbl
        obtain ⟨b', o', rfl, hbl', hc'⟩ := hD.at (i := k) (by rw [HL.out]; exact hlt)
        have hck' : ∀ x, (w.alloc x).cell? ⟨b', o' + k, none⟩ = some (.int .i64 (gi D k)) := fun x => kept_cell (Bx x) (hc' k (by rw [HL.out]; exact hlt)) hbl'
        clear hc hc'
        by_cases hq : 0 ≤ gi D k
        · by_cases hq2 : gi D k < gi S k
          · have HQ := Lib.hid (And.intro hq hq2)
            go_wp2_with fail
            go_round
            case rel =>
              refine ⟨k + 1, by omega, by go_num, Lib.hid fun j hj => ?_⟩
              by_cases e : j = k
              · subst e; exact HQ.out
              · exact HK.out j (by omega)
            case measure => simp [intOf]; omega
          · have HQ := Lib.hid (dgB_bad (S := S) (D := D) hlt (by omega))
            go_wp2_with fail
            go_ret
            exact ⟨ret_bool HQ.out.symm, by go_grown⟩
        · have HQ := Lib.hid (dgB_bad (S := S) (D := D) hlt (by omega))
          go_wp2_with fail
          go_ret
          exact ⟨ret_bool HQ.out.symm, by go_grown⟩
      · have HQ := Lib.hid (dgB_ok HL.out fun i hi => HK.out i (by omega))
        go_wp2_with fail
        go_ret
        exact ⟨ret_bool HQ.out.symm, by go_grown⟩
  · have HQ := Lib.hid (dgB_len hl)
    have hne : ((D.length : Int) == (S.length : Int)) = false := by simp; omega
    have hne2 : ((D.length : Int) != (S.length : Int)) = true := by simp; omega
    go_enter Try.func165, Try.ntmps165
    go_wp2_with fail
    go_ret
    exact ⟨ret_bool HQ.out.symm, by go_grown⟩

theorem l01In_w (n low high : Int) (w : World) :
    Calls Try.prog 62 #[.int .i64 n, .int .i64 low, .int .i64 high] w fun e w' => e = .returned (.bool (inB n low high)) ∧ w' = w :=
  (l01In_any n low high w).mono fun _ _ ⟨a, b⟩ => ⟨a, b.symm⟩

end Go.Proofs.Ytgaelpcghljihaa
