/-
  The contracts of the signs of a set. By an AI agent.
-/
import Derived.Test.YtcbkmmadejbbpaaMathU
import Derived.Test.YtcbkmmadejbbpaaAppend
namespace Go.Proofs.Ytcbkmmadejbbpaa
open Go.RowKit Cv
set_option linter.unusedVariables false
set_option linter.unusedSimpArgs false
set_option maxRecDepth 100000

theorem bit_all : ∀ (t : Fin 16) (k : Fin 4), bits .and .i64 (((t : Nat) : Int) / 2 ^ (k : Nat)) 1 = if bitI ((t : Nat) : Int) (k : Nat) = true then 1 else 0 := by decide
theorem bit_and1 {t : Int} (h0 : 0 ≤ t) (h1 : t < 16) {k : Nat} (hk : k < 4) : bits .and .i64 (t / 2 ^ k) 1 = if bitI t k = true then 1 else 0 := by
  obtain ⟨m, rfl⟩ := Int.eq_ofNat_of_zero_le h0
  exact bit_all ⟨m, by omega⟩ ⟨k, hk⟩

set_option maxHeartbeats 1000000 in
theorem l07Signs_any (t : Int) (h0 : 0 ≤ t) (h1 : t < 16) (w : World) :
    Calls Try.prog 88 #[.int .i64 t] w fun e w' => ∃ v, e = .returned v ∧ OwnInts w' w.heap.size v (sgL t) ∧ Below w.heap.size w w' := by
  go_enter Try.func88, Try.ntmps88
  go_wp2_with fail
  go_loopw [3, 4] (fun v i wr => ∃ k : Nat, k ≤ 4 ∧ i = .int .i64 k ∧ OwnInts wr w.heap.size v (selL (bitI t) k) ∧ Below w.heap.size w wr) (fun _ i _ => 4 - (intOf i).toNat)
  case atStart => exact ⟨0, Nat.zero_le _, rfl, own_empty w w.heap.size (Nat.le_refl _) rfl, (Below.refl _ w).alloc (Nat.le_refl _) _⟩
  case round =>
    obtain ⟨k, hk, rfl, own, B⟩ := hrel
    have hl := selL_len (bitI t) k
    have hz := B.size
    by_cases hlt : k < 4
    · have hb := bit_and1 h0 h1 hlt
      have hs := selL_succ (bitI t) k
      cases hbt : bitI t k with
      | true =>
        rw [hbt, if_pos rfl] at hb
        rw [hbt, if_pos rfl] at hs
        have HS := Lib.hid hs
        clear hs
        go_wp2_with (at_builtin; refine wpList_append_int rfl _ _ rfl w.heap.size _ _ rfl (own.alloc _) wr.heap.size _ rfl (cell_new _ _ _) (by omega) (by simp; omega) ?_; intro v' w4 hown' hgrow)
        have hgb := grown_below (B.alloc B.size _) (by simp; omega) hgrow (own.alloc _) (Nat.le_refl _)
        clear hb own hgrow
        go_wp2_with fail
        go_roundw
        case rel => exact ⟨k + 1, by omega, by go_num, by rw [HS.out]; exact hown', hgb⟩
        case measure => simp [intOf]; omega
      | false =>
        rw [hbt, if_neg (by decide)] at hb
        rw [hbt, if_neg (by decide), List.append_nil] at hs
        have HS := Lib.hid hs
        clear hs
        go_wp2_with fail
        clear hb
        go_roundw
        case rel => exact ⟨k + 1, by omega, by go_num, by rw [HS.out]; exact own, B⟩
        case measure => simp [intOf]; omega
    · have ek : Hid (k = 4) := Lib.hid (by omega)
      go_wp2_with fail
      go_ret
      exact ⟨_, rfl, by have := ek.out; subst this; exact own, B⟩

end Go.Proofs.Ytcbkmmadejbbpaa
