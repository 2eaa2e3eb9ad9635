/-
  The contract of math/bits.Len64, laid by the library's own theorem. By an AI agent.
-/
import Derived.Shelf.Strconv.Itoa0
import Derived.Lib.ItoaNum
import Derived.Test.YtcbkmmadejbbpaaSet8
namespace Go.Proofs
open Go.Shelf
def Try.lLen_ren : Go.Shelf.Ren := ⟨fun | 129 => 122 | n => n, fun | 53 => 79 | 3 => 3 | 4 => 4 | 46 => 142 | 5 => 5 | 9 => 9 | n => n, fun | n => n⟩
theorem Try.lLen : Go.Proofs.Lays.n129 Try.prog Try.lLen_ren := {
  mixed := by kernel_rfl
  f129 := Try.func122.trans (congrArg some (by kernel_rfl))
  t3 := Try.underlying3
  a3 := Try.isAgg3
  z3 := Try.sizeOf3
  v3 := Try.zeroValue3
  t4 := Try.underlying4
  a4 := Try.isAgg4
  z4 := Try.sizeOf4
  v4 := Try.zeroValue4
  t5 := Try.underlying5
  a5 := Try.isAgg5
  z5 := Try.sizeOf5
  v5 := Try.zeroValue5
  t9 := Try.underlying9
  a9 := Try.isAgg9
  z9 := Try.sizeOf9
  v9 := Try.zeroValue9
  t46 := Try.underlying142
  a46 := Try.isAgg142
  z46 := Try.sizeOf142
  v46 := Try.zeroValue142
  t53 := Try.underlying79
  a53 := Try.isAgg79
  z53 := Try.sizeOf79
  v53 := Try.zeroValue79 }
end Go.Proofs
namespace Go.Proofs.Ytcbkmmadejbbpaa
open Go.RowKit Cv
set_option linter.unusedVariables false
set_option linter.unusedSimpArgs false
set_option maxRecDepth 100000

theorem len64_any (m : Nat) (hm : m < 4096) (w : World) :
    Calls Try.prog 122 #[.int .u64 (m : Int)] w fun e w' => (∃ L : Nat, e = .returned (.int .i64 (L : Int)) ∧ L ≤ 12 ∧ m < 2 ^ L) ∧ w' = w := by
  refine (Any.bits_Len64 Try.lLen (m : Int) w (by omega) (by omega)).mono ?_
  rintro e w' ⟨rfl, hw⟩
  rw [Int.toNat_natCast]
  by_cases h0 : m = 0
  · subst h0; exact ⟨⟨_, rfl, by decide, by decide⟩, hw⟩
  · obtain ⟨a, b, c⟩ := Lib.bitLenAux_bounds 64 m (by omega) h0
    refine ⟨⟨_, rfl, ?_, c⟩, hw⟩
    show Lib.bitLenAux 64 m ≤ 12
    generalize Lib.bitLenAux 64 m = L at a b c
    have : L - 1 < 12 := by
      rcases Nat.lt_or_ge (L - 1) 12 with h | h
      · exact h
      · have h2 : 2 ^ 12 ≤ 2 ^ (L - 1) := Nat.pow_le_pow_right (by omega) h
        omega
    omega

set_option maxHeartbeats 1000000 in
theorem membersOf_any (m : Nat) (hm : m < 4096) (w : World) :
    Calls Try.prog 92 #[.int .i64 (m : Int)] w fun e w' => ∃ v, e = .returned v ∧ OwnInts w' w.heap.size v (memL m) ∧ Below w.heap.size w w' := by
  have hu : IntKind.u64.wrap (m : Int) = (m : Int) := by unfold IntKind.wrap; simp [IntKind.signed, IntKind.bits]; omega
  go_enter Try.func92, Try.ntmps92
  go_wp2_with fail
  refine (len64_any m hm _).mono ?_
  rintro e w1 ⟨⟨L, rfl, hL, hLm⟩, rfl⟩
  have HM := Lib.hid (memL_of hLm hL)
  clear hLm hu
  go_wp2_with fail
  go_loopw [3, 9] (fun v i wr => ∃ k : Nat, k ≤ L ∧ i = .int .i64 k ∧ OwnInts wr w.heap.size v (selL (bitN m) k) ∧ Below w.heap.size w wr) (fun _ i _ => L - (intOf i).toNat)
  case atStart => exact ⟨0, Nat.zero_le _, rfl, own_empty w w.heap.size (Nat.le_refl _) rfl, (Below.refl _ w).alloc (Nat.le_refl _) _⟩
  case round =>
    obtain ⟨k, hk, rfl, own, B⟩ := hrel
    have hl := selL_len (bitN m) k
    have hz := B.size
    by_cases hlt : k < L
    · have hs := selL_succ (bitN m) k
      have hsh : ((m : Int) / 2 ^ k) = ((m / 2 ^ k : Nat) : Int) := by push_cast; rfl
      have hlo : m / 2 ^ k < 4096 := Nat.lt_of_le_of_lt (Nat.div_le_self _ _) hm
      have hb : bits .and .i64 ((m : Int) / 2 ^ k) 1 = ((m / 2 ^ k % 2 : Nat) : Int) := by
        rw [hsh]
        have := bits_andN (a := m / 2 ^ k) (b := 1) (by omega) (by omega)
        rw [Nat.and_one_is_mod] at this
        exact this
      clear hsh hlo
      cases hbt : bitN m k with
      | true =>
        have e1 : m / 2 ^ k % 2 = 1 := by unfold bitN at hbt; simpa using hbt
        rw [e1] at hb
        rw [hbt, if_pos rfl] at hs
        have HS := Lib.hid hs
        clear hs e1
        go_wp2_with (at_builtin; refine wpList_append_int rfl _ _ rfl w.heap.size _ _ rfl (own.alloc _) wr.heap.size _ rfl (cell_new _ _ _) (by omega) (by simp; omega) ?_; intro v' w4 hown' hgrow)
        have hgb := grown_below (B.alloc B.size _) (by simp; omega) hgrow (own.alloc _) (Nat.le_refl _)
        clear hb own hgrow
        go_wp2_with fail
        go_roundw
        case rel => exact ⟨k + 1, by omega, by go_num, by rw [HS.out]; exact hown', hgb⟩
        case measure => simp [intOf]; omega
      | false =>
        have e1 : m / 2 ^ k % 2 = 0 := by unfold bitN at hbt; simp at hbt; omega
        rw [e1] at hb
        rw [hbt, if_neg (by decide), List.append_nil] at hs
        have HS := Lib.hid hs
        clear hs e1
        go_wp2_with fail
        clear hb
        go_roundw
        case rel => exact ⟨k + 1, by omega, by go_num, by rw [HS.out]; exact own, B⟩
        case measure => simp [intOf]; omega
    · have ek : Hid (k = L) := Lib.hid (by omega)
      go_wp2_with fail
      go_ret
      exact ⟨_, rfl, by rw [← HM.out, ← ek.out]; exact own, B⟩

end Go.Proofs.Ytcbkmmadejbbpaa
