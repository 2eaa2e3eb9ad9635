/-
  The contracts of the model's ball size. By an AI agent.
-/
import Derived.Test.YtlhapanfegjafaaMath
import Derived.Test.YtlhapanfegjafaaErr2
import Derived.Test.YtlhapanfegjafaaSums2
import Derived.StillTailTactics
import Derived.BigRegion
import Derived.IntWalk
namespace Go.Proofs.Ytlhapanfegjafaa
open Go.RowKit Cv
set_option linter.unusedVariables false
set_option linter.unusedSimpArgs false
set_option maxRecDepth 100000

set_option maxHeartbeats 2000000 in
theorem l01Size_any (ao : Option Addr) (S : List Int) (cap : Nat) (hSp : Sp S) (r : Int) (hr0 : 0 ≤ r) (hr8 : r ≤ 8) (w : World) (hS : Ints w ao S) :
    Calls Try.prog 43 #[.agg #[.slice ao S.length cap], .int .i64 r] w fun e w' => e = .returned (.int .i64 (sizeN S r)) ∧ Below w.heap.size w w' := by
  obtain ⟨i0, hi, hz0, hz1, hz2⟩ := info_parts infoI64
  have hlo := hSp.lo
  have hhi := hSp.hi
  have HSp := Lib.hid hSp
  clear hSp
  go_enter Try.func43, Try.ntmps43
  have c0 := cell_new w (.slice ao S.length cap) 26
  have l0 := lt_alloc w (.cells #[.slice ao S.length cap] 26)
  have B0 : Below w.heap.size w (w.alloc (.cells #[.slice ao S.length cap] 26)) := by go_grown
  go_wp2_with (at_make; refine wpList_make_full _ rfl _ _ 24 rfl w.heap.size 2 i0 (.int .i64 0) 1 Try.underlying24 hi hz0 hz1 .i64 .i64 ((S.length : Int) + 1) ((S.length : Int) + 1) (S.length + 1) rfl rfl (by simp) (by simp) (by rw [hz2]; omega) (by unfold maxLen; omega) (by simp) ?_; intro w2 hown hgrow; have hb2 := below_grown0 hgrow; have c2 := kept_cell hb2 c0 l0; have l2 := lt_of_below hb2 l0; have B2 := B0.trans (hb2.mono B0.size); replace hown := own_made hown; rw [World.size_alloc] at hown; have hc00 := hown.cell (k := 0) (by simp); have hf00 := hown.free 0; clear hgrow hb2 c0 l0 B0)
  have own := hown.stored 0 1
  have c3 := cell_set_other (a := ⟨w.heap.size + 1, 0, none⟩) (u := .int .i64 1) c2 (by simp)
  have l3 : w.heap.size < (w2.setCell ⟨w.heap.size + 1, 0, none⟩ (.int .i64 1)).heap.size := by simpa using l2
  have B3 : Below w.heap.size w (w2.setCell ⟨w.heap.size + 1, 0, none⟩ (.int .i64 1)) := B2.setCell (by simp) _
  clear hown hc00 hf00 c2 l2 B2
  go_loopw [6] (fun i wr => ∃ (k : Nat) (T : List Int), k ≤ S.length ∧ i = .int .i64 k ∧ OwnInts wr w.heap.size (.slice (some ⟨w.heap.size + 1, 0, none⟩) (S.length + 1) (S.length + 1)) T ∧ Hid (T.length = S.length + 1 ∧ ∀ j, j < S.length + 1 → gi T j = coef S k j) ∧ wr.cell? ⟨w.heap.size, 0, none⟩ = some (.slice ao S.length cap) ∧ w.heap.size < wr.heap.size ∧ Below w.heap.size w wr)
    (fun i _ => S.length - (intOf i).toNat)
  case atStart =>
    refine ⟨0, _, Nat.zero_le _, rfl, own, Lib.hid ⟨by simp, fun j hj => ?_⟩, c3, l3, B3⟩
    rw [gi_set _ _ _ _ (by simp)]
    by_cases e : j = 0
    · subst e; rfl
    · rw [if_neg e, gi_rep0, coef_zero S 0 j (by omega)]
  case round =>
    clear own c3 l3 B3
    obtain ⟨i, T, hk, rfl, own, HT, c, l, B⟩ := hrel
    by_cases hlt : i < S.length
    · go_wp2_with fail
      go_loopw [7] (fun t wi => ∃ (k : Nat) (U : List Int), k ≤ i + 1 ∧ t = .int .i64 k ∧ OwnInts wi w.heap.size (.slice (some ⟨w.heap.size + 1, 0, none⟩) (S.length + 1) (S.length + 1)) U ∧ Hid (U.length = S.length + 1 ∧ ∀ j, j < S.length + 1 → gi U j = if j ≤ k then coef S i j else coef S (i + 1) j) ∧ wi.cell? ⟨w.heap.size, 0, none⟩ = some (.slice ao S.length cap) ∧ w.heap.size < wi.heap.size ∧ Below w.heap.size w wi)
        (fun t _ => (intOf t).toNat)
      case atStart =>
        refine ⟨i + 1, T, Nat.le_refl _, by go_num, own, Lib.hid ⟨HT.out.1, fun j hj => ?_⟩, c, l, B⟩
        by_cases e : j ≤ i + 1
        · rw [if_pos e, HT.out.2 j hj]
        · rw [if_neg e, HT.out.2 j hj, coef_zero S i j (by omega), coef_zero S (i + 1) j (by omega)]
      case round =>
        clear own c l B
        obtain ⟨k, U, hki, rfl, own, HU, c, l, B⟩ := hrel
        by_cases hk0 : 0 < k
        · obtain ⟨j, rfl⟩ : ∃ j, k = j + 1 := ⟨k - 1, by omega⟩
          obtain ⟨b, o, rfl, hbl, hc⟩ := hS.at hlt
          have hcs : wr.cell? ⟨b, o + i, none⟩ = some (.int .i64 (gi S i)) := kept_cell B (hc i hlt) hbl
          have ca := own.cell (k := j + 1) (by rw [HU.out.1]; omega)
          have cb := own.cell (k := j) (by rw [HU.out.1]; omega)
          rw [HU.out.2 _ (by omega), if_pos (Nat.le_refl _)] at ca
          rw [HU.out.2 _ (by omega), if_pos (by omega)] at cb
          have hfree := own.free (j + 1)
          obtain ⟨q1, q2⟩ := HSp.out.bd i hlt
          obtain ⟨a1, a2⟩ := coef_le S i (fun z hz => HSp.out.bd z (by omega)) (by omega) (j + 1)
          obtain ⟨b1, b2⟩ := coef_le S i (fun z hz => HSp.out.bd z (by omega)) (by omega) j
          have m1 : 0 ≤ coef S i j * (gi S i - 1) := Int.mul_nonneg b1 (by omega)
          have m2 : coef S i j * (gi S i - 1) ≤ 65536 * 3 := Int.mul_le_mul b2 (by omega) (by omega) (by omega)
          have E1 : IntKind.i64.wrap ((j : Int) + 1 - 1) = (j : Int) := by rw [Int.add_sub_cancel]; exact IntWalk.i64_in _ ⟨by omega, by omega⟩
          have E1' : IntKind.i64.wrap (j : Int) = (j : Int) := IntWalk.i64_in _ ⟨by omega, by omega⟩
          have E2 : IntKind.i64.wrap (gi S i - 1) = gi S i - 1 := IntWalk.i64_in _ ⟨by omega, by omega⟩
          have E3 : IntKind.i64.wrap (coef S i j * (gi S i - 1)) = coef S i j * (gi S i - 1) := IntWalk.i64_in _ ⟨by omega, by omega⟩
          have E4 : IntKind.i64.wrap (coef S i (j + 1) + coef S i j * (gi S i - 1)) = coef S i (j + 1) + coef S i j * (gi S i - 1) := IntWalk.i64_in _ ⟨by omega, by omega⟩
          have i1 : (j : Int) < (S.length : Int) + 1 := by omega
          have i2 : (j : Int) + 1 < (S.length : Int) + 1 := by omega
          have i3 : (0 : Int) ≤ (j : Int) := by omega
          have i4 : (0 : Int) ≤ (j : Int) + 1 := by omega
          clear hc
          go_wp2_with fail
          go_still_tail 19, (by kernel_rfl)
          clear E1 E1' E2 E3 E4 i1 i2 i3 i4
          change wpList _ _ _ _ _ wr.drew
          go_wp2
          go_roundw
          case rel =>
            refine ⟨j, _, by omega, by go_num, own.drew.stored (j + 1) (coef S i (j + 1) + coef S i j * (gi S i - 1)), Lib.hid ⟨by rw [List.length_set]; exact HU.out.1, fun z hz => ?_⟩, cell_set_other c (by simp), by simpa using l, B.drew.setCell (by simp) _⟩
            rw [gi_set _ _ _ _ (by rw [HU.out.1]; omega)]
            by_cases e : z = j + 1
            · subst e
              rw [if_pos rfl, if_neg (by omega), coef_step]
            · rw [if_neg e, HU.out.2 z hz]
              by_cases e2 : z ≤ j
              · rw [if_pos e2, if_pos (by omega)]
              · rw [if_neg e2, if_neg (by omega)]
          case measure => simp [intOf]
        · have ek : k = 0 := by omega
          subst ek
          go_wp2
          go_roundw
          case rel =>
            refine ⟨i + 1, U, by omega, by go_num, own, Lib.hid ⟨HU.out.1, fun z hz => ?_⟩, c, l, B⟩
            rw [HU.out.2 z hz]
            by_cases e2 : z ≤ 0
            · obtain rfl : z = 0 := by omega
              rw [if_pos e2]; rfl
            · rw [if_neg e2]
          case measure => simp [intOf]; omega
    · have ei : i = S.length := by omega
      subst ei
      have HB := Lib.hid (sumB_bd (coef S S.length) 65536 (fun k => coef_le S S.length HSp.out.bd hhi k))
      have HC := Lib.hid (fun k => coef_le S S.length HSp.out.bd hhi k)
      go_wp2_with fail
      go_loop [8, 9] (fun t u => ∃ k : Nat, k ≤ S.length + 1 ∧ (k : Int) ≤ r + 1 ∧ u = .int .i64 k ∧ t = .int .i64 (sumB (coef S S.length) k)) (fun _ u => S.length + 1 - (intOf u).toNat)
      case atStart => exact ⟨0, by omega, by omega, rfl, rfl⟩
      case round =>
        obtain ⟨k, hk1, hk2, rfl, rfl⟩ := hrel
        by_cases hka : (k : Int) < (S.length : Int) + 1
        · by_cases hkr : (k : Int) ≤ r
          · have ck := own.cell (k := k) (by rw [HT.out.1]; omega)
            rw [HT.out.2 _ (by omega)] at ck
            obtain ⟨b1, b2⟩ := HB.out k
            obtain ⟨b3, b4⟩ := HC.out k
            have b5 : sumB (coef S S.length) k ≤ 9 * 65536 := by
              have : (k : Int) * 65536 ≤ 9 * 65536 := Int.mul_le_mul_of_nonneg_right (by omega) (by omega)
              omega
            have HS1 : Hid (sumB (coef S S.length) (k + 1) = sumB (coef S S.length) k + coef S S.length k) := Lib.hid rfl
            go_wp2
            go_round
            case rel => exact ⟨k + 1, by omega, by omega, by go_num, by rw [HS1.out]⟩
            case measure => simp [intOf]; omega
          · have HZ := Lib.hid (sizeN_B S r hr0 k (.inr (by omega)))
            go_wp2
            go_ret
            exact ⟨ret_int (by rw [HZ.out]), B⟩
        · have HZ := Lib.hid (sizeN_B S r hr0 k (.inl ⟨by omega, hk2⟩))
          go_wp2
          go_ret
          exact ⟨ret_int (by rw [HZ.out]), B⟩

end Go.Proofs.Ytlhapanfegjafaa
