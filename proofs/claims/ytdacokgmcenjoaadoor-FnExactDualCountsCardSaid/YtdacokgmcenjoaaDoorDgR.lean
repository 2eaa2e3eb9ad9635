/-
  The contract of a check by its digits. By an AI agent.
-/
import Derived.Test.YtdacokgmcenjoaaDoorOnes
import Derived.Test.YtdacokgmcenjoaaDoorSums
import Derived.Test.YtdacokgmcenjoaaDoorF3
import Derived.Test.YtdacokgmcenjoaaDoorRoS
namespace Go.Proofs.YtdacokgmcenjoaaDoor
open Go.RowKit Cv
set_option linter.unusedVariables false
set_option linter.unusedSimpArgs false
set_option maxRecDepth 100000

theorem sumTo_pr (S : List Int) (c x : Int) (T : List Int) (h : ∀ j, j < S.length → gi T j = dig S x j * dig S c j) (k : Nat) (hk : k ≤ S.length) : sumTo T k = prTo S c x k := by
  induction k with
  | zero => rfl
  | succ k ih => rw [sumTo, prTo, ih (by omega), h k (by omega), Int.mul_comm]

set_option maxHeartbeats 2000000 in
theorem digRest_any (ao : Option Addr) (S : List Int) (cap : Nat) (hP : Pl S) (c x : Int) (g o : Nat) (hx : Wd S x) (w : World) (hS : Ints w ao S) (hD : Ints w (some ⟨g, o, none⟩) (digs S c)) :
    Calls Tryd.prog 117 #[.agg #[.slice ao S.length cap, .slice (some ⟨g, o, none⟩) S.length S.length], .int .i64 x] w fun e w' => e = .returned (.int .i64 (prW S c x)) ∧ Below w.heap.size w w' := by
  have hlo := hP.sp.lo
  have hhi := hP.sp.hi
  have N := nW_bd hP.sp
  have hq := q_bd hP
  have HSp := Lib.hid hP.sp
  have HP := Lib.hid hP
  have HX := Lib.hid hx
  have x1 := hx.1
  have x2 : x ≤ 9223372036854775807 := by have := hx.2; omega
  obtain ⟨bS, oS, rfl, hbS, hcS⟩ := hS.at (show 0 < S.length by omega)
  have hcS0 := hcS 0 (by omega)
  rw [Nat.add_zero] at hcS0
  obtain ⟨W0, hW0, c0, d0, z0, B0⟩ := boxd2 w (.slice (some ⟨bS, oS, none⟩) S.length cap) (.slice (some ⟨g, o, none⟩) S.length S.length) 76
  have HW0 := Lib.hid hW0
  have HQ0 : Hid (∃ q, q = gi S 0) := Lib.hid ⟨_, rfl⟩
  obtain ⟨q, hqq⟩ := HQ0.out
  rw [← hqq] at hcS0 hq
  have HQQ := Lib.hid hqq
  have c0e := c0
  have d0e := d0
  rw [hW0] at c0e d0e
  clear hP hx hW0 hcS HQ0 hqq
  go_enter Tryd.func117, Tryd.ntmps117
  go_wp2_with fail
  rw [← HW0.out]
  clear c0e d0e
  refine (digitParts_n (some ⟨bS, oS, none⟩) S cap hlo hhi HSp.out.bd _ [x] 1 _ rfl (by omega) (by intro i hi; match i, hi with | 0, _ => exact ⟨x1, by rw [gi1]; omega⟩) _ (hS.below (B0.alloc B0.size _)) (ints_new1 _ x _ (by omega))).mono ?_
  rintro e w2 ⟨P, g2, U, rfl, hp, hb⟩
  have r0 := hp.row 0 (by simp)
  rw [Nat.zero_mul] at r0
  have own := parts_own hp
  have hq2 : Below W0.heap.size W0 w2 := Below.trans ((Below.refl _ W0).alloc (Nat.le_refl _) _) (hb.mono (by simp))
  have c2 := kept_cell hq2 c0 (by omega)
  have d2 := kept_cell hq2 d0 (by omega)
  have B2 : Below w.heap.size w w2 := B0.trans (hq2.mono B0.size)
  replace own := own.rebase (base' := w.heap.size + 1) (by simp; omega)
  clear hb hq2 c0 d0 B0 hp
  go_wp2_with fail
  clear r0
  go_loopw [18] (fun i wr => ∃ (k : Nat) (T : List Int), k ≤ S.length ∧ i = .int .i64 k ∧ Hid (T.length = S.length ∧ ∀ j, j < S.length → gi T j = if j < k then dig S x j * dig S c j else dig S x j) ∧ OwnInts wr (w.heap.size + 1) (.slice (some ⟨g2, 0, none⟩) S.length S.length) T ∧
      wr.cell? ⟨w.heap.size, 0, none⟩ = some (.slice (some ⟨bS, oS, none⟩) S.length cap) ∧ Below w.heap.size w wr) (fun i _ => S.length - (intOf i).toNat)
  case atStart => exact ⟨0, _, Nat.zero_le _, rfl, Lib.hid ⟨digs_length _ _, fun j hj => by simp [gi_digs S x j hj]⟩, own, c2, B2⟩
  case round =>
    clear own c2 d2 B2
    obtain ⟨k, T, hk, rfl, HT, own, c2, B2⟩ := hrel
    have hgb := own.base_le
    by_cases hlt : k < S.length
    · have hcD : w.cell? ⟨g, o + k, none⟩ = some (.int .i64 (dig S c k)) ∧ g < w.heap.size := by
        obtain ⟨b, o', e, hbl, hc⟩ := hD.at (i := k) (by rw [digs_length]; exact hlt)
        simp only [Option.some.injEq, Addr.mk.injEq, and_true] at e
        obtain ⟨rfl, rfl⟩ := e
        exact ⟨by rw [hc k (by rw [digs_length]; exact hlt), gi_digs _ _ _ hlt], hbl⟩
      have hck := kept_cell B2 hcD.1 hcD.2
      have hcell := own.cell (k := k) (by rw [HT.out.1]; exact hlt)
      rw [HT.out.2 k hlt, if_neg (by omega)] at hcell
      have hfree := own.free k
      obtain ⟨d1, d2⟩ := dig_2 HP.out x k hlt
      obtain ⟨e1, e2⟩ := dig_2 HP.out c k hlt
      obtain ⟨m1, m2⟩ := mul_small d1 d2 e1 e2
      have E1 : IntKind.i64.wrap (dig S x k * dig S c k) = dig S x k * dig S c k := IntWalk.i64_in _ ⟨by omega, by omega⟩
      obtain ⟨y, hy⟩ : ∃ y, y = dig S x k * dig S c k := ⟨_, rfl⟩
      have HY := Lib.hid hy
      have hne : g ≠ g2 := by have := hcD.2; omega
      clear hcD
      go_wp2
      go_roundw
      case rel =>
        refine ⟨k + 1, _, by omega, by go_num, Lib.hid ⟨?_, ?_⟩, own.stored k (dig S x k * dig S c k), cell_set_other (w := wr) c2 (by simp; omega), B2.setCell (by simp; omega) _⟩
        · rw [List.length_set]; exact HT.out.1
        · intro j hj
          rw [gi_set _ _ _ _ (by rw [HT.out.1]; exact hlt)]
          by_cases e : j = k
          · subst e; rw [if_pos rfl, if_pos (by omega)]
          · rw [if_neg e, HT.out.2 j hj]
            by_cases h : j < k
            · rw [if_pos h, if_pos (by omega)]
            · rw [if_neg h, if_neg (by omega)]
      case measure => simp [intOf]; omega
    · have ek : k = S.length := by omega
      have hT : ∀ j, j < S.length → gi T j = dig S x j * dig S c j := fun j hj => by rw [HT.out.2 j hj, if_pos (by omega)]
      have hTl := HT.out.1
      have hTb : ∀ i, i < T.length → 0 ≤ gi T i ∧ gi T i ≤ 4 := fun i hi => by
        rw [hTl] at hi
        rw [hT i hi]
        obtain ⟨d1, d2⟩ := dig_2 HP.out x i hi
        obtain ⟨e1, e2⟩ := dig_2 HP.out c i hi
        exact mul_small d1 d2 e1 e2
      have HR : Hid (sumTo T S.length % q = prW S c x) := Lib.hid (by
        unfold prW
        rw [sumTo_pr S c x T hT S.length (Nat.le_refl _), HQQ.out])
      have hrs := restOfSum_any (some ⟨g2, 0, none⟩) T S.length S.length hTl.symm (by omega) hTb q (by omega) wr (own_ints own)
      have HRS := Lib.hid hrs
      have hcS1 := kept_cell B2 hcS0 hbS
      have kI : ¬ (k : Int) < (S.length : Int) := by omega
      clear hT hTb hrs HT ek hlt
      go_wp2_with fail
      refine HRS.out.mono ?_
      rintro e w5 ⟨rfl, hb5⟩
      go_wp2_with fail
      go_ret
      exact ⟨ret_int HR.out, B2.trans (hb5.mono B2.size)⟩

end Go.Proofs.YtdacokgmcenjoaaDoor
