/-
  Texts put together: Ones, F2, F3, RoS, DgR. By an AI agent.
-/
import Derived.Test.YtcnnijeokefboaaGreatDoorMathB
import Derived.Test.YtcnnijeokefboaaGreatDoorPk9
import Derived.Test.YtcnnijeokefboaaGreatDoorPk22
import Derived.Deep.WholeRow
import Derived.Test.YtcnnijeokefboaaGreatDoorPk20
namespace Go.Proofs.YtcnnijeokefboaaGreatDoor
open Go.RowKit Cv
set_option linter.unusedVariables false
set_option linter.unusedSimpArgs false
set_option maxRecDepth 100000

theorem ones_small (m : Nat) (hm : m < 256) (w : World) :
    Calls Tryz.prog 189 #[.int .u64 (m : Int)] w fun e w' => e = .returned (.int .i64 (bsum m 8)) ∧ w' = w := by
  go_enter Tryz.func189, Tryz.ntmps189
  go_wp2
  go_ret
  refine ⟨ret_int ?_, rfl⟩
  revert m
  decide +kernel

theorem bits_small {c x : Int} (hc : 0 ≤ c) (hc2 : c ≤ 9223372036854775807) (hx : 0 ≤ x) (hx2 : x ≤ 9223372036854775807) : IntKind.u64.wrap (bits .and .i64 c x) = ((c.toNat &&& x.toNat : Nat) : Int) := by
  obtain ⟨a, rfl⟩ : ∃ a : Nat, c = a := ⟨c.toNat, by omega⟩
  obtain ⟨b, rfl⟩ : ∃ b : Nat, x = b := ⟨x.toNat, by omega⟩
  have h : a &&& b ≤ a := Nat.and_le_left
  show IntKind.u64.wrap (IntKind.i64.wrap (((BitVec.ofInt 64 (a : Int) &&& BitVec.ofInt 64 (b : Int)).toNat : Nat) : Int)) = _
  rw [BitVec.toNat_and, bv_nat a (by omega), bv_nat b (by omega), IntWalk.i64_in _ ⟨by omega, by omega⟩, wrap_nat _ (by omega)]
  rfl

theorem bitRest_any (S : List Int) (hP : Pl S) (h2 : gi S 0 = 2) (c x : Int) (hc : Wd S c) (hx : Wd S x) (w : World) :
    Calls Tryz.prog 188 #[.int .i64 c, .int .i64 x] w fun e w' => e = .returned (.int .i64 (prW S c x)) ∧ Below w.heap.size w w' := by
  obtain ⟨m, hm, hm2, hpr⟩ := pr_bits hP h2 hc hx
  have N := nW_bd hP.sp
  have hb : IntKind.u64.wrap (bits .and .i64 c x) = (m : Int) := by rw [hm]; exact bits_small hc.1 (by have := hc.2; omega) hx.1 (by have := hx.2; omega)
  have hr : ((bsum m 8 : Nat) : Int).tmod 2 = prW S c x := by rw [hpr, Int.tmod_eq_emod_of_nonneg (by omega)]; omega
  have HR := Lib.hid hr
  clear hm hpr hc hx hP h2 hr
  go_enter Tryz.func188, Tryz.ntmps188
  go_wp2_with fail
  refine (ones_small m hm2 w).mono ?_
  rintro e w1 ⟨rfl, rfl⟩
  go_wp2_with fail
  go_ret
  exact ⟨ret_int HR.out, Below.refl _ _⟩

end Go.Proofs.YtcnnijeokefboaaGreatDoor

namespace Go.Proofs.YtcnnijeokefboaaGreatDoor
open Go.RowKit Cv
set_option linter.unusedVariables false
set_option linter.unusedSimpArgs false
set_option maxRecDepth 100000

theorem l01In_w (n low high : Int) (w : World) :
    Calls Tryz.prog 108 #[.int .i64 n, .int .i64 low, .int .i64 high] w fun e w' => e = .returned (.bool (inB n low high)) ∧ w' = w :=
  (l01In_any n low high w).mono fun _ _ ⟨a, b⟩ => ⟨a, b.symm⟩

end Go.Proofs.YtcnnijeokefboaaGreatDoor

namespace Go.Proofs.YtcnnijeokefboaaGreatDoor
open Go.RowKit Cv
set_option linter.unusedVariables false
set_option linter.unusedSimpArgs false
set_option maxRecDepth 100000

theorem Dg_digs {S : List Int} (h : Sp S) (x : Int) : Dg S (digs S x) := ⟨digs_length _ _, fun j hj => by rw [gi_digs S x j hj]; exact dig_bd S x h.bd j hj⟩
theorem Dg_opp {S : List Int} (h : Sp S) (x : Int) : Dg S (oppD S (digs S x)) := ⟨oppD_length _ _, fun j hj => by
  have := h.bd j hj
  rw [gi_oppD _ _ _ hj]; exact ⟨Int.emod_nonneg _ (by omega), Int.emod_lt_of_pos _ (by omega)⟩⟩
theorem parts_own {w : World} {base P g : Nat} {S U : List Int} {x : Int} (hp : PartsAt w base P g S [x] U) : OwnInts w base (.slice (some ⟨g, 0, none⟩) S.length S.length) (digs S x) := by
  have hU : U = digs S x := ext_gi (by rw [hp.len, digs_length]; simp) fun j hj => by
    rw [hp.len] at hj
    have := hp.dg 0 j (by simp) (by simpa using hj)
    rw [Nat.zero_mul, Nat.zero_add, gi1] at this
    rw [this, gi_digs S x j (by simpa using hj)]
  have own := hp.own
  rwa [hU, digs_length] at own

set_option maxHeartbeats 2000000 in
theorem impl_OppositeWord (ao : Option Addr) (S : List Int) (cap : Nat) (hn : S.length ≤ 4294967296) (x : Int) (hx : -9223372036854775808 ≤ x ∧ x ≤ 9223372036854775807) (w : World) (hS : Ints w ao S) :
    Calls Tryz.prog 124 #[.agg #[.slice ao S.length cap], .int .i64 x] w fun e w' => e = .returned (.tuple #[.int .i64 (vOpp S x), .int .i64 (eWords S [x])]) ∧ Below w.heap.size w w' := by
  by_cases hz : eWords S [x] = 0
  · obtain ⟨hSp, x1, x2⟩ := eWords1 hz
    obtain ⟨N1, N2⟩ := nW_bd hSp
    have HSp := Lib.hid hSp
    have hlo := hSp.lo
    have hhi := hSp.hi
    have hzb : (eWords S [x] == 0) = true := by simp [hz]
    have hzn : (eWords S [x] != 0) = false := by simp [hz]
    have HZ := Lib.hid hz
    clear hz hSp
    have HV := Lib.hid (show vOpp S x = oppW S x from by simp only [vOpp, if_pos HZ.out])
    go_enter Tryz.func124, Tryz.ntmps124
    go_wp2_with fail
    have B0 : Below w.heap.size w ((w.alloc (.cells #[.slice ao S.length cap] 26)).alloc (.cells #[.int .i64 x] 2)) := by go_grown
    have c0 : (((w.alloc (.cells #[.slice ao S.length cap] 26)).alloc (.cells #[.int .i64 x] 2))).cell? ⟨w.heap.size, 0, none⟩ = some (.slice ao S.length cap) := kept_cell ((Below.refl _ (w.alloc (.cells #[.slice ao S.length cap] 26))).alloc (Nat.le_refl _) _) (cell_new _ _ _) (lt_alloc _ _)
    refine (wordsError_n ao S cap hn _ [x] 1 _ rfl (by omega) _ (hS.below B0) (ints_new1 _ x _ (by simp))).mono ?_
    rintro e w1 ⟨rfl, hb⟩
    have c1 := kept_cell hb c0 (by simp; omega)
    have B1 : Below w.heap.size w w1 := B0.trans (hb.mono (by simp; omega))
    have l1 : w.heap.size < w1.heap.size := lt_of_below hb (by simp; omega)
    clear hb c0 B0
    go_wp2_with fail
    refine (digitParts_n ao S cap hlo hhi HSp.out.bd _ [x] 1 _ rfl (by omega) (by intro i hi; match i, hi with | 0, _ => exact ⟨x1, by rw [gi1]; omega⟩) _ (hS.below (B1.alloc B1.size _)) (ints_new1 _ x _ (by rfl))).mono ?_
    rintro e w2 ⟨P, g, U, rfl, hp, hb⟩
    have r0 := hp.row 0 (by simp)
    rw [Nat.zero_mul] at r0
    have own := parts_own hp
    have hgw : w.heap.size < g := by have := own.base_le.1; simp at this; omega
    have hq : Below w1.heap.size w1 w2 := Below.trans ((Below.refl _ w1).alloc (Nat.le_refl _) _) (hb.mono (by simp))
    have c2 := kept_cell hq c1 l1
    have B2 : Below w.heap.size w w2 := B1.trans (hq.mono B1.size)
    replace own := own.rebase (base' := w.heap.size) (by simp; omega)
    clear hb hq c1 B1 hp
    go_wp2_with fail
    clear r0
    go_loopw [26] (fun i wr => ∃ (k : Nat) (T : List Int), k ≤ S.length ∧ i = .int .i64 k ∧ Hid (T.length = S.length ∧ ∀ j, j < S.length → gi T j = if j < k then (gi S j - dig S x j) % gi S j else dig S x j) ∧ OwnInts wr w.heap.size (.slice (some ⟨g, 0, none⟩) S.length S.length) T ∧
        wr.cell? ⟨w.heap.size, 0, none⟩ = some (.slice ao S.length cap) ∧ Below w.heap.size w wr) (fun i _ => S.length - (intOf i).toNat)
    case atStart => exact ⟨0, _, Nat.zero_le _, rfl, Lib.hid ⟨digs_length _ _, fun j hj => by simp [gi_digs S x j hj]⟩, own, c2, B2⟩
    case round =>
      clear own c2 B2
      obtain ⟨k, T, hk, rfl, HT, own, c2, B2⟩ := hrel
      by_cases hlt : k < S.length
      · obtain ⟨b, o, rfl, hbl, hc⟩ := hS.at hlt
        have hck : wr.cell? ⟨b, o + k, none⟩ = some (.int .i64 (gi S k)) := kept_cell B2 (hc k hlt) hbl
        have hcell := own.cell (k := k) (by rw [HT.out.1]; exact hlt)
        rw [HT.out.2 k hlt, if_neg (by omega)] at hcell
        have hfree := own.free k
        obtain ⟨s1, s2⟩ := HSp.out.bd k hlt
        obtain ⟨d1, d2⟩ := dig_bd S x HSp.out.bd k hlt
        have E1 : IntKind.i64.wrap (gi S k - dig S x k) = gi S k - dig S x k := IntWalk.i64_in _ ⟨by omega, by omega⟩
        have E2 : (gi S k - dig S x k).tmod (gi S k) = (gi S k - dig S x k) % gi S k := Int.tmod_eq_emod_of_nonneg (by omega)
        have hzz : ¬ gi S k = 0 := by omega
        have hzz2 : (gi S k == 0) = false := by simp; omega
        clear hc
        go_wp2
        clear E1 E2
        go_roundw
        case rel =>
          refine ⟨k + 1, _, by omega, by go_num, Lib.hid ⟨?_, ?_⟩, own.stored k (-dig S x k % gi S k), cell_set_other (w := wr) c2 (by simp; omega), B2.setCell (by simp; omega) _⟩
          · rw [List.length_set]; exact HT.out.1
          · intro j hj
            rw [gi_set _ _ _ _ (by rw [HT.out.1]; exact hlt)]
            by_cases e : j = k
            · subst e; rw [if_pos rfl, if_pos (by omega)]; simp
            · rw [if_neg e, HT.out.2 j hj]
              by_cases h : j < k
              · rw [if_pos h, if_pos (by omega)]
              · rw [if_neg h, if_neg (by omega)]
        case measure => simp [intOf]; omega
      · have ek : k = S.length := by omega
        have eT : T = oppD S (digs S x) := ext_gi (by rw [HT.out.1, oppD_length]) fun j hj => by
          rw [HT.out.1] at hj
          rw [HT.out.2 j hj, if_pos (by omega), gi_oppD _ _ _ hj, gi_digs _ _ _ hj]
        rw [eT] at own
        have HD := Lib.hid (Dg_opp HSp.out x)
        clear eT
        go_wp2_with fail
        refine (wordWithDigits_any ao S cap hhi HSp.out.bd (some ⟨g, 0, none⟩) (oppD S (digs S x)) S.length _ rfl HD.out _ (hS.below B2) (own_ints own)).mono ?_
        rintro e w5 ⟨rfl, hb5⟩
        go_wp2_with fail
        go_ret2
        exact ⟨ret2 HV.out.symm HZ.out.symm, B2.trans (hb5.mono B2.size)⟩
  · have HV := Lib.hid (show vOpp S x = 0 from by simp only [vOpp, if_neg hz])
    have hzb : (eWords S [x] == 0) = false := by simpa using hz
    have hzn : (eWords S [x] != 0) = true := by simpa using hz
    clear hz
    go_enter Tryz.func124, Tryz.ntmps124
    go_wp2_with fail
    have B0 : Below w.heap.size w ((w.alloc (.cells #[.slice ao S.length cap] 26)).alloc (.cells #[.int .i64 x] 2)) := by go_grown
    have c0 : (((w.alloc (.cells #[.slice ao S.length cap] 26)).alloc (.cells #[.int .i64 x] 2))).cell? ⟨w.heap.size, 0, none⟩ = some (.slice ao S.length cap) := kept_cell ((Below.refl _ (w.alloc (.cells #[.slice ao S.length cap] 26))).alloc (Nat.le_refl _) _) (cell_new _ _ _) (lt_alloc _ _)
    refine (wordsError_n ao S cap hn _ [x] 1 _ rfl (by omega) _ (hS.below B0) (ints_new1 _ x _ (by simp))).mono ?_
    rintro e w1 ⟨rfl, hb⟩
    have c1 := kept_cell hb c0 (by simp; omega)
    have B1 : Below w.heap.size w w1 := B0.trans (hb.mono (by simp; omega))
    have l1 : w.heap.size < w1.heap.size := lt_of_below hb (by simp; omega)
    clear hb c0 B0
    go_wp2_with fail
    go_ret2
    exact ⟨ret2 HV.out.symm rfl, B1⟩

end Go.Proofs.YtcnnijeokefboaaGreatDoor

namespace Go.Proofs.YtcnnijeokefboaaGreatDoor
open Go.RowKit Cv
set_option linter.unusedVariables false
set_option linter.unusedSimpArgs false
set_option maxRecDepth 100000

theorem restOfSum_any (a : Option Addr) (T : List Int) (n c : Nat) (hn : n = T.length) (hl : T.length ≤ 8) (hb : ∀ i, i < T.length → 0 ≤ gi T i ∧ gi T i ≤ 4) (q : Int) (hq : 2 ≤ q ∧ q ≤ 4) (w : World) (hT : Ints w a T) :
    Calls Tryz.prog 191 #[.slice a n c, .int .i64 q] w fun e w' => e = .returned (.int .i64 (sumTo T T.length % q)) ∧ Below w.heap.size w w' := by
  subst hn
  have HB := Lib.hid hb
  clear hb
  go_enter Tryz.func191, Tryz.ntmps191
  go_wp2_with fail
  go_loopw [5, 10] (fun v i wr => ∃ k : Nat, k ≤ T.length ∧ i = .int .i64 k ∧ v = .int .i64 (sumTo T k) ∧ Below w.heap.size w wr) (fun _ i _ => T.length - (intOf i).toNat)
  case atStart => exact ⟨0, Nat.zero_le _, rfl, rfl, Below.refl _ _⟩
  case round =>
    obtain ⟨k, hk, rfl, rfl, B⟩ := hrel
    obtain ⟨t1, t2⟩ := sumTo_bd T HB.out k hk
    by_cases hlt : k < T.length
    · obtain ⟨b, o, rfl, hbl, hc⟩ := hT.at hlt
      have hck := kept_cell B (hc k hlt) hbl
      obtain ⟨t3, t4⟩ := HB.out k hlt
      have E1 : IntKind.i64.wrap (sumTo T k + gi T k) = sumTo T k + gi T k := IntWalk.i64_in _ ⟨by omega, by omega⟩
      clear hc
      go_wp2_with fail
      go_roundw
      case rel => exact ⟨k + 1, by omega, by go_num, rfl, B⟩
      case measure => simp [intOf]; omega
    · have ek : k = T.length := by omega
      have E2 : (sumTo T k).tmod q = sumTo T k % q := Int.tmod_eq_emod_of_nonneg t1
      have hz : (q == 0) = false := by simp; omega
      have hz2 : ¬ q = 0 := by omega
      have HR : Hid (sumTo T T.length % q = sumTo T k % q) := Lib.hid (by rw [ek])
      clear ek
      go_wp2_with fail
      go_ret
      exact ⟨by rw [HR.out]; rfl, B⟩

theorem boxd2 (w : World) (a b : Value) (t : TypeId) : ∃ W, W = w.alloc (.cells #[a, b] t) ∧ W.cell? ⟨w.heap.size, 0, none⟩ = some a ∧ W.cell? ⟨w.heap.size, 1, none⟩ = some b ∧ W.heap.size = w.heap.size + 1 ∧ Below w.heap.size w W := by
  have y0 : (w.alloc (.cells #[a, b] t)).cell? ⟨w.heap.size, 0, none⟩ = some a := by rw [cell_of_row _ w.heap.size 0 _ _ _ (heap_alloc_last w (.cells #[a, b] t))]; rfl
  have y1 : (w.alloc (.cells #[a, b] t)).cell? ⟨w.heap.size, 1, none⟩ = some b := by rw [cell_of_row _ w.heap.size 1 _ _ _ (heap_alloc_last w (.cells #[a, b] t))]; rfl
  exact ⟨_, rfl, y0, y1, World.size_alloc _ _, (Below.refl _ _).alloc (Nat.le_refl _) _⟩

end Go.Proofs.YtcnnijeokefboaaGreatDoor

namespace Go.Proofs.YtcnnijeokefboaaGreatDoor
open Go.RowKit Cv
set_option linter.unusedVariables false
set_option linter.unusedSimpArgs false
set_option maxRecDepth 100000

theorem sumTo_pr (S : List Int) (c x : Int) (T : List Int) (h : ∀ j, j < S.length → gi T j = dig S x j * dig S c j) (k : Nat) (hk : k ≤ S.length) : sumTo T k = prTo S c x k := by
  induction k with
  | zero => rfl
  | succ k ih => rw [sumTo, prTo, ih (by omega), h k (by omega), Int.mul_comm]

set_option maxHeartbeats 2000000 in
theorem digRest_any (ao : Option Addr) (S : List Int) (cap : Nat) (hP : Pl S) (c x : Int) (g o : Nat) (hx : Wd S x) (w : World) (hS : Ints w ao S) (hD : Ints w (some ⟨g, o, none⟩) (digs S c)) :
    Calls Tryz.prog 190 #[.agg #[.slice ao S.length cap, .slice (some ⟨g, o, none⟩) S.length S.length], .int .i64 x] w fun e w' => e = .returned (.int .i64 (prW S c x)) ∧ Below w.heap.size w w' := by
  have hlo := hP.sp.lo
  have hhi := hP.sp.hi
  have N := nW_bd hP.sp
  have hq := q_bd hP
  have HSp := Lib.hid hP.sp
  have HP := Lib.hid hP
  have HX := Lib.hid hx
  have x1 := hx.1
  have x2 : x ≤ 9223372036854775807 := by have := hx.2; omega
  obtain ⟨bS, oS, rfl, hbS, hcS⟩ := hS.at (show 0 < S.length by omega)
  have hcS0 := hcS 0 (by omega)
  rw [Nat.add_zero] at hcS0
  obtain ⟨W0, hW0, c0, d0, z0, B0⟩ := boxd2 w (.slice (some ⟨bS, oS, none⟩) S.length cap) (.slice (some ⟨g, o, none⟩) S.length S.length) 110
  have HW0 := Lib.hid hW0
  have HQ0 : Hid (∃ q, q = gi S 0) := Lib.hid ⟨_, rfl⟩
  obtain ⟨q, hqq⟩ := HQ0.out
  rw [← hqq] at hcS0 hq
  have HQQ := Lib.hid hqq
  have c0e := c0
  have d0e := d0
  rw [hW0] at c0e d0e
  clear hP hx hW0 hcS HQ0 hqq
  go_enter Tryz.func190, Tryz.ntmps190
  go_wp2_with fail
  rw [← HW0.out]
  clear c0e d0e
  refine (digitParts_n (some ⟨bS, oS, none⟩) S cap hlo hhi HSp.out.bd _ [x] 1 _ rfl (by omega) (by intro i hi; match i, hi with | 0, _ => exact ⟨x1, by rw [gi1]; omega⟩) _ (hS.below (B0.alloc B0.size _)) (ints_new1 _ x _ (by omega))).mono ?_
  rintro e w2 ⟨P, g2, U, rfl, hp, hb⟩
  have r0 := hp.row 0 (by simp)
  rw [Nat.zero_mul] at r0
  have own := parts_own hp
  have hq2 : Below W0.heap.size W0 w2 := Below.trans ((Below.refl _ W0).alloc (Nat.le_refl _) _) (hb.mono (by simp))
  have c2 := kept_cell hq2 c0 (by omega)
  have d2 := kept_cell hq2 d0 (by omega)
  have B2 : Below w.heap.size w w2 := B0.trans (hq2.mono B0.size)
  replace own := own.rebase (base' := w.heap.size + 1) (by simp; omega)
  clear hb hq2 c0 d0 B0 hp
  go_wp2_with fail
  clear r0
  go_loopw [18] (fun i wr => ∃ (k : Nat) (T : List Int), k ≤ S.length ∧ i = .int .i64 k ∧ Hid (T.length = S.length ∧ ∀ j, j < S.length → gi T j = if j < k then dig S x j * dig S c j else dig S x j) ∧ OwnInts wr (w.heap.size + 1) (.slice (some ⟨g2, 0, none⟩) S.length S.length) T ∧
      wr.cell? ⟨w.heap.size, 0, none⟩ = some (.slice (some ⟨bS, oS, none⟩) S.length cap) ∧ Below w.heap.size w wr) (fun i _ => S.length - (intOf i).toNat)
  case atStart => exact ⟨0, _, Nat.zero_le _, rfl, Lib.hid ⟨digs_length _ _, fun j hj => by simp [gi_digs S x j hj]⟩, own, c2, B2⟩
  case round =>
    clear own c2 d2 B2
    obtain ⟨k, T, hk, rfl, HT, own, c2, B2⟩ := hrel
    have hgb := own.base_le
    by_cases hlt : k < S.length
    · have hcD : w.cell? ⟨g, o + k, none⟩ = some (.int .i64 (dig S c k)) ∧ g < w.heap.size := by
        obtain ⟨b, o', e, hbl, hc⟩ := hD.at (i := k) (by rw [digs_length]; exact hlt)
        simp only [Option.some.injEq, Addr.mk.injEq, and_true] at e
        obtain ⟨rfl, rfl⟩ := e
        exact ⟨by rw [hc k (by rw [digs_length]; exact hlt), gi_digs _ _ _ hlt], hbl⟩
      have hck := kept_cell B2 hcD.1 hcD.2
      have hcell := own.cell (k := k) (by rw [HT.out.1]; exact hlt)
      rw [HT.out.2 k hlt, if_neg (by omega)] at hcell
      have hfree := own.free k
      obtain ⟨d1, d2⟩ := dig_2 HP.out x k hlt
      obtain ⟨e1, e2⟩ := dig_2 HP.out c k hlt
      obtain ⟨m1, m2⟩ := mul_small d1 d2 e1 e2
      have E1 : IntKind.i64.wrap (dig S x k * dig S c k) = dig S x k * dig S c k := IntWalk.i64_in _ ⟨by omega, by omega⟩
      obtain ⟨y, hy⟩ : ∃ y, y = dig S x k * dig S c k := ⟨_, rfl⟩
      have HY := Lib.hid hy
      have hne : g ≠ g2 := by have := hcD.2; omega
      clear hcD
      go_wp2
      go_roundw
      case rel =>
        refine ⟨k + 1, _, by omega, by go_num, Lib.hid ⟨?_, ?_⟩, own.stored k (dig S x k * dig S c k), cell_set_other (w := wr) c2 (by simp; omega), B2.setCell (by simp; omega) _⟩
        · rw [List.length_set]; exact HT.out.1
        · intro j hj
          rw [gi_set _ _ _ _ (by rw [HT.out.1]; exact hlt)]
          by_cases e : j = k
          · subst e; rw [if_pos rfl, if_pos (by omega)]
          · rw [if_neg e, HT.out.2 j hj]
            by_cases h : j < k
            · rw [if_pos h, if_pos (by omega)]
            · rw [if_neg h, if_neg (by omega)]
      case measure => simp [intOf]; omega
    · have ek : k = S.length := by omega
      have hT : ∀ j, j < S.length → gi T j = dig S x j * dig S c j := fun j hj => by rw [HT.out.2 j hj, if_pos (by omega)]
      have hTl := HT.out.1
      have hTb : ∀ i, i < T.length → 0 ≤ gi T i ∧ gi T i ≤ 4 := fun i hi => by
        rw [hTl] at hi
        rw [hT i hi]
        obtain ⟨d1, d2⟩ := dig_2 HP.out x i hi
        obtain ⟨e1, e2⟩ := dig_2 HP.out c i hi
        exact mul_small d1 d2 e1 e2
      have HR : Hid (sumTo T S.length % q = prW S c x) := Lib.hid (by
        unfold prW
        rw [sumTo_pr S c x T hT S.length (Nat.le_refl _), HQQ.out])
      have hrs := restOfSum_any (some ⟨g2, 0, none⟩) T S.length S.length hTl.symm (by omega) hTb q (by omega) wr (own_ints own)
      have HRS := Lib.hid hrs
      have hcS1 := kept_cell B2 hcS0 hbS
      have kI : ¬ (k : Int) < (S.length : Int) := by omega
      clear hT hTb hrs HT ek hlt
      go_wp2_with fail
      refine HRS.out.mono ?_
      rintro e w5 ⟨rfl, hb5⟩
      go_wp2_with fail
      go_ret
      exact ⟨ret_int HR.out, B2.trans (hb5.mono B2.size)⟩

end Go.Proofs.YtcnnijeokefboaaGreatDoor
