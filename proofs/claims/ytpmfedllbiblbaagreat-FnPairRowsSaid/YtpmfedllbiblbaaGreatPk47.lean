/-
  Texts put together: DrwD, Lot, Set8, Ch8, Pn10, Rep. By an AI agent.
-/
import Derived.Test.YtpmfedllbiblbaaGreatPk46
import Derived.Lib.MinMax
import Derived.Deep.Cut
import Derived.Test.YtpmfedllbiblbaaGreatPk2
import Derived.Test.YtpmfedllbiblbaaGreatSpace
import Derived.Test.YtpmfedllbiblbaaGreatPk31
import Derived.Test.YtpmfedllbiblbaaGreatAppend
import Derived.Test.YtpmfedllbiblbaaGreatMark
import Derived.Test.YtpmfedllbiblbaaGreatMathB
import Derived.Test.YtpmfedllbiblbaaGreatMem
import Derived.Deep.RegionHeld3
import Derived.Laws.CopyOwn
import Derived.Deep.RegionLaw
namespace Go.Proofs.YtpmfedllbiblbaaGreat
open Go.RowKit Cv
set_option linter.unusedVariables false
set_option linter.unusedSimpArgs false
set_option maxRecDepth 100000

set_option maxHeartbeats 8000000 in
theorem drawStr_any (a : Option Addr) (n cap : Nat) (hn : n ≤ 4096) (w : World) (hY : Byts w w.heap.size a n) :
    Calls Tryz.prog 33 #[.slice a n cap] w fun e w' => ∃ ax T cx v F, e = .returned (.tuple #[.agg #[.slice ax T.length cx], v]) ∧ Ints w' ax T ∧ (∀ g o, ax = some ⟨g, o, none⟩ → w.heap.size ≤ g) ∧ T.length ≤ 8 ∧ OwnInts w' w.heap.size v F ∧ F.length ≤ 2000 ∧ Below w.heap.size w w' := by
  obtain ⟨A, hA⟩ : ∃ A, A = w.heap.size := ⟨_, rfl⟩
  obtain ⟨W, hW⟩ : ∃ W, W = w.alloc (.cells #[.slice none 0 0] 26) := ⟨_, rfl⟩
  have zW : W.heap.size = A + 1 := by rw [hW, hA]; simp
  have RA0 : W.heap[A]? = some (.cells #[.slice none 0 0] 26 (0, 0)) := by rw [hW, hA]; exact heap_alloc_new w _
  have B0 : Below A w W := by rw [hW, hA]; exact (Below.refl _ w).alloc (Nat.le_refl _) _
  have hY0 : Byts W W.heap.size a n := by rw [zW]; exact ((hY.mono (by omega)).keep fun b o v hb h => by rw [hW]; exact kept_cell ((Below.refl w.heap.size w).alloc (Nat.le_refl _) _) h (by have := World.block_lt_of_cell? w _ h; exact this))
  have hc := l10With_any a n cap hn W hY0
  have HA := Lib.hid hA
  have HW := Lib.hid hW
  clear hA hW hY0
  go_enter Tryz.func33, Tryz.ntmps33
  go_wp2_with fail
  rw [← HW.out, ← HA.out]
  refine hc.mono ?_
  rintro e w1 ⟨ax, T, cx, v, E, r, rfl, hI, hax, hT, ownE, hE, hr, hb1⟩
  have RA1 := row_g RA0 (grown_of_below hb1 none) (by simp)
  have B1 : Below A w w1 := B0.trans (hb1.mono (by omega))
  have hax' : ∀ g o, ax = some ⟨g, o, none⟩ → A + 1 ≤ g := fun g o e => by have := hax g o e; omega
  have hvA : ∀ k, v.ownBlock = some k → A + 1 ≤ k := fun k e => by have := ownBlock_ge5 ownE e; omega
  have ownW := ownE.rebase (base' := w.heap.size) (by have := HA.out; omega)
  have hAx : ∀ g o, ax = some ⟨g, o, none⟩ → g ≠ A := fun g o e => by have := hax' g o e; omega
  clear hc hb1 RA0 B0 hax ownE zW
  obtain ⟨W3, hW3⟩ : ∃ W3, W3 = w1.alloc (.cells #[.slice ax T.length cx] 26) := ⟨_, rfl⟩
  have RX3 : W3.heap[w1.heap.size]? = some (.cells #[.slice ax T.length cx] 26 (0, 0)) := by rw [hW3]; exact heap_alloc_new _ _
  have RA3 : W3.heap[A]? = some (.cells #[.slice none 0 0] 26 (0, 0)) := by rw [hW3]; exact row_g RA1 (World.grownBy_alloc w1 _ none) (by simp)
  have hI3 : Ints W3 ax T := by rw [hW3]; exact hI.below ((Below.refl _ _).alloc (Nat.le_refl _) _)
  have own3 : OwnInts W3 w.heap.size v E := by rw [hW3]; exact ownW.alloc _
  have B3 : Below A w W3 := by rw [hW3]; exact B1.alloc (by have := row_lt RA1; have := HA.out; omega) _
  have xX3 := cell_of1' RX3
  have HW3 := Lib.hid hW3
  clear hW3 RA1 B1 hI ownW RX3
  have xA := cell_of1' RA3
  have fA := frozen_of_row W3 A 0 _ _ RA3
  have zA := row_lt RA3
  have HIe : Ints (W3.setCell ⟨A, 0, none⟩ (.slice ax T.length cx)) ax T := ints_setA hI3 hAx
  have owne := own_setO own3 A (fun e => by have := hvA _ e; omega) (.slice ax T.length cx)
  have Be : Below A w (W3.setCell ⟨A, 0, none⟩ (.slice ax T.length cx)) := B3.setCell (by simp) _
  rw [HW3.out] at xX3 xA fA zA HIe owne Be
  go_wp2_with fail
  refine bodyPost_ret (by rw [results_cell_tmp1a rfl]; go_simp; try rfl) rfl ?_
  exact ⟨ax, T, cx, v, E, rfl, HIe, (fun g o e => by have := hax' g o e; have := HA.out; omega), hT, owne, hE, by rw [← HA.out]; exact Be⟩

set_option maxHeartbeats 8000000 in
theorem drawLr_any (a : Option Addr) (n cap : Nat) (hn : n ≤ 4096) (w : World) (hY : Byts w w.heap.size a n) :
    Calls Tryz.prog 6 #[.slice a n cap] w fun e w' => ∃ ax T cx v F y, e = .returned (.tuple #[.agg #[.slice ax T.length cx], v, .int .i64 y]) ∧ Ints w' ax T ∧ (∀ g o, ax = some ⟨g, o, none⟩ → w.heap.size ≤ g) ∧ T.length ≤ 8 ∧ OwnInts w' w.heap.size v F ∧ F.length ≤ 2000 ∧ (-9223372036854775808 ≤ y ∧ y ≤ 9223372036854775807) ∧ Below w.heap.size w w' := by
  obtain ⟨A, hA⟩ : ∃ A, A = w.heap.size := ⟨_, rfl⟩
  obtain ⟨W, hW⟩ : ∃ W, W = w.alloc (.cells #[.slice none 0 0] 26) := ⟨_, rfl⟩
  have zW : W.heap.size = A + 1 := by rw [hW, hA]; simp
  have RA0 : W.heap[A]? = some (.cells #[.slice none 0 0] 26 (0, 0)) := by rw [hW, hA]; exact heap_alloc_new w _
  have B0 : Below A w W := by rw [hW, hA]; exact (Below.refl _ w).alloc (Nat.le_refl _) _
  have hY0 : Byts W W.heap.size a n := by rw [zW]; exact ((hY.mono (by omega)).keep fun b o v hb h => by rw [hW]; exact kept_cell ((Below.refl w.heap.size w).alloc (Nat.le_refl _) _) h (by have := World.block_lt_of_cell? w _ h; exact this))
  have hc := l10With_any a n cap hn W hY0
  have HA := Lib.hid hA
  have HW := Lib.hid hW
  clear hA hW hY0
  go_enter Tryz.func6, Tryz.ntmps6
  go_wp2_with fail
  rw [← HW.out, ← HA.out]
  refine hc.mono ?_
  rintro e w1 ⟨ax, T, cx, v, E, r, rfl, hI, hax, hT, ownE, hE, hr, hb1⟩
  have RA1 := row_g RA0 (grown_of_below hb1 none) (by simp)
  have B1 : Below A w w1 := B0.trans (hb1.mono (by omega))
  have hax' : ∀ g o, ax = some ⟨g, o, none⟩ → A + 1 ≤ g := fun g o e => by have := hax g o e; omega
  have hvA : ∀ k, v.ownBlock = some k → A + 1 ≤ k := fun k e => by have := ownBlock_ge5 ownE e; omega
  have ownW := ownE.rebase (base' := w.heap.size) (by have := HA.out; omega)
  have hAx : ∀ g o, ax = some ⟨g, o, none⟩ → g ≠ A := fun g o e => by have := hax' g o e; omega
  clear hc hb1 RA0 B0 hax ownE zW
  have xA := cell_of1' RA1
  have fA := frozen_of_row w1 A 0 _ _ RA1
  have zA := row_lt RA1
  have HIe : Ints (w1.setCell ⟨A, 0, none⟩ (.slice ax T.length cx)) ax T := ints_setA hI hAx
  have owne := own_setO ownW A (fun e => by have := hvA _ e; omega) (.slice ax T.length cx)
  have Be : Below A w (w1.setCell ⟨A, 0, none⟩ (.slice ax T.length cx)) := B1.setCell (by simp) _
  go_wp2_with fail
  refine bodyPost_ret (by rw [results_cell_tmp2w rfl]; go_simp; try rfl) rfl ?_
  exact ⟨ax, T, cx, v, E, r, rfl, HIe, (fun g o e => by have := hax' g o e; have := HA.out; omega), hT, owne, hE, hr, by rw [← HA.out]; exact Be⟩

end Go.Proofs.YtpmfedllbiblbaaGreat

namespace Go.Proofs.YtpmfedllbiblbaaGreat
open Go.RowKit Cv
set_option linter.unusedVariables false
set_option linter.unusedSimpArgs false
set_option maxRecDepth 100000

/-- the parts of a lottery in the block b -/
structure LotAt (w : World) (b : Nat) (v p d h : Int) : Prop where
  c0 : w.cell? ⟨b, 0, none⟩ = some (.int .i64 v)
  c1 : w.cell? ⟨b, 1, none⟩ = some (.int .i64 p)
  c2 : w.cell? ⟨b, 2, none⟩ = some (.int .i64 d)
  c3 : w.cell? ⟨b, 3, none⟩ = some (.int .i64 h)
  lt : b < w.heap.size
theorem LotAt.below {w w' : World} {b : Nat} {v p d h : Int} (l : LotAt w b v p d h) (hb : Below w.heap.size w w') : LotAt w' b v p d h :=
  ⟨kept_cell hb l.c0 l.lt, kept_cell hb l.c1 l.lt, kept_cell hb l.c2 l.lt, kept_cell hb l.c3 l.lt, lt_of_below hb l.lt⟩
theorem LotAt.belowB {B : Nat} {w w' : World} {b : Nat} {v p d h : Int} (l : LotAt w b v p d h) (hb : Below B w w') (hlt : b < B) : LotAt w' b v p d h :=
  ⟨kept_cell hb l.c0 hlt, kept_cell hb l.c1 hlt, kept_cell hb l.c2 hlt, kept_cell hb l.c3 hlt, lt_of_below hb l.lt⟩
theorem lotAt_new (w : World) (v p d h : Int) (t : TypeId) : LotAt (w.alloc (.cells #[.int .i64 v, .int .i64 p, .int .i64 d, .int .i64 h] t)) w.heap.size v p d h :=
  ⟨by simp, by simp, by simp, by simp, lt_alloc _ _⟩

theorem lot_inv {v p d h : Int} (g : lotB v p d h = false) : eLot v p d h = 1 := by unfold eLot; rw [g]; rfl
theorem lot_val {v p d h : Int} (g : lotB v p d h = true) : eLot v p d h = 0 := by unfold eLot; rw [if_pos g]

end Go.Proofs.YtpmfedllbiblbaaGreat

namespace Go.Proofs.YtpmfedllbiblbaaGreat
open Go.RowKit Cv
set_option linter.unusedVariables false
set_option linter.unusedSimpArgs false
set_option maxRecDepth 100000

theorem ret_ii {a b c d : Int} (h1 : a = b) (h2 : c = d) : Ending.returned (.tuple #[.int .i64 a, .int .i64 c]) = .returned (.tuple #[.int .i64 b, .int .i64 d]) := by rw [h1, h2]
theorem ret_bi8 {a b : Bool} {c d : Int} (h1 : a = b) (h2 : c = d) : Ending.returned (.tuple #[.bool a, .int .i64 c]) = .returned (.tuple #[.bool b, .int .i64 d]) := by rw [h1, h2]

theorem shl_tw {v : Int} (h : 1 ≤ v ∧ v ≤ 12) : IntKind.i64.wrap (1 * 2 ^ v.toNat) = tw v ∧ IntKind.i64.wrap (2 ^ v.toNat) = tw v := by
  rcases (show v = 1 ∨ v = 2 ∨ v = 3 ∨ v = 4 ∨ v = 5 ∨ v = 6 ∨ v = 7 ∨ v = 8 ∨ v = 9 ∨ v = 10 ∨ v = 11 ∨ v = 12 by omega) with rfl | rfl | rfl | rfl | rfl | rfl | rfl | rfl | rfl | rfl | rfl | rfl <;> exact ⟨by decide, by decide⟩
theorem shl_tw2 {v : Int} (h : 1 ≤ v ∧ v ≤ 12) : IntKind.u64.wrap v = v ∧ IntKind.i64.wrap (2 ^ min v.toNat 64) = tw v ∧ IntKind.i64.wrap (tw v - 1) = tw v - 1 ∧ wrap64 (2 ^ v.toNat) = tw v ∧ wrap64 (tw v - 1) = tw v - 1 := by
  rcases (show v = 1 ∨ v = 2 ∨ v = 3 ∨ v = 4 ∨ v = 5 ∨ v = 6 ∨ v = 7 ∨ v = 8 ∨ v = 9 ∨ v = 10 ∨ v = 11 ∨ v = 12 by omega) with rfl | rfl | rfl | rfl | rfl | rfl | rfl | rfl | rfl | rfl | rfl | rfl <;> exact ⟨by decide, by decide, by decide, by unfold wrap64; decide, by unfold wrap64; decide⟩
theorem bits_andN {a b : Nat} (ha : a < 9223372036854775808) (hb : b < 9223372036854775808) : bits .and .i64 (a : Int) (b : Int) = ((a &&& b : Nat) : Int) := by
  have h : a &&& b ≤ a := Nat.and_le_left
  show IntKind.i64.wrap (((BitVec.ofInt 64 (a : Int) &&& BitVec.ofInt 64 (b : Int)).toNat : Nat) : Int) = _
  rw [BitVec.toNat_and, bv_nat a (by omega), bv_nat b (by omega), IntWalk.i64_in _ ⟨by omega, by omega⟩]

theorem countNumbers_any (m : Nat) (hm : m < 4096) (w : World) :
    Calls Tryz.prog 135 #[.int .i64 (m : Int)] w fun e w' => e = .returned (.int .i64 (pc m : Nat)) ∧ w' = w := by
  have hu : IntKind.u64.wrap (m : Int) = (m : Int) := by unfold IntKind.wrap; simp [IntKind.signed, IntKind.bits]; omega
  have HP := Lib.hid (pc64 hm)
  go_enter Tryz.func135, Tryz.ntmps135
  go_wp2_with fail
  refine (ones_any m (by omega) _).mono ?_
  rintro e w2 ⟨rfl, rfl⟩
  rw [HP.out]
  go_wp2_with fail
  go_ret
  exact ⟨rfl, rfl⟩

set_option maxHeartbeats 1000000 in
theorem isSetOfNumbers_any (x v k : Int) (hv : 1 ≤ v ∧ v ≤ 12) (w : World) :
    Calls Tryz.prog 117 #[.int .i64 x, .int .i64 v, .int .i64 k] w fun e w' => e = .returned (.bool (setB v k x)) ∧ w' = w := by
  obtain ⟨t1, t2⟩ := tw_bd hv
  obtain ⟨v1, v2⟩ := hv
  by_cases h0 : 0 ≤ x
  case neg =>
    have HQ := Lib.hid (setB_out (v := v) (k := k) (x := x) (fun g => h0 g.1))
    go_enter Tryz.func117, Tryz.ntmps117
    go_wp2_with fail
    go_ret
    exact ⟨ret_bool HQ.out.symm, rfl⟩
  by_cases h1 : x < tw v
  case neg =>
    have HQ := Lib.hid (setB_out (v := v) (k := k) (x := x) (fun g => h1 g.2))
    obtain ⟨s1, s2⟩ := shl_tw ⟨v1, v2⟩
    obtain ⟨s3, s4, s5, s6, s7⟩ := shl_tw2 ⟨v1, v2⟩
    go_enter Tryz.func117, Tryz.ntmps117
    go_wp2_with fail
    go_ret
    exact ⟨ret_bool HQ.out.symm, rfl⟩
  obtain ⟨m, rfl⟩ : ∃ m : Nat, x = m := ⟨x.toNat, by omega⟩
  have hm : m < 4096 := by omega
  have hs := setB_in (v := v) (k := k) ⟨h0, h1⟩
  rw [Int.toNat_natCast] at hs
  by_cases h2 : (pc m : Int) = k
  · have HQ := Lib.hid (hs.trans (decide_eq_true h2))
    subst h2
    clear hs
    obtain ⟨s1, s2⟩ := shl_tw ⟨v1, v2⟩
    obtain ⟨s3, s4, s5, s6, s7⟩ := shl_tw2 ⟨v1, v2⟩
    go_enter Tryz.func117, Tryz.ntmps117
    go_wp2_with fail
    refine (countNumbers_any m hm _).mono ?_
    rintro e w2 ⟨rfl, rfl⟩
    go_wp2_with fail
    go_ret
    exact ⟨ret_bool HQ.out.symm, rfl⟩
  · have HQ := Lib.hid (hs.trans (decide_eq_false h2))
    have hbe : ((pc m : Int) == k) = false := by simpa using h2
    clear hs
    obtain ⟨s1, s2⟩ := shl_tw ⟨v1, v2⟩
    obtain ⟨s3, s4, s5, s6, s7⟩ := shl_tw2 ⟨v1, v2⟩
    go_enter Tryz.func117, Tryz.ntmps117
    go_wp2_with fail
    refine (countNumbers_any m hm _).mono ?_
    rintro e w2 ⟨rfl, rfl⟩
    go_wp2_with fail
    go_ret
    exact ⟨ret_bool HQ.out.symm, rfl⟩

end Go.Proofs.YtpmfedllbiblbaaGreat

namespace Go.Proofs.YtpmfedllbiblbaaGreat
open Go.RowKit Cv
set_option linter.unusedVariables false
set_option linter.unusedSimpArgs false
set_option maxRecDepth 100000

theorem ch_out {n k : Nat} (h : n < k) : ch n k = 0 := by unfold ch; rw [if_neg (by omega)]
theorem ch_in {n k : Nat} (h : k ≤ n) : ch n k = chTo n k := by unfold ch; rw [if_pos h]

set_option maxHeartbeats 1000000 in
theorem l08Choose_any (n k : Nat) (hn : n < 14) (hk : k < 14) (w : World) :
    Calls Tryz.prog 103 #[.int .i64 (n : Int), .int .i64 (k : Int)] w fun e w' => e = .returned (.int .i64 (ch n k : Nat)) ∧ w' = w := by
  by_cases h1 : k ≤ n
  case neg =>
    have HC := Lib.hid (ch_out (n := n) (k := k) (by omega))
    have i1 : ¬ (k : Int) < 0 := by omega
    have i2 : (n : Int) < (k : Int) := by omega
    go_enter Tryz.func103, Tryz.ntmps103
    go_wp2_with fail
    go_ret
    exact ⟨ret_int (by rw [HC.out]; rfl), rfl⟩
  have HC := Lib.hid (ch_in h1)
  have i1 : ¬ (k : Int) < 0 := by omega
  have i2 : ¬ (n : Int) < (k : Int) := by omega
  go_enter Tryz.func103, Tryz.ntmps103
  go_wp2_with fail
  go_loopw [5, 6] (fun o i wr => ∃ t : Nat, t ≤ k ∧ o = .int .i64 (chTo n t : Nat) ∧ i = .int .i64 ((t : Int) + 1) ∧ wr = w) (fun _ i _ => k + 1 - (intOf i).toNat)
  case atStart => exact ⟨0, Nat.zero_le _, rfl, rfl, rfl⟩
  case round =>
    obtain ⟨t, ht, rfl, rfl, rfl⟩ := hrel
    by_cases hlt : t < k
    · obtain ⟨b1, b2⟩ := chTo_le n hn t (by omega)
      obtain ⟨b3, b4⟩ := chTo_le n hn (t + 1) (by omega)
      have i3 : (t : Int) + 1 ≤ (k : Int) := by omega
      have HD : Hid (wrap64 ((wrap64 ((chTo n t : Int) * ((n : Int) - ((t : Int) + 1) + 1))).tdiv ((t : Int) + 1)) = ((chTo n (t + 1) : Nat) : Int)) := Lib.hid (by
        have e : (chTo n t : Int) * ((n : Int) - ((t : Int) + 1) + 1) = ((chTo n t * (n - t) : Nat) : Int) := by
          rw [show (n : Int) - ((t : Int) + 1) + 1 = ((n - t : Nat) : Int) by omega]; push_cast; rfl
        have e2 : (((chTo n t * (n - t) : Nat) : Int)).tdiv ((t : Int) + 1) = ((chTo n (t + 1) : Nat) : Int) := by
          rw [Int.tdiv_eq_ediv_of_nonneg (by omega), chTo]; push_cast; rfl
        rw [e, IntWalk.wrap64_in ((chTo n t * (n - t) : Nat) : Int) ⟨by omega, by omega⟩, e2, IntWalk.wrap64_in _ ⟨by omega, by omega⟩])
      go_wp2_with fail
      go_roundw
      case rel => exact ⟨t + 1, by omega, by rw [HD.out], by go_num, by first | rfl | trivial⟩
      case measure => simp [intOf]; omega
    · have ek : Hid (t = k) := Lib.hid (by omega)
      have i3 : ¬ (t : Int) + 1 ≤ (k : Int) := by omega
      go_wp2_with fail
      go_ret
      exact ⟨ret_int (by rw [HC.out, ek.out]), rfl⟩

set_option maxHeartbeats 1000000 in
theorem setsOfNumbers_any (v : Int) (k : Nat) (hv : 1 ≤ v ∧ v ≤ 12) (w : World) :
    Calls Tryz.prog 102 #[.int .i64 v, .int .i64 (k : Int)] w fun e w' => ∃ x, e = .returned x ∧ OwnInts w' w.heap.size x (setsL v.toNat k) ∧ Below w.heap.size w w' := by
  obtain ⟨t1, t2⟩ := tw_bd hv
  have hN := tw_nat v
  obtain ⟨N, hNn⟩ : ∃ N, N = 2 ^ v.toNat := ⟨_, rfl⟩
  have HL := Lib.hid (show setsL v.toNat k = selL (isK k) N by unfold setsL; rw [hNn])
  rw [← hNn] at hN
  clear hNn
  have HN := Lib.hid hN
  obtain ⟨s1, s2⟩ := shl_tw hv
  obtain ⟨s3, s4, s5, s6, s7⟩ := shl_tw2 hv
  go_enter Tryz.func102, Tryz.ntmps102
  clear hN
  go_wp2_with fail
  clear s1 s2 s3 s4 s5 s6 s7
  go_loopw [5, 10] (fun x i wr => ∃ m : Nat, m ≤ N ∧ i = .int .i64 m ∧ OwnInts wr w.heap.size x (selL (isK k) m) ∧ Below w.heap.size w wr) (fun _ i _ => N - (intOf i).toNat)
  case atStart => exact ⟨0, Nat.zero_le _, rfl, own_empty w w.heap.size (Nat.le_refl _) rfl, (Below.refl _ w).alloc (Nat.le_refl _) _⟩
  case round =>
    obtain ⟨m, hm, rfl, own, B⟩ := hrel
    have hl := selL_len (isK k) m
    have hz := B.size
    by_cases hlt : m < N
    · have hlt' : (m : Int) < tw v := by have := HN.out; omega
      have hc := isSetOfNumbers_any (m : Int) v (k : Int) hv wr
      rw [setB_isK hlt'] at hc
      have hs := selL_succ (isK k) m
      cases hbt : isK k m with
      | true =>
        rw [hbt] at hc
        rw [hbt, if_pos rfl] at hs
        have HS := Lib.hid hs
        clear hs
        go_wp2_with fail
        refine hc.mono ?_
        rintro e w2 ⟨rfl, rfl⟩
        go_wp2_with (at_builtin; refine wpList_append_int rfl _ _ rfl w.heap.size _ _ rfl (own.alloc _) w2.heap.size _ rfl (cell_new _ _ _) (by omega) (by simp; omega) ?_; intro v' w4 hown' hgrow)
        have hgb := grown_below (B.alloc B.size _) (by simp; omega) hgrow (own.alloc _) (Nat.le_refl _)
        clear own hgrow
        go_wp2_with fail
        go_roundw
        case rel => exact ⟨m + 1, by omega, by go_num, by rw [HS.out]; exact hown', hgb⟩
        case measure => simp [intOf]; omega
      | false =>
        rw [hbt] at hc
        rw [hbt, if_neg (by decide), List.append_nil] at hs
        have HS := Lib.hid hs
        clear hs
        go_wp2_with fail
        refine hc.mono ?_
        rintro e w2 ⟨rfl, rfl⟩
        go_wp2_with fail
        go_roundw
        case rel => exact ⟨m + 1, by omega, by go_num, by rw [HS.out]; exact own, B⟩
        case measure => simp [intOf]; omega
    · have ek : Hid (m = N) := Lib.hid (by omega)
      have hlt' : ¬ (m : Int) < tw v := by have := HN.out; omega
      go_wp2_with fail
      go_ret
      exact ⟨_, rfl, by rw [HL.out, ← ek.out]; exact own, B⟩

theorem lot_nats {v p d h : Int} (g : lotB v p d h = true) : ∃ a b c : Nat, v = a ∧ p = b ∧ d = c ∧ 1 ≤ a ∧ a ≤ 12 ∧ 1 ≤ b ∧ b ≤ a ∧ 1 ≤ c ∧ c ≤ a := by
  have l := (lot_iff v p d h).1 g
  obtain ⟨g1, g2, g3, g4, g5, g6, g7, g8, g9⟩ := l
  exact ⟨v.toNat, p.toNat, d.toNat, by omega, by omega, by omega, by omega, by omega, by omega, by omega, by omega, by omega⟩
def vCt (v p d h : Int) : Int := if lotB v p d h = true then (ch v.toNat p.toNat : Nat) else 0
def vCd (v p d h : Int) : Int := if lotB v p d h = true then (ch v.toNat d.toNat : Nat) else 0

end Go.Proofs.YtpmfedllbiblbaaGreat

namespace Go.Proofs.YtpmfedllbiblbaaGreat
open Go.RowKit Cv
set_option linter.unusedVariables false
set_option linter.unusedSimpArgs false
set_option maxRecDepth 100000

/-- the pair number of n, for n in 1 .. 8 -/
def pn (n : Nat) : Nat := if n ≤ 1 then 2 else if n ≤ 3 then 4 else if n ≤ 4 then 5 else 6
theorem pn_facts : ∀ n, n < 9 → 1 ≤ n → (∀ c, c < 7 → 1 ≤ c → c < pn n → ch (c - 1) ((c + 1) / 2) < n) ∧ n ≤ ch (pn n - 1) ((pn n + 1) / 2) ∧ 2 ≤ pn n ∧ pn n ≤ 6 := by decide +kernel
def ePn (n : Int) : Int := if 1 ≤ n ∧ n ≤ 8 then 0 else 2
def vPn (n : Int) : Int := if 1 ≤ n ∧ n ≤ 8 then (pn n.toNat : Nat) else 0
theorem ePn_bad {n : Int} (h : ¬ (1 ≤ n ∧ n ≤ 8)) : ePn n = 2 ∧ vPn n = 0 := by unfold ePn vPn; rw [if_neg h, if_neg h]; exact ⟨rfl, rfl⟩
theorem ePn_ok {n : Nat} (h : 1 ≤ n ∧ n ≤ 8) : ePn n = 0 ∧ vPn n = (pn n : Nat) := by unfold ePn vPn; rw [if_pos (by omega), if_pos (by omega)]; exact ⟨rfl, rfl⟩
theorem half_c (c : Nat) : ((c : Int) + 1).tdiv 2 = (((c + 1) / 2 : Nat) : Int) := by
  rw [Int.tdiv_eq_ediv_of_nonneg (by omega)]; omega

set_option maxHeartbeats 1000000 in
theorem l10Pairs_any (n : Nat) (h1 : 1 ≤ n) (h2 : n ≤ 8) (w : World) :
    Calls Tryz.prog 75 #[.int .i64 (n : Int)] w fun e w' => e = .returned (.int .i64 (pn n : Nat)) ∧ w' = w := by
  obtain ⟨f1, f2, f3, f4⟩ := pn_facts n (by omega) h1
  have F1 := Lib.hid f1
  have F2 := Lib.hid f2
  obtain ⟨P, hP⟩ : ∃ P, P = pn n := ⟨_, rfl⟩
  rw [← hP] at F1 F2 f3 f4 ⊢
  clear f1 f2 hP
  go_enter Tryz.func75, Tryz.ntmps75
  go_wp2_with fail
  go_loopw [3] (fun o wr => ∃ c : Nat, c + 1 ≤ P ∧ o = .int .i64 ((c : Int) + 1) ∧ wr = w) (fun o _ => P - (intOf o).toNat)
  case atStart => exact ⟨0, by omega, rfl, rfl⟩
  case round =>
    obtain ⟨c, hc, rfl, rfl⟩ := hrel
    have e2 : ((c : Int) + 1 + 1).tdiv 2 = (((c + 1 + 1) / 2 : Nat) : Int) := half_c (c + 1)
    have hcall := l08Choose_any c ((c + 1 + 1) / 2) (by omega) (by omega) wr
    by_cases hlt : c + 1 < P
    · have F := F1.out (c + 1) (by omega) (by omega) hlt
      rw [Nat.add_sub_cancel] at F
      obtain ⟨z, hz⟩ : ∃ z, z = ch c ((c + 1 + 1) / 2) := ⟨_, rfl⟩
      rw [← hz] at F hcall
      clear hz
      go_wp2_with fail
      refine hcall.mono ?_
      rintro e w2 ⟨rfl, rfl⟩
      clear e2
      go_wp2_with fail
      go_roundw
      case rel => exact ⟨c + 1, by omega, by go_num, by first | rfl | trivial⟩
      case measure => simp [intOf]; omega
    · have hcp : Hid (c + 1 = P) := Lib.hid (by omega)
      have F := F2.out
      rw [← hcp.out, Nat.add_sub_cancel] at F
      obtain ⟨z, hz⟩ : ∃ z, z = ch c ((c + 1 + 1) / 2) := ⟨_, rfl⟩
      rw [← hz] at F hcall
      clear hz
      go_wp2_with fail
      refine hcall.mono ?_
      rintro e w2 ⟨rfl, rfl⟩
      clear e2
      go_wp2_with fail
      go_ret
      exact ⟨ret_int (by rw [← hcp.out]; push_cast; rfl), rfl⟩

set_option maxHeartbeats 1000000 in
theorem spec_PairNumber (n : Int) (hn : -9223372036854775808 ≤ n ∧ n ≤ 9223372036854775807) (w : World) :
    Calls Tryz.prog 32 #[.int .i64 n] w fun e w' => e = .returned (.tuple #[.int .i64 (vPn n), .int .i64 (ePn n)]) ∧ Below w.heap.size w w' := by
  by_cases h : 1 ≤ n ∧ n ≤ 8
  case neg =>
    obtain ⟨x1, x2⟩ := ePn_bad h
    have HE := Lib.hid x1
    have HV := Lib.hid x2
    clear x1 x2
    have hb : inB n 1 8 = false := inB_false h
    go_enter Tryz.func32, Tryz.ntmps32
    go_wp2_with fail
    refine (l01In_any n 1 8 _).mono ?_
    rintro e w2 ⟨rfl, rfl⟩
    rw [hb]
    go_wp2_with fail
    go_ret2
    exact ⟨ret_ii HV.out.symm HE.out.symm, Below.refl _ _⟩
  obtain ⟨m, rfl⟩ : ∃ m : Nat, n = m := ⟨n.toNat, by omega⟩
  have h1 : 1 ≤ m := by omega
  have h2 : m ≤ 8 := by omega
  obtain ⟨x1, x2⟩ := ePn_ok ⟨h1, h2⟩
  have HE := Lib.hid x1
  have HV := Lib.hid x2
  clear x1 x2
  have hb : inB (m : Int) 1 8 = true := inB_true h.1 h.2
  go_enter Tryz.func32, Tryz.ntmps32
  go_wp2_with fail
  refine (l01In_any (m : Int) 1 8 _).mono ?_
  rintro e w2 ⟨rfl, rfl⟩
  rw [hb]
  go_wp2_with fail
  refine (l10Pairs_any m h1 h2 _).mono ?_
  rintro e w2 ⟨rfl, rfl⟩
  go_wp2_with fail
  go_ret2
  exact ⟨ret_ii HV.out.symm HE.out.symm, Below.refl _ _⟩

set_option maxHeartbeats 1000000 in
/-- no number has a set of one -/
theorem setsOf_0 (w : World) :
    Calls Tryz.prog 102 #[.int .i64 0, .int .i64 1] w fun e w' => ∃ x, e = .returned x ∧ OwnInts w' w.heap.size x (setsL 0 1) ∧ Below w.heap.size w w' := by
  have HL : Hid (setsL 0 1 = []) := Lib.hid (by decide +kernel)
  have hcn := countNumbers_any 0 (by omega)
  have HC : Hid (pc 0 = 0) := Lib.hid (by decide +kernel)
  go_enter Tryz.func102, Tryz.ntmps102
  go_wp2_with fail
  go_loopw [5, 10] (fun x i wr => ∃ m : Nat, m ≤ 1 ∧ i = .int .i64 m ∧ x = .slice (some ⟨w.heap.size, 0, none⟩) 0 0 ∧ wr = w.alloc (.cells #[] 2)) (fun _ i _ => 1 - (intOf i).toNat)
  case atStart => exact ⟨0, Nat.zero_le _, rfl, rfl, rfl⟩
  case round =>
    obtain ⟨m, hm, rfl, rfl, rfl⟩ := hrel
    by_cases hlt : m < 1
    · have : m = 0 := by omega
      subst this
      have hi : ∀ W : World, Calls Tryz.prog 117 #[.int .i64 0, .int .i64 0, .int .i64 1] W fun e w' => e = .returned (.bool false) ∧ w' = W := fun W => by
        go_enter Tryz.func117, Tryz.ntmps117
        go_wp2_with fail
        refine (hcn _).mono ?_
        rw [HC.out]
        rintro e w2 ⟨rfl, rfl⟩
        go_wp2_with fail
        go_ret
        exact ⟨rfl, rfl⟩
      go_wp2_with fail
      refine (hi _).mono ?_
      rintro e w2 ⟨rfl, rfl⟩
      go_wp2_with fail
      go_roundw
      case rel => exact ⟨1, by omega, rfl, rfl, by first | rfl | trivial⟩
      case measure => simp [intOf]
    · have : m = 1 := by omega
      subst this
      go_wp2_with fail
      go_ret
      exact ⟨_, rfl, by rw [HL.out]; exact own_empty w w.heap.size (Nat.le_refl _) rfl, (Below.refl _ w).alloc (Nat.le_refl _) _⟩

set_option maxHeartbeats 1000000 in
theorem pairSets_any (c : Nat) (h : c + 1 ≤ 6) (w : World) :
    Calls Tryz.prog 73 #[.int .i64 ((c : Int) + 1)] w fun e w' => ∃ x, e = .returned x ∧ OwnInts w' w.heap.size x (setsL c ((c + 1 + 1) / 2)) ∧ Below w.heap.size w w' := by
  have hc : ∀ W : World, Calls Tryz.prog 102 #[.int .i64 (c : Int), .int .i64 (((c + 1 + 1) / 2 : Nat) : Int)] W fun e w' => ∃ x, e = .returned x ∧ OwnInts w' W.heap.size x (setsL c ((c + 1 + 1) / 2)) ∧ Below W.heap.size W w' := fun W => by
    by_cases h0 : c = 0
    · subst h0; exact setsOf_0 W
    · have := setsOfNumbers_any (c : Int) ((c + 1 + 1) / 2) (by omega) W
      rwa [Int.toNat_natCast] at this
  have e2 : ((c : Int) + 1 + 1).tdiv 2 = (((c + 1 + 1) / 2 : Nat) : Int) := half_c (c + 1)
  go_enter Tryz.func73, Tryz.ntmps73
  go_wp2_with fail
  refine (hc _).mono ?_
  rintro e w1 ⟨x, rfl, own, hb⟩
  go_wp2_with fail
  go_ret
  exact ⟨_, rfl, own, hb⟩

set_option maxHeartbeats 1000000 in
theorem impl_PairNumber (n : Int) (hn : -9223372036854775808 ≤ n ∧ n ≤ 9223372036854775807) (w : World) :
    Calls Tryz.prog 31 #[.int .i64 n] w fun e w' => e = .returned (.tuple #[.int .i64 (vPn n), .int .i64 (ePn n)]) ∧ Below w.heap.size w w' := by
  by_cases h : 1 ≤ n ∧ n ≤ 8
  case neg =>
    obtain ⟨x1, x2⟩ := ePn_bad h
    have HE := Lib.hid x1
    have HV := Lib.hid x2
    clear x1 x2
    by_cases h1 : n < 1
    · go_enter Tryz.func31, Tryz.ntmps31
      go_wp2_with fail
      go_ret2
      exact ⟨ret_ii HV.out.symm HE.out.symm, Below.refl _ _⟩
    · have h2 : 8 < n := by omega
      go_enter Tryz.func31, Tryz.ntmps31
      go_wp2_with fail
      go_ret2
      exact ⟨ret_ii HV.out.symm HE.out.symm, Below.refl _ _⟩
  obtain ⟨m, rfl⟩ : ∃ m : Nat, n = m := ⟨n.toNat, by omega⟩
  have h1 : 1 ≤ m := by omega
  have h2 : m ≤ 8 := by omega
  have i1 : ¬ (m : Int) < 1 := by omega
  have i2 : ¬ 8 < (m : Int) := by omega
  obtain ⟨x1, x2⟩ := ePn_ok ⟨h1, h2⟩
  have HE := Lib.hid x1
  obtain ⟨f1, f2, f3, f4⟩ := pn_facts m (by omega) h1
  have F1 := Lib.hid f1
  have F2 := Lib.hid f2
  obtain ⟨P, hP⟩ : ∃ P, P = pn m := ⟨_, rfl⟩
  rw [← hP] at F1 F2 f3 f4 x2
  have HV := Lib.hid x2
  clear x1 x2 f1 f2 hP
  go_enter Tryz.func31, Tryz.ntmps31
  go_wp2_with fail
  go_loopw [4] (fun o wr => ∃ c : Nat, c + 1 ≤ P ∧ o = .int .i64 ((c : Int) + 1) ∧ Below w.heap.size w wr) (fun o _ => P - (intOf o).toNat)
  case atStart => exact ⟨0, by omega, rfl, Below.refl _ _⟩
  case round =>
    obtain ⟨c, hc, rfl, B⟩ := hrel
    have hcall := pairSets_any c (by omega) wr
    have HLn := Lib.hid (setsL_len (v := c) (k := (c + 1 + 1) / 2) (by omega) (by omega))
    by_cases hlt : c + 1 < P
    · have F := F1.out (c + 1) (by omega) (by omega) hlt
      rw [Nat.add_sub_cancel, ← HLn.out] at F
      go_wp2_with fail
      refine hcall.mono ?_
      rintro e w2 ⟨x, rfl, own, hb⟩
      obtain ⟨a, cp, rfl⟩ := own.shape
      generalize (setsL c ((c + 1 + 1) / 2)).length = z at *
      have F' : (z : Int) < m := by omega
      go_wp2_with fail
      go_roundw
      case rel => exact ⟨c + 1, by omega, by go_num, B.trans (hb.mono B.size)⟩
      case measure => simp [intOf]; omega
    · have hcp : Hid (c + 1 = P) := Lib.hid (by omega)
      have F := F2.out
      rw [← hcp.out, Nat.add_sub_cancel, ← HLn.out] at F
      go_wp2_with fail
      refine hcall.mono ?_
      rintro e w2 ⟨x, rfl, own, hb⟩
      obtain ⟨a, cp, rfl⟩ := own.shape
      generalize (setsL c ((c + 1 + 1) / 2)).length = z at *
      have F' : ¬ (z : Int) < m := by omega
      go_wp2_with fail
      go_ret2
      exact ⟨ret_ii (by rw [HV.out, ← hcp.out]; push_cast; rfl) HE.out.symm, B.trans (hb.mono B.size)⟩

end Go.Proofs.YtpmfedllbiblbaaGreat

namespace Go.Proofs.YtpmfedllbiblbaaGreat
open Go.RowKit Cv
set_option linter.unusedVariables false
set_option linter.unusedSimpArgs false
set_option maxRecDepth 100000

theorem mul64_c (c : Nat) (hc : 1 ≤ c ∧ c ≤ 8) (w : World) :
    Calls Tryz.prog 134 #[.int .u64 1, .int .u64 (c : Int)] w fun e w' => e = .returned (.tuple #[.int .u64 0, .int .u64 (c : Int)]) ∧ w' = w := by
  rcases (show c = 1 ∨ c = 2 ∨ c = 3 ∨ c = 4 ∨ c = 5 ∨ c = 6 ∨ c = 7 ∨ c = 8 by omega) with rfl | rfl | rfl | rfl | rfl | rfl | rfl | rfl
  all_goals
    go_enter Tryz.func134, Tryz.ntmps134
    go_wp2_with fail
    go_ret2
    exact ⟨rfl, rfl⟩

theorem mul_c (c : Nat) (hc : 1 ≤ c ∧ c ≤ 8) (w : World) :
    Calls Tryz.prog 116 #[.int .u64 1, .int .u64 (c : Int)] w fun e w' => e = .returned (.tuple #[.int .u64 0, .int .u64 (c : Int)]) ∧ w' = w := by
  go_enter Tryz.func116, Tryz.ntmps116
  go_wp2_with fail
  refine (mul64_c c hc _).mono ?_
  rintro e w1 ⟨rfl, rfl⟩
  go_wp2_with fail
  go_ret2
  exact ⟨rfl, rfl⟩

/-- k numbers q, then zeros -/
def rowK (q : Int) (c k : Nat) : List Value := List.replicate k (.int .i64 q) ++ List.replicate (c - k) (.int .i64 0)
theorem rowK_len (q : Int) (c k : Nat) (h : k ≤ c) : (rowK q c k).length = c := by simp [rowK]; omega
theorem rowK_splice (q : Int) (c k j : Nat) (h : k + j ≤ c) : splice (rowK q c k) k (List.replicate j (.int .i64 q)) = rowK q c (k + j) := by
  unfold splice rowK
  have e1 : (List.replicate k (Value.int .i64 q) ++ List.replicate (c - k) (Value.int .i64 0)).take k = List.replicate k (.int .i64 q) := by simp
  have e2 : (List.replicate k (Value.int .i64 q) ++ List.replicate (c - k) (Value.int .i64 0)).drop (k + (List.replicate j (Value.int .i64 q)).length) = List.replicate (c - (k + j)) (.int .i64 0) := by
    rw [List.length_replicate, List.drop_append]
    simp
    omega
  rw [e1, e2, ← List.append_assoc, List.replicate_append_replicate]
theorem rowK_get (q : Int) (c k j : Nat) (h : j < k) (hk : k ≤ c) : (rowK q c k)[j]? = some (.int .i64 q) := by
  unfold rowK
  rw [List.getElem?_append_left (by simpa using h)]
  simp [h]
theorem rowK_zero (q : Int) (c : Nat) : rowK q c 0 = List.replicate c (.int .i64 0) := by simp [rowK]
theorem row_ownR {w : World} {base g c : Nat} {q : Int} (hb : base ≤ g) (hc : c ≤ maxLen) (h : w.heap[g]? = some (.cells (rowK q c c).toArray 2 (0, 0))) : OwnInts w base (.slice (some ⟨g, 0, none⟩) c c) (List.replicate c q) := by
  have e : rowK q c c = (List.replicate c q).map (Value.int .i64) := by simp [rowK]
  unfold OwnInts
  refine ⟨by simp, .inr ⟨g, c, (rowK q c c).toArray, by simp, hb, h, by simp, hc, by simp [rowK_len q c c (Nat.le_refl _)], ?_⟩⟩
  simp only [List.length_replicate, Nat.mul_one]
  rw [List.take_of_length_le (by simp [rowK_len q c c (Nat.le_refl _)])]
  exact e

theorem made_row {w w2 : World} {c : Nat} (q : Int) (h : w2.ownsRow w.heap.size 2 1 (.slice (some ⟨w.heap.size, 0, none⟩) c c) c (madeCells (Value.int .i64 0).cells (c * 1)).toList) : w2.heap[w.heap.size]? = some (.cells (rowK q c 0).toArray 2 (0, 0)) ∧ w.heap.size < w2.heap.size := by
  rcases h.2 with ⟨h, _⟩ | ⟨g', cap', cur, h', _, hh, hle, hm, hs, ht⟩
  · simp at h
  · simp only [Value.slice.injEq, Option.some.injEq, Addr.mk.injEq, and_true, true_and] at h'
    obtain ⟨rfl, rfl⟩ := h'
    have e : cur = (rowK q c 0).toArray := by
      have h2 : cur.toList = List.replicate c (Value.int .i64 0) := by
        rw [List.take_of_length_le (by simp [hs])] at ht
        rw [ht, Nat.mul_one]; exact toList_madeCells_one _ _
      rw [rowK_zero, ← h2]
    rw [e] at hh
    exact ⟨hh, (Array.getElem?_eq_some_iff.1 hh).1⟩
theorem min_one {c : Nat} (h : 1 ≤ c) {v : Value} : ([v] : List Value).length = Nat.min 1 c := by
  have : Nat.min 1 c = 1 := Nat.min_eq_left h
  rw [this]; rfl
theorem one_src {w : World} {b : Nat} {v : Value} (h : w.cell? ⟨b, 0, none⟩ = some v) : ∀ j u, ([v] : List Value)[j]? = some u → w.cell? ((⟨b, 0, none⟩ : Addr).add j) = some u := by
  intro j u hj
  match j, hj with
  | 0, hj => simp at hj; subst hj; simpa [Addr.add] using h

theorem copy_at (w w0 : World) (B0 G k c j : Nat) (q : Int) (src : Addr) (dLen dCap sLen sCap : Nat) (hr : w.heap[G]? = some (.cells (rowK q c k).toArray 2 (0, 0))) (hj : j = Nat.min sLen dLen) (hkj : k + j ≤ c)
    (hsrc : ∀ i, i < j → w.cell? (src.add i) = some (.int .i64 q)) (hb : Below B0 w0 w) (hBG : B0 ≤ G) :
    ∃ w4, Sem.run Tryz.prog (Builtin.copy_ #[24, 24] 3 #[.slice (some ⟨G, k, none⟩) dLen dCap, .slice (some src) sLen sCap]) w = .ok (goInt (j : Int)) w4 ∧ Hid (w4.heap[G]? = some (.cells (rowK q c (k + j)).toArray 2 (0, 0))) ∧ Below B0 w0 w4 := by
  obtain ⟨i0, hi, hz0, hz1, hz2⟩ := info_parts infoI64
  have hu : Tryz.prog.underlying 24 = some (.slice 2) := Tryz.underlying24
  have hsz : (Tryz.prog.info? 2).map (·.size) = some 1 := by rw [hi]; simp [hz1]
  have hrun := run_copy_row (P := Tryz.prog) w 24 24 3 2 G k dLen dCap src sLen sCap (rowK q c k).toArray 2 (List.replicate j (.int .i64 q)) hu hsz hr (by simpa using hj)
    (fun i v hv => by
      have hlt : i < j := by have := (List.getElem?_eq_some_iff.1 hv).1; simpa using this
      simp [hlt] at hv
      subst hv
      exact hsrc i hlt)
    (by simp [rowK_len q c k (by omega)]; exact hkj) (by intro v hv; rw [List.eq_of_mem_replicate hv]; rfl)
  have hlen : ((List.replicate j (Value.int .i64 q)).length : Int) = (j : Int) := by simp
  rw [hlen] at hrun
  refine ⟨_, hrun, Lib.hid ?_, below_setRow hb hBG _⟩
  have e := rowK_splice q c k j hkj
  unfold splice at e
  rw [← e]
  rw [List.append_assoc]
  exact setRow_heap w G _ _ _ _ hr
theorem row_cell {w : World} {G c k i : Nat} {q : Int} (hr : w.heap[G]? = some (.cells (rowK q c k).toArray 2 (0, 0))) (hi : i < k) (hk : k ≤ c) : w.cell? ⟨G, i, none⟩ = some (.int .i64 q) := by
  rw [cell_of_row w G i _ _ _ hr]
  simpa using rowK_get q c k i hi hk

set_option maxHeartbeats 1000000 in
theorem repeat_any (b : Nat) (q : Int) (c : Nat) (hc : 1 ≤ c ∧ c ≤ 8) (w : World) (hbl : b < w.heap.size) (hq : w.cell? ⟨b, 0, none⟩ = some (.int .i64 q)) :
    Calls Tryz.prog 101 #[.slice (some ⟨b, 0, none⟩) 1 1, .int .i64 (c : Int)] w fun e w' => ∃ g, e = .returned (.slice (some ⟨g, 0, none⟩) c c) ∧ OwnInts w' w.heap.size (.slice (some ⟨g, 0, none⟩) c c) (List.replicate c q) ∧ Below w.heap.size w w' := by
  obtain ⟨i0, hi, hz0, hz1, hz2⟩ := info_parts infoI64
  have HC := Lib.hid hc
  have c1 : 1 ≤ c := by omega
  have c3 : c ≤ 8 := by omega
  clear hc
  have hu : Tryz.prog.underlying 24 = some (.slice 2) := Tryz.underlying24
  have hsz : (Tryz.prog.info? 2).map (·.size) = some 1 := by rw [hi]; simp [hz1]
  go_enter Tryz.func101, Tryz.ntmps101
  go_wp2_with fail
  refine (mul_c c HC.out _).mono ?_
  rintro e w1 ⟨rfl, rfl⟩
  go_wp2_with (at_make; refine wpList_make_full _ rfl _ _ 24 rfl w1.heap.size 2 i0 (.int .i64 0) 1 Tryz.underlying24 hi hz0 hz1 .i64 .i64 _ _ c rfl rfl rfl rfl (by rw [hz2]; omega) (by unfold maxLen; omega) (Nat.le_refl _) ?_; intro w2 hown hgrow; have hmr := made_row q hown; have hb2 := below_grown0 hgrow; have hq2 := kept_cell hb2 hq hbl; obtain ⟨w4, hrun, hr4, hb4⟩ := copy_at w2 w1 w1.heap.size w1.heap.size 0 c 1 q ⟨b, 0, none⟩ c c 1 1 hmr.1 (Nat.min_eq_left c1).symm (by omega) (fun i hi => by obtain rfl : i = 0 := (by omega); simpa [Addr.add] using hq2) hb2 (Nat.le_refl _); clear hown hgrow hq2 hmr hb2)
  clear hrun
  obtain ⟨G, hGe⟩ : ∃ G, G = w1.heap.size := ⟨_, rfl⟩
  rw [← hGe] at hr4 ⊢
  have HGe := Lib.hid hGe
  clear hGe
  go_loopw [8] (fun n wr => ∃ k : Nat, 1 ≤ k ∧ k ≤ c ∧ n = .int .i64 k ∧ Hid (wr.heap[G]? = some (.cells (rowK q c k).toArray 2 (0, 0))) ∧ Below w1.heap.size w1 wr) (fun n _ => c - (intOf n).toNat)
  case atStart => exact ⟨1, Nat.le_refl _, c1, rfl, hr4, hb4⟩
  case round =>
    clear hr4 hb4
    obtain ⟨k, hk1, hk, rfl, hr, B⟩ := hrel
    by_cases hlt : k < c
    · obtain ⟨j, hj⟩ : ∃ j, j = Nat.min k (c - k) := ⟨_, rfl⟩
      have hj1 : 1 ≤ j := by rw [hj]; exact Nat.le_min.2 ⟨hk1, by omega⟩
      have hj2 : k + j ≤ c := by have : Nat.min k (c - k) ≤ c - k := Nat.min_le_right _ _; omega
      have hjk : j ≤ k := by rw [hj]; exact Nat.min_le_left _ _
      obtain ⟨w5, hrun, hr5, hb5⟩ := copy_at wr.drew w1 w1.heap.size G k c j q ⟨G, 0, none⟩ (c - k) (c - k) k c hr.out hj hj2 (fun i hi => by
        have := row_cell hr.out (show i < k by omega) hk
        by_cases e : i = 0
        · subst e; simpa [Addr.add] using this
        · simpa [Addr.add, e] using this) B.drew (by rw [HGe.out]; exact Nat.le_refl _)
      have hne : ¬ c = k := by omega
      have EW : IntKind.i64.wrap ((k : Int) + (j : Int)) = (k : Int) + (j : Int) := IntWalk.i64_in _ ⟨by omega, by omega⟩
      clear hj
      go_wp2_with fail
      refine wp_region_held_drew (S := fun _ => True) (by kernel_rfl) trivial (fun hHeld => ?_)
      refine wpAnyH_take (i := 0) (v := ?_) rfl (by kernel_rfl) (by kernel_rfl) (by kernel_rfl) (fun _ _ _ h => h) (Or.inl ⟨by rfl, ?_⟩) (by assumption) ?_
      rotate_left
      · (intro w hSw; (try dsimp only at hSw); go_simp; try (with_reducible rfl))
      (try simp only [Act.put, List.setIfInBounds_toArray, List.set_cons_zero, List.set_cons_succ, List.getElem_toArray, List.getElem_cons_succ, List.getElem_cons_zero])
      refine wpAnyH_take (i := 1) (v := ?_) rfl (by kernel_rfl) (by kernel_rfl) (by kernel_rfl) (fun _ _ _ h => h) (Or.inl ⟨by rfl, ?_⟩) (by assumption) ?_
      rotate_left
      · (intro w hSw; (try dsimp only at hSw); go_simp; try (with_reducible rfl))
      (try simp only [Act.put, List.setIfInBounds_toArray, List.set_cons_zero, List.set_cons_succ, List.getElem_toArray, List.getElem_cons_succ, List.getElem_cons_zero])
      refine wpAnyH_take (i := 2) (v := ?_) rfl (by kernel_rfl) (by kernel_rfl) (by kernel_rfl) (fun _ _ _ h => h) (Or.inl ⟨by rfl, ?_⟩) (by assumption) ?_
      rotate_left
      · (intro w hSw; (try dsimp only at hSw); go_simp; try (with_reducible rfl))
      (try simp only [Act.put, List.setIfInBounds_toArray, List.set_cons_zero, List.set_cons_succ, List.getElem_toArray, List.getElem_cons_succ, List.getElem_cons_zero])
      refine wpAnyH_take (i := 3) (v := ?_) rfl (by kernel_rfl) (by kernel_rfl) (by kernel_rfl) (fun _ _ _ h => h) (Or.inl ⟨by rfl, ?_⟩) (by assumption) ?_
      rotate_left
      · (intro w hSw; (try dsimp only at hSw); go_simp; try (with_reducible rfl))
      (try simp only [Act.put, List.setIfInBounds_toArray, List.set_cons_zero, List.set_cons_succ, List.getElem_toArray, List.getElem_cons_succ, List.getElem_cons_zero])
      refine wpAnyH_take (i := 4) (v := ?_) rfl (by kernel_rfl) (by kernel_rfl) (by kernel_rfl) (fun _ _ _ h => h) (Or.inl ⟨by rfl, ?_⟩) (by assumption) ?_
      rotate_left
      · (intro w hSw; (try dsimp only at hSw); go_simp; try (with_reducible rfl))
      (try simp only [Act.put, List.setIfInBounds_toArray, List.set_cons_zero, List.set_cons_succ, List.getElem_toArray, List.getElem_cons_succ, List.getElem_cons_zero])
      refine wpAnyH_take (i := 5) (v := ?_) rfl (by kernel_rfl) (by kernel_rfl) (by kernel_rfl) (fun _ _ _ h => h) (Or.inl ⟨by rfl, ?_⟩) (by assumption) ?_
      rotate_left
      · (intro w hSw; (try dsimp only at hSw); go_simp; try (with_reducible rfl))
      (try simp only [Act.put, List.setIfInBounds_toArray, List.set_cons_zero, List.set_cons_succ, List.getElem_toArray, List.getElem_cons_succ, List.getElem_cons_zero])
      refine wpAnyH_take (i := 6) (v := ?_) rfl (by kernel_rfl) (by kernel_rfl) (by kernel_rfl) (fun _ _ _ h => h) (Or.inl ⟨by rfl, ?_⟩) (by assumption) ?_
      rotate_left
      · (intro w hSw; (try dsimp only at hSw); go_simp; try (with_reducible rfl))
      (try simp only [Act.put, List.setIfInBounds_toArray, List.set_cons_zero, List.set_cons_succ, List.getElem_toArray, List.getElem_cons_succ, List.getElem_cons_zero])
      refine wpAnyH_ready (rs := [7]) (by kernel_rfl) (by simp) ?_
      refine AllReadyH.cons rfl (fun K hK => ?_) AllReadyH.nil
      go_simp
      refine hK.out _ _ (trivial) (fun hHeld => ?_)
      clear hK K
      (try simp only [Act.put, List.setIfInBounds_toArray, List.set_cons_zero, List.set_cons_succ, List.getElem_toArray, List.getElem_cons_succ, List.getElem_cons_zero])
      clear hrun
      refine wpAnyH_take (i := 8) (v := ?_) rfl (by kernel_rfl) (by kernel_rfl) (by kernel_rfl) (fun _ _ _ h => h) (Or.inl ⟨by rfl, ?_⟩) (by assumption) ?_
      rotate_left
      · (intro w hSw; (try dsimp only at hSw); go_simp; try (with_reducible rfl))
      (try simp only [Act.put, List.setIfInBounds_toArray, List.set_cons_zero, List.set_cons_succ, List.getElem_toArray, List.getElem_cons_succ, List.getElem_cons_zero])
      refine wpAnyH_take (i := 9) (v := ?_) rfl (by kernel_rfl) (by kernel_rfl) (by kernel_rfl) (fun _ _ _ h => h) (Or.inl ⟨by rfl, ?_⟩) (by assumption) ?_
      rotate_left
      · (intro w hSw; (try dsimp only at hSw); go_simp; try (with_reducible rfl))
      (try simp only [Act.put, List.setIfInBounds_toArray, List.set_cons_zero, List.set_cons_succ, List.getElem_toArray, List.getElem_cons_succ, List.getElem_cons_zero])
      refine wpAnyH_done (by kernel_rfl) ?_ _
      (try simp only [Act.put, List.setIfInBounds_toArray, List.set_cons_zero, List.set_cons_succ, List.getElem_toArray, List.getElem_cons_succ, List.getElem_cons_zero])
      go_wp2_with fail
      go_roundw
      case rel => exact ⟨k + j, by omega, hj2, by go_num, hr5, hb5⟩
      case measure => simp [intOf]; omega
    · have hkc : Hid (k = c) := Lib.hid (by omega)
      go_wp2_with fail
      go_ret
      have hr6 := hr.out
      rw [hkc.out] at hr6
      exact ⟨_, rfl, row_ownR (by rw [HGe.out]; exact Nat.le_refl _) (by unfold maxLen; omega) hr6, B⟩

set_option maxHeartbeats 1000000 in
theorem plainSpaceOf_any (q : Int) (c : Nat) (hc : 1 ≤ c ∧ c ≤ 8) (w : World) :
    Calls Tryz.prog 72 #[.int .i64 q, .int .i64 (c : Int)] w fun e w' => ∃ g, e = .returned (.agg #[.slice (some ⟨g, 0, none⟩) c c]) ∧ OwnInts w' w.heap.size (.slice (some ⟨g, 0, none⟩) c c) (List.replicate c q) ∧ Below w.heap.size w w' := by
  have HC := Lib.hid hc
  have c3 : c ≤ 8 := by omega
  clear hc
  obtain ⟨W, hW⟩ : ∃ W, W = w.alloc (.cells #[.slice none 0 0] 26) := ⟨_, rfl⟩
  have hWs : W.heap.size = w.heap.size + 1 := by rw [hW]; simp
  have B0 : Below w.heap.size w W := by rw [hW]; go_grown
  have HW := Lib.hid hW
  clear hW
  go_enter Tryz.func72, Tryz.ntmps72
  go_wp2_with fail
  rw [← HW.out]
  have BQ := B0.alloc B0.size (.cells #[.int .i64 q] 2)
  have hcq : (W.alloc (.cells #[.int .i64 q] 2)).cell? ⟨w.heap.size + 1, 0, none⟩ = some (.int .i64 q) := by rw [← hWs]; exact cell_new _ _ _
  have hsz : (W.alloc (.cells #[.int .i64 q] 2)).heap.size = w.heap.size + 2 := by simp [hWs]
  refine (repeat_any (w.heap.size + 1) q c HC.out _ (by omega) hcq).mono ?_
  rintro e w1 ⟨g, rfl, hown, hb⟩
  obtain ⟨hc, hf⟩ := bcell hb
  have hc0 : (W.alloc (.cells #[.int .i64 q] 2)).cell? ⟨w.heap.size, 0, none⟩ = some (.slice none 0 0) := by rw [HW.out]; simp
  have hf0 : (W.alloc (.cells #[.int .i64 q] 2)).frozen? ⟨w.heap.size, 0, none⟩ = false := by
    have hfa : W.frozen? ⟨w.heap.size, 0, none⟩ = false := by rw [HW.out]; exact frozen_of_row _ _ 0 _ _ (heap_alloc_new w _)
    exact ((bcell ((Below.refl _ W).alloc (Nat.le_refl _) (.cells #[.int .i64 q] 2))).2 w.heap.size 0 (by omega)).trans hfa
  have hc1 := hc w.heap.size 0 (by omega)
  have hf1 := hf w.heap.size 0 (by omega)
  rw [hc0] at hc1
  rw [hf0] at hf1
  have hz : w.heap.size < w1.heap.size := by have := hb.size; omega
  clear hc hf hc0 hf0 hcq
  go_wp2_with fail
  refine bodyPost_ret (v := .agg #[.slice (some ⟨g, 0, none⟩) c c]) (by simp [results, Tryz.results72, go_sem, hc1, hf1, hz]) rfl ?_
  exact ⟨g, rfl, (hown.setBelow (a := ⟨w.heap.size, 0, none⟩) (by simp; omega) _).rebase (by omega), (BQ.trans (hb.mono (by omega))).setCell (by simp) _⟩

end Go.Proofs.YtpmfedllbiblbaaGreat
