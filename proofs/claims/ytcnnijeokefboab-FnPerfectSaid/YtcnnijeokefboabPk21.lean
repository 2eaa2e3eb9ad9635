/-
  Texts put together: ColS, ClfS. By an AI agent.
-/
import Derived.Test.YtcnnijeokefboabPk20
import Derived.Test.YtcnnijeokefboabPk6
namespace Go.Proofs.Ytcnnijeokefboab
open Go.RowKit Cv
set_option linter.unusedVariables false
set_option linter.unusedSimpArgs false
set_option maxRecDepth 100000

def qT (q n : Int) : Nat → Int
  | 0 => n
  | t + 1 => qT q n t / q
/-- the first digit other than 0 among the last t -/
def fT (q n : Int) : Nat → Int
  | 0 => 0
  | t + 1 => if qT q n t % q ≠ 0 then qT q n t % q else fT q n t
/-- the m digits of a number -/
def dL (q n : Int) (m : Nat) : List Int := (List.range m).map fun j => qT q n (m - 1 - j) % q
def pT (q : Int) : Nat → Int
  | 0 => 1
  | t + 1 => pT q t * q
/-- the columns of the numbers 1 to k -/
def colT (q : Int) (m : Nat) : Nat → List (List Int)
  | 0 => []
  | k + 1 => colT q m k ++ if fT q (k + 1 : Nat) m = 1 then [dL q (k + 1 : Nat) m] else []
def colL (q : Int) (m : Nat) : List (List Int) := colT q m ((pT q m).toNat - 1)
theorem dL_len (q n : Int) (m : Nat) : (dL q n m).length = m := by simp [dL]
theorem gi_dL (q n : Int) (m j : Nat) (h : j < m) : gi (dL q n m) j = qT q n (m - 1 - j) % q := by simp [dL, gi, h]
theorem qT_bd {q n : Int} (hq : 2 ≤ q) (hn : 0 ≤ n) (t : Nat) : 0 ≤ qT q n t ∧ qT q n t ≤ n := by
  induction t with
  | zero => exact ⟨hn, Int.le_refl _⟩
  | succ t ih =>
    rw [qT]
    exact ⟨Int.ediv_nonneg ih.1 (by omega), Int.le_trans (Int.ediv_le_self _ ih.1) ih.2⟩
theorem pT_bd {q : Int} (hq : q = 2 ∨ q = 3) {m : Nat} (hm : m ≤ 3) : 1 ≤ pT q m ∧ pT q m ≤ 27 := by
  match m, hm with
  | 0, _ => simp [pT]
  | 1, _ => rcases hq with rfl | rfl <;> simp [pT]
  | 2, _ => rcases hq with rfl | rfl <;> simp [pT]
  | 3, _ => rcases hq with rfl | rfl <;> simp [pT]
theorem colT_len (q : Int) (m k : Nat) : (colT q m k).length ≤ k := by
  induction k with
  | zero => simp [colT]
  | succ k ih => rw [colT, List.length_append]; split <;> simp <;> omega

set_option maxHeartbeats 2000000 in
theorem l06Columns_any (q : Int) (hq : q = 2 ∨ q = 3) (m : Nat) (hm1 : 1 ≤ m) (hm : m ≤ 3) (w : World) :
    Calls Try.prog 45 #[.int .i64 q, .int .i64 (m : Int)] w fun e w' => ∃ g c, e = .returned (.slice (some ⟨g, 0, none⟩) (colL q m).length c) ∧ OwnCols w' w.heap.size (.slice (some ⟨g, 0, none⟩) (colL q m).length c) (colL q m) ∧ Below w.heap.size w w' := by
  obtain ⟨i0, hi, hz0, hz1, hz2⟩ := info_parts infoI64
  have hq2 : 2 ≤ q := by omega
  have hq3 : q ≤ 3 := by omega
  have hqz : ¬ q = 0 := by omega
  have hqzb : (q == 0) = false := by simp; omega
  have HP := Lib.hid fun t (ht : t ≤ 3) => pT_bd hq ht
  have HQ := Lib.hid fun (n : Int) (hn : 0 ≤ n) t => qT_bd hq2 hn t
  have HCL := Lib.hid fun k => colT_len q m k
  clear hq
  have oc0 := OwnCols.empty w w.heap.size (Nat.le_refl _) rfl
  obtain ⟨W1, hW1⟩ : ∃ W1, W1 = w.alloc (.cells #[] 24) := ⟨_, rfl⟩
  rw [← hW1] at oc0
  have B1 : Below w.heap.size w W1 := by rw [hW1]; exact (Below.refl _ _).alloc (Nat.le_refl _) _
  have HW1 := Lib.hid hW1
  have l1 : w.heap.size < W1.heap.size := by rw [hW1]; simp
  clear hW1
  go_enter Try.func45, Try.ntmps45
  go_wp2_with fail
  rw [← HW1.out]
  go_loop [6, 7] (fun a i => ∃ t : Nat, t ≤ m ∧ i = .int .i64 t ∧ a = .int .i64 (pT q t)) (fun _ i => m - (intOf i).toNat)
  case atStart => exact ⟨0, Nat.zero_le _, rfl, rfl⟩
  case round =>
    obtain ⟨t, ht, rfl, rfl⟩ := hrel
    obtain ⟨p1, p2⟩ := HP.out t (by omega)
    by_cases hlt : t < m
    · have hlI : (t : Int) < (m : Int) := by omega
      obtain ⟨p3, p4⟩ := HP.out (t + 1) (by omega)
      have HS : Hid (pT q (t + 1) = pT q t * q) := Lib.hid rfl
      rw [HS.out] at p3 p4
      have EW : IntKind.i64.wrap (pT q t * q) = pT q t * q := IntWalk.i64_in _ ⟨by omega, by omega⟩
      go_wp2
      go_round
      case rel => exact ⟨t + 1, by omega, by go_num, by rw [HS.out]⟩
      case measure => simp [intOf]; omega
    · have et : Hid (t = m) := Lib.hid (by omega)
      have hlI : ¬ (t : Int) < (m : Int) := by omega
      have HM : Hid (pT q t = pT q m) := Lib.hid (by rw [et.out])
      obtain ⟨A, hA⟩ : ∃ A : Nat, pT q t = (A : Int) := ⟨(pT q t).toNat, by omega⟩
      have HCF : Hid (colL q m = colT q m (A - 1)) := Lib.hid (by unfold colL; rw [← HM.out, hA]; simp)
      rw [hA] at p1 p2 ⊢
      clear hA HM
      go_wp2
      go_loopw [5, 8] (fun vo vi wr => ∃ (k g c : Nat), k + 1 ≤ A ∧ vi = .int .i64 ((k : Int) + 1) ∧ vo = .slice (some ⟨g, 0, none⟩) (colT q m k).length c ∧ OwnCols wr w.heap.size (.slice (some ⟨g, 0, none⟩) (colT q m k).length c) (colT q m k) ∧ w.heap.size < wr.heap.size ∧ Below w.heap.size w wr) (fun _ vi _ => A - (intOf vi).toNat)
      case atStart => exact ⟨0, w.heap.size, 0, by omega, rfl, rfl, oc0, l1, B1⟩
      case round =>
        clear oc0 l1 B1
        obtain ⟨k, g, c, hk, rfl, rfl, oc, l, B⟩ := hrel
        obtain ⟨w0, rfl⟩ : ∃ w0, w0 = wr := ⟨_, rfl⟩
        have hcl := HCL.out k
        have HStep : Hid (colT q m (k + 1) = colT q m k ++ if fT q ((k : Int) + 1) m = 1 then [dL q ((k : Int) + 1) m] else []) := Lib.hid rfl
        obtain ⟨R, hR⟩ : ∃ R, R = colT q m k := ⟨_, rfl⟩
        rw [← hR] at oc hcl HStep ⊢
        obtain ⟨P, hP⟩ : ∃ P, P = R.length := ⟨_, rfl⟩
        rw [← hP] at oc hcl ⊢
        have HR := Lib.hid hR
        have HPl := Lib.hid hP
        have hRl : R.length ≤ 1073741824 := by omega
        have hgb := oc.base_le
        have hs := B.size
        clear hR hP
        by_cases hkA : k + 1 < A
        · have hlI2 : (k : Int) + 1 < (A : Int) := by omega
          have n0 : (0 : Int) ≤ (k : Int) + 1 := by omega
          obtain ⟨n, hn⟩ : ∃ n : Int, n = (k : Int) + 1 := ⟨_, rfl⟩
          rw [← hn] at HStep n0 hlI2 ⊢
          have hn27 : n ≤ 27 := by omega
          have HNk := Lib.hid hn
          have HQn := Lib.hid (HQ.out n n0)
          have mI : (m : Int) ≤ 3 := by omega
          have m0 : (0 : Int) ≤ (m : Int) := by omega
          clear hn
          go_wp2_with (first | (at_make; refine wpList_make_full _ rfl _ _ 24 rfl w0.heap.size 2 i0 (.int .i64 0) 1 Try.underlying24 hi hz0 hz1 .i64 .i64 (m : Int) (m : Int) m rfl rfl rfl rfl (by rw [hz2]; omega) (by unfold maxLen; omega) (Nat.le_refl _) ?_; intro w2 hown hgrow) | fail)
          have hb2 : Below w0.heap.size w0 w2 := below_grown0 hgrow
          replace hown := own_made hown
          have lg := hown.base_le
          clear hgrow
          go_loopw [10, 11, 12] (fun vr vf vk wi => ∃ (t : Nat) (T : List Int), t ≤ m ∧ vr = .int .i64 (qT q n t) ∧ vf = .int .i64 (fT q n t) ∧ vk = .int .i64 ((m : Int) - 1 - (t : Int)) ∧ OwnInts wi w0.heap.size (.slice (some ⟨w0.heap.size, 0, none⟩) m m) T ∧ Hid (T.length = m ∧ ∀ j, j < m → m - t ≤ j → gi T j = qT q n (m - 1 - j) % q) ∧ Below w0.heap.size w0 wi ∧ w0.heap.size < wi.heap.size) (fun _ _ vk _ => ((intOf vk) + 1).toNat)
          case atStart => exact ⟨0, _, Nat.zero_le _, rfl, rfl, by simp, hown, Lib.hid ⟨by simp, fun j h1 h2 => by omega⟩, hb2, lg.2⟩
          case round =>
            clear hown hb2 lg
            obtain ⟨t, T, ht2, rfl, rfl, rfl, od, HT, bd, ld⟩ := hrel
            obtain ⟨q1, q2⟩ := HQn.out t
            by_cases htm : t < m
            · obtain ⟨j, hj⟩ : ∃ j : Nat, (m : Int) - 1 - (t : Int) = (j : Int) := ⟨m - 1 - t, by omega⟩
              have hjm : j < m := by omega
              have HJ := Lib.hid hj
              have HJm : Hid (m - 1 - j = t ∧ m - (t + 1) = j) := Lib.hid ⟨by omega, by omega⟩
              rw [hj]
              clear hj
              have j0 : (0 : Int) ≤ (j : Int) := by omega
              have jI : (j : Int) < (m : Int) := by omega
              have hcell := od.cell (k := j) (by rw [HT.out.1]; exact hjm)
              have hfree := od.free j
              have HQS : Hid (qT q n (t + 1) = qT q n t / q) := Lib.hid rfl
              have HFS : Hid (fT q n (t + 1) = if qT q n t % q ≠ 0 then qT q n t % q else fT q n t) := Lib.hid rfl
              obtain ⟨x, hx⟩ : ∃ x, x = qT q n t := ⟨_, rfl⟩
              rw [← hx] at q1 q2 HQS HFS ⊢
              have HX := Lib.hid hx
              clear hx
              have d1 := Int.emod_nonneg x hqz
              have d2 := Int.emod_lt_of_pos x (show 0 < q by omega)
              have E2 : x.tmod q = x % q := Int.tmod_eq_emod_of_nonneg q1
              have E3 : x.tdiv q = x / q := Int.tdiv_eq_ediv_of_nonneg q1
              have d3 := Int.ediv_nonneg q1 (show 0 ≤ q by omega)
              have d4 := Int.ediv_le_self q q1
              have od2 := od.stored j (x % q)
              have HT2 : Hid ((T.set j (x % q)).length = m ∧ ∀ i, i < m → m - (t + 1) ≤ i → gi (T.set j (x % q)) i = qT q n (m - 1 - i) % q) := Lib.hid ⟨by rw [List.length_set]; exact HT.out.1, fun i h1 h2 => by
                rw [gi_set _ _ _ _ (by rw [HT.out.1]; exact hjm)]
                by_cases e : i = j
                · subst e; rw [if_pos rfl, HJm.out.1, HX.out]
                · rw [if_neg e, HT.out.2 i h1 (by have := HJm.out.2; omega)]⟩
              have bd2 : Below w0.heap.size w0 (wr.setCell ⟨w0.heap.size, j, none⟩ (.int .i64 (x % q))) := bd.setCell (by (try dsimp only); omega) _
              have ld2 : w0.heap.size < (wr.setCell ⟨w0.heap.size, j, none⟩ (.int .i64 (x % q))).heap.size := by simpa using ld
              have hcell2 := od2.cell (k := j) (by rw [List.length_set, HT.out.1]; exact hjm)
              rw [gi_set _ _ _ _ (by rw [HT.out.1]; exact hjm), if_pos rfl] at hcell2
              by_cases hz : x % q = 0
              · have hzb : (x % q != 0) = false := by simp [hz]
                have HF2 : Hid (fT q n (t + 1) = fT q n t) := Lib.hid (by rw [HFS.out, if_neg (fun h => h hz)])
                clear hz
                go_wp2_with fail
                go_roundw
                case rel => exact ⟨t + 1, _, by omega, by rw [HQS.out], by rw [HF2.out], by rw [← HJ.out]; congr 1; push_cast; omega, od2, HT2, bd2, ld2⟩
                case measure => simp [intOf]; try omega
              · have hzb : (x % q != 0) = true := by simpa using hz
                have HF2 : Hid (fT q n (t + 1) = x % q) := Lib.hid (by rw [HFS.out, if_pos hz])
                clear hz
                go_wp2_with fail
                go_roundw
                case rel => exact ⟨t + 1, _, by omega, by rw [HQS.out], by rw [HF2.out], by rw [← HJ.out]; congr 1; push_cast; omega, od2, HT2, bd2, ld2⟩
                case measure => simp [intOf]; try omega
            · have htm2 : Hid (t = m) := Lib.hid (by omega)
              have hneg : (m : Int) - 1 - (t : Int) = -1 := by omega
              have HTd : Hid (T = dL q n m) := Lib.hid (ext_gi (by rw [HT.out.1, dL_len]) fun j hj => by
                rw [HT.out.1] at hj
                rw [HT.out.2 j hj (by have := htm2.out; omega), gi_dL _ _ _ _ hj])
              rw [hneg]
              have oc2 := oc.below bd
              have B2 := B.trans (bd.mono hs)
              obtain ⟨F, hF⟩ : ∃ F, F = fT q n t := ⟨_, rfl⟩
              have HF : Hid (F = fT q n m) := Lib.hid (by rw [hF, htm2.out])
              rw [← hF]
              clear hF hneg
              by_cases hf1 : F = 1
              · have hfb : (F == 1) = true := by simp [hf1]
                have HS2 : Hid (colT q m (k + 1) = R ++ [T]) := Lib.hid (by rw [HStep.out, if_pos (by rw [← HF.out]; exact hf1), HTd.out])
                have od9 : OwnInts wr w.heap.size (.slice (some ⟨w0.heap.size, 0, none⟩) m m) T := od.rebase hs
                clear hf1
                go_wp2_with (at_builtin; go_must (refine wpList_append_col_at rfl _ _ rfl w.heap.size (.slice (some ⟨g, 0, none⟩) P c) R rfl (oc2.alloc _) wr.heap.size (.slice (some ⟨w0.heap.size, 0, none⟩) m m) T (od9.alloc _) (.inr (show some w0.heap.size ≠ some g from fun e => by have := Option.some.inj e; omega)) (fun z hz => by cases hz; rw [World.size_alloc]; (try dsimp only); omega) rfl (cell_new _ _ _) hRl (by rw [World.size_alloc]; omega) ?_; intro v' w5 hown' hgrow hblk))
                have hb5 : g < wr.heap.size := by omega
                have hgr : ∀ z, some z = v'.ownBlock → w.heap.size ≤ z ∧ (z = g ∨ z = (wr.alloc (.cells #[.slice (some ⟨w0.heap.size, 0, none⟩) m m] 24)).heap.size) := fun z hz => by
                  rcases hblk with h | h
                  · rw [h] at hz; cases hz; exact ⟨hgb.1, .inl rfl⟩
                  · rw [h] at hz; cases hz; exact ⟨by rw [World.size_alloc]; omega, .inr rfl⟩
                have B5 := (B2.alloc B2.size (.cells #[.slice (some ⟨w0.heap.size, 0, none⟩) m m] 24)).grown hgrow (by rw [World.size_alloc]; have := B2.size; omega) (fun z hz => by cases hz; exact hgb.1)
                have l5 : w.heap.size < w5.heap.size := by have := hgrow.size; rw [World.size_alloc] at this; omega
                obtain ⟨g', c', hv'⟩ := hown'.isSlice
                subst hv'
                have hLn : (R ++ [T]).length = P + 1 := by rw [List.length_append, ← HPl.out]; rfl
                have HLn := Lib.hid hLn
                rw [hLn] at hown' ⊢
                clear hblk hgr hgrow hLn
                go_wp2_with fail
                go_roundw
                case rel => exact ⟨k + 1, g', c', by omega, by rw [HNk.out]; go_num, by rw [HS2.out, HLn.out], by rw [HS2.out, HLn.out]; exact hown', l5, B5⟩
                case measure => simp [intOf]; omega
              · have hfb : (F == 1) = false := by simpa using hf1
                have HS2 : Hid (colT q m (k + 1) = R) := Lib.hid (by rw [HStep.out, if_neg (by rw [← HF.out]; exact hf1), List.append_nil])
                clear hf1
                go_wp2_with fail
                go_roundw
                case rel => exact ⟨k + 1, g, c, by omega, by rw [HNk.out]; go_num, by rw [HS2.out, ← HPl.out], by rw [HS2.out, ← HPl.out]; exact oc2, by omega, B2⟩
                case measure => simp [intOf]; omega
        · have hlI2 : ¬ (k : Int) + 1 < (A : Int) := by omega
          have HX : Hid (colL q m = R) := Lib.hid (by rw [HCF.out, HR.out, show A - 1 = k by omega])
          go_wp2_with fail
          go_ret
          exact ⟨g, c, by rw [HX.out, ← HPl.out]; try rfl, by rw [HX.out, ← HPl.out]; exact oc, B⟩

end Go.Proofs.Ytcnnijeokefboab

namespace Go.Proofs.Ytcnnijeokefboab
open Go.RowKit Cv
set_option linter.unusedVariables false
set_option linter.unusedSimpArgs false
set_option maxRecDepth 100000

/-- the error for q and m, at least a -/
def eCol (a q m : Int) : Int := if (2 ≤ q ∧ q ≤ 3) ∧ a ≤ m ∧ m ≤ 3 then (if 8 < (colL q m.toNat).length then 3 else 0) else 2
def vCol (a q m : Int) : List (List Int) := if eCol a q m = 0 then colL q m.toNat else []
theorem col_nil (w : World) (base : Nat) : OwnCols w base (.slice none 0 0) [] := ⟨[], rfl, ⟨rfl, .inl ⟨rfl, rfl⟩⟩, fun i hi => by simp at hi⟩
theorem eCol_no {a q m : Int} (h : ¬ ((2 ≤ q ∧ q ≤ 3) ∧ a ≤ m ∧ m ≤ 3)) : eCol a q m = 2 ∧ vCol a q m = [] := by
  have h1 : eCol a q m = 2 := by unfold eCol; rw [if_neg h]
  exact ⟨h1, by unfold vCol; rw [if_neg (by rw [h1]; decide)]⟩
theorem eCol_big {a q m : Int} (h : (2 ≤ q ∧ q ≤ 3) ∧ a ≤ m ∧ m ≤ 3) (g : 8 < (colL q m.toNat).length) : eCol a q m = 3 ∧ vCol a q m = [] := by
  have h1 : eCol a q m = 3 := by unfold eCol; rw [if_pos h, if_pos g]
  exact ⟨h1, by unfold vCol; rw [if_neg (by rw [h1]; decide)]⟩
theorem eCol_ok {a q m : Int} (h : (2 ≤ q ∧ q ≤ 3) ∧ a ≤ m ∧ m ≤ 3) (g : ¬ 8 < (colL q m.toNat).length) : eCol a q m = 0 ∧ vCol a q m = colL q m.toNat := by
  have h1 : eCol a q m = 0 := by unfold eCol; rw [if_pos h, if_neg g]
  exact ⟨h1, by unfold vCol; rw [if_pos h1]⟩

set_option maxHeartbeats 1000000 in
theorem specC_ColumnsFor (q : Int) (hq : -9223372036854775808 ≤ q ∧ q ≤ 9223372036854775807) (m : Int) (hm : -9223372036854775808 ≤ m ∧ m ≤ 9223372036854775807) (w : World) :
    Calls Try.prog 18 #[.int .i64 q, .int .i64 m] w fun e w' => ∃ v, e = .returned (.tuple #[v, .int .i64 (eCol 1 q m)]) ∧ OwnCols w' w.heap.size v (vCol 1 q m) ∧ Below w.heap.size w w' := by
  by_cases h : (2 ≤ q ∧ q ≤ 3) ∧ 1 ≤ m ∧ m ≤ 3
  · have b1 := inB_true (n := q) (low := 2) (high := 3) h.1.1 h.1.2
    have b2 := inB_true (n := m) (low := 1) (high := 3) h.2.1 h.2.2
    have hc := l06Columns_any q (by omega) m.toNat (by omega) (by omega) w
    rw [show ((m.toNat : Nat) : Int) = m by omega] at hc
    have HB := Lib.hid (eCol_big h)
    have HO := Lib.hid (eCol_ok h)
    obtain ⟨R, hR⟩ : ∃ R, R = colL q m.toNat := ⟨_, rfl⟩
    rw [← hR] at hc HB HO
    have HC := Lib.hid hc
    clear h hc hR
    by_cases g : 8 < R.length
    · obtain ⟨e1, e2⟩ := HB.out g
      have E1 := Lib.hid e1
      have E2 := Lib.hid e2
      have gI : (8 : Int) < (R.length : Int) := by omega
      clear e1 e2 g
      go_enter Try.func18, Try.ntmps18
      go_wp2_with (first | (go_at_call 34; refine (l01In_any _ _ _ _).mono ?_; rintro e w' ⟨rfl, rfl⟩) | (go_at_call 45; refine HC.out.mono ?_; rintro e w1 ⟨gg, c, rfl, oc, hb⟩) | fail)
      go_ret2
      exact ⟨_, by rw [E1.out]; rfl, by rw [E2.out]; exact col_nil _ _, hb⟩
    · obtain ⟨e1, e2⟩ := HO.out g
      have E1 := Lib.hid e1
      have E2 := Lib.hid e2
      have gI : ¬ (8 : Int) < (R.length : Int) := by omega
      clear e1 e2 g
      go_enter Try.func18, Try.ntmps18
      go_wp2_with (first | (go_at_call 34; refine (l01In_any _ _ _ _).mono ?_; rintro e w' ⟨rfl, rfl⟩) | (go_at_call 45; refine HC.out.mono ?_; rintro e w1 ⟨gg, c, rfl, oc, hb⟩) | fail)
      go_ret2
      exact ⟨_, by rw [E1.out]; rfl, by rw [E2.out]; exact oc, hb⟩
  · obtain ⟨e1, e2⟩ := eCol_no h
    have E1 := Lib.hid e1
    have E2 := Lib.hid e2
    clear e1 e2
    by_cases h1 : 2 ≤ q ∧ q ≤ 3
    · have b1 := inB_true (n := q) (low := 2) (high := 3) h1.1 h1.2
      have b2 := inB_false (n := m) (low := 1) (high := 3) (by omega)
      clear h h1
      go_enter Try.func18, Try.ntmps18
      go_wp2_with (first | (go_at_call 34; refine (l01In_any _ _ _ _).mono ?_; rintro e w' ⟨rfl, rfl⟩) | fail)
      go_ret2
      exact ⟨_, by rw [E1.out]; rfl, by rw [E2.out]; exact col_nil _ _, Below.refl _ _⟩
    · have b1 := inB_false (n := q) (low := 2) (high := 3) (by omega)
      clear h h1
      go_enter Try.func18, Try.ntmps18
      go_wp2_with (first | (go_at_call 34; refine (l01In_any _ _ _ _).mono ?_; rintro e w' ⟨rfl, rfl⟩) | fail)
      go_ret2
      exact ⟨_, by rw [E1.out]; rfl, by rw [E2.out]; exact col_nil _ _, Below.refl _ _⟩

end Go.Proofs.Ytcnnijeokefboab
