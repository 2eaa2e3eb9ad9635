/-
  Texts put together: Clone, ClI, AllW. By an AI agent.
-/
import Derived.Test.YtcnnijeokefboabPkPut
import Derived.Test.YtcnnijeokefboabPk4
import Derived.Test.YtcnnijeokefboabPkCfi
import Derived.Test.YtcnnijeokefboabPkRwc
import Derived.Test.YtcnnijeokefboabPk10
namespace Go.Proofs.Ytcnnijeokefboab
open Go.RowKit Cv
set_option linter.unusedVariables false
set_option linter.unusedSimpArgs false
set_option maxRecDepth 100000

theorem own_made_some {w : World} {base m : Nat} {v v' : Value} {L : List Int} (h : OwnInts w base v' L) (hnil : v' = .slice none 0 0 ↔ v = .slice none 0 0 ∧ m = 0) (hv : v ≠ .slice none 0 0) : ∃ g c, v' = .slice (some ⟨g, 0, none⟩) L.length c := by
  rcases h.2 with ⟨h1, _⟩ | ⟨g, c, cur, h1, _⟩
  · exact absurd (hnil.1 h1).1 hv
  · exact ⟨g, c, h1⟩
theorem clone_any (g0 : Nat) (L : List Int) (cap base : Nat) (w : World) (hl : L.length ≤ 1048576) (hb : base ≤ w.heap.size) (a : Addr) (hL : Ints w (some a) L) :
    Calls Try.prog 47 #[.slice (some a) L.length cap] w fun e w' => ∃ g c, e = .returned (.slice (some ⟨g, 0, none⟩) L.length c) ∧ OwnInts w' w.heap.size (.slice (some ⟨g, 0, none⟩) L.length c) L ∧ Below w.heap.size w w' := by
  have B0 : Below w.heap.size w (w.alloc (.cells #[] 2)) := by go_grown
  have o0 := own_empty w w.heap.size (Nat.le_refl _) rfl
  have hnil0 := Lib.run_eql_slice_nil (P := Try.prog) w 24 2 (some a) L.length cap 0 0 Try.underlying24
  go_enter Try.func47, Try.ntmps47
  go_wp2_with (at_builtin; refine wpList_append_ints rfl _ _ rfl w.heap.size _ [] rfl o0 a L L.length cap rfl rfl (hL.below B0) (by simp; omega) B0.size ?_; intro v' w4 hown' hgrow hnil; have hb4 := grown_below B0 B0.size hgrow o0 (Nat.le_refl _); rw [List.nil_append] at hown'; obtain ⟨g, c, hv⟩ := own_made_some hown' hnil (fun h => absurd (Value.slice.inj h).1 (by simp)); subst hv)
  go_ret
  exact ⟨g, c, rfl, hown', hb4⟩

end Go.Proofs.Ytcnnijeokefboab

namespace Go.Proofs.Ytcnnijeokefboab
open Go.RowKit Cv
set_option linter.unusedVariables false
set_option linter.unusedSimpArgs false
set_option maxRecDepth 100000

theorem vCol_len (q m : Int) : (vCol 1 q m).length ≤ 4096 ∧ ∀ j, (rr (vCol 1 q m) j).length ≤ 4096 := by
  unfold vCol
  split
  · rename_i h
    have hr : (2 ≤ q ∧ q ≤ 3) ∧ 1 ≤ m ∧ m ≤ 3 := by
      by_cases g : (2 ≤ q ∧ q ≤ 3) ∧ 1 ≤ m ∧ m ≤ 3
      · exact g
      · unfold eCol at h; rw [if_neg g] at h; cases h
    obtain ⟨M, rfl⟩ := Int.eq_ofNat_of_zero_le (show 0 ≤ m by omega)
    have hq : q = 2 ∨ q = 3 := by omega
    have hM : M = 1 ∨ M = 2 ∨ M = 3 := by omega
    have e : ((M : Int)).toNat = M := by simp
    rw [e]
    obtain ⟨p1, p2⟩ := pc_all hq hM
    have p3 := wcl_len hq (show M ≤ 3 by omega)
    refine ⟨by omega, fun j => ?_⟩
    by_cases hj : j < (colL q M).length
    · have := p2 j (by omega)
      unfold rr
      rw [← this, List.length_drop, c3_len]; omega
    · simp [rr, List.getD, List.getElem?_eq_none (Nat.le_of_not_lt hj)]
  · exact ⟨by simp, fun j => by simp [rr]⟩
theorem rd_of_cols {w : World} {lo : Nat} {v : Value} {R : List (List Int)} (h : OwnCols w lo v R) : RdRws w lo w.heap.size v R := by
  obtain ⟨hs, e1, e2, e3⟩ := h
  refine ⟨hs, e1, e2, fun k hk => (World.ownsRow.lt e2 k hk).2, fun i hi => ?_⟩
  obtain ⟨x, hx, ho, _⟩ := e3 i hi
  exact ⟨x, hx, ho, fun k hk => (World.ownsRow.lt ho k hk).2⟩
theorem spec_ColumnsFor (q : Int) (hq : -9223372036854775808 ≤ q ∧ q ≤ 9223372036854775807) (m : Int) (hm : -9223372036854775808 ≤ m ∧ m ≤ 9223372036854775807) (w : World) :
    Calls Try.prog 18 #[.int .i64 q, .int .i64 m] w fun e w' => ∃ v, e = .returned (.tuple #[v, .int .i64 (eCol 1 q m)]) ∧ RdRws w' w.heap.size w'.heap.size v (vCol 1 q m) ∧ Below w.heap.size w w' := by
  refine (specC_ColumnsFor q hq m hm w).mono ?_
  rintro e w' ⟨v, h1, h2, h3⟩
  exact ⟨v, h1, rd_of_cols h2, h3⟩

theorem columnsFor_out (q m a : Int) (h : ¬ ((2 ≤ q ∧ q ≤ 3) ∧ a ≤ m ∧ m ≤ 3)) (w : World) :
    Calls Try.prog 40 #[.int .i64 q, .int .i64 m, .int .i64 a] w fun e w' => e = .returned (.tuple #[.slice none 0 0, .int .i64 2]) ∧ Below w.heap.size w w' := by
  have hc : (decide (q < 2) || decide (3 < q) || decide (m < a) || decide (3 < m)) = true := by
    simp only [Bool.or_eq_true, decide_eq_true_eq]; omega
  by_cases h1 : q < 2
  · clear h hc
    go_enter Try.func40, Try.ntmps40
    go_wp2_with fail
    go_ret2
    exact ⟨rfl, Below.refl _ _⟩
  · by_cases h2 : 3 < q
    · clear h hc
      go_enter Try.func40, Try.ntmps40
      go_wp2_with fail
      go_ret2
      exact ⟨rfl, Below.refl _ _⟩
    · by_cases h3 : m < a
      · clear h hc
        go_enter Try.func40, Try.ntmps40
        go_wp2_with fail
        go_ret2
        exact ⟨rfl, Below.refl _ _⟩
      · have h4 : 3 < m := by omega
        clear h hc
        go_enter Try.func40, Try.ntmps40
        go_wp2_with fail
        go_ret2
        exact ⟨rfl, Below.refl _ _⟩

theorem flat3_get (q : Int) (Ws : List Int) (k j : Nat) (hk : k < Ws.length) (hj : j < 3) : (flat3 q Ws)[k * 3 + j]? = some (.int .i64 (gi (c3 q (gi Ws k)) j)) := by
  induction Ws generalizing k with
  | nil => simp at hk
  | cons x Ws ih =>
    have e : flat3 q (x :: Ws) = (c3 q x).map (Value.int .i64) ++ flat3 q Ws := rfl
    rw [e]
    cases k with
    | zero =>
      rw [List.getElem?_append_left (by rw [List.length_map, c3_len]; omega), Nat.zero_mul, Nat.zero_add]
      exact gi_map _ j (by rw [c3_len]; exact hj)
    | succ k =>
      rw [List.getElem?_append_right (by rw [List.length_map, c3_len]; omega), List.length_map, c3_len, show (k + 1) * 3 + j - 3 = k * 3 + j by omega]
      have := ih k (by simpa using hk)
      rw [this]; rfl
theorem own3_cells {q : Int} {w : World} {base : Nat} {a : Option Addr} {n c : Nat} {Ws : List Int} (h : OwnA3 q w base (.slice a n c) Ws) (h1 : 0 < Ws.length) :
    ∃ g, a = some ⟨g, 0, none⟩ ∧ g < w.heap.size ∧ ∀ k j, k < Ws.length → j < 3 → w.cell? ⟨g, k * 3 + j, none⟩ = some (.int .i64 (gi (c3 q (gi Ws k)) j)) := by
  rcases h.2 with ⟨_, h0⟩ | ⟨g, cap, cur, hv, _⟩
  · omega
  · simp only [Value.slice.injEq] at hv
    obtain ⟨rfl, rfl, rfl⟩ := hv
    exact ⟨g, rfl, (World.ownsRow.lt h g rfl).2, fun k j hk hj => by rw [World.ownsRow.cellAt h (k * 3 + j) (by omega)]; exact flat3_get q Ws k j hk hj⟩
theorem und3 : Try.prog.underlying 67 = some (.array (Try.prog.arrayLen 67) (Try.prog.elem 67)) := by kernel_rfl
theorem len3 : Try.prog.arrayLen 67 = 3 := by kernel_rfl
theorem size3 (w : World) : (sizeOf (Try.prog.elem 67)).run Try.prog w = .ok 1 w := by kernel_rfl
theorem slice3 (w : World) (B M : Nat) (h1 : 1 ≤ M) (h3 : M ≤ 3) :
    Sem.run Try.prog (Instr.sliceAt 67 (.pointer (some ⟨B, 0, none⟩)) (some (.int .i64 (3 - (M : Int)))) none none) w = .ok (.slice (some ⟨B, 3 - M, none⟩) M M) w := by
  rw [run_sliceAt_array_l w _ _ und3 .i64 (3 - (M : Int)) (by omega) (by rw [len3]; omega), size3]
  have e : (3 - (M : Int)).toNat = 3 - M := by omega
  simp only [Result.andThen, slicedAt, len3, e, Nat.mul_one]
  rw [if_neg (by omega), show 3 - (3 - M) = M by omega]
  have hadd : (⟨B, 0, none⟩ : Addr).add (3 - M) = ⟨B, 3 - M, none⟩ := by unfold Addr.add; split <;> simp_all
  rw [hadd]
theorem ints_drop3 {w : World} {B M : Nat} {q x : Int} (hB : B < w.heap.size) (h : ∀ j, j < 3 → w.cell? ⟨B, j, none⟩ = some (.int .i64 (gi (c3 q x) j))) : Ints w (some ⟨B, 3 - M, none⟩) ((c3 q x).drop (3 - M)) := by
  refine .inr ⟨B, 3 - M, rfl, hB, fun i hi => ?_⟩
  rw [List.length_drop, c3_len] at hi
  rw [h (3 - M + i) (by omega)]
  simp [gi, List.getD, List.getElem?_drop]
theorem clone_K (L : List Int) (K cap : Nat) (hK : K = L.length) (w : World) (hl : K ≤ 1048576) (a : Addr) (hL : Ints w (some a) L) :
    Calls Try.prog 47 #[.slice (some a) K cap] w fun e w' => ∃ g c, e = .returned (.slice (some ⟨g, 0, none⟩) K c) ∧ OwnInts w' w.heap.size (.slice (some ⟨g, 0, none⟩) K c) L ∧ Below w.heap.size w w' := by
  subst hK; exact clone_any 0 L cap w.heap.size w hl (Nat.le_refl _) a hL
theorem wcl_pos {q : Int} (hq : q = 2 ∨ q = 3) {m : Nat} (hm : m = 1 ∨ m = 2 ∨ m = 3) : 0 < (wcl q m).length := by
  rcases hq with rfl | rfl <;> rcases hm with rfl | rfl | rfl <;> decide

set_option maxHeartbeats 2000000 in
theorem impl_ColumnsFor (q : Int) (hq : -9223372036854775808 ≤ q ∧ q ≤ 9223372036854775807) (m : Int) (hm : -9223372036854775808 ≤ m ∧ m ≤ 9223372036854775807) (w : World) :
    Calls Try.prog 17 #[.int .i64 q, .int .i64 m] w fun e w' => ∃ v, e = .returned (.tuple #[v, .int .i64 (eCol 1 q m)]) ∧ OwnRws w' w.heap.size w'.heap.size v (vCol 1 q m) ∧ Below w.heap.size w w' := by
  by_cases h : (2 ≤ q ∧ q ≤ 3) ∧ 1 ≤ m ∧ m ≤ 3
  case neg =>
    obtain ⟨e1, e2⟩ := eCol_no h
    have E1 := Lib.hid e1
    have E2 := Lib.hid e2
    have HC := Lib.hid (columnsFor_out q m 1 h)
    clear e1 e2 h
    go_enter Try.func17, Try.ntmps17
    go_wp2_with fail
    refine (HC.out _).mono ?_
    rintro e w1 ⟨rfl, hb⟩
    go_wp2_with fail
    go_ret2
    exact ⟨_, by rw [E1.out]; rfl, by rw [E2.out]; exact OwnRws.nil _ _ _, hb⟩
  obtain ⟨M, rfl⟩ := Int.eq_ofNat_of_zero_le (show 0 ≤ m by omega)
  have hq' : q = 2 ∨ q = 3 := by omega
  have hM : M = 1 ∨ M = 2 ∨ M = 3 := by omega
  have hM1 : 1 ≤ M := by omega
  have hM3 : M ≤ 3 := by omega
  have HB := Lib.hid (eCol_big h)
  have HO := Lib.hid (eCol_ok h)
  rw [show ((M : Int)).toNat = M by simp] at HB HO
  have HPC := Lib.hid (pc_all hq' hM)
  have HC := Lib.hid (columnsFor_in q hq' M hM 1 ⟨by omega, by omega⟩)
  have HP := Lib.hid (wcl_pos hq' hM)
  have HL := Lib.hid (wcl_len hq' hM3)
  obtain ⟨i0, hi, hz0, hz1, hz2⟩ := info_parts infoSl
  clear h hq' hM hq hm
  go_enter Try.func17, Try.ntmps17
  go_wp2_with fail
  refine (HC.out _).mono ?_
  rintro e w1 ⟨hres, hb⟩
  rcases hres with ⟨h8, rfl⟩ | ⟨h8, v, rfl, o3⟩
  · have E := HB.out (by rw [← HPC.out.1]; exact h8)
    have E1 := Lib.hid E.1
    have E2 := Lib.hid E.2
    clear E h8 hi hz0 hz1 hz2
    go_wp2_with fail
    go_ret2
    exact ⟨_, by rw [E1.out]; rfl, by rw [E2.out]; exact OwnRws.nil _ _ _, hb⟩
  · have E := HO.out (by rw [← HPC.out.1]; exact h8)
    have E1 := Lib.hid E.1
    have E2 := Lib.hid E.2
    have hpos := HP.out
    have h13 := HL.out
    obtain ⟨W, hW⟩ : ∃ W, W = wcl q M := ⟨_, rfl⟩
    rw [← hW] at o3 hpos h13
    have HWl := Lib.hid hW
    obtain ⟨av, cv, hv⟩ := own3_shape o3
    subst hv
    obtain ⟨gc, hav, hgc, hcell⟩ := own3_cells o3 hpos
    subst hav
    have hcell1 := Lib.hid hcell
    clear E h8 hcell o3 hW
    go_wp2_with (at_make; refine wpList_make_full _ rfl _ _ 39 rfl w1.heap.size 24 i0 (.slice none 0 0) 1 Try.underlying39 hi hz0 hz1 .i64 .i64 _ _ W.length rfl rfl rfl rfl (by rw [hz2]; omega) (by unfold maxLen; omega) (Nat.le_refl _) ?_; intro w2 hown hgrow)
    have hR0 := OwnRws.made (hi := w2.heap.size) hown (fun k hk => (World.ownsRow.lt hown k hk).2)
    have B1 : Below w1.heap.size w1 w2 := below_grown0 hgrow
    obtain ⟨G, hG⟩ : ∃ G, G = w1.heap.size := ⟨_, rfl⟩
    have hGw : w.heap.size ≤ G := by rw [hG]; exact hb.size
    rw [← hG] at hR0 hgc ⊢
    have HG := Lib.hid hG
    clear hown hgrow hi hz0 hz1 hz2 hG
    go_loopw [25] (fun i wr => ∃ (k : Nat) (R : List (List Int)), k ≤ W.length ∧ i = .int .i64 k ∧ OwnRws wr G wr.heap.size (.slice (some ⟨G, 0, none⟩) W.length W.length) R ∧ Hid (R.length = W.length ∧ ∀ j, j < k → rr R j = (c3 q (gi W j)).drop (3 - M)) ∧ Below w1.heap.size w1 wr) (fun i _ => W.length - (intOf i).toNat)
    case atStart => exact ⟨0, _, Nat.zero_le _, rfl, hR0, Lib.hid ⟨by simp, fun j hj => by omega⟩, B1⟩
    case round =>
      clear hR0 B1
      obtain ⟨k, R, hk, rfl, hR, HR, B1⟩ := hrel
      by_cases hlt : k < W.length
      · have c0 := kept_cell B1 (hcell1.out k 0 hlt (by omega)) (by rw [← HG.out]; exact hgc)
        have c1 := kept_cell B1 (hcell1.out k 1 hlt (by omega)) (by rw [← HG.out]; exact hgc)
        have c2 := kept_cell B1 (hcell1.out k 2 hlt (by omega)) (by rw [← HG.out]; exact hgc)
        obtain ⟨y0, hy0⟩ : ∃ y, y = gi (c3 q (gi W k)) 0 := ⟨_, rfl⟩
        obtain ⟨y1, hy1⟩ : ∃ y, y = gi (c3 q (gi W k)) 1 := ⟨_, rfl⟩
        obtain ⟨y2, hy2⟩ : ∃ y, y = gi (c3 q (gi W k)) 2 := ⟨_, rfl⟩
        rw [Nat.add_zero, ← hy0] at c0
        rw [← hy1] at c1
        rw [← hy2] at c2
        have HY := Lib.hid (And.intro hy0 (And.intro hy1 hy2))
        have hsl := slice3 (wr.alloc (.cells #[.int .i64 y0, .int .i64 y1, .int .i64 y2] 67)) wr.heap.size M hM1 hM3
        have hIb : Ints (wr.alloc (.cells #[.int .i64 y0, .int .i64 y1, .int .i64 y2] 67)) (some ⟨wr.heap.size, 3 - M, none⟩) ((c3 q (gi W k)).drop (3 - M)) := ints_drop3 (lt_alloc _ _) (c3_cells HY.out)
        have hbx : Below wr.heap.size wr (wr.alloc (.cells #[.int .i64 y0, .int .i64 y1, .int .i64 y2] 67)) := (Below.refl _ wr).alloc (Nat.le_refl _) _
        have HIb := Lib.hid hIb
        clear hy0 hy1 hy2 hIb
        go_wp2_with fail
        refine (clone_K _ M M (by rw [List.length_drop, c3_len]; omega) _ (by omega) ⟨wr.heap.size, 3 - M, none⟩ HIb.out).mono ?_
        rintro e w5 ⟨g5, c5, rfl, own5, hb5'⟩
        have hb5 : Below wr.heap.size wr w5 := hbx.trans (hb5'.mono hbx.size)
        have hR5 := hR.below hb5
        obtain ⟨⟨z5, hz5⟩, hf5, _, _⟩ := hR5.slot (i := k) (by rw [HR.out.1]; exact hlt)
        have hwr1 : w1.heap.size ≤ wr.heap.size := B1.size
        have B5 := B1.trans (hb5.mono B1.size)
        have own6 : OwnInts w5 wr.heap.size (.slice (some ⟨g5, 0, none⟩) M c5) ((c3 q (gi W k)).drop (3 - M)) := own5.rebase (by simp)
        have hR6 := hR5.put (i := k) (by rw [HR.out.1]; exact hlt) (own6.rebase (base' := G) (by have := HG.out; omega)) (fun x hx => (World.ownsRow.lt own6 x hx).1)
        clear hb5 hb5' own5 own6 hR5 hR hsl hbx HIb c0 c1 c2
        go_wp2_with fail
        go_roundw
        case rel =>
          refine ⟨k + 1, _, by omega, by go_num, hR6.rebase (Nat.le_refl _) (by simp), Lib.hid ⟨by rw [List.length_set]; exact HR.out.1, fun j hj => ?_⟩, B5.setCell (by have := HG.out; simp; omega) _⟩
          rw [rr_set _ _ _ _ (by rw [HR.out.1]; exact hlt)]
          by_cases e : j = k
          · rw [if_pos e, e]
          · rw [if_neg e]; exact HR.out.2 j (by omega)
        case measure => simp [intOf]; omega
      · have HK := Lib.hid (show k = W.length by omega)
        have HF : Hid (R = colL q M) := Lib.hid (rr_ext (by rw [HR.out.1, HWl.out, HPC.out.1]) fun j hj => by
          rw [HR.out.1] at hj
          rw [HR.out.2 j (by rw [HK.out]; exact hj)]
          have h2 := HPC.out.2 j (by rw [← HWl.out]; exact hj)
          rw [HWl.out, h2]; rfl)
        have B9 := hb.trans (B1.mono hb.size)
        go_wp2_with fail
        go_ret2
        exact ⟨_, by rw [E1.out]; rfl, by rw [E2.out, ← HF.out]; exact hR.rebase hGw (Nat.le_refl _), B9⟩

end Go.Proofs.Ytcnnijeokefboab

namespace Go.Proofs.Ytcnnijeokefboab
open Go.RowKit Cv
set_option linter.unusedVariables false
set_option linter.unusedSimpArgs false
set_option maxRecDepth 100000

theorem wordCount_nat (ao : Option Addr) (S : List Int) (cap : Nat) (N : Nat) (hN : Hid (nW S = (N : Int))) (w : World) (h : Sp S) (hS : Ints w ao S) :
    Calls Try.prog 63 #[.agg #[.slice ao S.length cap]] w fun e w' => e = .returned (.int .i64 (N : Int)) ∧ Below w.heap.size w w' := by
  rw [← hN.out]; exact wordCount_sp ao S cap w h hS

set_option maxHeartbeats 1000000 in
theorem allWords_any (ao : Option Addr) (S : List Int) (cap : Nat) (hSp : Sp S) (N : Nat) (hN : Hid (nW S = (N : Int))) (w : World) (hS : Ints w ao S) :
    Calls Try.prog 43 #[.agg #[.slice ao S.length cap]] w fun e w' =>
      ∃ q, e = .returned (.slice (some ⟨q, 0, none⟩) N N) ∧ OwnInts w' w.heap.size (.slice (some ⟨q, 0, none⟩) N N) (upto N) ∧ Below w.heap.size w w' := by
  obtain ⟨i0, hi, hz0, hz1, hz2⟩ := info_parts infoI64
  have N2 : N ≤ 1024 := by have := (nW_bd hSp).2; have := hN.out; omega
  have HSp := Lib.hid hSp
  clear hSp
  go_enter Try.func43, Try.ntmps43
  go_wp2_with fail
  have B0 : Below w.heap.size w (w.alloc (.cells #[.slice ao S.length cap] 26)) := by go_grown
  refine (wordCount_nat ao S cap N hN _ HSp.out (hS.below B0)).mono ?_
  rintro e w1 ⟨rfl, hb1⟩
  have B1 := B0.trans (hb1.mono B0.size)
  have hs1 : w.heap.size < w1.heap.size := lt_of_below hb1 (lt_alloc _ _)
  clear hb1 B0
  go_wp2_with (at_make; refine wpList_make_full _ rfl _ _ 24 rfl w.heap.size 2 i0 (.int .i64 0) 1 Try.underlying24 hi hz0 hz1 .i64 .i64 _ _ N rfl rfl rfl rfl (by rw [hz2]; omega) (by unfold maxLen; omega) (by omega) ?_; intro w2 hown hgrow)
  have B2 : Below w.heap.size w w2 := B1.grown hgrow B1.size (by intro k h; cases h)
  replace hown := own_made hown
  have g1 : w1.heap.size ≠ w.heap.size := by omega
  clear hgrow
  go_loopw [10] (fun i wr => ∃ (k : Nat) (D : List Int), k ≤ N ∧ i = .int .i64 k ∧ OwnInts wr w.heap.size (.slice (some ⟨w1.heap.size, 0, none⟩) N N) D ∧ Hid (D.length = N ∧ ∀ j, j < k → gi D j = j) ∧ Below w.heap.size w wr)
    (fun i _ => N - (intOf i).toNat)
  case atStart => exact ⟨0, _, Nat.zero_le _, rfl, hown, Lib.hid ⟨by simp, fun j h => by omega⟩, B2⟩
  case round =>
    clear hown B2
    obtain ⟨k, D, hk, rfl, hown, HD, B⟩ := hrel
    by_cases hlt : k < N
    · have hcell := hown.cell (k := k) (by rw [HD.out.1]; exact hlt)
      have hfree := hown.free k
      go_wp2
      go_roundw
      case rel =>
        refine ⟨k + 1, _, by omega, by go_num, hown.stored k (k : Int), Lib.hid ⟨by rw [List.length_set]; exact HD.out.1, ?_⟩, B.setCell (by simp; omega) _⟩
        intro j hj
        rw [gi_set _ _ _ _ (by rw [HD.out.1]; exact hlt)]
        by_cases e : j = k
        · rw [if_pos e, e]
        · rw [if_neg e]; exact HD.out.2 j (by omega)
      case measure => simp [intOf]; omega
    · go_wp2
      go_ret
      have e : D = upto N := ext_gi (by rw [HD.out.1, upto_len]) fun i hi => by rw [HD.out.1] at hi; rw [HD.out.2 i (by omega), gi_upto _ _ hi]
      rw [e] at hown
      exact ⟨_, rfl, hown, B⟩

end Go.Proofs.Ytcnnijeokefboab
