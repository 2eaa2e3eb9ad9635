/-
  The contract of the model's GreedyCode. By an AI agent.
-/
import Derived.Test.YtgaelpcghljihaaGrT
import Derived.Test.YtgaelpcghljihaaPutN
import Derived.Test.YtgaelpcghljihaaMake
import Derived.Test.YtgaelpcghljihaaBool
import Derived.Test.YtgaelpcghljihaaBall2
import Derived.Test.YtgaelpcghljihaaSize
import Derived.Test.YtgaelpcghljihaaSpace
import Derived.Test.YtgaelpcghljihaaAppendAt
import Derived.Deep.RegionHeld3
import Derived.BigQuiet
import Derived.Deep.CutRange
namespace Go.Proofs.Ytgaelpcghljihaa
open Go.RowKit Cv
set_option linter.unusedVariables false
set_option linter.unusedSimpArgs false
set_option maxRecDepth 100000

theorem gb_tbB (f : Nat → Bool) {N k : Nat} (h : k < N) : gb (tbB f N) k = f k := by simp [gb, tbB, h]
theorem owni_other {w : World} {base g n cap p : Nat} {T : List Int} (h : OwnInts w base (.slice (some ⟨g, 0, none⟩) n cap) T) (hne : g ≠ p) (u : Nat) (v : Value) : OwnInts (w.setCell ⟨p, u, none⟩ v) base (.slice (some ⟨g, 0, none⟩) n cap) T :=
  World.ownsRow.kept h (grown_setCell (World.grownBy.refl _ _) u _) (.inr (show some g ≠ some p from fun e => hne (Option.some.inj e)))
theorem ownb_other {w : World} {base g n cap p : Nat} {T : List Bool} (h : OwnBools w base (.slice (some ⟨g, 0, none⟩) n cap) T) (hne : g ≠ p) (u : Nat) (v : Value) : OwnBools (w.setCell ⟨p, u, none⟩ v) base (.slice (some ⟨g, 0, none⟩) n cap) T :=
  World.ownsRow.kept h (grown_setCell (World.grownBy.refl _ _) u _) (.inr (show some g ≠ some p from fun e => hne (Option.some.inj e)))
theorem below_dn {B : Nat} {a w : World} (h : Below B a w) (n : Nat) : Below B a (w.drewN n) := ⟨h.os, h.tape, h.output, h.size, h.block⟩
theorem l01Ball_some (ao : Option Addr) (S : List Int) (cap : Nat) (hSp : Sp S) {N x : Nat} (hN : (nW S).toNat = N) (hx : x < N) (r : Int) (hr : 0 ≤ r) (w : World) (hS : Ints w ao S) :
    Calls Try.prog 99 #[.agg #[.slice ao S.length cap], .int .i64 (x : Int), .int .i64 r] w fun e w' => ∃ g cc : Nat, e = .returned (.slice (some ⟨g, 0, none⟩) (ballW S (x : Int) r).length cc) ∧ OwnInts w' w.heap.size (.slice (some ⟨g, 0, none⟩) (ballW S (x : Int) r).length cc) (ballW S (x : Int) r) ∧ Below w.heap.size w w' := by
  have hb := nW_bd hSp
  refine (l01Ball_any ao S cap hSp (x : Int) (by omega) (by omega) r w hS).mono ?_
  rintro e w1 ⟨v, rfl, ob, hb1⟩
  obtain ⟨g, cc, rfl, _⟩ := own_some ob (fun h => by
    have := (bF_arnd hSp hr).own x (by omega)
    unfold bF ballN inL at this
    rw [h] at this
    simp at this)
  exact ⟨g, cc, rfl, ob, hb1⟩
theorem step_make_freeB {w : World} {o : Oper} {a : Act} {K : Act → World → Prop} {Q : Exit → Act → World → Prop} (l : Operand) (ho : o.op = Op.makeSlice 108 l l)
    (base m : Nat) (L : Int) (hl : a.eval l = .int .i64 L) (hL : L = (m : Int)) (hm : m ≤ 16777216) (hb : base ≤ w.heap.size)
    (hK : ∀ w' (p : Nat), w.heap.size ≤ p → OwnBools w' base (.slice (some ⟨p, 0, none⟩) m m) (List.replicate m false) → Below w.heap.size w w' → K (a.put o.dst (.slice (some ⟨p, 0, none⟩) m m)) w') : Oper.wp Try.prog o a w K Q := by
  obtain ⟨i0, hi, hz0, hz1, hz2⟩ := info_parts infoBool
  subst hL
  obtain ⟨w', hrun, r1, r2⟩ := run_make_full (P := Try.prog) w base 108 4 i0 (.bool false) 1 Try.underlying108 hi hz0 hz1 .i64 .i64 m (by rw [hz2]; omega) (by unfold maxLen; omega) hb
  unfold Oper.wp
  simp only [execOp, ho, hl]
  simp [hrun, Result.andThen]
  exact hK w' _ (Nat.le_refl _) (ownb_made r1) (below_grown0 r2)

set_option maxHeartbeats 8000000 in
theorem spec_GreedyCode (ao : Option Addr) (S : List Int) (cap : Nat) (hn : S.length ≤ 4294967296) (r : Int) (hrb : -9223372036854775808 ≤ r ∧ r ≤ 9223372036854775807) (w : World) (hS : Ints w ao S) :
    Calls Try.prog 47 #[.agg #[.slice ao S.length cap], .int .i64 r] w fun e w' => ∃ v, e = .returned (.tuple #[v, .int .i64 (eGr S r)]) ∧ OwnInts w' w.heap.size v (vGr S r) ∧ Below w.heap.size w w' := by
  have B0 : Below w.heap.size w (w.alloc (.cells #[.slice ao S.length cap] 24)) := by go_grown
  have c0 := cell_new w (.slice ao S.length cap) 24
  have l0 := lt_alloc w (.cells #[.slice ao S.length cap] 24)
  have hI := l01Is_any ao S cap _ hn (hS.below B0)
  by_cases hs : isSp S = true
  · rw [hs] at hI
    by_cases hr : 0 ≤ r ∧ r ≤ 8
    · have hz : eGr S r = 0 := by unfold eGr; rw [if_pos hs, if_pos hr]
      obtain ⟨hSp, hr0, hr8⟩ := eGr_zero hz
      have HSp := Lib.hid hSp
      obtain ⟨N1, N2⟩ := nW_bd hSp
      obtain ⟨N, hN⟩ : ∃ N : Nat, nW S = (N : Int) := ⟨(nW S).toNat, by omega⟩
      have hNt : (nW S).toNat = N := by omega
      have hA := bF_arnd hSp hr0
      rw [hNt] at hA
      have HA := Lib.hid hA
      have HV : Hid (vGr S r = sorted (grL (bF S r) N)) := Lib.hid (by unfold vGr; rw [if_pos hz, hNt])
      have HIn : Hid (∀ W, Calls Try.prog 62 #[.int .i64 r, .int .i64 0, .int .i64 8] W fun e w' => e = .returned (.bool true) ∧ W = w') := Lib.hid fun W => by
        have h := l01In_any r 0 8 W
        rw [inB_true hr0 hr8] at h
        exact h
      have HN1 : Hid (∀ W, Ints W ao S → Calls Try.prog 72 #[.agg #[.slice ao S.length cap]] W fun e w' => e = .returned (.int .i64 (N : Int)) ∧ Below W.heap.size W w') := Lib.hid fun W hW => by
        have h := l01N_any ao S cap W hSp.hi hSp.bd hW
        rw [show prodTo S S.length = (N : Int) from hN] at h
        exact h
      have HZ := Lib.hid hz
      have HNt := Lib.hid hNt
      have HI := Lib.hid hI
      rw [hN] at N1 N2
      have N1n : 1 ≤ N := by omega
      have N2n : N ≤ 1024 := by omega
      clear hz hI hSp hN hNt hA hs hr
      go_enter Try.func47, Try.ntmps47
      go_wp2_with fail
      refine HI.out.mono ?_
      rintro e w1 ⟨rfl, hb1⟩
      have c1 := kept_cell hb1 c0 l0
      have B1 := B0.trans (hb1.mono B0.size)
      have s1 : w.heap.size < w1.heap.size := lt_of_below hb1 l0
      clear hb1 c0 l0 B0 HI
      go_wp2_with fail
      refine (HIn.out _).mono ?_
      rintro e w1' ⟨rfl, rfl⟩
      go_wp2_with fail
      refine (HN1.out _ (hS.below B1)).mono ?_
      rintro e w2 ⟨rfl, hb2⟩
      have c2 := kept_cell hb2 c1 s1
      have B2 := B1.trans (hb2.mono B1.size)
      have s2 := hb2.size
      have oo := own_empty w2 w.heap.size (by omega) rfl
      obtain ⟨w3, hw3⟩ : ∃ w3, w3 = w2.alloc (.cells #[] 2) := ⟨_, rfl⟩
      rw [← hw3] at oo
      have hb3 : Below w2.heap.size w2 w3 := by rw [hw3]; exact (Below.refl _ _).alloc (Nat.le_refl _) _
      have s3 : w2.heap.size < w3.heap.size := by rw [hw3]; exact lt_alloc _ _
      have c3 := kept_cell hb3 c2 (by omega)
      have B3 := B2.trans (hb3.mono B2.size)
      have HW3 := Lib.hid hw3
      clear hb2 c1 B1 c2 B2 hb3 hw3
      go_wp2_with fail
      rw [← HW3.out]
      go_cut [8, 9] from 28 to 31 (fun sx sy wx => ∃ pl pg : Nat, sx = .slice (some ⟨pl, 0, none⟩) N N ∧ sy = .slice (some ⟨pg, 0, none⟩) N N ∧ w3.heap.size ≤ pl ∧ w3.heap.size ≤ pg ∧ pl ≠ pg ∧ OwnBools wx w.heap.size (.slice (some ⟨pl, 0, none⟩) N N) (List.replicate N false) ∧ OwnInts wx w.heap.size (.slice (some ⟨pg, 0, none⟩) N N) (List.replicate N 0) ∧ Below w3.heap.size w3 wx)
      case first =>
        refine wp_region_held_drew (S := fun w' => w'.cell? ⟨w.heap.size, 0, none⟩ = some (.slice ao S.length cap)) (by kernel_rfl) c3 (fun hHeld => ?_)
        refine wpAnyH_take (i := 0) (v := ?_) rfl (by kernel_rfl) (by kernel_rfl) (by kernel_rfl) (fun _ _ _ h => h) (Or.inl ⟨by rfl, ?_⟩) (by assumption) ?_
        rotate_left
        · (intro w hSw; (try dsimp only at hSw); go_simp; try (with_reducible rfl))
        (try simp only [Act.put, List.setIfInBounds_toArray, List.set_cons_zero, List.set_cons_succ])
        refine wpAnyH_take (i := 2) (v := ?_) rfl (by kernel_rfl) (by kernel_rfl) (by kernel_rfl) (fun _ _ _ h => h) (Or.inl ⟨by rfl, ?_⟩) (by assumption) ?_
        rotate_left
        · (intro w hSw; (try dsimp only at hSw); go_simp; try (with_reducible rfl))
        (try simp only [Act.put, List.setIfInBounds_toArray, List.set_cons_zero, List.set_cons_succ])
        refine wpAnyH_ready (rs := [1, 3]) (by kernel_rfl) (by simp) ?_
        refine AllReadyH.cons rfl (fun K hK => ?_) ?_
        · skip
          rw [if_pos (by kernel_rfl)]
          refine step_make_freeB _ rfl w.heap.size N (N : Int) rfl rfl (by omega) B3.drew.size ?_
          intro w4 pl hpl oB hb4'
          have hb4 : Below w3.heap.size w3 w4 := (Below.refl _ w3).drew.trans hb4'
          have c4 := kept_cell hb4 c3 (by omega)
          have B4 := B3.trans (hb4.mono B3.size)
          have s4 := hb4.size
          have ql := oB.base_le
          have hpl' : w3.heap.size ≤ pl := hpl
          refine hK.out _ _ (c4) (fun hHeld => ?_)
          clear hK K
          (try simp only [Act.put, List.setIfInBounds_toArray, List.set_cons_zero, List.set_cons_succ])
          refine wpAnyH_take (i := 4) (v := ?_) rfl (by kernel_rfl) (by kernel_rfl) (by kernel_rfl) (fun _ _ _ h => h) (Or.inl ⟨by rfl, ?_⟩) (by assumption) ?_
          rotate_left
          · (intro w hSw; (try dsimp only at hSw); go_simp; try (with_reducible rfl))
          (try simp only [Act.put, List.setIfInBounds_toArray, List.set_cons_zero, List.set_cons_succ])
          refine wpAnyH_ready (rs := [3]) (by kernel_rfl) (by simp) ?_
          refine AllReadyH.cons rfl (fun K hK => ?_) AllReadyH.nil
          rw [if_pos (by kernel_rfl)]
          refine step_make_free _ rfl w.heap.size N (N : Int) rfl rfl (by omega) B4.size ?_
          intro w5 pg hpg oI hb5
          have c5 := kept_cell hb5 c4 (by omega)
          refine hK.out _ _ (c5) (fun hHeld => ?_)
          clear hK K
          (try simp only [Act.put, List.setIfInBounds_toArray, List.set_cons_zero, List.set_cons_succ])
          refine wpAnyH_take (i := 5) (v := ?_) rfl (by kernel_rfl) (by kernel_rfl) (by kernel_rfl) (fun _ _ _ h => h) (Or.inl ⟨by rfl, ?_⟩) (by assumption) ?_
          rotate_left
          · (intro w hSw; (try dsimp only at hSw); go_simp; try (with_reducible rfl))
          (try simp only [Act.put, List.setIfInBounds_toArray, List.set_cons_zero, List.set_cons_succ])
          refine wpAnyH_done (by kernel_rfl) ?_ _
          simp only [List.getElem_toArray, List.getElem_cons_succ, List.getElem_cons_zero, Act.put, List.setIfInBounds_toArray, List.set_cons_zero, List.set_cons_succ]
          go_wp2_with fail
          go_meet
          exact ⟨pl, pg, rfl, rfl, hpl', by omega, by omega, oB.below hb5, oI, hb4.trans (hb5.mono s4)⟩
        refine AllReadyH.cons rfl (fun K hK => ?_) AllReadyH.nil
        skip
        rw [if_pos (by kernel_rfl)]
        refine step_make_free _ rfl w.heap.size N (N : Int) rfl rfl (by omega) B3.drew.size ?_
        intro w4 pg hpg oI hb4'
        have hb4 : Below w3.heap.size w3 w4 := (Below.refl _ w3).drew.trans hb4'
        have c4 := kept_cell hb4 c3 (by omega)
        have B4 := B3.trans (hb4.mono B3.size)
        have s4 := hb4.size
        have ql := oI.base_le
        have hpg' : w3.heap.size ≤ pg := hpg
        refine hK.out _ _ (c4) (fun hHeld => ?_)
        clear hK K
        (try simp only [Act.put, List.setIfInBounds_toArray, List.set_cons_zero, List.set_cons_succ])
        refine wpAnyH_ready (rs := [1]) (by kernel_rfl) (by simp) ?_
        refine AllReadyH.cons rfl (fun K hK => ?_) AllReadyH.nil
        rw [if_pos (by kernel_rfl)]
        refine step_make_freeB _ rfl w.heap.size N (N : Int) rfl rfl (by omega) B4.size ?_
        intro w5 pl hpl oB hb5
        have c5 := kept_cell hb5 c4 (by omega)
        refine hK.out _ _ (c5) (fun hHeld => ?_)
        clear hK K
        (try simp only [Act.put, List.setIfInBounds_toArray, List.set_cons_zero, List.set_cons_succ])
        refine wpAnyH_take (i := 4) (v := ?_) rfl (by kernel_rfl) (by kernel_rfl) (by kernel_rfl) (fun _ _ _ h => h) (Or.inl ⟨by rfl, ?_⟩) (by assumption) ?_
        rotate_left
        · (intro w hSw; (try dsimp only at hSw); go_simp; try (with_reducible rfl))
        (try simp only [Act.put, List.setIfInBounds_toArray, List.set_cons_zero, List.set_cons_succ])
        refine wpAnyH_take (i := 5) (v := ?_) rfl (by kernel_rfl) (by kernel_rfl) (by kernel_rfl) (fun _ _ _ h => h) (Or.inl ⟨by rfl, ?_⟩) (by assumption) ?_
        rotate_left
        · (intro w hSw; (try dsimp only at hSw); go_simp; try (with_reducible rfl))
        (try simp only [Act.put, List.setIfInBounds_toArray, List.set_cons_zero, List.set_cons_succ])
        refine wpAnyH_done (by kernel_rfl) ?_ _
        simp only [List.getElem_toArray, List.getElem_cons_succ, List.getElem_cons_zero, Act.put, List.setIfInBounds_toArray, List.set_cons_zero, List.set_cons_succ]
        go_wp2_with fail
        go_meet
        exact ⟨pl, pg, rfl, rfl, by omega, hpg', by omega, oB, oI.below hb5, hb4.trans (hb5.mono s4)⟩
      case rest =>
        obtain ⟨pl, pg, rfl, rfl, hpl, hpg, hne, oB, oI, hbx⟩ := hcut
        obtain ⟨w4, hw4⟩ : ∃ w4, w4 = wc := ⟨_, rfl⟩
        subst hw4
        replace hbx : Below w3.heap.size w3 w4 := hbx
        have c4 := kept_cell hbx c3 (by omega)
        have B4 := B3.trans (hbx.mono B3.size)
        have s4 := hbx.size
        replace oo := oo.below hbx
        rw [tbB_0] at oB
        rw [tbI_0] at oI
        have hlt3 : w2.heap.size < w3.heap.size := s3
        obtain ⟨g0, hg0⟩ : ∃ g0, g0 = w2.heap.size := ⟨_, rfl⟩
        rw [← hg0] at oo s3 ⊢
        have gl : g0 ≠ pl := by omega
        have gg : g0 ≠ pg := by omega
        have HG0 := Lib.hid hg0
        clear hbx c3 B3 hg0
        have CELL : w.heap.size < w3.heap.size := by omega
        have lw : w.heap.size ≠ pl := by omega
        have lg : w.heap.size ≠ pg := by omega
        have HL0 : Hid (tbB (fun _ => false) N = tbB (fun u => decide (u < 0)) N) := Lib.hid (tbB_congr fun u hu => by simp)
        have HL1 : Hid (tbI (fun _ => 0) N = tbI (fun u => if u < 0 then sizeN S r else 0) N) := Lib.hid (tbI_congr fun u hu => by simp)
        rw [HL0.out] at oB
        rw [HL1.out] at oI
        clear HL0 HL1
        go_wp2_with fail
        go_loopw [10] (fun t wr => ∃ k : Nat, k ≤ N ∧ t = .int .i64 k ∧ OwnInts wr w.heap.size (.slice (some ⟨g0, 0, none⟩) 0 0) [] ∧ OwnBools wr w.heap.size (.slice (some ⟨pl, 0, none⟩) N N) (tbB (fun u => decide (u < k)) N) ∧ OwnInts wr w.heap.size (.slice (some ⟨pg, 0, none⟩) N N) (tbI (fun u => if u < k then sizeN S r else 0) N) ∧ wr.cell? ⟨w.heap.size, 0, none⟩ = some (.slice ao S.length cap) ∧ Below w.heap.size w wr) (fun t _ => N - (intOf t).toNat)
        case atStart => exact ⟨0, Nat.zero_le _, rfl, oo, oB, oI, c4, B4⟩
        case round =>
          clear oo oB oI c4 B4
          obtain ⟨k, hk, rfl, oo, oB, oI, c, B⟩ := hrel
          have qB := oB.base_le
          have qI := oI.base_le
          by_cases hlt : k < N
          · have kI : (k : Int) < (N : Int) := by omega
            have k0 : (0 : Int) ≤ (k : Int) := by omega
            have hcB := oB.cell (k := k) (by rw [tbB_len]; exact hlt)
            have hfB := oB.free k
            have oB' := oB.stored k true
            rw [tbB_set] at oB'
            have HB : Hid (tbB (fun u => if u = k then true else decide (u < k)) N = tbB (fun u => decide (u < k + 1)) N) := Lib.hid (tbB_congr fun u hu => by
              by_cases e : u = k
              · subst e; simp
              · simp only [e, if_false]; rw [decide_eq_decide]; omega)
            rw [HB.out] at oB'
            have oI' := owni_other oI (fun e => hne e.symm) k (.bool true)
            have oo' := owni_other oo gl k (.bool true)
            have c' := cell_set_other (a := ⟨pl, k, none⟩) (u := .bool true) c lw
            have B' : Below w.heap.size w (wr.setCell ⟨pl, k, none⟩ (.bool true)) := B.setCell (by simp; omega) _
            go_wp2_with fail
            refine (l01Size_any ao S cap HSp.out r hr0 hr8 _ (hS.below B')).mono ?_
            rintro e w5 ⟨rfl, hb5⟩
            have oB5 := oB'.below hb5
            have oI5 := oI'.below hb5
            have oo5 := oo'.below hb5
            have s5 := B'.size
            have c5 := kept_cell hb5 c' (by simp; omega)
            have B5 := B'.trans (hb5.mono B'.size)
            have q5 := oI5.base_le
            have hcI := oI5.cell (k := k) (by rw [tbI_len]; exact hlt)
            have hfI := oI5.free k
            have oI6 := oI5.stored k (sizeN S r)
            rw [tbI_set] at oI6
            have HI6 : Hid (tbI (fun u => if u = k then sizeN S r else if u < k then sizeN S r else 0) N = tbI (fun u => if u < k + 1 then sizeN S r else 0) N) := Lib.hid (tbI_congr fun u hu => by
              by_cases e : u = k
              · subst e; simp
              · simp only [e, if_false]
                by_cases e2 : u < k
                · rw [if_pos e2, if_pos (by omega)]
                · rw [if_neg e2, if_neg (by omega)])
            rw [HI6.out] at oI6
            have oB6 := ownb_other oB5 hne k (.int .i64 (sizeN S r))
            have oo6 := owni_other oo5 gg k (.int .i64 (sizeN S r))
            have c6 := cell_set_other (a := ⟨pg, k, none⟩) (u := .int .i64 (sizeN S r)) c5 lg
            have B6 : Below w.heap.size w (w5.setCell ⟨pg, k, none⟩ (.int .i64 (sizeN S r))) := B5.setCell (by simp; omega) _
            clear oB oI oo c B oB' oI' oo' c' B' hb5 oB5 oI5 oo5
            go_wp2_with fail
            go_roundw
            case rel => exact ⟨k + 1, by omega, by go_num, oo6, oB6, oI6, c6, B6⟩
            case measure => simp [intOf]; omega
          · obtain rfl : k = N := by omega
            have HB : Hid (tbB (fun u => decide (u < k)) k = tbB (fun u => !(fun _ => false : Nat → Bool) u) k) := Lib.hid (tbB_congr fun u hu => by simp [hu])
            have HJ : Hid (tbI (fun u => if u < k then sizeN S r else 0) k = tbI (fun u => (gF (bF S r) (fun _ => false) u : Int)) k) := Lib.hid (tbI_congr fun u hu => by rw [if_pos hu, gF_0, bF_size HSp.out hr0])
            rw [HB.out] at oB
            rw [HJ.out] at oI
            have HR : Hid (GrI (bF S r) k (fun _ => false) [] ∧ uc (fun _ => false) k < k + 1 ∧ grRun (bF S r) k (k + 1) (fun _ => false) [] = grL (bF S r) k) := Lib.hid ⟨gri_0 _ _ _, by have := uc_le (fun _ => false) k; omega, rfl⟩
            clear HB HJ
            have oo0 := oo
            clear oo
            go_wp2_with fail
            go_loopw [7] (fun v wr => ∃ (fu : Nat) (c : Nat → Bool) (L : List Int) (g cp : Nat), v = .slice (some ⟨g, 0, none⟩) (sorted L).length cp ∧ OwnInts wr w.heap.size (.slice (some ⟨g, 0, none⟩) (sorted L).length cp) (sorted L) ∧ Hid (GrI (bF S r) k c L ∧ uc c k < fu ∧ grRun (bF S r) k fu c L = grL (bF S r) k) ∧ g ≠ pl ∧ g ≠ pg ∧ OwnBools wr w.heap.size (.slice (some ⟨pl, 0, none⟩) k k) (tbB (fun u => !c u) k) ∧ OwnInts wr w.heap.size (.slice (some ⟨pg, 0, none⟩) k k) (tbI (fun u => (gF (bF S r) c u : Int)) k) ∧ wr.cell? ⟨w.heap.size, 0, none⟩ = some (.slice ao S.length cap) ∧ Below w.heap.size w wr) (fun v _ => k - slen v)
            case atStart => exact ⟨k + 1, fun _ => false, [], g0, 0, by rw [sorted_0]; rfl, by rw [sorted_0]; exact oo0, HR, gl, gg, oB, oI, c, B⟩
            case round =>
              clear oo0 oB oI c B HR qB qI hlt
              obtain ⟨fu, c, L, g, cp, rfl, oo, HU, gl, gg, oB, oI, cs, B⟩ := hrel
              have qB := oB.base_le
              have qI := oI.base_le
              have qo := oo.base_le
              obtain ⟨f, hf⟩ : ∃ f, f = gF (bF S r) c := ⟨_, rfl⟩
              have HFf := Lib.hid hf
              clear hf
              go_wp2_with fail
              go_loopw [11, 12] (fun b t wo => ∃ j : Nat, 1 ≤ j ∧ j ≤ k ∧ t = .int .i64 j ∧ b = .int .i64 (mbI f j : Nat) ∧ Below wr.heap.size wr wo) (fun _ t _ => k - (intOf t).toNat)
              case atStart => exact ⟨1, Nat.le_refl _, N1n, rfl, by rw [mbI_1]; rfl, Below.refl _ _⟩
              case round =>
                obtain ⟨j, hj1, hj, rfl, rfl, hbo⟩ := hrel
                have oI0 := oI
                have BB := B
                replace oo := oo.below hbo
                replace oB := oB.below hbo
                replace oI := oI.below hbo
                replace cs := kept_cell hbo cs (by omega)
                replace B := BB.trans (hbo.mono BB.size)
                have hso := hbo.size
                clear oI0 BB
                have hml := mbI_lt f j hj1
                have HM := Lib.hid (mbI_more f j hj1)
                obtain ⟨m, hm⟩ : ∃ m, m = mbI f j := ⟨_, rfl⟩
                rw [← hm] at hml HM ⊢
                have hmk : m < k := by omega
                have hcm := oI.cell (k := m) (by rw [tbI_len]; exact hmk)
                rw [gi_tbI _ hmk] at hcm
                rw [show gF (bF S r) c m = f m by rw [HFf.out]] at hcm
                obtain ⟨zm, hzm⟩ : ∃ zm : Int, zm = (f m : Int) := ⟨_, rfl⟩
                rw [← hzm] at hcm
                have HZM := Lib.hid hzm
                clear hzm
                have HMM := Lib.hid hm
                clear hm
                have jI0 : (0 : Int) ≤ (j : Int) := by omega
                have mI0 : (0 : Int) ≤ (m : Int) := by omega
                have mIk : (m : Int) < (k : Int) := by omega
                by_cases hlt : j < k
                · have jI : (j : Int) < (k : Int) := by omega
                  have hcj := oI.cell (k := j) (by rw [tbI_len]; exact hlt)
                  rw [gi_tbI _ hlt] at hcj
                  rw [show gF (bF S r) c j = f j by rw [HFf.out]] at hcj
                  obtain ⟨zj, hzj⟩ : ∃ zj : Int, zj = (f j : Int) := ⟨_, rfl⟩
                  rw [← hzj] at hcj
                  have HZJ := Lib.hid hzj
                  clear hzj
                  by_cases hg : f m < f j
                  · have hd : decide (zm < zj) = true := by rw [HZM.out, HZJ.out]; simpa using hg
                    have HN' : Hid (mbI f (j + 1) = j) := Lib.hid (by rw [HM.out, if_pos hg])
                    clear hg
                    go_wp2_with fail
                    go_quiet (fail)
                    go_wp2_with fail
                    go_roundw
                    case rel => exact ⟨j + 1, by omega, by omega, by go_num, by rw [HN'.out], below_dn hbo _⟩
                    case measure => simp [intOf]; omega
                  · have hd : decide (zm < zj) = false := by rw [HZM.out, HZJ.out]; simpa using hg
                    have HN' : Hid (mbI f (j + 1) = m) := Lib.hid (by rw [HM.out, if_neg hg])
                    clear hg
                    go_wp2_with fail
                    go_quiet (fail)
                    go_wp2_with fail
                    go_roundw
                    case rel => exact ⟨j + 1, by omega, by omega, by go_num, by rw [HN'.out], below_dn hbo _⟩
                    case measure => simp [intOf]; omega
                · have HM2 : Hid (m = grW (bF S r) k c) := Lib.hid (by rw [HMM.out, HFf.out, show j = k by omega]; rfl)
                  have jI : ¬ ((j : Int) < (k : Int)) := by omega
                  by_cases hd : grDone c k = true
                  · have h0 : f m = 0 := by rw [HFf.out, HM2.out]; exact (gr_zero HA.out (by omega)).2 hd
                    have HL : Hid (sorted L = vGr S r) := Lib.hid (by rw [HV.out, ← HU.out.2.2, grRun_done hd])
                    have hz0 : zm = 0 := by rw [HZM.out, h0]; rfl
                    rw [hz0] at hcm
                    clear h0 hd hz0
                    go_wp2_with fail
                    go_ret2
                    exact ⟨_, by rw [HZ.out]; rfl, by rw [← HL.out]; exact oo, B⟩
                  · have hdf : grDone c k = false := by simpa using hd
                    have h0 : (zm == 0) = false := by
                      have : f m ≠ 0 := by rw [HFf.out, HM2.out]; exact fun h => hd ((gr_zero HA.out (by omega)).1 h)
                      rw [HZM.out]
                      simpa using this
                    have HD := Lib.hid hdf
                    clear hd hdf
                    go_wp2_with fail
                    have hst := gri_step HA.out HU.out.1 HD.out
                    rw [← HM2.out] at hst
                    have hle := gr_less HA.out HD.out
                    have HX : Hid ((m : Int) ∉ sorted L) := Lib.hid (by rw [Cv.mem_sorted]; exact hst.1)
                    have HPU : Hid (putL (sorted L) (m : Int) = sorted (L ++ [(m : Int)])) := Lib.hid (put_sorted HU.out.1.nd hst.1)
                    have hLN := gri_len hst.2
                    rw [List.length_append, List.length_singleton] at hLN
                    have HU2 : Hid (GrI (bF S r) k (grC (bF S r) k c) (L ++ [(m : Int)]) ∧ ∃ fu', uc (grC (bF S r) k c) k < fu' ∧ grRun (bF S r) k fu' (grC (bF S r) k c) (L ++ [(m : Int)]) = grL (bF S r) k) := Lib.hid (by
                      obtain ⟨_, h2, h3⟩ := HU.out
                      obtain ⟨fu', rfl⟩ : ∃ fu', fu = fu' + 1 := ⟨fu - 1, by omega⟩
                      exact ⟨hst.2, fu', by omega, by rw [← h3, grRun_step HD.out, ← HM2.out]⟩)
                    clear hst hle
                    refine (l01Put_new w.heap.size g cp (sorted L) (m : Int) HX.out _ (by rw [sorted_len]; omega) oo).mono ?_
                    rintro e w6 ⟨g6, c6, rfl, oo6, hb6⟩
                    rw [HPU.out] at oo6 ⊢
                    have q6 := oo6.base_le
                    have oB6 := oB.below hb6
                    have oI6 := oI.below hb6
                    have cs6 := kept_cell hb6 cs (by omega)
                    have B6 := B.trans (hb6.mono B.size)
                    have s6 := hb6.size
                    have gl6 : g6 ≠ pl := by omega
                    have gg6 : g6 ≠ pg := by omega
                    replace oo6 := oo6.rebase (base' := w.heap.size) B.size
                    clear oo oB oI cs B hb6 hcm h0 qo HX HPU
                    go_wp2_with fail
                    refine (l01Ball_some ao S cap HSp.out HNt.out hmk r hr0 _ (hS.below B6)).mono ?_
                    rintro e w7 ⟨gb, cb, rfl, ob, hb7⟩
                    obtain ⟨LB, hLB⟩ : ∃ LB, LB = ballW S (m : Int) r := ⟨_, rfl⟩
                    rw [← hLB] at ob ⊢
                    have HB1 : Hid (∀ t, t < LB.length → ∃ y : Nat, gi LB t = (y : Int) ∧ y < k) := Lib.hid fun t ht => by
                      rw [hLB] at ht ⊢
                      have h := ballW_bd HSp.out (m : Int) r t ht
                      rw [HNt.out] at h
                      exact h
                    have hLBl : LB.length ≤ 1024 := by rw [hLB]; exact ballW_len HSp.out _ _
                    have HCA : Hid (cuT c LB LB.length = grC (bF S r) k c) := Lib.hid (by rw [hLB, cuT_all, HM2.out]; rfl)
                    have q7 := ob.base_le
                    have q6' := oo6.base_le
                    have oo7 := oo6.below hb7
                    have oB7 := oB6.below hb7
                    have oI7 := oI6.below hb7
                    have c7 := kept_cell hb7 cs6 (by omega)
                    have B7 := B6.trans (hb7.mono B6.size)
                    have n1 : gb ≠ pl := by omega
                    have n2 : gb ≠ pg := by omega
                    replace ob := ob.rebase (base' := w.heap.size) B6.size
                    clear oo6 oB6 oI6 cs6 B6 hb7 hLB
                    go_wp2_with fail
                    go_loopw [14] (fun t wm => ∃ x : Nat, x ≤ LB.length ∧ t = .int .i64 x ∧ OwnInts wm w.heap.size (.slice (some ⟨g6, 0, none⟩) (sorted (L ++ [(m : Int)])).length c6) (sorted (L ++ [(m : Int)])) ∧ OwnInts wm w.heap.size (.slice (some ⟨gb, 0, none⟩) LB.length cb) LB ∧ OwnBools wm w.heap.size (.slice (some ⟨pl, 0, none⟩) k k) (tbB (fun u => !cuT c LB x u) k) ∧ OwnInts wm w.heap.size (.slice (some ⟨pg, 0, none⟩) k k) (tbI (fun u => (gF (bF S r) (cuT c LB x) u : Int)) k) ∧ wm.cell? ⟨w.heap.size, 0, none⟩ = some (.slice ao S.length cap) ∧ Below w.heap.size w wm) (fun t _ => LB.length - (intOf t).toNat)
                    case atStart => exact ⟨0, Nat.zero_le _, rfl, oo7, ob, by rw [cuT_0]; exact oB7, by rw [cuT_0]; exact oI7, c7, B7⟩
                    case round =>
                      clear oo7 ob oB7 oI7 c7 B7
                      obtain ⟨x, hx, rfl, oo, ob, oB, oI, cs, B⟩ := hrel
                      have qB := oB.base_le
                      have qI := oI.base_le
                      have qo := oo.base_le
                      have qb := ob.base_le
                      by_cases hlt : x < LB.length
                      · obtain ⟨y, hy, hyk⟩ := HB1.out x hlt
                        have hcy := ob.cell hlt
                        rw [hy] at hcy
                        have HY := Lib.hid hy
                        have hcB := oB.cell (k := y) (by rw [tbB_len]; exact hyk)
                        rw [gb_tbB _ hyk] at hcB
                        have xI : (x : Int) < (LB.length : Int) := by omega
                        have x0 : (0 : Int) ≤ (x : Int) := by omega
                        have yI : (y : Int) < (k : Int) := by omega
                        have y0 : (0 : Int) ≤ (y : Int) := by omega
                        obtain ⟨c1, hc1⟩ : ∃ c1, c1 = cuT c LB x := ⟨_, rfl⟩
                        rw [← hc1] at hcB oB oI
                        have HC1 := Lib.hid hc1
                        clear hy hc1
                        by_cases hb : c1 y = true
                        · have HQ : Hid (cuT c LB (x + 1) = c1) := Lib.hid (by rw [cuT_had c LB x y hlt HY.out (by rw [← HC1.out]; exact hb), HC1.out])
                          rw [hb] at hcB
                          simp only [Bool.not_true] at hcB
                          clear hb
                          go_wp2_with fail
                          go_roundw
                          case rel => exact ⟨x + 1, by omega, by go_num, oo, ob, by rw [HQ.out]; exact oB, by rw [HQ.out]; exact oI, cs, B⟩
                          case measure => simp [intOf]; omega
                        · have hbf : c1 y = false := by simpa using hb
                          have HQ : Hid (cuT c LB (x + 1) = add1 c1 y) := Lib.hid (by rw [cuT_more c LB x y hlt HY.out, HC1.out])
                          rw [hbf] at hcB
                          simp only [Bool.not_false] at hcB
                          have HBF := Lib.hid hbf
                          clear hb hbf
                          have hfB := oB.free y
                          have oB' := oB.stored y false
                          rw [tbB_set] at oB'
                          have HB' : Hid (tbB (fun u => if u = y then false else !c1 u) k = tbB (fun u => !add1 c1 y u) k) := Lib.hid (tbB_congr fun u hu => by
                            unfold add1
                            by_cases e : u = y <;> simp [e])
                          rw [HB'.out] at oB'
                          have oI' := owni_other oI (fun e => hne e.symm) y (.bool false)
                          have oo' := owni_other oo gl6 y (.bool false)
                          have ob' := owni_other ob n1 y (.bool false)
                          have c' := cell_set_other (a := ⟨pl, y, none⟩) (u := .bool false) cs lw
                          have B' : Below w.heap.size w (wr.setCell ⟨pl, y, none⟩ (.bool false)) := B.setCell (by simp; omega) _
                          have hcy' := ob'.cell hlt
                          rw [HY.out] at hcy'
                          have z' : w.heap.size < (wr.setCell ⟨pl, y, none⟩ (.bool false)).heap.size := by simp; omega
                          have z2 : gb < (wr.setCell ⟨pl, y, none⟩ (.bool false)).heap.size := by simp; omega
                          have z3 : pg < (wr.setCell ⟨pl, y, none⟩ (.bool false)).heap.size := by simp; omega
                          clear oB oI oo ob cs B HB'
                          go_wp2_with fail
                          obtain ⟨w8, hw8⟩ : ∃ w8, w8 = wr.setCell ⟨pl, y, none⟩ (.bool false) := ⟨_, rfl⟩
                          rw [← hw8] at oB' oI' oo' ob' c' B' hcy' z' z2 z3 ⊢
                          clear hw8
                          go_region_held3 (fun w' => w'.cell? ⟨w.heap.size, 0, none⟩ = some (.slice ao S.length cap) ∧ w'.cell? ⟨gb, x, none⟩ = some (.int .i64 (y : Int))) (first | exact ⟨c', hcy'⟩ | exact ⟨k1, k2⟩) (first | (go_at_call 99; refine (l01Ball_some ao S cap HSp.out HNt.out hyk r hr0 _ (hS.below B'.drew)).mono ?_; rintro e w9 ⟨gn, cn, rfl, on, hb9'⟩; have hb9 : Below w8.heap.size w8 w9 := (Below.refl _ w8).drew.trans hb9'; have k1 := kept_cell hb9 c' z'; have k2 := kept_cell hb9 hcy' z2))
                          obtain ⟨NB, hNB⟩ : ∃ NB, NB = ballW S (y : Int) r := ⟨_, rfl⟩
                          rw [← hNB] at on ⊢
                          have HND : Hid NB.Nodup := Lib.hid (by rw [hNB]; exact asc_nd (ballW_asc S _ _))
                          have HB2 : Hid (∀ t, t < NB.length → ∃ v : Nat, gi NB t = (v : Int) ∧ v < k) := Lib.hid fun t ht => by
                            rw [hNB] at ht ⊢
                            have h := ballW_bd HSp.out (y : Int) r t ht
                            rw [HNt.out] at h
                            exact h
                          have hNBl : NB.length ≤ 1024 := by rw [hNB]; exact ballW_len HSp.out _ _
                          have HGA : Hid (tbI (fun u => gT (bF S r) c1 NB NB.length u) k = tbI (fun u => (gF (bF S r) (add1 c1 y) u : Int)) k) := Lib.hid (tbI_congr fun u hu => by
                            rw [hNB]
                            exact gT_all HSp.out (by rw [HNt.out]; exact hyk) (by rw [HNt.out]; exact hu) HBF.out)
                          have HG0 : Hid (tbI (fun u => (gF (bF S r) c1 u : Int)) k = tbI (fun u => gT (bF S r) c1 NB 0 u) k) := Lib.hid (tbI_congr fun u hu => (gT_0 _ _ _ u).symm)
                          rw [HG0.out] at oI'
                          have q9 : w8.heap.size ≤ gn := on.base_le.1
                          have oo9 := oo'.below hb9
                          have ob9 := ob'.below hb9
                          have oB9 := oB'.below hb9
                          have oI9 := oI'.below hb9
                          have c9 := kept_cell hb9 c' z'
                          have B9 := B'.trans (hb9.mono B'.size)
                          have n3 : gn ≠ pg := by omega
                          replace on := on.rebase (base' := w.heap.size) B'.size
                          clear oo' ob' oB' oI' c' B' hb9 hb9' hNB hcy' hcy hcB hfB k1 k2 HG0
                          go_wp2_with fail
                          go_loopw [16] (fun t wi => ∃ i : Nat, i ≤ NB.length ∧ t = .int .i64 i ∧ OwnInts wi w.heap.size (.slice (some ⟨g6, 0, none⟩) (sorted (L ++ [(m : Int)])).length c6) (sorted (L ++ [(m : Int)])) ∧ OwnInts wi w.heap.size (.slice (some ⟨gb, 0, none⟩) LB.length cb) LB ∧ OwnInts wi w.heap.size (.slice (some ⟨gn, 0, none⟩) NB.length cn) NB ∧ OwnBools wi w.heap.size (.slice (some ⟨pl, 0, none⟩) k k) (tbB (fun u => !add1 c1 y u) k) ∧ OwnInts wi w.heap.size (.slice (some ⟨pg, 0, none⟩) k k) (tbI (fun u => gT (bF S r) c1 NB i u) k) ∧ wi.cell? ⟨w.heap.size, 0, none⟩ = some (.slice ao S.length cap) ∧ Below w.heap.size w wi) (fun t _ => NB.length - (intOf t).toNat)
                          case atStart => exact ⟨0, Nat.zero_le _, rfl, oo9, ob9, on, oB9, oI9, c9, B9⟩
                          case round =>
                            clear oo9 ob9 on oB9 oI9 c9 B9
                            obtain ⟨i, hi, rfl, oo, ob, on, oB, oI, cs, B⟩ := hrel
                            have qI := oI.base_le
                            have qn := on.base_le
                            by_cases hli : i < NB.length
                            · obtain ⟨v, hv, hvk⟩ := HB2.out i hli
                              have hcn := on.cell hli
                              rw [hv] at hcn
                              have HVV := Lib.hid hv
                              have hcg := oI.cell (k := v) (by rw [tbI_len]; exact hvk)
                              rw [gi_tbI _ hvk] at hcg
                              have hzb := gT_bd (bF S r) c1 NB i v
                              obtain ⟨z, hz⟩ : ∃ z, z = gT (bF S r) c1 NB i v := ⟨_, rfl⟩
                              rw [← hz] at hcg hzb
                              have HZ' := Lib.hid hz
                              have ez : IntKind.i64.wrap (z - 1) = z - 1 := IntWalk.i64_in _ ⟨by omega, by omega⟩
                              have hfg := oI.free v
                              have iI : (i : Int) < (NB.length : Int) := by omega
                              have i0 : (0 : Int) ≤ (i : Int) := by omega
                              have vI : (v : Int) < (k : Int) := by omega
                              have v0 : (0 : Int) ≤ (v : Int) := by omega
                              have oI' := oI.stored v (z - 1)
                              rw [tbI_set] at oI'
                              have HI' : Hid (tbI (fun u => if u = v then z - 1 else gT (bF S r) c1 NB i u) k = tbI (fun u => gT (bF S r) c1 NB (i + 1) u) k) := Lib.hid (tbI_congr fun u hu => by rw [gT_more _ _ _ HND.out i v hli HVV.out u, HZ'.out])
                              rw [HI'.out] at oI'
                              have oB' := ownb_other oB hne v (.int .i64 (z - 1))
                              have oo' := owni_other oo gg6 v (.int .i64 (z - 1))
                              have ob' := owni_other ob n2 v (.int .i64 (z - 1))
                              have on' := owni_other on n3 v (.int .i64 (z - 1))
                              have c' := cell_set_other (a := ⟨pg, v, none⟩) (u := .int .i64 (z - 1)) cs lg
                              have B' : Below w.heap.size w (wr.setCell ⟨pg, v, none⟩ (.int .i64 (z - 1))) := B.setCell (by simp; omega) _
                              clear hv hz oI oB oo ob on cs B HI' hzb
                              go_wp2_with fail
                              go_roundw
                              case rel => exact ⟨i + 1, by omega, by go_num, oo', ob', on', oB', oI', c', B'⟩
                              case measure => simp [intOf]; omega
                            · obtain rfl : i = NB.length := by omega
                              rw [HGA.out] at oI
                              have iI : ¬ ((NB.length : Int) < (NB.length : Int)) := by omega
                              go_wp2_with fail
                              go_roundw
                              case rel => exact ⟨x + 1, by omega, by go_num, oo, ob, by rw [HQ.out]; exact oB, by rw [HQ.out]; exact oI, cs, B⟩
                              case measure => simp [intOf]; omega
                      · obtain rfl : x = LB.length := by omega
                        rw [HCA.out] at oB oI
                        have xI : ¬ ((LB.length : Int) < (LB.length : Int)) := by omega
                        obtain ⟨hg2, fu', hu1, hu2⟩ := HU2.out
                        have HU3 : Hid (GrI (bF S r) k (grC (bF S r) k c) (L ++ [(m : Int)]) ∧ uc (grC (bF S r) k c) k < fu' ∧ grRun (bF S r) k fu' (grC (bF S r) k c) (L ++ [(m : Int)]) = grL (bF S r) k) := Lib.hid ⟨hg2, hu1, hu2⟩
                        clear hg2 hu1 hu2
                        go_wp2_with fail
                        go_roundw
                        case rel => exact ⟨fu', grC (bF S r) k c, L ++ [(m : Int)], g6, c6, rfl, oo, HU3, gl6, gg6, oB, oI, cs, B⟩
                        case measure =>
                          show k - (sorted (L ++ [(m : Int)])).length < k - (sorted L).length
                          rw [sorted_len, sorted_len, List.length_append, List.length_singleton]
                          omega
    · have hz : eGr S r = 2 := by unfold eGr; rw [if_pos hs, if_neg hr]
      have HV : Hid (vGr S r = []) := Lib.hid (by unfold vGr; rw [if_neg (by rw [hz]; decide)])
      have HIn : Hid (∀ W, Calls Try.prog 62 #[.int .i64 r, .int .i64 0, .int .i64 8] W fun e w' => e = .returned (.bool false) ∧ W = w') := Lib.hid fun W => by
        have h := l01In_any r 0 8 W
        rw [inB_false hr] at h
        exact h
      have HZ := Lib.hid hz
      have HI := Lib.hid hI
      clear hz hI hs hr
      go_enter Try.func47, Try.ntmps47
      go_wp2_with fail
      refine HI.out.mono ?_
      rintro e w1 ⟨rfl, hb1⟩
      have B1 := B0.trans (hb1.mono B0.size)
      go_wp2_with fail
      refine (HIn.out _).mono ?_
      rintro e w1' ⟨rfl, rfl⟩
      go_wp2_with fail
      go_ret2
      exact ⟨_, by rw [HZ.out]; rfl, by rw [HV.out]; exact own_nil _ _, B1⟩
  · have hz : eGr S r = 1 := by unfold eGr; rw [if_neg hs]
    have HV : Hid (vGr S r = []) := Lib.hid (by unfold vGr; rw [if_neg (by rw [hz]; decide)])
    rw [show isSp S = false by simpa using hs] at hI
    have HZ := Lib.hid hz
    have HI := Lib.hid hI
    clear hz hI hs
    go_enter Try.func47, Try.ntmps47
    go_wp2_with fail
    refine HI.out.mono ?_
    rintro e w1 ⟨rfl, hb1⟩
    have B1 := B0.trans (hb1.mono B0.size)
    go_wp2_with fail
    go_ret2
    exact ⟨_, by rw [HZ.out]; rfl, by rw [HV.out]; exact own_nil _ _, B1⟩

end Go.Proofs.Ytgaelpcghljihaa
