/-
  The law FnCoverCounts holds at every list of bytes. By an AI agent.
-/
import Derived.Test.YtlhapanfegjafaaFkA
import Derived.Test.YtlhapanfegjafaaFkC
import Derived.Test.YtlhapanfegjafaaFkD
import Derived.Test.YtlhapanfegjafaaLws
import Derived.Test.YtlhapanfegjafaaFam
import Derived.Deep.Cut
namespace Go.Proofs.Ytlhapanfegjafaa
open Go.RowKit Cv
set_option linter.unusedVariables false
set_option linter.unusedSimpArgs false
set_option maxRecDepth 100000

set_option maxHeartbeats 8000000 in
theorem law_FnCoverCounts (a : Option Addr) (n cap : Nat) (W : World) (hY : Byts W W.heap.size a n) :
    Calls Try.prog 3 #[.slice a n cap] W fun e w' => e = .returned (.bool true) ∧ Below W.heap.size W w' := by
  have hbig := big_any a n cap W
  by_cases hn4 : 4096 < n
  · rw [decide_eq_true hn4] at hbig
    clear hY hn4
    go_enter Try.func3, Try.ntmps3
    go_wp2_with fail
    refine hbig.mono ?_
    rintro e w1 ⟨rfl, hb⟩
    clear hbig
    go_wp2_with fail
    go_ret
    exact ⟨rfl, hb⟩
  rw [decide_eq_false hn4] at hbig
  have hn : n ≤ 4096 := by omega
  clear hn4
  go_enter Try.func3, Try.ntmps3
  go_wp2_with fail
  refine hbig.mono ?_
  rintro e w1 ⟨rfl, BW⟩
  clear hbig
  have hYd : Byts w1 w1.heap.size a n := (hY.keep fun b o v hb h => kept_cell BW h hb).mono BW.size
  have hc := drawCovC_any a n cap hn w1 hYd
  go_wp2_with fail
  refine hc.mono ?_
  rintro e w2 ⟨ax, S, cx, g, cg, C, r, rfl, hI, _, hS8, own, hCl, hr, hb⟩
  replace BW := BW.trans (hb.mono BW.size)
  have IC := own_ints own
  clear hYd hc hb own
  obtain ⟨X, hX⟩ : ∃ z, z = w2.heap.size := ⟨_, rfl⟩
  obtain ⟨v3, hv3⟩ : ∃ z, z = w2.alloc (.cells #[.slice ax S.length cx] 26) := ⟨_, rfl⟩
  have RX : v3.heap[X]? = some (.cells #[.slice ax S.length cx] 26 (0, 0)) := by rw [hv3, hX]; exact heap_alloc_new _ _
  have IX : Ints v3 ax S := by rw [hv3]; exact hI.below ((Below.refl _ _).alloc (Nat.le_refl _) _)
  have ICX : Ints v3 (some ⟨g, 0, none⟩) C := by rw [hv3]; exact IC.below ((Below.refl _ _).alloc (Nat.le_refl _) _)
  have bX : Below w2.heap.size w2 v3 := by rw [hv3]; exact (Below.refl _ _).alloc (Nat.le_refl _) _
  replace BW : Below W.heap.size W v3 := BW.trans (bX.mono BW.size)
  have lX : X < v3.heap.size := row_lt RX
  have HX := Lib.hid hX
  have Hv3 := Lib.hid hv3
  have cX := cell_of1' RX
  clear hX hv3 hI RX bX IC
  have B := Below.refl v3.heap.size v3
  have B3 := BW
  have n1 := vCov_len S C r
  have hc := impl_CoverCounts ax S cx (by omega) (some ⟨g, 0, none⟩) C cg (by omega) r hr v3 (IX.below B) (ICX.below B)
  go_wp2_with fail
  rw [← Hv3.out, ← HX.out]
  refine hc.mono ?_
  rintro e w3 ⟨v1', rfl, own1, hb⟩
  replace B := B.trans (hb.mono B.size)
  have cc := kept_cell B cX lX
  clear hc hb
  obtain ⟨a1, k1, hv1⟩ := own_shp own1
  subst hv1
  have J1 := own_ints own1
  clear own1
  have hc := spec_CoverCounts ax S cx (by omega) (some ⟨g, 0, none⟩) C cg (by omega) r hr w3 (IX.below B) (ICX.below B)
  go_wp2_with fail
  refine hc.mono ?_
  rintro e w4 ⟨v2', rfl, own2, hb⟩
  replace J1 := J1.below hb
  replace B := B.trans (hb.mono B.size)
  have cc := kept_cell B cX lX
  clear hc hb
  obtain ⟨a2, k2, hv2⟩ := own_shp own2
  subst hv2
  have J2 := own_ints own2
  clear own2
  have hc := likeInts_same a1 a2 (vCov S C r) k1 k2 w4 (by omega) J1 J2
  go_wp2_with fail
  refine hc.mono ?_
  rintro e w5 ⟨rfl, hb⟩
  replace J1 := J1.below hb
  replace J2 := J2.below hb
  replace B := B.trans (hb.mono B.size)
  have cc := kept_cell B cX lX
  clear hc hb
  clear J2
  have hc := impl_ExcessOf ax S cx (by omega) (some ⟨g, 0, none⟩) C cg (by omega) r hr w5 (IX.below B) (ICX.below B)
  go_wp2_with fail
  refine hc.mono ?_
  rintro e w6 ⟨rfl, hb⟩
  replace J1 := J1.below hb
  replace B := B.trans (hb.mono B.size)
  have cc := kept_cell B cX lX
  clear hc hb
  have hc := spec_ExcessOf ax S cx (by omega) (some ⟨g, 0, none⟩) C cg (by omega) r hr w6 (IX.below B) (ICX.below B)
  go_wp2_with fail
  refine hc.mono ?_
  rintro e w7 ⟨rfl, hb⟩
  replace J1 := J1.below hb
  replace B := B.trans (hb.mono B.size)
  have cc := kept_cell B cX lX
  clear hc hb
  replace BW : Below W.heap.size W w7 := B3.trans (B.mono B3.size)
  have hYd : Byts w7 w7.heap.size a n := (hY.keep fun b o v hb h => kept_cell BW h hb).mono BW.size
  have hc := drawTimes_any a n cap hn w7 hYd
  go_wp2_with fail
  refine hc.mono ?_
  rintro e w8 ⟨ay, T, cy, g2, cg2, D, x2, r2, rfl, hI, _, hT8, own, hDl, hx2, hr2, hb⟩
  replace J1 := J1.below hb
  replace BW := BW.trans (hb.mono BW.size)
  have ID := own_ints own
  have B' : Below v3.heap.size v3 w8 := B.trans (hb.mono B.size)
  clear hYd hc hb own B cc
  obtain ⟨Vb, hVb⟩ : ∃ z, z = w8.heap.size := ⟨_, rfl⟩
  obtain ⟨v4, hv4⟩ : ∃ z, z = w8.alloc (.cells #[.slice ay T.length cy] 26) := ⟨_, rfl⟩
  have RVb : v4.heap[Vb]? = some (.cells #[.slice ay T.length cy] 26 (0, 0)) := by rw [hv4, hVb]; exact heap_alloc_new _ _
  have IVb : Ints v4 ay T := by rw [hv4]; exact hI.below ((Below.refl _ _).alloc (Nat.le_refl _) _)
  have IDVb : Ints v4 (some ⟨g2, 0, none⟩) D := by rw [hv4]; exact ID.below ((Below.refl _ _).alloc (Nat.le_refl _) _)
  have bVb : Below w8.heap.size w8 v4 := by rw [hv4]; exact (Below.refl _ _).alloc (Nat.le_refl _) _
  replace BW : Below W.heap.size W v4 := BW.trans (bVb.mono BW.size)
  have lVb : Vb < v4.heap.size := row_lt RVb
  have HVb := Lib.hid hVb
  have Hv4 := Lib.hid hv4
  have cVb := cell_of1' RVb
  have B6 : Below v3.heap.size v3 v4 := B'.trans (bVb.mono B'.size)
  replace J1 : Ints v4 a1 (vCov S C r) := by rw [hv4]; exact J1.below ((Below.refl _ _).alloc (Nat.le_refl _) _)
  clear hVb hv4 hI RVb bVb B' ID
  have B := Below.refl v4.heap.size v4
  have B4 := BW
  have hc := impl_TimesCovered ay T cy (by omega) (some ⟨g2, 0, none⟩) D cg2 (by omega) x2 hx2 r2 hr2 v4 (IVb.below B) (IDVb.below B)
  go_wp2_with fail
  rw [← Hv4.out, ← HVb.out]
  refine hc.mono ?_
  rintro e w9 ⟨rfl, hb⟩
  replace J1 := J1.below hb
  replace B := B.trans (hb.mono B.size)
  have cc := kept_cell B cVb lVb
  clear hc hb
  have hc := spec_TimesCovered ay T cy (by omega) (some ⟨g2, 0, none⟩) D cg2 (by omega) x2 hx2 r2 hr2 w9 (IVb.below B) (IDVb.below B)
  go_wp2_with fail
  refine hc.mono ?_
  rintro e w10 ⟨rfl, hb⟩
  replace J1 := J1.below hb
  replace B := B.trans (hb.mono B.size)
  have cc := kept_cell B cVb lVb
  clear hc hb
  replace BW : Below W.heap.size W w10 := B4.trans (B.mono B4.size)
  have hYd : Byts w10 w10.heap.size a n := (hY.keep fun b o v hb h => kept_cell BW h hb).mono BW.size
  have hc := drawGreedy_any a n cap hn w10 hYd
  go_wp2_with fail
  refine hc.mono ?_
  rintro e w11 ⟨az, U, cz, y, rfl, hI, _, hU8, hy, hb⟩
  replace J1 := J1.below hb
  replace BW := BW.trans (hb.mono BW.size)
  have B' : Below v3.heap.size v3 w11 := (B6.trans (B.mono B6.size)).trans (hb.mono (by have := B6.size; have := B.size; omega))
  clear hYd hc hb B cc
  obtain ⟨Yb, hYb⟩ : ∃ z, z = w11.heap.size := ⟨_, rfl⟩
  obtain ⟨v5, hv5⟩ : ∃ z, z = w11.alloc (.cells #[.slice az U.length cz] 26) := ⟨_, rfl⟩
  have RYb : v5.heap[Yb]? = some (.cells #[.slice az U.length cz] 26 (0, 0)) := by rw [hv5, hYb]; exact heap_alloc_new _ _
  have IYb : Ints v5 az U := by rw [hv5]; exact hI.below ((Below.refl _ _).alloc (Nat.le_refl _) _)
  have bYb : Below w11.heap.size w11 v5 := by rw [hv5]; exact (Below.refl _ _).alloc (Nat.le_refl _) _
  replace BW : Below W.heap.size W v5 := BW.trans (bYb.mono BW.size)
  have lYb : Yb < v5.heap.size := row_lt RYb
  have HYb := Lib.hid hYb
  have Hv5 := Lib.hid hv5
  have cYb := cell_of1' RYb
  have B7 : Below v3.heap.size v3 v5 := B'.trans (bYb.mono B'.size)
  replace J1 : Ints v5 a1 (vCov S C r) := by rw [hv5]; exact J1.below ((Below.refl _ _).alloc (Nat.le_refl _) _)
  clear hYb hv5 hI RYb bYb B' B6 B4
  have B := Below.refl v5.heap.size v5
  have B5 := BW
  have cs := kept_cell B7 cX lX
  have ls := lt_of_below B7 lX
  have n2 := vGr_len U y
  have J0 := J1
  clear J1
  have hc := impl_GreedyCode az U cz (by omega) y hy v5 (IYb.below B)
  go_wp2_with fail
  rw [← Hv5.out, ← HYb.out]
  refine hc.mono ?_
  rintro e w12 ⟨v5', rfl, own5, hb⟩
  replace B := B.trans (hb.mono B.size)
  have cc := kept_cell B cYb lYb
  clear hc hb
  obtain ⟨a5, k5, hv5⟩ := own_shp own5
  subst hv5
  have J5 := own_ints own5
  clear own5
  have hc := spec_GreedyCode az U cz (by omega) y hy w12 (IYb.below B)
  go_wp2_with fail
  refine hc.mono ?_
  rintro e w13 ⟨v6', rfl, own6, hb⟩
  replace J5 := J5.below hb
  replace B := B.trans (hb.mono B.size)
  have cc := kept_cell B cYb lYb
  clear hc hb
  obtain ⟨a6, k6, hv6⟩ := own_shp own6
  subst hv6
  have J6 := own_ints own6
  clear own6
  have hc := likeInts_same a5 a6 (vGr U y) k5 k6 w13 (by omega) J5 J6
  go_wp2_with fail
  refine hc.mono ?_
  rintro e w14 ⟨rfl, hb⟩
  replace J5 := J5.below hb
  replace J6 := J6.below hb
  replace B := B.trans (hb.mono B.size)
  have cc := kept_cell B cYb lYb
  clear hc hb
  clear J6
  go_upto_if 149 with fail
  go_cut [28, 29, 30, 31] from 148 (fun _ _ _ _ wx => Below v5.heap.size v5 wx)
  case first => as_aux_lemma =>
    clear BW B5 B3 hY J0 cs ls B7 n1
    by_cases hE : eGr U y = 0
    · have hE0 : (eGr U y == 0) = true := by simpa using hE
      obtain ⟨g1, g2', g3, g4⟩ := fg_all hE
      have G4 : ¬ ((vGr U y).length : Int) < vBB U y := by omega
      clear hE g4
      have hc := impl_CoversSpace az U cz (by omega) a5 (vGr U y) k5 (by omega) y hy w14 (IYb.below B) J5
      rw [g2', g1] at hc
      go_wp2_with fail
      refine hc.mono ?_
      rintro e w15 ⟨rfl, hb⟩
      replace J5 := J5.below hb
      replace B := B.trans (hb.mono B.size)
      have cc := kept_cell B cYb lYb
      clear hc hb
      have hc := impl_BallBound az U cz (by omega) y hy w15 (IYb.below B)
      rw [g3] at hc
      go_wp2_with fail
      refine hc.mono ?_
      rintro e w16 ⟨rfl, hb⟩
      replace J5 := J5.below hb
      replace B := B.trans (hb.mono B.size)
      have cc := kept_cell B cYb lYb
      clear hc hb
      clear g1 g2' g3 cc
      go_wp2_with fail
      go_meet
      exact B
    · have hE0 : (eGr U y == 0) = false := by simpa using hE
      clear hE cc
      go_wp2_with fail
      go_meet
      exact B
  case rest => as_aux_lemma =>
  clear BW B cc HX Hv3 HVb Hv4 HYb Hv5 J5 n2
  have cw := kept_cell hcut cs ls
  clear cs
  have cs := cw
  clear cw
  have key : ((eTimes T D x2 r2 == 0) = true ∧ ¬ vTimes T D x2 r2 < 0 ∧ ¬ (D.length : Int) < vTimes T D x2 r2) ∨ (eTimes T D x2 r2 == 0) = false := by
    by_cases hE : eTimes T D x2 r2 = 0
    · left
      obtain ⟨t1, t2⟩ := tcov_bd T D r2 x2 D.length
      have hv : vTimes T D x2 r2 = tcov T D r2 x2 D.length := by unfold vTimes; rw [if_pos hE]
      exact ⟨by simpa using hE, by omega, by omega⟩
    · right; simpa using hE
  rcases key with ⟨hT0, m1, m2⟩ | hT0
  all_goals
    have BV : Below v3.heap.size v3 wc := B7.trans (hcut.mono B7.size)
    have BF : Below W.heap.size W wc := B3.trans (BV.mono B3.size)
    replace J1 := J0.below hcut
    clear J0
    have cc := kept_cell BV cX lX
    have lc : X < wc.heap.size := lt_of_below BV lX
    clear hcut cs ls B7 B5
    by_cases hE : eCov S C r = 0
    rotate_left
    · have hE0 : (eCov S C r != 0) = true := by simpa using hE
      have q1 : (((vCov S C r).length : Int) == 0) = true := by rw [vCov_bad hE]; rfl
      have q2 : (eExc S C r == eCov S C r) = true := by rw [(exc_bad hE).1]; simp
      clear hE
      go_wp2_with fail
      go_ret
      exact ⟨by first | rfl | simp, BF⟩
    have hE0 : (eCov S C r != 0) = false := by simpa using hE
    obtain ⟨f1, f2, f3, f4, f5⟩ := fk_all hE
    obtain ⟨b1, b2, b3, b4, b5, b6, b7⟩ := fk_bd hE
    have b8 := vSize_bd2 hE
    have hN := nW_bd (eCode_zero (eCov_zero hE).1).1
    have B := Below.refl wc.heap.size wc
    have F1 := Lib.hid f1
    have F4 := Lib.hid f4
    have F5 := Lib.hid f5
    have B3' := Lib.hid b3
    have B4' := Lib.hid b4
    have B2' := Lib.hid b2
    have B8 := Lib.hid b8
    have F2 : Hid (wsT (fun _ => 1) (vCov S C r) (vCov S C r).length = nW S) := Lib.hid (by rw [f1]; exact f2)
    have F3 : Hid (wsT (fun k => (k : Int)) (vCov S C r) (vCov S C r).length = vSize S r * C.length) := Lib.hid (by rw [f1]; exact f3)
    have HN := Lib.hid hN
    have b0 : 0 < (vCov S C r).length := by omega
    have H0 := Lib.hid b0
    clear b0 f1 f2 f3 f4 f5 b3 b4 b2 b8 hN hE n1
    have hc := impl_CountWords ax S cx (by omega) wc (IX.below (BV.trans (B.mono BV.size)))
    rw [b6, b5] at hc
    go_wp2_with fail
    refine hc.mono ?_
    rintro e w17 ⟨rfl, hb⟩
    replace J1 := J1.below hb
    replace B := B.trans (hb.mono B.size)
    have cc' := kept_cell B cc lc
    clear hc hb
    have hc := impl_BallSize ax S cx (by omega) r hr w17 (IX.below (BV.trans (B.mono BV.size)))
    rw [b7] at hc
    go_wp2_with fail
    refine hc.mono ?_
    rintro e w18 ⟨rfl, hb⟩
    replace J1 := J1.below hb
    replace B := B.trans (hb.mono B.size)
    have cc' := kept_cell B cc lc
    clear hc hb
    clear cc cc' lc b5 b6 b7
    have h0 := H0.out
    obtain ⟨b, o, rfl, hbk, hck⟩ := J1.at h0
    go_wp2_with fail
    go_loop [36, 37] (fun t i => ∃ k : Nat, k ≤ (vCov S C r).length ∧ i = .int .i64 (k : Int) ∧ t = .int .i64 (wsT (fun k => (k : Int)) (vCov S C r) k)) (fun _ i => (vCov S C r).length - (intOf i).toNat)
    case atStart => exact ⟨0, Nat.zero_le _, rfl, rfl⟩
    case round =>
      obtain ⟨k, hk, rfl, rfl⟩ := hrel
      by_cases hlt : k < (vCov S C r).length
      · have i2 : (k : Int) < ((vCov S C r).length : Int) := by omega
        have hckk := hck k hlt
        have hkb : (k : Int) < 4096 := by have := F1.out; omega
        have HT : Hid (wsT (fun k => (k : Int)) (vCov S C r) (k + 1) = wsT (fun k => (k : Int)) (vCov S C r) k + (k : Int) * gi (vCov S C r) k) := Lib.hid rfl
        have m1 := B4'.out k (by have := F1.out; omega)
        have m2 := B3'.out (k + 1) (by have := F1.out; omega)
        rw [HT.out] at m2
        have e1 : IntKind.i64.wrap ((k : Int) * gi (vCov S C r) k) = (k : Int) * gi (vCov S C r) k := IntWalk.i64_in _ ⟨by omega, by omega⟩
        have e2 : IntKind.i64.wrap (wsT (fun k => (k : Int)) (vCov S C r) k + (k : Int) * gi (vCov S C r) k) = wsT (fun k => (k : Int)) (vCov S C r) k + (k : Int) * gi (vCov S C r) k := IntWalk.i64_in _ ⟨by omega, by omega⟩
        clear m1 m2
        go_wp2_with fail
        go_round
        case rel => exact ⟨k + 1, by omega, by go_num, by rw [HT.out]; try rfl⟩
        case measure => simp [intOf]; omega
      · have i2 : ¬ (k : Int) < ((vCov S C r).length : Int) := by omega
        have ek : k = (vCov S C r).length := by omega
        subst ek
        rw [F3.out]
        have hs := sum_any (some ⟨b, o, none⟩) (vCov S C r) k1 1024 (by omega) B2'.out w18 (by have := F1.out; omega) J1
        rw [F2.out] at hs
        have m8 := B8.out
        have mN := HN.out
        have e1 : IntKind.i64.wrap (vSize S r * (C.length : Int)) = vSize S r * (C.length : Int) := IntWalk.i64_in _ ⟨by omega, by omega⟩
        have e2 : IntKind.i64.wrap (vSize S r * (C.length : Int) - nW S) = vSize S r * (C.length : Int) - nW S := IntWalk.i64_in _ ⟨by omega, by omega⟩
        clear m8 mN hk hlt
        go_wp2_with fail
        refine hs.mono ?_
        rintro e w40 ⟨rfl, hb⟩
        have ck := kept_cell hb (hck 0 h0) hbk
        rw [Nat.add_zero] at ck
        clear hs hck
        by_cases he : eExc S C r = 0
        · have q1 : (eExc S C r == 0) = true := by simpa using he
          have q2 : (gi (vCov S C r) 0 == 0) = true := by simpa using F4.out.1 he
          have q3 : (vExc S C r == vSize S r * (C.length : Int) - nW S) = true := by simpa using F5.out he
          have q4 : (eExc S C r != 0) = false := by simpa using he
          clear he
          go_wp2_with fail
          go_ret
          exact ⟨by first | rfl | simp [q1, q2, q3, q4], (BF.trans (B.mono BF.size)).trans (hb.mono (BF.trans (B.mono BF.size)).size)⟩
        · have q1 : (eExc S C r == 0) = false := by simpa using he
          have q2 : (gi (vCov S C r) 0 == 0) = false := by have := mt F4.out.2 he; simpa using this
          have q4 : (eExc S C r != 0) = true := by simpa using he
          clear he
          go_wp2_with fail
          go_ret
          exact ⟨by first | rfl | simp [q1, q2, q4], (BF.trans (B.mono BF.size)).trans (hb.mono (BF.trans (B.mono BF.size)).size)⟩

end Go.Proofs.Ytlhapanfegjafaa
