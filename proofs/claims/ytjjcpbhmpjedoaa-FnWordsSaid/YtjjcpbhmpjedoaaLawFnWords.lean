/-
  The law FnWords holds at every list of bytes. By an AI agent.
-/
import Derived.Test.YtjjcpbhmpjedoaaDrw4
import Derived.Test.YtjjcpbhmpjedoaaLws
import Derived.Test.YtjjcpbhmpjedoaaMathW
import Derived.Test.YtjjcpbhmpjedoaaF1
import Derived.Test.YtjjcpbhmpjedoaaF2
import Derived.Test.YtjjcpbhmpjedoaaF3
import Derived.Test.YtjjcpbhmpjedoaaF4
import Derived.Test.YtjjcpbhmpjedoaaBall
import Derived.Test.YtjjcpbhmpjedoaaBall2
import Derived.Test.YtjjcpbhmpjedoaaSph
import Derived.Test.YtjjcpbhmpjedoaaSize
import Derived.Test.YtjjcpbhmpjedoaaSize2
import Derived.Test.YtjjcpbhmpjedoaaFam
import Derived.Deep.Cut
namespace Go.Proofs.Ytjjcpbhmpjedoaa
open Go.RowKit Cv
set_option linter.unusedVariables false
set_option linter.unusedSimpArgs false
set_option maxRecDepth 100000

set_option maxHeartbeats 8000000 in
theorem law_FnWords (a : Option Addr) (n cap : Nat) (W : World) (hY : Byts W W.heap.size a n) :
    Calls Try.prog 3 #[.slice a n cap] W fun e w' => e = .returned (.bool true) ∧ Below W.heap.size W w' := by
  have hbig := big_any a n cap W
  by_cases hn4 : 4096 < n
  · rw [decide_eq_true hn4] at hbig
    clear hY hn4
    go_enter Try.func3, Try.ntmps3
    go_wp2_with fail
    refine hbig.mono ?_
    rintro e w1 ⟨rfl, hb⟩
    clear hbig
    go_wp2_with fail
    go_ret
    exact ⟨rfl, hb⟩
  rw [decide_eq_false hn4] at hbig
  have hn : n ≤ 4096 := by omega
  clear hn4
  go_enter Try.func3, Try.ntmps3
  go_wp2_with fail
  refine hbig.mono ?_
  rintro e w1 ⟨rfl, BW⟩
  clear hbig
  have hYd : Byts w1 w1.heap.size a n := (hY.keep fun b o v hb h => kept_cell BW h hb).mono BW.size
  have hc := drawSum_any a n cap hn w1 hYd
  go_wp2_with fail
  refine hc.mono ?_
  rintro e w2 ⟨ax, S, cx, u, y, rfl, hI, _, hS8, hu, hy, hb⟩
  replace BW := BW.trans (hb.mono BW.size)
  clear hYd hc hb
  obtain ⟨X, hX⟩ : ∃ z, z = w2.heap.size := ⟨_, rfl⟩
  obtain ⟨v3, hv3⟩ : ∃ z, z = w2.alloc (.cells #[.slice ax S.length cx] 26) := ⟨_, rfl⟩
  have RX : v3.heap[X]? = some (.cells #[.slice ax S.length cx] 26 (0, 0)) := by rw [hv3, hX]; exact heap_alloc_new _ _
  have IX : Ints v3 ax S := by rw [hv3]; exact hI.below ((Below.refl _ _).alloc (Nat.le_refl _) _)
  have bX : Below w2.heap.size w2 v3 := by rw [hv3]; exact (Below.refl _ _).alloc (Nat.le_refl _) _
  replace BW : Below W.heap.size W v3 := BW.trans (bX.mono BW.size)
  have lX : X < v3.heap.size := row_lt RX
  have HX := Lib.hid hX
  have Hv3 := Lib.hid hv3
  have cX := cell_of1' RX
  clear hX hv3 hI RX bX
  have B := Below.refl v3.heap.size v3
  have B3 := BW
  have hc := impl_SumOfWords ax S cx (by omega) u hu y hy v3 (IX.below B)
  go_wp2_with fail
  rw [← Hv3.out, ← HX.out]
  refine hc.mono ?_
  rintro e w3 ⟨rfl, hb⟩
  replace B := B.trans (hb.mono B.size)
  have cc := kept_cell B cX lX
  clear hc hb
  have hc := spec_SumOfWords ax S cx (by omega) u hu y hy w3 (IX.below B)
  go_wp2_with fail
  refine hc.mono ?_
  rintro e w4 ⟨rfl, hb⟩
  replace B := B.trans (hb.mono B.size)
  have cc := kept_cell B cX lX
  clear hc hb
  have hc := impl_DistanceOf ax S cx (by omega) u hu y hy w4 (IX.below B)
  go_wp2_with fail
  refine hc.mono ?_
  rintro e w5 ⟨rfl, hb⟩
  replace B := B.trans (hb.mono B.size)
  have cc := kept_cell B cX lX
  clear hc hb
  have hc := spec_DistanceOf ax S cx (by omega) u hu y hy w5 (IX.below B)
  go_wp2_with fail
  refine hc.mono ?_
  rintro e w6 ⟨rfl, hb⟩
  replace B := B.trans (hb.mono B.size)
  have cc := kept_cell B cX lX
  clear hc hb
  have hc := impl_OppositeWord ax S cx (by omega) y hy w6 (IX.below B)
  go_wp2_with fail
  refine hc.mono ?_
  rintro e w7 ⟨rfl, hb⟩
  replace B := B.trans (hb.mono B.size)
  have cc := kept_cell B cX lX
  clear hc hb
  have hc := spec_OppositeWord ax S cx (by omega) y hy w7 (IX.below B)
  go_wp2_with fail
  refine hc.mono ?_
  rintro e w8 ⟨rfl, hb⟩
  replace B := B.trans (hb.mono B.size)
  have cc := kept_cell B cX lX
  clear hc hb
  have hc := impl_WeightOf ax S cx (by omega) y hy w8 (IX.below B)
  go_wp2_with fail
  refine hc.mono ?_
  rintro e w9 ⟨rfl, hb⟩
  replace B := B.trans (hb.mono B.size)
  have cc := kept_cell B cX lX
  clear hc hb
  have hc := spec_WeightOf ax S cx (by omega) y hy w9 (IX.below B)
  go_wp2_with fail
  refine hc.mono ?_
  rintro e w10 ⟨rfl, hb⟩
  replace B := B.trans (hb.mono B.size)
  have cc := kept_cell B cX lX
  clear hc hb
  have hc := impl_DigitsOf ax S cx (by omega) y hy w10 (IX.below B)
  go_wp2_with fail
  refine hc.mono ?_
  rintro e w11 ⟨v1, rfl, own1, hb⟩
  replace B := B.trans (hb.mono B.size)
  have cc := kept_cell B cX lX
  clear hc hb
  obtain ⟨a1, k1, hv1⟩ := own_shp own1
  subst hv1
  have J1 := own_ints own1
  clear own1
  have hc := spec_DigitsOf ax S cx (by omega) y hy w11 (IX.below B)
  go_wp2_with fail
  refine hc.mono ?_
  rintro e w12 ⟨v2, rfl, own2, hb⟩
  replace J1 := J1.below hb
  replace B := B.trans (hb.mono B.size)
  have cc := kept_cell B cX lX
  clear hc hb
  obtain ⟨a2, k2, hv2⟩ := own_shp own2
  subst hv2
  have J2 := own_ints own2
  clear own2
  have hDl := vDigits_length S y
  have hli := fun V h1 h2 => likeInts_same a1 a2 (vDigits S y) k1 k2 V (by omega) h1 h2
  have hs1 := fun V h => IsSpace_any ax S cx V (by omega) h
  have hs2 := fun V h => specIsSpace_any ax S cx V (by omega) h
  have IXr := IX.below B
  go_upto_region 14 with fail
  have fX := fam_cell cc
  refine wp_region_fam (by kernel_rfl) (by kernel_rfl) ?_
  repeat (go_big_quiet_step (first | (go_at_call 17; exact fam_calls (hli _ (J1.below (fam_below _)) (J2.below (fam_below _)))) | (go_at_call 18; exact fam_calls (hs1 _ (IXr.below (fam_below _)))) | (go_at_call 19; exact fam_calls (hs2 _ (IXr.below (fam_below _))))))
  refine wpQuiet_nil ?_
  rintro _ ⟨z, rfl⟩
  have hb := fam_below z
  generalize fam w12 z = w14 at hb ⊢
  replace J1 := J1.below hb
  replace B := B.trans (hb.mono B.size)
  clear fX hli hs1 hs2 IXr J2 hb cc
  have cc := kept_cell B cX lX
  go_upto_if 199 with fail
  go_cut [26, 27, 28, 29, 30, 31, 32, 33, 34, 35, 36, 37] from 198 (fun _ _ _ _ _ _ _ _ _ _ _ _ wx => Below v3.heap.size v3 wx)
  case first => as_aux_lemma =>
    clear BW B3 hY
    by_cases hE : eWords S [u, y] = 0
    · have hE0 : (eWords S [u, y] == 0) = true := by simpa using hE
      have F := Lib.hid (fw_all hE)
      obtain ⟨⟨u0, u1⟩, ⟨y0, y1⟩, ⟨o0, o1⟩, ⟨t0, t1⟩, s0, s1⟩ := F.out.bd
      clear hE
      have hc := impl_WordOf ax S cx (by omega) a1 (vDigits S y) k1 (by omega) w14 (IX.below B) J1
      rw [F.out.bk, F.out.eb] at hc
      go_wp2_with fail
      refine hc.mono ?_
      rintro e w13 ⟨rfl, hb⟩
      replace J1 := J1.below hb
      replace B := B.trans (hb.mono B.size)
      have cc := kept_cell B cX lX
      clear hc hb
      clear J1
      have hc := impl_SumOfWords ax S cx (by omega) y hy (vOpp S y) (by omega) w13 (IX.below B)
      rw [F.out.z, F.out.e2] at hc
      go_wp2_with fail
      refine hc.mono ?_
      rintro e w14 ⟨rfl, hb⟩
      replace B := B.trans (hb.mono B.size)
      have cc := kept_cell B cX lX
      clear hc hb
      have hc := impl_SumOfWords ax S cx (by omega) u hu (vOpp S y) (by omega) w14 (IX.below B)
      rw [F.out.e3] at hc
      go_wp2_with fail
      refine hc.mono ?_
      rintro e w15 ⟨rfl, hb⟩
      replace B := B.trans (hb.mono B.size)
      have cc := kept_cell B cX lX
      clear hc hb
      have hc := impl_WeightOf ax S cx (by omega) (vSum S u (vOpp S y)) (by omega) w15 (IX.below B)
      rw [F.out.wt, F.out.e4] at hc
      go_wp2_with fail
      refine hc.mono ?_
      rintro e w16 ⟨rfl, hb⟩
      replace B := B.trans (hb.mono B.size)
      have cc := kept_cell B cX lX
      clear hc hb
      have hc := impl_DistanceOf ax S cx (by omega) y hy u hu w16 (IX.below B)
      rw [F.out.mu, F.out.e5] at hc
      go_wp2_with fail
      refine hc.mono ?_
      rintro e w17 ⟨rfl, hb⟩
      replace B := B.trans (hb.mono B.size)
      have cc := kept_cell B cX lX
      clear hc hb
      have hc := impl_DistanceOf ax S cx (by omega) u hu (vSum S u y) (by omega) w17 (IX.below B)
      rw [F.out.via, F.out.e6] at hc
      go_wp2_with fail
      refine hc.mono ?_
      rintro e w18 ⟨rfl, hb⟩
      replace B := B.trans (hb.mono B.size)
      have cc := kept_cell B cX lX
      clear hc hb
      clear cc
      by_cases huy : u = y
      · have f1 : (vDist S u y == 0) = true := by simpa using F.out.nil.2 huy
        have f2 : (u == y) = true := by simpa using huy
        clear huy
        go_wp2_with fail
        go_meet
        exact B
      · have f1 : (vDist S u y == 0) = false := by rw [beq_eq_false_iff_ne]; exact fun e => huy (F.out.nil.1 e)
        have f2 : (u == y) = false := by simpa using huy
        clear huy
        go_wp2_with fail
        go_meet
        exact B
    · have hE0 : (eWords S [u, y] == 0) = false := by simpa using hE
      clear hE cc J1
      go_wp2_with fail
      go_meet
      exact B
  case rest => as_aux_lemma =>
  replace BW : Below W.heap.size W wc := B3.trans (hcut.mono B3.size)
  clear B3 hcut J1 cc B hu hy hS8 hDl HX Hv3 IX lX cX
  have hYd : Byts wc wc.heap.size a n := (hY.keep fun b o v hb h => kept_cell BW h hb).mono BW.size
  have hc := drawBall_any a n cap hn wc hYd
  go_wp2_with fail
  refine hc.mono ?_
  rintro e w19 ⟨ay, T, cy, x, r, rfl, hI, _, hT8, hx, hr, hb⟩
  replace BW := BW.trans (hb.mono BW.size)
  clear hYd hc hb
  obtain ⟨Vb, hVb⟩ : ∃ z, z = w19.heap.size := ⟨_, rfl⟩
  obtain ⟨v4, hv4⟩ : ∃ z, z = w19.alloc (.cells #[.slice ay T.length cy] 26) := ⟨_, rfl⟩
  have RVb : v4.heap[Vb]? = some (.cells #[.slice ay T.length cy] 26 (0, 0)) := by rw [hv4, hVb]; exact heap_alloc_new _ _
  have IVb : Ints v4 ay T := by rw [hv4]; exact hI.below ((Below.refl _ _).alloc (Nat.le_refl _) _)
  have bVb : Below w19.heap.size w19 v4 := by rw [hv4]; exact (Below.refl _ _).alloc (Nat.le_refl _) _
  replace BW : Below W.heap.size W v4 := BW.trans (bVb.mono BW.size)
  have lVb : Vb < v4.heap.size := row_lt RVb
  have HVb := Lib.hid hVb
  have Hv4 := Lib.hid hv4
  have cVb := cell_of1' RVb
  clear hVb hv4 hI RVb bVb
  have B := Below.refl v4.heap.size v4
  have B4 := BW
  have hc := impl_BallOf ay T cy (by omega) x hx r hr v4 (IVb.below B)
  go_wp2_with fail
  rw [← Hv4.out, ← HVb.out]
  refine hc.mono ?_
  rintro e w20 ⟨v3', rfl, own3, hb⟩
  replace B := B.trans (hb.mono B.size)
  have cc := kept_cell B cVb lVb
  clear hc hb
  obtain ⟨a3, k3, hv3⟩ := own_shp own3
  subst hv3
  have J3 := own_ints own3
  clear own3
  have hc := spec_BallOf ay T cy (by omega) x hx r hr w20 (IVb.below B)
  go_wp2_with fail
  refine hc.mono ?_
  rintro e w21 ⟨v4', rfl, own4, hb⟩
  replace J3 := J3.below hb
  replace B := B.trans (hb.mono B.size)
  have cc := kept_cell B cVb lVb
  clear hc hb
  obtain ⟨a4, k4, hv4⟩ := own_shp own4
  subst hv4
  have J4 := own_ints own4
  clear own4
  have hc := impl_SphereOf ay T cy (by omega) x hx r hr w21 (IVb.below B)
  go_wp2_with fail
  refine hc.mono ?_
  rintro e w22 ⟨v5', rfl, own5, hb⟩
  replace J3 := J3.below hb
  replace J4 := J4.below hb
  replace B := B.trans (hb.mono B.size)
  have cc := kept_cell B cVb lVb
  clear hc hb
  obtain ⟨a5, k5, hv5⟩ := own_shp own5
  subst hv5
  have J5 := own_ints own5
  clear own5
  have hc := spec_SphereOf ay T cy (by omega) x hx r hr w22 (IVb.below B)
  go_wp2_with fail
  refine hc.mono ?_
  rintro e w23 ⟨v6', rfl, own6, hb⟩
  replace J3 := J3.below hb
  replace J4 := J4.below hb
  replace J5 := J5.below hb
  replace B := B.trans (hb.mono B.size)
  have cc := kept_cell B cVb lVb
  clear hc hb
  obtain ⟨a6, k6, hv6⟩ := own_shp own6
  subst hv6
  have J6 := own_ints own6
  clear own6
  have hc := impl_BallSize ay T cy (by omega) r hr w23 (IVb.below B)
  go_wp2_with fail
  refine hc.mono ?_
  rintro e w24 ⟨rfl, hb⟩
  replace J3 := J3.below hb
  replace J4 := J4.below hb
  replace J5 := J5.below hb
  replace J6 := J6.below hb
  replace B := B.trans (hb.mono B.size)
  have cc := kept_cell B cVb lVb
  clear hc hb
  have hc := spec_BallSize ay T cy (by omega) r hr w24 (IVb.below B)
  go_wp2_with fail
  refine hc.mono ?_
  rintro e w25 ⟨rfl, hb⟩
  replace J3 := J3.below hb
  replace J4 := J4.below hb
  replace J5 := J5.below hb
  replace J6 := J6.below hb
  replace B := B.trans (hb.mono B.size)
  have cc := kept_cell B cVb lVb
  clear hc hb
  have hbl := vBall_len T x r
  have hsl := vSph_len T x r
  have hc := likeInts_same a3 a4 (vBall T x r) k3 k4 w25 (by omega) J3 J4
  go_wp2_with fail
  refine hc.mono ?_
  rintro e w26 ⟨rfl, hb⟩
  replace J3 := J3.below hb
  replace J4 := J4.below hb
  replace J5 := J5.below hb
  replace J6 := J6.below hb
  replace B := B.trans (hb.mono B.size)
  have cc := kept_cell B cVb lVb
  clear hc hb
  clear J4
  have hc := likeInts_same a5 a6 (vSph T x r) k5 k6 w26 (by omega) J5 J6
  go_wp2_with fail
  refine hc.mono ?_
  rintro e w27 ⟨rfl, hb⟩
  replace J3 := J3.below hb
  replace J5 := J5.below hb
  replace J6 := J6.below hb
  replace B := B.trans (hb.mono B.size)
  have cc := kept_cell B cVb lVb
  clear hc hb
  clear J6
  go_upto_if 371 with fail
  go_cut [53] from 370 (fun _ wx => Below v4.heap.size v4 wx)
  case first => as_aux_lemma =>
    clear BW B4 hY cc
    by_cases hE : eBall T x r = 0
    · have hE0 : (eBall T x r == 0) = true := by simpa using hE
      obtain ⟨g1, g2, g3⟩ := fb_all hE
      have HG := Lib.hid g3
      have q1 : (((vBall T x r).length : Int) != vSize T r) = false := by rw [g1]; simp
      have q2 : ¬ ((vBall T x r).length : Int) < ((vSph T x r).length : Int) := by omega
      clear g1 g2 g3 hE
      go_wp2_with fail
      go_loopw [385] (fun i wr => ∃ k : Nat, k ≤ (vSph T x r).length ∧ i = .int .i64 (k : Int) ∧ Below w27.heap.size w27 wr) (fun i _ => (vSph T x r).length - (intOf i).toNat)
      case atStart => exact ⟨0, Nat.zero_le _, rfl, Below.refl _ _⟩
      case round =>
        obtain ⟨k, hk, rfl, BJ⟩ := hrel
        by_cases hlt : k < (vSph T x r).length
        · have i2 : (k : Int) < ((vSph T x r).length : Int) := by omega
          obtain ⟨b, o, rfl, hbk, hck⟩ := J5.at hlt
          have hckk := kept_cell BJ (hck k hlt) hbk
          have hmem := HG.out k hlt
          obtain ⟨yy, hyy⟩ : ∃ yy, yy = gi (vSph T x r) k := ⟨_, rfl⟩
          rw [← hyy] at hckk hmem
          have hh := hasInt_any a3 (vBall T x r) k3 yy wr (by omega) (J3.below BJ)
          rw [show hasTo (vBall T x r) yy (vBall T x r).length = true from (hasTo_iff _ _ _).2 (mem_gi hmem)] at hh
          clear hck hmem hyy
          go_wp2_with fail
          refine hh.mono ?_
          rintro e w40 ⟨rfl, hb⟩
          clear hh
          go_wp2_with fail
          go_roundw
          case rel => exact ⟨k + 1, by omega, by go_num, BJ.trans (hb.mono BJ.size)⟩
          case measure => simp [intOf]; omega
        · have i2 : ¬ (k : Int) < ((vSph T x r).length : Int) := by omega
          go_wp2_with fail
          go_meet
          exact B.trans (BJ.mono B.size)
    · have hE0 : (eBall T x r == 0) = false := by simpa using hE
      clear hE
      go_wp2_with fail
      go_meet
      exact B
  case rest => as_aux_lemma =>
  replace BW : Below W.heap.size W wc := B4.trans (hcut.mono B4.size)
  clear B4 hcut J3 J5 cc B hx hr hT8 hbl hsl HVb Hv4 IVb lVb cVb
  have hYd : Byts wc wc.heap.size a n := (hY.keep fun b o v hb h => kept_cell BW h hb).mono BW.size
  have hc := drawChange_any a n cap hn wc hYd
  go_wp2_with fail
  refine hc.mono ?_
  rintro e w28 ⟨az, Q, cz, p, i, d, rfl, hI, hQ8, hp, hi, hd, hb⟩
  replace BW := BW.trans (hb.mono BW.size)
  clear hYd hc hb
  obtain ⟨Z, hZ⟩ : ∃ z, z = w28.heap.size := ⟨_, rfl⟩
  obtain ⟨v5, hv5⟩ : ∃ z, z = w28.alloc (.cells #[.slice az Q.length cz] 26) := ⟨_, rfl⟩
  have RZ : v5.heap[Z]? = some (.cells #[.slice az Q.length cz] 26 (0, 0)) := by rw [hv5, hZ]; exact heap_alloc_new _ _
  have IZ : Ints v5 az Q := by rw [hv5]; exact hI.below ((Below.refl _ _).alloc (Nat.le_refl _) _)
  have bZ : Below w28.heap.size w28 v5 := by rw [hv5]; exact (Below.refl _ _).alloc (Nat.le_refl _) _
  replace BW : Below W.heap.size W v5 := BW.trans (bZ.mono BW.size)
  have lZ : Z < v5.heap.size := row_lt RZ
  have HZ := Lib.hid hZ
  have Hv5 := Lib.hid hv5
  have cZ := cell_of1' RZ
  clear hZ hv5 hI RZ bZ
  have B := Below.refl v5.heap.size v5
  have B5 := BW
  have hc := impl_ChangeDigit az Q cz (by omega) p hp i hi d hd v5 (IZ.below B)
  go_wp2_with fail
  rw [← Hv5.out, ← HZ.out]
  refine hc.mono ?_
  rintro e w29 ⟨rfl, hb⟩
  replace B := B.trans (hb.mono B.size)
  have cc := kept_cell B cZ lZ
  clear hc hb
  have hc := spec_ChangeDigit az Q cz (by omega) p hp i hi d hd w29 (IZ.below B)
  go_wp2_with fail
  refine hc.mono ?_
  rintro e w30 ⟨rfl, hb⟩
  replace B := B.trans (hb.mono B.size)
  have cc := kept_cell B cZ lZ
  clear hc hb
  replace BW : Below W.heap.size W w30 := B5.trans (B.mono B5.size)
  have hYd : Byts w30 w30.heap.size a n := (hY.keep fun b o v hb h => kept_cell BW h hb).mono BW.size
  have hc := drawWordOf_any a n cap hn w30 hYd
  go_wp2_with fail
  refine hc.mono ?_
  rintro e w31 ⟨ad, M, cd, al, D, cl, rfl, hI, hD, hM8, hD9, hb⟩
  replace BW := BW.trans (hb.mono BW.size)
  have B' : Below v5.heap.size v5 w31 := B.trans (hb.mono B.size)
  clear hYd hc hb B cc
  obtain ⟨U, hU⟩ : ∃ z, z = w31.heap.size := ⟨_, rfl⟩
  obtain ⟨v6, hv6⟩ : ∃ z, z = w31.alloc (.cells #[.slice ad M.length cd] 26) := ⟨_, rfl⟩
  have RU : v6.heap[U]? = some (.cells #[.slice ad M.length cd] 26 (0, 0)) := by rw [hv6, hU]; exact heap_alloc_new _ _
  have IU : Ints v6 ad M := by rw [hv6]; exact hI.below ((Below.refl _ _).alloc (Nat.le_refl _) _)
  have hDU : Ints v6 al D := by rw [hv6]; exact hD.below ((Below.refl _ _).alloc (Nat.le_refl _) _)
  have bU : Below w31.heap.size w31 v6 := by rw [hv6]; exact (Below.refl _ _).alloc (Nat.le_refl _) _
  replace BW : Below W.heap.size W v6 := BW.trans (bU.mono BW.size)
  have lU : U < v6.heap.size := row_lt RU
  have HU := Lib.hid hU
  have Hv6 := Lib.hid hv6
  have cU := cell_of1' RU
  have B6 : Below v5.heap.size v5 v6 := B'.trans (bU.mono B'.size)
  clear hU hv6 hI hD RU bU B'
  have B := Below.refl v6.heap.size v6
  have cc := kept_cell B6 cZ lZ
  have lc := lt_of_below B6 lZ
  have cd' := cU
  have hc := impl_WordOf ad M cd (by omega) al D cl (by omega) v6 (IU.below B) (hDU.below B)
  go_wp2_with fail
  rw [← Hv6.out, ← HU.out]
  refine hc.mono ?_
  rintro e w32 ⟨rfl, hb⟩
  replace B := B.trans (hb.mono B.size)
  have cd' := kept_cell B cU lU
  have cc' := kept_cell B cc lc
  clear hc hb
  have hc := spec_WordOf ad M cd (by omega) al D cl (by omega) w32 (IU.below B) (hDU.below B)
  go_wp2_with fail
  refine hc.mono ?_
  rintro e w33 ⟨rfl, hb⟩
  replace B := B.trans (hb.mono B.size)
  have cd' := kept_cell B cU lU
  have cc' := kept_cell B cc lc
  clear hc hb
  clear cd'
  have BZ : Below v5.heap.size v5 w33 := B6.trans (B.mono B6.size)
  have BF : Below W.heap.size W w33 := B5.trans (BZ.mono B5.size)
  by_cases hE : eChange Q p i d = 0
  · have hE0 : (eChange Q p i d == 0) = true := by simpa using hE
    obtain ⟨f1, f2, f3, f4⟩ := fc_all hE
    have hc := impl_DistanceOf az Q cz (by omega) p hp (vChange Q p i d) (by omega) w33 (IZ.below BZ)
    rw [f1] at hc
    clear hE f1 f3 f4
    go_wp2_with fail
    refine hc.mono ?_
    rintro e w60 ⟨rfl, hb⟩
    clear hc
    go_wp2_with fail
    go_ret
    exact ⟨by simp [f2], BF.trans (hb.mono BF.size)⟩
  · have hE0 : (eChange Q p i d == 0) = false := by simpa using hE
    clear hE
    go_wp2_with fail
    go_ret
    exact ⟨rfl, BF⟩

end Go.Proofs.Ytjjcpbhmpjedoaa
