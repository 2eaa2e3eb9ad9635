/-
  The law FnCovers holds at every list of bytes. By an AI agent.
-/
import Derived.Test.YtjjcpbhmpjedoaaFcD
import Derived.Test.YtjjcpbhmpjedoaaFcE
import Derived.Test.YtjjcpbhmpjedoaaFcF
import Derived.Test.YtjjcpbhmpjedoaaFar4
import Derived.Test.YtjjcpbhmpjedoaaLws
import Derived.Test.YtjjcpbhmpjedoaaMathV
import Derived.Test.YtjjcpbhmpjedoaaFam
import Derived.Deep.Cut
namespace Go.Proofs.Ytjjcpbhmpjedoaa
open Go.RowKit Cv
set_option linter.unusedVariables false
set_option linter.unusedSimpArgs false
set_option maxRecDepth 100000

set_option maxHeartbeats 8000000 in
theorem law_FnCovers (a : Option Addr) (n cap : Nat) (W : World) (hY : Byts W W.heap.size a n) :
    Calls Try.prog 4 #[.slice a n cap] W fun e w' => e = .returned (.bool true) ∧ Below W.heap.size W w' := by
  have hbig := big_any a n cap W
  by_cases hn4 : 4096 < n
  · rw [decide_eq_true hn4] at hbig
    clear hY hn4
    go_enter Try.func4, Try.ntmps4
    go_wp2_with fail
    refine hbig.mono ?_
    rintro e w1 ⟨rfl, hb⟩
    clear hbig
    go_wp2_with fail
    go_ret
    exact ⟨rfl, hb⟩
  rw [decide_eq_false hn4] at hbig
  have hn : n ≤ 4096 := by omega
  clear hn4
  go_enter Try.func4, Try.ntmps4
  go_wp2_with fail
  refine hbig.mono ?_
  rintro e w1 ⟨rfl, BW⟩
  clear hbig
  have hYd : Byts w1 w1.heap.size a n := (hY.keep fun b o v hb h => kept_cell BW h hb).mono BW.size
  have hc := drawLean_any a n cap hn w1 hYd
  go_wp2_with fail
  refine hc.mono ?_
  rintro e w2 ⟨ax, S, cx, g, cg, C, r, rfl, hI, _, hS8, own, hCl, hr, hb⟩
  replace BW := BW.trans (hb.mono BW.size)
  have IC := own_ints own
  clear hYd hc hb own
  obtain ⟨X, hX⟩ : ∃ z, z = w2.heap.size := ⟨_, rfl⟩
  obtain ⟨v3, hv3⟩ : ∃ z, z = w2.alloc (.cells #[.slice ax S.length cx] 26) := ⟨_, rfl⟩
  have RX : v3.heap[X]? = some (.cells #[.slice ax S.length cx] 26 (0, 0)) := by rw [hv3, hX]; exact heap_alloc_new _ _
  have IX : Ints v3 ax S := by rw [hv3]; exact hI.below ((Below.refl _ _).alloc (Nat.le_refl _) _)
  have ICX : Ints v3 (some ⟨g, 0, none⟩) C := by rw [hv3]; exact IC.below ((Below.refl _ _).alloc (Nat.le_refl _) _)
  have bX : Below w2.heap.size w2 v3 := by rw [hv3]; exact (Below.refl _ _).alloc (Nat.le_refl _) _
  replace BW : Below W.heap.size W v3 := BW.trans (bX.mono BW.size)
  have lX : X < v3.heap.size := row_lt RX
  have HX := Lib.hid hX
  have Hv3 := Lib.hid hv3
  have cX := cell_of1' RX
  clear hX hv3 hI RX bX IC
  have B := Below.refl v3.heap.size v3
  have B3 := BW
  have n1 := vLean_len S C r
  have n2 := vUnc_len S C r
  have n3 := vNeed_len S C r
  have hc := impl_LeanCode ax S cx (by omega) (some ⟨g, 0, none⟩) C cg (by omega) r hr v3 (IX.below B) (ICX.below B)
  go_wp2_with fail
  rw [← Hv3.out, ← HX.out]
  refine hc.mono ?_
  rintro e w3 ⟨v1', rfl, own1, hb⟩
  replace B := B.trans (hb.mono B.size)
  have cc := kept_cell B cX lX
  clear hc hb
  obtain ⟨a1, k1, hv1⟩ := own_shp own1
  subst hv1
  have J1 := own_ints own1
  clear own1
  have hc := spec_LeanCode ax S cx (by omega) (some ⟨g, 0, none⟩) C cg (by omega) r hr w3 (IX.below B) (ICX.below B)
  go_wp2_with fail
  refine hc.mono ?_
  rintro e w4 ⟨v2', rfl, own2, hb⟩
  replace J1 := J1.below hb
  replace B := B.trans (hb.mono B.size)
  have cc := kept_cell B cX lX
  clear hc hb
  obtain ⟨a2, k2, hv2⟩ := own_shp own2
  subst hv2
  have J2 := own_ints own2
  clear own2
  have hc := likeInts_same a1 a2 (vLean S C r) k1 k2 w4 (by omega) J1 J2
  go_wp2_with fail
  refine hc.mono ?_
  rintro e w5 ⟨rfl, hb⟩
  replace J1 := J1.below hb
  replace J2 := J2.below hb
  replace B := B.trans (hb.mono B.size)
  have cc := kept_cell B cX lX
  clear hc hb
  clear J2
  have hc := impl_UncoveredWords ax S cx (by omega) (some ⟨g, 0, none⟩) C cg (by omega) r hr w5 (IX.below B) (ICX.below B)
  go_wp2_with fail
  refine hc.mono ?_
  rintro e w6 ⟨v3', rfl, own3, hb⟩
  replace J1 := J1.below hb
  replace B := B.trans (hb.mono B.size)
  have cc := kept_cell B cX lX
  clear hc hb
  obtain ⟨a3, k3, hv3⟩ := own_shp own3
  subst hv3
  have J3 := own_ints own3
  clear own3
  have hc := spec_UncoveredWords ax S cx (by omega) (some ⟨g, 0, none⟩) C cg (by omega) r hr w6 (IX.below B) (ICX.below B)
  go_wp2_with fail
  refine hc.mono ?_
  rintro e w7 ⟨v4', rfl, own4, hb⟩
  replace J1 := J1.below hb
  replace J3 := J3.below hb
  replace B := B.trans (hb.mono B.size)
  have cc := kept_cell B cX lX
  clear hc hb
  obtain ⟨a4, k4, hv4⟩ := own_shp own4
  subst hv4
  have J4 := own_ints own4
  clear own4
  have hc := likeInts_same a3 a4 (vUnc S C r) k3 k4 w7 (by omega) J3 J4
  go_wp2_with fail
  refine hc.mono ?_
  rintro e w8 ⟨rfl, hb⟩
  replace J1 := J1.below hb
  replace J3 := J3.below hb
  replace J4 := J4.below hb
  replace B := B.trans (hb.mono B.size)
  have cc := kept_cell B cX lX
  clear hc hb
  clear J4
  have hc := impl_NeededWords ax S cx (by omega) (some ⟨g, 0, none⟩) C cg (by omega) r hr w8 (IX.below B) (ICX.below B)
  go_wp2_with fail
  refine hc.mono ?_
  rintro e w9 ⟨v5', rfl, own5, hb⟩
  replace J1 := J1.below hb
  replace J3 := J3.below hb
  replace B := B.trans (hb.mono B.size)
  have cc := kept_cell B cX lX
  clear hc hb
  obtain ⟨a5, k5, hv5⟩ := own_shp own5
  subst hv5
  have J5 := own_ints own5
  clear own5
  have hc := spec_NeededWords ax S cx (by omega) (some ⟨g, 0, none⟩) C cg (by omega) r hr w9 (IX.below B) (ICX.below B)
  go_wp2_with fail
  refine hc.mono ?_
  rintro e w10 ⟨v6', rfl, own6, hb⟩
  replace J1 := J1.below hb
  replace J3 := J3.below hb
  replace J5 := J5.below hb
  replace B := B.trans (hb.mono B.size)
  have cc := kept_cell B cX lX
  clear hc hb
  obtain ⟨a6, k6, hv6⟩ := own_shp own6
  subst hv6
  have J6 := own_ints own6
  clear own6
  have hc := likeInts_same a5 a6 (vNeed S C r) k5 k6 w10 (by omega) J5 J6
  go_wp2_with fail
  refine hc.mono ?_
  rintro e w11 ⟨rfl, hb⟩
  replace J1 := J1.below hb
  replace J3 := J3.below hb
  replace J5 := J5.below hb
  replace J6 := J6.below hb
  replace B := B.trans (hb.mono B.size)
  have cc := kept_cell B cX lX
  clear hc hb
  clear J6
  have hc := impl_CoversSpace ax S cx (by omega) (some ⟨g, 0, none⟩) C cg (by omega) r hr w11 (IX.below B) (ICX.below B)
  go_wp2_with fail
  refine hc.mono ?_
  rintro e w12 ⟨rfl, hb⟩
  replace J1 := J1.below hb
  replace J3 := J3.below hb
  replace J5 := J5.below hb
  replace B := B.trans (hb.mono B.size)
  have cc := kept_cell B cX lX
  clear hc hb
  have hc := spec_CoversSpace ax S cx (by omega) (some ⟨g, 0, none⟩) C cg (by omega) r hr w12 (IX.below B) (ICX.below B)
  go_wp2_with fail
  refine hc.mono ?_
  rintro e w13 ⟨rfl, hb⟩
  replace J1 := J1.below hb
  replace J3 := J3.below hb
  replace J5 := J5.below hb
  replace B := B.trans (hb.mono B.size)
  have cc := kept_cell B cX lX
  clear hc hb
  replace BW : Below W.heap.size W w13 := B3.trans (B.mono B3.size)
  have hYd : Byts w13 w13.heap.size a n := (hY.keep fun b o v hb h => kept_cell BW h hb).mono BW.size
  have hc := drawRadius2_any a n cap hn w13 hYd
  go_wp2_with fail
  refine hc.mono ?_
  rintro e w14 ⟨ay, T, cy, g2, cg2, D, rfl, hI, _, hT8, own, hDl, hb⟩
  replace J1 := J1.below hb
  replace J3 := J3.below hb
  replace J5 := J5.below hb
  replace BW := BW.trans (hb.mono BW.size)
  have ID := own_ints own
  have B' : Below v3.heap.size v3 w14 := B.trans (hb.mono B.size)
  clear hYd hc hb own B cc
  obtain ⟨Vb, hVb⟩ : ∃ z, z = w14.heap.size := ⟨_, rfl⟩
  obtain ⟨v4, hv4⟩ : ∃ z, z = w14.alloc (.cells #[.slice ay T.length cy] 26) := ⟨_, rfl⟩
  have RVb : v4.heap[Vb]? = some (.cells #[.slice ay T.length cy] 26 (0, 0)) := by rw [hv4, hVb]; exact heap_alloc_new _ _
  have IVb : Ints v4 ay T := by rw [hv4]; exact hI.below ((Below.refl _ _).alloc (Nat.le_refl _) _)
  have IDVb : Ints v4 (some ⟨g2, 0, none⟩) D := by rw [hv4]; exact ID.below ((Below.refl _ _).alloc (Nat.le_refl _) _)
  have bVb : Below w14.heap.size w14 v4 := by rw [hv4]; exact (Below.refl _ _).alloc (Nat.le_refl _) _
  replace BW : Below W.heap.size W v4 := BW.trans (bVb.mono BW.size)
  have lVb : Vb < v4.heap.size := row_lt RVb
  have HVb := Lib.hid hVb
  have Hv4 := Lib.hid hv4
  have cVb := cell_of1' RVb
  have B6 : Below v3.heap.size v3 v4 := B'.trans (bVb.mono B'.size)
  replace J1 : Ints v4 a1 (vLean S C r) := by rw [hv4]; exact J1.below ((Below.refl _ _).alloc (Nat.le_refl _) _)
  replace J3 : Ints v4 a3 (vUnc S C r) := by rw [hv4]; exact J3.below ((Below.refl _ _).alloc (Nat.le_refl _) _)
  replace J5 : Ints v4 a5 (vNeed S C r) := by rw [hv4]; exact J5.below ((Below.refl _ _).alloc (Nat.le_refl _) _)
  clear hVb hv4 hI RVb bVb B' ID
  have B := Below.refl v4.heap.size v4
  have B4 := BW
  have cs := kept_cell B6 cX lX
  have ls := lt_of_below B6 lX
  have hc := impl_RadiusOf ay T cy (by omega) (some ⟨g2, 0, none⟩) D cg2 (by omega) v4 (IVb.below B) (IDVb.below B)
  go_wp2_with fail
  rw [← Hv4.out, ← HVb.out]
  refine hc.mono ?_
  rintro e w15 ⟨rfl, hb⟩
  replace B := B.trans (hb.mono B.size)
  have cc := kept_cell B cVb lVb
  clear hc hb
  have hc := spec_RadiusOf ay T cy (by omega) (some ⟨g2, 0, none⟩) D cg2 (by omega) w15 (IVb.below B) (IDVb.below B)
  go_wp2_with fail
  refine hc.mono ?_
  rintro e w16 ⟨rfl, hb⟩
  replace B := B.trans (hb.mono B.size)
  have cc := kept_cell B cVb lVb
  clear hc hb
  go_upto_if 162 with fail
  go_cut [28, 29, 30, 31] from 161 (fun _ _ _ _ wx => Below v4.heap.size v4 wx)
  case first => as_aux_lemma =>
    clear BW B4 B3 hY J1 J3 J5 cs ls B6 n1 n2 n3
    by_cases hE : eFull T D = 0
    · have hE0 : (eFull T D == 0) = true := by simpa using hE
      obtain ⟨g1, g2', g3, g4, g5⟩ := fr_all hE
      have G5 := Lib.hid g5
      clear hE g5
      have hc := impl_CoversSpace ay T cy (by omega) (some ⟨g2, 0, none⟩) D cg2 (by omega) (vRadius T D) (by omega) w16 (IVb.below B) (IDVb.below B)
      rw [g2', g1] at hc
      go_wp2_with fail
      refine hc.mono ?_
      rintro e w17 ⟨rfl, hb⟩
      replace B := B.trans (hb.mono B.size)
      have cc := kept_cell B cVb lVb
      clear hc hb
      clear g1 g2'
      by_cases hp : 0 < vRadius T D
      · have hw : IntKind.i64.wrap (vRadius T D - 1) = vRadius T D - 1 := IntWalk.i64_in _ ⟨by omega, by omega⟩
        obtain ⟨q1, q2⟩ := G5.out hp
        have hc := impl_CoversSpace ay T cy (by omega) (some ⟨g2, 0, none⟩) D cg2 (by omega) (vRadius T D - 1) (by omega) w17 (IVb.below B) (IDVb.below B)
        rw [q2, q1] at hc
        go_wp2_with fail
        refine hc.mono ?_
        rintro e w18 ⟨rfl, hb⟩
        replace B := B.trans (hb.mono B.size)
        have cc := kept_cell B cVb lVb
        clear hc hb
        clear q1 q2 cc
        go_wp2_with fail
        go_meet
        exact B
      · clear cc
        go_wp2_with fail
        go_meet
        exact B
    · have hE0 : (eFull T D == 0) = false := by simpa using hE
      clear hE cc
      go_wp2_with fail
      go_meet
      exact B
  case rest => as_aux_lemma =>
  clear BW B cc HX Hv3 HVb Hv4 hT8 hDl IVb IDVb lVb cVb
  have BV : Below v3.heap.size v3 wc := B6.trans (hcut.mono B6.size)
  have BF : Below W.heap.size W wc := B3.trans (BV.mono B3.size)
  replace J1 := J1.below hcut
  replace J3 := J3.below hcut
  replace J5 := J5.below hcut
  have cc := kept_cell hcut cs ls
  clear hcut cs ls B6 B4
  by_cases hE : eCov S C r = 0
  rotate_left
  · have hE0 : (eCov S C r != 0) = true := by simpa using hE
    have q1 : (((vLean S C r).length : Int) == 0) = true := by unfold vLean; rw [if_neg hE]; rfl
    clear hE
    go_wp2_with fail
    go_ret
    exact ⟨rfl, BF⟩
  have hE0 : (eCov S C r != 0) = false := by simpa using hE
  obtain ⟨f1, f2, f3, f4, f5⟩ := fl_all hE
  have F4 := Lib.hid f4
  have q1 : (vCovS S C r == (((vUnc S C r).length : Int) == 0)) = true := by rw [f5]; by_cases hz : (vUnc S C r).length = 0 <;> simp [hz]
  have HE := Lib.hid hE
  clear f4 f5
  have B := Below.refl wc.heap.size wc
  have lc : X < wc.heap.size := lt_of_below BV lX
  have hc := impl_UncoveredWords ax S cx (by omega) a1 (vLean S C r) k1 (by omega) r hr wc (IX.below (BV.trans (B.mono BV.size))) J1
  rw [f1] at hc
  rw [f2] at hc
  go_wp2_with fail
  refine hc.mono ?_
  rintro e w19 ⟨v7', rfl, own7, hb⟩
  replace J1 := J1.below hb
  replace J3 := J3.below hb
  replace J5 := J5.below hb
  replace B := B.trans (hb.mono B.size)
  have cc' := kept_cell B cc lc
  clear hc hb
  obtain ⟨a7, k7, hv7⟩ := own_shp own7
  subst hv7
  have J7 := own_ints own7
  clear own7
  have hc := impl_NeededWords ax S cx (by omega) a1 (vLean S C r) k1 (by omega) r hr w19 (IX.below (BV.trans (B.mono BV.size))) J1
  rw [f1] at hc
  rw [f3] at hc
  go_wp2_with fail
  refine hc.mono ?_
  rintro e w20 ⟨v8', rfl, own8, hb⟩
  replace J1 := J1.below hb
  replace J3 := J3.below hb
  replace J5 := J5.below hb
  replace J7 := J7.below hb
  replace B := B.trans (hb.mono B.size)
  have cc' := kept_cell B cc lc
  clear hc hb
  obtain ⟨a8, k8, hv8⟩ := own_shp own8
  subst hv8
  have J8 := own_ints own8
  clear own8
  clear f1 f2 f3 cc'
  have hc := likeInts_same a7 a3 (vUnc S C r) k7 k3 w20 (by omega) J7 J3
  go_wp2_with fail
  refine hc.mono ?_
  rintro e w21 ⟨rfl, hb⟩
  replace J1 := J1.below hb
  replace J3 := J3.below hb
  replace J5 := J5.below hb
  replace J7 := J7.below hb
  replace J8 := J8.below hb
  replace B := B.trans (hb.mono B.size)
  clear hc hb
  clear J7 J3
  have hc := likeInts_same a8 a1 (vLean S C r) k8 k1 w21 (by omega) J8 J1
  go_wp2_with fail
  refine hc.mono ?_
  rintro e w22 ⟨rfl, hb⟩
  replace J1 := J1.below hb
  replace J5 := J5.below hb
  replace J8 := J8.below hb
  replace B := B.trans (hb.mono B.size)
  clear hc hb
  clear J8
  replace BF : Below W.heap.size W w22 := BF.trans (B.mono BF.size)
  clear B BV cc
  go_wp2_with fail
  go_loopw [36] (fun i wr => ∃ k : Nat, k ≤ (vNeed S C r).length ∧ i = .int .i64 (k : Int) ∧ Below w22.heap.size w22 wr) (fun i _ => (vNeed S C r).length - (intOf i).toNat)
  case atStart => exact ⟨0, Nat.zero_le _, rfl, Below.refl _ _⟩
  case round =>
    obtain ⟨k, hk, rfl, BJ⟩ := hrel
    by_cases hlt : k < (vNeed S C r).length
    · have i2 : (k : Int) < ((vNeed S C r).length : Int) := by omega
      obtain ⟨b, o, rfl, hbk, hck⟩ := J5.at hlt
      have hckk := kept_cell BJ (hck k hlt) hbk
      have hmem := F4.out _ (gi_mem hlt)
      obtain ⟨yy, hyy⟩ : ∃ yy, yy = gi (vNeed S C r) k := ⟨_, rfl⟩
      rw [← hyy] at hckk hmem
      have hh := hasInt_any a1 (vLean S C r) k1 yy wr (by omega) (J1.below BJ)
      rw [show hasTo (vLean S C r) yy (vLean S C r).length = true from (hasTo_iff _ _ _).2 (mem_gi hmem)] at hh
      clear hck hmem hyy
      go_wp2_with fail
      refine hh.mono ?_
      rintro e w40 ⟨rfl, hb⟩
      clear hh
      go_wp2_with fail
      go_roundw
      case rel => exact ⟨k + 1, by omega, by go_num, BJ.trans (hb.mono BJ.size)⟩
      case measure => simp [intOf]; omega
    · have i2 : ¬ (k : Int) < ((vNeed S C r).length : Int) := by omega
      go_wp2_with fail
      go_ret
      exact ⟨rfl, BF.trans (BJ.mono BF.size)⟩

end Go.Proofs.Ytjjcpbhmpjedoaa
