/-
  The law FnPerfect holds at every list of bytes. By an AI agent.
-/
import Derived.Test.YtcnnijeokefboabPkDrwP3
import Derived.Test.YtcnnijeokefboabPk28
import Derived.Test.YtcnnijeokefboabPk39
import Derived.Test.YtcnnijeokefboabPkDecS
import Derived.Test.YtcnnijeokefboabPkPerI
import Derived.Test.YtcnnijeokefboabPkPerS
import Derived.Test.YtcnnijeokefboabPkHamI
import Derived.Test.YtcnnijeokefboabPk47
import Derived.Test.YtcnnijeokefboabPk50
import Derived.Test.YtcnnijeokefboabPk11
import Derived.Test.YtcnnijeokefboabPk18
import Derived.Deep.Cut
namespace Go.Proofs.Ytcnnijeokefboab
open Go.RowKit Cv
set_option linter.unusedVariables false
set_option linter.unusedSimpArgs false
set_option maxRecDepth 100000

set_option maxHeartbeats 8000000 in
theorem law_FnPerfect (a : Option Addr) (n cap : Nat) (W : World) (hY : Byts W W.heap.size a n) :
    Calls Try.prog 3 #[.slice a n cap] W fun e w' => e = .returned (.bool true) ∧ Below W.heap.size W w' := by
  have hbig := big_any a n cap W
  by_cases hn4 : 4096 < n
  · rw [decide_eq_true hn4] at hbig
    clear hY hn4
    go_enter Try.func3, Try.ntmps3
    go_wp2_with fail
    refine hbig.mono ?_
    rintro e w1 ⟨rfl, hb⟩
    clear hbig
    go_wp2_with fail
    go_ret
    exact ⟨rfl, hb⟩
  rw [decide_eq_false hn4] at hbig
  have hn : n ≤ 4096 := by omega
  clear hn4
  go_enter Try.func3, Try.ntmps3
  go_wp2_with fail
  refine hbig.mono ?_
  rintro e w1 ⟨rfl, BW⟩
  clear hbig
  have hYd : Byts w1 w1.heap.size a n := (hY.keep fun b o v hb h => kept_cell BW h hb).mono BW.size
  have hc := drawDecode_any a n cap hn w1 hYd
  go_wp2_with fail
  refine hc.mono ?_
  rintro e w2 ⟨ax, S, cx, g, cg, C, r, y, rfl, hI, _, hS8, own, hCl, hr, hy, hb⟩
  replace BW := BW.trans (hb.mono BW.size)
  have IC := own_ints own
  clear hYd hc hb own
  obtain ⟨X, hX⟩ : ∃ z, z = w2.heap.size := ⟨_, rfl⟩
  obtain ⟨v3, hv3⟩ : ∃ z, z = w2.alloc (.cells #[.slice ax S.length cx] 26) := ⟨_, rfl⟩
  have RX : v3.heap[X]? = some (.cells #[.slice ax S.length cx] 26 (0, 0)) := by rw [hv3, hX]; exact heap_alloc_new _ _
  have IX : Ints v3 ax S := by rw [hv3]; exact hI.below ((Below.refl _ _).alloc (Nat.le_refl _) _)
  have ICX : Ints v3 (some ⟨g, 0, none⟩) C := by rw [hv3]; exact IC.below ((Below.refl _ _).alloc (Nat.le_refl _) _)
  have bX : Below w2.heap.size w2 v3 := by rw [hv3]; exact (Below.refl _ _).alloc (Nat.le_refl _) _
  replace BW : Below W.heap.size W v3 := BW.trans (bX.mono BW.size)
  have lX : X < v3.heap.size := row_lt RX
  have HX := Lib.hid hX
  have Hv3 := Lib.hid hv3
  have cX := cell_of1' RX
  clear hX hv3 hI RX bX IC
  have B := Below.refl v3.heap.size v3
  have B3 := BW
  have hc := impl_DecodeWord ax S cx (by omega) (some ⟨g, 0, none⟩) C cg (by omega) r hr y hy v3 (IX.below B) (ICX.below B)
  go_wp2_with fail
  rw [← Hv3.out, ← HX.out]
  refine hc.mono ?_
  rintro e w3 ⟨rfl, hb⟩
  replace B := B.trans (hb.mono B.size)
  have cc := kept_cell B cX lX
  clear hc hb
  have hc := spec_DecodeWord ax S cx (by omega) (some ⟨g, 0, none⟩) C cg (by omega) r hr y hy w3 (IX.below B) (ICX.below B)
  go_wp2_with fail
  refine hc.mono ?_
  rintro e w4 ⟨rfl, hb⟩
  replace B := B.trans (hb.mono B.size)
  have cc := kept_cell B cX lX
  clear hc hb
  replace BW : Below W.heap.size W w4 := B3.trans (B.mono B3.size)
  have hYd : Byts w4 w4.heap.size a n := (hY.keep fun b o v hb h => kept_cell BW h hb).mono BW.size
  have hc := drawPerf_any a n cap hn w4 hYd
  go_wp2_with fail
  refine hc.mono ?_
  rintro e w5 ⟨ay, T, cy, g2, cg2, D, z2, rfl, hI, _, hT8, own, hDl, hz2, hb⟩
  replace BW := BW.trans (hb.mono BW.size)
  have ID := own_ints own
  have B' : Below v3.heap.size v3 w5 := B.trans (hb.mono B.size)
  clear hYd hc hb own B cc
  obtain ⟨Vb, hVb⟩ : ∃ z, z = w5.heap.size := ⟨_, rfl⟩
  obtain ⟨v4, hv4⟩ : ∃ z, z = w5.alloc (.cells #[.slice ay T.length cy] 26) := ⟨_, rfl⟩
  have RVb : v4.heap[Vb]? = some (.cells #[.slice ay T.length cy] 26 (0, 0)) := by rw [hv4, hVb]; exact heap_alloc_new _ _
  have IVb : Ints v4 ay T := by rw [hv4]; exact hI.below ((Below.refl _ _).alloc (Nat.le_refl _) _)
  have IDVb : Ints v4 (some ⟨g2, 0, none⟩) D := by rw [hv4]; exact ID.below ((Below.refl _ _).alloc (Nat.le_refl _) _)
  have bVb : Below w5.heap.size w5 v4 := by rw [hv4]; exact (Below.refl _ _).alloc (Nat.le_refl _) _
  replace BW : Below W.heap.size W v4 := BW.trans (bVb.mono BW.size)
  have lVb : Vb < v4.heap.size := row_lt RVb
  have HVb := Lib.hid hVb
  have Hv4 := Lib.hid hv4
  have cVb := cell_of1' RVb
  have B6 : Below v3.heap.size v3 v4 := B'.trans (bVb.mono B'.size)
  clear hVb hv4 hI RVb bVb B' ID
  have B := Below.refl v4.heap.size v4
  have B4 := BW
  have hc := impl_IsPerfect ay T cy (by omega) (some ⟨g2, 0, none⟩) D cg2 (by omega) z2 hz2 v4 (IVb.below B) (IDVb.below B)
  go_wp2_with fail
  rw [← Hv4.out, ← HVb.out]
  refine hc.mono ?_
  rintro e w6 ⟨rfl, hb⟩
  replace B := B.trans (hb.mono B.size)
  have cc := kept_cell B cVb lVb
  clear hc hb
  have hc := spec_IsPerfect ay T cy (by omega) (some ⟨g2, 0, none⟩) D cg2 (by omega) z2 hz2 w6 (IVb.below B) (IDVb.below B)
  go_wp2_with fail
  refine hc.mono ?_
  rintro e w7 ⟨rfl, hb⟩
  replace B := B.trans (hb.mono B.size)
  have cc := kept_cell B cVb lVb
  clear hc hb
  have hc := impl_PerfectRadius ay T cy (by omega) (some ⟨g2, 0, none⟩) D cg2 (by omega) w7 (IVb.below B) (IDVb.below B)
  go_wp2_with fail
  refine hc.mono ?_
  rintro e w8 ⟨rfl, hb⟩
  replace B := B.trans (hb.mono B.size)
  have cc := kept_cell B cVb lVb
  clear hc hb
  have hc := spec_PerfectRadius ay T cy (by omega) (some ⟨g2, 0, none⟩) D cg2 (by omega) w8 (IVb.below B) (IDVb.below B)
  go_wp2_with fail
  refine hc.mono ?_
  rintro e w9 ⟨rfl, hb⟩
  replace B := B.trans (hb.mono B.size)
  have cc := kept_cell B cVb lVb
  clear hc hb
  replace BW : Below W.heap.size W w9 := B4.trans (B.mono B4.size)
  have hYd : Byts w9 w9.heap.size a n := (hY.keep fun b o v hb h => kept_cell BW h hb).mono BW.size
  have hc := drawHam_any a n cap hn w9 hYd
  go_wp2_with fail
  refine hc.mono ?_
  rintro e w10 ⟨qq, mm, rfl, hq, hm, hb⟩
  replace B := B.trans (hb.mono B.size)
  clear hYd hc hb hY BW cc
  have n1 := vHamS_len qq mm
  have n2 := vHamC_len qq mm
  have hc := impl_HammingCode qq hq mm hm w10
  go_wp2_with fail
  refine hc.mono ?_
  rintro e w11 ⟨M, vs, v, rfl, hM0, hRow, oS, oC, hM1, hb⟩
  obtain ⟨aH1, cH1, hvs⟩ := own_shp oS
  obtain ⟨aG1, cG1, hvc⟩ := own_shp oC
  subst hvs hvc
  have JS1 := own_ints oS
  have JC1 := own_ints oC
  replace B := B.trans (hb.mono B.size)
  clear hc hb oS oC
  obtain ⟨X2, hX2⟩ : ∃ z, z = w11.heap.size := ⟨_, rfl⟩
  obtain ⟨v5, hv5⟩ : ∃ z, z = w11.alloc (.cells #[.slice aH1 (vHamS qq mm).length cH1] 26) := ⟨_, rfl⟩
  have RX2 : v5.heap[X2]? = some (.cells #[.slice aH1 (vHamS qq mm).length cH1] 26 (0, 0)) := by rw [hv5, hX2]; exact heap_alloc_new _ _
  have hb : Below w11.heap.size w11 v5 := by rw [hv5]; exact (Below.refl _ _).alloc (Nat.le_refl _) _
  replace JS1 := JS1.below hb
  replace JC1 := JC1.below hb
  replace B := B.trans (hb.mono B.size)
  have lX2 : X2 < v5.heap.size := row_lt RX2
  have HX2 := Lib.hid hX2
  have Hv5 := Lib.hid hv5
  have cX2 := cell_of1' RX2
  clear hb hX2 hv5 RX2
  clear hM0 hRow hM1
  have B5 := B
  have B := Below.refl v5.heap.size v5
  have hc := spec_HammingCode qq hq mm hm v5
  go_wp2_with fail
  rw [← Hv5.out, ← HX2.out]
  refine hc.mono ?_
  rintro e w12 ⟨vs, v, rfl, oS, oC, hb⟩
  obtain ⟨aH2, cH2, hvs⟩ := own_shp oS
  obtain ⟨aG2, cG2, hvc⟩ := own_shp oC
  subst hvs hvc
  have JS2 := own_ints oS
  have JC2 := own_ints oC
  replace JS1 := JS1.below hb
  replace JC1 := JC1.below hb
  replace B := B.trans (hb.mono B.size)
  clear hc hb oS oC
  have c2w := kept_cell B cX2 lX2
  have l2w := lt_of_below B lX2
  obtain ⟨X3, hX3⟩ : ∃ z, z = w12.heap.size := ⟨_, rfl⟩
  obtain ⟨v6, hv6⟩ : ∃ z, z = w12.alloc (.cells #[.slice aH2 (vHamS qq mm).length cH2] 26) := ⟨_, rfl⟩
  have RX3 : v6.heap[X3]? = some (.cells #[.slice aH2 (vHamS qq mm).length cH2] 26 (0, 0)) := by rw [hv6, hX3]; exact heap_alloc_new _ _
  have hb : Below w12.heap.size w12 v6 := by rw [hv6]; exact (Below.refl _ _).alloc (Nat.le_refl _) _
  replace JS1 := JS1.below hb
  replace JC1 := JC1.below hb
  replace JS2 := JS2.below hb
  replace JC2 := JC2.below hb
  replace B := B.trans (hb.mono B.size)
  have lX3 : X3 < v6.heap.size := row_lt RX3
  have HX3 := Lib.hid hX3
  have Hv6 := Lib.hid hv6
  have cX3 := cell_of1' RX3
  clear hb hX3 hv6 RX3
  have c2 := kept_cell B cX2 lX2
  have l2 := lt_of_below B lX2
  have B36 := (B6.trans (B5.mono B6.size)).trans (B.mono (B6.trans (B5.mono B6.size)).size)
  have B46 := B5.trans (B.mono B5.size)
  have cs1 := kept_cell B36 cX lX
  have cs2 := kept_cell B46 cVb lVb
  have ls1 := lt_of_below B36 lX
  have ls2 := lt_of_below B46 lVb
  clear B B5 cX2 lX2
  have B := Below.refl v6.heap.size v6
  have hc := likeInts_same aH1 aH2 (vHamS qq mm) cH1 cH2 v6 (by omega) JS1 JS2
  go_wp2_with fail
  rw [← Hv6.out, ← HX3.out]
  refine hc.mono ?_
  rintro e w13 ⟨rfl, hb⟩
  replace JS1 := JS1.below hb
  replace JC1 := JC1.below hb
  replace JS2 := JS2.below hb
  replace JC2 := JC2.below hb
  replace B := B.trans (hb.mono B.size)
  have cc := kept_cell B c2 l2
  clear hc hb
  have hc := likeInts_same aG1 aG2 (vHamC qq mm) cG1 cG2 w13 (by omega) JC1 JC2
  go_wp2_with fail
  refine hc.mono ?_
  rintro e w14 ⟨rfl, hb⟩
  replace JS1 := JS1.below hb
  replace JC1 := JC1.below hb
  replace JS2 := JS2.below hb
  replace JC2 := JC2.below hb
  replace B := B.trans (hb.mono B.size)
  have cc := kept_cell B c2 l2
  clear hc hb
  clear JS2 JC2 cX3 c2w l2w
  have hc := impl_ColumnsFor qq hq mm hm w14
  go_wp2_with fail
  refine hc.mono ?_
  rintro e w15 ⟨vR, rfl, oR1, hb⟩
  replace JS1 := JS1.below hb
  replace JC1 := JC1.below hb
  replace B := B.trans (hb.mono B.size)
  have cc := kept_cell B c2 l2
  clear hc hb
  obtain ⟨aR1, cR1, hvR⟩ := oR1.shape
  subst hvR
  have hc := spec_ColumnsFor qq hq mm hm w15
  go_wp2_with fail
  refine hc.mono ?_
  rintro e w16 ⟨vR, rfl, oR2, hb⟩
  replace JS1 := JS1.below hb
  replace JC1 := JC1.below hb
  replace oR1 := oR1.below hb
  replace B := B.trans (hb.mono B.size)
  have cc := kept_cell B c2 l2
  clear hc hb
  obtain ⟨aR2, cR2, hvR⟩ := oR2.shape
  subst hvR
  have hc := rows9_same aR1 aR2 cR1 cR2 _ _ _ _ (vCol 1 qq mm) w16 (vCol_len qq mm) oR1.rd oR2
  go_wp2_with fail
  refine hc.mono ?_
  rintro e w17 ⟨rfl, hb⟩
  replace JS1 := JS1.below hb
  replace JC1 := JC1.below hb
  replace oR1 := oR1.below hb
  replace oR2 := oR2.below hb
  replace B := B.trans (hb.mono B.size)
  have cc := kept_cell B c2 l2
  clear hc hb
  clear oR1 oR2
  go_upto_if 179 with fail
  go_cut [34, 35] from 178 (fun _ _ wx => Below v6.heap.size v6 wx)
  case first => as_aux_lemma =>
    clear B3 B36 B46 cs1 cs2 B6 B4 ls1 ls2
    by_cases hE : eCol 2 qq mm = 0
    · have hE0 : (eCol 2 qq mm == 0) = true := by simpa using hE
      obtain ⟨p1, p2, p3, p4⟩ := pf_ham hE
      have f5 : (eCol 1 qq mm != 0) = false := by simpa using p3
      have f6 : (((vCol 1 qq mm).length : Int) != ((vHamS qq mm).length : Int)) = false := by rw [p4]; simp
      have P4 := Lib.hid p4
      clear hE p3 p4
      have hc := impl_IsPerfect aH1 (vHamS qq mm) cH1 (by omega) aG1 (vHamC qq mm) cG1 (by omega) 1 (by omega) w17 JS1 JC1
      rw [p2, p1] at hc
      go_wp2_with fail
      refine hc.mono ?_
      rintro e w18 ⟨rfl, hb⟩
      replace JS1 := JS1.below hb
      replace JC1 := JC1.below hb
      replace B := B.trans (hb.mono B.size)
      have cc := kept_cell B c2 l2
      clear hc hb
      clear p1 p2
      go_wp2_with fail
      go_meet
      exact B
    · have hE0 : (eCol 2 qq mm == 0) = false := by simpa using hE
      clear hE cc
      go_wp2_with fail
      go_meet
      exact B
  case rest => as_aux_lemma =>
  clear B cc JS1 JC1 c2 l2 HX Hv3 HVb Hv4 HX2 Hv5 HX3 Hv6 n1 n2
  have c1 := kept_cell hcut cs1 ls1
  have cV := kept_cell hcut cs2 ls2
  have BX : Below v3.heap.size v3 wc := B36.trans (hcut.mono B36.size)
  have BY : Below v4.heap.size v4 wc := B46.trans (hcut.mono B46.size)
  have BF : Below W.heap.size W wc := B3.trans (BX.mono B3.size)
  have lc1 : X < wc.heap.size := lt_of_below BX lX
  have lcV : Vb < wc.heap.size := lt_of_below BY lVb
  clear hcut cs1 cs2 ls1 ls2 B36 B46 B6 B4 B3
  have key : ((eCov T D z2 == 0) = true ∧ vPer T D z2 = true) ∨ ((eCov T D z2 == 0) = true ∧ vPer T D z2 = false) ∨ (eCov T D z2 == 0) = false := by
    by_cases h1 : eCov T D z2 = 0
    · cases h2 : vPer T D z2 with
      | true => exact .inl ⟨by simpa using h1, rfl⟩
      | false => exact .inr (.inl ⟨by simpa using h1, rfl⟩)
    · exact .inr (.inr (by simpa using h1))
  have B := Below.refl wc.heap.size wc
  rcases key with ⟨k1, k2⟩ | ⟨k1, k2⟩ | k1
  case inl => as_aux_lemma =>
    have k0 : eCov T D z2 = 0 := by simpa using k1
    obtain ⟨e1, e2, e3, e4⟩ := pf_per k0 k2
    have f3 : (ePr T D != 0) = false := by simpa using e3
    have f4 : ¬ z2 < vPr T D := by omega
    clear k0 e3 e4
    have hc := impl_ExcessOf ay T cy (by omega) (some ⟨g2, 0, none⟩) D cg2 (by omega) z2 hz2 wc (IVb.below (BY.trans (B.mono BY.size))) (IDVb.below (BY.trans (B.mono BY.size)))
    rw [e2, e1] at hc
    go_wp2_with fail
    refine hc.mono ?_
    rintro e w19 ⟨rfl, hb⟩
    replace B := B.trans (hb.mono B.size)
    have c1' := kept_cell B c1 lc1
    have cV' := kept_cell B cV lcV
    clear hc hb
    clear e1 e2 cV'
    by_cases hE : eDec S C r y = 0
    · have hE0 : (eDec S C r y != 0) = false := by simpa using hE
      obtain ⟨d1, d2, d3, d4⟩ := pf_dec hE
      have D1 := Lib.hid d1
      have D3 := Lib.hid d3
      clear hE d1 d3
      have hc := impl_DistanceOf ax S cx (by omega) (vDec S C r y) d4 y hy w19 (IX.below (BX.trans (B.mono BX.size)))
      rw [d2] at hc
      go_wp2_with fail
      refine hc.mono ?_
      rintro e w20 ⟨rfl, hb⟩
      replace B := B.trans (hb.mono B.size)
      have c1' := kept_cell B c1 lc1
      clear hc hb
      have hh := hasInt_any (some ⟨g, 0, none⟩) C cg (vDec S C r y) w20 (by omega) (ICX.below (BX.trans (B.mono BX.size)))
      rw [show hasTo C (vDec S C r y) C.length = true from (hasTo_iff _ _ _).2 (mem_gi D1.out)] at hh
      have d3' := D3.out
      go_wp2_with fail
      refine hh.mono ?_
      rintro e w90 ⟨rfl, hb⟩
      clear hh
      go_wp2_with fail
      go_ret
      exact ⟨by first | rfl | simp, (BF.trans (B.mono BF.size)).trans (hb.mono (BF.trans (B.mono BF.size)).size)⟩
    · have hE0 : (eDec S C r y != 0) = true := by simpa using hE
      have q1 : (vDec S C r y == 0) = true := by rw [pf_dec0 hE]; rfl
      clear hE
      go_wp2_with fail
      go_ret
      exact ⟨by first | rfl | simp, BF.trans (B.mono BF.size)⟩
  case inr.inl => as_aux_lemma =>
    by_cases hE : eDec S C r y = 0
    · have hE0 : (eDec S C r y != 0) = false := by simpa using hE
      obtain ⟨d1, d2, d3, d4⟩ := pf_dec hE
      have D1 := Lib.hid d1
      have D3 := Lib.hid d3
      clear hE d1 d3
      have hc := impl_DistanceOf ax S cx (by omega) (vDec S C r y) d4 y hy wc (IX.below (BX.trans (B.mono BX.size)))
      rw [d2] at hc
      go_wp2_with fail
      refine hc.mono ?_
      rintro e w21 ⟨rfl, hb⟩
      replace B := B.trans (hb.mono B.size)
      have c1' := kept_cell B c1 lc1
      clear hc hb
      have hh := hasInt_any (some ⟨g, 0, none⟩) C cg (vDec S C r y) w21 (by omega) (ICX.below (BX.trans (B.mono BX.size)))
      rw [show hasTo C (vDec S C r y) C.length = true from (hasTo_iff _ _ _).2 (mem_gi D1.out)] at hh
      have d3' := D3.out
      go_wp2_with fail
      refine hh.mono ?_
      rintro e w90 ⟨rfl, hb⟩
      clear hh
      go_wp2_with fail
      go_ret
      exact ⟨by first | rfl | simp, (BF.trans (B.mono BF.size)).trans (hb.mono (BF.trans (B.mono BF.size)).size)⟩
    · have hE0 : (eDec S C r y != 0) = true := by simpa using hE
      have q1 : (vDec S C r y == 0) = true := by rw [pf_dec0 hE]; rfl
      clear hE
      go_wp2_with fail
      go_ret
      exact ⟨by first | rfl | simp, BF.trans (B.mono BF.size)⟩
  case inr.inr => as_aux_lemma =>
    by_cases hE : eDec S C r y = 0
    · have hE0 : (eDec S C r y != 0) = false := by simpa using hE
      obtain ⟨d1, d2, d3, d4⟩ := pf_dec hE
      have D1 := Lib.hid d1
      have D3 := Lib.hid d3
      clear hE d1 d3
      have hc := impl_DistanceOf ax S cx (by omega) (vDec S C r y) d4 y hy wc (IX.below (BX.trans (B.mono BX.size)))
      rw [d2] at hc
      go_wp2_with fail
      refine hc.mono ?_
      rintro e w22 ⟨rfl, hb⟩
      replace B := B.trans (hb.mono B.size)
      have c1' := kept_cell B c1 lc1
      clear hc hb
      have hh := hasInt_any (some ⟨g, 0, none⟩) C cg (vDec S C r y) w22 (by omega) (ICX.below (BX.trans (B.mono BX.size)))
      rw [show hasTo C (vDec S C r y) C.length = true from (hasTo_iff _ _ _).2 (mem_gi D1.out)] at hh
      have d3' := D3.out
      go_wp2_with fail
      refine hh.mono ?_
      rintro e w90 ⟨rfl, hb⟩
      clear hh
      go_wp2_with fail
      go_ret
      exact ⟨by first | rfl | simp, (BF.trans (B.mono BF.size)).trans (hb.mono (BF.trans (B.mono BF.size)).size)⟩
    · have hE0 : (eDec S C r y != 0) = true := by simpa using hE
      have q1 : (vDec S C r y == 0) = true := by rw [pf_dec0 hE]; rfl
      clear hE
      go_wp2_with fail
      go_ret
      exact ⟨by first | rfl | simp, BF.trans (B.mono BF.size)⟩

end Go.Proofs.Ytcnnijeokefboab
