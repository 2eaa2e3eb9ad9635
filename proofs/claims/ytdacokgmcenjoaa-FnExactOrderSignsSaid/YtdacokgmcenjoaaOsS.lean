/-
  The contract of the model of OrderSigns. By an AI agent.
-/
import Derived.Test.YtdacokgmcenjoaaOrdS
import Derived.Test.YtdacokgmcenjoaaPlc
import Derived.Test.YtdacokgmcenjoaaPut
import Derived.Test.YtdacokgmcenjoaaDigits
import Derived.Test.YtdacokgmcenjoaaAppendAt
import Derived.Deep.RegionHeld3
namespace Go.Proofs.Ytdacokgmcenjoaa
open Go.RowKit Go.Shelf Cv
set_option linter.unusedVariables false
set_option linter.unusedSimpArgs false
set_option maxRecDepth 100000

set_option maxHeartbeats 4000000 in
theorem spec_OrderSigns (ao : Option Addr) (S : List Int) (cap : Nat) (hn : S.length ≤ 4294967296) (ac : Option Addr) (C : List Int) (capc : Nat) (hnc : C.length ≤ 4294967296) (i : Int) (hib : -9223372036854775808 ≤ i ∧ i ≤ 9223372036854775807) (ap : Option Addr) (p : List Int) (capp : Nat) (hnp : p.length ≤ 4294967296) (w : World) (hS : Ints w ao S) (hC : Ints w ac C) (hp : Ints w ap p) :
    Calls Try.prog 20 #[.agg #[.slice ao S.length cap], .slice ac C.length capc, .int .i64 i, .slice ap p.length capp] w fun e w' => ∃ v, e = .returned (.tuple #[v, .int .i64 (eSgn S C i p)]) ∧ OwnInts w' w.heap.size v (vSgn S C i p) ∧ Below w.heap.size w w' := by
  have B0 : Below w.heap.size w (w.alloc (.cells #[.slice ao S.length cap] 28)) := by go_grown
  have c0 := cell_new w (.slice ao S.length cap) 28
  have l0 := lt_alloc w (.cells #[.slice ao S.length cap] 28)
  have hpe := l03Place_any ao S cap hn ac C capc hnc i _ (hS.below B0) (hC.below B0)
  by_cases hz : ePlc S C i = 0
  · obtain ⟨hE, i1, i2⟩ := ePlc_zero hz
    obtain ⟨hSp, hc1, hc2⟩ := eCode_zero hE
    obtain ⟨k, rfl⟩ : ∃ k : Nat, i = (k : Int) := ⟨i.toNat, by omega⟩
    have hkS : k < S.length := by omega
    have hb := hSp.bd k hkS
    have hS1 := hSp.lo
    have hS8 := hSp.hi
    have hlenC := code_len hSp hc1 hc2
    have NW := nW_bd hSp
    have HSp := Lib.hid hSp
    have HC9 : Hid (∀ i, i < C.length → 0 ≤ gi C i ∧ gi C i ≤ 9223372036854775807) := Lib.hid fun i hi => by have := hc1 i hi; omega
    rw [hz] at hpe
    have HPE := Lib.hid hpe
    obtain ⟨bS, oS, rfl, hbS, hcS⟩ := hS.at hkS
    have hck0 := hcS k hkS
    have kI : (k : Int) < (S.length : Int) := by omega
    have kI0 : (0 : Int) ≤ (k : Int) := by omega
    obtain ⟨q, hq⟩ : ∃ q : Nat, gi S k = (q : Int) := ⟨(gi S k).toNat, by omega⟩
    have hq1 : 1 ≤ q := by omega
    have hq8 : q ≤ 8 := by omega
    rw [hq] at hck0
    cases ho : isOrd p (gi S k) with
    | true =>
      have HO : Hid (isOrd p (q : Int) = true) := Lib.hid (by rw [← hq]; exact ho)
      have HOS := Lib.hid ho
      obtain ⟨o1, o2, _, _⟩ := ord_at ho
      have hpq : p.length = q := by omega
      obtain ⟨bp, op, rfl, hbp, hcp⟩ := hp.at (show 0 < p.length by omega)
      have HCP := Lib.hid hcp
      have HDB : Hid (∀ x, 0 ≤ dig S x k ∧ dig S x k < (p.length : Int)) := Lib.hid fun x => by have := dig_bd S x hSp.bd k hkS; omega
      have HDG : Hid (∀ x, Dg S (sgnD k p (digs S x))) := Lib.hid fun x => ⟨by rw [sgnD_len, digs_length], fun j hj => sgnD_dg hkS ho (digs_length _ _) (fun t ht => by rw [gi_digs _ _ _ ht]; exact dig_bd S x hSp.bd t ht) j hj⟩
      have HE : Hid (eSgn S C k p = 0) := Lib.hid (by unfold eSgn; rw [if_pos hz, if_pos (by simpa using ho)])
      have HV : Hid (vSgn S C k p = putTo [] (fun j => sgnW S k p (gi C j)) C.length) := Lib.hid (by unfold vSgn; rw [if_pos HE.out]; rfl)
      obtain ⟨fW, hfW⟩ : ∃ fW : Nat → Int, fW = fun j => sgnW S k p (gi C j) := ⟨_, rfl⟩
      rw [← hfW] at HV
      have HFW := Lib.hid (fun i => congrFun hfW i)
      have HPT := Lib.hid (fun k => putTo_len [] fW k)
      clear hz hE hSp hc1 hc2 ho hpe hcS hq o1 o2 hcp hfW hb hpq
      go_enter Try.func20, Try.ntmps20
      go_wp2_with fail
      refine HPE.out.mono ?_
      rintro e w1 ⟨rfl, hb1⟩
      have c1 := kept_cell hb1 c0 l0
      have B1 := B0.trans (hb1.mono B0.size)
      have s1 : w.heap.size < w1.heap.size := lt_of_below hb1 l0
      have hck1 := kept_cell B1 hck0 hbS
      clear hb1 c0 l0 B0
      go_wp2_with fail
      have h2 := l03Order_any (some ⟨bp, op, none⟩) p capp hnp q hq1 hq8 w1 (hp.below B1)
      rw [HO.out] at h2
      refine h2.mono ?_
      rintro e w2 ⟨rfl, hb2⟩
      have c2 := kept_cell hb2 c1 s1
      have B2 := B1.trans (hb2.mono B1.size)
      have s2 : w.heap.size < w2.heap.size := by have := hb2.size; omega
      have oo := own_empty w2 w2.heap.size (Nat.le_refl _) rfl
      have b3 : Below w2.heap.size w2 (w2.alloc (.cells #[] 2)) := (Below.refl _ _).alloc (Nat.le_refl _) _
      clear h2 hb2 c1 B1 hck1
      go_wp2_with fail
      go_loopw [11, 36] (fun v' i wr => ∃ j g c : Nat, j ≤ C.length ∧ i = .int .i64 j ∧ v' = .slice (some ⟨g, 0, none⟩) (putTo [] fW j).length c ∧ OwnInts wr w2.heap.size (.slice (some ⟨g, 0, none⟩) (putTo [] fW j).length c) (putTo [] fW j) ∧ Below w2.heap.size w2 wr) (fun _ i _ => C.length - (intOf i).toNat)
      case atStart => exact ⟨0, w2.heap.size, 0, Nat.zero_le _, rfl, rfl, oo, b3⟩
      case round =>
        clear oo b3
        obtain ⟨j, g, c, hj, rfl, rfl, oL, Bw⟩ := hrel
        have Br := B2.trans (Bw.mono B2.size)
        have cSr := kept_cell Bw c2 s2
        have sr := Bw.size
        have ls : w.heap.size < wr.heap.size := by omega
        have hLl := HPT.out j
        have hPS : Hid (putTo [] fW (j + 1) = putL (putTo [] fW j) (fW j)) := Lib.hid rfl
        obtain ⟨L, hL⟩ : ∃ L, L = putTo [] fW j := ⟨_, rfl⟩
        rw [← hL] at oL hLl hPS ⊢
        have HL := Lib.hid hL
        obtain ⟨Pn, hPn⟩ : ∃ Pn, Pn = L.length := ⟨_, rfl⟩
        rw [← hPn] at oL hLl ⊢
        have HPn := Lib.hid hPn
        simp only [List.length_nil, Nat.zero_add] at hLl
        clear hL hPn
        by_cases hlt : j < C.length
        · obtain ⟨bc, oc, rfl, hbc, hcc⟩ := hC.at hlt
          have hck := kept_cell Br (hcc j hlt) hbc
          have lb := lt_of_below Br hbc
          obtain ⟨x1, x2⟩ := HC9.out j hlt
          have HWk : Hid (fW j = wordTo S (sgnD k p (digs S (gi C j))) S.length) := Lib.hid (HFW.out j)
          obtain ⟨x, hx⟩ : ∃ x, x = gi C j := ⟨_, rfl⟩
          rw [← hx] at hck x1 x2 HWk
          have jI : (j : Int) < (C.length : Int) := by omega
          have j0 : (0 : Int) ≤ (j : Int) := by omega
          obtain ⟨d1, d2⟩ := HDB.out x
          obtain ⟨D, hD⟩ : ∃ D : Nat, dig S x k = (D : Int) := ⟨(dig S x k).toNat, by omega⟩
          have hDp : D < p.length := by omega
          have D0 : (0 : Int) ≤ (D : Int) := by omega
          have D1 : (D : Int) < (p.length : Int) := by omega
          clear hcc hx
          go_wp2_with fail
          go_region_held3 (fun w' => w'.cell? ⟨w.heap.size, 0, none⟩ = some (.slice (some ⟨bS, oS, none⟩) S.length cap) ∧ w'.cell? ⟨bc, oc + j, none⟩ = some (.int .i64 x)) (first | exact ⟨cSr, hck⟩ | exact ⟨k1, k2⟩) (first | (go_at_call 48; refine (l01Digits_any (some ⟨bS, oS, none⟩) S cap hS8 HSp.out.bd x x1 x2 _ (hS.below Br.drew)).mono ?_; rintro e w4 ⟨g4, rfl, own4, hb4'⟩; have hb4 : Below wr.heap.size wr w4 := (Below.refl _ wr).drew.trans hb4'; have k1 := kept_cell hb4 cSr ls; have k2 := kept_cell hb4 hck lb))
          have oL4 := oL.below hb4
          have B24 := Bw.trans (hb4.mono sr)
          have B4 := Br.trans (hb4.mono Br.size)
          have q4 : wr.heap.size ≤ g4 ∧ g4 < w4.heap.size := own4.base_le
          have hd4 := own4.cell (k := k) (by rw [digs_length]; exact hkS)
          rw [gi_digs _ _ _ hkS, hD] at hd4
          have hf4 := own4.free k
          have hp4 := kept_cell B4 (HCP.out D hDp) hbp
          obtain ⟨y, hy⟩ : ∃ y, y = gi p D := ⟨_, rfl⟩
          rw [← hy] at hp4
          have HSG : Hid (sgnD k p (digs S x) = (digs S x).set k y) := Lib.hid (by unfold sgnD; rw [gi_digs _ _ _ hkS, hD, hy]; rfl)
          have lg : w.heap.size ≠ g4 := by omega
          have lg2 := oL.base_le
          have oW := own4.stored k y
          rw [← HSG.out] at oW
          have oL5 := oL4.kept (grown_setCell (World.grownBy.refl _ g4) k (.int .i64 y)) (.inr (show some g ≠ some g4 from fun e => by have := Option.some.inj e; omega))
          have cS5 := cell_set_other (a := ⟨g4, k, none⟩) (u := .int .i64 y) k1 (by simpa using lg)
          have B25 : Below w2.heap.size w2 (w4.setCell ⟨g4, k, none⟩ (.int .i64 y)) := B24.setCell (by show w2.heap.size ≤ g4; omega) _
          have B5 : Below w.heap.size w (w4.setCell ⟨g4, k, none⟩ (.int .i64 y)) := B4.setCell (by show w.heap.size ≤ g4; omega) _
          obtain ⟨w5, hw5⟩ : ∃ w5, w5 = w4.setCell ⟨g4, k, none⟩ (.int .i64 y) := ⟨_, rfl⟩
          rw [← hw5] at oW oL5 cS5 B25 B5
          have HW5 := Lib.hid hw5
          have hwd := l01Word_any (some ⟨bS, oS, none⟩) S cap hS8 HSp.out.bd (some ⟨g4, 0, none⟩) (sgnD k p (digs S x)) S.length S.length rfl (HDG.out x) w5 (hS.below B5) (own_ints oW)
          rw [← HWk.out] at hwd
          have HWD := Lib.hid hwd
          clear hw5 hwd oL oL4 cSr hck hb4 k2 B24 hD hy d1 d2 Bw Br B4 oW own4
          go_wp2_with fail
          rw [← HW5.out]
          refine HWD.out.mono ?_
          rintro e w6 ⟨rfl, hb6⟩
          have oL6 := oL5.below hb6
          have B26 := B25.trans (hb6.mono B25.size)
          have hput := l01Put_any w2.heap.size g c L (fW j) w6 (by rw [← HPn.out]; omega) (by rw [← HPn.out]; exact oL6)
          rw [← HPn.out] at hput
          have HPU := Lib.hid hput
          clear hput hb6 oL5 oL6 B25 B5
          go_wp2_with fail
          refine HPU.out.mono ?_
          rintro e w7 ⟨g7, c7, rfl, oL7, hb7⟩
          have B27 := B26.trans (hb7.mono B26.size)
          rw [← hPS.out] at oL7 ⊢
          clear hb7
          go_wp2_with fail
          go_roundw
          case rel => exact ⟨j + 1, g7, c7, by omega, by go_num, rfl, oL7, B27⟩
          case measure => simp [intOf]; omega
        · have ej : Hid (j = C.length) := Lib.hid (by omega)
          have jI : ¬ (j : Int) < (C.length : Int) := by omega
          have HLV : Hid (L = vSgn S C k p) := Lib.hid (by rw [HV.out, HL.out, ej.out])
          clear hlt
          go_wp2_with fail
          go_ret2
          exact ⟨_, by rw [HE.out]; try rfl, by rw [← HLV.out]; exact (show OwnInts wr w2.heap.size _ L from oL).rebase (by omega), Br⟩
    | false =>
      have HO : Hid (isOrd p (q : Int) = false) := Lib.hid (by rw [← hq]; exact ho)
      have HE : Hid (eSgn S C k p = 2) := Lib.hid (by unfold eSgn; rw [if_pos hz, if_neg (by simp [ho])])
      have HV : Hid (vSgn S C k p = []) := Lib.hid (by unfold vSgn; rw [if_neg (by rw [HE.out]; decide)])
      clear hz hE hSp hc1 hc2 ho hpe hcS hq hb
      go_enter Try.func20, Try.ntmps20
      go_wp2_with fail
      refine HPE.out.mono ?_
      rintro e w1 ⟨rfl, hb1⟩
      have c1 := kept_cell hb1 c0 l0
      have B1 := B0.trans (hb1.mono B0.size)
      have s1 : w.heap.size < w1.heap.size := lt_of_below hb1 l0
      have hck1 := kept_cell B1 hck0 hbS
      clear hb1 c0 l0 B0
      go_wp2_with fail
      have h2 := l03Order_any ap p capp hnp q hq1 hq8 w1 (hp.below B1)
      rw [HO.out] at h2
      refine h2.mono ?_
      rintro e w2 ⟨rfl, hb2⟩
      go_wp2_with fail
      go_ret2
      exact ⟨_, by rw [HE.out]; try rfl, by rw [HV.out]; exact own_nil _ _, B1.trans (hb2.mono B1.size)⟩
  · have hzn : (ePlc S C i != 0) = true := by simpa using hz
    have hze : (ePlc S C i == 0) = false := by simpa using hz
    have HE : Hid (eSgn S C i p = ePlc S C i) := Lib.hid (by unfold eSgn; rw [if_neg hz])
    have HV : Hid (vSgn S C i p = []) := Lib.hid (by unfold vSgn; rw [if_neg (by rw [HE.out]; exact hz)])
    have HPE := Lib.hid hpe
    clear hz hpe
    go_enter Try.func20, Try.ntmps20
    go_wp2_with fail
    refine HPE.out.mono ?_
    rintro e w1 ⟨rfl, hb1⟩
    go_wp2_with fail
    go_ret2
    exact ⟨_, by rw [HE.out]; try rfl, by rw [HV.out]; exact own_nil _ _, B0.trans (hb1.mono B0.size)⟩

end Go.Proofs.Ytdacokgmcenjoaa
