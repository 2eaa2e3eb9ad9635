/-
  The contract of the program's OrderSigns. By an AI agent.
-/
import Derived.Test.YtdacokgmcenjoaaOrdI
import Derived.Test.YtdacokgmcenjoaaMathC
import Derived.Test.YtdacokgmcenjoaaChgW
import Derived.Test.YtdacokgmcenjoaaPlc
import Derived.Test.YtdacokgmcenjoaaF1
import Derived.StillTailTactics
namespace Go.Proofs.Ytdacokgmcenjoaa
open Go.RowKit Go.Shelf Cv
set_option linter.unusedVariables false
set_option linter.unusedSimpArgs false
set_option maxRecDepth 100000

set_option maxHeartbeats 1000000 in
theorem sgn_chg (S p : List Int) (hS : Sp S) (i : Nat) (hi : i < S.length) (ho : isOrd p (gi S i) = true) (ob ib : Nat) (w : World) (hob : RowO w ob p) (hib : w.cell? ⟨ib, 0, none⟩ = some (.int .i64 (i : Int))) (lib : ib < w.heap.size) : ChgW 51 #[] #[.pointer (some ⟨ob, 0, none⟩), .pointer (some ⟨ib, 0, none⟩)] S (sgnD i p) w := by
  intro W base g o U T hW hg own hU hT hUT
  obtain ⟨o1, o2, o3, o4⟩ := ord_at ho
  have hb := hS.bd i hi
  have h8 := hS.hi
  have hpl : p.length ≤ 8 := by omega
  have hTi := hT.2 i hi
  obtain ⟨D, hD⟩ : ∃ D : Nat, gi T i = (D : Int) := ⟨(gi T i).toNat, by omega⟩
  have hDp : D < p.length := by omega
  have hck := own.cell (k := o + i) (by omega)
  rw [hUT i hi, hD] at hck
  have hcO := (hob.below hW hob.lt).cell hpl D (by omega)
  rw [gi_ordL p D hDp] at hcO
  have hcI := kept_cell hW hib lib
  have hf := own.free (o + i)
  have iI : (i : Int) < (S.length : Int) := by omega
  have i0 : (0 : Int) ≤ (i : Int) := by omega
  have d0 : (0 : Int) ≤ (D : Int) := by omega
  have d8 : (D : Int) < 8 := by omega
  have sW := hW.size
  have lob := hob.lt
  obtain ⟨y, hy⟩ : ∃ y, y = gi p D := ⟨_, rfl⟩
  rw [← hy] at hcO
  have HSG : Hid (sgnD i p T = T.set i y) := Lib.hid (by unfold sgnD; rw [hD, hy]; rfl)
  have HDg : Hid (Dg S (sgnD i p T)) := Lib.hid ⟨by rw [sgnD_len]; exact hT.1, fun j hj => sgnD_dg hi ho hT.1 hT.2 j hj⟩
  have HT := Lib.hid hT.1
  have HU := Lib.hid hUT
  have HOwn := Lib.hid (own.drew.stored (o + i) y)
  clear o1 o2 o3 o4 hTi hD hob hib hT hUT hy hW ho
  show Calls Try.prog 51 #[.slice (some ⟨g, o, none⟩) S.length S.length, .pointer (some ⟨ob, 0, none⟩), .pointer (some ⟨ib, 0, none⟩)] W _
  go_enter Try.func51, Try.ntmps51
  go_wp2_with fail
  go_still_tail 9, (by kernel_rfl)
  change wpList _ _ _ _ _ W.drew
  go_wp2_with fail
  go_ret
  refine ⟨U.set (o + i) y, rfl, HOwn.out, List.length_set, fun t ht => ?_, fun j hj => ?_, HDg.out, grown_setCell (grown_of_below ((Below.refl W.heap.size W).drew) _) _ _⟩
  · rw [HSG.out, gi_set _ _ _ _ (by omega), gi_set _ _ _ _ (by rw [HT.out]; exact hi)]
    by_cases e : t = i
    · subst e; rw [if_pos rfl, if_pos rfl]
    · rw [if_neg (by omega), if_neg e]; exact HU.out t ht
  · rw [gi_set _ _ _ _ (by omega), if_neg (by omega)]

theorem impl_OrderSigns (ao : Option Addr) (S : List Int) (cap : Nat) (hn : S.length ≤ 4294967296) (ac : Option Addr) (C : List Int) (capc : Nat) (hnc : C.length ≤ 4294967296) (i : Int) (hib : -9223372036854775808 ≤ i ∧ i ≤ 9223372036854775807) (ap : Option Addr) (p : List Int) (capp : Nat) (hnp : p.length ≤ 4294967296) (w : World) (hS : Ints w ao S) (hC : Ints w ac C) (hp : Ints w ap p) :
    Calls Try.prog 21 #[.agg #[.slice ao S.length cap], .slice ac C.length capc, .int .i64 i, .slice ap p.length capp] w fun e w' => ∃ v, e = .returned (.tuple #[v, .int .i64 (eSgn S C i p)]) ∧ OwnInts w' w.heap.size v (vSgn S C i p) ∧ Below w.heap.size w w' := by
  obtain ⟨W0, hW0⟩ : ∃ W0, W0 = (w.alloc (.cells #[.slice ao S.length cap] 28)).alloc (.cells #[.int .i64 i] 2) := ⟨_, rfl⟩
  have B0 : Below w.heap.size w W0 := by rw [hW0]; go_grown
  have c0 : W0.cell? ⟨w.heap.size, 0, none⟩ = some (.slice ao S.length cap) := by rw [hW0]; exact kept_cell ((Below.refl _ (w.alloc (.cells #[.slice ao S.length cap] 28))).alloc (Nat.le_refl _) _) (cell_new _ _ _) (lt_alloc _ _)
  have x0 : W0.cell? ⟨w.heap.size + 1, 0, none⟩ = some (.int .i64 i) := by
    have h := cell_new (w.alloc (.cells #[.slice ao S.length cap] 28)) (.int .i64 i) 2
    rw [World.size_alloc] at h; rw [hW0]; exact h
  have s0 : w.heap.size + 1 < W0.heap.size := by rw [hW0]; simp
  have hpe := placeError_any ao S cap hn ac C capc hnc i W0 (hS.below B0) (hC.below B0)
  have HW0 := Lib.hid hW0
  have c0e := c0
  have x0e := x0
  rw [hW0] at c0e x0e
  by_cases hz : ePlc S C i = 0
  · obtain ⟨hE, i1, i2⟩ := ePlc_zero hz
    obtain ⟨hSp, hc1, hc2⟩ := eCode_zero hE
    obtain ⟨k, rfl⟩ : ∃ k : Nat, i = (k : Int) := ⟨i.toNat, by omega⟩
    have hkS : k < S.length := by omega
    have hb := hSp.bd k hkS
    have hS1 := hSp.lo
    have hS8 := hSp.hi
    have hlenC := code_len hSp hc1 hc2
    have NW := nW_bd hSp
    have HSp := Lib.hid hSp
    have HC9 : Hid (∀ i, i < C.length → 0 ≤ gi C i ∧ gi C i ≤ 9223372036854775807) := Lib.hid fun i hi => by have := hc1 i hi; omega
    rw [hz] at hpe
    have HPE := Lib.hid hpe
    obtain ⟨bS, oS, rfl, hbS, hcS⟩ := hS.at hkS
    have hck0 := hcS k hkS
    cases ho : isOrd p (gi S k) with
    | true =>
      have HO := Lib.hid ho
      obtain ⟨o1, _, _, _⟩ := ord_at ho
      obtain ⟨bp, op, rfl, hbp, _⟩ := hp.at (show 0 < p.length by omega)
      have HCH := Lib.hid (fun W ob (h1 : RowO W ob p) (h2 : W.cell? ⟨w.heap.size + 1, 0, none⟩ = some (.int .i64 (k : Int))) (h3 : w.heap.size + 1 < W.heap.size) => sgn_chg S p hSp k hkS ho ob (w.heap.size + 1) W h1 h2 h3)
      have HE : Hid (eSgn S C k p = 0) := Lib.hid (by unfold eSgn; rw [if_pos hz, if_pos (by simpa using ho)])
      have HV : Hid (vSgn S C k p = cmpT (sorted (C.map fun c => wordTo S (sgnD k p (digs S c)) S.length)) C.length) := Lib.hid (by
        unfold vSgn
        rw [if_pos HE.out]
        have h := cmp_put (C.map fun c => sgnW S k p c) (fun j => sgnW S k p (gi C j)) (fun j hj => by rw [List.length_map] at hj; simp [gi, hj])
        rw [List.length_map] at h
        exact h.symm)
      have hl8 : p.length ≤ 8 := by omega
      obtain ⟨q, hq⟩ : ∃ q, q = gi S k := ⟨_, rfl⟩
      rw [← hq] at hb HO hck0 o1
      have kI : (k : Int) < (S.length : Int) := by omega
      have kI0 : (0 : Int) ≤ (k : Int) := by omega
      clear hz hE hSp hc1 hc2 ho hpe hcS hW0 hq o1
      go_enter Try.func21, Try.ntmps21
      go_wp2_with fail
      rw [← HW0.out]
      clear c0e x0e
      refine HPE.out.mono ?_
      rintro e w1 ⟨rfl, hb1⟩
      have c1 := kept_cell hb1 c0 (by omega)
      have x1 := kept_cell hb1 x0 s0
      have B1 := B0.trans (hb1.mono B0.size)
      have s1 : w.heap.size + 1 < w1.heap.size := by have := hb1.size; omega
      have hck1 := kept_cell B1 hck0 hbS
      clear hb1 c0 x0 B0
      go_wp2_with fail
      have h2 := isOrder_any (some ⟨bp, op, none⟩) p capp hnp q (by omega) (by omega) w1 (hp.below B1)
      rw [HO.out] at h2
      refine h2.mono ?_
      rintro e w2 ⟨rfl, hb2⟩
      have c2 := kept_cell hb2 c1 (by omega)
      have x2 := kept_cell hb2 x1 s1
      have B2 := B1.trans (hb2.mono B1.size)
      have s2 : w.heap.size + 1 < w2.heap.size := by have := hb2.size; omega
      clear h2 hb2 c1 x1 B1 hck1
      go_wp2_with fail
      refine (orderOf_some ⟨bp, op, none⟩ p p.length capp rfl hl8 w2 (hp.below B2)).mono ?_
      rintro e w3 ⟨rfl, hb3⟩
      have c3 := kept_cell hb3 c2 (by omega)
      have x3 := kept_cell hb3 x2 s2
      have B3 := B2.trans (hb3.mono B2.size)
      have s3 : w.heap.size + 1 < w3.heap.size := by have := hb3.size; omega
      clear hb3 c2 x2 B2
      go_wp2_with (refine wpList_st8 rfl _ _ rfl (b := w3.heap.size) (heap_alloc_last w3 (.cells #[.int .i64 0, .int .i64 0, .int .i64 0, .int .i64 0, .int .i64 0, .int .i64 0, .int .i64 0, .int .i64 0] 69)) rfl p hl8 rfl rfl ?_; have hO4 := rowo_set p (heap_alloc_last w3 (.cells #[.int .i64 0, .int .i64 0, .int .i64 0, .int .i64 0, .int .i64 0, .int .i64 0, .int .i64 0, .int .i64 0] 69)); have hb34 : Below w3.heap.size w3 ((w3.alloc (.cells #[.int .i64 0, .int .i64 0, .int .i64 0, .int .i64 0, .int .i64 0, .int .i64 0, .int .i64 0, .int .i64 0] 69)).setRow w3.heap.size (ordA p)) := ((Below.refl _ _).alloc (Nat.le_refl _) _).grown (grown_setRow8 _) (by simp) (by intro z hz; cases hz; exact Nat.le_refl _); obtain ⟨w4, hw4⟩ : ∃ w4, w4 = (w3.alloc (.cells #[.int .i64 0, .int .i64 0, .int .i64 0, .int .i64 0, .int .i64 0, .int .i64 0, .int .i64 0, .int .i64 0] 69)).setRow w3.heap.size (ordA p) := ⟨_, rfl⟩; rw [← hw4] at hO4 hb34 ⊢; clear hw4; have c4 := kept_cell hb34 c3 (by omega))
      have x4 := kept_cell hb34 x3 s3
      have B4 := B3.trans (hb34.mono B3.size)
      have s4 : w.heap.size + 1 < w4.heap.size := by have := hb34.size; omega
      refine (changedCode_w (some ⟨bS, oS, none⟩) S cap hS1 hS8 HSp.out.bd ac C capc (by omega) HC9.out 51 (enters_of Try.func51 (by kernel_rfl) rfl) #[] #[.pointer (some ⟨w3.heap.size, 0, none⟩), .pointer (some ⟨w.heap.size + 1, 0, none⟩)] (sgnD k p) w4 (hS.below B4) (hC.below B4) (HCH.out w4 w3.heap.size hO4 x4 s4)).mono ?_
      rintro e w5 ⟨v, rfl, own, hb5⟩
      go_wp2_with fail
      go_ret2
      exact ⟨_, by rw [HE.out]; try rfl, by rw [HV.out]; exact own.rebase B4.size, B4.trans (hb5.mono B4.size)⟩
    | false =>
      have HO := Lib.hid ho
      have HE : Hid (eSgn S C k p = 2) := Lib.hid (by unfold eSgn; rw [if_pos hz, if_neg (by simp [ho])])
      have HV : Hid (vSgn S C k p = []) := Lib.hid (by unfold vSgn; rw [if_neg (by rw [HE.out]; decide)])
      obtain ⟨q, hq⟩ : ∃ q, q = gi S k := ⟨_, rfl⟩
      rw [← hq] at hb HO hck0
      have kI : (k : Int) < (S.length : Int) := by omega
      have kI0 : (0 : Int) ≤ (k : Int) := by omega
      clear hz hE hSp hc1 hc2 ho hpe hcS hW0 hq
      go_enter Try.func21, Try.ntmps21
      go_wp2_with fail
      rw [← HW0.out]
      clear c0e x0e
      refine HPE.out.mono ?_
      rintro e w1 ⟨rfl, hb1⟩
      have c1 := kept_cell hb1 c0 (by omega)
      have x1 := kept_cell hb1 x0 s0
      have B1 := B0.trans (hb1.mono B0.size)
      have s1 : w.heap.size + 1 < w1.heap.size := by have := hb1.size; omega
      have hck1 := kept_cell B1 hck0 hbS
      clear hb1 c0 x0 B0
      go_wp2_with fail
      have h2 := isOrder_any ap p capp hnp q (by omega) (by omega) w1 (hp.below B1)
      rw [HO.out] at h2
      refine h2.mono ?_
      rintro e w2 ⟨rfl, hb2⟩
      go_wp2_with fail
      go_ret2
      exact ⟨_, by rw [HE.out]; try rfl, by rw [HV.out]; exact own_nil _ _, B1.trans (hb2.mono B1.size)⟩
  · have hzn : (ePlc S C i != 0) = true := by simpa using hz
    have HE : Hid (eSgn S C i p = ePlc S C i) := Lib.hid (by unfold eSgn; rw [if_neg hz])
    have HV : Hid (vSgn S C i p = []) := Lib.hid (by unfold vSgn; rw [if_neg (by rw [HE.out]; exact hz)])
    have HPE := Lib.hid hpe
    clear hz hpe hW0
    go_enter Try.func21, Try.ntmps21
    go_wp2_with fail
    rw [← HW0.out]
    clear c0e x0e
    refine HPE.out.mono ?_
    rintro e w1 ⟨rfl, hb1⟩
    go_wp2_with fail
    go_ret2
    exact ⟨_, by rw [HE.out]; try rfl, by rw [HV.out]; exact own_nil _ _, B0.trans (hb1.mono B0.size)⟩

end Go.Proofs.Ytdacokgmcenjoaa
