/-
  The law FnLinear holds at every list of bytes. By an AI agent.
-/
import Derived.Test.YtcnnijeokefboaaGreatDoorPkDrwW5
import Derived.Test.YtcnnijeokefboaaGreatDoorPk31
import Derived.Test.YtcnnijeokefboaaGreatDoorPkLinS
import Derived.Test.YtcnnijeokefboaaGreatDoorPkDua
import Derived.Test.YtcnnijeokefboaaGreatDoorPk40
import Derived.Test.YtcnnijeokefboaaGreatDoorPkBas
import Derived.Test.YtcnnijeokefboaaGreatDoorPkBasS
import Derived.Test.YtcnnijeokefboaaGreatDoorPkDimS
import Derived.Test.YtcnnijeokefboaaGreatDoorPkDcI
import Derived.Test.YtcnnijeokefboaaGreatDoorPkDcS
import Derived.Test.YtcnnijeokefboaaGreatDoorPk46
import Derived.Test.YtcnnijeokefboaaGreatDoorPk47
import Derived.Test.YtcnnijeokefboaaGreatDoorPkMathLn
import Derived.Test.YtcnnijeokefboaaGreatDoorPk15
import Derived.Test.YtcnnijeokefboaaGreatDoorPk22
import Derived.Deep.RegionHeld3
import Derived.Deep.Cut
namespace Go.Proofs.YtcnnijeokefboaaGreatDoor
open Go.RowKit Cv
set_option linter.unusedVariables false
set_option linter.unusedSimpArgs false
set_option maxRecDepth 100000

theorem ints_take5 {w : World} {a : Option Addr} {L : List Int} (h : Ints w a L) (m : Nat) : Ints w a (L.take m) := by
  rcases h with h | ⟨g, o, e, hl, hc⟩
  · exact .inl (by rw [List.length_take, h]; omega)
  · refine .inr ⟨g, o, e, hl, fun i hi => ?_⟩
    rw [List.length_take] at hi
    rw [hc i (by omega)]
    congr 2
    simp [gi, List.getD, List.getElem?_take, show i < m by omega]
set_option maxHeartbeats 1000000 in
theorem checks5_any (g : Nat) (L : List Int) (c : Nat) (hc : L.length ≤ c) (hb : L.length ≤ 1048576) (w : World) :
    Calls Tryz.prog 21 #[.slice (some ⟨g, 0, none⟩) L.length c] w fun e w' => e = .returned (.slice (some ⟨g, 0, none⟩) (L.take 20).length c) ∧ w' = w := by
  by_cases h : (L.length : Int) ≤ 20
  · have e1 : (L.take 20).length = L.length := by rw [List.length_take]; omega
    have hm : min (L.length : Int) 20 = (L.length : Int) := by omega
    rw [e1]
    go_enter Tryz.func21, Tryz.ntmps21
    go_wp2_with fail
    go_ret
    exact ⟨rfl, rfl⟩
  · have e1 : (L.take 20).length = 20 := by rw [List.length_take]; omega
    have hm : min (L.length : Int) 20 = 20 := by omega
    have hc20 : 20 ≤ c := by omega
    rw [e1]
    go_enter Tryz.func21, Tryz.ntmps21
    go_wp2_with fail
    go_ret
    exact ⟨rfl, rfl⟩

set_option maxHeartbeats 8000000 in
theorem law_FnLinear (a : Option Addr) (n cap : Nat) (W : World) (pv : Value) (hG : Glob pv W) (hY : Byts W W.heap.size a n) :
    Calls Tryz.prog 3 #[.slice a n cap] W fun e w' => e = .returned (.bool true) ∧ Below W.heap.size W w' := by
  have hbig := big_any a n cap W
  by_cases hn4 : 4096 < n
  · rw [decide_eq_true hn4] at hbig
    clear hY hn4 hG
    go_enter Tryz.func3, Tryz.ntmps3
    go_wp2_with fail
    refine hbig.mono ?_
    rintro e w1 ⟨rfl, hb⟩
    clear hbig
    go_wp2_with fail
    go_ret
    exact ⟨rfl, hb⟩
  rw [decide_eq_false hn4] at hbig
  have hn : n ≤ 4096 := by omega
  clear hn4
  go_enter Tryz.func3, Tryz.ntmps3
  go_wp2_with fail
  refine hbig.mono ?_
  rintro e w1 ⟨rfl, BW⟩
  clear hbig
  have hYd : Byts w1 w1.heap.size a n := (hY.keep fun b o v hb h => kept_cell BW h hb).mono BW.size
  have hc := drawSpan_any a n cap hn w1 hYd
  go_wp2_with fail
  refine hc.mono ?_
  rintro e w2 ⟨ax, S, cx, g, cg, V, rfl, hI, _, hS8, own, hVl, hb⟩
  replace BW := BW.trans (hb.mono BW.size)
  have IC := own_ints own
  clear hYd hc hb own
  obtain ⟨X, hX⟩ : ∃ z, z = w2.heap.size := ⟨_, rfl⟩
  obtain ⟨v3, hv3⟩ : ∃ z, z = w2.alloc (.cells #[.slice ax S.length cx] 26) := ⟨_, rfl⟩
  have RX : v3.heap[X]? = some (.cells #[.slice ax S.length cx] 26 (0, 0)) := by rw [hv3, hX]; exact heap_alloc_new _ _
  have IX : Ints v3 ax S := by rw [hv3]; exact hI.below ((Below.refl _ _).alloc (Nat.le_refl _) _)
  have ICX : Ints v3 (some ⟨g, 0, none⟩) V := by rw [hv3]; exact IC.below ((Below.refl _ _).alloc (Nat.le_refl _) _)
  have bX : Below w2.heap.size w2 v3 := by rw [hv3]; exact (Below.refl _ _).alloc (Nat.le_refl _) _
  replace BW : Below W.heap.size W v3 := BW.trans (bX.mono BW.size)
  have lX : X < v3.heap.size := row_lt RX
  have HX := Lib.hid hX
  have Hv3 := Lib.hid hv3
  have cX := cell_of1' RX
  clear hX hv3 hI RX bX IC
  have B := Below.refl v3.heap.size v3
  have B3 := BW
  have n1 := vSpan_len S V
  have hc := impl_SpanOf ax S cx (by omega) (some ⟨g, 0, none⟩) V cg (by omega) v3 (IX.below B) (ICX.below B)
  go_wp2_with fail
  rw [← Hv3.out, ← HX.out]
  refine hc.mono ?_
  rintro e w3 ⟨v1', rfl, own1, hb⟩
  replace B := B.trans (hb.mono B.size)
  have cc := kept_cell B cX lX
  clear hc hb
  obtain ⟨a1, k1, hv1⟩ := own_shp own1
  subst hv1
  have J1 := own_ints own1
  clear own1
  have hc := spec_SpanOf ax S cx (by omega) (some ⟨g, 0, none⟩) V cg (by omega) w3 (IX.below B) (ICX.below B)
  go_wp2_with fail
  refine hc.mono ?_
  rintro e w4 ⟨v2', rfl, own2, hb⟩
  replace J1 := J1.below hb
  replace B := B.trans (hb.mono B.size)
  have cc := kept_cell B cX lX
  clear hc hb
  obtain ⟨a2, k2, hv2⟩ := own_shp own2
  subst hv2
  have J2 := own_ints own2
  clear own2
  have hc := impl_IsPlain ax S cx (by omega) w4 (IX.below B)
  go_wp2_with fail
  refine hc.mono ?_
  rintro e w5 ⟨rfl, hb⟩
  replace J1 := J1.below hb
  replace J2 := J2.below hb
  replace B := B.trans (hb.mono B.size)
  have cc := kept_cell B cX lX
  clear hc hb
  have hc := spec_IsPlain ax S cx (by omega) w5 (IX.below B)
  go_wp2_with fail
  refine hc.mono ?_
  rintro e w6 ⟨rfl, hb⟩
  replace J1 := J1.below hb
  replace J2 := J2.below hb
  replace B := B.trans (hb.mono B.size)
  have cc := kept_cell B cX lX
  clear hc hb
  have hc := likeInts_same a1 a2 (vSpan S V) k1 k2 w6 (by omega) J1 J2
  go_wp2_with fail
  refine hc.mono ?_
  rintro e w7 ⟨rfl, hb⟩
  replace J1 := J1.below hb
  replace J2 := J2.below hb
  replace B := B.trans (hb.mono B.size)
  have cc := kept_cell B cX lX
  clear hc hb
  clear J2
  go_upto_if 112 with fail
  go_cut [13, 14, 15, 16, 17, 18, 19, 20, 21, 22, 23, 24, 25, 26, 27, 28, 29, 30, 31, 32, 33] from 111 (fun _ _ _ _ _ _ _ _ _ _ _ _ _ _ _ _ _ _ _ _ _ wx => Below v3.heap.size v3 wx)
  case first => as_aux_lemma =>
    clear BW hY
    by_cases hE : eSpan S V = 0
    · have hE0 : (eSpan S V == 0) = true := by simpa using hE
      obtain ⟨hP, hcd, hl, gC, hpl, hmem⟩ := ln_span hE
      obtain ⟨hsp, hVw⟩ := eWords_zero (eSpan_zero hE).1
      clear hE
      generalize vSpan S V = C at *
      generalize vIsPl S = pb at *
      subst hpl
      obtain ⟨D, hD⟩ : ∃ D, D = duL S C := ⟨_, rfl⟩
      obtain ⟨Bs, hBs⟩ : ∃ Bs, Bs = basUp S C S.length := ⟨_, rfl⟩
      obtain ⟨e1, e2, e3, e4, e5, e6, e7, e8, e9, e10, e11, e12, e13⟩ := ln_all hP hcd hl gC
      have hb8 := basUp_len S C S.length
      have hdl := duL_len (S := S) hP.sp C
      rw [← hD] at e3 e4 e5 e10 e11 e13 hdl
      rw [← hBs] at e6 e7 e8 e9 hb8
      obtain ⟨E, hEe⟩ : ∃ E, E = D.take 20 := ⟨_, rfl⟩
      have HEe := Lib.hid hEe
      have HSY : Hid (∀ k, k < V.length → Wd S (gi V k) ∧ gi V k ∈ C ∧ eSyn S E (gi V k) = 0 ∧ ∀ j, gi (vSyn S E (gi V k)) j = 0) := Lib.hid fun k hk => ⟨hVw k hk, hmem k hk, by rw [hEe, hD]; exact ln_syn hP (hVw k hk) (hmem k hk) 20 (by omega)⟩
      have hlE : E.length ≤ 20 := by rw [hEe, List.length_take]; omega
      clear hEe
      have N := nW_bd hP.sp
      have hD0 : 0 < D.length := by rw [hD]; exact List.length_pos_of_mem (gp_du (C := C) hP).zero
      clear hP hl gC hmem hsp hVw hD hBs
      have E12 := Lib.hid e12
      have E13 := Lib.hid e13
      clear e12 e13
      have hc := impl_IsLinear ax S cx (by omega) a1 C k1 (by omega) w7 (IX.below B) J1
      rw [e2, hcd] at hc
      go_wp2_with fail
      refine hc.mono ?_
      rintro e w8 ⟨rfl, hb⟩
      replace J1 := J1.below hb
      replace B := B.trans (hb.mono B.size)
      have cc := kept_cell B cX lX
      clear hc hb
      have hc := impl_DualCode ax S cx (by omega) a1 C k1 (by omega) pv w8 (hG.below (B3.trans (B.mono B3.size)) hG.2) (IX.below B) J1
      rw [e1, e3] at hc
      go_wp2_with fail
      refine hc.mono ?_
      rintro e w9 ⟨v5', rfl, own5, hb⟩
      replace J1 := J1.below hb
      replace B := B.trans (hb.mono B.size)
      have cc := kept_cell B cX lX
      clear hc hb
      obtain ⟨a5, k5, hv5⟩ := own_shp own5
      subst hv5
      obtain ⟨g5, rfl⟩ := own_some5 own5 hD0
      have hk5 := (own_cap own5).1
      have J5 := own_ints own5
      clear own5
      have hc := impl_DualCode ax S cx (by omega) (some ⟨g5, 0, none⟩) D k5 (by omega) pv w9 (hG.below (B3.trans (B.mono B3.size)) hG.2) (IX.below B) J5
      rw [e4, e5] at hc
      go_wp2_with fail
      refine hc.mono ?_
      rintro e w10 ⟨v6', rfl, own6, hb⟩
      replace J1 := J1.below hb
      replace J5 := J5.below hb
      replace B := B.trans (hb.mono B.size)
      have cc := kept_cell B cX lX
      clear hc hb
      obtain ⟨a6, k6, hv6⟩ := own_shp own6
      subst hv6
      have J6 := own_ints own6
      clear own6
      have hc := impl_LeastBasis ax S cx (by omega) a1 C k1 (by omega) pv w10 (hG.below (B3.trans (B.mono B3.size)) hG.2) (IX.below B) J1
      rw [e1, e6] at hc
      go_wp2_with fail
      refine hc.mono ?_
      rintro e w11 ⟨v7', rfl, own7, hb⟩
      replace J1 := J1.below hb
      replace J5 := J5.below hb
      replace J6 := J6.below hb
      replace B := B.trans (hb.mono B.size)
      have cc := kept_cell B cX lX
      clear hc hb
      obtain ⟨a7, k7, hv7⟩ := own_shp own7
      subst hv7
      have J7 := own_ints own7
      clear own7
      have hc := impl_SpanOf ax S cx (by omega) a7 Bs k7 (by omega) w11 (IX.below B) J7
      rw [e7, e8] at hc
      go_wp2_with fail
      refine hc.mono ?_
      rintro e w12 ⟨v8', rfl, own8, hb⟩
      replace J1 := J1.below hb
      replace J5 := J5.below hb
      replace J6 := J6.below hb
      replace J7 := J7.below hb
      replace B := B.trans (hb.mono B.size)
      have cc := kept_cell B cX lX
      clear hc hb
      obtain ⟨a8, k8, hv8⟩ := own_shp own8
      subst hv8
      have J8 := own_ints own8
      clear own8
      have hc := impl_DimensionOf ax S cx (by omega) a1 C k1 (by omega) pv w12 (hG.below (B3.trans (B.mono B3.size)) hG.2) (IX.below B) J1
      rw [e1, e9] at hc
      go_wp2_with fail
      refine hc.mono ?_
      rintro e w13 ⟨rfl, hb⟩
      replace J1 := J1.below hb
      replace J5 := J5.below hb
      replace J6 := J6.below hb
      replace J7 := J7.below hb
      replace J8 := J8.below hb
      replace B := B.trans (hb.mono B.size)
      have cc := kept_cell B cX lX
      clear hc hb
      have hc := impl_DualCounts ax S cx (by omega) a1 C k1 (by omega) pv w13 (hG.below (B3.trans (B.mono B3.size)) hG.2) (IX.below B) J1
      rw [e1, e10] at hc
      go_wp2_with fail
      refine hc.mono ?_
      rintro e w14 ⟨v9', rfl, own9, hb⟩
      replace J1 := J1.below hb
      replace J5 := J5.below hb
      replace J6 := J6.below hb
      replace J7 := J7.below hb
      replace J8 := J8.below hb
      replace B := B.trans (hb.mono B.size)
      have cc := kept_cell B cX lX
      clear hc hb
      obtain ⟨a9, k9, hv9⟩ := own_shp own9
      subst hv9
      have J9 := own_ints own9
      clear own9
      have hc := impl_WeightCounts ax S cx (by omega) (some ⟨g5, 0, none⟩) D k5 (by omega) w14 (IX.below B) J5
      rw [e11] at hc
      go_wp2_with fail
      refine hc.mono ?_
      rintro e w15 ⟨v10', rfl, own10, hb⟩
      replace J1 := J1.below hb
      replace J5 := J5.below hb
      replace J6 := J6.below hb
      replace J7 := J7.below hb
      replace J8 := J8.below hb
      replace J9 := J9.below hb
      replace B := B.trans (hb.mono B.size)
      have cc := kept_cell B cX lX
      clear hc hb
      obtain ⟨a10, k10, hv10⟩ := own_shp own10
      subst hv10
      have J10 := own_ints own10
      clear own10
      have hc := impl_CountWords ax S cx (by omega) w15 (IX.below B)
      rw [E12.out, E13.out] at hc
      go_wp2_with fail
      refine hc.mono ?_
      rintro e w16 ⟨rfl, hb⟩
      replace J1 := J1.below hb
      replace J5 := J5.below hb
      replace J6 := J6.below hb
      replace J7 := J7.below hb
      replace J8 := J8.below hb
      replace J9 := J9.below hb
      replace J10 := J10.below hb
      replace B := B.trans (hb.mono B.size)
      have cc := kept_cell B cX lX
      clear hc hb
      have n3 := vWc_len S D
      have mu : (0 : Int) ≤ (C.length : Int) * (D.length : Int) ∧ (C.length : Int) * (D.length : Int) ≤ 1048576 := ⟨Int.mul_nonneg (by omega) (by omega), by have := Int.mul_le_mul (show (C.length : Int) ≤ 1024 by omega) (show (D.length : Int) ≤ 1024 by omega) (by omega) (by omega); omega⟩
      have ew : IntKind.i64.wrap ((C.length : Int) * (D.length : Int)) = (C.length : Int) * (D.length : Int) := IntWalk.i64_in _ ⟨by omega, by omega⟩
      clear e1 e2 e3 e4 e5 e6 e7 e8 e9 e10 e11 mu E12 E13
      have hc := likeInts_same a6 a1 C k6 k1 w16 (by omega) J6 J1
      go_wp2_with fail
      refine hc.mono ?_
      rintro e w17 ⟨rfl, hb⟩
      replace J1 := J1.below hb
      replace J5 := J5.below hb
      replace J6 := J6.below hb
      replace J7 := J7.below hb
      replace J8 := J8.below hb
      replace J9 := J9.below hb
      replace J10 := J10.below hb
      replace B := B.trans (hb.mono B.size)
      have cc := kept_cell B cX lX
      clear hc hb
      clear J6
      have hc := likeInts_same a8 a1 C k8 k1 w17 (by omega) J8 J1
      go_wp2_with fail
      refine hc.mono ?_
      rintro e w18 ⟨rfl, hb⟩
      replace J1 := J1.below hb
      replace J5 := J5.below hb
      replace J7 := J7.below hb
      replace J8 := J8.below hb
      replace J9 := J9.below hb
      replace J10 := J10.below hb
      replace B := B.trans (hb.mono B.size)
      have cc := kept_cell B cX lX
      clear hc hb
      clear J8
      have hc := likeInts_same a9 a10 (vWc S D) k9 k10 w18 (by omega) J9 J10
      go_wp2_with fail
      refine hc.mono ?_
      rintro e w19 ⟨rfl, hb⟩
      replace J1 := J1.below hb
      replace J5 := J5.below hb
      replace J7 := J7.below hb
      replace J9 := J9.below hb
      replace J10 := J10.below hb
      replace B := B.trans (hb.mono B.size)
      have cc := kept_cell B cX lX
      clear hc hb
      clear J9 J10 J7 cc
      go_wp2_with fail
      go_loopw [31, 32, 33, 243] (fun u1 u2 u3 i wr => ∃ k : Nat, k ≤ V.length ∧ i = .int .i64 (k : Int) ∧ Below v3.heap.size v3 wr ∧ Ints wr a1 C ∧ Ints wr (some ⟨g5, 0, none⟩) D) (fun _ _ _ i _ => V.length - (intOf i).toNat)
      case atStart => exact ⟨0, Nat.zero_le _, rfl, B, J1, J5⟩
      case round =>
        clear J1 J5 B
        obtain ⟨k, hk, rfl, BJ, J1, J5⟩ := hrel
        by_cases hlt : k < V.length
        · have i1 : (0 : Int) ≤ (k : Int) := by omega
          have i2 : (k : Int) < (V.length : Int) := by omega
          obtain ⟨b, o, hbo, hbk, hck⟩ := ICX.at hlt
          obtain ⟨rfl, rfl⟩ : g = b ∧ 0 = o := by simpa using hbo
          have hckk := kept_cell BJ (hck k hlt) hbk
          rw [Nat.zero_add] at hckk
          obtain ⟨g1, g2, g3, g4⟩ := HSY.out k hlt
          obtain ⟨xk, hxk⟩ : ∃ xk, xk = gi V k := ⟨_, rfl⟩
          rw [← hxk] at hckk g1 g2 g3 g4
          have hxb : -9223372036854775808 ≤ xk ∧ xk ≤ 9223372036854775807 := by unfold Wd at g1; omega
          have q3 : (eSyn S E xk != 0) = false := by rw [g3]; rfl
          have G4 := Lib.hid g4
          have hh := hasInt_any a1 C k1 xk wr (by omega) J1
          rw [show hasTo C xk C.length = true from (hasTo_iff _ _ _).2 (mem_gi g2)] at hh
          have hvl := vSyn_len S E xk (by omega)
          clear hck hxk g1 g2 g3 g4
          go_wp2_with fail
          refine hh.mono ?_
          rintro e w40 ⟨rfl, hb⟩
          have BK := BJ.trans (hb.mono BJ.size)
          have hcX := kept_cell BK cX lX
          have hcV := kept_cell hb hckk (lt_of_below BJ hbk)
          replace J1 := J1.below hb
          replace J5 := J5.below hb
          have lXr := lt_of_below BK lX
          have lgr : g < w40.heap.size := lt_of_below BK hbk
          clear hh hb hckk BJ
          obtain ⟨wo, hwo⟩ : ∃ z, z = w40 := ⟨_, rfl⟩
          subst hwo
          have hck5 := checks5_any g5 D k5 hk5 (by omega) wo.drew
          rw [← HEe.out] at hck5
          have JE : Ints wo (some ⟨g5, 0, none⟩) E := by rw [HEe.out]; exact ints_take5 J5 20
          have hsy5 := impl_SyndromeOf ax S cx (by omega) (some ⟨g5, 0, none⟩) E k5 (by omega) xk hxb wo.drew (IX.below BK.drew) JE
          go_wp2_with fail
          refine wp_region_held_drew (S := fun w' => w'.cell? ⟨X, 0, none⟩ = some (.slice ax S.length cx) ∧ w'.cell? ⟨g, k, none⟩ = some (.int .i64 xk)) (by kernel_rfl) (⟨hcX, hcV⟩) (fun hHeld => ?_)
          refine wpAnyH_take (i := 0) (v := ?_) rfl (by kernel_rfl) (by kernel_rfl) (by kernel_rfl) (fun _ _ _ h => h) (Or.inl ⟨by rfl, ?_⟩) (by assumption) ?_
          rotate_left
          · (intro w hSw; obtain ⟨hSw0, hSw1⟩ := hSw; (try dsimp only at hSw0 hSw1); go_simp; try (with_reducible rfl))
          (try simp only [Act.put, List.setIfInBounds_toArray, List.set_cons_zero, List.set_cons_succ, List.getElem_toArray, List.getElem_cons_succ, List.getElem_cons_zero])
          refine wpAnyH_take (i := 1) (v := ?_) rfl (by kernel_rfl) (by kernel_rfl) (by kernel_rfl) (fun _ _ _ h => h) (Or.inl ⟨by rfl, ?_⟩) (by assumption) ?_
          rotate_left
          · (intro w hSw; obtain ⟨hSw0, hSw1⟩ := hSw; (try dsimp only at hSw0 hSw1); go_simp; try (with_reducible rfl))
          (try simp only [Act.put, List.setIfInBounds_toArray, List.set_cons_zero, List.set_cons_succ, List.getElem_toArray, List.getElem_cons_succ, List.getElem_cons_zero])
          refine wpAnyH_take (i := 3) (v := ?_) rfl (by kernel_rfl) (by kernel_rfl) (by kernel_rfl) (fun _ _ _ h => h) (Or.inl ⟨by rfl, ?_⟩) (by assumption) ?_
          rotate_left
          · (intro w hSw; obtain ⟨hSw0, hSw1⟩ := hSw; (try dsimp only at hSw0 hSw1); go_simp; try (with_reducible rfl))
          (try simp only [Act.put, List.setIfInBounds_toArray, List.set_cons_zero, List.set_cons_succ, List.getElem_toArray, List.getElem_cons_succ, List.getElem_cons_zero])
          refine wpAnyH_take (i := 4) (v := ?_) rfl (by kernel_rfl) (by kernel_rfl) (by kernel_rfl) (fun _ _ _ h => h) (Or.inl ⟨by rfl, ?_⟩) (by assumption) ?_
          rotate_left
          · (intro w hSw; obtain ⟨hSw0, hSw1⟩ := hSw; (try dsimp only at hSw0 hSw1); go_simp; try (with_reducible rfl))
          (try simp only [Act.put, List.setIfInBounds_toArray, List.set_cons_zero, List.set_cons_succ, List.getElem_toArray, List.getElem_cons_succ, List.getElem_cons_zero])
          refine wpAnyH_take (i := 5) (v := ?_) rfl (by kernel_rfl) (by kernel_rfl) (by kernel_rfl) (fun _ _ _ h => h) (Or.inl ⟨by rfl, ?_⟩) (by assumption) ?_
          rotate_left
          · (intro w hSw; obtain ⟨hSw0, hSw1⟩ := hSw; (try dsimp only at hSw0 hSw1); go_simp; try (with_reducible rfl))
          (try simp only [Act.put, List.setIfInBounds_toArray, List.set_cons_zero, List.set_cons_succ, List.getElem_toArray, List.getElem_cons_succ, List.getElem_cons_zero])
          refine wpAnyH_take (i := 6) (v := ?_) rfl (by kernel_rfl) (by kernel_rfl) (by kernel_rfl) (fun _ _ _ h => h) (Or.inl ⟨by rfl, ?_⟩) (by assumption) ?_
          rotate_left
          · (intro w hSw; obtain ⟨hSw0, hSw1⟩ := hSw; (try dsimp only at hSw0 hSw1); go_simp; try (with_reducible rfl))
          (try simp only [Act.put, List.setIfInBounds_toArray, List.set_cons_zero, List.set_cons_succ, List.getElem_toArray, List.getElem_cons_succ, List.getElem_cons_zero])
          refine wpAnyH_ready (rs := [2]) (by kernel_rfl) (by simp) ?_
          refine AllReadyH.cons rfl (fun K hK => ?_) AllReadyH.nil
          go_simp
          (go_at_call 21; refine (hck5).mono ?_)
          rintro e x1 ⟨rfl, rfl⟩
          refine hK.out _ _ (⟨hcX, hcV⟩) (fun hHeld => ?_)
          clear hK K
          (try simp only [Act.put, List.setIfInBounds_toArray, List.set_cons_zero, List.set_cons_succ, List.getElem_toArray, List.getElem_cons_succ, List.getElem_cons_zero])
          refine wpAnyH_ready (rs := [7]) (by kernel_rfl) (by simp) ?_
          refine AllReadyH.cons rfl (fun K hK => ?_) AllReadyH.nil
          go_simp
          (go_at_call 20; refine (hsy5).mono ?_)
          rintro e x2 ⟨vS, rfl, oS, hb2⟩
          have H2 : Below wo.heap.size wo x2 := Below.trans (Below.refl wo.heap.size wo).drew (hb2.mono (Below.size (Below.refl wo.heap.size wo).drew))
          refine hK.out _ _ (⟨kept_cell H2 hcX lXr, kept_cell H2 hcV lgr⟩) (fun hHeld => ?_)
          clear hK K
          (try simp only [Act.put, List.setIfInBounds_toArray, List.set_cons_zero, List.set_cons_succ, List.getElem_toArray, List.getElem_cons_succ, List.getElem_cons_zero])
          refine wpAnyH_take (i := 8) (v := ?_) rfl (by kernel_rfl) (by kernel_rfl) (by kernel_rfl) (fun _ _ _ h => h) (Or.inl ⟨by rfl, ?_⟩) (by assumption) ?_
          rotate_left
          · (intro w hSw; obtain ⟨hSw0, hSw1⟩ := hSw; (try dsimp only at hSw0 hSw1); go_simp; try (with_reducible rfl))
          (try simp only [Act.put, List.setIfInBounds_toArray, List.set_cons_zero, List.set_cons_succ, List.getElem_toArray, List.getElem_cons_succ, List.getElem_cons_zero])
          refine wpAnyH_take (i := 9) (v := ?_) rfl (by kernel_rfl) (by kernel_rfl) (by kernel_rfl) (fun _ _ _ h => h) (Or.inl ⟨by rfl, ?_⟩) (by assumption) ?_
          rotate_left
          · (intro w hSw; obtain ⟨hSw0, hSw1⟩ := hSw; (try dsimp only at hSw0 hSw1); go_simp; try (with_reducible rfl))
          (try simp only [Act.put, List.setIfInBounds_toArray, List.set_cons_zero, List.set_cons_succ, List.getElem_toArray, List.getElem_cons_succ, List.getElem_cons_zero])
          refine wpAnyH_take (i := 10) (v := ?_) rfl (by kernel_rfl) (by kernel_rfl) (by kernel_rfl) (fun _ _ _ h => h) (Or.inl ⟨by rfl, ?_⟩) (by assumption) ?_
          rotate_left
          · (intro w hSw; obtain ⟨hSw0, hSw1⟩ := hSw; (try dsimp only at hSw0 hSw1); go_simp; try (with_reducible rfl))
          (try simp only [Act.put, List.setIfInBounds_toArray, List.set_cons_zero, List.set_cons_succ, List.getElem_toArray, List.getElem_cons_succ, List.getElem_cons_zero])
          refine wpAnyH_take (i := 11) (v := ?_) rfl (by kernel_rfl) (by kernel_rfl) (by kernel_rfl) (fun _ _ _ h => h) (Or.inl ⟨by rfl, ?_⟩) (by assumption) ?_
          rotate_left
          · (intro w hSw; obtain ⟨hSw0, hSw1⟩ := hSw; (try dsimp only at hSw0 hSw1); go_simp; try (with_reducible rfl))
          (try simp only [Act.put, List.setIfInBounds_toArray, List.set_cons_zero, List.set_cons_succ, List.getElem_toArray, List.getElem_cons_succ, List.getElem_cons_zero])
          refine wpAnyH_take (i := 12) (v := ?_) rfl (by kernel_rfl) (by kernel_rfl) (by kernel_rfl) (fun _ _ _ h => h) (Or.inl ⟨by rfl, ?_⟩) (by assumption) ?_
          rotate_left
          · (intro w hSw; obtain ⟨hSw0, hSw1⟩ := hSw; (try dsimp only at hSw0 hSw1); go_simp; try (with_reducible rfl))
          (try simp only [Act.put, List.setIfInBounds_toArray, List.set_cons_zero, List.set_cons_succ, List.getElem_toArray, List.getElem_cons_succ, List.getElem_cons_zero])
          refine wpAnyH_done (by kernel_rfl) ?_ _
          (try simp only [Act.put, List.setIfInBounds_toArray, List.set_cons_zero, List.set_cons_succ, List.getElem_toArray, List.getElem_cons_succ, List.getElem_cons_zero])
          have Hz : Below wo.heap.size wo x2 := H2
          obtain ⟨aS, kS, hvS⟩ := own_shp oS
          subst hvS
          have JS := own_ints oS
          replace BK := BK.trans (Hz.mono BK.size)
          replace J1 := J1.below Hz
          replace J5 := J5.below Hz
          have hs := sum_any aS (vSyn S E xk) kS 0 (by omega) (fun j => by rw [G4.out j]; omega) x2 hvl JS
          rw [wsT_zero _ _ _ (fun i _ => G4.out i)] at hs
          clear Hz hcX hcV lXr lgr oS JE
          go_wp2_with fail
          refine hs.mono ?_
          rintro e w46 ⟨rfl, hb⟩
          replace BK := BK.trans (hb.mono BK.size)
          replace J1 := J1.below hb
          replace J5 := J5.below hb
          clear hs hb JS
          go_wp2_with fail
          go_roundw
          case rel => exact ⟨k + 1, by omega, by go_num, BK, J1, J5⟩
          case measure => simp [intOf]; omega
        · have i2 : ¬ (k : Int) < (V.length : Int) := by omega
          go_wp2_with fail
          go_meet
          exact BJ
    · have hE0 : (eSpan S V == 0) = false := by simpa using hE
      clear hE cc
      go_wp2_with fail
      go_meet
      exact B
  case rest => as_aux_lemma =>
  clear B cc J1 n1
  replace BW : Below W.heap.size W wc := B3.trans (hcut.mono B3.size)
  clear hcut B3 hS8 hVl IX ICX lX cX HX Hv3
  have hYd : Byts wc wc.heap.size a n := (hY.keep fun b o v hb h => kept_cell BW h hb).mono BW.size
  have hc := drawLin_any a n cap hn wc hYd
  go_wp2_with fail
  refine hc.mono ?_
  rintro e w20 ⟨ay, T, cy, g2, cg2, D, rfl, hI, _, hT8, own, hDl, hb⟩
  replace BW := BW.trans (hb.mono BW.size)
  have ID := own_ints own
  clear hYd hc hb own
  obtain ⟨Vb, hVb⟩ : ∃ z, z = w20.heap.size := ⟨_, rfl⟩
  obtain ⟨v4, hv4⟩ : ∃ z, z = w20.alloc (.cells #[.slice ay T.length cy] 26) := ⟨_, rfl⟩
  have RVb : v4.heap[Vb]? = some (.cells #[.slice ay T.length cy] 26 (0, 0)) := by rw [hv4, hVb]; exact heap_alloc_new _ _
  have IVb : Ints v4 ay T := by rw [hv4]; exact hI.below ((Below.refl _ _).alloc (Nat.le_refl _) _)
  have IDVb : Ints v4 (some ⟨g2, 0, none⟩) D := by rw [hv4]; exact ID.below ((Below.refl _ _).alloc (Nat.le_refl _) _)
  have bVb : Below w20.heap.size w20 v4 := by rw [hv4]; exact (Below.refl _ _).alloc (Nat.le_refl _) _
  replace BW : Below W.heap.size W v4 := BW.trans (bVb.mono BW.size)
  have lVb : Vb < v4.heap.size := row_lt RVb
  have HVb := Lib.hid hVb
  have Hv4 := Lib.hid hv4
  have cVb := cell_of1' RVb
  clear hVb hv4 hI RVb bVb ID
  have B := Below.refl v4.heap.size v4
  have B4 := BW
  have n1 := vBas_len T D
  have n2 := vDual_len T D
  have n3 := vDc_len T D
  have hc := impl_IsLinear ay T cy (by omega) (some ⟨g2, 0, none⟩) D cg2 (by omega) v4 (IVb.below B) (IDVb.below B)
  go_wp2_with fail
  rw [← Hv4.out, ← HVb.out]
  refine hc.mono ?_
  rintro e w21 ⟨rfl, hb⟩
  replace B := B.trans (hb.mono B.size)
  have cc := kept_cell B cVb lVb
  clear hc hb
  have hc := spec_IsLinear ay T cy (by omega) (some ⟨g2, 0, none⟩) D cg2 (by omega) w21 (IVb.below B) (IDVb.below B)
  go_wp2_with fail
  refine hc.mono ?_
  rintro e w22 ⟨rfl, hb⟩
  replace B := B.trans (hb.mono B.size)
  have cc := kept_cell B cVb lVb
  clear hc hb
  have hc := impl_LeastBasis ay T cy (by omega) (some ⟨g2, 0, none⟩) D cg2 (by omega) pv w22 (hG.below (B4.trans (B.mono B4.size)) hG.2) (IVb.below B) (IDVb.below B)
  go_wp2_with fail
  refine hc.mono ?_
  rintro e w23 ⟨v1', rfl, own1, hb⟩
  replace B := B.trans (hb.mono B.size)
  have cc := kept_cell B cVb lVb
  clear hc hb
  obtain ⟨a1, k1, hv1⟩ := own_shp own1
  subst hv1
  have J1 := own_ints own1
  clear own1
  have hc := spec_LeastBasis ay T cy (by omega) (some ⟨g2, 0, none⟩) D cg2 (by omega) w23 (IVb.below B) (IDVb.below B)
  go_wp2_with fail
  refine hc.mono ?_
  rintro e w24 ⟨v2', rfl, own2, hb⟩
  replace J1 := J1.below hb
  replace B := B.trans (hb.mono B.size)
  have cc := kept_cell B cVb lVb
  clear hc hb
  obtain ⟨a2, k2, hv2⟩ := own_shp own2
  subst hv2
  have J2 := own_ints own2
  clear own2
  have hc := impl_DualCode ay T cy (by omega) (some ⟨g2, 0, none⟩) D cg2 (by omega) pv w24 (hG.below (B4.trans (B.mono B4.size)) hG.2) (IVb.below B) (IDVb.below B)
  go_wp2_with fail
  refine hc.mono ?_
  rintro e w25 ⟨v3', rfl, own3, hb⟩
  replace J1 := J1.below hb
  replace J2 := J2.below hb
  replace B := B.trans (hb.mono B.size)
  have cc := kept_cell B cVb lVb
  clear hc hb
  obtain ⟨a3, k3, hv3⟩ := own_shp own3
  subst hv3
  have J3 := own_ints own3
  clear own3
  have hc := spec_DualCode ay T cy (by omega) (some ⟨g2, 0, none⟩) D cg2 (by omega) w25 (IVb.below B) (IDVb.below B)
  go_wp2_with fail
  refine hc.mono ?_
  rintro e w26 ⟨v4', rfl, own4, hb⟩
  replace J1 := J1.below hb
  replace J2 := J2.below hb
  replace J3 := J3.below hb
  replace B := B.trans (hb.mono B.size)
  have cc := kept_cell B cVb lVb
  clear hc hb
  obtain ⟨a4, k4, hv4⟩ := own_shp own4
  subst hv4
  have J4 := own_ints own4
  clear own4
  have hc := impl_DualCounts ay T cy (by omega) (some ⟨g2, 0, none⟩) D cg2 (by omega) pv w26 (hG.below (B4.trans (B.mono B4.size)) hG.2) (IVb.below B) (IDVb.below B)
  go_wp2_with fail
  refine hc.mono ?_
  rintro e w27 ⟨v5', rfl, own5, hb⟩
  replace J1 := J1.below hb
  replace J2 := J2.below hb
  replace J3 := J3.below hb
  replace J4 := J4.below hb
  replace B := B.trans (hb.mono B.size)
  have cc := kept_cell B cVb lVb
  clear hc hb
  obtain ⟨a5, k5, hv5⟩ := own_shp own5
  subst hv5
  have J5 := own_ints own5
  clear own5
  have hc := spec_DualCounts ay T cy (by omega) (some ⟨g2, 0, none⟩) D cg2 (by omega) w27 (IVb.below B) (IDVb.below B)
  go_wp2_with fail
  refine hc.mono ?_
  rintro e w28 ⟨v6', rfl, own6, hb⟩
  replace J1 := J1.below hb
  replace J2 := J2.below hb
  replace J3 := J3.below hb
  replace J4 := J4.below hb
  replace J5 := J5.below hb
  replace B := B.trans (hb.mono B.size)
  have cc := kept_cell B cVb lVb
  clear hc hb
  obtain ⟨a6, k6, hv6⟩ := own_shp own6
  subst hv6
  have J6 := own_ints own6
  clear own6
  have hc := impl_DimensionOf ay T cy (by omega) (some ⟨g2, 0, none⟩) D cg2 (by omega) pv w28 (hG.below (B4.trans (B.mono B4.size)) hG.2) (IVb.below B) (IDVb.below B)
  go_wp2_with fail
  refine hc.mono ?_
  rintro e w29 ⟨rfl, hb⟩
  replace J1 := J1.below hb
  replace J2 := J2.below hb
  replace J3 := J3.below hb
  replace J4 := J4.below hb
  replace J5 := J5.below hb
  replace J6 := J6.below hb
  replace B := B.trans (hb.mono B.size)
  have cc := kept_cell B cVb lVb
  clear hc hb
  have hc := spec_DimensionOf ay T cy (by omega) (some ⟨g2, 0, none⟩) D cg2 (by omega) w29 (IVb.below B) (IDVb.below B)
  go_wp2_with fail
  refine hc.mono ?_
  rintro e w30 ⟨rfl, hb⟩
  replace J1 := J1.below hb
  replace J2 := J2.below hb
  replace J3 := J3.below hb
  replace J4 := J4.below hb
  replace J5 := J5.below hb
  replace J6 := J6.below hb
  replace B := B.trans (hb.mono B.size)
  have cc := kept_cell B cVb lVb
  clear hc hb
  replace BW : Below W.heap.size W w30 := B4.trans (B.mono B4.size)
  have hYd : Byts w30 w30.heap.size a n := (hY.keep fun b o v hb h => kept_cell BW h hb).mono BW.size
  have hc := drawSyn_any a n cap hn w30 hYd
  go_wp2_with fail
  refine hc.mono ?_
  rintro e w31 ⟨az, U, cz, g3, cg3, K, x, rfl, hI, _, hU8, own, hKl, hx, hb⟩
  replace J1 := J1.below hb
  replace J2 := J2.below hb
  replace J3 := J3.below hb
  replace J4 := J4.below hb
  replace J5 := J5.below hb
  replace J6 := J6.below hb
  replace BW := BW.trans (hb.mono BW.size)
  have IK := own_ints own
  clear hYd hc hb own B cc
  obtain ⟨Yb, hYb⟩ : ∃ z, z = w31.heap.size := ⟨_, rfl⟩
  obtain ⟨v5, hv5⟩ : ∃ z, z = w31.alloc (.cells #[.slice az U.length cz] 26) := ⟨_, rfl⟩
  have RYb : v5.heap[Yb]? = some (.cells #[.slice az U.length cz] 26 (0, 0)) := by rw [hv5, hYb]; exact heap_alloc_new _ _
  have IYb : Ints v5 az U := by rw [hv5]; exact hI.below ((Below.refl _ _).alloc (Nat.le_refl _) _)
  have IKYb : Ints v5 (some ⟨g3, 0, none⟩) K := by rw [hv5]; exact IK.below ((Below.refl _ _).alloc (Nat.le_refl _) _)
  have bYb : Below w31.heap.size w31 v5 := by rw [hv5]; exact (Below.refl _ _).alloc (Nat.le_refl _) _
  replace BW : Below W.heap.size W v5 := BW.trans (bYb.mono BW.size)
  have lYb : Yb < v5.heap.size := row_lt RYb
  have HYb := Lib.hid hYb
  have Hv5 := Lib.hid hv5
  have cYb := cell_of1' RYb
  replace J1 : Ints v5 a1 (vBas T D) := by rw [hv5]; exact J1.below ((Below.refl _ _).alloc (Nat.le_refl _) _)
  replace J2 : Ints v5 a2 (vBas T D) := by rw [hv5]; exact J2.below ((Below.refl _ _).alloc (Nat.le_refl _) _)
  replace J3 : Ints v5 a3 (vDual T D) := by rw [hv5]; exact J3.below ((Below.refl _ _).alloc (Nat.le_refl _) _)
  replace J4 : Ints v5 a4 (vDual T D) := by rw [hv5]; exact J4.below ((Below.refl _ _).alloc (Nat.le_refl _) _)
  replace J5 : Ints v5 a5 (vDc T D) := by rw [hv5]; exact J5.below ((Below.refl _ _).alloc (Nat.le_refl _) _)
  replace J6 : Ints v5 a6 (vDc T D) := by rw [hv5]; exact J6.below ((Below.refl _ _).alloc (Nat.le_refl _) _)
  clear hYb hv5 hI RYb bYb IK
  have B := Below.refl v5.heap.size v5
  have n4 := vSyn_len U K x
  have hc := impl_SyndromeOf az U cz (by omega) (some ⟨g3, 0, none⟩) K cg3 (by omega) x hx v5 (IYb.below B) (IKYb.below B)
  go_wp2_with fail
  rw [← Hv5.out, ← HYb.out]
  refine hc.mono ?_
  rintro e w32 ⟨v7', rfl, own7, hb⟩
  replace J1 := J1.below hb
  replace J2 := J2.below hb
  replace J3 := J3.below hb
  replace J4 := J4.below hb
  replace J5 := J5.below hb
  replace J6 := J6.below hb
  replace B := B.trans (hb.mono B.size)
  have cc := kept_cell B cYb lYb
  clear hc hb
  obtain ⟨a7, k7, hv7⟩ := own_shp own7
  subst hv7
  have J7 := own_ints own7
  clear own7
  have hc := spec_SyndromeOf az U cz (by omega) (some ⟨g3, 0, none⟩) K cg3 (by omega) x hx w32 (IYb.below B) (IKYb.below B)
  go_wp2_with fail
  refine hc.mono ?_
  rintro e w33 ⟨v8', rfl, own8, hb⟩
  replace J1 := J1.below hb
  replace J2 := J2.below hb
  replace J3 := J3.below hb
  replace J4 := J4.below hb
  replace J5 := J5.below hb
  replace J6 := J6.below hb
  replace J7 := J7.below hb
  replace B := B.trans (hb.mono B.size)
  have cc := kept_cell B cYb lYb
  clear hc hb
  obtain ⟨a8, k8, hv8⟩ := own_shp own8
  subst hv8
  have J8 := own_ints own8
  clear own8
  clear cc
  have hc := likeInts_same a1 a2 (vBas T D) k1 k2 w33 (by omega) J1 J2
  go_wp2_with fail
  refine hc.mono ?_
  rintro e w34 ⟨rfl, hb⟩
  replace J1 := J1.below hb
  replace J2 := J2.below hb
  replace J3 := J3.below hb
  replace J4 := J4.below hb
  replace J5 := J5.below hb
  replace J6 := J6.below hb
  replace J7 := J7.below hb
  replace J8 := J8.below hb
  replace B := B.trans (hb.mono B.size)
  clear hc hb
  clear J1 J2
  have hc := likeInts_same a3 a4 (vDual T D) k3 k4 w34 (by omega) J3 J4
  go_wp2_with fail
  refine hc.mono ?_
  rintro e w35 ⟨rfl, hb⟩
  replace J3 := J3.below hb
  replace J4 := J4.below hb
  replace J5 := J5.below hb
  replace J6 := J6.below hb
  replace J7 := J7.below hb
  replace J8 := J8.below hb
  replace B := B.trans (hb.mono B.size)
  clear hc hb
  clear J3 J4
  have hc := likeInts_same a5 a6 (vDc T D) k5 k6 w35 (by omega) J5 J6
  go_wp2_with fail
  refine hc.mono ?_
  rintro e w36 ⟨rfl, hb⟩
  replace J5 := J5.below hb
  replace J6 := J6.below hb
  replace J7 := J7.below hb
  replace J8 := J8.below hb
  replace B := B.trans (hb.mono B.size)
  clear hc hb
  clear J5 J6
  have n5 : (vSyn U K x).length ≤ 1048577 := by unfold vSyn; split <;> simp [syL]; omega
  have hc := likeInts_same a7 a8 (vSyn U K x) k7 k8 w36 (by omega) J7 J8
  go_wp2_with fail
  refine hc.mono ?_
  rintro e w37 ⟨rfl, hb⟩
  replace J7 := J7.below hb
  replace J8 := J8.below hb
  replace B := B.trans (hb.mono B.size)
  clear hc hb
  go_wp2_with fail
  go_ret
  exact ⟨by first | rfl | simp, BW.trans (B.mono BW.size)⟩

end Go.Proofs.YtcnnijeokefboaaGreatDoor
