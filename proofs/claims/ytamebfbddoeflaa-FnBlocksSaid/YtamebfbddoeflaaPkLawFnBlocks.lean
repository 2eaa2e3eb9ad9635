/-
  The law FnBlocks holds at every list of bytes. By an AI agent.
-/
import Derived.Test.YtamebfbddoeflaaPkDrw9m
import Derived.Test.YtamebfbddoeflaaPkDrw9w
import Derived.Test.YtamebfbddoeflaaPkMathBk
import Derived.Test.YtamebfbddoeflaaPk38
import Derived.Test.YtamebfbddoeflaaPk40
import Derived.Test.YtamebfbddoeflaaPk45
import Derived.Test.YtamebfbddoeflaaPkLed9
import Derived.Test.YtamebfbddoeflaaPk50
import Derived.Test.YtamebfbddoeflaaPkF1
import Derived.Test.YtamebfbddoeflaaPkFam
import Derived.Lib.MinMax
import Derived.Deep.Cut
namespace Go.Proofs.Ytamebfbddoeflaa
open Go.RowKit Cv
set_option linter.unusedVariables false
set_option linter.unusedSimpArgs false
set_option maxRecDepth 100000

set_option maxHeartbeats 8000000 in
theorem law_FnBlocks (a : Option Addr) (n cap : Nat) (W : World) (hY : Byts W W.heap.size a n) :
    Calls Try.prog 3 #[.slice a n cap] W fun e w' => e = .returned (.bool true) ∧ Below W.heap.size W w' := by
  have hbig := big_any a n cap W
  by_cases hn4 : 4096 < n
  · rw [decide_eq_true hn4] at hbig
    clear hY hn4
    go_enter Try.func3, Try.ntmps3
    go_wp2_with fail
    refine hbig.mono ?_
    rintro e w1 ⟨rfl, hb⟩
    clear hbig
    go_wp2_with fail
    go_ret
    exact ⟨rfl, hb⟩
  rw [decide_eq_false hn4] at hbig
  have hn : n ≤ 4096 := by omega
  clear hn4
  go_enter Try.func3, Try.ntmps3
  go_wp2_with fail
  refine hbig.mono ?_
  rintro e w1 ⟨rfl, BW⟩
  clear hbig
  have hYd : Byts w1 w1.heap.size a n := (hY.keep fun b o v hb h => kept_cell BW h hb).mono BW.size
  have hc := drawWr_any a n cap hn w1 hYd
  go_wp2_with fail
  refine hc.mono ?_
  rintro e w2 ⟨ax, S, cx, gC, cC, C, aQ, Q, cQ, m, rfl, hI, _, hS8, own, hCl, IQ, hQc, hQl, hm, hb⟩
  replace BW := BW.trans (hb.mono BW.size)
  have IC := own_ints own
  clear hYd hc hb own
  obtain ⟨X, hX⟩ : ∃ z, z = w2.heap.size := ⟨_, rfl⟩
  obtain ⟨v3, hv3⟩ : ∃ z, z = w2.alloc (.cells #[.slice ax S.length cx] 26) := ⟨_, rfl⟩
  have RX : v3.heap[X]? = some (.cells #[.slice ax S.length cx] 26 (0, 0)) := by rw [hv3, hX]; exact heap_alloc_new _ _
  have IX : Ints v3 ax S := by rw [hv3]; exact hI.below ((Below.refl _ _).alloc (Nat.le_refl _) _)
  have ICX : Ints v3 (some ⟨gC, 0, none⟩) C := by rw [hv3]; exact IC.below ((Below.refl _ _).alloc (Nat.le_refl _) _)
  have IQX : Ints v3 aQ Q := by rw [hv3]; exact IQ.below ((Below.refl _ _).alloc (Nat.le_refl _) _)
  have bX : Below w2.heap.size w2 v3 := by rw [hv3]; exact (Below.refl _ _).alloc (Nat.le_refl _) _
  replace BW : Below W.heap.size W v3 := BW.trans (bX.mono BW.size)
  have lX : X < v3.heap.size := row_lt RX
  have HX := Lib.hid hX
  have Hv3 := Lib.hid hv3
  have cX := cell_of1' RX
  clear hX hv3 hI RX bX IC IQ
  have B := Below.refl v3.heap.size v3
  have B3 := BW
  have n1 := vWr_len S C Q m
  have hc := impl_WordsReached ax S cx (by omega) (some ⟨gC, 0, none⟩) C cC (by omega) aQ Q cQ (by omega) m hm v3 (IX.below B) (ICX.below B) (IQX.below B)
  go_wp2_with fail
  rw [← Hv3.out, ← HX.out]
  refine hc.mono ?_
  rintro e w3 ⟨v1', rfl, own1, hb⟩
  replace B := B.trans (hb.mono B.size)
  have cc := kept_cell B cX lX
  clear hc hb
  obtain ⟨a1, k1, hv1⟩ := own_shp own1
  subst hv1
  have J1 := own_ints own1
  clear own1
  have hc := spec_WordsReached ax S cx (by omega) (some ⟨gC, 0, none⟩) C cC (by omega) aQ Q cQ (by omega) m hm w3 (IX.below B) (ICX.below B) (IQX.below B)
  go_wp2_with fail
  refine hc.mono ?_
  rintro e w4 ⟨v2', rfl, own2, hb⟩
  replace J1 := J1.below hb
  replace B := B.trans (hb.mono B.size)
  have cc := kept_cell B cX lX
  clear hc hb
  obtain ⟨a2, k2, hv2⟩ := own_shp own2
  subst hv2
  have J2 := own_ints own2
  clear own2
  have hc := likeInts_same a1 a2 (vWr S C Q m) k1 k2 w4 (by omega) J1 J2
  go_wp2_with fail
  refine hc.mono ?_
  rintro e w5 ⟨rfl, hb⟩
  replace J1 := J1.below hb
  replace J2 := J2.below hb
  replace B := B.trans (hb.mono B.size)
  have cc := kept_cell B cX lX
  clear hc hb
  clear J2
  have n3 := vWr_len S C Q (m + 1)
  go_upto_region 8 with fail
  go_cut [78] from 39 (fun s wx => ∃ q : Bool, s = .bool q ∧ (q = true → eCs S C Q m = 0 ∧ m < 8) ∧ Ints wx a1 (vWr S C Q m) ∧ Below v3.heap.size v3 wx)
  case first => as_aux_lemma =>
    clear BW B3 hY cc
    by_cases hE : eCs S C Q m = 0
    · have hE0 : (eCs S C Q m == 0) = true := by simpa using hE
      have HE := Lib.hid hE
      clear hE
      by_cases h8 : m < 8
      · go_wp2_with fail
        go_meet
        exact ⟨_, rfl, (fun _ => ⟨HE.out, h8⟩), J1, B⟩
      · go_wp2_with fail
        go_meet
        exact ⟨_, rfl, (fun h => by first | cases h | (simp at h; omega)), J1, B⟩
    · have hE0 : (eCs S C Q m == 0) = false := by simpa using hE
      clear hE
      go_wp2_with fail
      go_meet
      exact ⟨_, rfl, (fun h => by first | cases h | simp at h), J1, B⟩
  case rest => as_aux_lemma =>
  clear B cc J1 HX Hv3
  obtain ⟨q, rfl, hqm, J1, B⟩ := hcut
  have cc := kept_cell B cX lX
  go_upto_if 78 with fail
  go_cut [11, 12, 13, 14] from 39 (fun _ _ _ _ wx => Below v3.heap.size v3 wx)
  case first => as_aux_lemma =>
    clear BW B3 hY
    cases hq : q with
    | true =>
      obtain ⟨hE, h8⟩ := hqm hq
      clear hqm hq
      have hm0 : 0 ≤ m := (eCs_zero hE).2.2.2.2.1
      obtain ⟨f1, f2, f3, f4⟩ := bk_more hE h8
      have F3 := Lib.hid f3
      have F4 := Lib.hid f4
      have hw : IntKind.i64.wrap (m + 1) = m + 1 := IntWalk.i64_in _ ⟨by omega, by omega⟩
      have q2 : ¬ ((vWr S C Q (m + 1)).length : Int) < ((vWr S C Q m).length : Int) := by omega
      clear hE f2 f3 f4
      have hc := impl_WordsReached ax S cx (by omega) (some ⟨gC, 0, none⟩) C cC (by omega) aQ Q cQ (by omega) (m + 1) ⟨by omega, by omega⟩ wc (IX.below B) (ICX.below B) (IQX.below B)
      rw [f1] at hc
      go_wp2_with fail
      refine hc.mono ?_
      rintro e w6 ⟨v3', rfl, own3, hb⟩
      replace J1 := J1.below hb
      replace B := B.trans (hb.mono B.size)
      clear hc hb
      obtain ⟨a3, k3, hv3⟩ := own_shp own3
      subst hv3
      have J3 := own_ints own3
      clear own3
      clear f1 hw cc
      go_upto_if 96 with fail
      go_cut [13] from 39 (fun _ wx => Ints wx a1 (vWr S C Q m) ∧ Ints wx a3 (vWr S C Q (m + 1)) ∧ Below v3.heap.size v3 wx)
      case first => as_aux_lemma =>
        go_wp2_with fail
        go_meet
        exact ⟨J1, J3, B⟩
      case rest => as_aux_lemma =>
      clear B J1 J3 q2
      obtain ⟨J1, J3, B⟩ := hcut
      obtain ⟨wD, rfl⟩ : ∃ z, z = wc := ⟨_, rfl⟩
      go_wp2_with fail
      go_loopw [13, 99] (fun _  i wr => ∃ k : Nat, k ≤ (vWr S C Q m).length ∧ i = .int .i64 (k : Int) ∧ Below wD.heap.size wD wr) (fun _  i _ => (vWr S C Q m).length - (intOf i).toNat)
      case atStart => exact ⟨0, Nat.zero_le _, rfl, Below.refl _ _⟩
      case round =>
        obtain ⟨k, hk, rfl, BJ⟩ := hrel
        by_cases hlt : k < (vWr S C Q m).length
        · have i1 : (0 : Int) ≤ (k : Int) := by omega
          have i2 : (k : Int) < ((vWr S C Q m).length : Int) := by omega
          obtain ⟨b, o, hbo, hbk, hck⟩ := J1.at hlt
          subst hbo
          have hckk := kept_cell BJ (hck k hlt) hbk
          obtain ⟨xk, hxk⟩ : ∃ xk, xk = gi (vWr S C Q m) k := ⟨_, rfl⟩
          have hmm : xk ∈ (vWr S C Q (m + 1)) := F3.out xk (by rw [hxk]; exact gi_mem hlt)
          rw [← hxk] at hckk
          have hh := hasInt_any a3 (vWr S C Q (m + 1)) k3 xk wr (by omega) (J3.below BJ)
          rw [show hasTo (vWr S C Q (m + 1)) xk (vWr S C Q (m + 1)).length = true from (hasTo_iff _ _ _).2 (mem_gi hmm)] at hh
          clear hck hxk hmm
          go_wp2_with fail
          refine hh.mono ?_
          rintro e w77 ⟨rfl, hb⟩
          replace BJ := BJ.trans (hb.mono BJ.size)
          clear hh hb hckk
          go_wp2_with fail
          go_roundw
          case rel => exact ⟨k + 1, by omega, by go_num, BJ⟩
          case measure => simp [intOf]; omega
        · have i2 : ¬ (k : Int) < ((vWr S C Q m).length : Int) := by omega
          replace B := B.trans (BJ.mono B.size)
          replace J1 := J1.below BJ
          clear BJ J3 F3
          obtain ⟨wA, rfl⟩ : ∃ z, z = wr := ⟨_, rfl⟩
          go_wp2_with fail
          go_loopw [14, 112] (fun _  i wr => ∃ k : Nat, k ≤ C.length ∧ i = .int .i64 (k : Int) ∧ Below wA.heap.size wA wr) (fun _  i _ => C.length - (intOf i).toNat)
          case atStart => exact ⟨0, Nat.zero_le _, rfl, Below.refl _ _⟩
          case round =>
            obtain ⟨k, hk, rfl, BJ⟩ := hrel
            by_cases hlt : k < C.length
            · have i1 : (0 : Int) ≤ (k : Int) := by omega
              have i2 : (k : Int) < (C.length : Int) := by omega
              obtain ⟨b, o, hbo, hbk, hck⟩ := (ICX.below B).at hlt
              obtain ⟨rfl, rfl⟩ : gC = b ∧ 0 = o := by simpa using hbo
              have hckk := kept_cell BJ (hck k hlt) hbk
              rw [Nat.zero_add] at hckk
              obtain ⟨xk, hxk⟩ : ∃ xk, xk = gi C k := ⟨_, rfl⟩
              have hmm : xk ∈ (vWr S C Q m) := F4.out xk (by rw [hxk]; exact gi_mem hlt)
              rw [← hxk] at hckk
              have hh := hasInt_any a1 (vWr S C Q m) k1 xk wr (by omega) (J1.below BJ)
              rw [show hasTo (vWr S C Q m) xk (vWr S C Q m).length = true from (hasTo_iff _ _ _).2 (mem_gi hmm)] at hh
              clear hck hxk hmm
              go_wp2_with fail
              refine hh.mono ?_
              rintro e w77 ⟨rfl, hb⟩
              replace BJ := BJ.trans (hb.mono BJ.size)
              clear hh hb hckk
              go_wp2_with fail
              go_roundw
              case rel => exact ⟨k + 1, by omega, by go_num, BJ⟩
              case measure => simp [intOf]; omega
            · have i2 : ¬ (k : Int) < (C.length : Int) := by omega
              go_wp2_with fail
              go_meet
              exact B.trans (BJ.mono B.size)
    | false =>
      clear hqm hq cc
      go_wp2_with fail
      go_meet
      exact B
  case rest => as_aux_lemma =>
  clear B cc J1 hqm
  replace BW : Below W.heap.size W wc := B3.trans (hcut.mono B3.size)
  clear hcut B3 hS8 hCl IX ICX IQX lX cX hQc hQl n1 n3
  have hYd : Byts wc wc.heap.size a n := (hY.keep fun b o v hb h => kept_cell BW h hb).mono BW.size
  have hc := drawCc_any a n cap hn wc hYd
  go_wp2_with fail
  refine hc.mono ?_
  rintro e w7 ⟨ay, T, cy, gD, cD, D, aP, P, cP, rfl, hI, _, hT8, own, hDl, IP, hPc, hPl, hb⟩
  replace BW := BW.trans (hb.mono BW.size)
  have ID := own_ints own
  clear hYd hc hb own
  obtain ⟨Vb, hVb⟩ : ∃ z, z = w7.heap.size := ⟨_, rfl⟩
  obtain ⟨v4, hv4⟩ : ∃ z, z = w7.alloc (.cells #[.slice ay T.length cy] 26) := ⟨_, rfl⟩
  have RVb : v4.heap[Vb]? = some (.cells #[.slice ay T.length cy] 26 (0, 0)) := by rw [hv4, hVb]; exact heap_alloc_new _ _
  have IVb : Ints v4 ay T := by rw [hv4]; exact hI.below ((Below.refl _ _).alloc (Nat.le_refl _) _)
  have IDVb : Ints v4 (some ⟨gD, 0, none⟩) D := by rw [hv4]; exact ID.below ((Below.refl _ _).alloc (Nat.le_refl _) _)
  have IPVb : Ints v4 aP P := by rw [hv4]; exact IP.below ((Below.refl _ _).alloc (Nat.le_refl _) _)
  have bVb : Below w7.heap.size w7 v4 := by rw [hv4]; exact (Below.refl _ _).alloc (Nat.le_refl _) _
  replace BW : Below W.heap.size W v4 := BW.trans (bVb.mono BW.size)
  have lVb : Vb < v4.heap.size := row_lt RVb
  have HVb := Lib.hid hVb
  have Hv4 := Lib.hid hv4
  have cVb := cell_of1' RVb
  clear hVb hv4 hI RVb bVb ID IP
  have BV := BW
  clear BW
  have B := Below.refl v4.heap.size v4
  have n1 := vCcS_len T D P
  have n2 := vCcC_len T D P
  have hc := impl_CodeByColumns_o ay T cy (by omega) (some ⟨gD, 0, none⟩) D cD (by omega) aP P cP (by omega) hPc v4 (IVb.below B) (IDVb.below B) (IPVb.below B)
  go_wp2_with fail
  rw [← Hv4.out, ← HVb.out]
  refine hc.mono ?_
  rintro e w8 ⟨M, vs, v, rfl, hM0, hRow, oS, oC, hM1, hb⟩
  obtain ⟨aH1, cH1, hvs⟩ := own_shp oS
  obtain ⟨aG1, cG1, hvc⟩ := own_shp oC
  subst hvs hvc
  have JS1 := own_ints oS
  have JC1 := own_ints oC
  replace B := B.trans (hb.mono B.size)
  clear hc hb oS oC hM0 hRow hM1
  obtain ⟨X2, hX2⟩ : ∃ z, z = w8.heap.size := ⟨_, rfl⟩
  obtain ⟨v5, hv5⟩ : ∃ z, z = w8.alloc (.cells #[.slice aH1 (vCcS T D P).length cH1] 26) := ⟨_, rfl⟩
  have RX2 : v5.heap[X2]? = some (.cells #[.slice aH1 (vCcS T D P).length cH1] 26 (0, 0)) := by rw [hv5, hX2]; exact heap_alloc_new _ _
  have hb : Below w8.heap.size w8 v5 := by rw [hv5]; exact (Below.refl _ _).alloc (Nat.le_refl _) _
  replace JS1 := JS1.below hb
  replace JC1 := JC1.below hb
  replace B := B.trans (hb.mono B.size)
  have lX2 : X2 < v5.heap.size := row_lt RX2
  have HX2 := Lib.hid hX2
  have Hv5 := Lib.hid hv5
  have cX2 := cell_of1' RX2
  clear hb hX2 hv5 RX2
  go_upto_region 26 with fail
  rw [← Hv5.out, ← HX2.out]
  have cc9 := kept_cell B cVb lVb
  have B2 := Below.refl v5.heap.size v5
  have hc := spec_CodeByColumns_o ay T cy (by omega) (some ⟨gD, 0, none⟩) D cD (by omega) aP P cP (by omega) hPc v5 (IVb.below B) (IDVb.below B) (IPVb.below B)
  go_wp2_with fail
  refine hc.mono ?_
  rintro e w9 ⟨M, vs, v, rfl, hM0, hRow, oS, oC, hM1, hb⟩
  obtain ⟨aH2, cH2, hvs⟩ := own_shp oS
  obtain ⟨aG2, cG2, hvc⟩ := own_shp oC
  subst hvs hvc
  have JS2 := own_ints oS
  have JC2 := own_ints oC
  replace JS1 := JS1.below hb
  replace JC1 := JC1.below hb
  replace B := B.trans (hb.mono B.size)
  replace B2 := B2.trans (hb.mono B2.size)
  clear hc hb oS oC hM0 hRow hM1
  obtain ⟨X3, hX3⟩ : ∃ z, z = w9.heap.size := ⟨_, rfl⟩
  obtain ⟨v6, hv6⟩ : ∃ z, z = w9.alloc (.cells #[.slice aH2 (vCcS T D P).length cH2] 26) := ⟨_, rfl⟩
  have RX3 : v6.heap[X3]? = some (.cells #[.slice aH2 (vCcS T D P).length cH2] 26 (0, 0)) := by rw [hv6, hX3]; exact heap_alloc_new _ _
  have hb : Below w9.heap.size w9 v6 := by rw [hv6]; exact (Below.refl _ _).alloc (Nat.le_refl _) _
  replace JS1 := JS1.below hb
  replace JC1 := JC1.below hb
  replace JS2 := JS2.below hb
  replace JC2 := JC2.below hb
  replace B := B.trans (hb.mono B.size)
  replace B2 := B2.trans (hb.mono B2.size)
  have lX3 : X3 < v6.heap.size := row_lt RX3
  have HX3 := Lib.hid hX3
  have Hv6 := Lib.hid hv6
  have cX3 := cell_of1' RX3
  clear hb hX3 hv6 RX3
  go_upto_region 27 with fail
  rw [← Hv6.out, ← HX3.out]
  clear cc
  replace cVb := kept_cell B cVb lVb
  replace lVb := lt_of_below B lVb
  replace cX2 := kept_cell B2 cX2 lX2
  replace lX2 := lt_of_below B2 lX2
  replace IVb := IVb.below B
  replace IDVb := IDVb.below B
  replace IPVb := IPVb.below B
  replace BV : Below W.heap.size W v6 := BV.trans (B.mono BV.size)
  clear B B2 HVb Hv4 HX2 Hv5 HX3 Hv6
  have B := Below.refl v6.heap.size v6
  have hc := spaces5_same aH1 aH2 (vCcS T D P) cH1 cH2 v6 (by omega) JS1 JS2
  go_wp2_with fail
  refine hc.mono ?_
  rintro e w10 ⟨rfl, hb⟩
  replace JS1 := JS1.below hb
  replace JC1 := JC1.below hb
  replace JS2 := JS2.below hb
  replace JC2 := JC2.below hb
  replace B := B.trans (hb.mono B.size)
  clear hc hb
  clear cX3 lX3
  have hc := likeInts_same aG1 aG2 (vCcC T D P) cG1 cG2 w10 (by omega) JC1 JC2
  go_wp2_with fail
  refine hc.mono ?_
  rintro e w11 ⟨rfl, hb⟩
  replace JS1 := JS1.below hb
  replace JC1 := JC1.below hb
  replace JS2 := JS2.below hb
  replace JC2 := JC2.below hb
  replace B := B.trans (hb.mono B.size)
  clear hc hb
  clear JS2 JC2
  go_upto_if 161 with fail
  go_cut [24, 25, 26, 27, 28, 29, 30, 31, 32] from 39 (fun _ _ _ _ _ _ _ _ _ wx => Below v6.heap.size v6 wx)
  case first => as_aux_lemma =>
    clear BV hY
    by_cases hE : eCc T D P = 0
    · have hE0 : (eCc T D P == 0) = true := by simpa using hE
      obtain ⟨s1, s2, ⟨s3, s3'⟩, ⟨s4, s4'⟩, s5, s6⟩ := bk_all hE
      have S6 := Lib.hid s6
      obtain ⟨N, hN⟩ : ∃ N, N = vCount T := ⟨_, rfl⟩
      obtain ⟨M, hM⟩ : ∃ M, M = vCount (vCcS T D P) := ⟨_, rfl⟩
      rw [← hN] at s3 s3' s5 S6
      rw [← hM] at s4 s4' s5
      have mu : (0 : Int) ≤ ((vCcC T D P).length : Int) * N ∧ ((vCcC T D P).length : Int) * N ≤ 1048576 := ⟨Int.mul_nonneg (by omega) (by omega), by have := Int.mul_le_mul (show ((vCcC T D P).length : Int) ≤ 1024 by omega) (show N ≤ 1024 by omega) (by omega) (by omega); omega⟩
      have e1 : IntKind.i64.wrap (((vCcC T D P).length : Int) * N) = ((vCcC T D P).length : Int) * N := IntWalk.i64_in _ ⟨by omega, by omega⟩
      have e2 : IntKind.i64.wrap ((D.length : Int) * M) = (D.length : Int) * M := IntWalk.i64_in _ ⟨by omega, by omega⟩
      have q1 : (((vCcC T D P).length : Int) * N != (D.length : Int) * M) = false := by rw [s5]; simp
      have q2 : ¬ N < 1 := by omega
      have HN := Lib.hid hN
      have HM := Lib.hid hM
      clear mu s5 s6 hE hN hM
      have cc := kept_cell B cVb lVb
      have cc2 := kept_cell B cX2 lX2
      have hc := impl_CountWords ay T cy (by omega) w11 (IVb.below B)
      rw [s1, ← HN.out] at hc
      go_wp2_with fail
      refine hc.mono ?_
      rintro e w12 ⟨rfl, hb⟩
      replace JS1 := JS1.below hb
      replace JC1 := JC1.below hb
      replace B := B.trans (hb.mono B.size)
      have cc := kept_cell B cVb lVb
      have cc2 := kept_cell B cX2 lX2
      clear hc hb
      have hc := impl_CountWords aH1 (vCcS T D P) cH1 (by omega) w12 JS1
      rw [s2, ← HM.out] at hc
      go_wp2_with fail
      refine hc.mono ?_
      rintro e w13 ⟨rfl, hb⟩
      replace JS1 := JS1.below hb
      replace JC1 := JC1.below hb
      replace B := B.trans (hb.mono B.size)
      have cc := kept_cell B cVb lVb
      have cc2 := kept_cell B cX2 lX2
      clear hc hb
      clear s1 s2 s3 s3'
      by_cases h243 : M ≤ 243
      · go_wp2_with fail
        go_loopw [28, 29, 30, 31, 32] (fun s28 _ _ _ _ wr => ∃ r : Nat, r ≤ 3 ∧ s28 = .int .i64 (r : Int) ∧ Below w13.heap.size w13 wr) (fun s28 _ _ _ _ _ => 3 - (intOf s28).toNat)
        case atStart => exact ⟨0, by omega, rfl, Below.refl _ _⟩
        case round =>
          clear q1 q2 h243
          obtain ⟨r, hr3, rfl, BJ⟩ := hrel
          by_cases hlt : r < 3
          · have i1 : (r : Int) < 3 := by omega
            obtain ⟨t1, t2, t3⟩ := S6.out (r : Int) (by omega) (by omega)
            have B := B.trans (BJ.mono B.size)
            have cc := kept_cell B cVb lVb
            have cc2 := kept_cell B cX2 lX2
            have JS1 := JS1.below BJ
            have JC1 := JC1.below BJ
            have hw : IntKind.i64.wrap ((r : Int) + 1) = ((r + 1 : Nat) : Int) := (IntWalk.i64_in _ ⟨by omega, by omega⟩).trans (by omega)
            have n9 := vWr_len T D P (r : Int)
            have BJ0 := BJ
            have hc := impl_WordsReached ay T cy (by omega) (some ⟨gD, 0, none⟩) D cD (by omega) aP P cP (by omega) (r : Int) ⟨by omega, by omega⟩ wr (IVb.below B) (IDVb.below B) (IPVb.below B)
            rw [t1] at hc
            go_wp2_with fail
            refine hc.mono ?_
            rintro e w14 ⟨v9', rfl, own9, hb⟩
            replace JS1 := JS1.below hb
            replace JC1 := JC1.below hb
            replace B := B.trans (hb.mono B.size)
            replace BJ := BJ.trans (hb.mono BJ.size)
            replace cc := kept_cell B cVb lVb
            replace cc2 := kept_cell B cX2 lX2
            clear hc hb
            obtain ⟨a9, k9, hv9⟩ := own_shp own9
            subst hv9
            clear own9
            have hc := impl_CoversSpace aH1 (vCcS T D P) cH1 (by omega) aG1 (vCcC T D P) cG1 (by omega) (r : Int) ⟨by omega, by omega⟩ w14 JS1 JC1
            rw [t2, t3] at hc
            go_wp2_with fail
            refine hc.mono ?_
            rintro e w15 ⟨rfl, hb⟩
            replace JS1 := JS1.below hb
            replace JC1 := JC1.below hb
            replace B := B.trans (hb.mono B.size)
            replace BJ := BJ.trans (hb.mono BJ.size)
            replace cc := kept_cell B cVb lVb
            replace cc2 := kept_cell B cX2 lX2
            clear hc hb
            clear t1 t2 t3 cc cc2 BJ0
            go_wp2_with fail
            go_roundw
            case rel => exact ⟨r + 1, by omega, by first | rfl | go_num, BJ⟩
            case measure => simp [intOf]; omega
          · have i1 : ¬ (r : Int) < 3 := by omega
            clear cc cc2
            go_wp2_with fail
            go_meet
            exact B.trans (BJ.mono B.size)
      · clear cc cc2
        go_wp2_with fail
        go_meet
        exact B
    · have hE0 : (eCc T D P == 0) = false := by simpa using hE
      clear hE
      go_wp2_with fail
      go_meet
      exact B
  case rest => as_aux_lemma =>
  clear B JS1 JC1 n1 n2
  have BW : Below W.heap.size W wc := BV.trans (hcut.mono BV.size)
  clear hcut BV hT8 hDl IVb IDVb IPVb hPc hPl cVb lVb cX2 lX2
  have hYd : Byts wc wc.heap.size a n := (hY.keep fun b o v hb h => kept_cell BW h hb).mono BW.size
  have hc := drawLd_any a n cap hn wc hYd
  go_wp2_with fail
  refine hc.mono ?_
  rintro e w16 ⟨az, U, cz, aR, R, cR, rfl, hI, _, hU8, IR, hRc, hRl, hb⟩
  replace BW := BW.trans (hb.mono BW.size)
  clear hYd hc hb hY
  obtain ⟨Z, hZ⟩ : ∃ z, z = w16.heap.size := ⟨_, rfl⟩
  obtain ⟨v7, hv7⟩ : ∃ z, z = w16.alloc (.cells #[.slice az U.length cz] 26) := ⟨_, rfl⟩
  have RZ : v7.heap[Z]? = some (.cells #[.slice az U.length cz] 26 (0, 0)) := by rw [hv7, hZ]; exact heap_alloc_new _ _
  have IZ : Ints v7 az U := by rw [hv7]; exact hI.below ((Below.refl _ _).alloc (Nat.le_refl _) _)
  have IRZ : Ints v7 aR R := by rw [hv7]; exact IR.below ((Below.refl _ _).alloc (Nat.le_refl _) _)
  have bZ : Below w16.heap.size w16 v7 := by rw [hv7]; exact (Below.refl _ _).alloc (Nat.le_refl _) _
  replace BW : Below W.heap.size W v7 := BW.trans (bZ.mono BW.size)
  have lZ : Z < v7.heap.size := row_lt RZ
  have HZ := Lib.hid hZ
  have Hv7 := Lib.hid hv7
  have cZ := cell_of1' RZ
  clear hZ hv7 hI RZ bZ IR
  have B := Below.refl v7.heap.size v7
  have hc := impl_AreLed az U cz (by omega) aR R cR (by omega) hRc v7 (IZ.below B) (IRZ.below B)
  go_wp2_with fail
  rw [← Hv7.out, ← HZ.out]
  refine hc.mono ?_
  rintro e w17 ⟨rfl, hb⟩
  replace B := B.trans (hb.mono B.size)
  have cc := kept_cell B cZ lZ
  clear hc hb
  have hc := spec_AreLed az U cz (by omega) aR R cR (by omega) hRc w17 (IZ.below B) (IRZ.below B)
  go_wp2_with fail
  refine hc.mono ?_
  rintro e w18 ⟨rfl, hb⟩
  replace B := B.trans (hb.mono B.size)
  have cc := kept_cell B cZ lZ
  clear hc hb
  go_wp2_with fail
  go_ret
  exact ⟨by first | rfl | simp, BW.trans (B.mono BW.size)⟩

end Go.Proofs.Ytamebfbddoeflaa
