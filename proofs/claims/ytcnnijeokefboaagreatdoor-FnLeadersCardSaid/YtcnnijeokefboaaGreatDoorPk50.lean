/-
  Texts put together: LawFnLeaders, Open, OpenB, DoorV, EndFnLeaders. By an AI agent.
-/
import Derived.Test.YtcnnijeokefboaaGreatDoorPkDrwU5
import Derived.Test.YtcnnijeokefboaaGreatDoorPk39
import Derived.Test.YtcnnijeokefboaaGreatDoorPk41
import Derived.Test.YtcnnijeokefboaaGreatDoorPk44
import Derived.Test.YtcnnijeokefboaaGreatDoorPk45
import Derived.Test.YtcnnijeokefboaaGreatDoorPk46
import Derived.Test.YtcnnijeokefboaaGreatDoorFar5
import Derived.Test.YtcnnijeokefboaaGreatDoorPk47
import Derived.Test.YtcnnijeokefboaaGreatDoorPk49
import Derived.Test.YtcnnijeokefboaaGreatDoorFam
import Derived.Test.YtcnnijeokefboaaGreatDoorF1
import Derived.Deep.RegionHeld3
import Derived.Deep.Cut
import Derived.Test.YtcnnijeokefboaaGreatDoorMem
import Derived.ProofKit
import Derived.OpenShut
import Derived.Test.YtcnnijeokefboaaGreatDoorPk26
import Derived.Test.YtcnnijeokefboaaGreatDoorPk38
import Derived.ChangeSame
import Derived.ChangeVars
import Derived.JoinedOf
import Derived.RowKit
import Derived.RowKitTokens
import Derived.LaidLaws
import Derived.Stop.ErrReads
import Derived.Below
import Derived.ShutString
import Derived.ChangeOld
import Derived.Conc.Holds
import Derived.Leaving
namespace Go.Proofs.YtcnnijeokefboaaGreatDoor
open Go.RowKit Cv
set_option linter.unusedVariables false
set_option linter.unusedSimpArgs false
set_option maxRecDepth 100000

set_option maxHeartbeats 8000000 in
theorem law_FnLeaders (a : Option Addr) (n cap : Nat) (W : World) (pv : Value) (hG : Glob pv W) (hY : Byts W W.heap.size a n) :
    Calls Tryz.prog 4 #[.slice a n cap] W fun e w' => e = .returned (.bool true) ∧ Below W.heap.size W w' := by
  have hbig := big_any a n cap W
  by_cases hn4 : 4096 < n
  · rw [decide_eq_true hn4] at hbig
    clear hY hn4 hG
    go_enter Tryz.func4, Tryz.ntmps4
    go_wp2_with fail
    refine hbig.mono ?_
    rintro e w1 ⟨rfl, hb⟩
    clear hbig
    go_wp2_with fail
    go_ret
    exact ⟨rfl, hb⟩
  rw [decide_eq_false hn4] at hbig
  have hn : n ≤ 4096 := by omega
  clear hn4
  go_enter Tryz.func4, Tryz.ntmps4
  go_wp2_with fail
  refine hbig.mono ?_
  rintro e w1 ⟨rfl, BW⟩
  clear hbig
  have hYd : Byts w1 w1.heap.size a n := (hY.keep fun b o v hb h => kept_cell BW h hb).mono BW.size
  have hc := drawNr_any a n cap hn w1 hYd
  go_wp2_with fail
  refine hc.mono ?_
  rintro e w2 ⟨ax, S, cx, g, cg, C, y, rfl, hI, _, hS8, own, hCl, hy, hb⟩
  replace BW := BW.trans (hb.mono BW.size)
  have IC := own_ints own
  clear hYd hc hb own
  obtain ⟨X, hX⟩ : ∃ z, z = w2.heap.size := ⟨_, rfl⟩
  obtain ⟨v3, hv3⟩ : ∃ z, z = w2.alloc (.cells #[.slice ax S.length cx] 26) := ⟨_, rfl⟩
  have RX : v3.heap[X]? = some (.cells #[.slice ax S.length cx] 26 (0, 0)) := by rw [hv3, hX]; exact heap_alloc_new _ _
  have IX : Ints v3 ax S := by rw [hv3]; exact hI.below ((Below.refl _ _).alloc (Nat.le_refl _) _)
  have ICX : Ints v3 (some ⟨g, 0, none⟩) C := by rw [hv3]; exact IC.below ((Below.refl _ _).alloc (Nat.le_refl _) _)
  have bX : Below w2.heap.size w2 v3 := by rw [hv3]; exact (Below.refl _ _).alloc (Nat.le_refl _) _
  replace BW : Below W.heap.size W v3 := BW.trans (bX.mono BW.size)
  have lX : X < v3.heap.size := row_lt RX
  have HX := Lib.hid hX
  have Hv3 := Lib.hid hv3
  have cX := cell_of1' RX
  clear hX hv3 hI RX bX IC
  have B := Below.refl v3.heap.size v3
  have B3 := BW
  have n1 := vLds_len S C
  have n2 := vWc_len S C
  have hc := impl_NearestWord ax S cx (by omega) (some ⟨g, 0, none⟩) C cg (by omega) y hy pv v3 (hG.below (B3.trans (B.mono B3.size)) hG.2) (IX.below B) (ICX.below B)
  go_wp2_with fail
  rw [← Hv3.out, ← HX.out]
  refine hc.mono ?_
  rintro e w3 ⟨rfl, hb⟩
  replace B := B.trans (hb.mono B.size)
  have cc := kept_cell B cX lX
  clear hc hb
  have hc := spec_NearestWord ax S cx (by omega) (some ⟨g, 0, none⟩) C cg (by omega) y hy w3 (IX.below B) (ICX.below B)
  go_wp2_with fail
  refine hc.mono ?_
  rintro e w4 ⟨rfl, hb⟩
  replace B := B.trans (hb.mono B.size)
  have cc := kept_cell B cX lX
  clear hc hb
  have hc := impl_LeadersOf ax S cx (by omega) (some ⟨g, 0, none⟩) C cg (by omega) pv w4 (hG.below (B3.trans (B.mono B3.size)) hG.2) (IX.below B) (ICX.below B)
  go_wp2_with fail
  refine hc.mono ?_
  rintro e w5 ⟨v1', rfl, own1, hb⟩
  replace B := B.trans (hb.mono B.size)
  have cc := kept_cell B cX lX
  clear hc hb
  obtain ⟨a1, k1, hv1⟩ := own_shp own1
  subst hv1
  have J1 := own_ints own1
  clear own1
  have hc := spec_LeadersOf ax S cx (by omega) (some ⟨g, 0, none⟩) C cg (by omega) w5 (IX.below B) (ICX.below B)
  go_wp2_with fail
  refine hc.mono ?_
  rintro e w6 ⟨v2', rfl, own2, hb⟩
  replace J1 := J1.below hb
  replace B := B.trans (hb.mono B.size)
  have cc := kept_cell B cX lX
  clear hc hb
  obtain ⟨a2, k2, hv2⟩ := own_shp own2
  subst hv2
  have J2 := own_ints own2
  clear own2
  have hc := impl_RadiusByLeaders ax S cx (by omega) (some ⟨g, 0, none⟩) C cg (by omega) pv w6 (hG.below (B3.trans (B.mono B3.size)) hG.2) (IX.below B) (ICX.below B)
  go_wp2_with fail
  refine hc.mono ?_
  rintro e w7 ⟨rfl, hb⟩
  replace J1 := J1.below hb
  replace J2 := J2.below hb
  replace B := B.trans (hb.mono B.size)
  have cc := kept_cell B cX lX
  clear hc hb
  have hc := spec_RadiusByLeaders ax S cx (by omega) (some ⟨g, 0, none⟩) C cg (by omega) w7 (IX.below B) (ICX.below B)
  go_wp2_with fail
  refine hc.mono ?_
  rintro e w8 ⟨rfl, hb⟩
  replace J1 := J1.below hb
  replace J2 := J2.below hb
  replace B := B.trans (hb.mono B.size)
  have cc := kept_cell B cX lX
  clear hc hb
  have hc := impl_WeightCounts ax S cx (by omega) (some ⟨g, 0, none⟩) C cg (by omega) w8 (IX.below B) (ICX.below B)
  go_wp2_with fail
  refine hc.mono ?_
  rintro e w9 ⟨v3', rfl, own3, hb⟩
  replace J1 := J1.below hb
  replace J2 := J2.below hb
  replace B := B.trans (hb.mono B.size)
  have cc := kept_cell B cX lX
  clear hc hb
  obtain ⟨a3, k3, hv3⟩ := own_shp own3
  subst hv3
  have J3 := own_ints own3
  clear own3
  have hc := spec_WeightCounts ax S cx (by omega) (some ⟨g, 0, none⟩) C cg (by omega) w9 (IX.below B) (ICX.below B)
  go_wp2_with fail
  refine hc.mono ?_
  rintro e w10 ⟨v4', rfl, own4, hb⟩
  replace J1 := J1.below hb
  replace J2 := J2.below hb
  replace J3 := J3.below hb
  replace B := B.trans (hb.mono B.size)
  have cc := kept_cell B cX lX
  clear hc hb
  obtain ⟨a4, k4, hv4⟩ := own_shp own4
  subst hv4
  have J4 := own_ints own4
  clear own4
  have hc := likeInts_same a1 a2 (vLds S C) k1 k2 w10 (by omega) J1 J2
  go_wp2_with fail
  refine hc.mono ?_
  rintro e w11 ⟨rfl, hb⟩
  replace J1 := J1.below hb
  replace J2 := J2.below hb
  replace J3 := J3.below hb
  replace J4 := J4.below hb
  replace B := B.trans (hb.mono B.size)
  have cc := kept_cell B cX lX
  clear hc hb
  clear J2
  have hc := likeInts_same a3 a4 (vWc S C) k3 k4 w11 (by omega) J3 J4
  go_wp2_with fail
  refine hc.mono ?_
  rintro e w12 ⟨rfl, hb⟩
  replace J1 := J1.below hb
  replace J3 := J3.below hb
  replace J4 := J4.below hb
  replace B := B.trans (hb.mono B.size)
  have cc := kept_cell B cX lX
  clear hc hb
  clear J4
  go_upto_if 136 with fail
  go_cut [22, 23, 24, 25] from 135 (fun _ _ _ _ wx => Below v3.heap.size v3 wx)
  case first => as_aux_lemma =>
    clear BW B3 hY hG
    by_cases hE : eLin S C = 0
    · have hE0 : (eLin S C == 0) = true := by simpa using hE
      obtain ⟨f0, f1, f2, f3, f4, f5, f6, f7, f8⟩ := ld_all hE
      have f9 := vLds_len S C
      have hCb : C.length ≤ 1024 := by obtain ⟨q1, q2⟩ := lin_gp (eLin_zero hE).1 (eLin_zero hE).2; exact nd_words f0 q2.nd q2.wd
      have mu : (0 : Int) ≤ ((vLds S C).length : Int) * (C.length : Int) ∧ ((vLds S C).length : Int) * (C.length : Int) ≤ 1048576 := ⟨Int.mul_nonneg (by omega) (by omega), by have := Int.mul_le_mul (show ((vLds S C).length : Int) ≤ 1024 by omega) (show (C.length : Int) ≤ 1024 by omega) (by omega) (by omega); omega⟩
      have e1 : IntKind.i64.wrap (((vLds S C).length : Int) * (C.length : Int)) = ((vLds S C).length : Int) * (C.length : Int) := IntWalk.i64_in _ ⟨by omega, by omega⟩
      have q1 : (((vLds S C).length : Int) * (C.length : Int) != vCount S) = false := by rw [f2]; simp
      have q2 : (vRadius S C != vRad S C) = false := by rw [f4]; simp
      have F8 := Lib.hid f8
      have F7 : Hid (wsT (fun _ => 1) (vWc S C) (vWc S C).length = (C.length : Int)) := Lib.hid (by rw [f6]; exact f7)
      clear f0 f2 f4 f5 f6 f7 f8 mu hE hCb
      have hc := impl_CountWords ax S cx (by omega) w12 (IX.below B)
      rw [f1] at hc
      go_wp2_with fail
      refine hc.mono ?_
      rintro e w13 ⟨rfl, hb⟩
      replace J1 := J1.below hb
      replace J3 := J3.below hb
      replace B := B.trans (hb.mono B.size)
      have cc := kept_cell B cX lX
      clear hc hb
      have hc := impl_RadiusOf ax S cx (by omega) (some ⟨g, 0, none⟩) C cg (by omega) w13 (IX.below B) (ICX.below B)
      rw [f3] at hc
      go_wp2_with fail
      refine hc.mono ?_
      rintro e w14 ⟨rfl, hb⟩
      replace J1 := J1.below hb
      replace J3 := J3.below hb
      replace B := B.trans (hb.mono B.size)
      have cc := kept_cell B cX lX
      clear hc hb
      have hs := sum_any a3 (vWc S C) k3 1048576 (by omega) F8.out w14 (by omega) J3
      rw [F7.out] at hs
      clear f1 f3 cc
      go_wp2_with fail
      refine hs.mono ?_
      rintro e w40 ⟨rfl, hb⟩
      clear hs
      go_wp2_with fail
      go_meet
      exact B.trans (hb.mono B.size)
    · have hE0 : (eLin S C == 0) = false := by simpa using hE
      clear hE cc
      go_wp2_with fail
      go_meet
      exact B
  case rest => as_aux_lemma =>
  clear B cc J1 J3 HX Hv3 n1 n2
  have B := hcut
  clear hcut
  have cc := kept_cell B cX lX
  go_upto_if 176 with fail
  go_cut [26, 27, 28, 29, 30] from 175 (fun _ _ _ _ _ wx => Below v3.heap.size v3 wx)
  case first => as_aux_lemma =>
    clear BW B3 hY hG
    by_cases hE : eNrW S C y = 0
    · have hE0 : (eNrW S C y == 0) = true := by simpa using hE
      obtain ⟨f1, f2, f3, f4, f5, f6⟩ := ld_near hE
      have F6 := Lib.hid f6
      have F2 := Lib.hid f2
      have q1 : ¬ vRad S C < vDist S (vNrW S C y) y := by omega
      clear f1 f2 f4 f6 hE
      have hc := impl_DistanceOf ax S cx (by omega) (vNrW S C y) (by omega) y hy wc (IX.below B)
      rw [f3] at hc
      go_wp2_with fail
      refine hc.mono ?_
      rintro e w15 ⟨rfl, hb⟩
      replace B := B.trans (hb.mono B.size)
      have cc' := kept_cell B cX lX
      clear hc hb
      have hh := hasInt_any (some ⟨g, 0, none⟩) C cg (vNrW S C y) w15 (by omega) (ICX.below B)
      rw [show hasTo C (vNrW S C y) C.length = true from (hasTo_iff _ _ _).2 (mem_gi F2.out)] at hh
      clear f3 f5
      go_wp2_with fail
      refine hh.mono ?_
      rintro e w16 ⟨rfl, hb⟩
      clear hh
      replace B := B.trans (hb.mono B.size)
      clear hb cc cc'
      go_wp2_with fail
      go_loopw [28, 29, 30, 199] (fun u1 u2 u3 i wr => ∃ k : Nat, k ≤ C.length ∧ i = .int .i64 (k : Int) ∧ Below v3.heap.size v3 wr) (fun _ _ _ i _ => C.length - (intOf i).toNat)
      case atStart => exact ⟨0, Nat.zero_le _, rfl, B⟩
      case round =>
        obtain ⟨k, hk, rfl, BJ⟩ := hrel
        by_cases hlt : k < C.length
        · have i1 : (0 : Int) ≤ (k : Int) := by omega
          have i2 : (k : Int) < (C.length : Int) := by omega
          obtain ⟨b, o, hbo, hbk, hck⟩ := ICX.at hlt
          obtain ⟨rfl, rfl⟩ : g = b ∧ 0 = o := by simpa using hbo
          have hckk := kept_cell BJ (hck k hlt) hbk
          rw [Nat.zero_add] at hckk
          obtain ⟨g1, g2, g3⟩ := F6.out k hlt
          obtain ⟨xk, hxk⟩ : ∃ xk, xk = gi C k := ⟨_, rfl⟩
          rw [← hxk] at hckk g1 g2 g3
          have q2 : (eWords S [xk, y] != 0) = false := by rw [g1]; rfl
          have q3 : ¬ vDist S xk y < vDist S (vNrW S C y) y := by omega
          have hcX := kept_cell BJ cX lX
          have lXr := lt_of_below BJ lX
          have lgr : g < wr.heap.size := lt_of_below BJ hbk
          have hxb : -9223372036854775808 ≤ xk ∧ xk ≤ 9223372036854775807 := by omega
          clear hck hxk g1 g2 g3
          go_wp2_with fail
          go_region_held3 (fun w' => w'.cell? ⟨X, 0, none⟩ = some (.slice ax S.length cx) ∧ w'.cell? ⟨g, k, none⟩ = some (.int .i64 xk)) (first | exact ⟨hcX, hckk⟩ | exact ⟨kept_cell hb hcX lXr, kept_cell hb hckk lgr⟩) ((go_at_call 40; refine (impl_DistanceOf ax S cx (by omega) xk hxb y hy _ (IX.below BJ.drew)).mono ?_; rintro e w44 ⟨rfl, hb'⟩; have hb : Below wr.heap.size wr w44 := (Below.refl wr.heap.size wr).drew.trans hb'))
          replace BJ := BJ.trans (hb.mono BJ.size)
          clear hb hb' hcX hckk lXr lgr
          go_wp2_with fail
          go_roundw
          case rel => exact ⟨k + 1, by omega, by go_num, BJ⟩
          case measure => simp [intOf]; omega
        · have i2 : ¬ (k : Int) < (C.length : Int) := by omega
          go_wp2_with fail
          go_meet
          exact BJ
    · have hE0 : (eNrW S C y == 0) = false := by simpa using hE
      clear hE cc
      go_wp2_with fail
      go_meet
      exact B
  case rest => as_aux_lemma =>
  clear B cc
  replace BW : Below W.heap.size W wc := B3.trans (hcut.mono B3.size)
  clear hcut B3 hS8 hCl hy IX ICX lX cX hG
  have hYd : Byts wc wc.heap.size a n := (hY.keep fun b o v hb h => kept_cell BW h hb).mono BW.size
  have hc := drawWc_any a n cap hn wc hYd
  go_wp2_with fail
  refine hc.mono ?_
  rintro e w17 ⟨ay, T, cy, g2, cg2, D, rfl, hI, _, hT8, own, hDl, hb⟩
  replace BW := BW.trans (hb.mono BW.size)
  have ID := own_ints own
  clear hYd hc hb own
  obtain ⟨Vb, hVb⟩ : ∃ z, z = w17.heap.size := ⟨_, rfl⟩
  obtain ⟨v4, hv4⟩ : ∃ z, z = w17.alloc (.cells #[.slice ay T.length cy] 26) := ⟨_, rfl⟩
  have RVb : v4.heap[Vb]? = some (.cells #[.slice ay T.length cy] 26 (0, 0)) := by rw [hv4, hVb]; exact heap_alloc_new _ _
  have IVb : Ints v4 ay T := by rw [hv4]; exact hI.below ((Below.refl _ _).alloc (Nat.le_refl _) _)
  have IDVb : Ints v4 (some ⟨g2, 0, none⟩) D := by rw [hv4]; exact ID.below ((Below.refl _ _).alloc (Nat.le_refl _) _)
  have bVb : Below w17.heap.size w17 v4 := by rw [hv4]; exact (Below.refl _ _).alloc (Nat.le_refl _) _
  replace BW : Below W.heap.size W v4 := BW.trans (bVb.mono BW.size)
  have lVb : Vb < v4.heap.size := row_lt RVb
  have HVb := Lib.hid hVb
  have Hv4 := Lib.hid hv4
  have cVb := cell_of1' RVb
  clear hVb hv4 hI RVb bVb ID
  have B := Below.refl v4.heap.size v4
  have n2 := vWc_len T D
  have hc := impl_WeightCounts ay T cy (by omega) (some ⟨g2, 0, none⟩) D cg2 (by omega) v4 (IVb.below B) (IDVb.below B)
  go_wp2_with fail
  rw [← Hv4.out, ← HVb.out]
  refine hc.mono ?_
  rintro e w18 ⟨v1', rfl, own1, hb⟩
  replace B := B.trans (hb.mono B.size)
  have cc := kept_cell B cVb lVb
  clear hc hb
  obtain ⟨a1, k1, hv1⟩ := own_shp own1
  subst hv1
  have J1 := own_ints own1
  clear own1
  have hc := spec_WeightCounts ay T cy (by omega) (some ⟨g2, 0, none⟩) D cg2 (by omega) w18 (IVb.below B) (IDVb.below B)
  go_wp2_with fail
  refine hc.mono ?_
  rintro e w19 ⟨v2', rfl, own2, hb⟩
  replace J1 := J1.below hb
  replace B := B.trans (hb.mono B.size)
  have cc := kept_cell B cVb lVb
  clear hc hb
  obtain ⟨a2, k2, hv2⟩ := own_shp own2
  subst hv2
  have J2 := own_ints own2
  clear own2
  have hc := likeInts_same a1 a2 (vWc T D) k1 k2 w19 (by omega) J1 J2
  go_wp2_with fail
  refine hc.mono ?_
  rintro e w20 ⟨rfl, hb⟩
  replace J1 := J1.below hb
  replace J2 := J2.below hb
  replace B := B.trans (hb.mono B.size)
  have cc := kept_cell B cVb lVb
  clear hc hb
  go_wp2_with fail
  go_ret
  exact ⟨by first | rfl | simp, BW.trans (B.mono BW.size)⟩

end Go.Proofs.YtcnnijeokefboaaGreatDoor

namespace Go.Proofs.YtcnnijeokefboaaGreatDoor
open Go.RowKit Go.ChangeShapes Go.WideShapes Go.ChangeAt Cv
set_option linter.unusedVariables false
set_option maxRecDepth 100000

theorem own : ownKnob Tryz.prog.godebug = none := by kernel_rfl
theorem laidOut : laidOutB Tryz.prog = true := by kernel_rfl

theorem wf_i64_bd {n : Int} (h : (Lit.int .i64 n).wf = true) : -9223372036854775808 ≤ n ∧ n ≤ 9223372036854775807 := by
  simpa [Lit.wf, IntKind.min, IntKind.max, IntKind.signed, IntKind.bits] using h

theorem row_ints {H : Type} {enc : TypeId × Value → H} {W : World} {sp : Nat → Bool} {fuel : Nat} {v : Value} {x : DataW H × List MemPlace} {a : Option Addr} {len cap : Nat} (hv : v = .slice a len cap)
    (hf : DataW.trod enc Tryz.prog W 0 sp true fuel 24 [v] = some x) : ∃ S : List Int, len = S.length ∧ S.length ≤ 9223372036854775807 ∧ Ints W a S := by
  subst hv
  rcases open_ints Tryz.underlying24 Tryz.underlying2 (by kernel_rfl) hf with ⟨hcs, _⟩ | ⟨ad, l, c, zs, hcs, _, hl, hm, hz, _, hcell, hwz⟩
  · simp only [List.cons.injEq, Value.slice.injEq, and_true] at hcs
    exact ⟨[], by simp [hcs.2.1], by simp, .inl rfl⟩
  · simp only [List.cons.injEq, Value.slice.injEq, and_true] at hcs
    obtain ⟨ha, hlen, hcap⟩ := hcs
    unfold maxLen at hm
    have hlz : l ≤ zs.length := by rw [hz]; split <;> omega
    have hlt : (zs.take l).length = l := by rw [List.length_take]; omega
    refine ⟨zs.take l, by rw [hlt]; exact hlen, by omega, ?_⟩
    by_cases h0 : l = 0
    · exact .inl (by omega)
    · obtain ⟨b, off, spot⟩ := ad
      have hc0 := hcell 0 (by omega)
      have hspot : spot = none := by simpa [Addr.add] using World.cell?_spot hc0
      subst hspot
      refine .inr ⟨b, off, ha, World.block_lt_of_cell? W _ hc0, fun i hi => ?_⟩
      have hci := hcell i (by omega)
      have e : gi (zs.take l) i = zs.getD i 0 := by rw [gi_take _ _ _ (by omega)]; rfl
      rw [e, ← hci]
      congr 1
      unfold Addr.add
      split
      · simp_all
      · rfl

theorem open_intsv {H : Type} {enc : TypeId × Value → H} {W : World} {base : Nat} {sp : Nat → Bool} {v : Value} {d : DataW H} {p : List MemPlace} (hv : Value.okWide Tryz.prog W .any base 24 v) (h : DataW.Trod enc Tryz.prog W 0 sp true 24 v d p) :
    ∃ (a : Option Addr) (S : List Int) (cap : Nat), v = .slice a S.length cap ∧ S.length ≤ 9223372036854775807 ∧ Ints W a S := by
  obtain ⟨a, len, cap, rfl⟩ := okWide_slice Tryz.underlying24 hv
  obtain ⟨fuel, hf⟩ := h
  obtain ⟨S, hl, h1, h2⟩ := row_ints rfl (by simpa [Value.cells] using hf)
  subst hl
  exact ⟨a, S, cap, rfl, h1, h2⟩




end Go.Proofs.YtcnnijeokefboaaGreatDoor

namespace Go.Proofs.YtcnnijeokefboaaGreatDoor
open Go.RowKit Go.ChangeShapes Go.WideShapes Go.ChangeAt Cv
set_option linter.unusedVariables false
set_option maxRecDepth 100000

theorem row_bytes {H : Type} {enc : TypeId × Value → H} {W : World} {sp : Nat → Bool} {fuel : Nat} {v : Value} {x : DataW H × List MemPlace} {a : Option Addr} {len cap : Nat} (hv : v = .slice a len cap)
    (hf : DataW.trod enc Tryz.prog W 0 sp true fuel 22 [v] = some x) : Byts W W.heap.size a len := by
  subst hv
  rcases open_ints Tryz.underlying22 Tryz.underlying5 (by kernel_rfl) hf with ⟨hcs, _⟩ | ⟨ad, l, c, zs, hcs, _, hl, hm, hz, _, hcell, hwz⟩
  · simp only [List.cons.injEq, Value.slice.injEq, and_true] at hcs
    exact .inl hcs.2.1
  · simp only [List.cons.injEq, Value.slice.injEq, and_true] at hcs
    obtain ⟨ha, hlen, hcap⟩ := hcs
    have hlz : l ≤ zs.length := by rw [hz]; split <;> omega
    by_cases h0 : l = 0
    · exact .inl (by omega)
    · obtain ⟨b, off, spot⟩ := ad
      have hc0 := hcell 0 (by omega)
      have hspot : spot = none := by simpa [Addr.add] using World.cell?_spot hc0
      subst hspot
      refine .inr ⟨b, off, ha, World.block_lt_of_cell? W _ hc0, fun i hi => ?_⟩
      have hlt : i < zs.length := by omega
      have hci := hcell i hlt
      have hw := hwz (zs.getD i 0) (by rw [List.getD_eq_getElem?_getD, List.getElem?_eq_getElem hlt]; exact List.getElem_mem hlt)
      simp [Lit.wf, IntKind.min, IntKind.max, IntKind.signed, IntKind.bits] at hw
      refine ⟨zs.getD i 0, by simp; omega, by simp; omega, ?_⟩
      rw [← hci]
      congr 1
      unfold Addr.add
      split
      · simp_all
      · rfl

theorem open_bytesv {H : Type} {enc : TypeId × Value → H} {W : World} {base : Nat} {sp : Nat → Bool} {v : Value} {d : DataW H} {p : List MemPlace} (hv : Value.okWide Tryz.prog W .any base 22 v) (h : DataW.Trod enc Tryz.prog W 0 sp true 22 v d p) :
    ∃ (a : Option Addr) (n cap : Nat), v = .slice a n cap ∧ Byts W W.heap.size a n := by
  obtain ⟨a, len, cap, rfl⟩ := okWide_slice Tryz.underlying22 hv
  obtain ⟨fuel, hf⟩ := h
  exact ⟨a, len, cap, rfl, row_bytes rfl (by simpa [Value.cells] using hf)⟩

end Go.Proofs.YtcnnijeokefboaaGreatDoor

namespace Go.Proofs.YtcnnijeokefboaaGreatDoor.DoorVar
open Go.ChangeShapes Go.WideShapes Go.RowKit
set_option linter.unusedVariables false
set_option maxRecDepth 100000

abbrev nm : String := "loop.example/g01411/impl.errNotLinear"
abbrev laid1 : List (String × DataW Unit) := [(nm, Rows.laid_loop_example_g01411_impl_errNotLinear)]
theorem glob : Tryz.prog.globalNamed nm = some 0 := by kernel_rfl
theorem globType : (Tryz.prog.globals[0]?).map (·.type) = some 97 := by kernel_rfl
theorem cellsE : Tryz.prog.cellsOf 171 = 1 := by kernel_rfl
theorem cellsS : Tryz.prog.cellsOf 9 = 1 := by kernel_rfl
theorem star : "*" ++ "errors.errorString" = "*errors.errorString" := by decide
theorem rowE (u : TypeId) (h : Tryz.prog.typeName? 3 u = some "*errors.errorString") : u = 153 :=
  typeName_ptr_named (nm := "errors.errorString") (by rw [star]; kernel_rfl) (by kernel_rfl) (by decide) u (by rw [star]; exact h)

theorem sentinel_of_laid {W : World} (h : laidMet Tryz.prog laid1 W) : ∃ a0 : Addr, W.var? Tryz.prog nm = some #[.iface 153 (.pointer (some a0))] := by
  obtain ⟨ps, ⟨g0, t0, cs0, f0, p0, q0, hg0, ht0, hv0, hd0, hq0, e0⟩, hnd, hrows⟩ := h
  obtain rfl := Option.some.inj (glob.symm.trans hg0)
  obtain rfl := Option.some.inj (globType.symm.trans ht0)
  have hq0' : q0 = [] := hq0
  subst hq0'
  subst e0
  obtain ⟨l0⟩ := cs0
  have ok0 : ∀ u v, l0 = [.iface u v] → Value.okWide Tryz.prog W .any 0 u v := fun u v e => by
    subst e
    exact (hrows 0 0 (by simp [MemPlace.row])).2 u v (by simpa using World.var?_cell hg0 hv0 0)
  obtain ⟨a0, s0, rfl, hc0, hs0, hz0, rfl⟩ := errorString_of_trod Tryz.underlying97 rowE Tryz.underlying153 Tryz.underlying171 rfl rfl Tryz.underlying9 cellsE cellsS hd0 ok0
  exact ⟨a0, hv0⟩

abbrev txt : ByteArray := { data := #[116, 104, 101, 32, 99, 111, 100, 101, 32, 105, 115, 32, 110, 111, 116, 32, 108, 105, 110, 101, 97, 114] }
noncomputable def low : Nat := (World.holding Tryz.prog default ⟨#[], #[], []⟩).heap.size
noncomputable def laidWorld (os : Os) : World :=
  let w0 := World.holding Tryz.prog os ⟨#[.cells #[.string txt] 171], #[], []⟩
  { w0 with heap := w0.heap.modify 0 fun
      | .cells _ t frozen => .cells #[.iface 153 (.pointer (some ⟨low, 0, none⟩))] t frozen
      | o => o }
theorem laidWorld_met (os : Os) (args : Array Value) : laidMet Tryz.prog laid1 ((laidWorld os).forCall (fun _ _ => 0) ⟨#[], args, []⟩).memory :=
  laidMet_of_run (ps := [.cell 0 0, .cell low 0]) 8 (by kernel_rfl) (by kernel_rfl) (by kernel_rfl)

theorem var_block {W W' : World} {cs : Array Value} (h : W.var? Tryz.prog nm = some cs) (hb : W'.heap[0]? = W.heap[0]?) : W'.var? Tryz.prog nm = some cs := by
  unfold World.var? at h ⊢
  simp only [glob, Option.bind_some] at h ⊢
  rw [hb]; exact h
theorem var_read {H : Type} (enc : TypeId × Value → H) {W : World} {x0 : Value} (h0 : W.var? Tryz.prog nm = some #[x0]) (i0 : IsIface x0) (sp : Nat → Bool) :
    DataW.TrodVars enc Tryz.prog W sp [nm] [tok enc x0] [.cell 0 0] :=
  ⟨0, 97, #[x0], 1, [], [], glob, globType, h0, trod_held Tryz.underlying97 i0 0, rfl, rfl⟩
theorem glob_of {W : World} {a0 : Addr} (hv : W.var? Tryz.prog nm = some #[.iface 153 (.pointer (some a0))]) : Glob (.pointer (some a0)) W := by
  have hg0 : W.cell? ⟨0, 0, none⟩ = some (.iface 153 (.pointer (some a0))) := by simpa using World.var?_cell glob hv 0
  refine ⟨hg0, ?_⟩
  rcases Nat.lt_or_ge 0 W.heap.size with h | h
  · exact h
  · simp [World.cell?, Array.getElem?_eq_none h] at hg0

end Go.Proofs.YtcnnijeokefboaaGreatDoor.DoorVar

namespace Go.Proofs.YtcnnijeokefboaaGreatDoor.fnLeadersClosed
open Go.ChangeShapes Go.WideShapes Go.ChangeAt Go.RowKit
open Go.ChangeMaps (open_string shut_string)
open Go.Proofs.YtcnnijeokefboaaGreatDoor.DoorVar
set_option linter.unusedVariables false

set_option maxRecDepth 100000 in
theorem lifted (os : Os) (started : os.Started) (H : Type) (enc : TypeId × Value → H) :
    ReturnsInHanded {} Tryz.checked os 4 .any (fun w args => (Rows.fnLeadersSpec.pre enc Tryz.prog Tryz.f4 [] false w args ∧ laidMet Tryz.prog laid1 w) ∧ sizedMet enc Tryz.prog Tryz.f4 (OpenSpec.ofChange Rows.fnLeadersSpec) false w args)
      (Rows.fnLeadersSpec.post enc Tryz.prog Tryz.f4 false true false false) := by
  refine returnsInHanded_of_change_and (C := Tryz.checked) (X := fun w _ => laidMet Tryz.prog laid1 w) (fun _ _ _ hh h => h.of_heap hh) own started (by kernel_rfl) Tryz.func4
    (ChangeSpec.witness_at (enc := enc) (C := Tryz.checked) (os := os) (X := fun w _ => laidMet Tryz.prog laid1 w) false (laidWorld os) #[.slice none 0 0] 8 rfl (by kernel_rfl) (by kernel_rfl) (by kernel_rfl) (by kernel_rfl) (by kernel_rfl) (laidWorld_met os _)) ?_
  intro W base args ds gs before hval0 hW _ _ hL _
  have hval : ∀ (j : Nat) t v, Tryz.f4.params[j]? = some t → args[j]? = some v → Value.okWide Tryz.prog W .any base t v := hval0
  have hW' := hW
  obtain ⟨p, q, hA0, hV0, rfl, hfz, hnd⟩ := hW
  have hV : DataW.TrodVars enc Tryz.prog W (fun _ => true) [nm] gs q := hV0
  have hA : DataW.TrodAll enc Tryz.prog W 0 (fun _ => true) true Tryz.f4.params.toList args.toList ds p := hA0
  rw [Tryz.params4] at hA hval
  obtain ⟨v0, vs0, d0, ds0, p0, q0, hargs, rfl, rfl, h0, r0⟩ := trodAll_cons hA
  obtain ⟨rfl, rfl, rfl⟩ := trodAll_nil r0
  obtain rfl : args = #[v0] := by cases args; simp_all
  obtain ⟨e0, hv0⟩ := sentinel_of_laid hL
  obtain ⟨rfl, rfl⟩ := hV.unique (var_read enc hv0 trivial _)
  have hGl := glob_of hv0
  have k0 := h0
  have lt0 : ∀ x ∈ p0, x.block < W.heap.size := by obtain ⟨m, hm⟩ := k0; exact DataW.trod_lt m _ _ _ hm
  obtain ⟨ao0, n0, cap0, rfl, hY0⟩ := open_bytesv (hval 0 22 v0 rfl rfl) h0
  clear hA0 hval0
  refine (law_FnLeaders ao0 n0 cap0 W _ hGl hY0).mono fun e W' ⟨he, bel⟩ => ?_
  subst he
  exact ⟨_, rfl, _, _, _, [], _, [.cell 0 0], hW', trodAll_mk1 (shut_bool Tryz.underlying4 _), (trodAll_cons_mk (Below.trod laidOut (by kernel_rfl) (of_decide_eq_true (by kernel_rfl)) k0 bel lt0) trodAll_mk0), var_read enc (var_block hv0 (bel.block 0 hGl.2)) trivial _, bel.frame _, fun h => by cases h⟩

theorem leaves {a : Assume} {C : Checked} {os : Os} {f : FuncId} {r : Reach} {Pre : World → Array Value → Prop} {Post : World → Array Value → Value → World → Prop} (h : ReturnsInHanded a C os f r Pre Post) : ReturnsInLeavingWide a C os f r Pre Post :=
  fun enter => ReturnsInOpen.mono (fun _ _ _ x => ⟨x.2.1, onlyLeaving_of_quiet x.1, x.2.2⟩) (fun _ x => x) (h enter)

theorem over : Rows.fnLeadersRow.holds Tryz.pinned (OpenSpec.ofChange Rows.fnLeadersSpec) := by
  first
  | exact OpenClaim.holds_of_wide 4 Tryz.f4 rfl rfl rfl rfl rfl rfl rfl ⟨rfl, rfl, rfl, rfl, rfl⟩ rfl rfl rfl rfl rfl (by kernel_rfl) Tryz.func4 (by kernel_rfl)
      (of_decide_eq_true (by kernel_rfl)) (by unfold Func.isWrapper; first | (rw [if_pos (by decide +kernel)]; kernel_rfl) | (rw [if_neg (by decide +kernel)]; exact ⟨rfl, rfl⟩))
      (fun os started H enc _ => lifted os started H enc)
  | exact OpenClaim.holds_of_wide_leaving 4 Tryz.f4 rfl rfl rfl rfl rfl rfl rfl ⟨rfl, rfl, rfl, rfl, rfl⟩ rfl rfl rfl rfl rfl (by kernel_rfl) Tryz.func4 (by kernel_rfl)
      (of_decide_eq_true (by kernel_rfl)) (by unfold Func.isWrapper; first | (rw [if_pos (by decide +kernel)]; kernel_rfl) | (rw [if_neg (by decide +kernel)]; exact ⟨rfl, rfl⟩))
      (fun os started H enc _ => leaves (lifted os started H enc))

theorem proved : Rows.FnLeadersSaid := over
end Go.Proofs.YtcnnijeokefboaaGreatDoor.fnLeadersClosed
