/-
  The contract of the program's DoPart. By an AI agent.
-/
import Derived.Test.YtcbkmmadejbbpaaMathQ
import Derived.Test.YtcbkmmadejbbpaaShift
import Derived.Test.YtcbkmmadejbbpaaCovd
import Derived.Test.YtcbkmmadejbbpaaNum
import Derived.Test.YtcbkmmadejbbpaaSetEq
import Derived.Test.YtcbkmmadejbbpaaErr2
import Derived.Test.YtcbkmmadejbbpaaAllW
import Derived.Test.YtcbkmmadejbbpaaMark
import Derived.Deep.RegionHeld3
namespace Go.Proofs.Ytcbkmmadejbbpaa
open Go.RowKit Go.Shelf Cv
set_option linter.unusedVariables false
set_option linter.unusedSimpArgs false
set_option maxRecDepth 100000

set_option maxHeartbeats 1000000 in
theorem shiftedSet_any (ao : Option Addr) (S : List Int) (cap : Nat) (ac : Addr) (C : List Int) (capc : Nat) (hz : eCode S C = 0) (x : Int) (hx : 0 ≤ x ∧ x < nW S) (w : World) (hS : Ints w ao S) (hC : Ints w (some ac) C) :
    Calls Try.prog 70 #[.agg #[.slice ao S.length cap], .slice (some ac) C.length capc, .int .i64 x] w fun e w' => e = .returned (.agg (setA (inL (shW S C x)))) ∧ Below w.heap.size w w' := by
  have hSp := (eCode_zero hz).1
  have hN := nW_bd hSp
  have hs8 := hSp.hi
  have hcl := code_len0 hz
  have he : eShift S C x = 0 := by rw [eShift_w (eWords_ok ((isSp_iff S).2 hSp) fun i hi => by match i, hi with | 0, _ => rw [gi1]; exact hx)]; exact hz
  have hv : vShift S C x = shW S C x := by unfold vShift; rw [if_pos he, shW_sorted hz]
  have hln := shW_le S C x
  have HB : Hid (∀ i, i < (shW S C x).length → 0 ≤ gi (shW S C x) i ∧ gi (shW S C x) i < 1024) := Lib.hid fun i hi => by have := shW_bd hSp C x hi; omega
  have B0 : Below w.heap.size w ((w.alloc (.cells #[.slice ao S.length cap] 26)).alloc (.cells (setA fun _ => false) 81)) := by go_grown
  have hcall := impl_ShiftCode ao S cap (by omega) ac C capc (by omega) x ⟨by omega, by omega⟩ _ (hS.below B0) (hC.below B0)
  rw [he, hv] at hcall
  have r0 : RowAt ((w.alloc (.cells #[.slice ao S.length cap] 26)).alloc (.cells (setA fun _ => false) 81)) (w.heap.size + 1) (fun _ => false) := rown_new _ _ (by simp)
  obtain ⟨L, hL⟩ : ∃ L, L = shW S C x := ⟨_, rfl⟩
  rw [← hL] at hcall HB hln ⊢
  rw [setA_none] at B0 hcall r0
  have HCL := Lib.hid hcall
  clear hL hv he hcall hz
  go_enter Try.func70, Try.ntmps70
  go_wp2_with fail
  refine HCL.out.mono ?_
  rintro e w1 ⟨v, rfl, own, hb⟩
  obtain ⟨a_, k_, hv⟩ := own.shape
  subst hv
  have B1 := B0.trans (hb.mono B0.size)
  have r1 := r0.below hb (by simp)
  have l1 : w.heap.size + 1 < w1.heap.size := lt_of_below hb (by simp)
  clear r0 hb B0 HCL
  go_wp2_with fail
  refine (setOf_any a_ L k_ (by omega) HB.out _ (own_ints own)).mono ?_
  rintro e w2 ⟨rfl, hb⟩
  have r2 := r1.below hb l1
  go_wp2_with (first | (refine wpList_st16 rfl _ _ rfl r2 (inL L) rfl rfl ?_))
  (try simp only [Exit.inBlock, Exit.then])
  refine bodyPost_ret (results16 rfl _ (row_set r2) rfl) rfl ?_
  exact ⟨rfl, (B1.trans (hb.mono B1.size)).grown (grown_setRow _) (by have := B1.size; have := hb.size; omega) fun j hj => by cases hj; omega⟩

theorem mkT_lt {S : List Int} (hS : Sp S) (C T : List Int) (k u : Nat) (h : mkT S C T k u = true) : u < (nW S).toNat := by
  unfold mkT shC at h
  rw [decide_eq_true_eq, cnt_pos] at h
  obtain ⟨j, _, hj⟩ := h
  unfold inL at hj
  rw [decide_eq_true_eq] at hj
  obtain ⟨i, hi, e⟩ := mem_gi hj
  have := shW_bd hS C (gi T j) hi
  rw [e] at this; omega
theorem do_eq {S : List Int} (hS : Sp S) (C T : List Int) : doB S C T = (((T.length : Int) * (C.length : Int) == nW S) && eqS (mkT S C T T.length) (allN S)) := by
  have hN := nW_bd hS
  unfold doB
  congr 1
  rw [Bool.eq_iff_iff, decide_eq_true_eq, eqS_iff]
  have hm : ∀ u, mkT S C T T.length u = true ↔ ∃ j, j < T.length ∧ inL (shW S C (gi T j)) u = true := fun u => by
    unfold mkT shC; rw [decide_eq_true_eq, cnt_pos]
  constructor
  · intro h u _
    unfold allN
    by_cases hu : u < (nW S).toNat
    · rw [(hm u).2 (h u hu), decide_eq_true hu]
    · rw [decide_eq_false hu]
      cases e : mkT S C T T.length u with
      | true => exact absurd (mkT_lt hS C T _ u e) hu
      | false => rfl
  · intro h u hu
    have h1 := h u (by omega)
    unfold allN at h1
    rw [decide_eq_true hu] at h1
    exact (hm u).1 h1

theorem eSome_wd' {S C T : List Int} (h : eCode S C = 0) (g : eSome S C T = 0) (k : Nat) (hk : k < T.length) : 0 ≤ gi T k ∧ gi T k < nW S := by
  by_cases q : 0 ≤ gi T k ∧ gi T k < nW S
  · exact q
  · rw [eSome_w h hk q] at g; omega
set_option maxHeartbeats 4000000 in
theorem impl_DoPart (ao : Option Addr) (S : List Int) (cap : Nat) (hn : S.length ≤ 4294967296) (ac : Option Addr) (C : List Int) (capc : Nat) (hnc : C.length ≤ 4294967296) (at' : Option Addr) (T : List Int) (capt : Nat) (hnt : T.length ≤ 4294967296) (w : World) (hS : Ints w ao S) (hC : Ints w ac C) (hT : Ints w at' T) :
    Calls Try.prog 30 #[.agg #[.slice ao S.length cap], .slice ac C.length capc, .slice at' T.length capt] w fun e w' => e = .returned (.tuple #[.bool (vDo S C T), .int .i64 (eSome S C T)]) ∧ Below w.heap.size w w' := by
  have B0 : Below w.heap.size w (w.alloc (.cells #[.slice ao S.length cap] 26)) := by go_grown
  have c0 := cell_new w (.slice ao S.length cap) 26
  have l0 := lt_alloc w (.cells #[.slice ao S.length cap] 26)
  by_cases hs : eSome S C T = 0
  · obtain ⟨hz, hw, h0⟩ := eSome_zero hs
    have hsn : (eSome S C T != 0) = false := by simp [hs]
    obtain ⟨hSp, hc1, hc2⟩ := eCode_zero hz
    obtain ⟨N1, N2⟩ := nW_bd hSp
    have hlen := code_len hSp hc1 hc2
    have HS := Lib.hid hs
    have HZ := Lib.hid hz
    have HV : Hid (vDo S C T = doB S C T) := Lib.hid (by unfold vDo; rw [if_pos hs])
    have HD := Lib.hid (do_eq hSp C T)
    have HWD := Lib.hid (eSome_wd' hz hs)
    have HSp := Lib.hid hSp
    obtain ⟨bc, oc, rfl, hbc, _⟩ := hC.at h0
    have EM : IntKind.i64.wrap ((T.length : Int) * (C.length : Int)) = (T.length : Int) * (C.length : Int) := IntWalk.i64_in _ (by
      have h1 : (T.length : Int) * (C.length : Int) ≤ 4294967296 * 1024 := Int.mul_le_mul (by omega) (by omega) (by omega) (by omega)
      have h2 : 0 ≤ (T.length : Int) * (C.length : Int) := Int.mul_nonneg (by omega) (by omega)
      exact ⟨by omega, by omega⟩)
    clear hc1 hc2 hz hs hw h0
    go_enter Try.func30, Try.ntmps30
    go_wp2_with fail
    refine (someWordsError_n ao S cap hn (some ⟨bc, oc, none⟩) C capc hnc at' T T.length capt rfl hnt _ (hS.below B0) (hC.below B0) (hT.below B0)).mono ?_
    rintro e w1 ⟨rfl, hb⟩
    have c1 := kept_cell hb c0 l0
    have l1 := lt_of_below hb l0
    have B1 : Below w.heap.size w w1 := B0.trans (hb.mono B0.size)
    clear hb B0 c0 l0
    by_cases hm : (T.length : Int) * (C.length : Int) = nW S
    · have hmb : ((T.length : Int) * (C.length : Int) != nW S) = false := by simp [hm]
      have HD2 : Hid (vDo S C T = eqS (mkT S C T T.length) (allN S)) := Lib.hid (by rw [HV.out, HD.out, show ((T.length : Int) * (C.length : Int) == nW S) = true by simpa using hm, Bool.true_and])
      have HM := Lib.hid hm
      clear hm
      go_wp2_with fail
      refine (wordCount_sp ao S cap _ HSp.out (hS.below B1)).mono ?_
      rintro e w2 ⟨rfl, hb⟩
      have c2 := kept_cell hb c1 l1
      have l2 := lt_of_below hb l1
      have B2 : Below w.heap.size w w2 := B1.trans (hb.mono B1.size)
      have r2 : RowAt (w2.alloc (.cells #[.int .u64 0, .int .u64 0, .int .u64 0, .int .u64 0, .int .u64 0, .int .u64 0, .int .u64 0, .int .u64 0, .int .u64 0, .int .u64 0, .int .u64 0, .int .u64 0, .int .u64 0, .int .u64 0, .int .u64 0, .int .u64 0] 81)) w2.heap.size (fun _ => false) := rowz_new w2 rfl
      have c3 := kept_cell ((Below.refl _ w2).alloc (Nat.le_refl _) (.cells #[.int .u64 0, .int .u64 0, .int .u64 0, .int .u64 0, .int .u64 0, .int .u64 0, .int .u64 0, .int .u64 0, .int .u64 0, .int .u64 0, .int .u64 0, .int .u64 0, .int .u64 0, .int .u64 0, .int .u64 0, .int .u64 0] 81)) c2 l2
      have B3 : Below w.heap.size w (w2.alloc (.cells #[.int .u64 0, .int .u64 0, .int .u64 0, .int .u64 0, .int .u64 0, .int .u64 0, .int .u64 0, .int .u64 0, .int .u64 0, .int .u64 0, .int .u64 0, .int .u64 0, .int .u64 0, .int .u64 0, .int .u64 0, .int .u64 0] 81)) := B2.alloc B2.size _
      have l3 : w2.heap.size < (w2.alloc (.cells #[.int .u64 0, .int .u64 0, .int .u64 0, .int .u64 0, .int .u64 0, .int .u64 0, .int .u64 0, .int .u64 0, .int .u64 0, .int .u64 0, .int .u64 0, .int .u64 0, .int .u64 0, .int .u64 0, .int .u64 0, .int .u64 0] 81)).heap.size := by simp
      have hwb : w.heap.size < w2.heap.size := l2
      rw [← mkT_0 S C T] at r2
      clear hb c1 l1 B1 c2 l2
      go_wp2_with fail
      go_loopw [30] (fun i wr => ∃ k : Nat, k ≤ T.length ∧ i = .int .i64 k ∧ RowAt wr w2.heap.size (mkT S C T k) ∧ wr.cell? ⟨w.heap.size, 0, none⟩ = some (.slice ao S.length cap) ∧ w2.heap.size < wr.heap.size ∧ Below w.heap.size w wr) (fun i _ => T.length - (intOf i).toNat)
      case atStart => exact ⟨0, Nat.zero_le _, rfl, r2, c3, l3, B3⟩
      case round =>
        clear r2 c3 l3 B3
        obtain ⟨k, hk, rfl, r, c, l, B⟩ := hrel
        have hs := B.size
        by_cases hlt : k < T.length
        · obtain ⟨b, o, rfl, hbl, hc⟩ := hT.at hlt
          have hck : wr.cell? ⟨b, o + k, none⟩ = some (.int .i64 (gi T k)) := kept_cell B (hc k hlt) hbl
          have hlI : (k : Int) < (T.length : Int) := by omega
          have hwd := HWD.out k hlt
          have HSS := Lib.hid fun W h1 h2 => shiftedSet_any ao S cap ⟨bc, oc, none⟩ C capc HZ.out (gi T k) hwd W h1 h2
          have HST : Hid (mkT S C T (k + 1) = fun u => mkT S C T k u || inL (shW S C (gi T k)) u) := Lib.hid (mkT_step S C T k)
          obtain ⟨L, hL⟩ : ∃ L, L = shW S C (gi T k) := ⟨_, rfl⟩
          obtain ⟨P, hP⟩ : ∃ P, P = mkT S C T k := ⟨_, rfl⟩
          obtain ⟨P2, hP2⟩ : ∃ P2, P2 = mkT S C T (k + 1) := ⟨_, rfl⟩
          rw [← hL] at HSS HST
          rw [← hP] at HST r
          rw [← hP2] at HST
          have HP2 := Lib.hid hP2
          clear hc hwd hL hP hP2
          go_wp2_with fail
          refine wp_region_held_drew (S := fun w' => w'.cell? ⟨w.heap.size, 0, none⟩ = some (.slice ao S.length cap)) (by kernel_rfl) c (fun hHeld => ?_)
          refine wpAnyH_take (i := 1) (v := ?_) rfl (by kernel_rfl) (by kernel_rfl) (by kernel_rfl) (fun _ _ _ h => h) (Or.inl ⟨by rfl, ?_⟩) (by assumption) ?_
          rotate_left
          · (intro w hSw; (try dsimp only at hSw); go_simp; try (with_reducible rfl))
          (try simp only [Act.put, List.setIfInBounds_toArray, List.set_cons_zero, List.set_cons_succ])
          refine wpAnyH_take (i := 2) (v := ?_) rfl (by kernel_rfl) (by kernel_rfl) (by kernel_rfl) (fun _ _ _ h => h) (Or.inl ⟨by rfl, ?_⟩) (by assumption) ?_
          rotate_left
          · (intro w hSw; (try dsimp only at hSw); go_simp; try (with_reducible rfl))
          (try simp only [Act.put, List.setIfInBounds_toArray, List.set_cons_zero, List.set_cons_succ])
          refine wpAnyH_take (i := 3) (v := ?_) rfl (by kernel_rfl) (by kernel_rfl) (by kernel_rfl) (fun _ _ _ h => h) (Or.inl ⟨by rfl, ?_⟩) (by assumption) ?_
          rotate_left
          · (intro w hSw; (try dsimp only at hSw); go_simp; try (with_reducible rfl))
          (try simp only [Act.put, List.setIfInBounds_toArray, List.set_cons_zero, List.set_cons_succ])
          refine wpAnyH_ready (rs := [0, 4]) (by kernel_rfl) (by simp) ?_
          refine AllReadyH.cons rfl (fun K hK => ?_) ?_
          · refine wp_ld16 (.tmp 9) rfl (show RowAt wr.drew w2.heap.size P from r) (by kernel_rfl) ?_
            refine hK.out _ _ c (fun hHeld => ?_)
            clear hK K
            (try simp only [Act.put, List.setIfInBounds_toArray, List.set_cons_zero, List.set_cons_succ])
            refine wpAnyH_ready (rs := [4]) (by kernel_rfl) (by simp) ?_
            refine AllReadyH.cons rfl (fun K hK => ?_) AllReadyH.nil
            go_simp
            (go_at_call 70; refine (HSS.out _ (hS.below B.drew) (hC.below B.drew)).mono ?_)
            rintro e w5 ⟨rfl, hb5'⟩
            have hb5 : Below wr.heap.size wr w5 := (Below.refl _ wr).drew.trans hb5'
            have c5 := kept_cell hb5 c (by omega)
            have r5 := r.below hb5 l
            have l5 := lt_of_below hb5 l
            have B5 := B.trans (hb5.mono hs)
            refine hK.out _ _ c5 (fun hHeld => ?_)
            clear hK K
            (try simp only [Act.put, List.setIfInBounds_toArray, List.set_cons_zero, List.set_cons_succ])
            refine wpAnyH_ready (rs := [5]) (by kernel_rfl) (by simp) ?_
            refine AllReadyH.cons rfl (fun K hK => ?_) AllReadyH.nil
            go_simp
            (go_at_call 69; refine (with_any P (inL L) _).mono ?_)
            rintro e w6 ⟨rfl, hb6⟩
            have c6 := kept_cell hb6 c5 (by omega)
            have r6 := r5.below hb6 l5
            have l6 := lt_of_below hb6 l5
            have B6 := B5.trans (hb6.mono B5.size)
            rw [← HST.out]
            refine hK.out _ _ c6 (fun hHeld => ?_)
            clear hK K
            (try simp only [Act.put, List.setIfInBounds_toArray, List.set_cons_zero, List.set_cons_succ])
            refine wpAnyH_ready (rs := [6]) (by kernel_rfl) (by simp) ?_
            refine AllReadyH.cons rfl (fun K hK => ?_) AllReadyH.nil
            refine wp_st16 (.tmp 9) (.tmp 39) rfl r6 P2 (by kernel_rfl) (by rfl) ?_
            have r7 := row_set (q := P2) r6
            have c7 := (grown_setRow (w := w6) (b := w2.heap.size) (setA P2)).cell (a := ⟨w.heap.size, 0, none⟩) c6 (fun e => by have := Option.some.inj e; simp at this; omega)
            have B7 : Below w.heap.size w (w6.setRow w2.heap.size (setA P2)) := B6.grown (grown_setRow _) B6.size (by intro z hz; cases hz; omega)
            have l7 : w2.heap.size < (w6.setRow w2.heap.size (setA P2)).heap.size := by simp; omega
            obtain ⟨w7, hw7⟩ : ∃ w7, w7 = w6.setRow w2.heap.size (setA P2) := ⟨_, rfl⟩
            rw [← hw7] at r7 c7 B7 l7 ⊢
            clear hw7
            refine hK.out _ _ c7 (fun hHeld => ?_)
            clear hK K
            (try simp only [Act.put, List.setIfInBounds_toArray, List.set_cons_zero, List.set_cons_succ])
            refine wpAnyH_done (by kernel_rfl) ?_ _
            go_wp2_with fail
            go_roundw
            case rel => exact ⟨k + 1, by omega, by go_num, by rw [← HP2.out]; exact r7, c7, l7, B7⟩
            case measure => simp [intOf]; omega
          · refine AllReadyH.cons rfl (fun K hK => ?_) AllReadyH.nil
            go_simp
            (go_at_call 70; refine (HSS.out _ (hS.below B.drew) (hC.below B.drew)).mono ?_)
            rintro e w5 ⟨rfl, hb5'⟩
            have hb5 : Below wr.heap.size wr w5 := (Below.refl _ wr).drew.trans hb5'
            have c5 := kept_cell hb5 c (by omega)
            have r5 := r.below hb5 l
            have l5 := lt_of_below hb5 l
            have B5 := B.trans (hb5.mono hs)
            refine hK.out _ _ c5 (fun hHeld => ?_)
            clear hK K
            (try simp only [Act.put, List.setIfInBounds_toArray, List.set_cons_zero, List.set_cons_succ])
            refine wpAnyH_ready (rs := [0]) (by kernel_rfl) (by simp) ?_
            refine AllReadyH.cons rfl (fun K hK => ?_) AllReadyH.nil
            refine wp_ld16 (.tmp 9) rfl r5 (by kernel_rfl) ?_
            refine hK.out _ _ c5 (fun hHeld => ?_)
            clear hK K
            (try simp only [Act.put, List.setIfInBounds_toArray, List.set_cons_zero, List.set_cons_succ])
            refine wpAnyH_ready (rs := [5]) (by kernel_rfl) (by simp) ?_
            refine AllReadyH.cons rfl (fun K hK => ?_) AllReadyH.nil
            go_simp
            (go_at_call 69; refine (with_any P (inL L) _).mono ?_)
            rintro e w6 ⟨rfl, hb6⟩
            have c6 := kept_cell hb6 c5 (by omega)
            have r6 := r5.below hb6 l5
            have l6 := lt_of_below hb6 l5
            have B6 := B5.trans (hb6.mono B5.size)
            rw [← HST.out]
            refine hK.out _ _ c6 (fun hHeld => ?_)
            clear hK K
            (try simp only [Act.put, List.setIfInBounds_toArray, List.set_cons_zero, List.set_cons_succ])
            refine wpAnyH_ready (rs := [6]) (by kernel_rfl) (by simp) ?_
            refine AllReadyH.cons rfl (fun K hK => ?_) AllReadyH.nil
            refine wp_st16 (.tmp 9) (.tmp 39) rfl r6 P2 (by kernel_rfl) (by rfl) ?_
            have r7 := row_set (q := P2) r6
            have c7 := (grown_setRow (w := w6) (b := w2.heap.size) (setA P2)).cell (a := ⟨w.heap.size, 0, none⟩) c6 (fun e => by have := Option.some.inj e; simp at this; omega)
            have B7 : Below w.heap.size w (w6.setRow w2.heap.size (setA P2)) := B6.grown (grown_setRow _) B6.size (by intro z hz; cases hz; omega)
            have l7 : w2.heap.size < (w6.setRow w2.heap.size (setA P2)).heap.size := by simp; omega
            obtain ⟨w7, hw7⟩ : ∃ w7, w7 = w6.setRow w2.heap.size (setA P2) := ⟨_, rfl⟩
            rw [← hw7] at r7 c7 B7 l7 ⊢
            clear hw7
            refine hK.out _ _ c7 (fun hHeld => ?_)
            clear hK K
            (try simp only [Act.put, List.setIfInBounds_toArray, List.set_cons_zero, List.set_cons_succ])
            refine wpAnyH_done (by kernel_rfl) ?_ _
            go_wp2_with fail
            go_roundw
            case rel => exact ⟨k + 1, by omega, by go_num, by rw [← HP2.out]; exact r7, c7, l7, B7⟩
            case measure => simp [intOf]; omega
        · have hlI : ¬ (k : Int) < (T.length : Int) := by omega
          have ek : Hid (k = T.length) := Lib.hid (by omega)
          have fc := fam_cell c
          go_wp2_with fail
          refine wp_region_fam (by kernel_rfl) (by kernel_rfl) ?_
          go_big_quiet_want
          refine quiet_exec _ (fun w hw => by obtain ⟨y, rfl⟩ := hw; exact exec_ldRow (r.below (fam_below y) l) _ (.tmp 9) (by kernel_rfl) (by kernel_rfl)) ?_
          go_big_quiet_on
          simp only [Act.put, List.setIfInBounds_toArray, List.set_cons_zero, List.set_cons_succ]
          repeat (go_big_quiet_step (first | (go_at_call 71; exact fam_calls (wholeSet_any ao S cap HSp.out _ (hS.below (B.trans ((fam_below _).mono B.size)))))))
          go_big_quiet_want
          refine quiet_exec _ (fun w _ => exec_eqSet (p := mkT S C T k) (q := allN S) _ (.tmp 41) (.tmp 43) rfl rfl rfl) ?_
          go_big_quiet_on
          simp only [Act.put, List.setIfInBounds_toArray, List.set_cons_zero, List.set_cons_succ]
          repeat (go_big_quiet_step (fail))
          refine wpQuiet_nil ?_
          rintro _ ⟨y, rfl⟩
          have hb2 := fam_below y
          generalize fam wr y = w4 at hb2 ⊢
          clear fc
          go_wp2_with fail
          go_ret2
          exact ⟨by rw [HS.out, HD2.out, ← ek.out]; try rfl, B.trans (hb2.mono hs)⟩
    · have hmb : ((T.length : Int) * (C.length : Int) != nW S) = true := by simpa using hm
      have HD2 : Hid (vDo S C T = false) := Lib.hid (by rw [HV.out, HD.out, show ((T.length : Int) * (C.length : Int) == nW S) = false by simpa using hm, Bool.false_and])
      clear hm
      go_wp2_with fail
      refine (wordCount_sp ao S cap _ HSp.out (hS.below B1)).mono ?_
      rintro e w2 ⟨rfl, hb⟩
      go_wp2_with fail
      go_ret2
      exact ⟨by rw [HS.out, HD2.out]; try rfl, B1.trans (hb.mono B1.size)⟩
  · have hsn : (eSome S C T != 0) = true := by simpa using hs
    have HV : Hid (vDo S C T = false) := Lib.hid (by unfold vDo; rw [if_neg hs])
    clear hs
    go_enter Try.func30, Try.ntmps30
    go_wp2_with fail
    refine (someWordsError_n ao S cap hn ac C capc hnc at' T T.length capt rfl hnt _ (hS.below B0) (hC.below B0) (hT.below B0)).mono ?_
    rintro e w1 ⟨rfl, hb⟩
    go_wp2_with fail
    go_ret2
    exact ⟨by rw [HV.out]; try rfl, B0.trans (hb.mono B0.size)⟩

end Go.Proofs.Ytcbkmmadejbbpaa
