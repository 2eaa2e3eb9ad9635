/-
  The contract of the model of FirstShifts. By an AI agent.
-/
import Derived.Test.YtgcmkjbahikpiaaMathT
import Derived.Test.YtgcmkjbahikpiaaDoPS
import Derived.Test.YtgcmkjbahikpiaaTog3h
import Derived.Test.YtgcmkjbahikpiaaAppendAt
namespace Go.Proofs.Ytgcmkjbahikpiaa
open Go.RowKit Cv
set_option linter.unusedVariables false
set_option linter.unusedSimpArgs false
set_option maxRecDepth 100000

theorem clr_or (f : Nat → Bool) (L : List Int) (h : clrB f L = true) : aftB f L = orL f L := by unfold aftB; rw [if_pos h]
theorem clr_no (f : Nat → Bool) (L : List Int) (h : clrB f L = false) : aftB f L = f := by unfold aftB; rw [if_neg (by rw [h]; simp)]

set_option maxHeartbeats 4000000 in
theorem spec_FirstShifts (ao : Option Addr) (S : List Int) (cap : Nat) (hn : S.length ≤ 4294967296) (ac : Option Addr) (C : List Int) (capc : Nat) (hnc : C.length ≤ 4294967296) (w : World) (hS : Ints w ao S) (hC : Ints w ac C) :
    Calls Try.prog 40 #[.agg #[.slice ao S.length cap], .slice ac C.length capc] w fun e w' => ∃ v, e = .returned (.tuple #[v, .int .i64 (eFsh S C)]) ∧ OwnInts w' w.heap.size v (vFsh S C) ∧ Below w.heap.size w w' := by
  have B0 : Below w.heap.size w (w.alloc (.cells #[.slice ao S.length cap] 28)) := by go_grown
  have c0 := cell_new w (.slice ao S.length cap) 28
  have l0 := lt_alloc w (.cells #[.slice ao S.length cap] 28)
  have hg := l02Full_any ao S cap hn ac C capc hnc _ (hS.below B0) (hC.below B0)
  by_cases he : eFull S C = 0
  · obtain ⟨hz, h0⟩ := eFull_zero he
    obtain ⟨hSp, hc1, hc2⟩ := eCode_zero hz
    obtain ⟨N1, N2⟩ := nW_bd hSp
    have hcl := code_len0 hz
    obtain ⟨N, hN⟩ : ∃ N : Nat, nW S = (N : Int) := ⟨(nW S).toNat, by omega⟩
    have hNt : (nW S).toNat = N := by omega
    have HC1 : ∀ k, k < C.length → 0 ≤ gi C k ∧ gi C k ≤ 9223372036854775807 := fun k hk => by have := hc1 k hk; omega
    obtain ⟨bc, oc, rfl, hbc, _⟩ := hC.at h0
    have HNN := Lib.hid hN
    have HSp := Lib.hid hSp
    have hshf := fun (v : Nat) (hv : v < N) W h1 h2 => shifted_any ao S cap hSp ⟨bc, oc, none⟩ C capc hcl HC1 (v : Int) ⟨by omega, by omega⟩ W h1 h2
    have hmark := fun (v : Nat) (hv : v < N) base g f W h1 h2 own => l06Mark_any ao S cap hSp ⟨bc, oc, none⟩ C capc hcl HC1 (v : Int) ⟨by omega, by omega⟩ N HNN base g f W h1 h2 own
    have hHad := fun w => fs_had (S := S) (C := C) (w := w)
    have hNew := fun w v => fs_new (S := S) (C := C) (w := w) (v := v)
    have hNone := fun w => fs_none (S := S) (C := C) (w := w)
    have hBad := fun w => fs_bad (S := S) (C := C) (w := w)
    have hfsV : ∀ f w, (∀ j, j < N → fsG S C f w j = false) → ¬ fsV S C f w < (nW S).toNat := fun f w h g => by
      have := (fstI_lt g).1
      rw [hNt] at g
      have h2 := h _ g
      unfold fsV at h2
      rw [h2] at this; cases this
    have HE4 : Hid ((fsTo S C N).ok = false → eFsh S C = 4 ∧ vFsh S C = []) := Lib.hid fun h => by
      have h1 : eFsh S C = 4 := by unfold eFsh; rw [if_pos he, hNt, if_neg (by rw [h]; simp)]
      exact ⟨h1, by unfold vFsh; rw [if_neg (by rw [h1]; decide)]⟩
    have HE0 : Hid ((fsTo S C N).ok = true → eFsh S C = 0 ∧ vFsh S C = (fsTo S C N).o) := Lib.hid fun h => by
      have h1 : eFsh S C = 0 := by unfold eFsh; rw [if_pos he, hNt, if_pos h]
      exact ⟨h1, by unfold vFsh; rw [if_pos h1, hNt]⟩
    rw [hNt] at hNew hNone hfsV
    rw [he] at hg
    obtain ⟨E, hE⟩ : ∃ E, E = eFsh S C := ⟨_, rfl⟩
    obtain ⟨V, hV⟩ : ∃ V, V = vFsh S C := ⟨_, rfl⟩
    rw [← hE, ← hV] at HE4 HE0
    rw [← hE, ← hV]
    have HG := Lib.hid hg
    have HSH := Lib.hid hshf
    have HMK := Lib.hid hmark
    have HHad := Lib.hid hHad
    have HNew := Lib.hid hNew
    have HNone := Lib.hid hNone
    have HBad := Lib.hid hBad
    have HfsV := Lib.hid hfsV
    have hN2 : N ≤ 1024 := by omega
    have hN1 : 1 ≤ N := by omega
    have HL := Lib.hid fun w => fs_len S C w
    have HLs := Lib.hid fun x => shW_le S C x
    obtain ⟨i0, hi, hz0, hz1, hz2⟩ := info_parts infoBool
    clear he hz h0 hSp hc1 hc2 N1 N2 hN hNt HC1 hg hshf hmark hHad hNew hNone hBad hfsV hE hV
    go_enter Try.func40, Try.ntmps40
    go_wp2_with fail
    refine HG.out.mono ?_
    rintro e w1 ⟨rfl, hb⟩
    have c1 := kept_cell hb c0 l0
    have l1 := lt_of_below hb l0
    have B1 : Below w.heap.size w w1 := B0.trans (hb.mono B0.size)
    clear hb B0 c0 l0
    go_wp2_with (first | (go_at_call 64; refine (l01N_nat ao S cap N HNN _ HSp.out (hS.below B1)).mono ?_; rintro e w3 ⟨rfl, hb3⟩; have c3 := kept_cell hb3 c1 l1; have l3 := lt_of_below hb3 l1; have B3 := B1.trans (hb3.mono B1.size); have s3 := hb3.size; clear c1 l1 B1) | (at_make; refine wpList_make_full _ rfl _ _ 85 rfl w3.heap.size 4 i0 (.bool false) 1 Try.underlying85 hi hz0 hz1 .i64 .i64 (N : Int) (N : Int) N rfl rfl rfl rfl (by rw [hz2]; omega) (by unfold maxLen; omega) (Nat.le_refl _) ?_; intro w4 hown hgrow) | fail)
    have hb4 : Below w3.heap.size w3 w4 := below_grown0 hgrow
    have c4 := kept_cell hb4 c3 l3
    have l4 := lt_of_below hb4 l3
    have B4 := B3.trans (hb4.mono B3.size)
    replace hown := ownb_made hown
    rw [tbP_0] at hown
    have gw : w.heap.size < w3.heap.size := l3
    have gm := hown.base_le
    obtain ⟨g, hg⟩ : ∃ g, g = w3.heap.size := ⟨_, rfl⟩
    rw [← hg] at hown gw gm ⊢
    have oo := own_empty w4 (w.heap.size + 1) (by omega) rfl
    obtain ⟨W5, hW5⟩ : ∃ W5, W5 = w4.alloc (.cells #[] 2) := ⟨_, rfl⟩
    have hb5 : Below w4.heap.size w4 W5 := by rw [hW5]; exact (Below.refl _ _).alloc (Nat.le_refl _) _
    rw [← hW5] at oo ⊢
    have c5 := kept_cell hb5 c4 l4
    have l5 := lt_of_below hb5 l4
    have B5 := B4.trans (hb5.mono B4.size)
    have om5 := hown.below hb5
    have gne : w4.heap.size ≠ g := by omega
    clear hgrow hb4 hb5 c3 l3 B3 hb3 s3 hown c4 l4 B4 hW5 hg
    go_loopw [8, 24] (fun vo vi wr => ∃ (k go co : Nat) (f : Nat → Bool) (L : List Int), k ≤ N ∧ vi = .int .i64 k ∧ vo = .slice (some ⟨go, 0, none⟩) L.length co ∧ OwnInts wr (w.heap.size + 1) (.slice (some ⟨go, 0, none⟩) L.length co) L ∧ OwnBools wr g (.slice (some ⟨g, 0, none⟩) N N) (tbP f N) ∧ Hid (fsTo S C k = ⟨f, L, true⟩) ∧ go ≠ g ∧ wr.cell? ⟨w.heap.size, 0, none⟩ = some (.slice ao S.length cap) ∧ w.heap.size < wr.heap.size ∧ Below w.heap.size w wr) (fun _ vi _ => N - (intOf vi).toNat)
    case atStart => exact ⟨0, w4.heap.size, 0, fun _ => false, [], Nat.zero_le _, rfl, rfl, oo, om5, Lib.hid rfl, gne, c5, l5, B5⟩
    case round =>
      clear oo om5 gne c5 l5 B5
      obtain ⟨k, go, co, f, L, hk, rfl, rfl, oq, om, HF, hne, c, l, B⟩ := hrel
      have hLl := HL.out k
      rw [HF.out] at hLl
      replace hLl : L.length ≤ k := hLl
      obtain ⟨P, hP⟩ : ∃ P, P = L.length := ⟨_, rfl⟩
      rw [← hP] at oq hLl ⊢
      have HP := Lib.hid hP
      clear hP
      by_cases hlt : k < N
      · have hlI : (k : Int) < (N : Int) := by omega
        have k0 : (0 : Int) ≤ (k : Int) := by omega
        have hcb := om.cell (k := k) (by rw [tbP_len]; exact hlt)
        rw [gb_tbP f hlt] at hcb
        cases hfk : f k with
        | true =>
          rw [hfk] at hcb
          have HN1 : Hid (fsTo S C (k + 1) = ⟨f, L, true⟩) := Lib.hid (by rw [HHad.out k (by rw [HF.out]) (by rw [HF.out]; exact hfk), HF.out])
          clear hfk
          go_wp2_with fail
          go_roundw
          case rel => exact ⟨k + 1, go, co, f, L, by omega, by go_num, by rw [← HP.out], by rw [← HP.out]; exact oq, om, HN1, hne, c, l, B⟩
          case measure => simp [intOf]; omega
        | false =>
          rw [hfk] at hcb
          have HFK := Lib.hid hfk
          clear hfk
          go_wp2_with fail
          go_loopw [8, 10, 11] (fun vo vf vi wr => ∃ (v go co : Nat) (fd : Bool) (f2 : Nat → Bool) (L2 : List Int), v ≤ N ∧ vi = .int .i64 v ∧ vf = .bool fd ∧ vo = .slice (some ⟨go, 0, none⟩) L2.length co ∧ OwnInts wr (w.heap.size + 1) (.slice (some ⟨go, 0, none⟩) L2.length co) L2 ∧ OwnBools wr g (.slice (some ⟨g, 0, none⟩) N N) (tbP f2 N) ∧ Hid ((fd = true → fsTo S C (k + 1) = ⟨f2, L2, true⟩) ∧ (fd = false → f2 = f ∧ L2 = L ∧ ∀ j, j < v → fsG S C f k j = false)) ∧ go ≠ g ∧ wr.cell? ⟨w.heap.size, 0, none⟩ = some (.slice ao S.length cap) ∧ w.heap.size < wr.heap.size ∧ Below w.heap.size w wr) (fun _ _ vi _ => N - (intOf vi).toNat)
          case atStart => exact ⟨0, go, co, false, f, L, Nat.zero_le _, rfl, rfl, by rw [← HP.out], by rw [← HP.out]; exact oq, om, Lib.hid ⟨fun h => by (cases h), fun _ => ⟨rfl, rfl, fun j hj => by omega⟩⟩, hne, c, l, B⟩
          case round =>
            clear oq om hne c l B hcb
            obtain ⟨v, go, co, fd, f2, L2, hv, rfl, rfl, rfl, oq, om, HI, hne, c, l, B⟩ := hrel
            obtain ⟨P2, hP2⟩ : ∃ P2, P2 = L2.length := ⟨_, rfl⟩
            rw [← hP2] at oq ⊢
            have HP2 := Lib.hid hP2
            clear hP2
            have hs := B.size
            have hlN := Lib.hid fun W h => l01N_nat ao S cap N HNN W HSp.out h
            cases fd with
            | true =>
              have HX := Lib.hid (HI.out.1 rfl)
              by_cases hvN : v < N
              · have hvI : (v : Int) < (N : Int) := by omega
                go_wp2_with (first | (go_at_call 64; refine (hlN.out _ (hS.below B)).mono ?_; rintro e w6 ⟨rfl, hb6⟩) | fail)
                go_wp2_with fail
                go_roundw
                case rel => exact ⟨k + 1, go, co, f2, L2, by omega, by go_num, by rw [← HP2.out], by rw [← HP2.out]; exact oq.below hb6, om.below hb6, HX, hne, kept_cell hb6 c l, lt_of_below hb6 l, B.trans (hb6.mono hs)⟩
                case measure => simp [intOf]; omega
              · have hvI : ¬ (v : Int) < (N : Int) := by omega
                go_wp2_with (first | (go_at_call 64; refine (hlN.out _ (hS.below B)).mono ?_; rintro e w6 ⟨rfl, hb6⟩) | fail)
                go_wp2_with fail
                go_roundw
                case rel => exact ⟨k + 1, go, co, f2, L2, by omega, by go_num, by rw [← HP2.out], by rw [← HP2.out]; exact oq.below hb6, om.below hb6, HX, hne, kept_cell hb6 c l, lt_of_below hb6 l, B.trans (hb6.mono hs)⟩
                case measure => simp [intOf]; omega
            | false =>
              obtain ⟨hf2, hL2, hno⟩ := HI.out.2 rfl
              subst hf2; subst hL2
              have HNo := Lib.hid hno
              by_cases hvN : v < N
              · have hvI : (v : Int) < (N : Int) := by omega
                have HGv : Hid (fsG S C f2 k v = (inL (shW S C (v : Int)) k && clrB f2 (shW S C (v : Int)))) := Lib.hid rfl
                have hsh := HSH.out v hvN
                change ∀ W, _ → _ → Calls Try.prog _ _ _ (fun e w' => ∃ v_1, e = .returned v_1 ∧ OwnInts w' _ v_1 (shW S C (v : Int)) ∧ _) at hsh
                have hmk := HMK.out v hvN g g f2
                have hLs := HLs.out (v : Int)
                have HNext := Lib.hid fun (hk1 : inL (shW S C (v : Int)) k = true) (hk2 : clrB f2 (shW S C (v : Int)) = true) => HNew.out k v (by rw [HF.out]) (by rw [HF.out]; exact HFK.out) hvN (by rw [HF.out]; show fsG S C f2 k v = true; rw [HGv.out, hk1, hk2]; rfl) (by rw [HF.out]; exact HNo.out)
                rw [HF.out] at HNext
                obtain ⟨Ls, hLsE⟩ : ∃ Ls, Ls = shW S C (v : Int) := ⟨_, rfl⟩
                rw [← hLsE] at HGv hsh hmk hLs HNext
                have HSHv := Lib.hid hsh
                have HMKv := Lib.hid hmk
                clear hno hLsE hsh hmk
                cases hin : inL Ls k with
                | false =>
                  have HI2 : Hid (∀ j, j < v + 1 → fsG S C f2 k j = false) := Lib.hid fun j hj => by
                    by_cases e : j = v
                    · subst e; rw [HGv.out, hin]; rfl
                    · exact HNo.out j (by omega)
                  have hdec : decide ((k : Int) ∈ Ls) = false := hin
                  clear hin
                  go_wp2_with (first | (go_at_call 64; refine (hlN.out _ (hS.below B)).mono ?_; rintro e w6 ⟨rfl, hb6⟩; have c6 := kept_cell hb6 c l; have l6 := lt_of_below hb6 l; have B6 := B.trans (hb6.mono hs)) | fail)
                  go_wp2_with fail
                  refine (HSHv.out _ (hS.below B6) (hC.below B6)).mono ?_
                  rintro e w7 ⟨vv, rfl, ol, hb7⟩
                  obtain ⟨al, kl, hvv⟩ := ol.shape
                  subst hvv
                  have B7 := B6.trans (hb7.mono B6.size)
                  have hh := l01Has_any al Ls kl (k : Int) (by omega) w7 (own_ints ol)
                  rw [hdec] at hh
                  go_wp2_with fail
                  refine hh.mono ?_
                  rintro e w8 ⟨rfl, rfl⟩
                  go_wp2_with fail
                  go_roundw
                  case rel => exact ⟨v + 1, go, co, false, f2, L2, by omega, by go_num, rfl, by rw [← HP2.out], by rw [← HP2.out]; exact (oq.below hb6).below hb7, (om.below hb6).below hb7, Lib.hid ⟨fun h => by (cases h), fun _ => ⟨rfl, rfl, HI2.out⟩⟩, hne, kept_cell hb7 (kept_cell hb6 c l) (lt_of_below hb6 l), lt_of_below hb7 (lt_of_below hb6 l), B7⟩
                  case measure => simp [intOf]; omega
                | true =>
                  have hdec : decide ((k : Int) ∈ Ls) = true := hin
                  have HIN := Lib.hid hin
                  clear hin
                  cases hcl2 : clrB f2 Ls with
                  | false =>
                    have HI2 : Hid (∀ j, j < v + 1 → fsG S C f2 k j = false) := Lib.hid fun j hj => by
                      by_cases e : j = v
                      · subst e; rw [HGv.out, hcl2, Bool.and_false]
                      · exact HNo.out j (by omega)
                    have HAft := Lib.hid (clr_no f2 Ls hcl2)
                    have HCL := Lib.hid hcl2
                    clear hcl2
                    go_wp2_with (first | (go_at_call 64; refine (hlN.out _ (hS.below B)).mono ?_; rintro e w6 ⟨rfl, hb6⟩; have c6 := kept_cell hb6 c l; have l6 := lt_of_below hb6 l; have B6 := B.trans (hb6.mono hs)) | fail)
                    go_wp2_with fail
                    refine (HSHv.out _ (hS.below B6) (hC.below B6)).mono ?_
                    rintro e w7 ⟨vv, rfl, ol, hb7⟩
                    obtain ⟨al, kl, hvv⟩ := ol.shape
                    subst hvv
                    have B7 := B6.trans (hb7.mono B6.size)
                    have hh := l01Has_any al Ls kl (k : Int) (by omega) w7 (own_ints ol)
                    rw [hdec] at hh
                    have om7 := (om.below hb6).below hb7
                    have oq7 := (oq.below hb6).below hb7
                    have c7 := kept_cell hb7 (kept_cell hb6 c l) (lt_of_below hb6 l)
                    have l7 := lt_of_below hb7 (lt_of_below hb6 l)
                    have hm := HMKv.out w7 (hS.below B7) (hC.below B7) om7
                    rw [HCL.out, HAft.out] at hm
                    have HM := Lib.hid hm
                    clear hm
                    go_wp2_with fail
                    refine hh.mono ?_
                    rintro e w8 ⟨rfl, rfl⟩
                    go_wp2_with fail
                    refine HM.out.mono ?_
                    rintro e w9 ⟨rfl, om9, hg9⟩
                    have c9 := hg9.cell (a := ⟨w.heap.size, 0, none⟩) c7 (fun e => by have := Option.some.inj e; simp at this; omega)
                    have oq9 : OwnInts w9 (w.heap.size + 1) (.slice (some ⟨go, 0, none⟩) P2 co) L2 := World.ownsRow.kept oq7 hg9 (.inr (show some go ≠ some g from fun e => hne (Option.some.inj e)))
                    have B9 := B7.grown hg9 B7.size (by intro z hz; cases hz; omega)
                    have l9 : w.heap.size < w9.heap.size := Nat.lt_of_lt_of_le l7 hg9.size
                    go_wp2_with fail
                    go_roundw
                    case rel => exact ⟨v + 1, go, co, false, f2, L2, by omega, by go_num, rfl, by rw [← HP2.out], by rw [← HP2.out]; exact oq9, om9, Lib.hid ⟨fun h => by (cases h), fun _ => ⟨rfl, rfl, HI2.out⟩⟩, hne, c9, l9, B9⟩
                    case measure => simp [intOf]; omega
                  | true =>
                    have HX := Lib.hid (HNext.out HIN.out hcl2)
                    have HAft := Lib.hid (clr_or f2 Ls hcl2)
                    have HCL := Lib.hid hcl2
                    have hP2l : L2.length ≤ 1073741824 := by rw [← HP2.out]; have := HP.out; have := HP2.out; omega
                    clear hcl2
                    go_wp2_with (first | (go_at_call 64; refine (hlN.out _ (hS.below B)).mono ?_; rintro e w6 ⟨rfl, hb6⟩; have c6 := kept_cell hb6 c l; have l6 := lt_of_below hb6 l; have B6 := B.trans (hb6.mono hs)) | fail)
                    go_wp2_with fail
                    refine (HSHv.out _ (hS.below B6) (hC.below B6)).mono ?_
                    rintro e w7 ⟨vv, rfl, ol, hb7⟩
                    obtain ⟨al, kl, hvv⟩ := ol.shape
                    subst hvv
                    have B7 := B6.trans (hb7.mono B6.size)
                    have hh := l01Has_any al Ls kl (k : Int) (by omega) w7 (own_ints ol)
                    rw [hdec] at hh
                    have om7 := (om.below hb6).below hb7
                    have oq7 := (oq.below hb6).below hb7
                    have c7 := kept_cell hb7 (kept_cell hb6 c l) (lt_of_below hb6 l)
                    have l7 := lt_of_below hb7 (lt_of_below hb6 l)
                    have hm := HMKv.out w7 (hS.below B7) (hC.below B7) om7
                    rw [HCL.out, HAft.out] at hm
                    have HM := Lib.hid hm
                    clear hm
                    go_wp2_with fail
                    refine hh.mono ?_
                    rintro e w8 ⟨rfl, rfl⟩
                    go_wp2_with fail
                    refine HM.out.mono ?_
                    rintro e w9 ⟨rfl, om9, hg9⟩
                    have c9 := hg9.cell (a := ⟨w.heap.size, 0, none⟩) c7 (fun e => by have := Option.some.inj e; simp at this; omega)
                    have oq9 : OwnInts w9 (w.heap.size + 1) (.slice (some ⟨go, 0, none⟩) P2 co) L2 := World.ownsRow.kept oq7 hg9 (.inr (show some go ≠ some g from fun e => hne (Option.some.inj e)))
                    have B9 := B7.grown hg9 B7.size (by intro z hz; cases hz; omega)
                    have l9 : w.heap.size < w9.heap.size := Nat.lt_of_lt_of_le l7 hg9.size
                    have gq9 := oq9.base_le
                    have gm9 := om9.base_le
                    clear oq7 om7 c7 l7 B7 hg9 hb7 ol hh oq om c l B hb6 B6
                    go_wp2_with (at_builtin; refine wpList_append_int_at rfl _ _ rfl (w.heap.size + 1) (.slice (some ⟨go, 0, none⟩) P2 co) L2 rfl (oq9.alloc _) w9.heap.size (v : Int) rfl (cell_new _ _ _) hP2l (by rw [World.size_alloc]; omega) ?_; intro v' wz hown' hgrow hblk)
                    obtain ⟨g', cp', hv', _⟩ := own_some hown' (by simp)
                    subst hv'
                    have hbT : Below w9.heap.size w9 (w9.alloc (.cells #[.int .i64 (v : Int)] 2)) := (Below.refl _ _).alloc (Nat.le_refl _) _
                    have cz := hgrow.cell (a := ⟨w.heap.size, 0, none⟩) (kept_cell hbT c9 l9) (fun e => by have := Option.some.inj e; simp at this; omega)
                    have omz : OwnBools wz g (.slice (some ⟨g, 0, none⟩) N N) (tbP (orL f2 Ls) N) := World.ownsRow.kept (om9.alloc _) hgrow (.inr (show some g ≠ some go from fun e => hne (Option.some.inj e).symm))
                    have Bz := (B9.alloc B9.size (.cells #[.int .i64 (v : Int)] 2)).grown hgrow (by rw [World.size_alloc]; have := B9.size; omega) (fun z hz => by cases hz; (try dsimp only); omega)
                    have lz : w.heap.size < wz.heap.size := by have := hgrow.size; rw [World.size_alloc] at this; omega
                    have hgne : g' ≠ g := by rcases hblk with h | h <;> simp [Value.ownBlock] at h <;> omega
                    have hL3 : (L2 ++ [(v : Int)]).length = P2 + 1 := by rw [List.length_append, ← HP2.out]; rfl
                    have HL3 := Lib.hid hL3
                    rw [hL3] at hown' ⊢
                    clear hblk hgrow hbT oq9 om9 B9 c9 hL3
                    go_wp2_with fail
                    go_roundw
                    case rel => exact ⟨v + 1, g', cp', true, orL f2 Ls, L2 ++ [(v : Int)], by omega, by go_num, rfl, by rw [HL3.out], by rw [HL3.out]; exact hown', omz, Lib.hid ⟨fun _ => HX.out, fun h => by (cases h)⟩, hgne, cz, lz, Bz⟩
                    case measure => simp [intOf]; omega
              · have hvI : ¬ (v : Int) < (N : Int) := by omega
                have HOK : Hid (E = 4 ∧ V = []) := Lib.hid (HE4.out (HBad.out (k + 1) (HNone.out k (by rw [HF.out]) (by rw [HF.out]; exact HFK.out) (by rw [HF.out]; exact HfsV.out f2 k (fun j hj => HNo.out j (by omega)))) N (by omega)))
                go_wp2_with (first | (go_at_call 64; refine (hlN.out _ (hS.below B)).mono ?_; rintro e w6 ⟨rfl, hb6⟩) | fail)
                go_wp2_with fail
                go_ret2
                exact ⟨_, by rw [HOK.out.1]; rfl, by rw [HOK.out.2]; exact own_nil _ _, B.trans (hb6.mono hs)⟩
      · have hlI : ¬ (k : Int) < (N : Int) := by omega
        have ek : k = N := by omega
        have HOK : Hid (E = 0 ∧ V = L) := Lib.hid (by
          have h1 := HF.out
          rw [ek] at h1
          have h2 := HE0.out (by rw [h1])
          exact ⟨h2.1, by rw [h2.2, h1]⟩)
        clear ek
        go_wp2_with fail
        go_ret2
        exact ⟨_, by rw [HOK.out.1]; rfl, by rw [HOK.out.2]; exact oq.rebase (by omega), B⟩
  · have hen : (eFull S C != 0) = true := by simpa using he
    have HE : Hid (eFsh S C = eFull S C) := Lib.hid (by unfold eFsh; rw [if_neg he])
    have HV : Hid (vFsh S C = []) := Lib.hid (by unfold vFsh; rw [HE.out, if_neg he])
    have HG := Lib.hid hg
    clear he hg
    go_enter Try.func40, Try.ntmps40
    go_wp2_with fail
    refine HG.out.mono ?_
    rintro e w1 ⟨rfl, hb⟩
    go_wp2_with fail
    go_ret2
    exact ⟨_, by rw [HE.out]; rfl, by rw [HV.out]; exact own_nil _ _, B0.trans (hb.mono B0.size)⟩

end Go.Proofs.Ytgcmkjbahikpiaa
