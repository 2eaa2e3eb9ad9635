/-
  The contract of the model of LeastBasis. By an AI agent.
-/
import Derived.Test.YtcnnijeokefboaaGreatDoorMathB
import Derived.Test.YtcnnijeokefboaaGreatDoorPkNrS
import Derived.Test.YtcnnijeokefboaaGreatDoorPk20
import Derived.Test.YtcnnijeokefboaaGreatDoorAppendAt
import Derived.Deep.RegionHeld3
namespace Go.Proofs.YtcnnijeokefboaaGreatDoor
open Go.RowKit Cv
set_option linter.unusedVariables false
set_option linter.unusedSimpArgs false
set_option maxRecDepth 100000

theorem gb_fr (S C : List Int) (k i : Nat) (h : i < S.length) : gb (frB S C k) i = frW S C k i := by simp [gb, frB, h]

set_option maxHeartbeats 8000000 in
theorem spec_LeastBasis (ao : Option Addr) (S : List Int) (cap : Nat) (hn : S.length ≤ 4294967296) (ac : Option Addr) (C : List Int) (capc : Nat) (hnc : C.length ≤ 4294967296) (w : World) (hS : Ints w ao S) (hC : Ints w ac C) :
    Calls Tryz.prog 25 #[.agg #[.slice ao S.length cap], .slice ac C.length capc] w fun e w' => ∃ v, e = .returned (.tuple #[v, .int .i64 (eLin S C)]) ∧ OwnInts w' w.heap.size v (vBas S C) ∧ Below w.heap.size w w' := by
  have B0 : Below w.heap.size w (w.alloc (.cells #[.slice ao S.length cap] 26)) := by go_grown
  have c0 := cell_new w (.slice ao S.length cap) 26
  have l0 := lt_alloc w (.cells #[.slice ao S.length cap] 26)
  have h1 := l05Given_any ao S cap hn ac C capc hnc _ (hS.below B0) (hC.below B0)
  by_cases hz : eLin S C = 0
  · obtain ⟨i0, hi, hz0, hz1, hz2⟩ := info_parts infoBool
    have hc0 : eCode S C = 0 := by have h := hz; unfold eLin at h; split at h; assumption; omega
    have hlb : linB S C = true := by
      have h := hz
      unfold eLin at h
      rw [if_pos hc0] at h
      split at h
      · assumption
      · cases h
    obtain ⟨hP, hg⟩ := lin_gp hc0 hlb
    have hA := asc_code hc0
    have hlen := code_len0 hc0
    have hpos := List.length_pos_of_mem hg.zero
    have hlo := hP.sp.lo
    have hhi := hP.sp.hi
    have N := nW_bd hP.sp
    have HSp := Lib.hid hP.sp
    have HV : Hid (vBas S C = basM S C S.length) := Lib.hid (by unfold vBas; rw [if_pos hz, basM_all hP hg hA])
    have HBL : Hid (∀ i, (basM S C i).length ≤ i) := Lib.hid fun i => basM_len S C i
    have HC9 : Hid (∀ i, i < C.length → 0 ≤ gi C i ∧ gi C i ≤ 9223372036854775807) := Lib.hid fun i hi => by have := hg.wd _ (gi_mem hi); unfold Wd at this; omega
    rw [hz] at h1
    have HZ := Lib.hid hz
    have H1 := Lib.hid h1
    obtain ⟨b, o, rfl, hbl, hc⟩ := hC.at hpos
    have HC := Lib.hid hc
    clear hz h1 hc0 hlb hP hg hA hc
    go_enter Tryz.func25, Tryz.ntmps25
    go_wp2_with fail
    refine H1.out.mono ?_
    rintro e w1 ⟨rfl, hb⟩
    have c1 := kept_cell hb c0 l0
    have l1 := lt_of_below hb l0
    have B1 := B0.trans (hb.mono B0.size)
    have s1 := B1.size
    clear hb c0 l0 B0
    go_wp2_with (at_make; refine wpList_make_full _ rfl _ _ 76 rfl w1.heap.size 4 i0 (.bool false) 1 Tryz.underlying76 hi hz0 hz1 .i64 .i64 (S.length : Int) (S.length : Int) S.length rfl rfl rfl rfl (by rw [hz2]; omega) (by unfold maxLen; omega) (Nat.le_refl _) ?_; intro w2 hown hgrow)
    have hb2 := below_grown0 hgrow
    have B2 : Below w.heap.size w w2 := B1.trans (hb2.mono s1)
    replace hown := ownb_made hown
    rw [← frB_0 S C] at hown
    have q2 := hown.base_le.2
    have c2 := kept_cell hb2 c1 l1
    clear hgrow hb2 c1 B1
    go_loopw [29] (fun v wr => ∃ k : Nat, k ≤ C.length ∧ v = .int .i64 k ∧ OwnBools wr w1.heap.size (.slice (some ⟨w1.heap.size, 0, none⟩) S.length S.length) (frB S C k) ∧ wr.cell? ⟨w.heap.size, 0, none⟩ = some (.slice ao S.length cap) ∧ Below w.heap.size w wr) (fun v _ => C.length - (intOf v).toNat)
    case atStart => exact ⟨0, Nat.zero_le _, rfl, hown, c2, B2⟩
    case round =>
      clear hown c2 B2 q2
      obtain ⟨k, hk, rfl, ownB, cs, B⟩ := hrel
      have hqB := ownB.base_le
      have ls : w.heap.size < wr.heap.size := by omega
      by_cases hlt : k < C.length
      · obtain ⟨x1, x2⟩ := HC9.out k hlt
        have hck := kept_cell B (HC.out k hlt) hbl
        have lb := lt_of_below B hbl
        obtain ⟨x, hx⟩ : ∃ x, x = gi C k := ⟨_, rfl⟩
        rw [← hx] at x1 x2 hck
        have HX := Lib.hid hx
        have kI : (k : Int) < (C.length : Int) := by omega
        have k0 : (0 : Int) ≤ (k : Int) := by omega
        clear hx
        go_wp2_with fail
        go_region_held3 (fun w' => w'.cell? ⟨w.heap.size, 0, none⟩ = some (.slice ao S.length cap) ∧ w'.cell? ⟨b, o + k, none⟩ = some (.int .i64 x)) (first | exact ⟨cs, hck⟩ | exact ⟨k1, k2⟩) (first | (go_at_call 74; refine (l01Digits_any ao S cap hhi HSp.out.bd x x1 x2 _ (hS.below B.drew)).mono ?_; rintro e w4 ⟨g4, rfl, own4, hb4'⟩; have hb4 : Below wr.heap.size wr w4 := (Below.refl _ wr).drew.trans hb4'; have k1 := kept_cell hb4 cs ls; have k2 := kept_cell hb4 hck lb))
        have ownB4 := ownB.below hb4
        have B4 := B.trans (hb4.mono B.size)
        have hg4 := own4.base_le
        clear ownB cs hck k2 hb4 B
        go_wp2_with fail
        go_loopw [40] (fun v wi => ∃ i : Nat, i ≤ S.length ∧ v = .int .i64 i ∧ Hid (∀ j, j < i → dig S x j = 0) ∧ wi = w4) (fun v _ => S.length - (intOf v).toNat)
        case atStart => exact ⟨0, Nat.zero_le _, rfl, Lib.hid fun j hj => by omega, rfl⟩
        case round =>
          obtain ⟨i, hi', rfl, HJ, rfl⟩ := hrel
          by_cases hli : i < S.length
          · have hd := own4.cell (k := i) (by rw [digs_length]; exact hli)
            rw [gi_digs _ _ _ hli] at hd
            have iI : (i : Int) < (S.length : Int) := by omega
            have i0' : (0 : Int) ≤ (i : Int) := by omega
            by_cases hd0 : dig S x i = 0
            · rw [hd0] at hd
              have HD := Lib.hid hd0
              clear hd0
              go_wp2_with fail
              go_roundw
              case rel =>
                refine ⟨i + 1, by omega, by go_num, Lib.hid fun j hj => ?_, by first | rfl | trivial⟩
                by_cases e : j = i
                · subst e; exact HD.out
                · exact HJ.out j (by omega)
              case measure => simp [intOf]; omega
            · have hdn : (dig S x i != 0) = true := by simpa using hd0
              have hcell := ownB4.cell (k := i) (by rw [frB_len]; exact hli)
              have hf := ownB4.free i
              have HF : Hid ((frB S C k).set i true = frB S C (k + 1)) := Lib.hid (frB_set hli (by rw [← HX.out]; exact HJ.out) (by rw [← HX.out]; exact hd0))
              obtain ⟨d, hdd⟩ : ∃ d, d = dig S x i := ⟨_, rfl⟩
              rw [← hdd] at hd hdn
              clear hd0 hdd
              go_wp2_with fail
              go_roundw
              case rel => exact ⟨k + 1, by omega, by go_num, by rw [← HF.out]; exact ownB4.stored i true, cell_set_other k1 (by simp; omega), B4.setCell (by simp; omega) _⟩
              case measure => simp [intOf]; omega
          · have HF : Hid (frB S C (k + 1) = frB S C k) := Lib.hid (frB_same (by rw [← HX.out]; exact fun j hj => HJ.out j (by omega)))
            have iI : ¬ (i : Int) < (S.length : Int) := by omega
            go_wp2_with fail
            go_roundw
            case rel => exact ⟨k + 1, by omega, by go_num, by rw [HF.out]; exact ownB4, k1, B4⟩
            case measure => simp [intOf]; omega
      · have ek : k = C.length := by omega
        subst ek
        have kI : ¬ (C.length : Int) < (C.length : Int) := by omega
        have oo := own_empty wr (w1.heap.size + 1) (by omega) rfl
        have b3 : Below wr.heap.size wr (wr.alloc (.cells #[] 2)) := (Below.refl _ _).alloc (Nat.le_refl _) _
        have c3 := kept_cell b3 cs (by omega)
        have B3 := B.trans (b3.mono B.size)
        have ownB3 := ownB.alloc (.cells #[] 2)
        clear cs B ownB b3 ls
        go_wp2_with fail
        go_loopw [11, 56] (fun v' t wr => ∃ (i : Nat) (v : Value), i ≤ S.length ∧ t = .int .i64 i ∧ v = v' ∧ OwnInts wr (w1.heap.size + 1) v (basM S C i) ∧ OwnBools wr w1.heap.size (.slice (some ⟨w1.heap.size, 0, none⟩) S.length S.length) (frB S C C.length) ∧ wr.cell? ⟨w.heap.size, 0, none⟩ = some (.slice ao S.length cap) ∧ Below w.heap.size w wr) (fun _ t _ => S.length - (intOf t).toNat)
        case atStart => exact ⟨0, _, Nat.zero_le _, rfl, rfl, oo, ownB3, c3, B3⟩
        case round =>
          clear oo ownB3 c3 B3 hqB
          obtain ⟨i, v, hi', rfl, rfl, own, ownB, cs, B⟩ := hrel
          have hqB := ownB.base_le
          have hbl2 := HBL.out i
          by_cases hli : i < S.length
          · have hcf := ownB.cell (k := i) (by rw [frB_len]; exact hli)
            rw [gb_fr _ _ _ _ hli] at hcf
            have iI : (i : Int) < (S.length : Int) := by omega
            have i0' : (0 : Int) ≤ (i : Int) := by omega
            cases hfr : frW S C C.length i with
            | false =>
              rw [hfr] at hcf
              have HM : Hid (basM S C (i + 1) = basM S C i) := Lib.hid (by rw [basM, gd_no hfr, List.append_nil])
              clear hfr
              go_wp2_with fail
              go_roundw
              case rel => exact ⟨i + 1, _, by omega, by go_num, rfl, by rw [HM.out]; exact own, ownB, cs, B⟩
              case measure => simp [intOf]; omega
            | true =>
              rw [hfr] at hcf
              have HFR := Lib.hid hfr
              clear hfr
              go_wp2_with fail
              go_loopw [11, 66] (fun v' t wr => ∃ k : Nat, k ≤ C.length ∧ v' = v ∧ t = .int .i64 k ∧ Hid (∀ j, j < k → gdTo S C i (gi C j) S.length = false) ∧ OwnInts wr (w1.heap.size + 1) v (basM S C i) ∧ OwnBools wr w1.heap.size (.slice (some ⟨w1.heap.size, 0, none⟩) S.length S.length) (frB S C C.length) ∧ wr.cell? ⟨w.heap.size, 0, none⟩ = some (.slice ao S.length cap) ∧ Below w.heap.size w wr) (fun _ t _ => C.length - (intOf t).toNat)
              case atStart => exact ⟨0, Nat.zero_le _, rfl, rfl, Lib.hid fun j hj => by omega, own, ownB, cs, B⟩
              case round =>
                clear own ownB cs B hcf hqB
                obtain ⟨k, hk, rfl, rfl, HK, own, ownB, cs, B⟩ := hrel
                have hqB := ownB.base_le
                have ls : w.heap.size < wr.heap.size := by omega
                by_cases hlt : k < C.length
                · obtain ⟨x1, x2⟩ := HC9.out k hlt
                  have hck := kept_cell B (HC.out k hlt) hbl
                  have lb := lt_of_below B hbl
                  obtain ⟨x, hx⟩ : ∃ x, x = gi C k := ⟨_, rfl⟩
                  rw [← hx] at x1 x2 hck
                  have HX := Lib.hid hx
                  have kI : (k : Int) < (C.length : Int) := by omega
                  have k0 : (0 : Int) ≤ (k : Int) := by omega
                  clear hx
                  go_wp2_with fail
                  go_region_held3 (fun w' => w'.cell? ⟨w.heap.size, 0, none⟩ = some (.slice ao S.length cap) ∧ w'.cell? ⟨b, o + k, none⟩ = some (.int .i64 x)) (first | exact ⟨cs, hck⟩ | exact ⟨k1, k2⟩) (first | (go_at_call 74; refine (l01Digits_any ao S cap hhi HSp.out.bd x x1 x2 _ (hS.below B.drew)).mono ?_; rintro e w4 ⟨g4, rfl, own4, hb4'⟩; have hb4 : Below wr.heap.size wr w4 := (Below.refl _ wr).drew.trans hb4'; have k1 := kept_cell hb4 cs ls; have k2 := kept_cell hb4 hck lb))
                  have ownB4 := ownB.below hb4
                  have ownL4 := own.below hb4
                  have B4 := B.trans (hb4.mono B.size)
                  have hg4 := own4.base_le
                  have s4 := hb4.size
                  have hdi := own4.cell (k := i) (by rw [digs_length]; exact hli)
                  rw [gi_digs _ _ _ hli] at hdi
                  have hd1 : (dig S x i == 1) = gdTo S C i x 0 := by rw [gd_0]; rfl
                  clear ownB own cs hck hb4 B
                  go_wp2_with fail
                  go_loopw [15, 82] (fun gd t wi => ∃ j : Nat, j ≤ S.length ∧ t = .int .i64 j ∧ gd = .bool (gdTo S C i x j) ∧ wi = w4) (fun _ t _ => S.length - (intOf t).toNat)
                  case atStart => exact ⟨0, Nat.zero_le _, rfl, rfl, rfl⟩
                  case round =>
                    clear hd1 hdi
                    obtain ⟨j, hj', rfl, rfl, rfl⟩ := hrel
                    by_cases hlj : j < S.length
                    · have hd := own4.cell (k := j) (by rw [digs_length]; exact hlj)
                      rw [gi_digs _ _ _ hlj] at hd
                      have hcf := ownB4.cell (k := j) (by rw [frB_len]; exact hlj)
                      rw [gb_fr _ _ _ _ hlj] at hcf
                      have jI : (j : Int) < (S.length : Int) := by omega
                      have j0 : (0 : Int) ≤ (j : Int) := by omega
                      by_cases hji : j < i
                      · have hjI : (j : Int) < (i : Int) := by omega
                        have hfr : True := trivial
                        by_cases hd0 : dig S x j = 0
                        · have hdn : (dig S x j != 0) = false := by simp [hd0]
                          have hne : True := trivial
                          have HG : Hid (gdTo S C i x (j + 1) = gdTo S C i x j) := Lib.hid (gd_same S C i x j (fun h => by first | exact h.2 hd0 | (rcases h.1 with h1 | ⟨h1, h2⟩; exact hji h1; first | exact h2 hne | (rw [hfr] at h1; cases h1))))
                          clear hfr hne
                          go_wp2_with fail
                          go_roundw
                          case rel => exact ⟨j + 1, by omega, by go_num, by rw [HG.out], by first | rfl | trivial⟩
                          case measure => simp [intOf]; omega
                        · have hdn : (dig S x j != 0) = true := by simpa using hd0
                          have hne : True := trivial
                          have HG : Hid (gdTo S C i x (j + 1) = false) := Lib.hid (gd_bad S C i x j (by first | exact ⟨.inl hji, hd0⟩ | exact ⟨.inr ⟨hfr, hne⟩, hd0⟩))
                          clear hfr hne
                          go_wp2_with fail
                          go_roundw
                          case rel => exact ⟨j + 1, by omega, by go_num, by rw [HG.out], by first | rfl | trivial⟩
                          case measure => simp [intOf]; omega
                      · have hjI : ¬ (j : Int) < (i : Int) := by omega
                        cases hfr : frW S C C.length j with
                        | false =>
                          rw [hfr] at hcf
                          have hd0 : True := trivial
                          have hne : True := trivial
                          have HG : Hid (gdTo S C i x (j + 1) = gdTo S C i x j) := Lib.hid (gd_same S C i x j (fun h => by first | exact h.2 hd0 | (rcases h.1 with h1 | ⟨h1, h2⟩; exact hji h1; first | exact h2 hne | (rw [hfr] at h1; cases h1))))
                          clear hfr hne
                          go_wp2_with fail
                          go_roundw
                          case rel => exact ⟨j + 1, by omega, by go_num, by rw [HG.out], by first | rfl | trivial⟩
                          case measure => simp [intOf]; omega
                        | true =>
                          rw [hfr] at hcf
                          by_cases hne' : j = i
                          · have hne : j = i := hne'
                            have hd0 : True := trivial
                            have hjn : ((j : Int) != (i : Int)) = false := by simp [hne']
                            clear hne'
                            have HG : Hid (gdTo S C i x (j + 1) = gdTo S C i x j) := Lib.hid (gd_same S C i x j (fun h => by first | exact h.2 hd0 | (rcases h.1 with h1 | ⟨h1, h2⟩; exact hji h1; first | exact h2 hne | (rw [hfr] at h1; cases h1))))
                            clear hfr hne
                            go_wp2_with fail
                            go_roundw
                            case rel => exact ⟨j + 1, by omega, by go_num, by rw [HG.out], by first | rfl | trivial⟩
                            case measure => simp [intOf]; omega
                          · have hne : j ≠ i := hne'
                            have hjn : ((j : Int) != (i : Int)) = true := by simp; omega
                            by_cases hd0 : dig S x j = 0
                            · have hdn : (dig S x j != 0) = false := by simp [hd0]
                              clear hne'
                              have HG : Hid (gdTo S C i x (j + 1) = gdTo S C i x j) := Lib.hid (gd_same S C i x j (fun h => by first | exact h.2 hd0 | (rcases h.1 with h1 | ⟨h1, h2⟩; exact hji h1; first | exact h2 hne | (rw [hfr] at h1; cases h1))))
                              clear hfr hne
                              go_wp2_with fail
                              go_roundw
                              case rel => exact ⟨j + 1, by omega, by go_num, by rw [HG.out], by first | rfl | trivial⟩
                              case measure => simp [intOf]; omega
                            · have hdn : (dig S x j != 0) = true := by simpa using hd0
                              clear hne'
                              have HG : Hid (gdTo S C i x (j + 1) = false) := Lib.hid (gd_bad S C i x j (by first | exact ⟨.inl hji, hd0⟩ | exact ⟨.inr ⟨hfr, hne⟩, hd0⟩))
                              clear hfr hne
                              go_wp2_with fail
                              go_roundw
                              case rel => exact ⟨j + 1, by omega, by go_num, by rw [HG.out], by first | rfl | trivial⟩
                              case measure => simp [intOf]; omega
                    · have ej : Hid (j = S.length) := Lib.hid (by omega)
                      have jI : ¬ (j : Int) < (S.length : Int) := by omega
                      cases hgd : gdTo S C i x j with
                      | false =>
                        have HG : Hid (gdTo S C i (gi C k) S.length = false) := Lib.hid (by rw [← HX.out, ← ej.out]; exact hgd)
                        clear hgd
                        go_wp2_with fail
                        go_roundw
                        case rel =>
                          refine ⟨k + 1, by omega, rfl, by go_num, Lib.hid fun t ht => ?_, ownL4, ownB4, k1, B4⟩
                          by_cases e : t = k
                          · subst e; exact HG.out
                          · exact HK.out t (by omega)
                        case measure => simp [intOf]; omega
                      | true =>
                        have HM : Hid (basM S C (i + 1) = basM S C i ++ [x]) := Lib.hid (by rw [basM, gd_find hlt HFR.out (by rw [← HX.out, ← ej.out]; exact hgd) HK.out, ← HX.out])
                        have E0 : IntKind.i64.wrap x = x := IntWalk.i64_in _ ⟨by omega, by omega⟩
                        have hkx := k2
                        clear hgd
                        go_wp2_with (at_builtin; refine wpList_append_int rfl _ _ rfl (w1.heap.size + 1) _ _ rfl (ownL4.alloc _) wr.heap.size _ rfl (cell_new _ _ _) (by omega) (by rw [World.size_alloc]; omega) ?_; intro v' w5 hown' hgrow)
                        have hbT : Below wr.heap.size wr (wr.alloc (.cells #[.int .i64 x] 2)) := (Below.refl _ _).alloc (Nat.le_refl _) _
                        have hrin := World.ownsRow.lt ownL4
                        have B5 := grown_below (B4.alloc B4.size _) (by rw [World.size_alloc]; omega) hgrow (ownL4.alloc _) (by omega)
                        have c5 : w5.cell? ⟨w.heap.size, 0, none⟩ = some (.slice ao S.length cap) := hgrow.cell (a := ⟨w.heap.size, 0, none⟩) (kept_cell hbT k1 (by omega)) (fun e => by have := hrin _ e.symm; simp at this; omega)
                        have ownB5 : OwnBools w5 w1.heap.size (.slice (some ⟨w1.heap.size, 0, none⟩) S.length S.length) (frB S C C.length) := World.ownsRow.kept (ownB4.alloc (.cells #[.int .i64 x] 2)) hgrow (.inr fun e => by have := hrin w1.heap.size e.symm; omega)
                        rw [← HM.out] at hown'
                        clear ownL4 ownB4 hgrow k1 k2 B4 hbT hrin hkx
                        go_wp2_with fail
                        go_roundw
                        case rel => exact ⟨i + 1, _, by omega, by go_num, rfl, hown', ownB5, c5, B5⟩
                        case measure => simp [intOf]; omega
                · have HM : Hid (basM S C (i + 1) = basM S C i) := Lib.hid (by rw [basM, gd_find_no (fun j hj => HK.out j (by omega)), List.append_nil])
                  have kI : ¬ (k : Int) < (C.length : Int) := by omega
                  go_wp2_with fail
                  go_roundw
                  case rel => exact ⟨i + 1, _, by omega, by go_num, rfl, by rw [HM.out]; exact own, ownB, cs, B⟩
                  case measure => simp [intOf]; omega
          · have ei : i = S.length := by omega
            subst ei
            have iI : ¬ (S.length : Int) < (S.length : Int) := by omega
            go_wp2_with fail
            go_ret2
            exact ⟨_, by rw [HZ.out]; try rfl, by rw [HV.out]; exact own.rebase (by omega), B⟩
  · have hzn : (eLin S C != 0) = true := by simpa using hz
    have HV : Hid (vBas S C = []) := Lib.hid (by unfold vBas; rw [if_neg hz])
    clear hz
    go_enter Tryz.func25, Tryz.ntmps25
    go_wp2_with fail
    refine h1.mono ?_
    rintro e w1 ⟨rfl, hb⟩
    go_wp2_with fail
    go_ret2
    exact ⟨_, rfl, by rw [HV.out]; exact own_nil _ _, B0.trans (hb.mono B0.size)⟩

end Go.Proofs.YtcnnijeokefboaaGreatDoor
