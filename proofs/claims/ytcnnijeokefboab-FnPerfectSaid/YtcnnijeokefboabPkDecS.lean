/-
  The contract of the model of DecodeWord. By an AI agent.
-/
import Derived.Test.YtcnnijeokefboabPkPerS
import Derived.Deep.RegionHeld3
namespace Go.Proofs.Ytcnnijeokefboab
open Go.RowKit Cv
set_option linter.unusedVariables false
set_option linter.unusedSimpArgs false
set_option maxRecDepth 100000

set_option maxHeartbeats 2000000 in
theorem spec_DecodeWord (ao : Option Addr) (S : List Int) (cap : Nat) (hn : S.length ≤ 4294967296) (ac : Option Addr) (C : List Int) (capc : Nat) (hnc : C.length ≤ 4294967296) (r : Int) (hr : -9223372036854775808 ≤ r ∧ r ≤ 9223372036854775807) (x : Int) (hx : -9223372036854775808 ≤ x ∧ x ≤ 9223372036854775807) (w : World) (hS : Ints w ao S) (hC : Ints w ac C) :
    Calls Try.prog 7 #[.agg #[.slice ao S.length cap], .slice ac C.length capc, .int .i64 r, .int .i64 x] w fun e w' => e = .returned (.tuple #[.int .i64 (vDec S C r x), .int .i64 (eDec S C r x)]) ∧ Below w.heap.size w w' := by
  have B0 : Below w.heap.size w (w.alloc (.cells #[.slice ao S.length cap] 26)) := by go_grown
  by_cases hq : eCov S C r = 0
  · obtain ⟨hz, r1, r2⟩ := eCov_zero hq
    obtain ⟨hSp, hc1, hc2⟩ := eCode_zero hz
    obtain ⟨N1, N2⟩ := nW_bd hSp
    have hlen := code_len hSp hc1 hc2
    have HSp := Lib.hid hSp
    have HC1 : Hid (∀ i, i < C.length → 0 ≤ gi C i ∧ gi C i ≤ 9223372036854775807) := Lib.hid fun i h => by have := hc1 i h; omega
    have hs8 := hSp.hi
    clear hc1 hc2 hSp
    have hqb : (eCov S C r == 0) = true := by simp [hq]
    have hqn : (eCov S C r != 0) = false := by simp [hq]
    by_cases hxr : 0 ≤ x ∧ x < nW S
    · obtain ⟨x1, x2⟩ := hxr
      have BI := inB_true (n := x) (low := 0) (high := nW S - 1) x1 (by omega)
      have HT : Hid (eTimes S C x r = 0) := Lib.hid (by unfold eTimes; rw [if_pos hq, if_pos ⟨x1, x2⟩])
      have HQ := Lib.hid hq
      have hIs := Lib.hid fun W h1 h2 => l06Is_any ao S cap HSp.out ac C capc (by omega) HC1.out r W h1 h2
      cases hp : perB S C r with
      | true =>
        have HE : Hid (eDec S C r x = 0) := Lib.hid (by unfold eDec; rw [if_pos HT.out, if_pos hp])
        have HV : Hid (vDec S C r x = gi C (decI S C r x)) := Lib.hid (by unfold vDec; rw [if_pos HE.out])
        have hlt := dec_lt HSp.out r1 hp ⟨x1, x2⟩
        have HD := Lib.hid (fstI_lt (p := fun k => decide (dist S (gi C k) x ≤ r)) (n := C.length) hlt)
        rw [show fstI (fun k => decide (dist S (gi C k) x ≤ r)) C.length = decI S C r x from rfl] at HD
        have HP := Lib.hid hp
        obtain ⟨D, hD⟩ : ∃ D, D = decI S C r x := ⟨_, rfl⟩
        rw [← hD] at HV HD hlt
        clear hq hz hp hD
        go_enter Try.func7, Try.ntmps7
        go_wp2_with fail
        refine (l02Code_any ao S cap hn ac C capc hnc r _ (hS.below B0) (hC.below B0)).mono ?_
        rintro e w1 ⟨rfl, hb⟩
        have c1 := kept_cell hb (cell_new w (.slice ao S.length cap) 26) (lt_alloc _ _)
        have l1 := lt_of_below hb (lt_alloc w (.cells #[.slice ao S.length cap] 26))
        have B1 : Below w.heap.size w w1 := B0.trans (hb.mono B0.size)
        clear hb B0
        go_wp2_with (first | (go_at_call 26; refine (l01N_sp ao S cap _ HSp.out (hS.below B1)).mono ?_; rintro e w2 ⟨rfl, hb2⟩; have c2 := kept_cell hb2 c1 l1; have l2 := lt_of_below hb2 l1; have B2 := B1.trans (hb2.mono B1.size); clear c1) | (go_at_call 34; refine (l01In_any _ _ _ _).mono ?_; rintro e w' ⟨rfl, rfl⟩) | (go_at_call 35; refine (hIs.out _ (hS.below B2) (hC.below B2)).mono ?_; rintro e w3 ⟨rfl, hb3⟩; rw [HP.out]; have c3 := kept_cell hb3 c2 l2; have l3 := lt_of_below hb3 l2; have B3 := B2.trans (hb3.mono B2.size)) | fail)
        clear l1 l2 c2 hb3 B1 B2
        go_loopw [11] (fun i wr => ∃ k : Nat, k ≤ D ∧ i = .int .i64 k ∧ wr.cell? ⟨w.heap.size, 0, none⟩ = some (.slice ao S.length cap) ∧ w.heap.size < wr.heap.size ∧ Below w.heap.size w wr) (fun i _ => D - (intOf i).toNat)
        case atStart => exact ⟨0, Nat.zero_le _, rfl, c3, l3, B3⟩
        case round =>
          clear c3 l3 B3
          obtain ⟨k, hk, rfl, c, l, B⟩ := hrel
          have hkC : k < C.length := by omega
          obtain ⟨b, o, rfl, hbl, hc⟩ := hC.at hkC
          have hck : wr.cell? ⟨b, o + k, none⟩ = some (.int .i64 (gi C k)) := kept_cell B (hc k hkC) hbl
          obtain ⟨y1, y2⟩ := HC1.out k hkC
          have hbw : b < wr.heap.size := lt_of_below B hbl
          have hs := B.size
          clear hc
          go_wp2_with fail
          go_region_held3 (fun w' => w'.cell? ⟨w.heap.size, 0, none⟩ = some (.slice ao S.length cap) ∧ w'.cell? ⟨b, o + k, none⟩ = some (.int .i64 (gi C k))) (first | exact ⟨c, hck⟩ | exact ⟨kept_cell hb3 c l, kept_cell hb3 hck hbw⟩) (first | (go_at_call 36; refine (l01Distance_any ao S cap hs8 HSp.out.bd (gi C k) x y1 y2 x1 (by omega) _ (hS.below B.drew)).mono ?_; rintro e w3 ⟨rfl, hb3'⟩; have hb3 : Below wr.heap.size wr w3 := (Below.refl _ wr).drew.trans hb3'))
          have c' := kept_cell hb3 c l
          have l' := lt_of_below hb3 l
          have hck' := kept_cell hb3 hck hbw
          have B' := B.trans (hb3.mono hs)
          clear c l hck B
          by_cases hkD : k < D
          · have HN : Hid (r < dist S (gi C k) x) := Lib.hid (by
              have h1 := HD.out.2 k hkD
              simpa using h1)
            have hN := HN.out
            go_wp2_with fail
            go_roundw
            case rel => exact ⟨k + 1, by omega, by go_num, c', l', B'⟩
            case measure => simp [intOf]; omega
          · have ek : Hid (k = D) := Lib.hid (by omega)
            have HN : Hid (¬ r < dist S (gi C k) x) := Lib.hid (by
              have h1 := HD.out.1
              rw [ek.out]; simpa using h1)
            have hN := HN.out
            go_wp2_with fail
            go_ret2
            exact ⟨by rw [HE.out, HV.out, ← ek.out]; try rfl, B'⟩
      | false =>
        have HE : Hid (eDec S C r x = 5) := Lib.hid (by unfold eDec; rw [if_pos HT.out, if_neg (by rw [hp]; simp)])
        have HV : Hid (vDec S C r x = 0) := Lib.hid (by unfold vDec; rw [HE.out]; rfl)
        have HP := Lib.hid hp
        clear hq hz hp
        go_enter Try.func7, Try.ntmps7
        go_wp2_with fail
        refine (l02Code_any ao S cap hn ac C capc hnc r _ (hS.below B0) (hC.below B0)).mono ?_
        rintro e w1 ⟨rfl, hb⟩
        have c1 := kept_cell hb (cell_new w (.slice ao S.length cap) 26) (lt_alloc _ _)
        have l1 := lt_of_below hb (lt_alloc w (.cells #[.slice ao S.length cap] 26))
        have B1 : Below w.heap.size w w1 := B0.trans (hb.mono B0.size)
        clear hb B0
        go_wp2_with (first | (go_at_call 26; refine (l01N_sp ao S cap _ HSp.out (hS.below B1)).mono ?_; rintro e w2 ⟨rfl, hb2⟩; have c2 := kept_cell hb2 c1 l1; have l2 := lt_of_below hb2 l1; have B2 := B1.trans (hb2.mono B1.size); clear c1) | (go_at_call 34; refine (l01In_any _ _ _ _).mono ?_; rintro e w' ⟨rfl, rfl⟩) | (go_at_call 35; refine (hIs.out _ (hS.below B2) (hC.below B2)).mono ?_; rintro e w3 ⟨rfl, hb3⟩; rw [HP.out]; have B3 := B2.trans (hb3.mono B2.size)) | fail)
        go_wp2_with fail
        go_ret2
        exact ⟨by rw [HE.out, HV.out]; try rfl, B3⟩
    · have BI := inB_false (n := x) (low := 0) (high := nW S - 1) (by omega)
      have HT : Hid (eTimes S C x r = 2) := Lib.hid (by unfold eTimes; rw [if_pos hq, if_neg hxr])
      have HE : Hid (eDec S C r x = 2) := Lib.hid (by unfold eDec; rw [HT.out]; rfl)
      have HV : Hid (vDec S C r x = 0) := Lib.hid (by unfold vDec; rw [HE.out]; rfl)
      clear hq hz hxr
      go_enter Try.func7, Try.ntmps7
      go_wp2_with fail
      refine (l02Code_any ao S cap hn ac C capc hnc r _ (hS.below B0) (hC.below B0)).mono ?_
      rintro e w1 ⟨rfl, hb⟩
      have c1 := kept_cell hb (cell_new w (.slice ao S.length cap) 26) (lt_alloc _ _)
      have l1 := lt_of_below hb (lt_alloc w (.cells #[.slice ao S.length cap] 26))
      have B1 : Below w.heap.size w w1 := B0.trans (hb.mono B0.size)
      clear hb B0
      go_wp2_with (first | (go_at_call 26; refine (l01N_sp ao S cap _ HSp.out (hS.below B1)).mono ?_; rintro e w2 ⟨rfl, hb2⟩; have c2 := kept_cell hb2 c1 l1; have B2 := B1.trans (hb2.mono B1.size); clear c1) | (go_at_call 34; refine (l01In_any _ _ _ _).mono ?_; rintro e w' ⟨rfl, rfl⟩) | fail)
      go_wp2_with fail
      go_ret2
      exact ⟨by rw [HE.out, HV.out]; try rfl, B2⟩
  · have hqb : (eCov S C r == 0) = false := by simpa using hq
    have hqn : (eCov S C r != 0) = true := by simpa using hq
    have HE : Hid (eDec S C r x = eCov S C r) := Lib.hid (by unfold eDec eTimes; rw [if_neg hq, if_neg hq])
    have HV : Hid (vDec S C r x = 0) := Lib.hid (by unfold vDec; rw [HE.out, if_neg hq])
    clear hq
    go_enter Try.func7, Try.ntmps7
    go_wp2_with fail
    refine (l02Code_any ao S cap hn ac C capc hnc r _ (hS.below B0) (hC.below B0)).mono ?_
    rintro e w1 ⟨rfl, hb⟩
    have B1 : Below w.heap.size w w1 := B0.trans (hb.mono B0.size)
    clear hb B0
    go_wp2_with fail
    go_ret2
    exact ⟨by rw [HE.out, HV.out]; try rfl, B1⟩

end Go.Proofs.Ytcnnijeokefboab
