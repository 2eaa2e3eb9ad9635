/-
  The contracts of the model's radius, farthest word and distance to a code. By an AI agent.
-/
import Derived.Test.YtfpcdffahjoejaaFar3
namespace Go.Proofs.Ytfpcdffahjoejaa
open Go.RowKit Cv
set_option linter.unusedVariables false
set_option linter.unusedSimpArgs false
set_option maxRecDepth 100000

set_option maxHeartbeats 1000000 in
theorem l02Farthest_any (ao : Option Addr) (S : List Int) (cap : Nat) (hSp : Sp S) (ac : Option Addr) (C : List Int) (capc : Nat) (h1 : 1 ≤ C.length) (hlen : C.length ≤ 1048576) (hC0 : ∀ i, i < C.length → 0 ≤ gi C i ∧ gi C i ≤ 9223372036854775807) (w : World) (hS : Ints w ao S) (hC : Ints w ac C) :
    Calls Try.prog 81 #[.agg #[.slice ao S.length cap], .slice ac C.length capc] w fun e w' => e = .returned (.tuple #[.int .i64 (farW S C).1, .int .i64 (farW S C).2]) ∧ Below w.heap.size w w' := by
  obtain ⟨N1, N2⟩ := nW_bd hSp
  have HSp := Lib.hid hSp
  have HC0 := Lib.hid hC0
  have HF1 : Hid (farP (toF S C) 1 = (0, toW S C 0)) := Lib.hid (farP_yes _ _ (by show (-1 : Int) < toW S C 0; have := (toW_bd S C 0).1; omega))
  have HFN := Lib.hid (farP_W S C N1)
  have HN : Hid (((nW S).toNat : Int) = nW S) := Lib.hid (by omega)
  clear hSp hC0
  go_enter Try.func81, Try.ntmps81
  go_wp2_with fail
  have c0 := cell_new w (.slice ao S.length cap) 26
  have l0 := lt_alloc w (.cells #[.slice ao S.length cap] 26)
  have B0 : Below w.heap.size w (w.alloc (.cells #[.slice ao S.length cap] 26)) := by go_grown
  refine (l02To_any ao S cap HSp.out ac C capc h1 hlen HC0.out 0 (by omega) (by omega) _ (hS.below B0) (hC.below B0)).mono ?_
  rintro e w1 ⟨rfl, hb1⟩
  have B1 := B0.trans (hb1.mono B0.size)
  have c1 := kept_cell hb1 c0 l0
  have l1 := lt_of_below hb1 l0
  clear hb1 c0 l0 B0
  go_wp2_with fail
  go_loopw [6, 7, 8] (fun q t i wr => ∃ k : Nat, 1 ≤ k ∧ (k : Int) ≤ nW S ∧ i = .int .i64 k ∧ q = .int .i64 (farP (toF S C) k).1 ∧ t = .int .i64 (farP (toF S C) k).2 ∧ wr.cell? ⟨w.heap.size, 0, none⟩ = some (.slice ao S.length cap) ∧ w.heap.size < wr.heap.size ∧ Below w.heap.size w wr) (fun _ _ i _ => (nW S).toNat - (intOf i).toNat)
  case atStart => exact ⟨1, Nat.le_refl _, by omega, rfl, by rw [HF1.out], by rw [HF1.out], c1, l1, B1⟩
  case round =>
    clear c1 l1 B1
    obtain ⟨k, hk1, hk, rfl, rfl, rfl, c, l, B⟩ := hrel
    by_cases hlt : (k : Int) < nW S
    · by_cases hf : (farP (toF S C) k).2 < toW S C (k : Int)
      all_goals
        first | (have HP := Lib.hid (farP_yes (toF S C) k hf); skip) | (have HP := Lib.hid (farP_no (toF S C) k hf); skip)
        go_wp2_with fail
        refine (l01N_sp ao S cap _ HSp.out (hS.below B)).mono ?_
        rintro e w2 ⟨rfl, hb2⟩
        have c2 := kept_cell hb2 c l
        have l2 := lt_of_below hb2 l
        have B2 := B.trans (hb2.mono B.size)
        clear hb2 c l B
        go_wp2_with fail
        refine (l02To_any ao S cap HSp.out ac C capc h1 hlen HC0.out (k : Int) (by omega) (by omega) _ (hS.below B2) (hC.below B2)).mono ?_
        rintro e w3 ⟨rfl, hb3⟩
        go_wp2
        go_roundw
        case rel => exact ⟨k + 1, by omega, by omega, by go_num, by rw [HP.out]; try rfl, by rw [HP.out]; try rfl, kept_cell hb3 c2 l2, lt_of_below hb3 l2, B2.trans (hb3.mono B2.size)⟩
        case measure => simp [intOf]; omega
    · have ek : k = (nW S).toNat := by omega
      go_wp2_with fail
      refine (l01N_sp ao S cap _ HSp.out (hS.below B)).mono ?_
      rintro e w2 ⟨rfl, hb2⟩
      go_wp2
      go_ret2
      exact ⟨by first | (rw [HFN.out]; done) | (rw [HFN.out]; rfl) | (rw [ek, HFN.out]; rfl), B.trans (hb2.mono B.size)⟩

set_option maxHeartbeats 1000000 in
theorem spec_FarthestWord (ao : Option Addr) (S : List Int) (cap : Nat) (hn : S.length ≤ 4294967296) (ac : Option Addr) (C : List Int) (capc : Nat) (hnc : C.length ≤ 4294967296) (w : World) (hS : Ints w ao S) (hC : Ints w ac C) :
    Calls Try.prog 41 #[.agg #[.slice ao S.length cap], .slice ac C.length capc] w fun e w' => e = .returned (.tuple #[.int .i64 (vFarthest S C), .int .i64 (eFull S C)]) ∧ Below w.heap.size w w' := by
  have B0 : Below w.heap.size w (w.alloc (.cells #[.slice ao S.length cap] 26)) := by go_grown
  by_cases he : eFull S C = 0
  · obtain ⟨hz, hl⟩ := eFull_zero he
    have HV : Hid (vFarthest S C = (farW S C).1) := Lib.hid (by unfold vFarthest; rw [if_pos he])
    have HE := Lib.hid he
    have hzn : (eFull S C != 0) = false := by simp [he]
    obtain ⟨hSp, hc1, hc2⟩ := eCode_zero hz
    obtain ⟨N1, N2⟩ := nW_bd hSp
    have hlen := code_len hSp hc1 hc2
    have HSp := Lib.hid hSp
    have HC1 : Hid (∀ i, i < C.length → 0 ≤ gi C i ∧ gi C i ≤ 9223372036854775807) := Lib.hid fun i h => by have := hc1 i h; omega
    clear hc1 hc2 hSp
    clear hz he
    go_enter Try.func41, Try.ntmps41
    go_wp2_with fail
    refine (l02Full_any ao S cap hn ac C capc hnc _ (hS.below B0) (hC.below B0)).mono ?_
    rintro e w1 ⟨rfl, hb⟩
    have c1 := kept_cell hb (cell_new w (.slice ao S.length cap) 26) (lt_alloc _ _)
    have B1 : Below w.heap.size w w1 := B0.trans (hb.mono B0.size)
    clear hb B0
    go_wp2_with fail
    refine (l02Farthest_any ao S cap HSp.out ac C capc hl (by omega) HC1.out _ (hS.below B1) (hC.below B1)).mono ?_
    rintro e w2 ⟨rfl, hb2⟩
    go_wp2_with fail
    go_ret2
    exact ⟨by rw [HV.out, HE.out]; try rfl, B1.trans (hb2.mono B1.size)⟩
  · have HV : Hid (vFarthest S C = 0) := Lib.hid (by unfold vFarthest; rw [if_neg he])
    have hzn : (eFull S C != 0) = true := by simpa using he
    clear he
    go_enter Try.func41, Try.ntmps41
    go_wp2_with fail
    refine (l02Full_any ao S cap hn ac C capc hnc _ (hS.below B0) (hC.below B0)).mono ?_
    rintro e w1 ⟨rfl, hb⟩
    go_wp2_with fail
    go_ret2
    exact ⟨by rw [HV.out]; try rfl, B0.trans (hb.mono B0.size)⟩

set_option maxHeartbeats 1000000 in
theorem spec_DistanceTo (ao : Option Addr) (S : List Int) (cap : Nat) (hn : S.length ≤ 4294967296) (ac : Option Addr) (C : List Int) (capc : Nat) (hnc : C.length ≤ 4294967296) (x : Int) (hx : -9223372036854775808 ≤ x ∧ x ≤ 9223372036854775807) (w : World) (hS : Ints w ao S) (hC : Ints w ac C) :
    Calls Try.prog 38 #[.agg #[.slice ao S.length cap], .slice ac C.length capc, .int .i64 x] w fun e w' => e = .returned (.tuple #[.int .i64 (vTo S C x), .int .i64 (eTo S C x)]) ∧ Below w.heap.size w w' := by
  have B0 : Below w.heap.size w (w.alloc (.cells #[.slice ao S.length cap] 26)) := by go_grown
  by_cases hz : eCode S C = 0
  · obtain ⟨hSp, hc1, hc2⟩ := eCode_zero hz
    obtain ⟨N1, N2⟩ := nW_bd hSp
    have hlen := code_len hSp hc1 hc2
    have HSp := Lib.hid hSp
    have HC1 : Hid (∀ i, i < C.length → 0 ≤ gi C i ∧ gi C i ≤ 9223372036854775807) := Lib.hid fun i h => by have := hc1 i h; omega
    clear hc1 hc2 hSp
    by_cases hxr : 0 ≤ x ∧ x < nW S
    · obtain ⟨x1, x2⟩ := hxr
      have BI := inB_true (n := x) (low := 0) (high := nW S - 1) x1 (by omega)
      by_cases hl : C.length = 0
      · have HF := Lib.hid (eFull_nil hz hl)
        have HE := Lib.hid (eTo_nil hz ⟨x1, x2⟩ hl)
        have HV : Hid (vTo S C x = 0) := Lib.hid (by unfold vTo; rw [HE.out]; rfl)
        have f0 : (eFull S C == 0) = false := by rw [HF.out]; rfl
        have f5 : (eFull S C == 5) = true := by rw [HF.out]; rfl
        have f1 : (eFull S C != 0) = true := by rw [HF.out]; rfl
        clear hz hl
        skip
        go_enter Try.func38, Try.ntmps38
        go_wp2_with fail
        refine (l02Full_any ao S cap hn ac C capc hnc _ (hS.below B0) (hC.below B0)).mono ?_
        rintro e w1 ⟨rfl, hb⟩
        have c1 := kept_cell hb (cell_new w (.slice ao S.length cap) 26) (lt_alloc _ _)
        have l1 := lt_of_below hb (lt_alloc w (.cells #[.slice ao S.length cap] 26))
        have B1 : Below w.heap.size w w1 := B0.trans (hb.mono B0.size)
        clear hb B0
        go_wp2_with (first | (go_at_call 62; refine (l01N_sp ao S cap _ HSp.out (hS.below B1)).mono ?_; rintro e w2 ⟨rfl, hb2⟩; have c2 := kept_cell hb2 c1 l1; have B2 := B1.trans (hb2.mono B1.size); clear c1) | (go_at_call 69; refine (l01In_any _ _ _ _).mono ?_; rintro e w' ⟨rfl, rfl⟩) | fail)
        go_wp2_with fail
        go_ret2
        exact ⟨by rw [HV.out, HE.out, HF.out]; try rfl, B2⟩
      · have HF := Lib.hid (eFull_ok hz hl)
        have HE := Lib.hid (eTo_ok hz ⟨x1, x2⟩ hl)
        have HV : Hid (vTo S C x = toW S C x) := Lib.hid (by unfold vTo; rw [if_pos HE.out])
        have f0 : (eFull S C == 0) = true := by rw [HF.out]; rfl
        have f1 : (eFull S C != 0) = false := by rw [HF.out]; rfl
        have hl' : 1 ≤ C.length := by omega
        clear hz hl
        skip
        go_enter Try.func38, Try.ntmps38
        go_wp2_with fail
        refine (l02Full_any ao S cap hn ac C capc hnc _ (hS.below B0) (hC.below B0)).mono ?_
        rintro e w1 ⟨rfl, hb⟩
        have c1 := kept_cell hb (cell_new w (.slice ao S.length cap) 26) (lt_alloc _ _)
        have l1 := lt_of_below hb (lt_alloc w (.cells #[.slice ao S.length cap] 26))
        have B1 : Below w.heap.size w w1 := B0.trans (hb.mono B0.size)
        clear hb B0
        go_wp2_with (first | (go_at_call 62; refine (l01N_sp ao S cap _ HSp.out (hS.below B1)).mono ?_; rintro e w2 ⟨rfl, hb2⟩; have c2 := kept_cell hb2 c1 l1; have B2 := B1.trans (hb2.mono B1.size); clear c1) | (go_at_call 69; refine (l01In_any _ _ _ _).mono ?_; rintro e w' ⟨rfl, rfl⟩) | (go_at_call 75; refine (l02To_any ao S cap HSp.out ac C capc hl' (by omega) HC1.out x x1 (by omega) _ (hS.below B2) (hC.below B2)).mono ?_; rintro e w3 ⟨rfl, hb3⟩))
        go_ret2
        exact ⟨by rw [HV.out, HE.out]; try rfl, B2.trans (hb3.mono B2.size)⟩
    · have BI := inB_false (n := x) (low := 0) (high := nW S - 1) (by omega)
      have HE := Lib.hid (eTo_out hz hxr)
      have HV : Hid (vTo S C x = 0) := Lib.hid (by unfold vTo; rw [HE.out]; rfl)
      by_cases hl : C.length = 0
      · have HF := Lib.hid (eFull_nil hz hl)
        have f0 : (eFull S C == 0) = false := by rw [HF.out]; rfl
        have f5 : (eFull S C == 5) = true := by rw [HF.out]; rfl
        clear hz hl hxr
        skip
        go_enter Try.func38, Try.ntmps38
        go_wp2_with fail
        refine (l02Full_any ao S cap hn ac C capc hnc _ (hS.below B0) (hC.below B0)).mono ?_
        rintro e w1 ⟨rfl, hb⟩
        have c1 := kept_cell hb (cell_new w (.slice ao S.length cap) 26) (lt_alloc _ _)
        have l1 := lt_of_below hb (lt_alloc w (.cells #[.slice ao S.length cap] 26))
        have B1 : Below w.heap.size w w1 := B0.trans (hb.mono B0.size)
        clear hb B0
        go_wp2_with (first | (go_at_call 62; refine (l01N_sp ao S cap _ HSp.out (hS.below B1)).mono ?_; rintro e w2 ⟨rfl, hb2⟩; have c2 := kept_cell hb2 c1 l1; have B2 := B1.trans (hb2.mono B1.size); clear c1) | (go_at_call 69; refine (l01In_any _ _ _ _).mono ?_; rintro e w' ⟨rfl, rfl⟩) | fail)
        go_wp2_with fail
        go_ret2
        exact ⟨by rw [HV.out, HE.out]; try rfl, B2⟩
      · have HF := Lib.hid (eFull_ok hz hl)
        have f0 : (eFull S C == 0) = true := by rw [HF.out]; rfl
        clear hz hl hxr
        skip
        go_enter Try.func38, Try.ntmps38
        go_wp2_with fail
        refine (l02Full_any ao S cap hn ac C capc hnc _ (hS.below B0) (hC.below B0)).mono ?_
        rintro e w1 ⟨rfl, hb⟩
        have c1 := kept_cell hb (cell_new w (.slice ao S.length cap) 26) (lt_alloc _ _)
        have l1 := lt_of_below hb (lt_alloc w (.cells #[.slice ao S.length cap] 26))
        have B1 : Below w.heap.size w w1 := B0.trans (hb.mono B0.size)
        clear hb B0
        go_wp2_with (first | (go_at_call 62; refine (l01N_sp ao S cap _ HSp.out (hS.below B1)).mono ?_; rintro e w2 ⟨rfl, hb2⟩; have c2 := kept_cell hb2 c1 l1; have B2 := B1.trans (hb2.mono B1.size); clear c1) | (go_at_call 69; refine (l01In_any _ _ _ _).mono ?_; rintro e w' ⟨rfl, rfl⟩) | fail)
        go_wp2_with fail
        go_ret2
        exact ⟨by rw [HV.out, HE.out]; try rfl, B2⟩
  · have HF := Lib.hid (eFull_bad hz)
    have HE := Lib.hid (eTo_bad (x := x) hz)
    have HV : Hid (vTo S C x = 0) := Lib.hid (by unfold vTo; rw [HE.out, if_neg hz])
    have f0 : (eFull S C == 0) = false := by rw [HF.out]; simpa using hz
    have f5 : (eFull S C == 5) = false := by rw [HF.out]; rcases eCode_or S C with h | h | h <;> rw [h] <;> rfl
    have f1 : (eFull S C != 0) = true := by rw [HF.out]; simpa using hz
    clear hz
    skip
    go_enter Try.func38, Try.ntmps38
    go_wp2_with fail
    refine (l02Full_any ao S cap hn ac C capc hnc _ (hS.below B0) (hC.below B0)).mono ?_
    rintro e w1 ⟨rfl, hb⟩
    have c1 := kept_cell hb (cell_new w (.slice ao S.length cap) 26) (lt_alloc _ _)
    have l1 := lt_of_below hb (lt_alloc w (.cells #[.slice ao S.length cap] 26))
    have B1 : Below w.heap.size w w1 := B0.trans (hb.mono B0.size)
    clear hb B0
    go_wp2_with fail
    go_ret2
    exact ⟨by rw [HV.out, HE.out, HF.out]; try rfl, B1⟩

end Go.Proofs.Ytfpcdffahjoejaa
