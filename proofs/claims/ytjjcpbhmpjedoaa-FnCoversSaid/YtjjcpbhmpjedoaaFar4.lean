/-
  The contracts of the model's radius, farthest word and distance to a code. By an AI agent.
-/
import Derived.Test.YtjjcpbhmpjedoaaFar3
namespace Go.Proofs.Ytjjcpbhmpjedoaa
open Go.RowKit Cv
set_option linter.unusedVariables false
set_option linter.unusedSimpArgs false
set_option maxRecDepth 100000

set_option maxHeartbeats 1000000 in
theorem l02Farthest_any (ao : Option Addr) (S : List Int) (cap : Nat) (hSp : Sp S) (ac : Option Addr) (C : List Int) (capc : Nat) (h1 : 1 ≤ C.length) (hlen : C.length ≤ 1048576) (hC0 : ∀ i, i < C.length → 0 ≤ gi C i ∧ gi C i ≤ 9223372036854775807) (w : World) (hS : Ints w ao S) (hC : Ints w ac C) :
    Calls Try.prog 91 #[.agg #[.slice ao S.length cap], .slice ac C.length capc] w fun e w' => e = .returned (.tuple #[.int .i64 (farW S C).1, .int .i64 (farW S C).2]) ∧ Below w.heap.size w w' := by
  obtain ⟨N1, N2⟩ := nW_bd hSp
  have HSp := Lib.hid hSp
  have HC0 := Lib.hid hC0
  have HF1 : Hid (farP (toF S C) 1 = (0, toW S C 0)) := Lib.hid (farP_yes _ _ (by show (-1 : Int) < toW S C 0; have := (toW_bd S C 0).1; omega))
  have HFN := Lib.hid (farP_W S C N1)
  have HN : Hid (((nW S).toNat : Int) = nW S) := Lib.hid (by omega)
  clear hSp hC0
  go_enter Try.func91, Try.ntmps91
  go_wp2_with fail
  have c0 := cell_new w (.slice ao S.length cap) 26
  have l0 := lt_alloc w (.cells #[.slice ao S.length cap] 26)
  have B0 : Below w.heap.size w (w.alloc (.cells #[.slice ao S.length cap] 26)) := by go_grown
  refine (l02To_any ao S cap HSp.out ac C capc h1 hlen HC0.out 0 (by omega) (by omega) _ (hS.below B0) (hC.below B0)).mono ?_
  rintro e w1 ⟨rfl, hb1⟩
  have B1 := B0.trans (hb1.mono B0.size)
  have c1 := kept_cell hb1 c0 l0
  have l1 := lt_of_below hb1 l0
  clear hb1 c0 l0 B0
  go_wp2_with fail
  go_loopw [6, 7, 8] (fun q t i wr => ∃ k : Nat, 1 ≤ k ∧ (k : Int) ≤ nW S ∧ i = .int .i64 k ∧ q = .int .i64 (farP (toF S C) k).1 ∧ t = .int .i64 (farP (toF S C) k).2 ∧ wr.cell? ⟨w.heap.size, 0, none⟩ = some (.slice ao S.length cap) ∧ w.heap.size < wr.heap.size ∧ Below w.heap.size w wr) (fun _ _ i _ => (nW S).toNat - (intOf i).toNat)
  case atStart => exact ⟨1, Nat.le_refl _, by omega, rfl, by rw [HF1.out], by rw [HF1.out], c1, l1, B1⟩
  case round =>
    clear c1 l1 B1
    obtain ⟨k, hk1, hk, rfl, rfl, rfl, c, l, B⟩ := hrel
    by_cases hlt : (k : Int) < nW S
    · by_cases hf : (farP (toF S C) k).2 < toW S C (k : Int)
      all_goals
        first | (have HP := Lib.hid (farP_yes (toF S C) k hf); skip) | (have HP := Lib.hid (farP_no (toF S C) k hf); skip)
        go_wp2_with fail
        refine (l01N_sp ao S cap _ HSp.out (hS.below B)).mono ?_
        rintro e w2 ⟨rfl, hb2⟩
        have c2 := kept_cell hb2 c l
        have l2 := lt_of_below hb2 l
        have B2 := B.trans (hb2.mono B.size)
        clear hb2 c l B
        go_wp2_with fail
        refine (l02To_any ao S cap HSp.out ac C capc h1 hlen HC0.out (k : Int) (by omega) (by omega) _ (hS.below B2) (hC.below B2)).mono ?_
        rintro e w3 ⟨rfl, hb3⟩
        go_wp2
        go_roundw
        case rel => exact ⟨k + 1, by omega, by omega, by go_num, by rw [HP.out]; try rfl, by rw [HP.out]; try rfl, kept_cell hb3 c2 l2, lt_of_below hb3 l2, B2.trans (hb3.mono B2.size)⟩
        case measure => simp [intOf]; omega
    · have ek : k = (nW S).toNat := by omega
      go_wp2_with fail
      refine (l01N_sp ao S cap _ HSp.out (hS.below B)).mono ?_
      rintro e w2 ⟨rfl, hb2⟩
      go_wp2
      go_ret2
      exact ⟨by first | (rw [HFN.out]; done) | (rw [HFN.out]; rfl) | (rw [ek, HFN.out]; rfl), B.trans (hb2.mono B.size)⟩

set_option maxHeartbeats 1000000 in
theorem spec_RadiusOf (ao : Option Addr) (S : List Int) (cap : Nat) (hn : S.length ≤ 4294967296) (ac : Option Addr) (C : List Int) (capc : Nat) (hnc : C.length ≤ 4294967296) (w : World) (hS : Ints w ao S) (hC : Ints w ac C) :
    Calls Try.prog 45 #[.agg #[.slice ao S.length cap], .slice ac C.length capc] w fun e w' => e = .returned (.tuple #[.int .i64 (vRadius S C), .int .i64 (eFull S C)]) ∧ Below w.heap.size w w' := by
  have B0 : Below w.heap.size w (w.alloc (.cells #[.slice ao S.length cap] 26)) := by go_grown
  by_cases he : eFull S C = 0
  · obtain ⟨hz, hl⟩ := eFull_zero he
    have HV : Hid (vRadius S C = (farW S C).2) := Lib.hid (by unfold vRadius; rw [if_pos he])
    have HE := Lib.hid he
    have hzn : (eFull S C != 0) = false := by simp [he]
    obtain ⟨hSp, hc1, hc2⟩ := eCode_zero hz
    obtain ⟨N1, N2⟩ := nW_bd hSp
    have hlen := code_len hSp hc1 hc2
    have HSp := Lib.hid hSp
    have HC1 : Hid (∀ i, i < C.length → 0 ≤ gi C i ∧ gi C i ≤ 9223372036854775807) := Lib.hid fun i h => by have := hc1 i h; omega
    clear hc1 hc2 hSp
    clear hz he
    go_enter Try.func45, Try.ntmps45
    go_wp2_with fail
    refine (l02Full_any ao S cap hn ac C capc hnc _ (hS.below B0) (hC.below B0)).mono ?_
    rintro e w1 ⟨rfl, hb⟩
    have c1 := kept_cell hb (cell_new w (.slice ao S.length cap) 26) (lt_alloc _ _)
    have B1 : Below w.heap.size w w1 := B0.trans (hb.mono B0.size)
    clear hb B0
    go_wp2_with fail
    refine (l02Farthest_any ao S cap HSp.out ac C capc hl (by omega) HC1.out _ (hS.below B1) (hC.below B1)).mono ?_
    rintro e w2 ⟨rfl, hb2⟩
    go_wp2_with fail
    go_ret2
    exact ⟨by rw [HV.out, HE.out]; try rfl, B1.trans (hb2.mono B1.size)⟩
  · have HV : Hid (vRadius S C = 0) := Lib.hid (by unfold vRadius; rw [if_neg he])
    have hzn : (eFull S C != 0) = true := by simpa using he
    clear he
    go_enter Try.func45, Try.ntmps45
    go_wp2_with fail
    refine (l02Full_any ao S cap hn ac C capc hnc _ (hS.below B0) (hC.below B0)).mono ?_
    rintro e w1 ⟨rfl, hb⟩
    go_wp2_with fail
    go_ret2
    exact ⟨by rw [HV.out]; try rfl, B0.trans (hb.mono B0.size)⟩

end Go.Proofs.Ytjjcpbhmpjedoaa
