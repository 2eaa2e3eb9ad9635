/-
  The contracts of what tells the errors of chapter 2, the rest. By an AI agent.
-/
import Derived.Test.YtamebfbddoeflaaPkErr
namespace Go.Proofs.Ytamebfbddoeflaa
open Go.RowKit Cv
set_option linter.unusedVariables false
set_option linter.unusedSimpArgs false
set_option maxRecDepth 100000

set_option maxHeartbeats 1000000 in
theorem ballError_any (ao : Option Addr) (S : List Int) (cap : Nat) (hn : S.length ≤ 4294967296) (x r : Int) (w : World) (hS : Ints w ao S) :
    Calls Try.prog 67 #[.agg #[.slice ao S.length cap], .int .i64 x, .int .i64 r] w fun e w' => e = .returned (.int .i64 (eBall S x r)) ∧ Below w.heap.size w w' := by
  have B0 : Below w.heap.size w (w.alloc (.cells #[.slice ao S.length cap] 26)) := by go_grown
  have B1 : Below w.heap.size w ((w.alloc (.cells #[.slice ao S.length cap] 26)).alloc (.cells #[.int .i64 x] 2)) := by go_grown
  by_cases hz : eWords S [x] = 0
  · have hzb : (eWords S [x] == 0) = true := by simp [hz]
    by_cases h1 : r < 0
    · have HE : Hid (eBall S x r = 2) := Lib.hid (by unfold eBall; rw [if_pos hz, if_neg (by omega)])
      have hd : decide (r < 0) = true := by simpa using h1
      clear hz
      go_enter Try.func67, Try.ntmps67
      go_wp2_with fail
      refine (wordsError_n ao S cap hn _ [x] 1 _ rfl (by omega) _ (hS.below B1) (ints_new1 _ x _ (by simp))).mono ?_
      rintro e w1 ⟨rfl, hb⟩
      go_wp2_with fail
      go_ret
      exact ⟨ret_int HE.out.symm, B1.trans (hb.mono B1.size)⟩
    · by_cases h2 : 8 < r
      · have HE : Hid (eBall S x r = 2) := Lib.hid (by unfold eBall; rw [if_pos hz, if_neg (by omega)])
        have hd : decide (r < 0) = false := by simpa using h1
        have hd2 : decide (8 < r) = true := by simpa using h2
        clear hz
        go_enter Try.func67, Try.ntmps67
        go_wp2_with fail
        refine (wordsError_n ao S cap hn _ [x] 1 _ rfl (by omega) _ (hS.below B1) (ints_new1 _ x _ (by simp))).mono ?_
        rintro e w1 ⟨rfl, hb⟩
        go_wp2_with fail
        go_ret
        exact ⟨ret_int HE.out.symm, B1.trans (hb.mono B1.size)⟩
      · have HE : Hid (eBall S x r = eWords S [x]) := Lib.hid (by unfold eBall; rw [if_pos hz, if_pos (by omega), hz])
        have hd : decide (r < 0) = false := by simpa using h1
        have hd2 : decide (8 < r) = false := by simpa using h2
        clear hz
        go_enter Try.func67, Try.ntmps67
        go_wp2_with fail
        refine (wordsError_n ao S cap hn _ [x] 1 _ rfl (by omega) _ (hS.below B1) (ints_new1 _ x _ (by simp))).mono ?_
        rintro e w1 ⟨rfl, hb⟩
        go_wp2_with fail
        go_ret
        exact ⟨ret_int HE.out.symm, B1.trans (hb.mono B1.size)⟩
  · have hzb : (eWords S [x] == 0) = false := by simpa using hz
    have HE : Hid (eBall S x r = eWords S [x]) := Lib.hid (by unfold eBall; rw [if_neg hz])
    clear hz
    go_enter Try.func67, Try.ntmps67
    go_wp2_with fail
    refine (wordsError_n ao S cap hn _ [x] 1 _ rfl (by omega) _ (hS.below B1) (ints_new1 _ x _ (by simp))).mono ?_
    rintro e w1 ⟨rfl, hb⟩
    go_wp2_with fail
    go_ret
    exact ⟨ret_int HE.out.symm, B1.trans (hb.mono B1.size)⟩

set_option maxHeartbeats 1000000 in
theorem coverError_any (ao : Option Addr) (S : List Int) (cap : Nat) (hn : S.length ≤ 4294967296) (ac : Option Addr) (C : List Int) (capc : Nat) (hnc : C.length ≤ 4294967296) (r : Int) (at' : Option Addr) (T : List Int) (capt : Nat) (hnt : T.length ≤ 4294967296) (w : World) (hS : Ints w ao S) (hC : Ints w ac C) (hT : Ints w at' T) :
    Calls Try.prog 46 #[.agg #[.slice ao S.length cap], .slice ac C.length capc, .int .i64 r, .slice at' T.length capt] w fun e w' => e = .returned (.int .i64 (eCov2 S C T r)) ∧ Below w.heap.size w w' := by
  go_enter Try.func46, Try.ntmps46
  go_wp2_with fail
  have c0 := cell_new w (.slice ao S.length cap) 26
  have B0 : Below w.heap.size w (w.alloc (.cells #[.slice ao S.length cap] 26)) := by go_grown
  go_region_held3 (fun w' => w'.cell? ⟨w.heap.size, 0, none⟩ = some (.slice ao S.length cap)) (first | exact c0 | exact kept_cell hb1 c0 (lt_alloc _ _) | exact kept_cell hb2 (kept_cell hb1 c0 (lt_alloc _ _)) (lt_of_below hb1 (lt_alloc _ _)) | exact kept_cell hb3 (kept_cell hb1 c0 (lt_alloc _ _)) (lt_of_below hb1 (lt_alloc _ _))) (first | (go_at_call 55; refine (codeAndWordsError_any ao S cap hn ac C capc hnc at' T capt hnt _ (hS.below B0.drew) (hC.below B0.drew) (hT.below B0.drew)).mono ?_; rintro e w1 ⟨rfl, hb1'⟩; have hb1 := (Below.refl _ (w.alloc (.cells #[.slice ao S.length cap] 26))).drew.trans hb1'; have B1 := B0.trans (hb1.mono B0.size)) | (go_at_call 67; refine (ballError_any ao S cap hn 0 r _ (hS.below B1)).mono ?_; rintro e w2 ⟨rfl, hb2⟩; have hb3 := hb2.alloc (o := .cells #[.int .i64 (eCW S C T), .int .i64 (eBall S 0 r)] 2) hb2.size) | (go_at_call 54; refine (cmpOr2 _ (eCW S C T) (eBall S 0 r) _ _ (ints_new2 _ _ _ _ rfl)).mono ?_; rintro e w3 ⟨rfl, rfl⟩))
  go_wp2
  go_ret
  exact ⟨rfl, B1.trans (hb3.mono B1.size)⟩
theorem coverError_n (ao : Option Addr) (S : List Int) (cap : Nat) (hn : S.length ≤ 4294967296) (ac : Option Addr) (C : List Int) (capc : Nat) (hnc : C.length ≤ 4294967296) (r : Int) (at' : Option Addr) (T : List Int) (K capt : Nat) (hK : K = T.length) (hnt : K ≤ 4294967296) (w : World) (hS : Ints w ao S) (hC : Ints w ac C) (hT : Ints w at' T) :
    Calls Try.prog 46 #[.agg #[.slice ao S.length cap], .slice ac C.length capc, .int .i64 r, .slice at' K capt] w fun e w' => e = .returned (.int .i64 (eCov2 S C T r)) ∧ Below w.heap.size w w' := by
  subst hK; exact coverError_any ao S cap hn ac C capc hnc r at' T capt hnt w hS hC hT

end Go.Proofs.Ytamebfbddoeflaa
