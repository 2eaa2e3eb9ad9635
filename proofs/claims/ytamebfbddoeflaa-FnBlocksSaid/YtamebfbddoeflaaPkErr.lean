/-
  The contracts of what tells the errors of chapter 2. By an AI agent.
-/
import Derived.Test.YtamebfbddoeflaaPkMath
import Derived.Test.YtamebfbddoeflaaPkCode2
import Derived.Test.YtamebfbddoeflaaPkAppend
import Derived.Deep.RegionHeld3
namespace Go.Proofs.Ytamebfbddoeflaa
open Go.RowKit Cv
set_option linter.unusedVariables false
set_option linter.unusedSimpArgs false
set_option maxRecDepth 100000

theorem cmpOr2 (ao : Option Addr) (x y : Int) (cap : Nat) (w : World) (h : Ints w ao [x, y]) :
    Calls Try.prog 54 #[.slice ao 2 cap] w fun e w' => e = .returned (.int .i64 (orI x y)) ∧ w = w' := by
  obtain ⟨b, o, rfl, hb, hc⟩ := h.at (i := 0) (by simp)
  have c0 : w.cell? ⟨b, o, none⟩ = some (.int .i64 x) := by simpa [gi] using hc 0 (by simp)
  have c1 : w.cell? ⟨b, o + 1, none⟩ = some (.int .i64 y) := by simpa [gi] using hc 1 (by simp)
  clear hc h
  by_cases hx : x = 0
  · subst hx
    have HO : Hid (orI 0 y = y) := Lib.hid rfl
    by_cases hy : y = 0
    · subst hy
      go_enter Try.func54, Try.ntmps54
      go_wp2
      go_rounds 3
      go_ret
      exact ⟨rfl, rfl⟩
    · have hn : (y != 0) = true := by simpa using hy
      go_enter Try.func54, Try.ntmps54
      go_wp2
      go_rounds 2
      go_ret
      exact ⟨ret_int HO.out.symm, rfl⟩
  · have HO : Hid (orI x y = x) := Lib.hid (by unfold orI; rw [if_neg hx])
    have hn : (x != 0) = true := by simpa using hx
    clear hx
    go_enter Try.func54, Try.ntmps54
    go_wp2
    go_rounds 1
    go_ret
    exact ⟨ret_int HO.out.symm, rfl⟩

set_option maxHeartbeats 1000000 in
theorem codeAndWordsError_any (ao : Option Addr) (S : List Int) (cap : Nat) (hn : S.length ≤ 4294967296) (ac : Option Addr) (C : List Int) (capc : Nat) (hnc : C.length ≤ 4294967296) (at' : Option Addr) (T : List Int) (capt : Nat) (hnt : T.length ≤ 4294967296) (w : World) (hS : Ints w ao S) (hC : Ints w ac C) (hT : Ints w at' T) :
    Calls Try.prog 55 #[.agg #[.slice ao S.length cap], .slice ac C.length capc, .slice at' T.length capt] w fun e w' => e = .returned (.int .i64 (eCW S C T)) ∧ Below w.heap.size w w' := by
  go_enter Try.func55, Try.ntmps55
  go_wp2_with fail
  have c0 := cell_new w (.slice ao S.length cap) 26
  have B0 : Below w.heap.size w (w.alloc (.cells #[.slice ao S.length cap] 26)) := by go_grown
  go_region_held3 (fun w' => w'.cell? ⟨w.heap.size, 0, none⟩ = some (.slice ao S.length cap)) (first | exact c0 | exact kept_cell hb1 c0 (lt_alloc _ _) | exact kept_cell hb2 (kept_cell hb1 c0 (lt_alloc _ _)) (lt_of_below hb1 (lt_alloc _ _)) | exact kept_cell hb3 (kept_cell hb1 c0 (lt_alloc _ _)) (lt_of_below hb1 (lt_alloc _ _))) (first | (go_at_call 73; refine (codeError_any ao S cap hn ac C capc hnc _ (hS.below B0.drew) (hC.below B0.drew)).mono ?_; rintro e w1 ⟨rfl, hb1'⟩; have hb1 := (Below.refl _ (w.alloc (.cells #[.slice ao S.length cap] 26))).drew.trans hb1'; have B1 := B0.trans (hb1.mono B0.size)) | (go_at_call 74; refine (wordsError_any ao S cap hn at' T capt hnt _ (hS.below B1) (hT.below B1)).mono ?_; rintro e w2 ⟨rfl, hb2⟩; have hb3 := hb2.alloc (o := .cells #[.int .i64 (eCode S C), .int .i64 (eWords S T)] 2) hb2.size) | (go_at_call 54; refine (cmpOr2 _ (eCode S C) (eWords S T) _ _ (ints_new2 _ _ _ _ rfl)).mono ?_; rintro e w3 ⟨rfl, rfl⟩))
  go_wp2
  go_ret
  exact ⟨rfl, B1.trans (hb3.mono B1.size)⟩

end Go.Proofs.Ytamebfbddoeflaa
