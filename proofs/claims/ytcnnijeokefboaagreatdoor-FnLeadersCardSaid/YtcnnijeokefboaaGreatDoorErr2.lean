/-
  The contracts of what tells the errors of chapter 2, the rest. By an AI agent.
-/
import Derived.Test.YtcnnijeokefboaaGreatDoorErr
namespace Go.Proofs.YtcnnijeokefboaaGreatDoor
open Go.RowKit Cv
set_option linter.unusedVariables false
set_option linter.unusedSimpArgs false
set_option maxRecDepth 100000

set_option maxHeartbeats 1000000 in
theorem someWordsError_any (ao : Option Addr) (S : List Int) (cap : Nat) (hn : S.length ≤ 4294967296) (ac : Option Addr) (C : List Int) (capc : Nat) (hnc : C.length ≤ 4294967296) (at' : Option Addr) (T : List Int) (capt : Nat) (hnt : T.length ≤ 4294967296) (w : World) (hS : Ints w ao S) (hC : Ints w ac C) (hT : Ints w at' T) :
    Calls Tryz.prog 92 #[.agg #[.slice ao S.length cap], .slice ac C.length capc, .slice at' T.length capt] w fun e w' => e = .returned (.int .i64 (eSome S C T)) ∧ Below w.heap.size w w' := by
  have B0 : Below w.heap.size w (w.alloc (.cells #[.slice ao S.length cap] 26)) := by go_grown
  by_cases hz : eCW S C T = 0
  · have hzb : (eCW S C T == 0) = true := by simp [hz]
    by_cases hl : C.length = 0
    · have HE : Hid (eSome S C T = 5) := Lib.hid (by unfold eSome; rw [if_pos ⟨hz, hl⟩])
      have hd : ((C.length : Int) == 0) = true := by simp [hl]
      clear hz hl
      go_enter Tryz.func92, Tryz.ntmps92
      go_wp2_with fail
      refine (codeAndWordsError_any ao S cap hn ac C capc hnc at' T capt hnt _ (hS.below B0) (hC.below B0) (hT.below B0)).mono ?_
      rintro e w1 ⟨rfl, hb⟩
      go_wp2_with fail
      go_ret
      exact ⟨ret_int HE.out.symm, B0.trans (hb.mono B0.size)⟩
    · have HE : Hid (eSome S C T = eCW S C T) := Lib.hid (by unfold eSome; rw [if_neg (fun h => hl h.2)])
      have hd : ((C.length : Int) == 0) = false := by simpa using hl
      clear hz hl
      go_enter Tryz.func92, Tryz.ntmps92
      go_wp2_with fail
      refine (codeAndWordsError_any ao S cap hn ac C capc hnc at' T capt hnt _ (hS.below B0) (hC.below B0) (hT.below B0)).mono ?_
      rintro e w1 ⟨rfl, hb⟩
      go_wp2_with fail
      go_ret
      exact ⟨ret_int HE.out.symm, B0.trans (hb.mono B0.size)⟩
  · have hzb : (eCW S C T == 0) = false := by simpa using hz
    have HE : Hid (eSome S C T = eCW S C T) := Lib.hid (by unfold eSome; rw [if_neg (fun h => hz h.1)])
    clear hz
    go_enter Tryz.func92, Tryz.ntmps92
    go_wp2_with fail
    refine (codeAndWordsError_any ao S cap hn ac C capc hnc at' T capt hnt _ (hS.below B0) (hC.below B0) (hT.below B0)).mono ?_
    rintro e w1 ⟨rfl, hb⟩
    go_wp2_with fail
    go_ret
    exact ⟨ret_int HE.out.symm, B0.trans (hb.mono B0.size)⟩

theorem someWordsError_n (ao : Option Addr) (S : List Int) (cap : Nat) (hn : S.length ≤ 4294967296) (ac : Option Addr) (C : List Int) (capc : Nat) (hnc : C.length ≤ 4294967296) (at' : Option Addr) (T : List Int) (K capt : Nat) (hK : K = T.length) (hnt : K ≤ 4294967296) (w : World) (hS : Ints w ao S) (hC : Ints w ac C) (hT : Ints w at' T) :
    Calls Tryz.prog 92 #[.agg #[.slice ao S.length cap], .slice ac C.length capc, .slice at' K capt] w fun e w' => e = .returned (.int .i64 (eSome S C T)) ∧ Below w.heap.size w w' := by
  subst hK; exact someWordsError_any ao S cap hn ac C capc hnc at' T capt hnt w hS hC hT

end Go.Proofs.YtcnnijeokefboaaGreatDoor
