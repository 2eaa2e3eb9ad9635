/-
  The contract of the program's list of all words. By an AI agent.
-/
import Derived.Test.YtcnnijeokefboaaGreatDoorWords
import Derived.Test.YtcnnijeokefboaaGreatDoorAppend
namespace Go.Proofs.YtcnnijeokefboaaGreatDoor
open Go.RowKit Cv
set_option linter.unusedVariables false
set_option linter.unusedSimpArgs false
set_option maxRecDepth 100000

theorem wordCount_nat (ao : Option Addr) (S : List Int) (cap : Nat) (N : Nat) (hN : Hid (nW S = (N : Int))) (w : World) (h : Sp S) (hS : Ints w ao S) :
    Calls Tryz.prog 66 #[.agg #[.slice ao S.length cap]] w fun e w' => e = .returned (.int .i64 (N : Int)) ∧ Below w.heap.size w w' := by
  rw [← hN.out]; exact wordCount_sp ao S cap w h hS

set_option maxHeartbeats 1000000 in
theorem allWords_any (ao : Option Addr) (S : List Int) (cap : Nat) (hSp : Sp S) (N : Nat) (hN : Hid (nW S = (N : Int))) (w : World) (hS : Ints w ao S) :
    Calls Tryz.prog 113 #[.agg #[.slice ao S.length cap]] w fun e w' =>
      ∃ q, e = .returned (.slice (some ⟨q, 0, none⟩) N N) ∧ OwnInts w' w.heap.size (.slice (some ⟨q, 0, none⟩) N N) (upto N) ∧ Below w.heap.size w w' := by
  obtain ⟨i0, hi, hz0, hz1, hz2⟩ := info_parts infoI64
  have N2 : N ≤ 1024 := by have := (nW_bd hSp).2; have := hN.out; omega
  have HSp := Lib.hid hSp
  clear hSp
  go_enter Tryz.func113, Tryz.ntmps113
  go_wp2_with fail
  have B0 : Below w.heap.size w (w.alloc (.cells #[.slice ao S.length cap] 26)) := by go_grown
  refine (wordCount_nat ao S cap N hN _ HSp.out (hS.below B0)).mono ?_
  rintro e w1 ⟨rfl, hb1⟩
  have B1 := B0.trans (hb1.mono B0.size)
  have hs1 : w.heap.size < w1.heap.size := lt_of_below hb1 (lt_alloc _ _)
  clear hb1 B0
  go_wp2_with (at_make; refine wpList_make_full _ rfl _ _ 24 rfl w.heap.size 2 i0 (.int .i64 0) 1 Tryz.underlying24 hi hz0 hz1 .i64 .i64 _ _ N rfl rfl rfl rfl (by rw [hz2]; omega) (by unfold maxLen; omega) (by omega) ?_; intro w2 hown hgrow)
  have B2 : Below w.heap.size w w2 := B1.grown hgrow B1.size (by intro k h; cases h)
  replace hown := own_made hown
  have g1 : w1.heap.size ≠ w.heap.size := by omega
  clear hgrow
  go_loopw [10] (fun i wr => ∃ (k : Nat) (D : List Int), k ≤ N ∧ i = .int .i64 k ∧ OwnInts wr w.heap.size (.slice (some ⟨w1.heap.size, 0, none⟩) N N) D ∧ Hid (D.length = N ∧ ∀ j, j < k → gi D j = j) ∧ Below w.heap.size w wr)
    (fun i _ => N - (intOf i).toNat)
  case atStart => exact ⟨0, _, Nat.zero_le _, rfl, hown, Lib.hid ⟨by simp, fun j h => by omega⟩, B2⟩
  case round =>
    clear hown B2
    obtain ⟨k, D, hk, rfl, hown, HD, B⟩ := hrel
    by_cases hlt : k < N
    · have hcell := hown.cell (k := k) (by rw [HD.out.1]; exact hlt)
      have hfree := hown.free k
      go_wp2
      go_roundw
      case rel =>
        refine ⟨k + 1, _, by omega, by go_num, hown.stored k (k : Int), Lib.hid ⟨by rw [List.length_set]; exact HD.out.1, ?_⟩, B.setCell (by simp; omega) _⟩
        intro j hj
        rw [gi_set _ _ _ _ (by rw [HD.out.1]; exact hlt)]
        by_cases e : j = k
        · rw [if_pos e, e]
        · rw [if_neg e]; exact HD.out.2 j (by omega)
      case measure => simp [intOf]; omega
    · go_wp2
      go_ret
      have e : D = upto N := ext_gi (by rw [HD.out.1, upto_len]) fun i hi => by rw [HD.out.1] at hi; rw [HD.out.2 i (by omega), gi_upto _ _ hi]
      rw [e] at hown
      exact ⟨_, rfl, hown, B⟩

end Go.Proofs.YtcnnijeokefboaaGreatDoor
