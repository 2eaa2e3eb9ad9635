/-
  The contract of the model of SpanOf. By an AI agent.
-/
import Derived.Test.YtdacokgmcenjoaaMathB
import Derived.Test.YtdacokgmcenjoaaBool
import Derived.Test.YtdacokgmcenjoaaIsPl
import Derived.Test.YtdacokgmcenjoaaShA
import Derived.Test.YtdacokgmcenjoaaTog3h
import Derived.Test.YtdacokgmcenjoaaAddSb
import Derived.Deep.RegionHeld3
namespace Go.Proofs.Ytdacokgmcenjoaa
open Go.RowKit Cv
set_option linter.unusedVariables false
set_option linter.unusedSimpArgs false
set_option maxRecDepth 100000

theorem own_single0 (w : World) (base : Nat) (h : base ≤ w.heap.size) (x : Int) : OwnInts (w.alloc (.cells #[.int .i64 x] 2)) base (.slice (some ⟨w.heap.size, 0, none⟩) 1 1) [x] :=
  ⟨by simp, .inr ⟨w.heap.size, 1, #[.int .i64 x], rfl, h, heap_alloc_new w _, by simp, by simp [maxLen], by simp, by simp⟩⟩

theorem l05Words_any (ao : Option Addr) (S : List Int) (cap : Nat) (hn : S.length ≤ 4294967296) (ag : Option Addr) (G : List Int) (capg : Nat) (hng : G.length ≤ 4294967296) (w : World) (hS : Ints w ao S) (hG : Ints w ag G) :
    Calls Try.prog 53 #[.agg #[.slice ao S.length cap], .slice ag G.length capg] w fun e w' => e = .returned (.int .i64 (eSpan S G)) ∧ Below w.heap.size w w' := by
  have B0 : Below w.heap.size w (w.alloc (.cells #[.slice ao S.length cap] 28)) := by go_grown
  have c0 := cell_new w (.slice ao S.length cap) 28
  have l0 := lt_alloc w (.cells #[.slice ao S.length cap] 28)
  by_cases hz : eWords S G = 0
  · have hzn : (eWords S G != 0) = false := by simp [hz]
    by_cases h20 : 20 < G.length
    · have HE := Lib.hid (eSpan_many hz h20)
      clear hz
      go_enter Try.func53, Try.ntmps53
      go_wp2_with fail
      refine (l01Words_any ao S cap hn ag G capg hng _ (hS.below B0) (hG.below B0)).mono ?_
      rintro e w1 ⟨rfl, hb⟩
      go_wp2_with fail
      go_ret
      exact ⟨ret_int HE.out.symm, B0.trans (hb.mono B0.size)⟩
    · have h21 : ¬ 20 < G.length := h20
      have HE : Hid (eSpan S G = if isPl S = true then 0 else 5) := Lib.hid (by unfold eSpan; rw [if_pos hz, if_neg h20])
      clear hz
      cases hp : isPl S with
      | true =>
        rw [hp] at HE
        go_enter Try.func53, Try.ntmps53
        go_wp2_with fail
        refine (l01Words_any ao S cap hn ag G capg hng _ (hS.below B0) (hG.below B0)).mono ?_
        rintro e w1 ⟨rfl, hb⟩
        have c1 := kept_cell hb c0 l0
        have B1 := B0.trans (hb.mono B0.size)
        clear hb c0 l0 B0
        go_wp2_with fail
        refine (l05Plain_any ao S cap hn _ (hS.below B1)).mono ?_
        rw [hp]
        rintro e w2 ⟨rfl, hb2⟩
        go_wp2_with fail
        go_ret
        exact ⟨ret_int HE.out.symm, B1.trans (hb2.mono B1.size)⟩
      | false =>
        rw [hp] at HE
        go_enter Try.func53, Try.ntmps53
        go_wp2_with fail
        refine (l01Words_any ao S cap hn ag G capg hng _ (hS.below B0) (hG.below B0)).mono ?_
        rintro e w1 ⟨rfl, hb⟩
        have c1 := kept_cell hb c0 l0
        have B1 := B0.trans (hb.mono B0.size)
        clear hb c0 l0 B0
        go_wp2_with fail
        refine (l05Plain_any ao S cap hn _ (hS.below B1)).mono ?_
        rw [hp]
        rintro e w2 ⟨rfl, hb2⟩
        go_wp2_with fail
        go_ret
        exact ⟨ret_int HE.out.symm, B1.trans (hb2.mono B1.size)⟩
  · have hzn : (eWords S G != 0) = true := by simpa using hz
    have HE := Lib.hid (eSpan_bad hz)
    clear hz
    go_enter Try.func53, Try.ntmps53
    go_wp2_with fail
    refine (l01Words_any ao S cap hn ag G capg hng _ (hS.below B0) (hG.below B0)).mono ?_
    rintro e w1 ⟨rfl, hb⟩
    go_wp2_with fail
    go_ret
    exact ⟨ret_int HE.out.symm, B0.trans (hb.mono B0.size)⟩

end Go.Proofs.Ytdacokgmcenjoaa
