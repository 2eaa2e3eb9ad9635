/-
  The contracts of the program's distances from a code: the farthest word. By an AI agent.
-/
import Derived.Test.YtdkgbfmgpmmliaaFar
namespace Go.Proofs.Ytdkgbfmgpmmliaa
open Go.RowKit Cv
set_option linter.unusedVariables false
set_option linter.unusedSimpArgs false
set_option maxRecDepth 100000

set_option maxHeartbeats 4000000 in
theorem codeDistances_any (ao : Option Addr) (S : List Int) (cap : Nat) (hSp : Sp S) (ac : Option Addr) (C : List Int) (capc : Nat) (hlen : C.length ≤ 1048576) (hC0 : ∀ i, i < C.length → 0 ≤ gi C i ∧ gi C i ≤ 9223372036854775807) (x : Int) (hx : 0 ≤ x) (hx2 : x ≤ 9223372036854775807) (w : World) (hS : Ints w ao S) (hC : Ints w ac C) :
    Calls Try.prog 60 #[.agg #[.slice ao S.length cap], .slice ac C.length capc, .int .i64 x] w fun e w' =>
      ∃ q, e = .returned (.slice (some ⟨q, 0, none⟩) C.length C.length) ∧ OwnInts w' w.heap.size (.slice (some ⟨q, 0, none⟩) C.length C.length) (dFrom S C x) ∧ Below w.heap.size w w' := by
  have hlo := hSp.lo
  have hhi := hSp.hi
  have HSp := Lib.hid hSp
  have HC0 := Lib.hid hC0
  clear hSp hC0
  go_enter Try.func60, Try.ntmps60
  go_wp2_with fail
  have c0 := cell_new w (.slice ao S.length cap) 28
  have l0 := lt_alloc w (.cells #[.slice ao S.length cap] 28)
  have B0 : Below w.heap.size w (w.alloc (.cells #[.slice ao S.length cap] 28)) := by go_grown
  have hlen' : C.length ≤ 16777216 := by omega
  have HZ : Hid (w.heap.size + 1 = (w.alloc (.cells #[.slice ao S.length cap] 28)).heap.size) := Lib.hid (by simp)
  go_region_with (first
    | (go_at_call 87; (with_reducible refine (distancesFrom_any S hhi x _ _ _ rfl _ P g C U _ rfl hlen _ i2 hp).mono ?_); clear hp r1 r2; rintro e w3 ⟨q, rfl, ho, hb3⟩)
    | (go_at_call_of 84 C; (with_reducible refine (digitParts_any ao S cap hlo hhi HSp.out.bd ac C capc hlen' HC0.out _ (hS.below B1) (hC.below B1)).mono ?_); rintro e w2 ⟨P, g, U, rfl, hp, hb2⟩; have r2 := kept_cell hb2 r1 l1; have i2 := i1.below hb2; clear c1)
    | (go_at_call 84; (with_reducible refine (digitParts_1 ao S cap HSp.out x hx hx2 _ _ _ (hS.below (by go_grown)) ((ints_new1 _ x _ HZ.out).below (Below.refl _ _).drew)).mono ?_); rintro e w1 ⟨P1, g1, rfl, r1, o1, l1, hb1⟩; have B1 : Below w.heap.size w w1 := Below.trans (by go_grown) (hb1.mono (by simp; try omega)); have c1 := kept_cell hb1 (b := w.heap.size) (o := 0) (v := .slice ao S.length cap) (by simp) (by simp; try omega); have i1 := own_ints o1; clear hb1 c0 o1))
  all_goals
    go_wp2
    go_ret
    have B2 := B1.trans (hb2.mono B1.size)
    exact ⟨q, rfl, ho.rebase B2.size, B2.trans (hb3.mono B2.size)⟩

end Go.Proofs.Ytdkgbfmgpmmliaa
