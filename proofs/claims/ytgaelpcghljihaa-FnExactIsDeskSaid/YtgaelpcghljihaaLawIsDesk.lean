/-
  IsDesk answers as its model at every argument, and leaves its arguments alone. By an AI agent.
-/
import Derived.Test.YtgaelpcghljihaaDesk2
import Derived.Deep.RegionHeld3
namespace Go.Proofs.Ytgaelpcghljihaa
open Go.RowKit Cv
set_option linter.unusedVariables false
set_option linter.unusedSimpArgs false

set_option maxRecDepth 100000 in
set_option maxHeartbeats 4000000 in
theorem law_IsDesk (aS : Option Addr) (S : List Int) (cS : Nat) (aC : Option Addr) (C : List Int) (cC : Nat) (v p d h : Int) (aT : Option Addr) (T : List Int) (cT : Nat) (hnS : S.length ≤ 9223372036854775807) (hnC : C.length ≤ 9223372036854775807) (hnT : T.length ≤ 9223372036854775807) (w : World) (hS : Ints w aS S) (hC : Ints w aC C) (hT : Ints w aT T) :
    Calls Try.prog 4 #[.agg #[.slice aS S.length cS, .slice aC C.length cC, .int .i64 v, .int .i64 p, .int .i64 d, .int .i64 h, .slice aT T.length cT]] w fun e w' => e = .returned (.bool true) ∧ Below w.heap.size w w' := by
  have D0 := deskAt_new w (.slice aS S.length cS) (.slice aC C.length cC) v p d h (.slice aT T.length cT) 36
  go_enter Try.func4, Try.ntmps4
  go_wp2_with fail
  refine (szDesk_any aS S cS aC C cC v p d h aT T cT 1048576 _ hnS hnC hnT (by omega) (by omega)).mono ?_
  rintro e w1 ⟨⟨z, rfl, hz⟩, hb⟩
  have B : Below w.heap.size w w1 := Below.trans (by go_grown) (hb.mono (by simp))
  replace D0 := D0.below hb
  have D0a := D0
  obtain ⟨c0, c1, c2, c3, c4, c5, c6, lt⟩ := D0a
  clear hb
  rcases hz with ⟨hz, _⟩ | ⟨hz, k1, k2, k3⟩
  · go_wp2_with fail
    go_ret
    exact ⟨rfl, B⟩
  have hz' : ¬ z < 0 := by omega
  have nS : S.length ≤ 1048576 := by omega
  have nC : C.length ≤ 1048576 := by omega
  have nT : T.length ≤ 1048576 := by omega
  clear hz k1 k2 k3
  go_wp2_with fail
  refine (toDesk_any aS S cS aC C cC v p d h aT T cT _ nS nC nT (hS.below B) (hC.below B) (hT.below B)).mono ?_
  rintro e w2 ⟨bS2, bC2, bT2, rfl, oS2, oC2, oT2, _, _, hb⟩
  replace D0 := D0.below hb
  replace B := B.trans (hb.mono B.size)
  clear hb c0 c1 c2 c3 c4 c5 c6 lt
  have D0a := D0
  obtain ⟨c0, c1, c2, c3, c4, c5, c6, lt⟩ := D0a
  go_wp2_with fail
  refine (spec_IsDesk _ S _ _ C _ v p d h _ T _ _ (by omega) (by omega) (by omega) (own_ints oS2) (own_ints oC2) (own_ints oT2)).mono ?_
  rintro e w3 ⟨rfl, hb⟩
  replace D0 := D0.below hb
  replace B := B.trans (hb.mono B.size)
  clear hb c0 c1 c2 c3 c4 c5 c6 lt oS2 oC2 oT2
  have D0a := D0
  obtain ⟨c0, c1, c2, c3, c4, c5, c6, lt⟩ := D0a
  go_wp2_with fail
  refine (toDesk_any aS S cS aC C cC v p d h aT T cT _ nS nC nT (hS.below B) (hC.below B) (hT.below B)).mono ?_
  rintro e w4 ⟨bS4, bC4, bT4, rfl, oS4, oC4, oT4, _, _, hb⟩
  have hq := hb
  replace D0 := D0.below hb
  replace B := B.trans (hb.mono B.size)
  have X4 := deskAt_new w4 (.slice (some ⟨bS4, 0, none⟩) S.length S.length) (.slice (some ⟨bC4, 0, none⟩) C.length C.length) v p d h (.slice (some ⟨bT4, 0, none⟩) T.length T.length) 28
  have hw4 : Below w4.heap.size w4 (w4.alloc (.cells #[.slice (some ⟨bS4, 0, none⟩) S.length S.length, .slice (some ⟨bC4, 0, none⟩) C.length C.length, .int .i64 v, .int .i64 p, .int .i64 d, .int .i64 h, .slice (some ⟨bT4, 0, none⟩) T.length T.length] 28)) := by go_grown
  clear hb hq c0 c1 c2 c3 c4 c5 c6 lt
  have D0a := D0
  obtain ⟨c0, c1, c2, c3, c4, c5, c6, lt⟩ := D0a
  go_wp2_with fail
  refine (impl_IsDesk _ S _ _ C _ v p d h _ T _ _ (by omega) (by omega) (by omega) (own_ints (oS4.alloc _)) (own_ints (oC4.alloc _)) (own_ints (oT4.alloc _))).mono ?_
  rintro e w5 ⟨rfl, hb⟩
  have hq := hw4.trans (hb.mono hw4.size)
  replace D0 := D0.below hq
  replace X4 := X4.below hb
  replace oS4 := oS4.below hq
  replace oC4 := oC4.below hq
  replace oT4 := oT4.below hq
  replace B := B.trans (hq.mono B.size)
  clear hb hq hw4 c0 c1 c2 c3 c4 c5 c6 lt
  have D0a := D0
  have X4a := X4
  obtain ⟨c0, c1, c2, c3, c4, c5, c6, lt⟩ := D0a
  obtain ⟨e0, e1, e2, e3, e4, e5, e6, lt'⟩ := X4a
  go_wp2_with fail
  go_region_held3 (fun w' => (w'.cell? ⟨w.heap.size, 0, none⟩ = some (.slice aS S.length cS) ∧ w'.cell? ⟨w.heap.size, 1, none⟩ = some (.slice aC C.length cC) ∧ w'.cell? ⟨w.heap.size, 2, none⟩ = some (.int .i64 v) ∧ w'.cell? ⟨w.heap.size, 3, none⟩ = some (.int .i64 p) ∧ w'.cell? ⟨w.heap.size, 4, none⟩ = some (.int .i64 d) ∧ w'.cell? ⟨w.heap.size, 5, none⟩ = some (.int .i64 h) ∧ w'.cell? ⟨w.heap.size, 6, none⟩ = some (.slice aT T.length cT)) ∧
      w'.cell? ⟨w4.heap.size, 0, none⟩ = some (.slice (some ⟨bS4, 0, none⟩) S.length S.length) ∧ w'.cell? ⟨w4.heap.size, 1, none⟩ = some (.slice (some ⟨bC4, 0, none⟩) C.length C.length) ∧ w'.cell? ⟨w4.heap.size, 2, none⟩ = some (.int .i64 v) ∧ w'.cell? ⟨w4.heap.size, 3, none⟩ = some (.int .i64 p) ∧ w'.cell? ⟨w4.heap.size, 4, none⟩ = some (.int .i64 d) ∧ w'.cell? ⟨w4.heap.size, 5, none⟩ = some (.int .i64 h) ∧ w'.cell? ⟨w4.heap.size, 6, none⟩ = some (.slice (some ⟨bT4, 0, none⟩) T.length T.length))
    (first | exact ⟨⟨c0, c1, c2, c3, c4, c5, c6⟩, e0, e1, e2, e3, e4, e5, e6⟩ | exact ⟨⟨kept_cell hb7 c0 lt, kept_cell hb7 c1 lt, kept_cell hb7 c2 lt, kept_cell hb7 c3 lt, kept_cell hb7 c4 lt, kept_cell hb7 c5 lt, kept_cell hb7 c6 lt⟩, kept_cell hb7 e0 lt', kept_cell hb7 e1 lt', kept_cell hb7 e2 lt', kept_cell hb7 e3 lt', kept_cell hb7 e4 lt', kept_cell hb7 e5 lt', kept_cell hb7 e6 lt'⟩ | exact ⟨⟨kept_cell hb79 c0 lt, kept_cell hb79 c1 lt, kept_cell hb79 c2 lt, kept_cell hb79 c3 lt, kept_cell hb79 c4 lt, kept_cell hb79 c5 lt, kept_cell hb79 c6 lt⟩, kept_cell hb79 e0 lt', kept_cell hb79 e1 lt', kept_cell hb79 e2 lt', kept_cell hb79 e3 lt', kept_cell hb79 e4 lt', kept_cell hb79 e5 lt', kept_cell hb79 e6 lt'⟩)
    (first | (go_at_call 22; refine (toDesk_any aS S cS aC C cC v p d h aT T cT _ nS nC nT (hS.below B.drew) (hC.below B.drew) (hT.below B.drew)).mono ?_; rintro e w8 ⟨bS7, bC7, bT7, rfl, oS7, oC7, oT7, _, _, hb7'⟩; have hb7 : Below w5.heap.size w5 w8 := (Below.refl w5.heap.size w5).drew.trans hb7') | (go_at_call 17; refine (eqDesk_same _ _ S _ _ _ _ C _ _ v p d h _ _ T _ _ _ (by omega) (by omega) (by omega) ((own_ints oS4).below hb7) (own_ints oS7) ((own_ints oC4).below hb7) (own_ints oC7) ((own_ints oT4).below hb7) (own_ints oT7)).mono ?_; rintro e w9 ⟨rfl, hb8⟩; have hb79 : Below w5.heap.size w5 w9 := hb7.trans (hb8.mono hb7.size)))
  replace B := B.trans (hb79.mono B.size)
  go_wp2_with fail
  go_ret
  exact ⟨rfl, B⟩

end Go.Proofs.Ytgaelpcghljihaa
