/-
  Texts put together: Drw3, Drw5, Drw6, DrwS5. By an AI agent.
-/
import Derived.Test.YtamebfbddoeflaaPkDrw2
import Derived.Test.YtamebfbddoeflaaPkDigits
import Derived.Test.YtamebfbddoeflaaPkWords
import Derived.Test.YtamebfbddoeflaaPkDist
import Derived.Test.YtamebfbddoeflaaPkFam
import Derived.Laws.AppendOwnNone
namespace Go.Proofs.Ytamebfbddoeflaa
open Go.RowKit Cv
set_option linter.unusedVariables false
set_option linter.unusedSimpArgs false
set_option maxRecDepth 100000

theorem below_g {A b : Nat} {w w1 w2 : World} (B : Below A w w1) (hA : A ≤ w1.heap.size) (hg : w1.grownBy w2 (some b)) (hb : A ≤ b) : Below A w w2 := B.grown hg hA (fun k hk => by cases hk; exact hb)
theorem IntsX.grownO {b g' : Nat} {w w' : World} {ao : Option Addr} {S : List Int} (h : IntsX b w ao S) (hg : w.grownBy w' (some g')) (hne : ∀ g o, ao = some ⟨g, o, none⟩ → g ≠ g') : IntsX b w' ao S := by
  obtain ⟨h1, h2⟩ := h
  refine ⟨?_, h2⟩
  rcases h1 with h | ⟨g, o, rfl, hlt, hc⟩
  · exact .inl h
  · exact .inr ⟨g, o, rfl, Nat.lt_of_lt_of_le hlt hg.size, fun i hi => grown_cell hg (hc i hi) (hne g o rfl)⟩
theorem results_cell_tmp2w {fn : Func} {p u1 u2 : Tmp} {ty : TypeId} (h : fn.results = #[.cell p ty, .tmp u1, .tmp u2]) (tmps : Array Value) (P : Program) (w : World) :
    (results fn tmps).run P w =
      ((asAddr (tmps.getD p undef)).run P w).andThen fun a w₁ => ((loadVar ty a).run P w₁).andThen fun v w₂ => .ok (.tuple #[v, tmps.getD u1 undef, tmps.getD u2 undef]) w₂ := by
  simp only [results, h]
  simp [Sem.run_bind, Result.andThen]
theorem results_cell_tmp3w {fn : Func} {p u1 u2 u3 : Tmp} {ty : TypeId} (h : fn.results = #[.cell p ty, .tmp u1, .tmp u2, .tmp u3]) (tmps : Array Value) (P : Program) (w : World) :
    (results fn tmps).run P w =
      ((asAddr (tmps.getD p undef)).run P w).andThen fun a w₁ => ((loadVar ty a).run P w₁).andThen fun v w₂ => .ok (.tuple #[v, tmps.getD u1 undef, tmps.getD u2 undef, tmps.getD u3 undef]) w₂ := by
  simp only [results, h]
  simp [Sem.run_bind, Result.andThen]

end Go.Proofs.Ytamebfbddoeflaa

namespace Go.Proofs.Ytamebfbddoeflaa
open Go.RowKit Cv
set_option linter.unusedVariables false
set_option linter.unusedSimpArgs false
set_option maxRecDepth 100000

theorem ownBlock_ge5 {w : World} {base : Nat} {v : Value} {L : List Int} (h : OwnInts w base v L) {g : Nat} (e : v.ownBlock = some g) : base ≤ g := by
  obtain ⟨h1, h2⟩ := h
  rcases h2 with ⟨hv, _⟩ | ⟨g', _, _, hv, hg, _⟩
  · rw [hv] at e; simp [Value.ownBlock] at e
  · rw [hv] at e; simp [Value.ownBlock] at e; omega
theorem IntsX.grownR {b : Nat} {w w' : World} {r : Option Nat} {ao : Option Addr} {S : List Int} (h : IntsX b w ao S) (hg : w.grownBy w' r) (hne : ∀ g o, ao = some ⟨g, o, none⟩ → some g ≠ r) : IntsX b w' ao S := by
  obtain ⟨h1, h2⟩ := h
  refine ⟨?_, h2⟩
  rcases h1 with h | ⟨g, o, rfl, hlt, hc⟩
  · exact .inl h
  · exact .inr ⟨g, o, rfl, Nat.lt_of_lt_of_le hlt hg.size, fun i hi => hg.cell (a := ⟨g, o + i, none⟩) (hc i hi) (by simpa using hne g o rfl)⟩
/-- numbers from 0 to k - 1, at most k of them -/
def CL (C : List Int) (k : Nat) : Prop := (∀ i, i < C.length → 0 ≤ gi C i ∧ gi C i < (k : Int)) ∧ C.length ≤ k
theorem CL.mono {C : List Int} {k : Nat} (h : CL C k) : CL C (k + 1) := ⟨fun i hi => by have := h.1 i hi; omega, by have := h.2; omega⟩
end Go.Proofs.Ytamebfbddoeflaa

namespace Go.Proofs.Ytamebfbddoeflaa
open Go.RowKit Cv
set_option linter.unusedVariables false
set_option linter.unusedSimpArgs false
set_option maxRecDepth 100000

theorem l01OwnX_any (ao : Option Addr) (T : List Int) (cap : Nat) (hc : ao = none → cap = 0) (hl : T.length ≤ 1048576) (w : World) (hT : Ints w ao T) :
    Calls Try.prog 53 #[.slice ao T.length cap] w fun e w' => ∃ g c, e = .returned (.slice (some ⟨g, 0, none⟩) T.length c) ∧ OwnInts w' w.heap.size (.slice (some ⟨g, 0, none⟩) T.length c) T ∧ Below w.heap.size w w' := by
  cases ao with
  | some ad => exact l01Own_any ad T T.length cap rfl hl w hT
  | none =>
    obtain rfl := hc rfl
    have hT0 : T.length = 0 := by
      rcases hT with h | ⟨g, o, e, _⟩
      · exact h
      · cases e
    obtain rfl : T = [] := List.eq_nil_of_length_eq_zero hT0
    have B0 : Below w.heap.size w (w.alloc (.cells #[] 2)) := by go_grown
    have o0 := own_empty w w.heap.size (Nat.le_refl _) rfl
    obtain ⟨i0, hi, hz0, hz1, hz2⟩ := info_parts infoI64
    go_enter Try.func53, Try.ntmps53
    go_wp2_with (at_builtin; refine wpList_append_own_none rfl _ _ 24 rfl w.heap.size 2 i0 1 Try.underlying24 hi _ 0 _ rfl o0 rfl ?_)
    go_ret
    exact ⟨w.heap.size, 0, rfl, o0, B0⟩

set_option maxHeartbeats 4000000 in
theorem badCode_any (b : Nat) (a : Option Addr) (n cap : Nat) (hn : n ≤ 4096) (ao : Option Addr) (S : List Int) (capS : Nat) (hSp : Sp S) (ac : Option Addr) (C : List Int) (cc : Nat) (hac : ac = none → cc = 0) (hCl : C.length ≤ 1048576) (w : World) (hs : Src w b a n cap) (hX : IntsX b w ao S) (hXC : IntsX b w ac C) :
    Calls Try.prog 24 #[.pointer (some ⟨b, 0, none⟩), .agg #[.slice ao S.length capS], .slice ac C.length cc] w fun e w' => ∃ g c T, e = .returned (.slice (some ⟨g, 0, none⟩) T.length c) ∧ OwnInts w' w.heap.size (.slice (some ⟨g, 0, none⟩) T.length c) T ∧ T.length ≤ 1048577 ∧ Src w' b a n cap ∧ w.grownBy w' (some b) := by
  have hbl := hs.lt
  obtain ⟨NN1, NN2⟩ := nW_bd hSp
  obtain ⟨N, hN⟩ : ∃ N : Nat, nW S = (N : Int) := ⟨(nW S).toNat, by omega⟩
  have hN4 : N ≤ 1024 := by omega
  have HSp := Lib.hid hSp
  obtain ⟨A, hA⟩ : ∃ A, A = w.heap.size := ⟨_, rfl⟩
  obtain ⟨W2, hW2⟩ : ∃ W2, W2 = w.alloc (.cells #[.slice ao S.length capS] 26) := ⟨_, rfl⟩
  have hs2 : Src W2 b a n cap := by rw [hW2]; exact hs.alloc _
  have hG2 : w.grownBy W2 (some b) := by rw [hW2]; exact grown_alloc (World.grownBy.refl w _) _
  have RA2 : W2.heap[A]? = some (.cells #[.slice ao S.length capS] 26 (0, 0)) := by rw [hW2, hA]; exact heap_alloc_new w _
  have hX2 : IntsX b W2 ao S := by rw [hW2]; exact hX.below (B := 0) ((Below.refl _ _).alloc (Nat.le_refl _) _)
  have hXC2 : IntsX b W2 ac C := by rw [hW2]; exact hXC.below (B := 0) ((Below.refl _ _).alloc (Nat.le_refl _) _)
  have zW : W2.heap.size = A + 1 := by rw [hW2, hA]; simp
  have hXA : Hid (∀ g o, ao = some ⟨g, o, none⟩ → g < A) := Lib.hid fun g o e => by
    rcases hX.1 with h | ⟨g', o', e', hl, _⟩
    · have := hSp.lo; omega
    · rw [e] at e'; cases e'; rw [hA]; exact hl
  have hown := l01OwnX_any ac C cc hac (by omega) W2 hXC2.1
  rw [zW] at hown
  have HA := Lib.hid hA
  have HW2 := Lib.hid hW2
  have hAb : b < A := by omega
  clear hA hW2 hs hbl hX hSp hXC NN1 NN2
  go_enter Try.func24, Try.ntmps24
  go_wp2_with fail
  rw [← HW2.out, ← HA.out]
  refine hown.mono ?_
  rintro e w3 ⟨g, c, rfl, own3, hb3⟩
  rw [← zW] at hb3
  have RA3 := row_g RA2 (grown_of_below hb3 none) (by simp)
  have hX3 := hX2.below (B := 0) hb3
  have hs3 := hs2.below hb3 hs2.lt
  have hG3 := grown_trans hG2 (grown_of_below hb3 _)
  have hg1 : A + 1 ≤ g := ownBlock_ge5 own3 rfl
  have hnx := next_any b a n cap hn 30 (by omega) w3 hs3
  clear hown hb3 RA2 hX2 hs2 hG2 hXC2 zW
  go_wp2_with fail
  refine hnx.mono ?_
  rintro e w4 ⟨q, rfl, q0, q1, q2, hs4, hg4⟩
  have RA4 := row_g RA3 hg4 (by simp; omega)
  have hX4 := hX3.grown hg4
  have hG4 := grown_trans hG3 hg4
  have own4 := own3.kept hg4 (.inr (by simp [Value.ownBlock]; omega))
  clear hnx hg4 RA3 hX3 hs3 hG3 own3 q1 q2
  have xA4 := cell_of1' RA4
  by_cases e0 : q = 0
  · have b0 : (q == 0) = true := by simpa using e0
    clear e0
    have hNc := l01N_sp ao S capS w4 HSp.out hX4.1
    rw [hN] at hNc
    go_wp2_with fail
    refine hNc.mono ?_
    rintro e w5 ⟨rfl, hb5⟩
    have hs5 := hs4.below hb5 hs4.lt
    have hG5 := grown_trans hG4 (grown_of_below hb5 _)
    have own5 := own4.below hb5
    clear hNc hb5 RA4 hX4 hs4 hG4 own4 xA4
    obtain ⟨u5, hu5⟩ : ∃ u, u = w5.alloc (.cells #[.int .i64 (-1), .int .i64 (N : Int), .int .i64 0, .int .i64 1099511627776] 2) := ⟨_, rfl⟩
    have hs5a : Src u5 b a n cap := by rw [hu5]; exact hs5.alloc _
    have hG5a : w.grownBy u5 (some b) := by rw [hu5]; exact grown_alloc hG5 _
    have own5a : OwnInts u5 (A + 1) (.slice (some ⟨g, 0, none⟩) C.length c) C := by rw [hu5]; exact own5.alloc _
    have I5a : Ints u5 (some ⟨w5.heap.size, 0, none⟩) [-1, (N : Int), 0, 1099511627776] := by rw [hu5]; exact ints_new w5 _ _
    have hp5a := pick_n b a n cap hn w5.heap.size _ 4 rfl (by omega) (by omega) (by have := hs5.lt; omega) u5 hs5a I5a
    have HU5a := Lib.hid hu5
    clear hu5 I5a
    go_wp2_with fail
    rw [← HU5a.out]
    refine hp5a.mono ?_
    rintro e w6 ⟨z, rfl, hz, hs6, hg6⟩
    have hG6 := grown_trans hG5a hg6
    have own6 := own5a.kept hg6 (.inr (by simp [Value.ownBlock]; omega))
    have hzA : A + 1 ≤ (w6.alloc (.cells #[.int .i64 z] 2)).heap.size := by have := own6.base_le; simp; omega
    have hlC : C.length ≤ 1073741824 := by omega
    clear hp5a hg6 hs5a hG5a own5a hz
    go_wp2_with (at_builtin; refine wpList_append_int_at rfl _ _ rfl (A + 1) _ C rfl (own6.alloc _) w6.heap.size z rfl (cell_new _ _ _) hlC hzA ?_; intro v' wz own' hgrow hnew)
    have hsz : Src wz b a n cap := (hs6.alloc _).grownO hgrow (fun g' e => by have := ownBlock_ge5 own6 e; omega)
    have hGz : w.grownBy wz (some b) := grown_over (grown_alloc hG6 _) hgrow (fun g' e => by have := ownBlock_ge5 own6 e; have := HA.out; omega)
    obtain ⟨g', c', hv, _⟩ := own_some own' (by simp)
    subst hv
    go_ret
    exact ⟨g', c', _, rfl, own'.rebase (by have := HA.out; omega), by rw [List.length_append, List.length_singleton]; omega, hsz, hGz⟩
  have b0 : (q == 0) = false := by simpa using e0
  by_cases e1 : q = 1
  · have b1 : (q == 1) = true := by simpa using e1
    clear e0 e1
    by_cases hl1 : 1 < C.length
    · have i1 : (1 : Int) < (C.length : Int) := by omega
      have i0 : (0 : Int) < (C.length : Int) := by omega
      have hcell := own4.cell (k := 1) hl1
      have hfree := own4.free 0
      have hcell0 := own4.cell (k := 0) (by omega)
      go_wp2_with fail
      go_ret
      have hs5 := hs4.setO ⟨g, 0, none⟩ (by simp; omega) (.int .i64 (gi C 1))
      have hG5 := grown_set hG4 ⟨g, 0, none⟩ (by simp; have := HA.out; omega) (.int .i64 (gi C 1))
      have own5 := own4.stored 0 (gi C 1)
      exact ⟨g, c, C.set 0 (gi C 1), by rw [List.length_set]; rfl, by rw [List.length_set]; exact own5.rebase (by have := HA.out; omega), by rw [List.length_set]; omega, hs5, hG5⟩
    · have i1 : ¬ (1 : Int) < (C.length : Int) := by omega
      go_wp2_with fail
      go_ret
      exact ⟨g, c, C, rfl, own4.rebase (by have := HA.out; omega), by omega, hs4, hG4⟩
  · have b1 : (q == 1) = false := by simpa using e1
    clear e0 e1
    go_wp2_with fail
    go_ret
    exact ⟨g, c, C, rfl, own4.rebase (by have := HA.out; omega), by omega, hs4, hG4⟩

end Go.Proofs.Ytamebfbddoeflaa

namespace Go.Proofs.Ytamebfbddoeflaa
open Go.RowKit Cv
set_option linter.unusedVariables false
set_option linter.unusedSimpArgs false
set_option maxRecDepth 100000

theorem IntsX.lower {A b : Nat} {w : World} {ao : Option Addr} {S : List Int} (h : IntsX A w ao S) (hb : b ≤ A) : IntsX b w ao S := ⟨h.1, fun g o e => by have := h.2 g o e; omega⟩
theorem sp_const {T : List Int} {q : Int} {n : Nat} (h : ∀ i, i < T.length → gi T i = q) (hl : T.length = n) (h1 : 1 ≤ n ∧ n ≤ 7) (hq : q = 2 ∨ q = 3) (h4 : q = 3 → n ≤ 4) : Sp T := by
  have e : T = List.replicate n q := ext_gi (by rw [List.length_replicate, hl]) fun i hi => by
    rw [h i hi]; simp [gi, List.getD, show i < n by omega]
  subst e
  rw [← isSp_iff]
  rcases hq with rfl | rfl
  · rcases (show n = 1 ∨ n = 2 ∨ n = 3 ∨ n = 4 ∨ n = 5 ∨ n = 6 ∨ n = 7 by omega) with rfl | rfl | rfl | rfl | rfl | rfl | rfl <;> decide
  · have := h4 rfl
    rcases (show n = 1 ∨ n = 2 ∨ n = 3 ∨ n = 4 by omega) with rfl | rfl | rfl | rfl <;> decide
theorem cst_snoc {T : List Int} {q : Int} (h : ∀ i, i < T.length → gi T i = q) : ∀ i, i < (T ++ [q]).length → gi (T ++ [q]) i = q := fun i hi => by
  rw [List.length_append, List.length_singleton] at hi
  by_cases e : i < T.length
  · have := h i e
    simp only [gi, List.getD] at this ⊢
    rw [List.getElem?_append_left e]; exact this
  · rw [show i = T.length by omega]; simp [gi]

end Go.Proofs.Ytamebfbddoeflaa
