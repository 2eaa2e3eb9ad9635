/-
  Texts put together: Drw3, Drw5, Drw6, DrwA, DrwB0, Walk, WW, Walk2, Ball, Marks, Giv, Set. By an AI agent.
-/
import Derived.Test.YtpmfedllbiblbaaGreatPk32
import Derived.Test.YtpmfedllbiblbaaGreatPkDigits
import Derived.Test.YtpmfedllbiblbaaGreatPkWords
import Derived.Test.YtpmfedllbiblbaaGreatPkDist
import Derived.Test.YtpmfedllbiblbaaGreatPkFam
import Derived.Laws.AppendOwnNone
import Derived.RangeFuncNested
import Derived.RangeFuncBound
import Derived.RangeFuncCalls
import Derived.RangeFuncLeaves
import Derived.Shelf.Abstract
import Derived.Shelf.RegionOpen
import Derived.WalkKit
import Derived.OwnWalkIn
import Derived.TacticsInMore
import Derived.LoopNIn
import Derived.LoopIn
import Derived.Test.YtpmfedllbiblbaaGreatPkMath
import Derived.Test.YtpmfedllbiblbaaGreatPkMem
import Derived.Test.YtpmfedllbiblbaaGreatPkFar
import Derived.Test.YtpmfedllbiblbaaGreatPkSums
import Derived.Deep.RegionHeld3
import Derived.RangeFuncBox
import Derived.Maps.AppendAt
import Derived.Maps.OwnIn
import Derived.Test.YtpmfedllbiblbaaGreatPkErr2
import Derived.Test.YtpmfedllbiblbaaGreatPkAppendAt
import Derived.Test.YtpmfedllbiblbaaGreatPk31
import Derived.Test.YtpmfedllbiblbaaGreatPkAppend
import Derived.Test.YtpmfedllbiblbaaGreatPkSpace
import Derived.StillTailTactics
import Derived.Deep.WholeRow
import Derived.Deep.Cut
namespace Go.Proofs.YtpmfedllbiblbaaGreat
open Go.RowKit Cv
set_option linter.unusedVariables false
set_option linter.unusedSimpArgs false
set_option maxRecDepth 100000

theorem below_g {A b : Nat} {w w1 w2 : World} (B : Below A w w1) (hA : A ≤ w1.heap.size) (hg : w1.grownBy w2 (some b)) (hb : A ≤ b) : Below A w w2 := B.grown hg hA (fun k hk => by cases hk; exact hb)
theorem IntsX.grownO {b g' : Nat} {w w' : World} {ao : Option Addr} {S : List Int} (h : IntsX b w ao S) (hg : w.grownBy w' (some g')) (hne : ∀ g o, ao = some ⟨g, o, none⟩ → g ≠ g') : IntsX b w' ao S := by
  obtain ⟨h1, h2⟩ := h
  refine ⟨?_, h2⟩
  rcases h1 with h | ⟨g, o, rfl, hlt, hc⟩
  · exact .inl h
  · exact .inr ⟨g, o, rfl, Nat.lt_of_lt_of_le hlt hg.size, fun i hi => grown_cell hg (hc i hi) (hne g o rfl)⟩
theorem results_cell_tmp2w {fn : Func} {p u1 u2 : Tmp} {ty : TypeId} (h : fn.results = #[.cell p ty, .tmp u1, .tmp u2]) (tmps : Array Value) (P : Program) (w : World) :
    (results fn tmps).run P w =
      ((asAddr (tmps.getD p undef)).run P w).andThen fun a w₁ => ((loadVar ty a).run P w₁).andThen fun v w₂ => .ok (.tuple #[v, tmps.getD u1 undef, tmps.getD u2 undef]) w₂ := by
  simp only [results, h]
  simp [Sem.run_bind, Result.andThen]
theorem ints_setA {w : World} {ax : Option Addr} {T : List Int} {A : Nat} {u : Value} (h : Ints w ax T) (hA : ∀ g o, ax = some ⟨g, o, none⟩ → g ≠ A) : Ints (w.setCell ⟨A, 0, none⟩ u) ax T := by
  rcases h with h | ⟨g, o, e, hl, hcc⟩
  · exact .inl h
  · exact .inr ⟨g, o, e, by simpa using hl, fun i hi => cell_set_other (hcc i hi) (hA g o e)⟩

end Go.Proofs.YtpmfedllbiblbaaGreat

namespace Go.Proofs.YtpmfedllbiblbaaGreat
open Go.RowKit Cv
set_option linter.unusedVariables false
set_option linter.unusedSimpArgs false
set_option maxRecDepth 100000

theorem ownBlock_ge5 {w : World} {base : Nat} {v : Value} {L : List Int} (h : OwnInts w base v L) {g : Nat} (e : v.ownBlock = some g) : base ≤ g := by
  obtain ⟨h1, h2⟩ := h
  rcases h2 with ⟨hv, _⟩ | ⟨g', _, _, hv, hg, _⟩
  · rw [hv] at e; simp [Value.ownBlock] at e
  · rw [hv] at e; simp [Value.ownBlock] at e; omega
theorem IntsX.grownR {b : Nat} {w w' : World} {r : Option Nat} {ao : Option Addr} {S : List Int} (h : IntsX b w ao S) (hg : w.grownBy w' r) (hne : ∀ g o, ao = some ⟨g, o, none⟩ → some g ≠ r) : IntsX b w' ao S := by
  obtain ⟨h1, h2⟩ := h
  refine ⟨?_, h2⟩
  rcases h1 with h | ⟨g, o, rfl, hlt, hc⟩
  · exact .inl h
  · exact .inr ⟨g, o, rfl, Nat.lt_of_lt_of_le hlt hg.size, fun i hi => hg.cell (a := ⟨g, o + i, none⟩) (hc i hi) (by simpa using hne g o rfl)⟩
/-- numbers from 0 to k - 1, at most k of them -/
def CL (C : List Int) (k : Nat) : Prop := (∀ i, i < C.length → 0 ≤ gi C i ∧ gi C i < (k : Int)) ∧ C.length ≤ k
theorem CL.mono {C : List Int} {k : Nat} (h : CL C k) : CL C (k + 1) := ⟨fun i hi => by have := h.1 i hi; omega, by have := h.2; omega⟩
end Go.Proofs.YtpmfedllbiblbaaGreat

namespace Go.Proofs.YtpmfedllbiblbaaGreat
open Go.RowKit Cv
set_option linter.unusedVariables false
set_option linter.unusedSimpArgs false
set_option maxRecDepth 100000

end Go.Proofs.YtpmfedllbiblbaaGreat

namespace Go.Proofs.YtpmfedllbiblbaaGreat
open Go.RowKit Cv
set_option linter.unusedVariables false
set_option linter.unusedSimpArgs false
set_option maxRecDepth 100000

theorem results_cell_tmp1a {fn : Func} {p u1 : Tmp} {ty : TypeId} (h : fn.results = #[.cell p ty, .tmp u1]) (tmps : Array Value) (P : Program) (w : World) :
    (results fn tmps).run P w =
      ((asAddr (tmps.getD p undef)).run P w).andThen fun a w₁ => ((loadVar ty a).run P w₁).andThen fun v w₂ => .ok (.tuple #[v, tmps.getD u1 undef]) w₂ := by
  simp only [results, h]
  simp [Sem.run_bind, Result.andThen]

set_option maxHeartbeats 4000000 in
theorem l10Draw_any (a : Option Addr) (n cap : Nat) (hn : n ≤ 4096) (w : World) (hY : Byts w w.heap.size a n) :
    Calls Tryz.prog 50 #[.slice a n cap] w fun e w' => ∃ ax T cx y, e = .returned (.tuple #[.agg #[.slice ax T.length cx], .int .i64 y]) ∧ Ints w' ax T ∧ (∀ g o, ax = some ⟨g, o, none⟩ → w.heap.size ≤ g) ∧ T.length ≤ 8 ∧ (-9223372036854775808 ≤ y ∧ y ≤ 9223372036854775807) ∧ Below w.heap.size w w' := by
  obtain ⟨A, hA⟩ : ∃ A, A = w.heap.size := ⟨_, rfl⟩
  obtain ⟨W, hW⟩ : ∃ W, W = w.alloc (.cells #[.slice none 0 0] 26) := ⟨_, rfl⟩
  have zW : W.heap.size = A + 1 := by rw [hW, hA]; simp
  have RA0 : W.heap[A]? = some (.cells #[.slice none 0 0] 26 (0, 0)) := by rw [hW, hA]; exact heap_alloc_new w _
  have B0 : Below A w W := by rw [hW, hA]; exact (Below.refl _ w).alloc (Nat.le_refl _) _
  have hY0 : Byts W W.heap.size a n := by rw [zW]; exact ((hY.mono (by omega)).keep fun b o v hb h => by rw [hW]; exact kept_cell ((Below.refl w.heap.size w).alloc (Nat.le_refl _) _) h (by have := World.block_lt_of_cell? w _ h; exact this))
  have hfr := from_any a n cap hn W hY0
  have HA := Lib.hid hA
  have HW := Lib.hid hW
  obtain ⟨b, hb⟩ : ∃ b, b = W.heap.size := ⟨_, rfl⟩
  rw [← hb] at hfr
  have hbA : b = A + 1 := by omega
  have HB := Lib.hid hb
  clear hA hW hY0
  go_enter Tryz.func50, Tryz.ntmps50
  go_wp2_with fail
  rw [← HW.out, ← HA.out]
  refine hfr.mono ?_
  rintro e w1 ⟨rfl, hs1, hb1⟩
  rw [hb] at hb1
  have RA1 := row_g RA0 (grown_of_below hb1 none) (by simp)
  have B1 : Below A w w1 := B0.trans (hb1.mono (by omega))
  have hd := small_any b a n cap hn w1 hs1
  have hAb : A < b := by omega
  have z1 := hs1.lt
  clear hfr hb1 RA0 B0 hs1 hb zW hbA
  go_wp2_with fail
  refine hd.mono ?_
  rintro e w2 ⟨v, S, rfl, own2, hSp, hs2, hg2⟩
  obtain ⟨x, c, hv⟩ := own_shp own2
  subst hv
  have RA2 := row_g RA1 hg2 (by simp; omega)
  have B2 := below_g B1 (by omega) hg2 (by omega)
  have hX2 := intsX_own own2 z1
  have z2 := hs2.lt
  clear hd hg2 RA1 B1 own2 z1
  obtain ⟨X, hX⟩ : ∃ X, X = w2.heap.size := ⟨_, rfl⟩
  obtain ⟨W3, hW3⟩ : ∃ W3, W3 = w2.alloc (.cells #[.slice x S.length c] 26) := ⟨_, rfl⟩
  have RX3 : W3.heap[X]? = some (.cells #[.slice x S.length c] 26 (0, 0)) := by rw [hW3, hX]; exact heap_alloc_new _ _
  have RA3 : W3.heap[A]? = some (.cells #[.slice none 0 0] 26 (0, 0)) := by rw [hW3]; exact row_g RA2 (World.grownBy_alloc w2 _ none) (by simp)
  have hs3 : Src W3 b a n cap := by rw [hW3]; exact hs2.alloc _
  have hX3 : IntsX b W3 x S := by rw [hW3]; exact hX2.below (B := 0) ((Below.refl _ _).alloc (Nat.le_refl _) _)
  have B3 : Below A w W3 := by rw [hW3]; exact B2.alloc (by omega) _
  replace z2 : b < W3.heap.size := hs3.lt
  have HX := Lib.hid hX
  have HW3 := Lib.hid hW3
  clear RA2 B2 hX2 hs2 hX hW3
  have hbd := bad_any b a n cap hn x S c hSp W3 hs3 hX3
  have xX3 := cell_of1' RX3
  go_wp2_with fail
  rw [← HW3.out, ← HX.out]
  refine hbd.mono ?_
  rintro e w3 ⟨ax, T, cx, rfl, hX4, hT, hs4, hg3⟩
  have RA4 := row_g RA3 hg3 (by simp; omega)
  have B4 := below_g B3 (by omega) hg3 (by omega)
  clear RX3 xX3 RA3 B3 hX3 hs3
  have RA3 := RA4
  have B3 := B4
  have hX3 := hX4
  have hs3 := hs4
  clear RA4 B4 hX4 hs4
  have hnr := near_any b a n cap hn 3 (by omega) w3 hs3
  have z3 := hs3.lt
  clear hbd hg3 z2 hs3
  go_wp2_with fail
  refine hnr.mono ?_
  rintro e w5 ⟨y, rfl, hy, hs5, hg5⟩
  have RA5 := row_g RA3 hg5 (by simp; omega)
  have hX5 := hX3.grown hg5
  have B5 := below_g B3 (by omega) hg5 (by omega)
  clear hnr hg5 RA3 hX3 B3 z3
  obtain ⟨u5, hu5⟩ : ∃ u, u = w5.alloc (.cells #[.int .i64 1, .int .i64 2, .int .i64 2, .int .i64 2, .int .i64 3, .int .i64 y] 2) := ⟨_, rfl⟩
  have RA6 : u5.heap[A]? = some (.cells #[.slice none 0 0] 26 (0, 0)) := by rw [hu5]; exact row_g RA5 (World.grownBy_alloc w5 _ none) (by simp)
  have hs6 : Src u5 b a n cap := by rw [hu5]; exact hs5.alloc _
  have hX6 : IntsX b u5 ax T := by rw [hu5]; exact hX5.below (B := 0) ((Below.refl _ _).alloc (Nat.le_refl _) _)
  have B6 : Below A w u5 := by rw [hu5]; exact B5.alloc (by have := hs5.lt; omega) _
  have I6 : Ints u5 (some ⟨w5.heap.size, 0, none⟩) [1, 2, 2, 2, 3, y] := by rw [hu5]; exact ints_new w5 _ _
  have hp6 := pick_n b a n cap hn w5.heap.size _ 6 rfl (by omega) (by omega) (by have := hs5.lt; omega) u5 hs6 I6
  have HU5 := Lib.hid hu5
  clear hu5 I6 RA5 hX5 B5 hs5
  go_wp2_with fail
  rw [← HU5.out]
  refine hp6.mono ?_
  rintro e w7 ⟨r, rfl, hr, hs7, hg7⟩
  replace hr : -9223372036854775808 ≤ r ∧ r ≤ 9223372036854775807 := by simp only [List.mem_cons, List.not_mem_nil, or_false] at hr; omega
  have RA7 := row_g RA6 hg7 (by simp; omega)
  have hX7 := hX6.grown hg7
  have B7 := below_g B6 (by have := hs6.lt; omega) hg7 (by omega)
  clear hp6 hg7 RA6 hX6 B6 hs6
  have xA7 := cell_of1' RA7
  have fA7 := frozen_of_row w7 A 0 _ _ RA7
  have zA7 := row_lt RA7
  have hAx : ∀ g o, ax = some ⟨g, o, none⟩ → g ≠ A := fun g o e => by have := hX7.2 g o e; omega
  go_wp2_with fail
  refine bodyPost_ret (by rw [results_cell_tmp1a rfl]; go_simp; try rfl) rfl ?_
  exact ⟨ax, T, cx, r, rfl, (hX7.set _ _ hAx).1, (fun g o e => by have := hX7.2 g o e; have := HA.out; omega), hT, hr, by rw [← HA.out]; exact B7.setCell (by simp) _⟩

end Go.Proofs.YtpmfedllbiblbaaGreat

namespace Go.Proofs.YtpmfedllbiblbaaGreat
open Go.RowKit Cv
set_option linter.unusedVariables false

theorem IntsX.grownE {b : Nat} {w w' : World} {r : Option Nat} {ao : Option Addr} {S : List Int} (h : IntsX b w ao S) (hg : w.grownBy w' r) (hne : S ≠ [] → ∀ g o, ao = some ⟨g, o, none⟩ → some g ≠ r) : IntsX b w' ao S := by
  by_cases e : S = []
  · subst e; exact ⟨.inl rfl, h.2⟩
  · exact h.grownR hg (hne e)

end Go.Proofs.YtpmfedllbiblbaaGreat

namespace Go.Proofs.YtpmfedllbiblbaaGreat
open Go.RowKit Go.Shelf Cv
set_option linter.unusedVariables false
set_option linter.unusedSimpArgs false
set_option maxRecDepth 100000

attribute [local go_sem] Oper.semAt_some

/-- the boxes of a type lie as they lay -/
def KeepsT (t : TypeId) (W W' : World) : Prop := ∀ (k : Nat) (cur : Array Value), W.heap[k]? = some (.cells cur t (0, 0)) → W'.heap[k]? = some (.cells cur t (0, 0))
theorem KeepsT.refl (t : TypeId) (W : World) : KeepsT t W W := fun _ _ h => h
theorem KeepsT.trans {t : TypeId} {A B C : World} (h : KeepsT t A B) (k : KeepsT t B C) : KeepsT t A C := fun i cur hi => k i cur (h i cur hi)
theorem KeepsT.alloc {t : TypeId} {A B : World} (h : KeepsT t A B) (o : Obj) : KeepsT t A (B.alloc o) := fun i cur hi => by
  have h2 := h i cur hi
  first | (rw [heap_alloc_old B o i (Array.getElem?_eq_some_iff.1 h2).1]; exact h2) | (rw [heap_alloc_old B o (Array.getElem?_eq_some_iff.1 h2).1]; exact h2)
theorem KeepsT.drew {t : TypeId} {A B : World} (h : KeepsT t A B) : KeepsT t A B.drew := h

/-- a block of cells lies as it lay -/
def KeepsAt (g : Nat) (W W' : World) : Prop := ∀ (cur : Array Value) (t : TypeId), W.heap[g]? = some (.cells cur t (0, 0)) → W'.heap[g]? = some (.cells cur t (0, 0))
theorem KeepsAt.refl (g : Nat) (W : World) : KeepsAt g W W := fun _ _ h => h
theorem KeepsAt.trans {g : Nat} {A B C : World} (h : KeepsAt g A B) (k : KeepsAt g B C) : KeepsAt g A C := fun cur t hi => k cur t (h cur t hi)
theorem KeepsAt.alloc {g : Nat} {A B : World} (h : KeepsAt g A B) (o : Obj) : KeepsAt g A (B.alloc o) := fun cur t hi => by
  have h2 := h cur t hi
  first | (rw [heap_alloc_old B o g (Array.getElem?_eq_some_iff.1 h2).1]; exact h2) | (rw [heap_alloc_old B o (Array.getElem?_eq_some_iff.1 h2).1]; exact h2)
theorem KeepsAt.set {g b k : Nat} {W : World} {v : Value} (hne : g ≠ b) : KeepsAt g W (W.setCell ⟨b, k, none⟩ v) := fun cur t hi => by
  rw [Below.heap_setCell _ _ _ _ (fun e => hne e)]; exact hi

def encW {S : List Int} {x r : Int} (p : WP S x r) : Array Value := #[.int .i64 p.1.1, .int .i64 p.1.2]

end Go.Proofs.YtpmfedllbiblbaaGreat

namespace Go.Proofs.YtpmfedllbiblbaaGreat
open Go.RowKit Cv
set_option linter.unusedVariables false
set_option linter.unusedSimpArgs false
set_option maxRecDepth 100000

theorem cell_of_heap {W : World} {B : Nat} {t : TypeId} {v : Value} (h : W.heap[B]? = some (.cells #[v] t (0, 0))) : W.cell? ⟨B, 0, none⟩ = some v := by simp [World.cell?, h]
end Go.Proofs.YtpmfedllbiblbaaGreat

namespace Go.Proofs.YtpmfedllbiblbaaGreat
open Go.RowKit Go.Shelf Cv
set_option linter.unusedVariables false
set_option linter.unusedSimpArgs false
set_option maxRecDepth 100000

attribute [local go_sem] Oper.semAt_some

end Go.Proofs.YtpmfedllbiblbaaGreat

namespace Go.Proofs.YtpmfedllbiblbaaGreat
open Go.RowKit Go.Shelf Cv
set_option linter.unusedVariables false
set_option linter.unusedSimpArgs false
set_option maxRecDepth 100000

attribute [local go_sem] Oper.semAt_some

theorem wpListIn_append_int_at {F : Fence} {n : Nat} {w : World} {ops : Array Oper} {rest : List Oper} {o : Oper} {a : Act} {Q : Exit → Act → World → Prop} (hgd : o.guard = none) (s x : Operand)
    (ho : o.op = .call { callee := .builtin .append, args := #[s, x], argTypes := #[24, 24] })
    (base : Nat) (v : Value) (L : List Int) (hs : a.eval s = v) (hown : OwnInts w base v L) (b : Nat) (y : Int) (hx : a.eval x = .slice (some ⟨b, 0, none⟩) 1 1) (hc : w.cell? ⟨b, 0, none⟩ = some (.int .i64 y))
    (hlen : L.length ≤ 1073741824) (hbase : base ≤ w.heap.size)
    (h : ∀ v' w', OwnInts w' base v' (L ++ [y]) → w.grownBy w' v.ownBlock → (v'.ownBlock = v.ownBlock ∨ v'.ownBlock = some w.heap.size) → wpListIn F n Tryz.prog ops Q rest (a.put o.dst v') w') : wpListIn F n Tryz.prog ops Q (o :: rest) a w := by
  obtain ⟨i0, hi, hz0, hz1, hz2⟩ := info_parts infoI64
  refine wpListIn_append_own_at w hgd s x 24 ho base 2 i0 (.int .i64 0) 1 8 Tryz.underlying24 hi hz0 hz1 hz2 rfl (by decide) v L.length (L.map (Value.int .i64)) hs hown ⟨b, 0, none⟩ 1 1 [.int .i64 y] hx rfl ?_ ?_ (by unfold maxLen; omega) (by omega) hbase ?_
  · intro j u hj
    match j, hj with
    | 0, hj => simp at hj; subst hj; simpa [Addr.add] using hc
  · intro u hu; simp at hu; subst hu; rfl
  · intro v' w' h1 h2 _ h3
    refine h v' w' ?_ h2 h3
    unfold OwnInts
    rw [List.length_append, List.map_append]
    exact h1

theorem own_snoc {w : World} {base : Nat} {v : Value} {L : List Int} {y : Int} (h : OwnInts w base v (L ++ [y])) : ∃ g cap, v = .slice (some ⟨g, 0, none⟩) (L.length + 1) cap := by
  obtain ⟨g, cap, hv, _⟩ := own_some h (by simp)
  exact ⟨g, cap, by rw [hv]; simp⟩
def seqB {S : List Int} {x r : Int} (pre : List (WP S x r)) : List Int := pre.map fun p => p.1.1
end Go.Proofs.YtpmfedllbiblbaaGreat

namespace Go.Proofs.YtpmfedllbiblbaaGreat
open Go.RowKit Go.Shelf Cv
set_option linter.unusedVariables false
set_option linter.unusedSimpArgs false

/-- marks of ranges that are over, each at a block of its own at or beyond B -/
def Marks (B : Nat) : List Deferred → World → Prop
  | [], _ => True
  | d :: ds, W => (∃ r, d.target = .collected r ∧ B ≤ r ∧ W.heap[r]? = some (.deferred (some [])) ∧ ∀ d' ∈ ds, d'.target ≠ .collected r) ∧ Marks B ds W

theorem Marks.keep {B : Nat} : ∀ {ds : List Deferred} {W W' : World}, Marks B ds W → (∀ r, B ≤ r → W.heap[r]? = some (.deferred (some [])) → (∃ d ∈ ds, d.target = .collected r) → W'.heap[r]? = some (.deferred (some []))) → Marks B ds W'
  | [], _, _, _, _ => trivial
  | d :: ds, W, W', ⟨⟨r, h1, h2, h3, h4⟩, h5⟩, hk => ⟨⟨r, h1, h2, hk r h2 h3 ⟨d, by simp, h1⟩, h4⟩, Marks.keep h5 fun r' hr hh ⟨d', hd', ht'⟩ => hk r' hr hh ⟨d', by simp [hd'], ht'⟩⟩
theorem Marks.lt {B : Nat} : ∀ {ds : List Deferred} {W : World}, Marks B ds W → ∀ d ∈ ds, ∃ r, d.target = .collected r ∧ r < W.heap.size
  | [], _, _, d, hd => by cases hd
  | d0 :: ds, W, ⟨⟨r, h1, h2, h3, h4⟩, h5⟩, d, hd => by
    rcases List.mem_cons.1 hd with rfl | hd
    · exact ⟨r, h1, (Array.getElem?_eq_some_iff.1 h3).1⟩
    · exact Marks.lt h5 d hd
/-- whatever is no cells and lies at or beyond B lies as it lay -/
theorem Marks.others {B : Nat} {ds : List Deferred} {W W' : World} (h : Marks B ds W) (k : KeepsFrom B W W') : Marks B ds W' := h.keep fun r hr hh _ => k.same r _ hr hh rfl
theorem Marks.old {B M : Nat} {ds : List Deferred} {W W' : World} (h : Marks B ds W) (hM : ∀ d ∈ ds, ∀ r, d.target = .collected r → r < M) {row : Option Nat} (hg : W.grownBy W' row) (hr : ∀ r, row = some r → M ≤ r) : Marks B ds W' := h.keep fun r _ hh ⟨d, hd, ht⟩ =>
  (hg.block r (Array.getElem?_eq_some_iff.1 hh).1 (fun e => by have h1 := hr r e.symm; have h2 := hM d hd r ht; omega)).trans hh
theorem Marks.cons {B D : Nat} {ds : List Deferred} {W : World} (h : Marks B ds W) (hD : B ≤ D) (hh : W.heap[D]? = some (.deferred (some []))) (hM : ∀ d ∈ ds, ∀ r, d.target = .collected r → r < D) : Marks B ({ target := .collected D, args := #[] } :: ds) W :=
  ⟨⟨D, rfl, hD, hh, fun d hd e => by have := hM d hd D e; omega⟩, h⟩
theorem Marks.bound {B : Nat} {ds : List Deferred} {W : World} (h : Marks B ds W) : ∀ d ∈ ds, ∀ r, d.target = .collected r → r < W.heap.size := fun d hd r hr => by
  obtain ⟨r', h1, h2⟩ := h.lt d hd
  rw [h1] at hr
  injection hr with hr
  omega

/-- what is left when the marks are taken up: only blocks that are no cells, at or beyond B, have turned -/
structure Taken (B : Nat) (W W' : World) : Prop where
  below : Below B W W'
  cells : ∀ (k : Nat) (cur : Array Value) (t : TypeId), W.heap[k]? = some (Obj.cells cur t (0, 0)) → W'.heap[k]? = some (Obj.cells cur t (0, 0))
theorem Taken.refl (B : Nat) (W : World) : Taken B W W := ⟨Below.refl _ _, fun _ _ _ h => h⟩
theorem Taken.put {B r : Nat} {W W' : World} {o o' : Obj} (h : Taken B W W') (hr : B ≤ r) (hh : W'.heap[r]? = some o) (ho : o.isCells = false) (hB : B ≤ W'.heap.size) : Taken B W (W'.putObj r o') :=
  ⟨h.below.grown (grownBy_putObj' W' r o') hB (fun k e => by cases e; exact hr), fun k cur t hk => by
    have h1 := h.cells k cur t hk
    rw [World.putObj_heap_other (fun e => ?_)]
    · exact h1
    · subst e
      rw [hh] at h1
      injection h1 with h1
      subst h1
      cases ho⟩
theorem Taken.own {B base : Nat} {W W' : World} {v : Value} {L : List Int} (h : Taken B W W') (ho : OwnInts W base v L) : OwnInts W' base v L := by
  refine ⟨ho.1, ?_⟩
  rcases ho.2 with h2 | ⟨g, cap, cur, hv, hg, hh, r⟩
  · exact .inl h2
  · exact .inr ⟨g, cap, cur, hv, hg, h.cells g cur _ hh, r⟩

end Go.Proofs.YtpmfedllbiblbaaGreat

namespace Go.Proofs.YtpmfedllbiblbaaGreat
open Go.RowKit Go.Shelf Cv
set_option linter.unusedVariables false
set_option linter.unusedSimpArgs false

/-- an iterator that yields the values of S, to rounds that all go on, whatever the caller keeps that bears what is no cells turned beyond its own start -/
def Gives0 {α : Type} (F : Fence) (n : Nat) (P : Program) (g : Nat) (lb : Array Value) (encs : α → Array Value) (Kp : World → World → Prop) (S : List α → Prop) (N : Nat) (w : World) : Prop :=
  ∀ (l : Nat) (J : List α → World → Prop) (W : World), Below w.heap.size w W → OwnFrom W.heap.size J →
    (∀ pre x W1, J pre W1 → pre.length < N → YieldAt F (n - 1) P l (encs x) W1 fun e W' => e = .returned (.bool true) ∧ J (pre ++ [x]) W' ∧ Kp W1 W' ∧ KeepsFrom W.heap.size W1 W') →
    J [] W → CallsIn F n P g (#[.func (.yield l) #[] #[]] ++ lb) W fun e W' => (∃ v, e = .returned v) ∧ ∃ xs, S xs ∧ J xs W'

theorem keepsFrom_below {B : Nat} {W W' : World} (h : Below W.heap.size W W') : KeepsFrom B W W' := ⟨h.size, fun k o _ hk _ => (h.block k (Array.getElem?_eq_some_iff.1 hk).1).trans hk⟩
theorem keepsFrom_mono {B B' : Nat} {W W' : World} (h : KeepsFrom B W W') (hB : B ≤ B') : KeepsFrom B' W W' := ⟨h.size, fun k o hk hh ho => h.same k o (Nat.le_trans hB hk) hh ho⟩
theorem keepsFrom_put {B l : Nat} (W : World) (o' : Obj) (hl : l < B) : KeepsFrom B W (W.putObj l o') := ⟨by simp, fun k o hk hh _ => (World.putObj_heap_other (by omega)).trans hh⟩

theorem range_gives {F : Fence} {n : Nat} {P : Program} {α : Type} {g : Operand} {ps : Array Tmp} {assign body : Code} {Q : Exit → Act → World → Prop} {a : Act} {w : World}
    (hro : F.round = none) (h1 : 1 ≤ n) {gf : Nat} {lb : Array Value} (hg : a.eval g = .func (.func gf) #[] lb) (hFg : F.fn gf) (eg : ∀ args w, (callFunc gf args).run P w = .ok (.enter gf args) w)
    {encs : α → Array Value} {Kp : World → World → Prop} {S : List α → Prop} {N : Nat} {w0 : World} (hseq : Gives0 F (n - 1) P gf lb encs Kp S N w0)
    (hKt : ∀ {A B C : World}, Kp A B → Kp B C → Kp A C) (hKg : ∀ (A B : World) (row : Option Nat), A.grownBy B row → (∀ r, row = some r → w.heap.size ≤ r ∧ ∃ o : Obj, A.heap[r]? = some o ∧ o.isCells = false) → w.heap.size ≤ A.heap.size → Kp A B) (hb0 : Below w0.heap.size w0 w) (hps : ∀ x, (encs x).size = ps.size)
    (I : List α → World → Prop) (Ia : List α × α × Act → World → Prop) (hI : OwnFrom w.heap.size I) (hIa : OwnFrom w.heap.size Ia) (h0 : I [] w)
    (hassign : ∀ (l : Nat) (pre : List α) (x : α) (W : World) (K : Act → World → Prop), I pre W → (∀ a' W', Ia (pre, x, a') W' → Below W.heap.size W W' → K a' W') →
      assign.wpIn (F.inRound l) (n - 1 - 1) P (Exit.then K (fun _ _ _ => False)) { tmps := (ps.zip (encs x)).foldl (fun t (p, v) => t.setIfInBounds p v) a.tmps, defers := [] } W)
    (hbody : ∀ (l : Nat) (pre : List α) (x : α) (a' : Act) (W : World), Ia (pre, x, a') W → pre.length < N → body.wpIn (F.inRound l) (n - 1 - 1) P (ownPostG w.heap.size Kp I (fun _ _ _ => False) (pre ++ [x]) W) a' W)
    (hdone : ∀ (D : Nat) (xs : List α) (W : World), w.heap.size ≤ D → S xs → I xs W → W.heap[D]? = some (.deferred (some [])) → Q .normal { a with defers := { target := .collected D, args := #[] } :: a.defers } W) :
    (Code.rangeFunc g ps assign body).wpIn F n P Q a w := by
  refine wpIn_rangeFunc fun fn hfn => ?_
  rw [hro]
  -- the loop's record, and the block of its rounds' deferred calls
  obtain ⟨rec, hrec⟩ : ∃ rec : LoopState → Option Code → Loop, rec = fun st pe => { state := st, pending := pe, fn, tmps := a.tmps, params := ps, assign, body, defers := w.heap.size } := ⟨_, rfl⟩
  obtain ⟨V, hV⟩ : ∃ V, (w.alloc (.deferred (some []))).alloc (.loop (rec .ready none)) = V := ⟨_, rfl⟩
  have hVs : V.heap.size = w.heap.size + 2 := by rw [← hV]; simp
  have hVb : Below w.heap.size w V := by rw [← hV]; exact ((Below.refl _ w).alloc (Nat.le_refl _) _).alloc (by simp) _
  have hVl : V.heap[w.heap.size + 1]? = some (.loop (rec .ready none)) := by
    have h := World.alloc_heap_new (w.alloc (.deferred (some []))) (.loop (rec .ready none))
    rw [World.size_alloc] at h; rw [← hV]; exact h
  have hVd : V.heap[w.heap.size]? = some (.deferred (some [])) := by
    rw [← hV]; exact (Below.heap_alloc _ _ _ (by simp)).trans (World.alloc_heap_new w _)
  have hVI : I [] V := hI _ w V none h0 ⟨hVb.os, hVb.tape, hVb.output, hVb.size, fun k hk _ => hVb.block k hk⟩ (fun r e => by cases e)
  refine ⟨w.heap.size + 1, [{ target := .collected w.heap.size, args := #[] }], V, { target := .fn (.func gf) lb, args := #[.func (.yield (w.heap.size + 1)) #[] #[]] }, V, gf, #[.func (.yield (w.heap.size + 1)) #[] #[]] ++ lb, V, ?_, ?_, ?_, ?_, fun _ => h1, ?_⟩
  · rw [← hV, hrec]; exact run_enterLoop_outer _ _ _ _ _
  · simp only [resolve, hg]; simp [go_sem]
  · intro f hf; simp [Target.leads] at hf; subst hf; exact hFg
  · simp [invoke, go_sem, eg]
  refine (hseq (w.heap.size + 1) (fun pre W => I pre W ∧ W.heap[w.heap.size + 1]? = some (.loop (rec .ready none)) ∧ W.heap[w.heap.size]? = some (.deferred (some []))) V (hb0.trans (hVb.mono hb0.size))
    (fun s A B row hs hg' hr => ⟨hI s A B row hs.1 hg' (fun r e => ⟨by have := (hr r e).1; omega, (hr r e).2⟩),
      (hg'.block _ (Array.getElem?_eq_some_iff.1 hs.2.1).1 (fun e => by have := (hr _ e.symm).1; omega)).trans hs.2.1, (hg'.block _ (Array.getElem?_eq_some_iff.1 hs.2.2).1 (fun e => by have := (hr _ e.symm).1; omega)).trans hs.2.2⟩)
    ?_ ⟨hVI, hVl, hVd⟩).mono ?_
  · -- a round
    rintro pre x W ⟨hi, hl, hd⟩ hlen
    have hlt := (Array.getElem?_eq_some_iff.1 hl).1
    have hy := run_yield (P := P) (args := encs x) hl (by rw [hrec]; exact hps x)
    rw [hrec] at hy
    refine ⟨fn, _, assign, body, hy, roundIn_of_wpIn hfn (hassign _ pre x W _ hi fun a' W' ha hB' => ?_)⟩
    have hl' : W'.heap[w.heap.size + 1]? = some (.loop (rec .ready none)) := (hB'.block _ hlt).trans hl
    have hd' : W'.heap[w.heap.size]? = some (.deferred (some [])) := (hB'.block _ (by omega)).trans hd
    have hlt' := (Array.getElem?_eq_some_iff.1 hl').1
    refine ⟨_, run_beginRound hl' (by rw [hrec]), ?_⟩
    have hl2 : (W'.putObj (w.heap.size + 1) (.loop { rec .ready none with state := .busy })).heap[w.heap.size + 1]? = some (.loop { rec .ready none with state := .busy }) := World.putObj_heap_same hlt'
    have hd2 : (W'.putObj (w.heap.size + 1) (.loop { rec .ready none with state := .busy })).heap[w.heap.size]? = some (.deferred (some [])) := (World.putObj_heap_other (by omega)).trans hd'
    have hw0 := hb0.size
    have g1 : W.grownBy W' none := ⟨hB'.os, hB'.tape, hB'.output, hB'.size, fun k hk _ => hB'.block k hk⟩
    have b2 : Kp W (W'.putObj (w.heap.size + 1) (.loop { rec .ready none with state := .busy })) := hKt (hKg _ _ none g1 (fun r e => by cases e) (by omega)) (hKg _ _ (some (w.heap.size + 1)) (grownBy_putObj' _ _ _) (fun r e => by cases e; exact ⟨by omega, _, hl', rfl⟩) (by have := hB'.size; omega))
    have k2 : KeepsFrom V.heap.size W (W'.putObj (w.heap.size + 1) (.loop { rec .ready none with state := .busy })) := (keepsFrom_below hB').trans (keepsFrom_put _ _ (by omega))
    refine wpIn_mono (hbody _ pre x a' _ (hIa _ _ _ (some (w.heap.size + 1)) ha (grownBy_putObj' _ _ _) (fun r e => by cases e; exact ⟨by omega, _, hl', rfl⟩)) hlen) ?_
    rintro e a3 W3 hp
    cases e with
    | normal =>
      obtain ⟨hk3, hb3, hi3⟩ := hp
      have hl3 := hk3.same _ _ (by omega) hl2 rfl
      have hd3 := hk3.same _ _ (Nat.le_refl _) hd2 rfl
      have he := run_endRound (P := P) none hl3
      rw [hrec] at he
      refine ⟨_, _, he, rfl, ⟨hI _ _ _ (some (w.heap.size + 1)) hi3 (grownBy_putObj' _ _ _) (fun r e => by cases e; exact ⟨by omega, _, hl3, rfl⟩), ?_, (World.putObj_heap_other (by omega)).trans hd3⟩, ?_, ?_⟩
      · rw [World.putObj_heap_same (Array.getElem?_eq_some_iff.1 hl3).1, hrec]; rfl
      · exact hKt (hKt b2 hb3) (hKg _ _ (some (w.heap.size + 1)) (grownBy_putObj' _ _ _) (fun r e => by cases e; exact ⟨by omega, _, hl3, rfl⟩) (by have := (Array.getElem?_eq_some_iff.1 hl3).1; omega))
      · exact (k2.trans (keepsFrom_mono hk3 (by omega))).trans (keepsFrom_put _ _ (by omega))
    | ret => exact hp.2.elim
    | exit id => exact hp.2.elim
    | goto t => exact hp.2.elim
    | panic ch => exact hp.elim
    | outgrown => exact hp.elim
  · -- behind the iterator
    rintro e W2 ⟨⟨v, rfl⟩, xs, hS, hi, hl, hd⟩
    have he := run_endLoop (P := P) hl (by rw [hrec]; simp)
    rw [hrec] at he
    exact ⟨none, _, he, hdone _ xs _ (Nat.le_refl _) hS (hI _ _ _ (some (w.heap.size + 1)) hi (grownBy_putObj' _ _ _) (fun r e => by cases e; exact ⟨by omega, _, hl, rfl⟩)) ((World.putObj_heap_other (by omega)).trans hd)⟩

/-- a function leaves with marks among its deferred calls: whatever bears what is no cells turned beyond B stands -/
theorem leaves_marksJ {F : Fence} {n : Nat} {P : Program} {fn : Func} {tmps : Array Value} {R : Ending → World → Prop} {B : Nat} {J : World → Prop}
    (hJ : ∀ (W : World) (r : Nat) (o o' : Obj), J W → B ≤ r → W.heap[r]? = some o → o.isCells = false → J (W.putObj r o')) (hf : ∀ W', J W' → ∃ v, (results fn tmps).run P W' = .ok v W' ∧ R (.returned v) W') :
    ∀ (ds : List Deferred) (W : World), Marks B ds W → J W → LeavesInM F n P fn tmps R ds .returning W
  | [], W, _, h => hf W h
  | d :: ds, W, ⟨⟨r, h1, h2, h3, h4⟩, h5⟩, h => by
    refine ⟨by simp, .inl ⟨r, _, h1, run_takeDeferred h3, leaves_marksJ hJ hf ds _ (h5.keep fun r' hr hh ⟨d', hd', ht'⟩ => ?_) (hJ _ _ _ _ h h2 h3 rfl)⟩⟩
    rw [World.putObj_heap_other (fun e => h4 d' hd' (by rw [ht', e]))]
    exact hh

end Go.Proofs.YtpmfedllbiblbaaGreat

namespace Go.Proofs.YtpmfedllbiblbaaGreat
open Go.RowKit Cv
set_option linter.unusedVariables false
set_option linter.unusedSimpArgs false
set_option maxRecDepth 100000

/-- the set p as a value -/
def setA (p : Nat → Bool) : Array Value := ((partsL p).map (Value.int .u64)).toArray
theorem setA_size (p : Nat → Bool) : (setA p).size = 16 := by simp [setA, partsL]
theorem setA_get (p : Nat → Bool) (k : Nat) (h : k < 16) : (setA p)[k]? = some (.int .u64 (partN p k)) := by simp [setA, partsL, h]
/-- the set p lies in the block b -/
def RowAt (w : World) (b : Nat) (p : Nat → Bool) : Prop := w.heap[b]? = some (.cells (setA p) 68 (0, 0))
theorem setA_ext {p q : Nat → Bool} (h : ∀ u, u < 1024 → p u = q u) : setA p = setA q := by unfold setA; rw [partsL_ext h]
theorem partN_none (k : Nat) : partN (fun _ => false) k = 0 := by
  have h : ∀ n, ofB (fun _ => false) k n = 0 := by intro n; induction n with
    | zero => rfl
    | succ n ih => rw [ofB, ih]; simp
  exact h 64
theorem setA_none : setA (fun _ => false) = #[.int .u64 0, .int .u64 0, .int .u64 0, .int .u64 0, .int .u64 0, .int .u64 0, .int .u64 0, .int .u64 0, .int .u64 0, .int .u64 0, .int .u64 0, .int .u64 0, .int .u64 0, .int .u64 0, .int .u64 0, .int .u64 0] := by
  unfold setA partsL
  simp only [partN_none]
  rfl
theorem RowAt.lt {w : World} {b : Nat} {p : Nat → Bool} (h : RowAt w b p) : b < w.heap.size := (Array.getElem?_eq_some_iff.1 h).1
theorem RowAt.cell {w : World} {b : Nat} {p : Nat → Bool} (h : RowAt w b p) (k : Nat) (hk : k < 16) : w.cell? ⟨b, k, none⟩ = some (.int .u64 (partN p k)) := by
  rw [cell_of_row w b k _ _ _ h, setA_get p k hk]
theorem RowAt.free {w : World} {b : Nat} {p : Nat → Bool} (h : RowAt w b p) (k : Nat) : w.frozen? ⟨b, k, none⟩ = false := by
  have h' : w.heap[b]? = some (.cells (setA p) 68 (0, 0)) := h
  simp [World.frozen?, h']
theorem RowAt.below {w w' : World} {b : Nat} {p : Nat → Bool} (h : RowAt w b p) {n : Nat} (hb : Below n w w') (hn : b < n) : RowAt w' b p := by
  unfold RowAt; rw [hb.block b hn]; exact h
theorem RowAt.kept {w w' : World} {b c : Nat} {p : Nat → Bool} (h : RowAt w b p) (hg : w.grownBy w' (some c)) (hn : b ≠ c) : RowAt w' b p := by
  obtain ⟨_, _, _, _, hg5⟩ := hg
  unfold RowAt; rw [hg5 b h.lt (by simpa using hn)]; exact h
theorem row_new (w : World) (p : Nat → Bool) : RowAt (w.alloc (.cells (setA p) 68)) w.heap.size p := heap_alloc_last w _
theorem rowz_new (w : World) {n : Nat} (hn : n = w.heap.size) : RowAt (w.alloc (.cells #[.int .u64 0, .int .u64 0, .int .u64 0, .int .u64 0, .int .u64 0, .int .u64 0, .int .u64 0, .int .u64 0, .int .u64 0, .int .u64 0, .int .u64 0, .int .u64 0, .int .u64 0, .int .u64 0, .int .u64 0, .int .u64 0] 68)) n (fun _ => false) := by
  subst hn; unfold RowAt; rw [setA_none]; exact heap_alloc_last w _
theorem rown_new (w : World) (p : Nat → Bool) {n : Nat} (hn : n = w.heap.size) : RowAt (w.alloc (.cells (setA p) 68)) n p := by subst hn; exact row_new w p
theorem RowAt.alloc {w : World} {b : Nat} {p : Nat → Bool} (h : RowAt w b p) (o : Obj) : RowAt (w.alloc o) b p := h.below ((Below.refl w.heap.size w).alloc (Nat.le_refl _) o) h.lt
theorem info81 : (Tryz.prog.info? 68).map (·.size) = some 16 := by kernel_rfl
theorem ldVar {w : World} {b : Nat} {p : Nat → Bool} (h : RowAt w b p) : (loadVar 68 ⟨b, 0, none⟩).run Tryz.prog w = .ok (.agg (setA p)) w :=
  run_loadVar_row w b _ _ _ _ _ h Tryz.underlying68 rfl (by rw [setA_size]; exact info81)
theorem setA_one (p : Nat → Bool) : (setA p).all (·.oneCell') = true := by
  unfold setA partsL
  simp [Value.oneCell']
theorem stVar {w : World} {b : Nat} {p q : Nat → Bool} (h : RowAt w b p) : (storeVar 68 ⟨b, 0, none⟩ (.agg (setA q))).run Tryz.prog w = .ok () (w.setRow b (setA q)) :=
  run_storeVar_row w b _ _ _ _ h (by rw [setA_size]; exact info81) (by rw [setA_size, setA_size]) (setA_one q)
theorem row_set {w : World} {b : Nat} {p q : Nat → Bool} (h : RowAt w b p) : RowAt (w.setRow b (setA q)) b q := setRow_heap w b _ _ _ _ h
theorem grown_setRow {w : World} {b : Nat} (q : Array Value) : w.grownBy (w.setRow b q) (some b) :=
  ⟨rfl, rfl, rfl, by simp, fun i hi hne => setRow_other w b i q (by simpa using hne)⟩
theorem wpList_ld16 {ops : Array Oper} {rest : List Oper} {o : Oper} {a : Act} {w : World} {Q : Exit → Act → World → Prop} (hgd : o.guard = none) (x : Operand) (ho : o.op = .load 68 x) {b : Nat} {p : Nat → Bool}
    (hr : RowAt w b p) (hx : a.eval x = .pointer (some ⟨b, 0, none⟩)) (h : wpList Tryz.prog ops Q rest (a.put o.dst (.agg (setA p))) w) : wpList Tryz.prog ops Q (o :: rest) a w :=
  wpList_load_row hgd _ x ho b hx _ _ _ _ hr Tryz.underlying68 rfl (by rw [setA_size]; exact info81) h
theorem wpList_st16 {ops : Array Oper} {rest : List Oper} {o : Oper} {a : Act} {w : World} {Q : Exit → Act → World → Prop} (hgd : o.guard = none) (x y : Operand) (ho : o.op = .store 68 x y) {b : Nat} {p : Nat → Bool}
    (hr : RowAt w b p) (q : Nat → Bool) (hx : a.eval x = .pointer (some ⟨b, 0, none⟩)) (hy : a.eval y = .agg (setA q)) (h : wpList Tryz.prog ops Q rest (a.put o.dst undef) (w.setRow b (setA q))) : wpList Tryz.prog ops Q (o :: rest) a w :=
  wpList_store_row hgd _ x y ho b (setA q) hx hy _ _ hr (by rw [setA_size]; exact info81) (by rw [setA_size, setA_size]) (setA_one q) h
theorem results16 {fn : Func} {t : Tmp} (h : fn.results = #[.cell t 68]) (tmps : Array Value) {w : World} {b : Nat} {p : Nat → Bool} (hr : RowAt w b p) (hp : tmps.getD t undef = .pointer (some ⟨b, 0, none⟩)) :
    (results fn tmps).run Tryz.prog w = .ok (.agg (setA p)) w :=
  results_cell_row h tmps w b _ _ _ _ hp hr Tryz.underlying68 rfl (by rw [setA_size]; exact info81)
theorem part_has (p : Nat → Bool) (u : Nat) (hu : u < 1024) : (bits BinOp.and IntKind.u64 ((partN p (u / 64) : Int) / 2 ^ (u % 64)) 1 == 1) = p u := by
  have hb := partN_lt p (u / 64)
  have e0 : ((partN p (u / 64) : Int) / 2 ^ (u % 64)) = ((partN p (u / 64) / 2 ^ (u % 64) : Nat) : Int) := by push_cast; rfl
  have hlt : partN p (u / 64) / 2 ^ (u % 64) < 18446744073709551616 := Nat.lt_of_le_of_lt (Nat.div_le_self _ _) hb
  have e1 : partN p (u / 64) / 2 ^ (u % 64) % 2 = (if p u = true then 1 else 0) := by
    have h := partN_bit p (u / 64) (u % 64) (by omega)
    rw [show 64 * (u / 64) + u % 64 = u by omega, Nat.testBit_eq_decide_div_mod_eq] at h
    by_cases hp : p u = true
    · rw [if_pos hp]; rw [hp] at h; simpa using h
    · rw [if_neg hp]; simp only [Bool.not_eq_true] at hp; rw [hp] at h
      have := Nat.mod_lt (partN p (u / 64) / 2 ^ (u % 64)) (show 0 < 2 by decide)
      simp at h; omega
  unfold bits
  have e2 : ((BitVec.ofInt IntKind.u64.bits ((partN p (u / 64) : Int) / 2 ^ (u % 64))) &&& (BitVec.ofInt IntKind.u64.bits 1)).toNat = partN p (u / 64) / 2 ^ (u % 64) % 2 := by
    rw [e0, BitVec.toNat_and]
    show (BitVec.ofInt 64 ((partN p (u / 64) / 2 ^ (u % 64) : Nat) : Int)).toNat &&& (BitVec.ofInt 64 1).toNat = _
    rw [bv_nat _ hlt, show (BitVec.ofInt 64 1).toNat = 1 from rfl, Nat.and_one_is_mod]
  show (IntKind.u64.wrap (((BitVec.ofInt IntKind.u64.bits ((partN p (u / 64) : Int) / 2 ^ (u % 64))) &&& (BitVec.ofInt IntKind.u64.bits 1)).toNat : Int) == 1) = p u
  rw [e2, e1]
  by_cases hp : p u = true
  · rw [if_pos hp, hp]; rfl
  · rw [if_neg hp]; simp only [Bool.not_eq_true] at hp; rw [hp]; rfl
theorem part_put1 (p : Nat → Bool) (u : Nat) : bits BinOp.or IntKind.u64 ((partN p (u / 64) : Int)) (IntKind.u64.wrap (2 ^ (u % 64))) = (partN (putB p u) (u / 64) : Int) := by
  have h1 := part_one u
  rw [Int.one_mul] at h1
  rw [h1]
  exact part_or p (fun v => decide (v = u)) (u / 64)
theorem setA_put (p : Nat → Bool) (u : Nat) (hu : u < 1024) : (setA p).setIfInBounds (u / 64) (.int .u64 (partN (putB p u) (u / 64))) = setA (putB p u) := by
  apply Array.ext_getElem?
  intro k
  rw [Array.getElem?_setIfInBounds]
  by_cases hk : k < 16
  · rw [setA_get _ k hk, setA_get _ k hk]
    by_cases e : u / 64 = k
    · subst e; simp [setA_size, hk]
    · rw [if_neg e, part_put_other p u k (Ne.symm e)]
  · have h1 : (setA p)[k]? = none := by simp [setA_size]; omega
    have h2 : (setA (putB p u))[k]? = none := by simp [setA_size]; omega
    rw [h1, h2]; simp [setA_size]; omega
theorem has_any (p : Nat → Bool) (u : Nat) (hu : u < 1024) (w : World) :
    Calls Tryz.prog 106 #[.agg (setA p), .int .i64 u] w fun e w' => e = .returned (.bool (p u)) ∧ Below w.heap.size w w' := by
  have e1 : Int.tdiv (u : Int) 64 = ((u / 64 : Nat) : Int) := by rw [Int.tdiv_eq_ediv_of_nonneg (by omega)]; rfl
  have e2 : Int.tmod (u : Int) 64 = ((u % 64 : Nat) : Int) := by rw [Int.tmod_eq_emod_of_nonneg (by omega)]; rfl
  have hA := setA_get p (u / 64) (by omega)
  have hm0 := partN_lt p (u / 64)
  go_enter Tryz.func106, Tryz.ntmps106
  go_wp2
  go_ret
  exact ⟨ret_bool (part_has p u hu), by go_grown⟩

/-- the words among the first k of a list, as a set -/
def setTo (T : List Int) : Nat → Nat → Bool
  | 0 => fun _ => false
  | k + 1 => putB (setTo T k) (gi T k).toNat
theorem idx16 (q : Nat → Bool) (k : Nat) (hk : k < 16) (w : World) : Sem.run Tryz.prog (Instr.index 68 (.agg (setA q)) (.int .i64 (k : Int))) w = .ok (.int .u64 (partN q k)) w := by
  have hA := setA_get q k hk
  have h1 : (0 : Int) ≤ (k : Int) := by omega
  have h2 : (k : Int) < (16 : Nat) := by omega
  simp [go_sem, Instr.index, part, hA, h1, h2, Tryz.underlying68, Tryz.isAgg66, Tryz.sizeOf66]
  intro h; omega
/-- a set with the first k parts of another one -/
def mixP (p q : Nat → Bool) (k : Nat) : Nat → Bool := fun u => if u / 64 < k then p u || q u else p u
theorem mixP_at (p q : Nat → Bool) (k : Nat) : partN (mixP p q k) k = partN p k := partN_ext _ _ _ fun b hb => by
  unfold mixP; rw [if_neg (by omega)]
theorem mixP_set (p q : Nat → Bool) (k : Nat) (hk : k < 16) : (setA (mixP p q k)).setIfInBounds k (.int .u64 (partN (fun u => p u || q u) k)) = setA (mixP p q (k + 1)) := by
  apply Array.ext_getElem?
  intro j
  rw [Array.getElem?_setIfInBounds]
  by_cases hj : j < 16
  · rw [setA_get _ j hj, setA_get _ j hj]
    by_cases e : k = j
    · subst e
      rw [if_pos rfl, if_pos (by rw [setA_size]; exact hk)]
      congr 2
      have : partN (mixP p q (k + 1)) k = partN (fun u => p u || q u) k := partN_ext _ _ _ fun b hb => by unfold mixP; rw [if_pos (by omega)]
      rw [this]
    · rw [if_neg e]
      congr 2
      have : partN (mixP p q (k + 1)) j = partN (mixP p q k) j := partN_ext _ _ _ fun b hb => by
        unfold mixP
        by_cases h : (64 * j + b) / 64 < k
        · rw [if_pos h, if_pos (by omega)]
        · rw [if_neg h, if_neg (by omega)]
      rw [this]
  · have h1 : (setA (mixP p q k))[j]? = none := by simp [setA_size]; omega
    have h2 : (setA (mixP p q (k + 1)))[j]? = none := by simp [setA_size]; omega
    rw [h1, h2]; simp [setA_size]; omega
theorem row_mix {w : World} {b : Nat} {p q : Nat → Bool} {k : Nat} (hk : k < 16) (h : RowAt w b (mixP p q k)) :
    RowAt (w.setCell ⟨b, k, none⟩ (.int .u64 (partN (fun u => p u || q u) k))) b (mixP p q (k + 1)) := by
  unfold RowAt
  rw [heap_setCell_same w b _ _ _ _ h, mixP_set p q k hk]
theorem mixP_zero (p q : Nat → Bool) : mixP p q 0 = p := by funext u; simp [mixP]
theorem mixP_all (p q : Nat → Bool) : setA (mixP p q 16) = setA (fun u => p u || q u) := setA_ext fun u hu => by unfold mixP; rw [if_pos (by omega)]

theorem with_any (p q : Nat → Bool) (w : World) :
    Calls Tryz.prog 49 #[.agg (setA p), .agg (setA q)] w fun e w' => e = .returned (.agg (setA fun u => p u || q u)) ∧ Below w.heap.size w w' := by
  have hy := (rown_new (w.alloc (.cells (setA p) 68)) q (n := w.heap.size + 1) (by simp)).alloc (.cells #[.int .u64 0, .int .u64 0, .int .u64 0, .int .u64 0, .int .u64 0, .int .u64 0, .int .u64 0, .int .u64 0, .int .u64 0, .int .u64 0, .int .u64 0, .int .u64 0, .int .u64 0, .int .u64 0, .int .u64 0, .int .u64 0] 68)
  have hx := ((row_new w p).alloc (.cells (setA q) 68)).alloc (.cells #[.int .u64 0, .int .u64 0, .int .u64 0, .int .u64 0, .int .u64 0, .int .u64 0, .int .u64 0, .int .u64 0, .int .u64 0, .int .u64 0, .int .u64 0, .int .u64 0, .int .u64 0, .int .u64 0, .int .u64 0, .int .u64 0] 68)
  have hz := rowz_new ((w.alloc (.cells (setA p) 68)).alloc (.cells (setA q) 68)) (n := w.heap.size + 1 + 1) (by simp)
  go_enter Tryz.func49, Tryz.ntmps49
  go_wp2_with (first | (refine wpList_ld16 rfl _ rfl hy rfl ?_))
  go_loopw [8] (fun i wr => ∃ k : Nat, k ≤ 16 ∧ i = .int .i64 k ∧ RowAt wr w.heap.size (mixP p q k) ∧ (∃ q0, RowAt wr (w.heap.size + 1 + 1) q0) ∧ Below w.heap.size w wr) (fun i _ => 16 - (intOf i).toNat)
  case atStart => exact ⟨0, by omega, rfl, by rw [mixP_zero]; exact hx, ⟨_, hz⟩, by go_grown⟩
  case round =>
    obtain ⟨k, hk, rfl, hr, ⟨q0, hq0⟩, B⟩ := hrel
    by_cases hlt : k < 16
    · have hcx := hr.cell k hlt
      have hfx := hr.free k
      rw [mixP_at] at hcx
      have hA := setA_get q k hlt
      have hO : bits BinOp.or IntKind.u64 (partN p k : Int) (partN q k : Int) = (partN (fun u => p u || q u) k : Int) := part_or p q k
      have hI := idx16 q k hlt wr
      have hs := B.size
      have HR : Hid _ := Lib.hid (row_mix hlt hr)
      clear hx hy hz hA
      go_wp2_with fail
      go_roundw
      case rel => exact ⟨k + 1, by omega, by go_num, HR.out, ⟨q0, hq0.kept (grown_setCell (⟨rfl, rfl, rfl, Nat.le_refl _, fun _ _ _ => rfl⟩ : wr.grownBy wr (some w.heap.size)) _ _) (by omega)⟩, B.setCell (by simp) _⟩
      case measure => simp [intOf]; omega
    · have ek : Hid (k = 16) := Lib.hid (by omega)
      go_wp2_with (first | (refine wpList_ld16 rfl _ rfl hr rfl ?_) | (refine wpList_st16 rfl _ _ rfl hq0 (mixP p q k) rfl rfl ?_))
      (try simp only [Exit.inBlock, Exit.then])
      refine bodyPost_ret (results16 rfl _ (row_set hq0) rfl) rfl ?_
      exact ⟨by rw [ek.out, mixP_all], B.grown (grown_setRow _) B.size fun j hj => by cases hj; omega⟩

theorem lacks_any (p : Nat → Bool) (u : Nat) (hu : u < 1024) (w : World) :
    Calls Tryz.prog 89 #[.agg (setA p), .int .i64 u] w fun e w' => e = .returned (.bool (!p u)) ∧ Below w.heap.size w w' := by
  have hx := row_new w p
  have B0 : Below w.heap.size w (w.alloc (.cells (setA p) 68)) := by go_grown
  go_enter Tryz.func89, Tryz.ntmps89
  go_wp2_with (first | (refine wpList_ld16 rfl _ rfl hx rfl ?_))
  refine (has_any p u hu _).mono ?_
  rintro e w1 ⟨rfl, hb⟩
  go_wp2_with fail
  go_ret
  exact ⟨ret_bool (by simp), B0.trans (hb.mono B0.size)⟩

theorem wp_ld16 {o : Oper} {a : Act} {w : World} {K : Act → World → Prop} {Q : Exit → Act → World → Prop} (x : Operand) (ho : o.op = .load 68 x) {b : Nat} {p : Nat → Bool} (hr : RowAt w b p) (hx : a.eval x = .pointer (some ⟨b, 0, none⟩)) (h : K (a.put o.dst (.agg (setA p))) w) : o.wp Tryz.prog a w K Q :=
  wp_load_row _ x ho b hx _ _ _ _ hr Tryz.underlying68 rfl (by rw [setA_size]; exact info81) h
theorem wp_st16 {o : Oper} {a : Act} {w : World} {K : Act → World → Prop} {Q : Exit → Act → World → Prop} (x y : Operand) (ho : o.op = .store 68 x y) {b : Nat} {p : Nat → Bool} (hr : RowAt w b p) (q : Nat → Bool) (hx : a.eval x = .pointer (some ⟨b, 0, none⟩)) (hy : a.eval y = .agg (setA q)) (h : K (a.put o.dst undef) (w.setRow b (setA q))) : o.wp Tryz.prog a w K Q :=
  wp_store_row _ x y ho b (setA q) hx hy _ _ hr (by rw [setA_size]; exact info81) (by rw [setA_size, setA_size]) (setA_one q) h

/-- what a list of numbers owns is no set -/
theorem own_not_set {w : World} {base b : Nat} {v : Value} {L : List Int} {p : Nat → Bool} (h : OwnInts w base v L) (hr : RowAt w b p) : v.ownBlock ≠ some b := fun e => by
  rcases h.2 with ⟨rfl, _⟩ | ⟨g, cap, cur, rfl, _, hgb, _⟩
  · simp [Value.ownBlock] at e
  · have e2 : g = b := by simpa [Value.ownBlock] using e
    subst e2
    have hr' : w.heap[g]? = some (.cells (setA p) 68 (0, 0)) := hr
    rw [hr'] at hgb
    injection hgb with hgb
    injection hgb with _ hgb _
    exact absurd hgb (by decide)
theorem exec_ldRow {a : Act} {w : World} {b : Nat} {p : Nat → Bool} (hr : RowAt w b p) (o : Oper) (x : Operand) (ho : o.op = .load 68 x) (hx : a.eval x = .pointer (some ⟨b, 0, none⟩)) : (execOp a.eval o).run Tryz.prog w = .ok (.value (.agg (setA p))) w := by
  unfold execOp
  simp only [ho, hx, Instr.loadAt, Instr.sureAddr, Sem.run_bind, Sem.run_pure, Result.andThen_ok, ldVar hr]

end Go.Proofs.YtpmfedllbiblbaaGreat
