/-
  The contracts of the program's balls and spheres. By an AI agent.
-/
import Derived.RangeFuncBox
import Derived.Maps.AppendAt
import Derived.Maps.OwnIn
import Derived.Test.YtlhapanfegjafaaWalk2
import Derived.Test.YtlhapanfegjafaaMath
import Derived.Test.YtlhapanfegjafaaErr2
import Derived.Test.YtlhapanfegjafaaAppendAt
namespace Go.Proofs.Ytlhapanfegjafaa
open Go.RowKit Go.Shelf Cv
set_option linter.unusedVariables false
set_option linter.unusedSimpArgs false
set_option maxRecDepth 100000

attribute [local go_sem] Oper.semAt_some

theorem keepsT_grown {t e : TypeId} {W W' : World} {base size k : Nat} {v : Value} {xs : List Value} (hr : W.ownsRow base e size v k xs) (hte : e ≠ t) (hg : W.grownBy W' v.ownBlock) : KeepsT t W W' := fun i cur hi => by
  have hlt := (Array.getElem?_eq_some_iff.1 hi).1
  rw [hg.block i hlt fun he => ?_]
  · exact hi
  · rcases hr.2 with ⟨rfl, _⟩ | ⟨g, cap, cur', rfl, _, hgb, _⟩
    · simp [Value.ownBlock] at he
    · obtain rfl : i = g := by simpa [Value.ownBlock] using he
      rw [hi] at hgb
      injection hgb with hgb
      injection hgb with _ hgb _
      exact hte hgb.symm
theorem keepsT_set {t t' : TypeId} {W : World} {B k : Nat} {cur' : Array Value} {v : Value} (hb : W.heap[B]? = some (.cells cur' t' (0, 0))) (hne : t' ≠ t) : KeepsT t W (W.setCell ⟨B, k, none⟩ v) := fun i cur hi => by
  rw [Below.heap_setCell _ _ _ _ (fun e => ?_)]
  · exact hi
  · have e' : i = B := e
    subst e'
    rw [hi] at hb
    injection hb with hb
    injection hb with _ hb _
    exact hne hb.symm
theorem keepsT_put {t : TypeId} {W : World} {l : Nat} {o o' : Obj} (hl : W.heap[l]? = some o) (ho : o.isCells = false) : KeepsT t W (W.putObj l o') := fun i cur hi => by
  rw [World.putObj_heap_other (fun e => ?_)]
  · exact hi
  · subst e
    rw [hl] at hi
    injection hi with hi
    subst hi
    cases ho
theorem keepsAt_put {g : Nat} {W : World} {l : Nat} {o o' : Obj} (hl : W.heap[l]? = some o) (ho : o.isCells = false) : KeepsAt g W (W.putObj l o') := fun cur t hi => by
  rw [World.putObj_heap_other (fun e => ?_)]
  · exact hi
  · subst e
    rw [hl] at hi
    injection hi with hi
    subst hi
    cases ho
theorem kpB_t {n₀ g : Nat} {A B C : World} (h : KpB n₀ g A B) (k : KpB n₀ g B C) : KpB n₀ g A C := ⟨h.1.trans k.1, h.2.1.trans k.2.1, h.2.2.trans k.2.2⟩
theorem kpB_b {n₀ g : Nat} {w : World} (hn : n₀ ≤ w.heap.size) (W : World) (l : Nat) (o o' : Obj) (hl : w.heap.size ≤ l) (h : W.heap[l]? = some o) (ho : o.isCells = false) (hw : o.isWalk = false) : KpB n₀ g W (W.putObj l o') :=
  ⟨belowK_b hn W l o o' hl h ho hw, keepsT_put h ho, keepsAt_put h ho⟩

theorem wpListIn_append_int_at {F : Fence} {n : Nat} {w : World} {ops : Array Oper} {rest : List Oper} {o : Oper} {a : Act} {Q : Exit → Act → World → Prop} (hgd : o.guard = none) (s x : Operand)
    (ho : o.op = .call { callee := .builtin .append, args := #[s, x], argTypes := #[24, 24] })
    (base : Nat) (v : Value) (L : List Int) (hs : a.eval s = v) (hown : OwnInts w base v L) (b : Nat) (y : Int) (hx : a.eval x = .slice (some ⟨b, 0, none⟩) 1 1) (hc : w.cell? ⟨b, 0, none⟩ = some (.int .i64 y))
    (hlen : L.length ≤ 1073741824) (hbase : base ≤ w.heap.size)
    (h : ∀ v' w', OwnInts w' base v' (L ++ [y]) → w.grownBy w' v.ownBlock → (v'.ownBlock = v.ownBlock ∨ v'.ownBlock = some w.heap.size) → wpListIn F n Try.prog ops Q rest (a.put o.dst v') w') : wpListIn F n Try.prog ops Q (o :: rest) a w := by
  obtain ⟨i0, hi, hz0, hz1, hz2⟩ := info_parts infoI64
  refine wpListIn_append_own_at w hgd s x 24 ho base 2 i0 (.int .i64 0) 1 8 Try.underlying24 hi hz0 hz1 hz2 rfl (by decide) v L.length (L.map (Value.int .i64)) hs hown ⟨b, 0, none⟩ 1 1 [.int .i64 y] hx rfl ?_ ?_ (by unfold maxLen; omega) (by omega) hbase ?_
  · intro j u hj
    match j, hj with
    | 0, hj => simp at hj; subst hj; simpa [Addr.add] using hc
  · intro u hu; simp at hu; subst hu; rfl
  · intro v' w' h1 h2 _ h3
    refine h v' w' ?_ h2 h3
    unfold OwnInts
    rw [List.length_append, List.map_append]
    exact h1

/-- the heap of a row that lies in a block -/
theorem own_heap {W : World} {base g n cap : Nat} {L : List Int} (h : OwnInts W base (.slice (some ⟨g, 0, none⟩) n cap) L) : ∃ D : Array Value, W.heap[g]? = some (.cells D 2 (0, 0)) ∧ ∀ i, i < L.length → D[i]? = some (.int .i64 (gi L i)) := by
  rcases h.2 with ⟨hv, _⟩ | ⟨g', cap', cur, hv, _, hh, _⟩
  · simp at hv
  · have e : g = g' := by simp only [Value.slice.injEq] at hv; simpa using hv.1
    subst e
    refine ⟨cur, hh, fun i hi => ?_⟩
    have := h.cell hi
    rwa [cell_of_row W g i cur 2 (0, 0) hh] at this

theorem own_snoc {w : World} {base : Nat} {v : Value} {L : List Int} {y : Int} (h : OwnInts w base v (L ++ [y])) : ∃ g cap, v = .slice (some ⟨g, 0, none⟩) (L.length + 1) cap := by
  obtain ⟨g, cap, hv, _⟩ := own_some h (by simp)
  exact ⟨g, cap, by rw [hv]; simp⟩
/-- behind an append to a list in a box, and the store of what came back -/
theorem app_step {W w1 : World} {n₀ B g : Nat} {v v' : Value} {L : List Int} {y : Int} {tmp : Obj} (hv : Boxed W B 24 v) (hown : OwnInts W n₀ v L) (hn : n₀ ≤ W.heap.size) (hB : n₀ ≤ B) (hg : v.ownBlock ≠ some g) (hgW : g < W.heap.size) (hBg : g ≠ B)
    (hown' : OwnInts w1 n₀ v' (L ++ [y])) (hgrow : (W.alloc tmp).grownBy w1 v.ownBlock) (hat : v'.ownBlock = v.ownBlock ∨ v'.ownBlock = some (W.alloc tmp).heap.size) :
    Boxed w1 B 24 v ∧ Boxed (w1.setCell ⟨B, 0, none⟩ v') B 24 v' ∧ OwnInts (w1.setCell ⟨B, 0, none⟩ v') n₀ v' (L ++ [y]) ∧ KeepsOthers W (w1.setCell ⟨B, 0, none⟩ v') ∧ KpB n₀ g W (w1.setCell ⟨B, 0, none⟩ v') ∧ v'.ownBlock ≠ some g := by
  obtain ⟨h1, h2, h3, h4, h5⟩ := hv.appended (by decide) hown hn hB hown' hgrow
  refine ⟨h1, h2, h3, h4, ⟨h5, ?_, ?_⟩, ?_⟩
  · exact (((KeepsT.refl _ W).alloc tmp).trans (keepsT_grown (World.ownsRow.alloc hown tmp) (by decide) hgrow)).trans (keepsT_set (t' := 24) h1 (by decide))
  · exact (((KeepsAt.refl g W).alloc tmp).trans (KeepsAt.of_grown hgrow hg)).trans (KeepsAt.set hBg)
  · rcases hat with h | h
    · rw [h]; exact hg
    · rw [h]; simp; omega


def seqB {S : List Int} {x r : Int} (pre : List (WP S x r)) : List Int := pre.map fun p => p.1.1
theorem seqB_snoc {S : List Int} {x r : Int} (pre : List (WP S x r)) (p : WP S x r) : seqB (pre ++ [p]) = seqB pre ++ [p.1.1] := by simp [seqB]

end Go.Proofs.Ytlhapanfegjafaa
