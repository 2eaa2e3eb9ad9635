/-
  A range over a function inside a plain loop: the marks that it leaves among the deferred calls, round by round. By an AI agent.
-/
import Derived.Test.YtlhapanfegjafaaBall
namespace Go.Proofs.Ytlhapanfegjafaa
open Go.RowKit Go.Shelf Cv
set_option linter.unusedVariables false
set_option linter.unusedSimpArgs false

/-- marks of ranges that are over, each at a block of its own at or beyond B -/
def Marks (B : Nat) : List Deferred → World → Prop
  | [], _ => True
  | d :: ds, W => (∃ r, d.target = .collected r ∧ B ≤ r ∧ W.heap[r]? = some (.deferred (some [])) ∧ ∀ d' ∈ ds, d'.target ≠ .collected r) ∧ Marks B ds W

theorem Marks.keep {B : Nat} : ∀ {ds : List Deferred} {W W' : World}, Marks B ds W → (∀ r, B ≤ r → W.heap[r]? = some (.deferred (some [])) → (∃ d ∈ ds, d.target = .collected r) → W'.heap[r]? = some (.deferred (some []))) → Marks B ds W'
  | [], _, _, _, _ => trivial
  | d :: ds, W, W', ⟨⟨r, h1, h2, h3, h4⟩, h5⟩, hk => ⟨⟨r, h1, h2, hk r h2 h3 ⟨d, by simp, h1⟩, h4⟩, Marks.keep h5 fun r' hr hh ⟨d', hd', ht'⟩ => hk r' hr hh ⟨d', by simp [hd'], ht'⟩⟩
theorem Marks.lt {B : Nat} : ∀ {ds : List Deferred} {W : World}, Marks B ds W → ∀ d ∈ ds, ∃ r, d.target = .collected r ∧ r < W.heap.size
  | [], _, _, d, hd => by cases hd
  | d0 :: ds, W, ⟨⟨r, h1, h2, h3, h4⟩, h5⟩, d, hd => by
    rcases List.mem_cons.1 hd with rfl | hd
    · exact ⟨r, h1, (Array.getElem?_eq_some_iff.1 h3).1⟩
    · exact Marks.lt h5 d hd
/-- whatever is no cells and lies at or beyond B lies as it lay -/
theorem Marks.others {B : Nat} {ds : List Deferred} {W W' : World} (h : Marks B ds W) (k : KeepsFrom B W W') : Marks B ds W' := h.keep fun r hr hh _ => k.same r _ hr hh rfl
theorem Marks.old {B M : Nat} {ds : List Deferred} {W W' : World} (h : Marks B ds W) (hM : ∀ d ∈ ds, ∀ r, d.target = .collected r → r < M) {row : Option Nat} (hg : W.grownBy W' row) (hr : ∀ r, row = some r → M ≤ r) : Marks B ds W' := h.keep fun r _ hh ⟨d, hd, ht⟩ =>
  (hg.block r (Array.getElem?_eq_some_iff.1 hh).1 (fun e => by have h1 := hr r e.symm; have h2 := hM d hd r ht; omega)).trans hh
theorem Marks.cons {B D : Nat} {ds : List Deferred} {W : World} (h : Marks B ds W) (hD : B ≤ D) (hh : W.heap[D]? = some (.deferred (some []))) (hM : ∀ d ∈ ds, ∀ r, d.target = .collected r → r < D) : Marks B ({ target := .collected D, args := #[] } :: ds) W :=
  ⟨⟨D, rfl, hD, hh, fun d hd e => by have := hM d hd D e; omega⟩, h⟩
theorem Marks.bound {B : Nat} {ds : List Deferred} {W : World} (h : Marks B ds W) : ∀ d ∈ ds, ∀ r, d.target = .collected r → r < W.heap.size := fun d hd r hr => by
  obtain ⟨r', h1, h2⟩ := h.lt d hd
  rw [h1] at hr
  injection hr with hr
  omega

/-- what is left when the marks are taken up: only blocks that are no cells, at or beyond B, have turned -/
structure Taken (B : Nat) (W W' : World) : Prop where
  below : Below B W W'
  cells : ∀ (k : Nat) (cur : Array Value) (t : TypeId), W.heap[k]? = some (Obj.cells cur t (0, 0)) → W'.heap[k]? = some (Obj.cells cur t (0, 0))
theorem Taken.refl (B : Nat) (W : World) : Taken B W W := ⟨Below.refl _ _, fun _ _ _ h => h⟩
theorem Taken.put {B r : Nat} {W W' : World} {o o' : Obj} (h : Taken B W W') (hr : B ≤ r) (hh : W'.heap[r]? = some o) (ho : o.isCells = false) (hB : B ≤ W'.heap.size) : Taken B W (W'.putObj r o') :=
  ⟨h.below.grown (grownBy_putObj' W' r o') hB (fun k e => by cases e; exact hr), fun k cur t hk => by
    have h1 := h.cells k cur t hk
    rw [World.putObj_heap_other (fun e => ?_)]
    · exact h1
    · subst e
      rw [hh] at h1
      injection h1 with h1
      subst h1
      cases ho⟩
theorem Taken.own {B base : Nat} {W W' : World} {v : Value} {L : List Int} (h : Taken B W W') (ho : OwnInts W base v L) : OwnInts W' base v L := by
  refine ⟨ho.1, ?_⟩
  rcases ho.2 with h2 | ⟨g, cap, cur, hv, hg, hh, r⟩
  · exact .inl h2
  · exact .inr ⟨g, cap, cur, hv, hg, h.cells g cur _ hh, r⟩

/-- a function leaves with marks among its deferred calls -/
theorem leaves_marks {F : Fence} {n : Nat} {P : Program} {fn : Func} {tmps : Array Value} {R : Ending → World → Prop} {B : Nat} {W0 : World} : ∀ (ds : List Deferred) (W : World), Marks B ds W → Taken B W0 W → B ≤ W.heap.size →
    (∀ W', Taken B W0 W' → ∃ v, (results fn tmps).run P W' = .ok v W' ∧ R (.returned v) W') → LeavesInM F n P fn tmps R ds .returning W
  | [], W, _, ht, _, hf => hf W ht
  | d :: ds, W, ⟨⟨r, h1, h2, h3, h4⟩, h5⟩, ht, hB, hf => by
    refine ⟨by simp, .inl ⟨r, _, h1, run_takeDeferred h3, ?_⟩⟩
    have hlt := (Array.getElem?_eq_some_iff.1 h3).1
    refine leaves_marks ds _ (h5.keep fun r' hr hh ⟨d', hd', ht'⟩ => ?_) (ht.put h2 h3 rfl hB) (by simp [World.putObj]; exact hB) hf
    rw [World.putObj_heap_other (fun e => h4 d' hd' (by rw [ht', e]))]
    exact hh

end Go.Proofs.Ytlhapanfegjafaa
