/-
  Texts put together: Walk2, Ball, Marks. By an AI agent.
-/
import Derived.Test.YtcnnijeokefboabWalk
import Derived.Test.YtcnnijeokefboabPkWW
import Derived.RangeFuncBox
import Derived.Maps.AppendAt
import Derived.Maps.OwnIn
import Derived.Test.YtcnnijeokefboabMath
import Derived.Test.YtcnnijeokefboabPk30
import Derived.Test.YtcnnijeokefboabPk6
namespace Go.Proofs.Ytcnnijeokefboab
open Go.RowKit Go.Shelf Cv
set_option linter.unusedVariables false
set_option linter.unusedSimpArgs false
set_option maxRecDepth 100000

attribute [local go_sem] Oper.semAt_some

set_option maxHeartbeats 2000000 in
theorem all_stops (F : Fence) (hd : F.depth = none) (hw : F.fn 85) (h1 : F.fn 84) (hro : F.round = none) (n : Nat) (S : List Int) (hSp : Sp S) (x r : Int) (hr0 : 0 ≤ r) (hr : r ≤ 8) (ao : Option Addr) (cap Bb g : Nat) (D : Array Value) (w0 w : World) (hw0 : Below w0.heap.size w0 w)
    (hB : w.heap[Bb]? = some (.cells #[.slice ao S.length cap, .slice (some ⟨g, 0, none⟩) S.length S.length, .int .i64 r] 111 (0, 0))) (hS : Ints w0 ao S) (hG : w.heap[g]? = some (.cells D 2 (0, 0))) (hD : ∀ i, i < S.length → D[i]? = some (.int .i64 (dig S x i))) :
    SeqStopsK F n Try.prog 84 #[.pointer (some ⟨Bb, 0, none⟩)] (encW (S := S) (x := x) (r := r)) (KpB w0.heap.size g) (fun ys => Hid (ys.map Subtype.val = ballP S x r)) (fun _ => True) (ballP S x r).length w := fun l J Jx W hW hJ hJx hY h0 => by
  have hdd : ∀ k : Nat, (F.depth.isSome = true → 1 ≤ k) := fun k h => by rw [hd] at h; cases h
  have hbb := hW.block Bb (Array.getElem?_eq_some_iff.1 hB).1
  rw [hB] at hbb
  obtain ⟨b0, b1, b2⟩ := box_cells hbb
  have hgg := hW.block g (Array.getElem?_eq_some_iff.1 hG).1
  rw [hG] at hgg
  have HWB := Lib.hid (walk_ball S hSp.bd x r hr0)
  have hc := walk_in F hd hw hro l W.heap.size (ballP S x r).length w0 S hSp x r hr ao g cap S.length D hS hD (Nat.le_trans hw0.size hW.size) J Jx hJ (fun m pre p W hj hl => yield_any hd m (hY pre p W hj hl)) S.length (n - 1) 0 0 0 0 [] W (Lib.hid rfl) (by omega) (way_start S x r hr0) (hw0.trans (hW.mono hw0.size)) hgg (Nat.le_refl _) h0 (by rw [HWB.out]; simp)
  clear hB hbb hY h0 hW hJ hJx hgg hG hD
  refine callsIn_of_wp Try.func84 rfl h1 ?_ hro
  simp only [Try.ntmps84, List.size_toArray, List.length_cons, List.length_nil, Nat.reduceAdd, Nat.reduceSub, Array.replicate_succ, Array.replicate_zero, List.push_toArray, List.append_toArray, List.nil_append, List.cons_append]
  gi_wp2_with ((try refine ⟨hdd _, ?_⟩); gi_at_call 85; refine hc.mono ?_; clear hc; rintro e W' (⟨rfl, ys, HY, hJ', _⟩ | ⟨rfl, q, hx⟩))
  · go_end0
    exact ⟨⟨_, rfl⟩, .inl ⟨ys, Lib.hid (HY.out.trans HWB.out), by simpa using hJ'⟩⟩
  · go_end0
    exact ⟨⟨_, rfl⟩, .inr ⟨q, trivial, hx⟩⟩

end Go.Proofs.Ytcnnijeokefboab

namespace Go.Proofs.Ytcnnijeokefboab
open Go.RowKit Go.Shelf Cv
set_option linter.unusedVariables false
set_option linter.unusedSimpArgs false
set_option maxRecDepth 100000

attribute [local go_sem] Oper.semAt_some

theorem keepsT_grown {t e : TypeId} {W W' : World} {base size k : Nat} {v : Value} {xs : List Value} (hr : W.ownsRow base e size v k xs) (hte : e ≠ t) (hg : W.grownBy W' v.ownBlock) : KeepsT t W W' := fun i cur hi => by
  have hlt := (Array.getElem?_eq_some_iff.1 hi).1
  rw [hg.block i hlt fun he => ?_]
  · exact hi
  · rcases hr.2 with ⟨rfl, _⟩ | ⟨g, cap, cur', rfl, _, hgb, _⟩
    · simp [Value.ownBlock] at he
    · obtain rfl : i = g := by simpa [Value.ownBlock] using he
      rw [hi] at hgb
      injection hgb with hgb
      injection hgb with _ hgb _
      exact hte hgb.symm
theorem keepsT_set {t t' : TypeId} {W : World} {B k : Nat} {cur' : Array Value} {v : Value} (hb : W.heap[B]? = some (.cells cur' t' (0, 0))) (hne : t' ≠ t) : KeepsT t W (W.setCell ⟨B, k, none⟩ v) := fun i cur hi => by
  rw [Below.heap_setCell _ _ _ _ (fun e => ?_)]
  · exact hi
  · have e' : i = B := e
    subst e'
    rw [hi] at hb
    injection hb with hb
    injection hb with _ hb _
    exact hne hb.symm
theorem keepsT_put {t : TypeId} {W : World} {l : Nat} {o o' : Obj} (hl : W.heap[l]? = some o) (ho : o.isCells = false) : KeepsT t W (W.putObj l o') := fun i cur hi => by
  rw [World.putObj_heap_other (fun e => ?_)]
  · exact hi
  · subst e
    rw [hl] at hi
    injection hi with hi
    subst hi
    cases ho
theorem keepsAt_put {g : Nat} {W : World} {l : Nat} {o o' : Obj} (hl : W.heap[l]? = some o) (ho : o.isCells = false) : KeepsAt g W (W.putObj l o') := fun cur t hi => by
  rw [World.putObj_heap_other (fun e => ?_)]
  · exact hi
  · subst e
    rw [hl] at hi
    injection hi with hi
    subst hi
    cases ho
theorem kpB_t {n₀ g : Nat} {A B C : World} (h : KpB n₀ g A B) (k : KpB n₀ g B C) : KpB n₀ g A C := ⟨h.1.trans k.1, h.2.1.trans k.2.1, h.2.2.trans k.2.2⟩
theorem kpB_b {n₀ g : Nat} {w : World} (hn : n₀ ≤ w.heap.size) (W : World) (l : Nat) (o o' : Obj) (hl : w.heap.size ≤ l) (h : W.heap[l]? = some o) (ho : o.isCells = false) (hw : o.isWalk = false) : KpB n₀ g W (W.putObj l o') :=
  ⟨belowK_b hn W l o o' hl h ho hw, keepsT_put h ho, keepsAt_put h ho⟩

theorem wpListIn_append_int_at {F : Fence} {n : Nat} {w : World} {ops : Array Oper} {rest : List Oper} {o : Oper} {a : Act} {Q : Exit → Act → World → Prop} (hgd : o.guard = none) (s x : Operand)
    (ho : o.op = .call { callee := .builtin .append, args := #[s, x], argTypes := #[24, 24] })
    (base : Nat) (v : Value) (L : List Int) (hs : a.eval s = v) (hown : OwnInts w base v L) (b : Nat) (y : Int) (hx : a.eval x = .slice (some ⟨b, 0, none⟩) 1 1) (hc : w.cell? ⟨b, 0, none⟩ = some (.int .i64 y))
    (hlen : L.length ≤ 1073741824) (hbase : base ≤ w.heap.size)
    (h : ∀ v' w', OwnInts w' base v' (L ++ [y]) → w.grownBy w' v.ownBlock → (v'.ownBlock = v.ownBlock ∨ v'.ownBlock = some w.heap.size) → wpListIn F n Try.prog ops Q rest (a.put o.dst v') w') : wpListIn F n Try.prog ops Q (o :: rest) a w := by
  obtain ⟨i0, hi, hz0, hz1, hz2⟩ := info_parts infoI64
  refine wpListIn_append_own_at w hgd s x 24 ho base 2 i0 (.int .i64 0) 1 8 Try.underlying24 hi hz0 hz1 hz2 rfl (by decide) v L.length (L.map (Value.int .i64)) hs hown ⟨b, 0, none⟩ 1 1 [.int .i64 y] hx rfl ?_ ?_ (by unfold maxLen; omega) (by omega) hbase ?_
  · intro j u hj
    match j, hj with
    | 0, hj => simp at hj; subst hj; simpa [Addr.add] using hc
  · intro u hu; simp at hu; subst hu; rfl
  · intro v' w' h1 h2 _ h3
    refine h v' w' ?_ h2 h3
    unfold OwnInts
    rw [List.length_append, List.map_append]
    exact h1

/-- the heap of a row that lies in a block -/
theorem own_heap {W : World} {base g n cap : Nat} {L : List Int} (h : OwnInts W base (.slice (some ⟨g, 0, none⟩) n cap) L) : ∃ D : Array Value, W.heap[g]? = some (.cells D 2 (0, 0)) ∧ ∀ i, i < L.length → D[i]? = some (.int .i64 (gi L i)) := by
  rcases h.2 with ⟨hv, _⟩ | ⟨g', cap', cur, hv, _, hh, _⟩
  · simp at hv
  · have e : g = g' := by simp only [Value.slice.injEq] at hv; simpa using hv.1
    subst e
    refine ⟨cur, hh, fun i hi => ?_⟩
    have := h.cell hi
    rwa [cell_of_row W g i cur 2 (0, 0) hh] at this

theorem own_snoc {w : World} {base : Nat} {v : Value} {L : List Int} {y : Int} (h : OwnInts w base v (L ++ [y])) : ∃ g cap, v = .slice (some ⟨g, 0, none⟩) (L.length + 1) cap := by
  obtain ⟨g, cap, hv, _⟩ := own_some h (by simp)
  exact ⟨g, cap, by rw [hv]; simp⟩
/-- behind an append to a list in a box, and the store of what came back -/
theorem app_step {W w1 : World} {n₀ B g : Nat} {v v' : Value} {L : List Int} {y : Int} {tmp : Obj} (hv : Boxed W B 24 v) (hown : OwnInts W n₀ v L) (hn : n₀ ≤ W.heap.size) (hB : n₀ ≤ B) (hg : v.ownBlock ≠ some g) (hgW : g < W.heap.size) (hBg : g ≠ B)
    (hown' : OwnInts w1 n₀ v' (L ++ [y])) (hgrow : (W.alloc tmp).grownBy w1 v.ownBlock) (hat : v'.ownBlock = v.ownBlock ∨ v'.ownBlock = some (W.alloc tmp).heap.size) :
    Boxed w1 B 24 v ∧ Boxed (w1.setCell ⟨B, 0, none⟩ v') B 24 v' ∧ OwnInts (w1.setCell ⟨B, 0, none⟩ v') n₀ v' (L ++ [y]) ∧ KeepsOthers W (w1.setCell ⟨B, 0, none⟩ v') ∧ KpB n₀ g W (w1.setCell ⟨B, 0, none⟩ v') ∧ v'.ownBlock ≠ some g := by
  obtain ⟨h1, h2, h3, h4, h5⟩ := hv.appended (by decide) hown hn hB hown' hgrow
  refine ⟨h1, h2, h3, h4, ⟨h5, ?_, ?_⟩, ?_⟩
  · exact (((KeepsT.refl _ W).alloc tmp).trans (keepsT_grown (World.ownsRow.alloc hown tmp) (by decide) hgrow)).trans (keepsT_set (t' := 24) h1 (by decide))
  · exact (((KeepsAt.refl g W).alloc tmp).trans (KeepsAt.of_grown hgrow hg)).trans (KeepsAt.set hBg)
  · rcases hat with h | h
    · rw [h]; exact hg
    · rw [h]; simp; omega


def seqB {S : List Int} {x r : Int} (pre : List (WP S x r)) : List Int := pre.map fun p => p.1.1
theorem seqB_snoc {S : List Int} {x r : Int} (pre : List (WP S x r)) (p : WP S x r) : seqB (pre ++ [p]) = seqB pre ++ [p.1.1] := by simp [seqB]

end Go.Proofs.Ytcnnijeokefboab

namespace Go.Proofs.Ytcnnijeokefboab
open Go.RowKit Go.Shelf Cv
set_option linter.unusedVariables false
set_option linter.unusedSimpArgs false

/-- marks of ranges that are over, each at a block of its own at or beyond B -/
def Marks (B : Nat) : List Deferred → World → Prop
  | [], _ => True
  | d :: ds, W => (∃ r, d.target = .collected r ∧ B ≤ r ∧ W.heap[r]? = some (.deferred (some [])) ∧ ∀ d' ∈ ds, d'.target ≠ .collected r) ∧ Marks B ds W

theorem Marks.keep {B : Nat} : ∀ {ds : List Deferred} {W W' : World}, Marks B ds W → (∀ r, B ≤ r → W.heap[r]? = some (.deferred (some [])) → (∃ d ∈ ds, d.target = .collected r) → W'.heap[r]? = some (.deferred (some []))) → Marks B ds W'
  | [], _, _, _, _ => trivial
  | d :: ds, W, W', ⟨⟨r, h1, h2, h3, h4⟩, h5⟩, hk => ⟨⟨r, h1, h2, hk r h2 h3 ⟨d, by simp, h1⟩, h4⟩, Marks.keep h5 fun r' hr hh ⟨d', hd', ht'⟩ => hk r' hr hh ⟨d', by simp [hd'], ht'⟩⟩
theorem Marks.lt {B : Nat} : ∀ {ds : List Deferred} {W : World}, Marks B ds W → ∀ d ∈ ds, ∃ r, d.target = .collected r ∧ r < W.heap.size
  | [], _, _, d, hd => by cases hd
  | d0 :: ds, W, ⟨⟨r, h1, h2, h3, h4⟩, h5⟩, d, hd => by
    rcases List.mem_cons.1 hd with rfl | hd
    · exact ⟨r, h1, (Array.getElem?_eq_some_iff.1 h3).1⟩
    · exact Marks.lt h5 d hd
/-- whatever is no cells and lies at or beyond B lies as it lay -/
theorem Marks.others {B : Nat} {ds : List Deferred} {W W' : World} (h : Marks B ds W) (k : KeepsFrom B W W') : Marks B ds W' := h.keep fun r hr hh _ => k.same r _ hr hh rfl
theorem Marks.old {B M : Nat} {ds : List Deferred} {W W' : World} (h : Marks B ds W) (hM : ∀ d ∈ ds, ∀ r, d.target = .collected r → r < M) {row : Option Nat} (hg : W.grownBy W' row) (hr : ∀ r, row = some r → M ≤ r) : Marks B ds W' := h.keep fun r _ hh ⟨d, hd, ht⟩ =>
  (hg.block r (Array.getElem?_eq_some_iff.1 hh).1 (fun e => by have h1 := hr r e.symm; have h2 := hM d hd r ht; omega)).trans hh
theorem Marks.cons {B D : Nat} {ds : List Deferred} {W : World} (h : Marks B ds W) (hD : B ≤ D) (hh : W.heap[D]? = some (.deferred (some []))) (hM : ∀ d ∈ ds, ∀ r, d.target = .collected r → r < D) : Marks B ({ target := .collected D, args := #[] } :: ds) W :=
  ⟨⟨D, rfl, hD, hh, fun d hd e => by have := hM d hd D e; omega⟩, h⟩
theorem Marks.bound {B : Nat} {ds : List Deferred} {W : World} (h : Marks B ds W) : ∀ d ∈ ds, ∀ r, d.target = .collected r → r < W.heap.size := fun d hd r hr => by
  obtain ⟨r', h1, h2⟩ := h.lt d hd
  rw [h1] at hr
  injection hr with hr
  omega

/-- what is left when the marks are taken up: only blocks that are no cells, at or beyond B, have turned -/
structure Taken (B : Nat) (W W' : World) : Prop where
  below : Below B W W'
  cells : ∀ (k : Nat) (cur : Array Value) (t : TypeId), W.heap[k]? = some (Obj.cells cur t (0, 0)) → W'.heap[k]? = some (Obj.cells cur t (0, 0))
theorem Taken.refl (B : Nat) (W : World) : Taken B W W := ⟨Below.refl _ _, fun _ _ _ h => h⟩
theorem Taken.put {B r : Nat} {W W' : World} {o o' : Obj} (h : Taken B W W') (hr : B ≤ r) (hh : W'.heap[r]? = some o) (ho : o.isCells = false) (hB : B ≤ W'.heap.size) : Taken B W (W'.putObj r o') :=
  ⟨h.below.grown (grownBy_putObj' W' r o') hB (fun k e => by cases e; exact hr), fun k cur t hk => by
    have h1 := h.cells k cur t hk
    rw [World.putObj_heap_other (fun e => ?_)]
    · exact h1
    · subst e
      rw [hh] at h1
      injection h1 with h1
      subst h1
      cases ho⟩
theorem Taken.own {B base : Nat} {W W' : World} {v : Value} {L : List Int} (h : Taken B W W') (ho : OwnInts W base v L) : OwnInts W' base v L := by
  refine ⟨ho.1, ?_⟩
  rcases ho.2 with h2 | ⟨g, cap, cur, hv, hg, hh, r⟩
  · exact .inl h2
  · exact .inr ⟨g, cap, cur, hv, hg, h.cells g cur _ hh, r⟩

/-- a function leaves with marks among its deferred calls -/
theorem leaves_marks {F : Fence} {n : Nat} {P : Program} {fn : Func} {tmps : Array Value} {R : Ending → World → Prop} {B : Nat} {W0 : World} : ∀ (ds : List Deferred) (W : World), Marks B ds W → Taken B W0 W → B ≤ W.heap.size →
    (∀ W', Taken B W0 W' → ∃ v, (results fn tmps).run P W' = .ok v W' ∧ R (.returned v) W') → LeavesInM F n P fn tmps R ds .returning W
  | [], W, _, ht, _, hf => hf W ht
  | d :: ds, W, ⟨⟨r, h1, h2, h3, h4⟩, h5⟩, ht, hB, hf => by
    refine ⟨by simp, .inl ⟨r, _, h1, run_takeDeferred h3, ?_⟩⟩
    have hlt := (Array.getElem?_eq_some_iff.1 h3).1
    refine leaves_marks ds _ (h5.keep fun r' hr hh ⟨d', hd', ht'⟩ => ?_) (ht.put h2 h3 rfl hB) (by simp [World.putObj]; exact hB) hf
    rw [World.putObj_heap_other (fun e => h4 d' hd' (by rw [ht', e]))]
    exact hh

end Go.Proofs.Ytcnnijeokefboab
