/-
  Texts put together: Walk2, Ball, Marks, Giv. By an AI agent.
-/
import Derived.Test.YtamebfbddoeflaaPk45
import Derived.Test.YtamebfbddoeflaaPkWW
import Derived.RangeFuncBox
import Derived.Maps.AppendAt
import Derived.Maps.OwnIn
import Derived.Test.YtamebfbddoeflaaPkMath
import Derived.Test.YtamebfbddoeflaaPkErr2
import Derived.Test.YtamebfbddoeflaaPk20
namespace Go.Proofs.Ytamebfbddoeflaa
open Go.RowKit Go.Shelf Cv
set_option linter.unusedVariables false
set_option linter.unusedSimpArgs false
set_option maxRecDepth 100000

attribute [local go_sem] Oper.semAt_some

set_option maxHeartbeats 2000000 in
theorem all_stops (F : Fence) (hd : F.depth = none) (hw : F.fn 88) (h1 : F.fn 87) (hro : F.round = none) (n : Nat) (S : List Int) (hSp : Sp S) (x r : Int) (hr0 : 0 ≤ r) (hr : r ≤ 8) (ao : Option Addr) (cap Bb g : Nat) (D : Array Value) (w0 w : World) (hw0 : Below w0.heap.size w0 w)
    (hB : w.heap[Bb]? = some (.cells #[.slice ao S.length cap, .slice (some ⟨g, 0, none⟩) S.length S.length, .int .i64 r] 114 (0, 0))) (hS : Ints w0 ao S) (hG : w.heap[g]? = some (.cells D 2 (0, 0))) (hD : ∀ i, i < S.length → D[i]? = some (.int .i64 (dig S x i))) :
    SeqStopsK F n Try.prog 87 #[.pointer (some ⟨Bb, 0, none⟩)] (encW (S := S) (x := x) (r := r)) (KpB w0.heap.size g) (fun ys => Hid (ys.map Subtype.val = ballP S x r)) (fun _ => True) (ballP S x r).length w := fun l J Jx W hW hJ hJx hY h0 => by
  have hdd : ∀ k : Nat, (F.depth.isSome = true → 1 ≤ k) := fun k h => by rw [hd] at h; cases h
  have hbb := hW.block Bb (Array.getElem?_eq_some_iff.1 hB).1
  rw [hB] at hbb
  obtain ⟨b0, b1, b2⟩ := box_cells hbb
  have hgg := hW.block g (Array.getElem?_eq_some_iff.1 hG).1
  rw [hG] at hgg
  have HWB := Lib.hid (walk_ball S hSp.bd x r hr0)
  have hc := walk_in F hd hw hro l W.heap.size (ballP S x r).length w0 S hSp x r hr ao g cap S.length D hS hD (Nat.le_trans hw0.size hW.size) J Jx hJ (fun m pre p W hj hl => yield_any hd m (hY pre p W hj hl)) S.length (n - 1) 0 0 0 0 [] W (Lib.hid rfl) (by omega) (way_start S x r hr0) (hw0.trans (hW.mono hw0.size)) hgg (Nat.le_refl _) h0 (by rw [HWB.out]; simp)
  clear hB hbb hY h0 hW hJ hJx hgg hG hD
  refine callsIn_of_wp Try.func87 rfl h1 ?_ hro
  simp only [Try.ntmps87, List.size_toArray, List.length_cons, List.length_nil, Nat.reduceAdd, Nat.reduceSub, Array.replicate_succ, Array.replicate_zero, List.push_toArray, List.append_toArray, List.nil_append, List.cons_append]
  gi_wp2_with ((try refine ⟨hdd _, ?_⟩); gi_at_call 88; refine hc.mono ?_; clear hc; rintro e W' (⟨rfl, ys, HY, hJ', _⟩ | ⟨rfl, q, hx⟩))
  · go_end0
    exact ⟨⟨_, rfl⟩, .inl ⟨ys, Lib.hid (HY.out.trans HWB.out), by simpa using hJ'⟩⟩
  · go_end0
    exact ⟨⟨_, rfl⟩, .inr ⟨q, trivial, hx⟩⟩

end Go.Proofs.Ytamebfbddoeflaa

namespace Go.Proofs.Ytamebfbddoeflaa
open Go.RowKit Go.Shelf Cv
set_option linter.unusedVariables false
set_option linter.unusedSimpArgs false
set_option maxRecDepth 100000

attribute [local go_sem] Oper.semAt_some

theorem keepsT_put {t : TypeId} {W : World} {l : Nat} {o o' : Obj} (hl : W.heap[l]? = some o) (ho : o.isCells = false) : KeepsT t W (W.putObj l o') := fun i cur hi => by
  rw [World.putObj_heap_other (fun e => ?_)]
  · exact hi
  · subst e
    rw [hl] at hi
    injection hi with hi
    subst hi
    cases ho
theorem keepsAt_put {g : Nat} {W : World} {l : Nat} {o o' : Obj} (hl : W.heap[l]? = some o) (ho : o.isCells = false) : KeepsAt g W (W.putObj l o') := fun cur t hi => by
  rw [World.putObj_heap_other (fun e => ?_)]
  · exact hi
  · subst e
    rw [hl] at hi
    injection hi with hi
    subst hi
    cases ho
theorem kpB_t {n₀ g : Nat} {A B C : World} (h : KpB n₀ g A B) (k : KpB n₀ g B C) : KpB n₀ g A C := ⟨h.1.trans k.1, h.2.1.trans k.2.1, h.2.2.trans k.2.2⟩
theorem kpB_b {n₀ g : Nat} {w : World} (hn : n₀ ≤ w.heap.size) (W : World) (l : Nat) (o o' : Obj) (hl : w.heap.size ≤ l) (h : W.heap[l]? = some o) (ho : o.isCells = false) (hw : o.isWalk = false) : KpB n₀ g W (W.putObj l o') :=
  ⟨belowK_b hn W l o o' hl h ho hw, keepsT_put h ho, keepsAt_put h ho⟩

/-- the heap of a row that lies in a block -/
theorem own_heap {W : World} {base g n cap : Nat} {L : List Int} (h : OwnInts W base (.slice (some ⟨g, 0, none⟩) n cap) L) : ∃ D : Array Value, W.heap[g]? = some (.cells D 2 (0, 0)) ∧ ∀ i, i < L.length → D[i]? = some (.int .i64 (gi L i)) := by
  rcases h.2 with ⟨hv, _⟩ | ⟨g', cap', cur, hv, _, hh, _⟩
  · simp at hv
  · have e : g = g' := by simp only [Value.slice.injEq] at hv; simpa using hv.1
    subst e
    refine ⟨cur, hh, fun i hi => ?_⟩
    have := h.cell hi
    rwa [cell_of_row W g i cur 2 (0, 0) hh] at this

def seqB {S : List Int} {x r : Int} (pre : List (WP S x r)) : List Int := pre.map fun p => p.1.1
theorem seqB_snoc {S : List Int} {x r : Int} (pre : List (WP S x r)) (p : WP S x r) : seqB (pre ++ [p]) = seqB pre ++ [p.1.1] := by simp [seqB]

end Go.Proofs.Ytamebfbddoeflaa

namespace Go.Proofs.Ytamebfbddoeflaa
open Go.RowKit Go.Shelf Cv
set_option linter.unusedVariables false
set_option linter.unusedSimpArgs false

/-- marks of ranges that are over, each at a block of its own at or beyond B -/
def Marks (B : Nat) : List Deferred → World → Prop
  | [], _ => True
  | d :: ds, W => (∃ r, d.target = .collected r ∧ B ≤ r ∧ W.heap[r]? = some (.deferred (some [])) ∧ ∀ d' ∈ ds, d'.target ≠ .collected r) ∧ Marks B ds W

theorem Marks.keep {B : Nat} : ∀ {ds : List Deferred} {W W' : World}, Marks B ds W → (∀ r, B ≤ r → W.heap[r]? = some (.deferred (some [])) → (∃ d ∈ ds, d.target = .collected r) → W'.heap[r]? = some (.deferred (some []))) → Marks B ds W'
  | [], _, _, _, _ => trivial
  | d :: ds, W, W', ⟨⟨r, h1, h2, h3, h4⟩, h5⟩, hk => ⟨⟨r, h1, h2, hk r h2 h3 ⟨d, by simp, h1⟩, h4⟩, Marks.keep h5 fun r' hr hh ⟨d', hd', ht'⟩ => hk r' hr hh ⟨d', by simp [hd'], ht'⟩⟩
theorem Marks.lt {B : Nat} : ∀ {ds : List Deferred} {W : World}, Marks B ds W → ∀ d ∈ ds, ∃ r, d.target = .collected r ∧ r < W.heap.size
  | [], _, _, d, hd => by cases hd
  | d0 :: ds, W, ⟨⟨r, h1, h2, h3, h4⟩, h5⟩, d, hd => by
    rcases List.mem_cons.1 hd with rfl | hd
    · exact ⟨r, h1, (Array.getElem?_eq_some_iff.1 h3).1⟩
    · exact Marks.lt h5 d hd
/-- whatever is no cells and lies at or beyond B lies as it lay -/
theorem Marks.others {B : Nat} {ds : List Deferred} {W W' : World} (h : Marks B ds W) (k : KeepsFrom B W W') : Marks B ds W' := h.keep fun r hr hh _ => k.same r _ hr hh rfl
theorem Marks.cons {B D : Nat} {ds : List Deferred} {W : World} (h : Marks B ds W) (hD : B ≤ D) (hh : W.heap[D]? = some (.deferred (some []))) (hM : ∀ d ∈ ds, ∀ r, d.target = .collected r → r < D) : Marks B ({ target := .collected D, args := #[] } :: ds) W :=
  ⟨⟨D, rfl, hD, hh, fun d hd e => by have := hM d hd D e; omega⟩, h⟩
theorem Marks.bound {B : Nat} {ds : List Deferred} {W : World} (h : Marks B ds W) : ∀ d ∈ ds, ∀ r, d.target = .collected r → r < W.heap.size := fun d hd r hr => by
  obtain ⟨r', h1, h2⟩ := h.lt d hd
  rw [h1] at hr
  injection hr with hr
  omega

/-- what is left when the marks are taken up: only blocks that are no cells, at or beyond B, have turned -/
structure Taken (B : Nat) (W W' : World) : Prop where
  below : Below B W W'
  cells : ∀ (k : Nat) (cur : Array Value) (t : TypeId), W.heap[k]? = some (Obj.cells cur t (0, 0)) → W'.heap[k]? = some (Obj.cells cur t (0, 0))
theorem Taken.refl (B : Nat) (W : World) : Taken B W W := ⟨Below.refl _ _, fun _ _ _ h => h⟩
theorem Taken.put {B r : Nat} {W W' : World} {o o' : Obj} (h : Taken B W W') (hr : B ≤ r) (hh : W'.heap[r]? = some o) (ho : o.isCells = false) (hB : B ≤ W'.heap.size) : Taken B W (W'.putObj r o') :=
  ⟨h.below.grown (grownBy_putObj' W' r o') hB (fun k e => by cases e; exact hr), fun k cur t hk => by
    have h1 := h.cells k cur t hk
    rw [World.putObj_heap_other (fun e => ?_)]
    · exact h1
    · subst e
      rw [hh] at h1
      injection h1 with h1
      subst h1
      cases ho⟩
theorem Taken.own {B base : Nat} {W W' : World} {v : Value} {L : List Int} (h : Taken B W W') (ho : OwnInts W base v L) : OwnInts W' base v L := by
  refine ⟨ho.1, ?_⟩
  rcases ho.2 with h2 | ⟨g, cap, cur, hv, hg, hh, r⟩
  · exact .inl h2
  · exact .inr ⟨g, cap, cur, hv, hg, h.cells g cur _ hh, r⟩

end Go.Proofs.Ytamebfbddoeflaa

namespace Go.Proofs.Ytamebfbddoeflaa
open Go.RowKit Go.Shelf Cv
set_option linter.unusedVariables false
set_option linter.unusedSimpArgs false

/-- an iterator that yields the values of S, to rounds that all go on, whatever the caller keeps that bears what is no cells turned beyond its own start -/
def Gives0 {α : Type} (F : Fence) (n : Nat) (P : Program) (g : Nat) (lb : Array Value) (encs : α → Array Value) (Kp : World → World → Prop) (S : List α → Prop) (N : Nat) (w : World) : Prop :=
  ∀ (l : Nat) (J : List α → World → Prop) (W : World), Below w.heap.size w W → OwnFrom W.heap.size J →
    (∀ pre x W1, J pre W1 → pre.length < N → YieldAt F (n - 1) P l (encs x) W1 fun e W' => e = .returned (.bool true) ∧ J (pre ++ [x]) W' ∧ Kp W1 W' ∧ KeepsFrom W.heap.size W1 W') →
    J [] W → CallsIn F n P g (#[.func (.yield l) #[] #[]] ++ lb) W fun e W' => (∃ v, e = .returned v) ∧ ∃ xs, S xs ∧ J xs W'

theorem keepsFrom_below {B : Nat} {W W' : World} (h : Below W.heap.size W W') : KeepsFrom B W W' := ⟨h.size, fun k o _ hk _ => (h.block k (Array.getElem?_eq_some_iff.1 hk).1).trans hk⟩
theorem keepsFrom_mono {B B' : Nat} {W W' : World} (h : KeepsFrom B W W') (hB : B ≤ B') : KeepsFrom B' W W' := ⟨h.size, fun k o hk hh ho => h.same k o (Nat.le_trans hB hk) hh ho⟩
theorem keepsFrom_put {B l : Nat} (W : World) (o' : Obj) (hl : l < B) : KeepsFrom B W (W.putObj l o') := ⟨by simp, fun k o hk hh _ => (World.putObj_heap_other (by omega)).trans hh⟩

theorem range_gives {F : Fence} {n : Nat} {P : Program} {α : Type} {g : Operand} {ps : Array Tmp} {assign body : Code} {Q : Exit → Act → World → Prop} {a : Act} {w : World}
    (hro : F.round = none) (h1 : 1 ≤ n) {gf : Nat} {lb : Array Value} (hg : a.eval g = .func (.func gf) #[] lb) (hFg : F.fn gf) (eg : ∀ args w, (callFunc gf args).run P w = .ok (.enter gf args) w)
    {encs : α → Array Value} {Kp : World → World → Prop} {S : List α → Prop} {N : Nat} {w0 : World} (hseq : Gives0 F (n - 1) P gf lb encs Kp S N w0)
    (hKt : ∀ {A B C : World}, Kp A B → Kp B C → Kp A C) (hKg : ∀ (A B : World) (row : Option Nat), A.grownBy B row → (∀ r, row = some r → w.heap.size ≤ r ∧ ∃ o : Obj, A.heap[r]? = some o ∧ o.isCells = false) → w.heap.size ≤ A.heap.size → Kp A B) (hb0 : Below w0.heap.size w0 w) (hps : ∀ x, (encs x).size = ps.size)
    (I : List α → World → Prop) (Ia : List α × α × Act → World → Prop) (hI : OwnFrom w.heap.size I) (hIa : OwnFrom w.heap.size Ia) (h0 : I [] w)
    (hassign : ∀ (l : Nat) (pre : List α) (x : α) (W : World) (K : Act → World → Prop), I pre W → (∀ a' W', Ia (pre, x, a') W' → Below W.heap.size W W' → K a' W') →
      assign.wpIn (F.inRound l) (n - 1 - 1) P (Exit.then K (fun _ _ _ => False)) { tmps := (ps.zip (encs x)).foldl (fun t (p, v) => t.setIfInBounds p v) a.tmps, defers := [] } W)
    (hbody : ∀ (l : Nat) (pre : List α) (x : α) (a' : Act) (W : World), Ia (pre, x, a') W → pre.length < N → body.wpIn (F.inRound l) (n - 1 - 1) P (ownPostG w.heap.size Kp I (fun _ _ _ => False) (pre ++ [x]) W) a' W)
    (hdone : ∀ (D : Nat) (xs : List α) (W : World), w.heap.size ≤ D → S xs → I xs W → W.heap[D]? = some (.deferred (some [])) → Q .normal { a with defers := { target := .collected D, args := #[] } :: a.defers } W) :
    (Code.rangeFunc g ps assign body).wpIn F n P Q a w := by
  refine wpIn_rangeFunc fun fn hfn => ?_
  rw [hro]
  -- the loop's record, and the block of its rounds' deferred calls
  obtain ⟨rec, hrec⟩ : ∃ rec : LoopState → Option Code → Loop, rec = fun st pe => { state := st, pending := pe, fn, tmps := a.tmps, params := ps, assign, body, defers := w.heap.size } := ⟨_, rfl⟩
  obtain ⟨V, hV⟩ : ∃ V, (w.alloc (.deferred (some []))).alloc (.loop (rec .ready none)) = V := ⟨_, rfl⟩
  have hVs : V.heap.size = w.heap.size + 2 := by rw [← hV]; simp
  have hVb : Below w.heap.size w V := by rw [← hV]; exact ((Below.refl _ w).alloc (Nat.le_refl _) _).alloc (by simp) _
  have hVl : V.heap[w.heap.size + 1]? = some (.loop (rec .ready none)) := by
    have h := World.alloc_heap_new (w.alloc (.deferred (some []))) (.loop (rec .ready none))
    rw [World.size_alloc] at h; rw [← hV]; exact h
  have hVd : V.heap[w.heap.size]? = some (.deferred (some [])) := by
    rw [← hV]; exact (Below.heap_alloc _ _ _ (by simp)).trans (World.alloc_heap_new w _)
  have hVI : I [] V := hI _ w V none h0 ⟨hVb.os, hVb.tape, hVb.output, hVb.size, fun k hk _ => hVb.block k hk⟩ (fun r e => by cases e)
  refine ⟨w.heap.size + 1, [{ target := .collected w.heap.size, args := #[] }], V, { target := .fn (.func gf) lb, args := #[.func (.yield (w.heap.size + 1)) #[] #[]] }, V, gf, #[.func (.yield (w.heap.size + 1)) #[] #[]] ++ lb, V, ?_, ?_, ?_, ?_, fun _ => h1, ?_⟩
  · rw [← hV, hrec]; exact run_enterLoop_outer _ _ _ _ _
  · simp only [resolve, hg]; simp [go_sem]
  · intro f hf; simp [Target.leads] at hf; subst hf; exact hFg
  · simp [invoke, go_sem, eg]
  refine (hseq (w.heap.size + 1) (fun pre W => I pre W ∧ W.heap[w.heap.size + 1]? = some (.loop (rec .ready none)) ∧ W.heap[w.heap.size]? = some (.deferred (some []))) V (hb0.trans (hVb.mono hb0.size))
    (fun s A B row hs hg' hr => ⟨hI s A B row hs.1 hg' (fun r e => ⟨by have := (hr r e).1; omega, (hr r e).2⟩),
      (hg'.block _ (Array.getElem?_eq_some_iff.1 hs.2.1).1 (fun e => by have := (hr _ e.symm).1; omega)).trans hs.2.1, (hg'.block _ (Array.getElem?_eq_some_iff.1 hs.2.2).1 (fun e => by have := (hr _ e.symm).1; omega)).trans hs.2.2⟩)
    ?_ ⟨hVI, hVl, hVd⟩).mono ?_
  · -- a round
    rintro pre x W ⟨hi, hl, hd⟩ hlen
    have hlt := (Array.getElem?_eq_some_iff.1 hl).1
    have hy := run_yield (P := P) (args := encs x) hl (by rw [hrec]; exact hps x)
    rw [hrec] at hy
    refine ⟨fn, _, assign, body, hy, roundIn_of_wpIn hfn (hassign _ pre x W _ hi fun a' W' ha hB' => ?_)⟩
    have hl' : W'.heap[w.heap.size + 1]? = some (.loop (rec .ready none)) := (hB'.block _ hlt).trans hl
    have hd' : W'.heap[w.heap.size]? = some (.deferred (some [])) := (hB'.block _ (by omega)).trans hd
    have hlt' := (Array.getElem?_eq_some_iff.1 hl').1
    refine ⟨_, run_beginRound hl' (by rw [hrec]), ?_⟩
    have hl2 : (W'.putObj (w.heap.size + 1) (.loop { rec .ready none with state := .busy })).heap[w.heap.size + 1]? = some (.loop { rec .ready none with state := .busy }) := World.putObj_heap_same hlt'
    have hd2 : (W'.putObj (w.heap.size + 1) (.loop { rec .ready none with state := .busy })).heap[w.heap.size]? = some (.deferred (some [])) := (World.putObj_heap_other (by omega)).trans hd'
    have hw0 := hb0.size
    have g1 : W.grownBy W' none := ⟨hB'.os, hB'.tape, hB'.output, hB'.size, fun k hk _ => hB'.block k hk⟩
    have b2 : Kp W (W'.putObj (w.heap.size + 1) (.loop { rec .ready none with state := .busy })) := hKt (hKg _ _ none g1 (fun r e => by cases e) (by omega)) (hKg _ _ (some (w.heap.size + 1)) (grownBy_putObj' _ _ _) (fun r e => by cases e; exact ⟨by omega, _, hl', rfl⟩) (by have := hB'.size; omega))
    have k2 : KeepsFrom V.heap.size W (W'.putObj (w.heap.size + 1) (.loop { rec .ready none with state := .busy })) := (keepsFrom_below hB').trans (keepsFrom_put _ _ (by omega))
    refine wpIn_mono (hbody _ pre x a' _ (hIa _ _ _ (some (w.heap.size + 1)) ha (grownBy_putObj' _ _ _) (fun r e => by cases e; exact ⟨by omega, _, hl', rfl⟩)) hlen) ?_
    rintro e a3 W3 hp
    cases e with
    | normal =>
      obtain ⟨hk3, hb3, hi3⟩ := hp
      have hl3 := hk3.same _ _ (by omega) hl2 rfl
      have hd3 := hk3.same _ _ (Nat.le_refl _) hd2 rfl
      have he := run_endRound (P := P) none hl3
      rw [hrec] at he
      refine ⟨_, _, he, rfl, ⟨hI _ _ _ (some (w.heap.size + 1)) hi3 (grownBy_putObj' _ _ _) (fun r e => by cases e; exact ⟨by omega, _, hl3, rfl⟩), ?_, (World.putObj_heap_other (by omega)).trans hd3⟩, ?_, ?_⟩
      · rw [World.putObj_heap_same (Array.getElem?_eq_some_iff.1 hl3).1, hrec]; rfl
      · exact hKt (hKt b2 hb3) (hKg _ _ (some (w.heap.size + 1)) (grownBy_putObj' _ _ _) (fun r e => by cases e; exact ⟨by omega, _, hl3, rfl⟩) (by have := (Array.getElem?_eq_some_iff.1 hl3).1; omega))
      · exact (k2.trans (keepsFrom_mono hk3 (by omega))).trans (keepsFrom_put _ _ (by omega))
    | ret => exact hp.2.elim
    | exit id => exact hp.2.elim
    | goto t => exact hp.2.elim
    | panic ch => exact hp.elim
    | outgrown => exact hp.elim
  · -- behind the iterator
    rintro e W2 ⟨⟨v, rfl⟩, xs, hS, hi, hl, hd⟩
    have he := run_endLoop (P := P) hl (by rw [hrec]; simp)
    rw [hrec] at he
    exact ⟨none, _, he, hdone _ xs _ (Nat.le_refl _) hS (hI _ _ _ (some (w.heap.size + 1)) hi (grownBy_putObj' _ _ _) (fun r e => by cases e; exact ⟨by omega, _, hl, rfl⟩)) ((World.putObj_heap_other (by omega)).trans hd)⟩

/-- a function leaves with marks among its deferred calls: whatever bears what is no cells turned beyond B stands -/
theorem leaves_marksJ {F : Fence} {n : Nat} {P : Program} {fn : Func} {tmps : Array Value} {R : Ending → World → Prop} {B : Nat} {J : World → Prop}
    (hJ : ∀ (W : World) (r : Nat) (o o' : Obj), J W → B ≤ r → W.heap[r]? = some o → o.isCells = false → J (W.putObj r o')) (hf : ∀ W', J W' → ∃ v, (results fn tmps).run P W' = .ok v W' ∧ R (.returned v) W') :
    ∀ (ds : List Deferred) (W : World), Marks B ds W → J W → LeavesInM F n P fn tmps R ds .returning W
  | [], W, _, h => hf W h
  | d :: ds, W, ⟨⟨r, h1, h2, h3, h4⟩, h5⟩, h => by
    refine ⟨by simp, .inl ⟨r, _, h1, run_takeDeferred h3, leaves_marksJ hJ hf ds _ (h5.keep fun r' hr hh ⟨d', hd', ht'⟩ => ?_) (hJ _ _ _ _ h h2 h3 rfl)⟩⟩
    rw [World.putObj_heap_other (fun e => h4 d' hd' (by rw [ht', e]))]
    exact hh

end Go.Proofs.Ytamebfbddoeflaa
