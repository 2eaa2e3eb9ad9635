/-
  Merged texts: Giv, Set, Balls, Tgt, Covd, Sets, CntB, GrM, SetEq. Never import this beside one of them. By an AI agent.
-/
import Derived.Test.YtlhapanfegjafaaMarks
import Derived.Test.YtlhapanfegjafaaBits
import Derived.Test.YtlhapanfegjafaaMath
import Derived.Test.YtlhapanfegjafaaAppend
import Derived.Test.YtlhapanfegjafaaSpace
import Derived.Test.YtlhapanfegjafaaFam
import Derived.Deep.RegionHeld3
import Derived.StillTailTactics
import Derived.Deep.WholeRow
import Derived.Deep.Cut
import Derived.Test.YtlhapanfegjafaaSums2
import Derived.Great.BuildSlice
import Derived.Test.YtlhapanfegjafaaOnesA
import Derived.Laws.StructEq
import Derived.BigQuiet
namespace Go.Proofs.Ytlhapanfegjafaa
open Go.RowKit Go.Shelf Cv
set_option linter.unusedVariables false
set_option linter.unusedSimpArgs false

/-- an iterator that yields the values of S, to rounds that all go on, whatever the caller keeps that bears what is no cells turned beyond its own start -/
def Gives0 {α : Type} (F : Fence) (n : Nat) (P : Program) (g : Nat) (lb : Array Value) (encs : α → Array Value) (Kp : World → World → Prop) (S : List α → Prop) (N : Nat) (w : World) : Prop :=
  ∀ (l : Nat) (J : List α → World → Prop) (W : World), Below w.heap.size w W → OwnFrom W.heap.size J →
    (∀ pre x W1, J pre W1 → pre.length < N → YieldAt F (n - 1) P l (encs x) W1 fun e W' => e = .returned (.bool true) ∧ J (pre ++ [x]) W' ∧ Kp W1 W' ∧ KeepsFrom W.heap.size W1 W') →
    J [] W → CallsIn F n P g (#[.func (.yield l) #[] #[]] ++ lb) W fun e W' => (∃ v, e = .returned v) ∧ ∃ xs, S xs ∧ J xs W'

theorem keepsFrom_below {B : Nat} {W W' : World} (h : Below W.heap.size W W') : KeepsFrom B W W' := ⟨h.size, fun k o _ hk _ => (h.block k (Array.getElem?_eq_some_iff.1 hk).1).trans hk⟩
theorem keepsFrom_mono {B B' : Nat} {W W' : World} (h : KeepsFrom B W W') (hB : B ≤ B') : KeepsFrom B' W W' := ⟨h.size, fun k o hk hh ho => h.same k o (Nat.le_trans hB hk) hh ho⟩
theorem keepsFrom_put {B l : Nat} (W : World) (o' : Obj) (hl : l < B) : KeepsFrom B W (W.putObj l o') := ⟨by simp, fun k o hk hh _ => (World.putObj_heap_other (by omega)).trans hh⟩

theorem range_gives {F : Fence} {n : Nat} {P : Program} {α : Type} {g : Operand} {ps : Array Tmp} {assign body : Code} {Q : Exit → Act → World → Prop} {a : Act} {w : World}
    (hro : F.round = none) (h1 : 1 ≤ n) {gf : Nat} {lb : Array Value} (hg : a.eval g = .func (.func gf) #[] lb) (hFg : F.fn gf) (eg : ∀ args w, (callFunc gf args).run P w = .ok (.enter gf args) w)
    {encs : α → Array Value} {Kp : World → World → Prop} {S : List α → Prop} {N : Nat} {w0 : World} (hseq : Gives0 F (n - 1) P gf lb encs Kp S N w0)
    (hKt : ∀ {A B C : World}, Kp A B → Kp B C → Kp A C) (hKg : ∀ (A B : World) (row : Option Nat), A.grownBy B row → (∀ r, row = some r → w.heap.size ≤ r ∧ ∃ o : Obj, A.heap[r]? = some o ∧ o.isCells = false) → w.heap.size ≤ A.heap.size → Kp A B) (hb0 : Below w0.heap.size w0 w) (hps : ∀ x, (encs x).size = ps.size)
    (I : List α → World → Prop) (Ia : List α × α × Act → World → Prop) (hI : OwnFrom w.heap.size I) (hIa : OwnFrom w.heap.size Ia) (h0 : I [] w)
    (hassign : ∀ (l : Nat) (pre : List α) (x : α) (W : World) (K : Act → World → Prop), I pre W → (∀ a' W', Ia (pre, x, a') W' → Below W.heap.size W W' → K a' W') →
      assign.wpIn (F.inRound l) (n - 1 - 1) P (Exit.then K (fun _ _ _ => False)) { tmps := (ps.zip (encs x)).foldl (fun t (p, v) => t.setIfInBounds p v) a.tmps, defers := [] } W)
    (hbody : ∀ (l : Nat) (pre : List α) (x : α) (a' : Act) (W : World), Ia (pre, x, a') W → pre.length < N → body.wpIn (F.inRound l) (n - 1 - 1) P (ownPostG w.heap.size Kp I (fun _ _ _ => False) (pre ++ [x]) W) a' W)
    (hdone : ∀ (D : Nat) (xs : List α) (W : World), w.heap.size ≤ D → S xs → I xs W → W.heap[D]? = some (.deferred (some [])) → Q .normal { a with defers := { target := .collected D, args := #[] } :: a.defers } W) :
    (Code.rangeFunc g ps assign body).wpIn F n P Q a w := by
  refine wpIn_rangeFunc fun fn hfn => ?_
  rw [hro]
  -- the loop's record, and the block of its rounds' deferred calls
  obtain ⟨rec, hrec⟩ : ∃ rec : LoopState → Option Code → Loop, rec = fun st pe => { state := st, pending := pe, fn, tmps := a.tmps, params := ps, assign, body, defers := w.heap.size } := ⟨_, rfl⟩
  obtain ⟨V, hV⟩ : ∃ V, (w.alloc (.deferred (some []))).alloc (.loop (rec .ready none)) = V := ⟨_, rfl⟩
  have hVs : V.heap.size = w.heap.size + 2 := by rw [← hV]; simp
  have hVb : Below w.heap.size w V := by rw [← hV]; exact ((Below.refl _ w).alloc (Nat.le_refl _) _).alloc (by simp) _
  have hVl : V.heap[w.heap.size + 1]? = some (.loop (rec .ready none)) := by
    have h := World.alloc_heap_new (w.alloc (.deferred (some []))) (.loop (rec .ready none))
    rw [World.size_alloc] at h; rw [← hV]; exact h
  have hVd : V.heap[w.heap.size]? = some (.deferred (some [])) := by
    rw [← hV]; exact (Below.heap_alloc _ _ _ (by simp)).trans (World.alloc_heap_new w _)
  have hVI : I [] V := hI _ w V none h0 ⟨hVb.os, hVb.tape, hVb.output, hVb.size, fun k hk _ => hVb.block k hk⟩ (fun r e => by cases e)
  refine ⟨w.heap.size + 1, [{ target := .collected w.heap.size, args := #[] }], V, { target := .fn (.func gf) lb, args := #[.func (.yield (w.heap.size + 1)) #[] #[]] }, V, gf, #[.func (.yield (w.heap.size + 1)) #[] #[]] ++ lb, V, ?_, ?_, ?_, ?_, fun _ => h1, ?_⟩
  · rw [← hV, hrec]; exact run_enterLoop_outer _ _ _ _ _
  · simp only [resolve, hg]; simp [go_sem]
  · intro f hf; simp [Target.leads] at hf; subst hf; exact hFg
  · simp [invoke, go_sem, eg]
  refine (hseq (w.heap.size + 1) (fun pre W => I pre W ∧ W.heap[w.heap.size + 1]? = some (.loop (rec .ready none)) ∧ W.heap[w.heap.size]? = some (.deferred (some []))) V (hb0.trans (hVb.mono hb0.size))
    (fun s A B row hs hg' hr => ⟨hI s A B row hs.1 hg' (fun r e => ⟨by have := (hr r e).1; omega, (hr r e).2⟩),
      (hg'.block _ (Array.getElem?_eq_some_iff.1 hs.2.1).1 (fun e => by have := (hr _ e.symm).1; omega)).trans hs.2.1, (hg'.block _ (Array.getElem?_eq_some_iff.1 hs.2.2).1 (fun e => by have := (hr _ e.symm).1; omega)).trans hs.2.2⟩)
    ?_ ⟨hVI, hVl, hVd⟩).mono ?_
  · -- a round
    rintro pre x W ⟨hi, hl, hd⟩ hlen
    have hlt := (Array.getElem?_eq_some_iff.1 hl).1
    have hy := run_yield (P := P) (args := encs x) hl (by rw [hrec]; exact hps x)
    rw [hrec] at hy
    refine ⟨fn, _, assign, body, hy, roundIn_of_wpIn hfn (hassign _ pre x W _ hi fun a' W' ha hB' => ?_)⟩
    have hl' : W'.heap[w.heap.size + 1]? = some (.loop (rec .ready none)) := (hB'.block _ hlt).trans hl
    have hd' : W'.heap[w.heap.size]? = some (.deferred (some [])) := (hB'.block _ (by omega)).trans hd
    have hlt' := (Array.getElem?_eq_some_iff.1 hl').1
    refine ⟨_, run_beginRound hl' (by rw [hrec]), ?_⟩
    have hl2 : (W'.putObj (w.heap.size + 1) (.loop { rec .ready none with state := .busy })).heap[w.heap.size + 1]? = some (.loop { rec .ready none with state := .busy }) := World.putObj_heap_same hlt'
    have hd2 : (W'.putObj (w.heap.size + 1) (.loop { rec .ready none with state := .busy })).heap[w.heap.size]? = some (.deferred (some [])) := (World.putObj_heap_other (by omega)).trans hd'
    have hw0 := hb0.size
    have g1 : W.grownBy W' none := ⟨hB'.os, hB'.tape, hB'.output, hB'.size, fun k hk _ => hB'.block k hk⟩
    have b2 : Kp W (W'.putObj (w.heap.size + 1) (.loop { rec .ready none with state := .busy })) := hKt (hKg _ _ none g1 (fun r e => by cases e) (by omega)) (hKg _ _ (some (w.heap.size + 1)) (grownBy_putObj' _ _ _) (fun r e => by cases e; exact ⟨by omega, _, hl', rfl⟩) (by have := hB'.size; omega))
    have k2 : KeepsFrom V.heap.size W (W'.putObj (w.heap.size + 1) (.loop { rec .ready none with state := .busy })) := (keepsFrom_below hB').trans (keepsFrom_put _ _ (by omega))
    refine wpIn_mono (hbody _ pre x a' _ (hIa _ _ _ (some (w.heap.size + 1)) ha (grownBy_putObj' _ _ _) (fun r e => by cases e; exact ⟨by omega, _, hl', rfl⟩)) hlen) ?_
    rintro e a3 W3 hp
    cases e with
    | normal =>
      obtain ⟨hk3, hb3, hi3⟩ := hp
      have hl3 := hk3.same _ _ (by omega) hl2 rfl
      have hd3 := hk3.same _ _ (Nat.le_refl _) hd2 rfl
      have he := run_endRound (P := P) none hl3
      rw [hrec] at he
      refine ⟨_, _, he, rfl, ⟨hI _ _ _ (some (w.heap.size + 1)) hi3 (grownBy_putObj' _ _ _) (fun r e => by cases e; exact ⟨by omega, _, hl3, rfl⟩), ?_, (World.putObj_heap_other (by omega)).trans hd3⟩, ?_, ?_⟩
      · rw [World.putObj_heap_same (Array.getElem?_eq_some_iff.1 hl3).1, hrec]; rfl
      · exact hKt (hKt b2 hb3) (hKg _ _ (some (w.heap.size + 1)) (grownBy_putObj' _ _ _) (fun r e => by cases e; exact ⟨by omega, _, hl3, rfl⟩) (by have := (Array.getElem?_eq_some_iff.1 hl3).1; omega))
      · exact (k2.trans (keepsFrom_mono hk3 (by omega))).trans (keepsFrom_put _ _ (by omega))
    | ret => exact hp.2.elim
    | exit id => exact hp.2.elim
    | goto t => exact hp.2.elim
    | panic ch => exact hp.elim
    | outgrown => exact hp.elim
  · -- behind the iterator
    rintro e W2 ⟨⟨v, rfl⟩, xs, hS, hi, hl, hd⟩
    have he := run_endLoop (P := P) hl (by rw [hrec]; simp)
    rw [hrec] at he
    exact ⟨none, _, he, hdone _ xs _ (Nat.le_refl _) hS (hI _ _ _ (some (w.heap.size + 1)) hi (grownBy_putObj' _ _ _) (fun r e => by cases e; exact ⟨by omega, _, hl, rfl⟩)) ((World.putObj_heap_other (by omega)).trans hd)⟩

/-- a function leaves with marks among its deferred calls: whatever bears what is no cells turned beyond B stands -/
theorem leaves_marksJ {F : Fence} {n : Nat} {P : Program} {fn : Func} {tmps : Array Value} {R : Ending → World → Prop} {B : Nat} {J : World → Prop}
    (hJ : ∀ (W : World) (r : Nat) (o o' : Obj), J W → B ≤ r → W.heap[r]? = some o → o.isCells = false → J (W.putObj r o')) (hf : ∀ W', J W' → ∃ v, (results fn tmps).run P W' = .ok v W' ∧ R (.returned v) W') :
    ∀ (ds : List Deferred) (W : World), Marks B ds W → J W → LeavesInM F n P fn tmps R ds .returning W
  | [], W, _, h => hf W h
  | d :: ds, W, ⟨⟨r, h1, h2, h3, h4⟩, h5⟩, h => by
    refine ⟨by simp, .inl ⟨r, _, h1, run_takeDeferred h3, leaves_marksJ hJ hf ds _ (h5.keep fun r' hr hh ⟨d', hd', ht'⟩ => ?_) (hJ _ _ _ _ h h2 h3 rfl)⟩⟩
    rw [World.putObj_heap_other (fun e => h4 d' hd' (by rw [ht', e]))]
    exact hh

end Go.Proofs.Ytlhapanfegjafaa

namespace Go.Proofs.Ytlhapanfegjafaa
open Go.RowKit Cv
set_option linter.unusedVariables false
set_option linter.unusedSimpArgs false
set_option maxRecDepth 100000

/-- the set p as a value -/
def setA (p : Nat → Bool) : Array Value := ((partsL p).map (Value.int .u64)).toArray
theorem setA_size (p : Nat → Bool) : (setA p).size = 16 := by simp [setA, partsL]
theorem setA_get (p : Nat → Bool) (k : Nat) (h : k < 16) : (setA p)[k]? = some (.int .u64 (partN p k)) := by simp [setA, partsL, h]
/-- the set p lies in the block b -/
def RowAt (w : World) (b : Nat) (p : Nat → Bool) : Prop := w.heap[b]? = some (.cells (setA p) 60 (0, 0))
theorem setA_ext {p q : Nat → Bool} (h : ∀ u, u < 1024 → p u = q u) : setA p = setA q := by unfold setA; rw [partsL_ext h]
theorem partN_none (k : Nat) : partN (fun _ => false) k = 0 := by
  have h : ∀ n, ofB (fun _ => false) k n = 0 := by intro n; induction n with
    | zero => rfl
    | succ n ih => rw [ofB, ih]; simp
  exact h 64
theorem setA_none : setA (fun _ => false) = #[.int .u64 0, .int .u64 0, .int .u64 0, .int .u64 0, .int .u64 0, .int .u64 0, .int .u64 0, .int .u64 0, .int .u64 0, .int .u64 0, .int .u64 0, .int .u64 0, .int .u64 0, .int .u64 0, .int .u64 0, .int .u64 0] := by
  unfold setA partsL
  simp only [partN_none]
  rfl
theorem RowAt.lt {w : World} {b : Nat} {p : Nat → Bool} (h : RowAt w b p) : b < w.heap.size := (Array.getElem?_eq_some_iff.1 h).1
theorem RowAt.cell {w : World} {b : Nat} {p : Nat → Bool} (h : RowAt w b p) (k : Nat) (hk : k < 16) : w.cell? ⟨b, k, none⟩ = some (.int .u64 (partN p k)) := by
  rw [cell_of_row w b k _ _ _ h, setA_get p k hk]
theorem RowAt.free {w : World} {b : Nat} {p : Nat → Bool} (h : RowAt w b p) (k : Nat) : w.frozen? ⟨b, k, none⟩ = false := by
  have h' : w.heap[b]? = some (.cells (setA p) 60 (0, 0)) := h
  simp [World.frozen?, h']
theorem RowAt.below {w w' : World} {b : Nat} {p : Nat → Bool} (h : RowAt w b p) {n : Nat} (hb : Below n w w') (hn : b < n) : RowAt w' b p := by
  unfold RowAt; rw [hb.block b hn]; exact h
theorem RowAt.kept {w w' : World} {b c : Nat} {p : Nat → Bool} (h : RowAt w b p) (hg : w.grownBy w' (some c)) (hn : b ≠ c) : RowAt w' b p := by
  obtain ⟨_, _, _, _, hg5⟩ := hg
  unfold RowAt; rw [hg5 b h.lt (by simpa using hn)]; exact h
theorem row_new (w : World) (p : Nat → Bool) : RowAt (w.alloc (.cells (setA p) 60)) w.heap.size p := heap_alloc_last w _
theorem rowz_new (w : World) {n : Nat} (hn : n = w.heap.size) : RowAt (w.alloc (.cells #[.int .u64 0, .int .u64 0, .int .u64 0, .int .u64 0, .int .u64 0, .int .u64 0, .int .u64 0, .int .u64 0, .int .u64 0, .int .u64 0, .int .u64 0, .int .u64 0, .int .u64 0, .int .u64 0, .int .u64 0, .int .u64 0] 60)) n (fun _ => false) := by
  subst hn; unfold RowAt; rw [setA_none]; exact heap_alloc_last w _
theorem rown_new (w : World) (p : Nat → Bool) {n : Nat} (hn : n = w.heap.size) : RowAt (w.alloc (.cells (setA p) 60)) n p := by subst hn; exact row_new w p
theorem RowAt.alloc {w : World} {b : Nat} {p : Nat → Bool} (h : RowAt w b p) (o : Obj) : RowAt (w.alloc o) b p := h.below ((Below.refl w.heap.size w).alloc (Nat.le_refl _) o) h.lt
theorem info81 : (Try.prog.info? 60).map (·.size) = some 16 := by kernel_rfl
theorem ld16 {w : World} {b : Nat} {p : Nat → Bool} (h : RowAt w b p) : (loadCellsFrom ⟨b, 0, none⟩ 0 16 #[]).run Try.prog w = .ok (setA p) w := by
  have := run_loadCells_list (P := Try.prog) w ⟨b, 0, none⟩ (setA p).toList (fun j v hv => by
    have hadd : (⟨b, 0, none⟩ : Addr).add j = ⟨b, j, none⟩ := by unfold Addr.add; split <;> simp_all
    rw [hadd, cell_of_row w b j _ _ _ h]
    simpa using hv)
  simpa [loadCells, setA_size] using this
theorem ldVar {w : World} {b : Nat} {p : Nat → Bool} (h : RowAt w b p) : (loadVar 60 ⟨b, 0, none⟩).run Try.prog w = .ok (.agg (setA p)) w :=
  run_loadVar_row w b _ _ _ _ _ h Try.underlying60 rfl (by rw [setA_size]; exact info81)
theorem setA_one (p : Nat → Bool) : (setA p).all (·.oneCell') = true := by
  unfold setA partsL
  simp [Value.oneCell']
theorem stVar {w : World} {b : Nat} {p q : Nat → Bool} (h : RowAt w b p) : (storeVar 60 ⟨b, 0, none⟩ (.agg (setA q))).run Try.prog w = .ok () (w.setRow b (setA q)) :=
  run_storeVar_row w b _ _ _ _ h (by rw [setA_size]; exact info81) (by rw [setA_size, setA_size]) (setA_one q)
theorem st16 {w : World} {b : Nat} {p q : Nat → Bool} (h : RowAt w b p) : (storeCells ⟨b, 0, none⟩ (setA q).toList 0).run Try.prog w = .ok () (w.setRow b (setA q)) := by
  have := stVar (q := q) h
  cases hq : Try.prog.info? 60 with
  | none => have := info81; simp [hq] at this
  | some i =>
    have hs : (setA q).size = i.size := by have := info81; simp [hq] at this; rw [setA_size]; omega
    simpa [storeVar, sizeOf, typeInfo, hq, Value.cells, hs] using this
theorem row_set {w : World} {b : Nat} {p q : Nat → Bool} (h : RowAt w b p) : RowAt (w.setRow b (setA q)) b q := setRow_heap w b _ _ _ _ h
theorem grown_setRow {w : World} {b : Nat} (q : Array Value) : w.grownBy (w.setRow b q) (some b) :=
  ⟨rfl, rfl, rfl, by simp, fun i hi hne => setRow_other w b i q (by simpa using hne)⟩
theorem wpList_ld16 {ops : Array Oper} {rest : List Oper} {o : Oper} {a : Act} {w : World} {Q : Exit → Act → World → Prop} (hgd : o.guard = none) (x : Operand) (ho : o.op = .load 60 x) {b : Nat} {p : Nat → Bool}
    (hr : RowAt w b p) (hx : a.eval x = .pointer (some ⟨b, 0, none⟩)) (h : wpList Try.prog ops Q rest (a.put o.dst (.agg (setA p))) w) : wpList Try.prog ops Q (o :: rest) a w :=
  wpList_load_row hgd _ x ho b hx _ _ _ _ hr Try.underlying60 rfl (by rw [setA_size]; exact info81) h
theorem wpList_st16 {ops : Array Oper} {rest : List Oper} {o : Oper} {a : Act} {w : World} {Q : Exit → Act → World → Prop} (hgd : o.guard = none) (x y : Operand) (ho : o.op = .store 60 x y) {b : Nat} {p : Nat → Bool}
    (hr : RowAt w b p) (q : Nat → Bool) (hx : a.eval x = .pointer (some ⟨b, 0, none⟩)) (hy : a.eval y = .agg (setA q)) (h : wpList Try.prog ops Q rest (a.put o.dst undef) (w.setRow b (setA q))) : wpList Try.prog ops Q (o :: rest) a w :=
  wpList_store_row hgd _ x y ho b (setA q) hx hy _ _ hr (by rw [setA_size]; exact info81) (by rw [setA_size, setA_size]) (setA_one q) h
theorem results16 {fn : Func} {t : Tmp} (h : fn.results = #[.cell t 60]) (tmps : Array Value) {w : World} {b : Nat} {p : Nat → Bool} (hr : RowAt w b p) (hp : tmps.getD t undef = .pointer (some ⟨b, 0, none⟩)) :
    (results fn tmps).run Try.prog w = .ok (.agg (setA p)) w :=
  results_cell_row h tmps w b _ _ _ _ hp hr Try.underlying60 rfl (by rw [setA_size]; exact info81)
theorem part_has (p : Nat → Bool) (u : Nat) (hu : u < 1024) : (bits BinOp.and IntKind.u64 ((partN p (u / 64) : Int) / 2 ^ (u % 64)) 1 == 1) = p u := by
  have hb := partN_lt p (u / 64)
  have e0 : ((partN p (u / 64) : Int) / 2 ^ (u % 64)) = ((partN p (u / 64) / 2 ^ (u % 64) : Nat) : Int) := by push_cast; rfl
  have hlt : partN p (u / 64) / 2 ^ (u % 64) < 18446744073709551616 := Nat.lt_of_le_of_lt (Nat.div_le_self _ _) hb
  have e1 : partN p (u / 64) / 2 ^ (u % 64) % 2 = (if p u = true then 1 else 0) := by
    have h := partN_bit p (u / 64) (u % 64) (by omega)
    rw [show 64 * (u / 64) + u % 64 = u by omega, Nat.testBit_eq_decide_div_mod_eq] at h
    by_cases hp : p u = true
    · rw [if_pos hp]; rw [hp] at h; simpa using h
    · rw [if_neg hp]; simp only [Bool.not_eq_true] at hp; rw [hp] at h
      have := Nat.mod_lt (partN p (u / 64) / 2 ^ (u % 64)) (show 0 < 2 by decide)
      simp at h; omega
  unfold bits
  have e2 : ((BitVec.ofInt IntKind.u64.bits ((partN p (u / 64) : Int) / 2 ^ (u % 64))) &&& (BitVec.ofInt IntKind.u64.bits 1)).toNat = partN p (u / 64) / 2 ^ (u % 64) % 2 := by
    rw [e0, BitVec.toNat_and]
    show (BitVec.ofInt 64 ((partN p (u / 64) / 2 ^ (u % 64) : Nat) : Int)).toNat &&& (BitVec.ofInt 64 1).toNat = _
    rw [bv_nat _ hlt, show (BitVec.ofInt 64 1).toNat = 1 from rfl, Nat.and_one_is_mod]
  show (IntKind.u64.wrap (((BitVec.ofInt IntKind.u64.bits ((partN p (u / 64) : Int) / 2 ^ (u % 64))) &&& (BitVec.ofInt IntKind.u64.bits 1)).toNat : Int) == 1) = p u
  rw [e2, e1]
  by_cases hp : p u = true
  · rw [if_pos hp, hp]; rfl
  · rw [if_neg hp]; simp only [Bool.not_eq_true] at hp; rw [hp]; rfl
theorem part_put1 (p : Nat → Bool) (u : Nat) : bits BinOp.or IntKind.u64 ((partN p (u / 64) : Int)) (IntKind.u64.wrap (2 ^ (u % 64))) = (partN (putB p u) (u / 64) : Int) := by
  have h1 := part_one u
  rw [Int.one_mul] at h1
  rw [h1]
  exact part_or p (fun v => decide (v = u)) (u / 64)
theorem setA_put (p : Nat → Bool) (u : Nat) (hu : u < 1024) : (setA p).setIfInBounds (u / 64) (.int .u64 (partN (putB p u) (u / 64))) = setA (putB p u) := by
  apply Array.ext_getElem?
  intro k
  rw [Array.getElem?_setIfInBounds]
  by_cases hk : k < 16
  · rw [setA_get _ k hk, setA_get _ k hk]
    by_cases e : u / 64 = k
    · subst e; simp [setA_size, hk]
    · rw [if_neg e, part_put_other p u k (Ne.symm e)]
  · have h1 : (setA p)[k]? = none := by simp [setA_size]; omega
    have h2 : (setA (putB p u))[k]? = none := by simp [setA_size]; omega
    rw [h1, h2]; simp [setA_size]; omega
theorem row_put {w : World} {b : Nat} {p : Nat → Bool} (h : RowAt w b p) (u : Nat) (hu : u < 1024) :
    RowAt (w.setCell ⟨b, u / 64, none⟩ (.int .u64 (partN (putB p u) (u / 64)))) b (putB p u) := by
  unfold RowAt
  rw [heap_setCell_same w b _ _ _ _ h, setA_put p u hu]
theorem put_any (b : Nat) (p : Nat → Bool) (u : Nat) (hu : u < 1024) (w : World) (h : RowAt w b p) :
    Calls Try.prog 63 #[.pointer (some ⟨b, 0, none⟩), .int .i64 u] w fun e w' => e = .returned (.tuple #[]) ∧ RowAt w' b (putB p u) ∧ w.grownBy w' (some b) := by
  have H0 := Lib.hid h
  have hc := h.cell (u / 64) (by omega)
  have hf := h.free (u / 64)
  clear h
  have hc' : w.drew.cell? ⟨b, u / 64, none⟩ = some (.int .u64 (partN p (u / 64))) := hc
  have hf' : w.drew.frozen? ⟨b, u / 64, none⟩ = false := hf
  have w1 : IntKind.i64.wrap ((u : Int) / 64) = (u : Int) / 64 := IntWalk.i64_in _ ⟨by omega, by omega⟩
  have w2 : IntKind.i64.wrap ((u : Int) % 64) = (u : Int) % 64 := IntWalk.i64_in _ ⟨by omega, by omega⟩
  go_enter Try.func63, Try.ntmps63
  go_region
  all_goals (go_wp2; go_end0)
  refine ⟨rfl, ?_, ?_⟩
  · rw [part_put1 p u]
    exact row_put H0.out u hu
  · exact grown_setCell (⟨rfl, rfl, rfl, Nat.le_refl _, fun _ _ _ => rfl⟩ : w.grownBy w.drew (some b)) _ _

/-- the words among the first k of a list, as a set -/
def setTo (T : List Int) : Nat → Nat → Bool
  | 0 => fun _ => false
  | k + 1 => putB (setTo T k) (gi T k).toNat
theorem setTo_in (T : List Int) (hT : ∀ i, i < T.length → 0 ≤ gi T i) (k : Nat) (hk : k ≤ T.length) (u : Nat) : setTo T k u = decide (∃ i, i < k ∧ gi T i = (u : Int)) := by
  induction k with
  | zero => simp [setTo]
  | succ k ih =>
    rw [setTo, putB, ih (by omega), Bool.eq_iff_iff]
    simp only [Bool.or_eq_true, decide_eq_true_eq]
    have h0 := hT k (by omega)
    constructor
    · rintro (⟨i, hi, e⟩ | h)
      · exact ⟨i, by omega, e⟩
      · exact ⟨k, by omega, by omega⟩
    · rintro ⟨i, hi, e⟩
      by_cases e2 : i = k
      · subst e2; exact .inr (by omega)
      · exact .inl ⟨i, by omega, e⟩
theorem setTo_all (T : List Int) (hT : ∀ i, i < T.length → 0 ≤ gi T i) (u : Nat) : setTo T T.length u = inL T u := by
  rw [setTo_in T hT _ (Nat.le_refl _), inL, Bool.eq_iff_iff]
  simp only [decide_eq_true_eq]
  constructor
  · rintro ⟨i, hi, e⟩; exact e ▸ gi_mem hi
  · intro h; obtain ⟨i, hi, e⟩ := mem_gi h; exact ⟨i, hi, e⟩

theorem idx16 (q : Nat → Bool) (k : Nat) (hk : k < 16) (w : World) : Sem.run Try.prog (Instr.index 60 (.agg (setA q)) (.int .i64 (k : Int))) w = .ok (.int .u64 (partN q k)) w := by
  have hA := setA_get q k hk
  have h1 : (0 : Int) ≤ (k : Int) := by omega
  have h2 : (k : Int) < (16 : Nat) := by omega
  simp [go_sem, Instr.index, part, hA, h1, h2, Try.underlying60, Try.isAgg58, Try.sizeOf58]
  intro h; omega
/-- a set with the first k parts of another one -/
def mixP (p q : Nat → Bool) (k : Nat) : Nat → Bool := fun u => if u / 64 < k then p u || q u else p u
theorem mixP_at (p q : Nat → Bool) (k : Nat) : partN (mixP p q k) k = partN p k := partN_ext _ _ _ fun b hb => by
  unfold mixP; rw [if_neg (by omega)]
theorem mixP_set (p q : Nat → Bool) (k : Nat) (hk : k < 16) : (setA (mixP p q k)).setIfInBounds k (.int .u64 (partN (fun u => p u || q u) k)) = setA (mixP p q (k + 1)) := by
  apply Array.ext_getElem?
  intro j
  rw [Array.getElem?_setIfInBounds]
  by_cases hj : j < 16
  · rw [setA_get _ j hj, setA_get _ j hj]
    by_cases e : k = j
    · subst e
      rw [if_pos rfl, if_pos (by rw [setA_size]; exact hk)]
      congr 2
      have : partN (mixP p q (k + 1)) k = partN (fun u => p u || q u) k := partN_ext _ _ _ fun b hb => by unfold mixP; rw [if_pos (by omega)]
      rw [this]
    · rw [if_neg e]
      congr 2
      have : partN (mixP p q (k + 1)) j = partN (mixP p q k) j := partN_ext _ _ _ fun b hb => by
        unfold mixP
        by_cases h : (64 * j + b) / 64 < k
        · rw [if_pos h, if_pos (by omega)]
        · rw [if_neg h, if_neg (by omega)]
      rw [this]
  · have h1 : (setA (mixP p q k))[j]? = none := by simp [setA_size]; omega
    have h2 : (setA (mixP p q (k + 1)))[j]? = none := by simp [setA_size]; omega
    rw [h1, h2]; simp [setA_size]; omega
theorem row_mix {w : World} {b : Nat} {p q : Nat → Bool} {k : Nat} (hk : k < 16) (h : RowAt w b (mixP p q k)) :
    RowAt (w.setCell ⟨b, k, none⟩ (.int .u64 (partN (fun u => p u || q u) k))) b (mixP p q (k + 1)) := by
  unfold RowAt
  rw [heap_setCell_same w b _ _ _ _ h, mixP_set p q k hk]
theorem mixP_zero (p q : Nat → Bool) : mixP p q 0 = p := by funext u; simp [mixP]
theorem mixP_all (p q : Nat → Bool) : setA (mixP p q 16) = setA (fun u => p u || q u) := setA_ext fun u hu => by unfold mixP; rw [if_pos (by omega)]

theorem with_any (p q : Nat → Bool) (w : World) :
    Calls Try.prog 68 #[.agg (setA p), .agg (setA q)] w fun e w' => e = .returned (.agg (setA fun u => p u || q u)) ∧ Below w.heap.size w w' := by
  have hy := (rown_new (w.alloc (.cells (setA p) 60)) q (n := w.heap.size + 1) (by simp)).alloc (.cells #[.int .u64 0, .int .u64 0, .int .u64 0, .int .u64 0, .int .u64 0, .int .u64 0, .int .u64 0, .int .u64 0, .int .u64 0, .int .u64 0, .int .u64 0, .int .u64 0, .int .u64 0, .int .u64 0, .int .u64 0, .int .u64 0] 60)
  have hx := ((row_new w p).alloc (.cells (setA q) 60)).alloc (.cells #[.int .u64 0, .int .u64 0, .int .u64 0, .int .u64 0, .int .u64 0, .int .u64 0, .int .u64 0, .int .u64 0, .int .u64 0, .int .u64 0, .int .u64 0, .int .u64 0, .int .u64 0, .int .u64 0, .int .u64 0, .int .u64 0] 60)
  have hz := rowz_new ((w.alloc (.cells (setA p) 60)).alloc (.cells (setA q) 60)) (n := w.heap.size + 1 + 1) (by simp)
  go_enter Try.func68, Try.ntmps68
  go_wp2_with (first | (refine wpList_ld16 rfl _ rfl hy rfl ?_))
  go_loopw [8] (fun i wr => ∃ k : Nat, k ≤ 16 ∧ i = .int .i64 k ∧ RowAt wr w.heap.size (mixP p q k) ∧ (∃ q0, RowAt wr (w.heap.size + 1 + 1) q0) ∧ Below w.heap.size w wr) (fun i _ => 16 - (intOf i).toNat)
  case atStart => exact ⟨0, by omega, rfl, by rw [mixP_zero]; exact hx, ⟨_, hz⟩, by go_grown⟩
  case round =>
    obtain ⟨k, hk, rfl, hr, ⟨q0, hq0⟩, B⟩ := hrel
    by_cases hlt : k < 16
    · have hcx := hr.cell k hlt
      have hfx := hr.free k
      rw [mixP_at] at hcx
      have hA := setA_get q k hlt
      have hO : bits BinOp.or IntKind.u64 (partN p k : Int) (partN q k : Int) = (partN (fun u => p u || q u) k : Int) := part_or p q k
      have hI := idx16 q k hlt wr
      have hs := B.size
      have HR : Hid _ := Lib.hid (row_mix hlt hr)
      clear hx hy hz hA
      go_wp2_with fail
      go_roundw
      case rel => exact ⟨k + 1, by omega, by go_num, HR.out, ⟨q0, hq0.kept (grown_setCell (⟨rfl, rfl, rfl, Nat.le_refl _, fun _ _ _ => rfl⟩ : wr.grownBy wr (some w.heap.size)) _ _) (by omega)⟩, B.setCell (by simp) _⟩
      case measure => simp [intOf]; omega
    · have ek : Hid (k = 16) := Lib.hid (by omega)
      go_wp2_with (first | (refine wpList_ld16 rfl _ rfl hr rfl ?_) | (refine wpList_st16 rfl _ _ rfl hq0 (mixP p q k) rfl rfl ?_))
      (try simp only [Exit.inBlock, Exit.then])
      refine bodyPost_ret (results16 rfl _ (row_set hq0) rfl) rfl ?_
      exact ⟨by rw [ek.out, mixP_all], B.grown (grown_setRow _) B.size fun j hj => by cases hj; omega⟩

theorem wp_ld16 {o : Oper} {a : Act} {w : World} {K : Act → World → Prop} {Q : Exit → Act → World → Prop} (x : Operand) (ho : o.op = .load 60 x) {b : Nat} {p : Nat → Bool} (hr : RowAt w b p) (hx : a.eval x = .pointer (some ⟨b, 0, none⟩)) (h : K (a.put o.dst (.agg (setA p))) w) : o.wp Try.prog a w K Q :=
  wp_load_row _ x ho b hx _ _ _ _ hr Try.underlying60 rfl (by rw [setA_size]; exact info81) h
theorem wp_st16 {o : Oper} {a : Act} {w : World} {K : Act → World → Prop} {Q : Exit → Act → World → Prop} (x y : Operand) (ho : o.op = .store 60 x y) {b : Nat} {p : Nat → Bool} (hr : RowAt w b p) (q : Nat → Bool) (hx : a.eval x = .pointer (some ⟨b, 0, none⟩)) (hy : a.eval y = .agg (setA q)) (h : K (a.put o.dst undef) (w.setRow b (setA q))) : o.wp Try.prog a w K Q :=
  wp_store_row _ x y ho b (setA q) hx hy _ _ hr (by rw [setA_size]; exact info81) (by rw [setA_size, setA_size]) (setA_one q) h

/-- what a list of numbers owns is no set -/
theorem own_not_set {w : World} {base b : Nat} {v : Value} {L : List Int} {p : Nat → Bool} (h : OwnInts w base v L) (hr : RowAt w b p) : v.ownBlock ≠ some b := fun e => by
  rcases h.2 with ⟨rfl, _⟩ | ⟨g, cap, cur, rfl, _, hgb, _⟩
  · simp [Value.ownBlock] at e
  · have e2 : g = b := by simpa [Value.ownBlock] using e
    subst e2
    have hr' : w.heap[g]? = some (.cells (setA p) 60 (0, 0)) := hr
    rw [hr'] at hgb
    injection hgb with hgb
    injection hgb with _ hgb _
    exact absurd hgb (by decide)
theorem exec_ldRow {a : Act} {w : World} {b : Nat} {p : Nat → Bool} (hr : RowAt w b p) (o : Oper) (x : Operand) (ho : o.op = .load 60 x) (hx : a.eval x = .pointer (some ⟨b, 0, none⟩)) : (execOp a.eval o).run Try.prog w = .ok (.value (.agg (setA p))) w := by
  unfold execOp
  simp only [ho, hx, Instr.loadAt, Instr.sureAddr, Sem.run_bind, Sem.run_pure, Result.andThen_ok, ldVar hr]

end Go.Proofs.Ytlhapanfegjafaa

namespace Go.Proofs.Ytlhapanfegjafaa
open Go.RowKit Go.Shelf Cv
set_option linter.unusedVariables false
set_option linter.unusedSimpArgs false
set_option maxRecDepth 100000

attribute [local go_sem] Oper.semAt_some

/-- a load, a store of a set in a fence -/
theorem wpListIn_ld16 {F : Fence} {n : Nat} {ops : Array Oper} {rest : List Oper} {o : Oper} {a : Act} {w : World} {Q : Exit → Act → World → Prop} (hgd : o.guard = none) (x : Operand) (ho : o.op = .load 60 x) {b : Nat} {p : Nat → Bool}
    (hr : RowAt w b p) (hx : a.eval x = .pointer (some ⟨b, 0, none⟩)) (h : wpListIn F n Try.prog ops Q rest (a.put o.dst (.agg (setA p))) w) : wpListIn F n Try.prog ops Q (o :: rest) a w := by
  refine wpListIn_plain hgd fun K hK => ?_
  unfold Oper.wpIn
  refine ⟨by simp [Oper.about, ho], ?_⟩
  rw [Oper.semAt_plain F _ _ (by rw [ho]; intro c hc; cases hc)]
  unfold execOp
  simp only [ho, hx, Instr.loadAt, Instr.sureAddr, Sem.run_bind, Sem.run_pure, Result.andThen_ok, ldVar hr]
  exact hK _ _ h
theorem wpListIn_st16 {F : Fence} {n : Nat} {ops : Array Oper} {rest : List Oper} {o : Oper} {a : Act} {w : World} {Q : Exit → Act → World → Prop} (hgd : o.guard = none) (x y : Operand) (ho : o.op = .store 60 x y) {b : Nat} {p : Nat → Bool}
    (hr : RowAt w b p) (q : Nat → Bool) (hx : a.eval x = .pointer (some ⟨b, 0, none⟩)) (hy : a.eval y = .agg (setA q)) (h : wpListIn F n Try.prog ops Q rest (a.put o.dst undef) (w.setRow b (setA q))) : wpListIn F n Try.prog ops Q (o :: rest) a w := by
  refine wpListIn_plain hgd fun K hK => ?_
  unfold Oper.wpIn
  refine ⟨by simp [Oper.about, ho], ?_⟩
  rw [Oper.semAt_plain F _ _ (by rw [ho]; intro c hc; cases hc)]
  unfold execOp
  simp only [ho, hx, hy, Instr.storeAt, Instr.sureAddr, Sem.run_bind, Sem.run_pure, Result.andThen_ok, stVar (q := q) hr]
  exact hK _ _ h

/-- the words of a ball, as a set -/
def ballN (S : List Int) (r c : Int) : Nat → Bool := inL (ballW S c r)
def encP (p : Nat → Bool) : Array Value := #[.agg (setA p)]
theorem keepsT_row {t : TypeId} {W W' : World} {b : Nat} {p : Nat → Bool} (h : RowAt W b p) (hne : 60 ≠ t) (hg : W.grownBy W' (some b)) : KeepsT t W W' := fun i cur hi => by
  rw [hg.block i (Array.getElem?_eq_some_iff.1 hi).1 (fun e => ?_)]
  · exact hi
  · have e' : i = b := by simpa using e
    subst e'
    have h' : W.heap[i]? = some (.cells (setA p) 60 (0, 0)) := h
    rw [hi] at h'
    injection h' with h'
    injection h' with _ h' _
    exact hne h'.symm
theorem row_own {β : Type} (b : Nat) (f : β → Nat → Bool) : Own (fun (s : β) W => RowAt W b (f s)) := fun s A B row hs hg hr => by
  show B.heap[b]? = _
  rw [hg.block b (RowAt.lt hs) (fun e => ?_)]
  · exact hs
  · obtain ⟨o, ho, hc⟩ := hr b e.symm
    have hs' : A.heap[b]? = some (.cells (setA (f s)) 60 (0, 0)) := hs
    rw [hs'] at ho
    injection ho with ho
    subst ho
    cases hc

theorem setTo_app (L M : List Int) (k : Nat) (h : k ≤ L.length) : setTo (L ++ M) k = setTo L k := by
  induction k with
  | zero => rfl
  | succ k ih => rw [setTo, setTo, ih (by omega), gi_append_lt _ _ _ (by omega)]
theorem results_none {fn : Func} (h : fn.results = #[]) (tmps : Array Value) (w : World) : (results fn tmps).run Try.prog w = .ok (.tuple #[]) w := by simp [results, h, go_sem]
/-- what a round of a loop over the balls keeps -/
def KpC (n₀ wb sb rb : Nat) (W W' : World) : Prop := Below n₀ W W' ∧ KeepsAt wb W W' ∧ KeepsAt sb W W' ∧ KeepsAt rb W W'
theorem kpC_t {n₀ wb sb rb : Nat} {A B C : World} (h : KpC n₀ wb sb rb A B) (k : KpC n₀ wb sb rb B C) : KpC n₀ wb sb rb A C := ⟨h.1.trans k.1, h.2.1.trans k.2.1, h.2.2.1.trans k.2.2.1, h.2.2.2.trans k.2.2.2⟩
theorem keepsAt_nc {g : Nat} {A B : World} {row : Option Nat} (hg : A.grownBy B row) (hr : ∀ r, row = some r → ∃ o : Obj, A.heap[r]? = some o ∧ o.isCells = false) : KeepsAt g A B := fun cur t hi =>
  (hg.block g (Array.getElem?_eq_some_iff.1 hi).1 (fun e => by obtain ⟨o, ho, hc⟩ := hr g e.symm; rw [hi] at ho; injection ho with ho; subst ho; cases hc)).trans hi
theorem kpC_g {n₀ wb sb rb N : Nat} (hN : n₀ ≤ N) (A B : World) (row : Option Nat) (hg : A.grownBy B row) (hr : ∀ r, row = some r → N ≤ r ∧ ∃ o : Obj, A.heap[r]? = some o ∧ o.isCells = false) (hA : N ≤ A.heap.size) : KpC n₀ wb sb rb A B :=
  ⟨(Below.refl n₀ A).grown hg (by omega) (fun k e => by have := (hr k e).1; omega), keepsAt_nc hg fun r e => (hr r e).2, keepsAt_nc hg fun r e => (hr r e).2, keepsAt_nc hg fun r e => (hr r e).2⟩
theorem keepsAt_below {g : Nat} {A B : World} (h : Below A.heap.size A B) : KeepsAt g A B := fun cur t hi => (h.block g (Array.getElem?_eq_some_iff.1 hi).1).trans hi
theorem keepsAt_row {g b : Nat} {W W' : World} (hg : W.grownBy W' (some b)) (hne : g ≠ b) : KeepsAt g W W' := KeepsAt.of_grown hg (by simp; omega)

/-- what holds between two rounds of the loop over the words -/
def BInv (S C : List Int) (r : Int) (ao ac : Option Addr) (cap capc l wb sb rb : Nat) (J : List (Nat → Bool) → World → Prop) (w0 Wst : World) (a : Act) (W : World) : Prop :=
  ∃ (k : Nat) (ds : List Deferred) (u4 u5 u6 u7 u8 u12 u13 u14 u15 u16 u17 u18 u19 u20 u21 u22 u23 u24 u25 u26 u27 u28 : Value), k ≤ C.length ∧ J ((C.take k).map (ballN S r)) W ∧ Below w0.heap.size w0 W ∧ Marks Wst.heap.size ds W ∧ Wst.heap.size ≤ W.heap.size ∧ (W.heap[wb]? = some (.cells #[.slice ac C.length capc] 24 (0, 0)) ∧ W.heap[sb]? = some (.cells #[.slice ao S.length cap] 26 (0, 0)) ∧ W.heap[rb]? = some (.cells #[.int .i64 r] 2 (0, 0))) ∧
    a = { tmps := #[.func (.yield l) #[] #[], .pointer (some ⟨wb, 0, none⟩), .pointer (some ⟨sb, 0, none⟩), .pointer (some ⟨rb, 0, none⟩), u4, u5, u6, u7, u8, .slice ac C.length capc, .int .i64 (C.length : Int), .int .i64 (k : Int), u12, u13, u14, u15, u16, u17, u18, u19, u20, u21, u22, u23, u24, u25, u26, u27, u28], defers := ds }
def BMes (C : List Int) (a : Act) (W : World) : Nat := C.length - (intOf (a.tmps.getD 11 undef)).toNat

set_option maxHeartbeats 4000000 in
theorem balls_gives (n : Nat) (hn1 : 1 ≤ n) (S : List Int) (hSp : Sp S) (ao : Option Addr) (cap : Nat) (ac : Option Addr) (C : List Int) (capc : Nat) (hlen : C.length ≤ 1048576) (hC0 : ∀ i, i < C.length → 0 ≤ gi C i ∧ gi C i ≤ 9223372036854775807) (r : Int) (hr0 : 0 ≤ r) (hr8 : r ≤ 8) (wb sb rb : Nat) (w0 w1 : World) (hw01 : Below w0.heap.size w0 w1) (hS : Ints w0 ao S) (hC : Ints w0 ac C)
    (hwb : w1.heap[wb]? = some (.cells #[.slice ac C.length capc] 24 (0, 0))) (hsb : w1.heap[sb]? = some (.cells #[.slice ao S.length cap] 26 (0, 0))) (hrb : w1.heap[rb]? = some (.cells #[.int .i64 r] 2 (0, 0))) :
    Gives0 Fence.wide n Try.prog 62 #[.pointer (some ⟨wb, 0, none⟩), .pointer (some ⟨sb, 0, none⟩), .pointer (some ⟨rb, 0, none⟩)] encP (KpC w0.heap.size wb sb rb) (fun ys => ys = C.map (ballN S r)) C.length w1 := fun l J Wst hW hJ hY h0 => by
  obtain ⟨N, hN⟩ : ∃ N : Nat, nW S = (N : Int) := ⟨(nW S).toNat, by have := nW_bd hSp; omega⟩
  have HN := Lib.hid hN
  have N2 : N ≤ 1024 := by have := (nW_bd hSp).2; omega
  have HNN : Hid ((nW S).toNat = N) := Lib.hid (by omega)
  have HSp := Lib.hid hSp
  have HC0 := Lib.hid hC0
  replace hwb := (hW.block wb (Array.getElem?_eq_some_iff.1 hwb).1).trans hwb
  replace hsb := (hW.block sb (Array.getElem?_eq_some_iff.1 hsb).1).trans hsb
  replace hrb := (hW.block rb (Array.getElem?_eq_some_iff.1 hrb).1).trans hrb
  replace hW := hw01.trans (hW.mono hw01.size)
  have c1 := cell_of_heap hwb
  have HBX := Lib.hid (And.intro hwb (And.intro hsb hrb))
  clear hwb hsb hrb hSp hC0 hN
  have hdd : ∀ k : Nat, (Fence.wide.depth.isSome = true → 1 ≤ k) := fun k h => by cases (show (none : Option Nat).isSome = true from h)
  refine callsIn_of_wp_marks Try.func62 rfl trivial ?_ rfl
  simp only [Try.ntmps62, List.size_toArray, List.length_cons, List.length_nil, Nat.reduceAdd, Nat.reduceSub, Array.replicate_succ, Array.replicate_zero, List.push_toArray, List.append_toArray, List.nil_append, List.cons_append]
  gi_wp2_with fail
  refine wpIn_loop (BInv S C r ao ac cap capc l wb sb rb J w0 Wst) (BMes C) ?start ?round
  case start =>
    exact ⟨0, [], _, _, _, _, _, _, _, _, _, _, _, _, _, _, _, _, _, _, _, _, _, _, Nat.zero_le _, h0, hW, trivial, Nat.le_refl _, HBX.out, rfl⟩
  case round =>
    clear c1
    rintro a wr ⟨k, ds, u4, u5, u6, u7, u8, u12, u13, u14, u15, u16, u17, u18, u19, u20, u21, u22, u23, u24, u25, u26, u27, u28, hk, hj, B, hmk, hsz, ⟨hwb, hsb, hrb⟩, rfl⟩
    by_cases hlt : k < C.length
    · obtain ⟨b, o, rfl, hbl, hc⟩ := hC.at hlt
      have hck : wr.cell? ⟨b, o + k, none⟩ = some (.int .i64 (gi C k)) := kept_cell B (hc k hlt) hbl
      obtain ⟨x1, x2⟩ := HC0.out k hlt
      clear hc
      have hz0 := rowz_new wr rfl
      have HBX := Lib.hid (And.intro hwb (And.intro hsb hrb))
      have cs : ∀ o', (wr.alloc o').cell? ⟨sb, 0, none⟩ = some (.slice ao S.length cap) := fun o' => cell_of_heap ((Below.heap_alloc wr o' sb (Array.getElem?_eq_some_iff.1 hsb).1).trans hsb)
      have cr : ∀ o', (wr.alloc o').cell? ⟨rb, 0, none⟩ = some (.int .i64 r) := fun o' => cell_of_heap ((Below.heap_alloc wr o' rb (Array.getElem?_eq_some_iff.1 hrb).1).trans hrb)
      clear hwb hsb hrb
      gi_wp2_with (first
        | (refine ⟨trivial, ?_⟩; gi_at_call 50; refine (callsIn_wide.2 (wordsWithin_any ao S cap HSp.out (gi C k) x1 x2 r _ (hS.below (B.alloc (by have := B.size; omega) _)))).mono ?_; rintro e w3 ⟨Bb, g, rfl, lB, hB, hM, hBg, hBlo, hb3⟩)
        | fail)
      have s0 := B.size
      have s3 := hb3.size
      simp only [World.size_alloc] at s3
      have g3 := hM.base_le
      rw [World.size_alloc] at g3
      have row3 : RowAt w3 wr.heap.size (fun _ => false) := hz0.below hb3 (by simp)
      have b03 : Below wr.heap.size wr w3 := Below.trans ((Below.refl _ wr).alloc (Nat.le_refl _) _) (hb3.mono (by simp))
      have B3 : Below w0.heap.size w0 w3 := B.trans (b03.mono s0)
      have s03 := b03.size
      obtain ⟨D, hG, hD⟩ := own_heap hM
      have hD' : ∀ i, i < S.length → D[i]? = some (.int .i64 (dig S (gi C k) i)) := fun i hi => by rw [hD i (by rw [digs_length]; exact hi), gi_digs _ _ _ hi]
      have hgn : g ≠ wr.heap.size := by omega
      clear hb3 cs cr hz0 hck
      refine wpIn_rangeFunc_ownG rfl hn1 (gf := 72) (lb := #[.pointer (some ⟨Bb, 0, none⟩)]) rfl trivial (enters_of Try.func72 (by kernel_rfl) rfl)
        (all_stops Fence.wide rfl trivial trivial rfl (n - 1) S HSp.out (gi C k) r hr0 hr8 ao cap Bb g D w0 w3 B3 hB hS hG hD') kpB_t (kpB_b B3.size) (Below.refl _ _) (fun _ => rfl)
        (fun (pre : List (WP S (gi C k) r)) W => RowAt W wr.heap.size (setTo (seqB pre) pre.length) ∧ (Below wr.heap.size wr W ∧ w3.heap.size ≤ W.heap.size))
        (fun _ _ _ => False)
        (OwnFrom.and (Own.from (row_own wr.heap.size (fun pre : List (WP S (gi C k) r) => setTo (seqB pre) pre.length)) _) (OwnFrom.and (ownFrom_below (by omega) (by omega)) (fun _ _ _ _ hs hg _ => Nat.le_trans hs hg.size)))
        (fun _ _ _ _ _ hs _ _ => hs)
        ⟨row3, b03, Nat.le_refl _⟩
        (fun p => { tmps := #[.func (.yield l) #[] #[], .pointer (some ⟨wb, 0, none⟩), .pointer (some ⟨sb, 0, none⟩), .pointer (some ⟨rb, 0, none⟩), u4, u5, .int .i64 (gi C k), .pointer (some ⟨wr.heap.size, 0, none⟩), .int .i64 p.1.1, .slice (some ⟨b, o, none⟩) C.length capc, .int .i64 (C.length : Int), .int .i64 (k : Int), .bool true, .pointer (some ⟨b, o + k, none⟩), .int .i64 (gi C k), .agg #[.int .u64 0, .int .u64 0, .int .u64 0, .int .u64 0, .int .u64 0, .int .u64 0, .int .u64 0, .int .u64 0, .int .u64 0, .int .u64 0, .int .u64 0, .int .u64 0, .int .u64 0, .int .u64 0, .int .u64 0, .int .u64 0], .agg #[.slice ao S.length cap], .int .i64 (gi C k), .int .i64 r, .func (.func 72) #[] #[.pointer (some ⟨Bb, 0, none⟩)], .int .i64 p.1.1, .int .i64 p.1.2, u22, u23, u24, u25, u26, u27, u28], defers := [] }) ?assign ?body ?done ?stop
      case assign =>
        intro l p W K hK
        dsimp only [encW]
        gi_wp2
        exact hK
      case body =>
        rintro l' pre p W ⟨hrow, hB', hsz'⟩ hlt'
        obtain ⟨u, hu⟩ : ∃ u : Nat, p.1.1 = (u : Int) := ⟨p.1.1.toNat, by have := p.2.1.1; omega⟩
        have hun : u < 1024 := by have := p.2.1.2; have := HN.out; omega
        have HU := Lib.hid hu
        have hdd2 : ∀ k : Nat, ((Fence.wide.inRound l').depth.isSome = true → 1 ≤ k) := fun k h => by cases (show (none : Option Nat).isSome = true from h)
        have hfp : (Fence.wide.inRound l').fn 63 := trivial
        rw [hu]
        clear hu
        gi_wp2_with (first
          | (refine ⟨hfp, hdd2 _, ?_⟩; gi_at_call 63; refine (CallsIn.inRound l' (callsIn_wide.2 (put_any wr.heap.size _ u hun W hrow))).mono ?_; rintro e w4 ⟨rfl, hrow4, hg4⟩)
          | fail)
        have hb4 : Below wr.heap.size wr w4 := hB'.grown hg4 hB'.size (fun j e => by cases e; omega)
        refine ⟨KeepsFrom.of_grownBy hg4 (fun j e => by cases e; omega), ⟨(Below.refl _ W).grown hg4 (by omega) (fun j e => by cases e; omega), keepsT_row hrow (by decide) hg4, KeepsAt.of_grown hg4 (by simp; omega)⟩, ?_, hb4, Nat.le_trans hsz' hg4.size⟩
        have e : setTo (seqB (pre ++ [p])) (pre ++ [p]).length = putB (setTo (seqB pre) pre.length) u := by
          rw [List.length_append, List.length_cons, List.length_nil, setTo]
          have e1 : gi (seqB (pre ++ [p])) pre.length = (u : Int) := by
            have hsl : (seqB pre).length = pre.length := by simp [seqB]
            rw [seqB_snoc, gi_append_ge _ _ _ (by omega), hsl, Nat.sub_self, HU.out]; rfl
          have e2 : setTo (seqB (pre ++ [p])) pre.length = setTo (seqB pre) pre.length := by
            rw [seqB_snoc]; exact setTo_app _ _ _ (by simp [seqB])
          rw [e1, e2]; simp
        rw [e]; exact hrow4
      case done =>
        rintro Dd ys W hDd HY ⟨hrow, hB', hsz'⟩ hK
        have HB : Hid (RowAt W wr.heap.size (ballN S r (gi C k))) := Lib.hid (by
          have hL : seqB ys = ballW S (gi C k) r := by unfold seqB; rw [← ballW_P, ← HY.out, List.map_map]; rfl
          have hl : ys.length = (seqB ys).length := by simp [seqB]
          rw [hl, hL] at hrow
          unfold RowAt at hrow ⊢
          rw [hrow]
          have e := setA_ext (p := setTo (ballW S (gi C k) r) (ballW S (gi C k) r).length) (q := ballN S r (gi C k)) (fun u _ => setTo_all (ballW S (gi C k) r) (fun i hi => (selTo_bd _ _ i hi).1) u)
          rw [e])
        have hj' : J ((C.take k).map (ballN S r)) W := hJ _ _ _ none hj ⟨hB'.os, hB'.tape, hB'.output, hB'.size, fun j hj' _ => hB'.block j hj'⟩ (fun r e => by cases e)
        have hmk' : Marks Wst.heap.size ({ target := .collected Dd, args := #[] } :: ds) W := (hmk.keep fun r _ hh _ => (hB'.block r (Array.getElem?_eq_some_iff.1 hh).1).trans hh).cons (by omega) hK (fun d hd r hr => by have := hmk.bound d hd r hr; omega)
        clear hrow
        have hrow := HB.out
        obtain ⟨fn, tmps, assign, body, hy, hR⟩ := hY ((C.take k).map (ballN S r)) (ballN S r (gi C k)) W hj' (by simp; omega)
        simp only [encP] at hy
        clear hj' hj hmk
        gi_wp2_with (first | (refine wpListIn_ld16 rfl _ rfl hrow rfl ?_) | fail)
        refine hR.mono ?_
        rintro e W' ⟨rfl, hJ', ⟨hb', hq1, hq2, hq3⟩, hk'⟩
        have HB3 := Lib.hid (And.intro (hq1 _ _ ((hB'.block wb (Array.getElem?_eq_some_iff.1 HBX.out.1).1).trans HBX.out.1)) (And.intro (hq2 _ _ ((hB'.block sb (Array.getElem?_eq_some_iff.1 HBX.out.2.1).1).trans HBX.out.2.1)) (hq3 _ _ ((hB'.block rb (Array.getElem?_eq_some_iff.1 HBX.out.2.2).1).trans HBX.out.2.2))))
        clear hq1 hq2 hq3
        have hmk2 : Marks Wst.heap.size ({ target := .collected Dd, args := #[] } :: ds) W' := hmk'.others hk'
        have hb2 : Below w0.heap.size w0 W' := (B.trans (hB'.mono s0)).trans hb'
        have hs2 := hk'.size
        have HJ : Hid (J ((C.take (k + 1)).map (ballN S r)) W') := Lib.hid (by rw [take_snoc _ _ (by omega), List.map_append]; exact hJ')
        clear hJ' hb' hk' hmk' hR hy hrow
        gi_wp2
        refine ⟨⟨k + 1, _, _, _, _, _, _, _, _, _, _, _, _, _, _, _, _, _, _, _, _, _, _, _, by omega, HJ.out, hb2, hmk2, by omega, HB3.out, rfl⟩, ?_⟩
        simp [BMes, intOf]; omega
      case stop =>
        rintro Dd c pre W _ _ h _
        exact h.elim
    · have ek : k = C.length := by omega
      clear hwb hsb hrb
      gi_wp2
      refine leaves_marksJ (B := Wst.heap.size) (J := fun W => J (C.map (ballN S r)) W) (fun W r o o' hj' hr hh ho => hJ _ _ _ (some r) hj' (grownBy_putObj' _ _ _) (fun r' e => by cases e; exact ⟨hr, o, hh, ho⟩)) (fun W' h' => ⟨_, results_none rfl _ _, ⟨_, rfl⟩, _, rfl, h'⟩) ds wr hmk ?_
      rw [ek, List.take_length] at hj
      exact hj

end Go.Proofs.Ytlhapanfegjafaa

namespace Go.Proofs.Ytlhapanfegjafaa
open Go.RowKit Go.Shelf Cv
set_option linter.unusedVariables false
set_option linter.unusedSimpArgs false
set_option maxRecDepth 100000

/-- the words of all sets of a list together -/
def unionL (ps : List (Nat → Bool)) : Nat → Bool := fun u => ps.any (fun p => p u)
theorem unionL_snoc (ps : List (Nat → Bool)) (p : Nat → Bool) : unionL (ps ++ [p]) = fun u => unionL ps u || p u := by
  funext u; simp [unionL]

section
attribute [local go_sem] Oper.semAt_some

set_option maxHeartbeats 2000000 in
/-- the union of what an iterator yields -/
theorem together_any (gf : Nat) (lb : Array Value) (eg : ∀ args w, (callFunc gf args).run Try.prog w = .ok (.enter gf args) w) (Kp : World → World → Prop) (PS : List (Nat → Bool)) (N : Nat) (w : World)
    (hKt : ∀ {A B C : World}, Kp A B → Kp B C → Kp A C) (hKb : ∀ A B : World, Below w.heap.size A B → Kp A B)
    (hseq : ∀ n, 1 ≤ n → Gives0 Fence.wide n Try.prog gf lb encP Kp (fun ys => ys = PS) N w) :
    Calls Try.prog 70 #[.func (.func gf) #[] lb] w fun e w' => e = .returned (.agg (setA (unionL PS))) ∧ Below w.heap.size w w' := by
  refine (callsIn_wide (n := 6)).1 ?_
  refine callsIn_of_wp_marks Try.func70 rfl trivial ?_ rfl
  simp only [Try.ntmps70, List.size_toArray, List.length_cons, List.length_nil, Nat.reduceAdd, Nat.reduceSub, Array.replicate_succ, Array.replicate_zero, List.push_toArray, List.append_toArray, List.nil_append, List.cons_append]
  have hz1 := rowz_new w rfl
  have hz2 := rowz_new (w.alloc (.cells #[.int .u64 0, .int .u64 0, .int .u64 0, .int .u64 0, .int .u64 0, .int .u64 0, .int .u64 0, .int .u64 0, .int .u64 0, .int .u64 0, .int .u64 0, .int .u64 0, .int .u64 0, .int .u64 0, .int .u64 0, .int .u64 0] 60)) rfl
  simp only [World.size_alloc] at hz2
  gi_wp2
  obtain ⟨w2, hw2⟩ : ∃ w2, w2 = (w.alloc (.cells #[.int .u64 0, .int .u64 0, .int .u64 0, .int .u64 0, .int .u64 0, .int .u64 0, .int .u64 0, .int .u64 0, .int .u64 0, .int .u64 0, .int .u64 0, .int .u64 0, .int .u64 0, .int .u64 0, .int .u64 0, .int .u64 0] 60)).alloc (.cells #[.int .u64 0, .int .u64 0, .int .u64 0, .int .u64 0, .int .u64 0, .int .u64 0, .int .u64 0, .int .u64 0, .int .u64 0, .int .u64 0, .int .u64 0, .int .u64 0, .int .u64 0, .int .u64 0, .int .u64 0, .int .u64 0] 60) := ⟨_, rfl⟩
  have r1 : RowAt w2 w.heap.size (fun _ => false) := by rw [hw2]; exact hz1.alloc _
  have r2 : RowAt w2 (w.heap.size + 1) (fun _ => false) := by rw [hw2]; exact hz2
  have B2 : Below w.heap.size w w2 := by rw [hw2]; go_grown
  have s2 : w2.heap.size = w.heap.size + 2 := by rw [hw2]; simp
  rw [← hw2]
  clear hw2 hz1 hz2
  have HB := Lib.hid hKb
  refine range_gives rfl (by omega) (gf := gf) (lb := lb) rfl trivial eg (hseq (6 - 1) (by omega)) hKt
    (fun A B row hg hr hA => hKb A B ((Below.refl w.heap.size A).grown hg (by omega) (fun k e => by have := (hr k e).1; omega))) B2 (fun _ => rfl)
    (fun (pre : List (Nat → Bool)) W => RowAt W (w.heap.size + 1) (unionL pre) ∧ RowAt W w.heap.size (fun _ => false) ∧ (Below w.heap.size w W ∧ w2.heap.size ≤ W.heap.size))
    (fun q W => ∃ bb, w2.heap.size ≤ bb ∧ RowAt W bb q.2.1 ∧ RowAt W (w.heap.size + 1) (unionL q.1) ∧ RowAt W w.heap.size (fun _ => false) ∧ (Below w.heap.size w W ∧ w2.heap.size ≤ W.heap.size) ∧ q.2.2 = { tmps := #[.func (.func gf) #[] lb, undef, .pointer (some ⟨w.heap.size, 0, none⟩), .pointer (some ⟨w.heap.size + 1, 0, none⟩), .pointer (some ⟨bb, 0, none⟩), .agg #[.int .u64 0, .int .u64 0, .int .u64 0, .int .u64 0, .int .u64 0, .int .u64 0, .int .u64 0, .int .u64 0, .int .u64 0, .int .u64 0, .int .u64 0, .int .u64 0, .int .u64 0, .int .u64 0, .int .u64 0, .int .u64 0], .func (.func gf) #[] lb, .agg (setA q.2.1), undef, undef, undef, undef], defers := [] })
    ?ownI ?ownA ⟨r2, r1, B2, Nat.le_refl _⟩ ?assign ?body ?done
  case assign =>
    intro l pre x W K ⟨h1, h2, h3, h4⟩ hK
    dsimp only [encP]
    have hzW := rowz_new W rfl
    have hxW : RowAt ((W.alloc (.cells #[.int .u64 0, .int .u64 0, .int .u64 0, .int .u64 0, .int .u64 0, .int .u64 0, .int .u64 0, .int .u64 0, .int .u64 0, .int .u64 0, .int .u64 0, .int .u64 0, .int .u64 0, .int .u64 0, .int .u64 0, .int .u64 0] 60)).setRow W.heap.size (setA x)) W.heap.size x := row_set hzW
    have gW : (W.alloc (.cells #[.int .u64 0, .int .u64 0, .int .u64 0, .int .u64 0, .int .u64 0, .int .u64 0, .int .u64 0, .int .u64 0, .int .u64 0, .int .u64 0, .int .u64 0, .int .u64 0, .int .u64 0, .int .u64 0, .int .u64 0, .int .u64 0] 60)).grownBy ((W.alloc (.cells #[.int .u64 0, .int .u64 0, .int .u64 0, .int .u64 0, .int .u64 0, .int .u64 0, .int .u64 0, .int .u64 0, .int .u64 0, .int .u64 0, .int .u64 0, .int .u64 0, .int .u64 0, .int .u64 0, .int .u64 0, .int .u64 0] 60)).setRow W.heap.size (setA x)) (some W.heap.size) := grown_setRow _
    have bW : Below W.heap.size W ((W.alloc (.cells #[.int .u64 0, .int .u64 0, .int .u64 0, .int .u64 0, .int .u64 0, .int .u64 0, .int .u64 0, .int .u64 0, .int .u64 0, .int .u64 0, .int .u64 0, .int .u64 0, .int .u64 0, .int .u64 0, .int .u64 0, .int .u64 0] 60)).setRow W.heap.size (setA x)) := ((Below.refl _ W).alloc (Nat.le_refl _) _).grown gW (by simp) (fun j e => by cases e; exact Nat.le_refl _)
    gi_wp2_with (first | (refine wpListIn_st16 rfl _ _ rfl hzW x rfl rfl ?_) | fail)
    refine hK _ _ ⟨W.heap.size, h4, hxW, h1.below bW h1.lt, h2.below bW h2.lt, ⟨h3.trans (bW.mono h3.size), Nat.le_trans h4 bW.size⟩, rfl⟩ bW
  case body =>
    rintro l pre x a' W ⟨bb, hbb2, hx, hc, hr, ⟨hB, hsz⟩, ha⟩ hlt
    dsimp only at ha hx hc
    subst ha
    gi_wp2_with (first
      | (refine wpListIn_ld16 rfl _ rfl hc rfl ?_)
      | (refine wpListIn_ld16 rfl _ rfl hx rfl ?_)
      | (refine ⟨trivial, ?_⟩; gi_at_call 68; refine (CallsIn.inRound l (callsIn_wide.2 (with_any (unionL pre) x W))).mono ?_; rintro e w4 ⟨rfl, hb4⟩; have hc4 := hc.below hb4 hc.lt)
      | (refine wpListIn_st16 rfl _ _ rfl hc4 (fun u => unionL pre u || x u) rfl rfl ?_)
      | fail)
    have g4 := grown_setRow (w := w4) (b := w.heap.size + 1) (setA fun u => unionL pre u || x u)
    have c4 : RowAt (w4.setRow (w.heap.size + 1) (setA fun u => unionL pre u || x u)) (w.heap.size + 1) (unionL (pre ++ [x])) := by rw [unionL_snoc]; exact row_set hc4
    have b4 : Below w.heap.size W (w4.setRow (w.heap.size + 1) (setA fun u => unionL pre u || x u)) := (hb4.mono hB.size).grown g4 (by have := hb4.size; have := hB.size; omega) (fun j e => by cases e; omega)
    refine ⟨(keepsFrom_below hb4).trans (KeepsFrom.of_grownBy g4 (fun j e => by cases e; omega)), HB.out _ _ b4, c4, (hr.below hb4 hr.lt).kept g4 (by omega), hB.trans b4, by have := b4.size; omega⟩
  case done =>
    rintro D xs W hD rfl ⟨hc, hr, hB, hsz⟩ hK
    gi_wp2_with (first
      | (refine wpListIn_ld16 rfl _ rfl hc rfl ?_)
      | (refine wpListIn_st16 rfl _ _ rfl hr (unionL xs) rfl rfl ?_)
      | fail)
    have g4 := grown_setRow (w := W) (b := w.heap.size) (setA (unionL xs))
    have hK' : (W.setRow w.heap.size (setA (unionL xs))).heap[D]? = some (.deferred (some [])) := (g4.block D (Array.getElem?_eq_some_iff.1 hK).1 (fun e => by rcases e with e; simp only [Option.some.injEq] at e; omega)).trans hK
    have r4 : RowAt (W.setRow w.heap.size (setA (unionL xs))) w.heap.size (unionL xs) := row_set hr
    have b4 : Below w.heap.size w (W.setRow w.heap.size (setA (unionL xs))) := hB.grown g4 hB.size (fun j e => by cases e; omega)
    refine leaves_marksJ (B := w2.heap.size) (J := fun W => RowAt W w.heap.size (unionL xs) ∧ (Below w.heap.size w W ∧ w2.heap.size ≤ W.heap.size)) (fun W r o o' hj' hr hh ho => ⟨(row_own w.heap.size (fun _ : Unit => unionL xs)) () W _ (some r) hj'.1 (grownBy_putObj' _ _ _) (fun r' e => by cases e; exact ⟨o, hh, ho⟩), hj'.2.1.grown (grownBy_putObj' _ _ _) hj'.2.1.size (fun j e => by cases e; omega), by simpa using hj'.2.2⟩)
      (fun W' h' => ⟨_, results16 rfl _ h'.1 rfl, rfl, h'.2.1⟩) _ _ ⟨⟨D, rfl, hD, hK', by simp⟩, trivial⟩ ⟨r4, b4, by have := g4.size; omega⟩
  case ownI => exact OwnFrom.and (Own.from (row_own _ (fun pre : List (Nat → Bool) => unionL pre)) _) (OwnFrom.and (Own.from (row_own _ (fun pre : List (Nat → Bool) => fun _ => false)) _) (OwnFrom.and (ownFrom_below (Nat.le_refl _) B2.size) (fun _ _ _ _ hs hg _ => Nat.le_trans hs hg.size)))
  case ownA =>
    rintro q A B row ⟨bb, h1, h2, h3, h4, ⟨h5, h6⟩, h7⟩ hg hr
    have own := fun (b : Nat) (p : Nat → Bool) (h : RowAt A b p) => (row_own b (fun _ : Unit => p)) () A B row h hg (fun r e => (hr r e).2)
    exact ⟨bb, h1, own _ _ h2, own _ _ h3, own _ _ h4, ⟨h5.grown hg h5.size (fun j e => by have := (hr j e).1; have := B2.size; omega), Nat.le_trans h6 hg.size⟩, h7⟩


end

end Go.Proofs.Ytlhapanfegjafaa

namespace Go.Proofs.Ytlhapanfegjafaa
open Go.RowKit Go.Shelf Cv
set_option linter.unusedVariables false
set_option linter.unusedSimpArgs false
set_option maxRecDepth 100000

attribute [local go_sem] Oper.semAt_some

theorem balls_any (ao : Option Addr) (S : List Int) (cap : Nat) (ac : Option Addr) (C : List Int) (capc : Nat) (r : Int) (w : World) :
    Calls Try.prog 37 #[.agg #[.slice ao S.length cap], .slice ac C.length capc, .int .i64 r] w fun e w' =>
      ∃ wb sb rb, e = .returned (.func (.func 62) #[] #[.pointer (some ⟨wb, 0, none⟩), .pointer (some ⟨sb, 0, none⟩), .pointer (some ⟨rb, 0, none⟩)]) ∧ (w.heap.size ≤ wb ∧ w.heap.size ≤ sb ∧ w.heap.size ≤ rb) ∧ w'.heap[wb]? = some (.cells #[.slice ac C.length capc] 24 (0, 0)) ∧ w'.heap[sb]? = some (.cells #[.slice ao S.length cap] 26 (0, 0)) ∧ w'.heap[rb]? = some (.cells #[.int .i64 r] 2 (0, 0)) ∧ Below w.heap.size w w' := by
  obtain ⟨a1, a2, a3⟩ := alloc3 w (.cells #[.slice ao S.length cap] 26) (.cells #[.slice ac C.length capc] 24) (.cells #[.int .i64 r] 2)
  have H1 := Lib.hid a1
  have H2 := Lib.hid a2
  have H3 := Lib.hid a3
  clear a1 a2 a3
  go_enter Try.func37, Try.ntmps37
  go_wp2_with fail
  go_ret
  exact ⟨w.heap.size + 1, w.heap.size, w.heap.size + 1 + 1, rfl, ⟨by omega, by omega, by omega⟩, H2.out, H1.out, H3.out, by go_grown⟩

theorem kpC_b {n₀ wb sb rb N : Nat} {A B : World} (h : Below N A B) (hN : n₀ ≤ N) (h1 : wb < N) (h2 : sb < N) (h3 : rb < N) : KpC n₀ wb sb rb A B :=
  ⟨h.mono hN, fun _ _ e => (h.block wb h1).trans e, fun _ _ e => (h.block sb h2).trans e, fun _ _ e => (h.block rb h3).trans e⟩
/-- the words that a code covers -/
def covN (S C : List Int) (r : Int) : Nat → Bool := unionL (C.map (ballN S r))

set_option maxHeartbeats 4000000 in
theorem coveredWords_any (ao : Option Addr) (S : List Int) (cap : Nat) (hSp : Sp S) (ac : Option Addr) (C : List Int) (capc : Nat) (hlen : C.length ≤ 1048576) (hC0 : ∀ i, i < C.length → 0 ≤ gi C i ∧ gi C i ≤ 9223372036854775807) (r : Int) (hr0 : 0 ≤ r) (hr8 : r ≤ 8) (w : World) (hS : Ints w ao S) (hC : Ints w ac C) :
    Calls Try.prog 46 #[.agg #[.slice ao S.length cap], .slice ac C.length capc, .int .i64 r] w fun e w' => e = .returned (.agg (setA (covN S C r))) ∧ Below w.heap.size w w' := by
  have HSp := Lib.hid hSp
  have HC0 := Lib.hid hC0
  clear hSp hC0
  have hz1 := rowz_new (w.alloc (.cells #[.slice ao S.length cap] 26)) rfl
  simp only [World.size_alloc] at hz1
  have HZ := Lib.hid hz1
  clear hz1
  go_enter Try.func46, Try.ntmps46
  go_wp2_with fail
  refine (balls_any ao S cap ac C capc r _).mono ?_
  rintro e w2 ⟨wb, sb, rb, rfl, hbb, hwb, hsb, hrb, hb2⟩
  have s2 := hb2.size
  simp only [World.size_alloc] at s2 hbb
  have B2 : Below w.heap.size w w2 := Below.trans (by go_grown) (hb2.mono (by simp; omega))
  have lw := (Array.getElem?_eq_some_iff.1 hwb).1
  have ls := (Array.getElem?_eq_some_iff.1 hsb).1
  have lr := (Array.getElem?_eq_some_iff.1 hrb).1
  have ht := together_any 62 #[.pointer (some ⟨wb, 0, none⟩), .pointer (some ⟨sb, 0, none⟩), .pointer (some ⟨rb, 0, none⟩)] (enters_of Try.func62 (by kernel_rfl) rfl) (KpC w.heap.size wb sb rb) (C.map (ballN S r)) C.length w2 kpC_t
    (fun A B h => kpC_b h B2.size lw ls lr) (fun n hn => balls_gives n hn S HSp.out ao cap ac C capc hlen HC0.out r hr0 hr8 wb sb rb w w2 B2 hS hC hwb hsb hrb)
  go_wp2_with fail
  refine ht.mono ?_
  rintro e w3 ⟨rfl, hb3⟩
  have B3 := B2.trans (hb3.mono B2.size)
  have r1 := (HZ.out.below hb2 (by simp)).below hb3 (by omega)
  clear hb2 hb3 ht hwb hsb hrb
  go_wp2_with (first | (refine wpList_st16 rfl _ _ rfl r1 (unionL (C.map (ballN S r))) rfl rfl ?_))
  (try simp only [Exit.inBlock, Exit.then])
  refine bodyPost_ret (results16 rfl _ (row_set r1) rfl) rfl ?_
  exact ⟨rfl, B3.grown (grown_setRow _) B3.size fun j hj => by cases hj; omega⟩

theorem ballN_in (S : List Int) (r c : Int) (u : Nat) : ballN S r c u = decide (u < (nW S).toNat ∧ dist S u c ≤ r) := by
  unfold ballN inL ballW
  rw [Bool.eq_iff_iff, decide_eq_true_eq, decide_eq_true_eq, selTo_eq, List.mem_map]
  constructor
  · rintro ⟨i, hi, e⟩
    have hi' : i = u := by have : (i : Int) = (u : Int) := e; omega
    subst hi'
    rw [List.mem_filter, List.mem_range] at hi
    exact ⟨hi.1, by simpa [ballB] using hi.2⟩
  · rintro ⟨h1, h2⟩
    exact ⟨u, by rw [List.mem_filter, List.mem_range]; exact ⟨h1, by simpa [ballB] using h2⟩, rfl⟩
theorem covN_in (S C : List Int) (r : Int) (u : Nat) : covN S C r u = decide (u < (nW S).toNat ∧ ∃ c ∈ C, dist S u c ≤ r) := by
  unfold covN unionL
  rw [Bool.eq_iff_iff, decide_eq_true_eq, List.any_eq_true]
  constructor
  · rintro ⟨p, hp, h⟩
    obtain ⟨c, hc, rfl⟩ := List.mem_map.1 hp
    rw [ballN_in, decide_eq_true_eq] at h
    exact ⟨h.1, c, hc, h.2⟩
  · rintro ⟨h1, c, hc, h2⟩
    exact ⟨_, List.mem_map.2 ⟨c, hc, rfl⟩, by rw [ballN_in, decide_eq_true_eq]; exact ⟨h1, h2⟩⟩
/-- the set of all words -/
def allN (S : List Int) : Nat → Bool := fun u => decide (u < (nW S).toNat)
theorem covN_whole {S : List Int} (h : Sp S) : covN S [0] 8 = allN S := by
  funext u
  rw [covN_in, allN, Bool.eq_iff_iff, decide_eq_true_eq, decide_eq_true_eq]
  exact ⟨fun g => g.1, fun g => ⟨g, 0, by simp, by have := (dist_bd S u 0).2; have := h.hi; omega⟩⟩

theorem zero_code : ∀ i, i < ([0] : List Int).length → 0 ≤ gi [0] i ∧ gi [0] i ≤ 9223372036854775807 := fun i hi => by
  have e : i = 0 := by simpa using hi
  subst e
  exact ⟨Int.le_refl 0, by decide⟩
set_option maxHeartbeats 1000000 in
theorem wholeSet_any (ao : Option Addr) (S : List Int) (cap : Nat) (hSp : Sp S) (w : World) (hS : Ints w ao S) :
    Calls Try.prog 41 #[.agg #[.slice ao S.length cap]] w fun e w' => e = .returned (.agg (setA (allN S))) ∧ Below w.heap.size w w' := by
  rw [← covN_whole hSp]
  have hz1 := rowz_new (w.alloc (.cells #[.slice ao S.length cap] 26)) rfl
  simp only [World.size_alloc] at hz1
  have HZ := Lib.hid hz1
  clear hz1
  go_enter Try.func41, Try.ntmps41
  go_wp2_with fail
  have B1 : Below w.heap.size w (((w.alloc (.cells #[.slice ao S.length cap] 26)).alloc (.cells #[.int .u64 0, .int .u64 0, .int .u64 0, .int .u64 0, .int .u64 0, .int .u64 0, .int .u64 0, .int .u64 0, .int .u64 0, .int .u64 0, .int .u64 0, .int .u64 0, .int .u64 0, .int .u64 0, .int .u64 0, .int .u64 0] 60)).alloc (.cells #[.int .i64 0] 2)) := by go_grown
  refine (coveredWords_any ao S cap hSp (some ⟨w.heap.size + 1 + 1, 0, none⟩) [0] 1 (by simp) zero_code 8 (by omega) (by omega) _ (hS.below B1) (ints_new1 _ 0 _ (by simp))).mono ?_
  rintro e w1 ⟨rfl, hb⟩
  have r1 := (HZ.out.alloc (.cells #[.int .i64 0] 2)).below hb (by simp)
  have B2 := B1.trans (hb.mono (by simp; omega))
  clear hb B1
  go_wp2_with (first | (refine wpList_st16 rfl _ _ rfl r1 (covN S [0] 8) rfl rfl ?_))
  (try simp only [Exit.inBlock, Exit.then])
  refine bodyPost_ret (results16 rfl _ (row_set r1) rfl) rfl ?_
  exact ⟨rfl, B2.grown (grown_setRow _) B2.size fun j hj => by cases hj; omega⟩

end Go.Proofs.Ytlhapanfegjafaa

namespace Go.Proofs.Ytlhapanfegjafaa
open Go.RowKit Go.Shelf Cv
set_option linter.unusedVariables false
set_option linter.unusedSimpArgs false
set_option maxRecDepth 100000

section
attribute [local go_sem] Oper.semAt_some

/-- the cells of a list of sets -/
def cellsP (ps : List (Nat → Bool)) : List Value := ps.flatMap fun p => (setA p).toList
theorem cellsP_len (ps : List (Nat → Bool)) : (cellsP ps).length = ps.length * 16 := by
  induction ps with
  | nil => rfl
  | cons p ps ih => rw [cellsP, List.flatMap_cons, List.length_append]; have := setA_size p; rw [← cellsP, ih]; simp [setA_size]; omega
theorem cellsP_snoc (ps : List (Nat → Bool)) (p : Nat → Bool) : cellsP (ps ++ [p]) = cellsP ps ++ (setA p).toList := by simp [cellsP]
def OwnSets (w : World) (base : Nat) (v : Value) (ps : List (Nat → Bool)) : Prop := w.ownsRow base 60 16 v ps.length (cellsP ps)
theorem infoSet : (Try.prog.info? 60).map (fun i => (i.zero, i.size, i.bytes)) = some (some (.agg (setA fun _ => false)), 16, 128) := by rw [setA_none]; kernel_rfl

theorem wpListIn_append_set {F : Fence} {nF : Nat} {w : World} {ops : Array Oper} {rest : List Oper} {o : Oper} {a : Act} {Q : Exit → Act → World → Prop} (hgd : o.guard = none) (s x : Operand)
    (ho : o.op = .call { callee := .builtin .append, args := #[s, x], argTypes := #[56, 56] })
    (base : Nat) (v : Value) (L : List (Nat → Bool)) (hs : a.eval s = v) (hown : OwnSets w base v L) (b : Nat) (y : Nat → Bool) (hx : a.eval x = .slice (some ⟨b, 0, none⟩) 1 1) (hc : RowAt w b y)
    (hlen : L.length ≤ 1048576) (hbase : base ≤ w.heap.size)
    (h : ∀ v' w', OwnSets w' base v' (L ++ [y]) → w.grownBy w' v.ownBlock → wpListIn F nF Try.prog ops Q rest (a.put o.dst v') w') : wpListIn F nF Try.prog ops Q (o :: rest) a w := by
  obtain ⟨i0, hi, hz0, hz1, hz2⟩ := info_parts infoSet
  refine wpListIn_append_own w hgd s x 56 ho base 60 i0 (.agg (setA fun _ => false)) 16 128 Try.underlying56 hi hz0 hz1 hz2 (setA_size _) (by decide) v L.length (cellsP L) hs hown ⟨b, 0, none⟩ 1 1 (setA y).toList hx (by simp [setA_size]) ?_ ?_ (by unfold maxLen; omega) (by omega) hbase ?_
  · intro j u hj
    have hadd : (⟨b, 0, none⟩ : Addr).add j = ⟨b, j, none⟩ := by unfold Addr.add; split <;> simp_all
    rw [hadd, cell_of_row w b j _ _ _ hc]
    simpa using hj
  · intro u hu
    have := setA_one y
    rw [Array.all_eq_true] at this
    obtain ⟨k, hk, rfl⟩ := List.mem_iff_getElem.1 hu
    exact this k (by simpa using hk)
  · intro v' w' h1 h2 _
    refine h v' w' ?_ h2
    unfold OwnSets
    rw [List.length_append, cellsP_snoc]
    exact h1

theorem fill16 (z : Array Value) (hz : z.size = 16) (p : Nat → Bool) : Instr.fill (fun i => some (i * 16, 16)) z [(0, .agg (setA p))] = some (setA p) := by
  have h := Great.fill_whole (s := 16) (by decide) [.agg (setA p)] z (fun v hv => by rw [List.mem_singleton.1 hv]; exact setA_size p) (by simp [hz])
  simpa [Value.cells] using h

theorem wpListIn_build1 {F : Fence} {nF : Nat} {w : World} {ops : Array Oper} {rest : List Oper} {o : Oper} {a : Act} {Q : Exit → Act → World → Prop} (hgd : o.guard = none) (x : Operand)
    (ho : o.op = .buildSlice 56 1 #[(0, x)]) (p : Nat → Bool) (hx : a.eval x = .agg (setA p))
    (h : wpListIn F nF Try.prog ops Q rest (a.put o.dst (.slice (some ⟨w.heap.size, 0, none⟩) 1 1)) (w.alloc (.cells (setA p) 60))) : wpListIn F nF Try.prog ops Q (o :: rest) a w := by
  obtain ⟨i0, hi, hz0, hz1, hz2⟩ := info_parts infoSet
  have hb : (Instr.buildSlice 56 1 #[(0, .agg (setA p))]).run Try.prog w = .ok (.slice (some ⟨w.heap.size, 0, none⟩) 1 1) (w.alloc (.cells (setA p) 60)) :=
    run_buildSlice w 56 60 1 _ (setA p) i0 (.agg (setA fun _ => false)) Try.underlying56 hi hz0 (by rw [hz1]; decide) (by rw [hz1]; decide) (by
      rw [hz1]; exact fill16 _ (by simp) p)
  refine wpListIn_plain hgd fun K hK => ?_
  unfold Oper.wpIn
  refine ⟨by simp [Oper.about, ho], ?_⟩
  rw [Oper.semAt_plain F _ _ (by rw [ho]; intro c hc; cases hc)]
  unfold execOp
  simp only [ho, Sem.run_bind, List.map_toArray, List.map_cons, List.map_nil, hx, hb, Result.andThen_ok]
  exact hK _ _ h

theorem OwnSets.below {w w' : World} {base : Nat} {v : Value} {ps : List (Nat → Bool)} (h : OwnSets w base v ps) (hb : Below w.heap.size w w') : OwnSets w' base v ps := by
  obtain ⟨h1, h2⟩ := h
  refine ⟨h1, ?_⟩
  rcases h2 with h2 | ⟨g, cap, cur, hv, hg, hh, r⟩
  · exact Or.inl h2
  · exact Or.inr ⟨g, cap, cur, hv, hg, by rw [hb.block g (Array.getElem?_eq_some_iff.1 hh).1]; exact hh, r⟩
theorem OwnSets.alloc {w : World} {base : Nat} {v : Value} {ps : List (Nat → Bool)} (h : OwnSets w base v ps) (o : Obj) : OwnSets (w.alloc o) base v ps := World.ownsRow.alloc h o
theorem sets_some {w : World} {base : Nat} {v : Value} {ps : List (Nat → Bool)} (h : OwnSets w base v ps) (hp : ps ≠ []) : ∃ g cap, v = .slice (some ⟨g, 0, none⟩) ps.length cap := by
  rcases h.2 with ⟨hv, hn⟩ | ⟨g, cap, cur, hv, _⟩
  · exact absurd (List.eq_nil_of_length_eq_zero hn) hp
  · exact ⟨g, cap, hv⟩
theorem sets_snoc {w : World} {base : Nat} {v : Value} {ps : List (Nat → Bool)} {p : Nat → Bool} (h : OwnSets w base v (ps ++ [p])) : ∃ g cap, v = .slice (some ⟨g, 0, none⟩) (ps.length + 1) cap := by
  obtain ⟨g, cap, hv⟩ := sets_some h (by simp)
  exact ⟨g, cap, by rw [hv]; simp⟩

set_option maxHeartbeats 2000000 in
/-- slices.AppendSeq(nil, seq) over an iterator that promises its sets -/
theorem appendSets_any (gf : Nat) (lb : Array Value) (eg : ∀ args w, (callFunc gf args).run Try.prog w = .ok (.enter gf args) w) (n₀ wb sb rb : Nat) (PS : List (Nat → Bool)) (N : Nat) (hN : N ≤ 1048576) (w : World) (hn : n₀ ≤ w.heap.size) (hwb : wb < w.heap.size) (hsb : sb < w.heap.size) (hrb : rb < w.heap.size)
    (hseq : ∀ n, 1 ≤ n → Gives0 Fence.wide n Try.prog gf lb encP (KpC n₀ wb sb rb) (fun ys => ys = PS) N w) :
    Calls Try.prog 61 #[.slice none 0 0, .func (.func gf) #[] lb] w fun e w' => ∃ v, e = .returned v ∧ OwnSets w' w.heap.size v PS ∧ Below w.heap.size w w' := by
  refine (callsIn_wide (n := 6)).1 ?_
  refine callsIn_of_wp_marks Try.func61 rfl trivial ?_ rfl
  simp only [Try.ntmps61, List.size_toArray, List.length_cons, List.length_nil, Nat.reduceAdd, Nat.reduceSub, Array.replicate_succ, Array.replicate_zero, List.push_toArray, List.append_toArray, List.nil_append, List.cons_append]
  gi_wp2
  obtain ⟨w1, hw1⟩ : ∃ w1, w1 = w.alloc (.cells #[.slice none 0 0] 56) := ⟨_, rfl⟩
  have b1 : Boxed w1 w.heap.size 56 (.slice none 0 0) := by rw [hw1]; exact Boxed.new w _ _
  have B1 : Below w.heap.size w w1 := by rw [hw1]; exact (Below.refl _ w).alloc (Nat.le_refl _) _
  have s1 : w1.heap.size = w.heap.size + 1 := by rw [hw1]; simp
  rw [← hw1]
  clear hw1
  refine range_gives rfl (by omega) (gf := gf) (lb := lb) rfl trivial eg (hseq (6 - 1) (by omega)) kpC_t (kpC_g (by omega)) B1 (fun _ => rfl)
    (fun (pre : List (Nat → Bool)) W => (∃ v, Boxed W w.heap.size 56 v ∧ W.ownsRow w.heap.size 60 16 v pre.length (cellsP pre) ∧ True) ∧ (Below w.heap.size w W ∧ w1.heap.size ≤ W.heap.size))
    (fun q W => (∃ bb, w1.heap.size ≤ bb ∧ RowAt W bb q.2.1 ∧ q.2.2 = { tmps := #[.slice none 0 0, .func (.func gf) #[] lb, .pointer (some ⟨w.heap.size, 0, none⟩), undef, .slice none 0 0, .pointer (some ⟨bb, 0, none⟩), .func (.func gf) #[] lb, .agg (setA q.2.1), undef, undef, undef, undef, undef], defers := [] }) ∧ (∃ v, Boxed W w.heap.size 56 v ∧ W.ownsRow w.heap.size 60 16 v q.1.length (cellsP q.1) ∧ True) ∧ (Below w.heap.size w W ∧ w1.heap.size ≤ W.heap.size))
    ?ownI ?ownA ⟨⟨_, b1, World.ownsRow_nil _ _ _ _, trivial⟩, B1, Nat.le_refl _⟩ ?assign ?body ?done
  case ownI => exact OwnFrom.and (Own.from (holdsRow_own w.heap.size w.heap.size 56 60 16 (fun pre : List (Nat → Bool) => pre.length) (fun pre : List (Nat → Bool) => cellsP pre) (fun _ v => True)) _) (OwnFrom.and (ownFrom_below (Nat.le_refl _) B1.size) (fun _ _ _ _ hs hg _ => Nat.le_trans hs hg.size))
  case ownA =>
    refine OwnFrom.and ?_ (OwnFrom.and (Own.from (holdsRow_own w.heap.size w.heap.size 56 60 16 (fun q : List (Nat → Bool) × (Nat → Bool) × Act => q.1.length) (fun q : List (Nat → Bool) × (Nat → Bool) × Act => cellsP q.1) (fun _ v => True)) _) (OwnFrom.and (ownFrom_below (Nat.le_refl _) B1.size) (fun _ _ _ _ hs hg _ => Nat.le_trans hs hg.size)))
    rintro q A B row ⟨bb, h1, h2, h7⟩ hg hr
    exact ⟨bb, h1, (row_own bb (fun _ : Unit => q.2.1)) () A B row h2 hg (fun r e => (hr r e).2), h7⟩
  case assign =>
    intro l pre x W K ⟨⟨v, hv, hrow, _⟩, h3, h4⟩ hK
    dsimp only [encP]
    have hzW := rowz_new W rfl
    have hxW : RowAt ((W.alloc (.cells #[.int .u64 0, .int .u64 0, .int .u64 0, .int .u64 0, .int .u64 0, .int .u64 0, .int .u64 0, .int .u64 0, .int .u64 0, .int .u64 0, .int .u64 0, .int .u64 0, .int .u64 0, .int .u64 0, .int .u64 0, .int .u64 0] 60)).setRow W.heap.size (setA x)) W.heap.size x := row_set hzW
    have gW : (W.alloc (.cells #[.int .u64 0, .int .u64 0, .int .u64 0, .int .u64 0, .int .u64 0, .int .u64 0, .int .u64 0, .int .u64 0, .int .u64 0, .int .u64 0, .int .u64 0, .int .u64 0, .int .u64 0, .int .u64 0, .int .u64 0, .int .u64 0] 60)).grownBy ((W.alloc (.cells #[.int .u64 0, .int .u64 0, .int .u64 0, .int .u64 0, .int .u64 0, .int .u64 0, .int .u64 0, .int .u64 0, .int .u64 0, .int .u64 0, .int .u64 0, .int .u64 0, .int .u64 0, .int .u64 0, .int .u64 0, .int .u64 0] 60)).setRow W.heap.size (setA x)) (some W.heap.size) := grown_setRow _
    have bW : Below W.heap.size W ((W.alloc (.cells #[.int .u64 0, .int .u64 0, .int .u64 0, .int .u64 0, .int .u64 0, .int .u64 0, .int .u64 0, .int .u64 0, .int .u64 0, .int .u64 0, .int .u64 0, .int .u64 0, .int .u64 0, .int .u64 0, .int .u64 0, .int .u64 0] 60)).setRow W.heap.size (setA x)) := ((Below.refl _ W).alloc (Nat.le_refl _) _).grown gW (by simp) (fun j e => by cases e; exact Nat.le_refl _)
    gi_wp2_with (first | (refine wpListIn_st16 rfl _ _ rfl hzW x rfl rfl ?_) | fail)
    refine hK _ _ ⟨⟨W.heap.size, h4, hxW, rfl⟩, ⟨v, (bW.block _ hv.lt).trans hv, OwnSets.below hrow bW, trivial⟩, h3.trans (bW.mono h3.size), Nat.le_trans h4 bW.size⟩ bW
  case body =>
    rintro l pre x a' W ⟨⟨bb, hbb2, hx, ha⟩, ⟨v, hv, hrow, _⟩, hB', hsz⟩ hlt
    dsimp only at ha hrow hx
    subst ha
    have hc := hv.cell
    gi_wp2_with (first
      | (refine wpListIn_ld16 rfl _ rfl hx rfl ?_)
      | (refine wpListIn_build1 rfl _ rfl x rfl ?_)
      | (gi_at_builtin; refine wpListIn_append_set rfl _ _ rfl w.heap.size v pre rfl (OwnSets.alloc hrow _) W.heap.size x rfl (row_new _ _) (by omega) (by have := hB'.size; simp; omega) ?_; intro v' w3 hown' hgrow; obtain ⟨k1, k2, k3, k4, k5⟩ := hv.appended (by decide) hrow hB'.size (Nat.le_refl _) hown' hgrow; obtain ⟨g', cap', rfl⟩ := sets_snoc hown'; have hc1 := k1.cell; have hf1 := k1.frozen)
      | fail)
    exact ⟨k4.from _, ⟨k5.mono hn, fun _ _ hi => (k5.block wb hwb).trans hi, fun _ _ hi => (k5.block sb hsb).trans hi, fun _ _ hi => (k5.block rb hrb).trans hi⟩, ⟨_, k2, k3, trivial⟩, hB'.trans k5, by have := k5.size; omega⟩
  case done =>
    rintro D ys W hD rfl ⟨⟨v, hv, hrow, _⟩, hB', hsz⟩ hK
    have hc := hv.cell
    gi_wp2
    refine ⟨by simp, .inl ⟨_, _, rfl, run_takeDeferred hK, ?_⟩⟩
    exact ⟨_, results_tmp rfl _ _ _, v, rfl, ownsRow_putObj hrow _ hK rfl, hB'.trans (belowK_b (w := w1) (by omega) W D _ _ hD hK rfl rfl)⟩

/-- slices.Collect of the balls of a code -/
theorem collectBalls_any (S : List Int) (hSp : Sp S) (ao : Option Addr) (cap : Nat) (ac : Option Addr) (C : List Int) (capc : Nat) (hlen : C.length ≤ 1048576) (hC0 : ∀ i, i < C.length → 0 ≤ gi C i ∧ gi C i ≤ 9223372036854775807) (r : Int) (hr0 : 0 ≤ r) (hr8 : r ≤ 8) (wb sb rb : Nat) (w0 w1 : World) (hw01 : Below w0.heap.size w0 w1) (hS : Ints w0 ao S) (hC : Ints w0 ac C)
    (hwb : w1.heap[wb]? = some (.cells #[.slice ac C.length capc] 24 (0, 0))) (hsb : w1.heap[sb]? = some (.cells #[.slice ao S.length cap] 26 (0, 0))) (hrb : w1.heap[rb]? = some (.cells #[.int .i64 r] 2 (0, 0))) :
    Calls Try.prog 36 #[.func (.func 62) #[] #[.pointer (some ⟨wb, 0, none⟩), .pointer (some ⟨sb, 0, none⟩), .pointer (some ⟨rb, 0, none⟩)]] w1 fun e w' => ∃ v, e = .returned v ∧ OwnSets w' w1.heap.size v (C.map (ballN S r)) ∧ Below w1.heap.size w1 w' := by
  have h := appendSets_any 62 #[.pointer (some ⟨wb, 0, none⟩), .pointer (some ⟨sb, 0, none⟩), .pointer (some ⟨rb, 0, none⟩)] (enters_of Try.func62 (by kernel_rfl) rfl) w0.heap.size wb sb rb (C.map (ballN S r)) C.length hlen w1 hw01.size (Array.getElem?_eq_some_iff.1 hwb).1 (Array.getElem?_eq_some_iff.1 hsb).1 (Array.getElem?_eq_some_iff.1 hrb).1
    (fun n hn => balls_gives n hn S hSp ao cap ac C capc hlen hC0 r hr0 hr8 wb sb rb w0 w1 hw01 hS hC hwb hsb hrb)
  have HH := Lib.hid h
  clear h hwb hsb hrb hC0 hSp
  go_enter Try.func36, Try.ntmps36
  go_wp2_with fail
  refine HH.out.mono ?_
  rintro e w2 ⟨v, rfl, own, hb⟩
  go_wp2_with fail
  go_ret
  exact ⟨v, rfl, own, hb⟩

end

theorem addr_add (g o i : Nat) : (⟨g, o, none⟩ : Addr).add i = ⟨g, o + i, none⟩ := by unfold Addr.add; split <;> simp_all
def pAt (L : List (Nat → Bool)) (j : Nat) : Nat → Bool := L.getD j fun _ => false
theorem cellsP_get (L : List (Nat → Bool)) (i : Nat) (h : i < L.length * 16) : (cellsP L)[i]? = (setA (pAt L (i / 16)))[i % 16]? := by
  induction L generalizing i with
  | nil => simp at h
  | cons p L ih =>
    rw [cellsP, List.flatMap_cons, ← cellsP]
    have hp : (setA p).toList.length = 16 := by simp [setA_size]
    by_cases h16 : i < 16
    · rw [List.getElem?_append_left (by omega), Nat.div_eq_of_lt h16, Nat.mod_eq_of_lt h16]; simp [pAt]
    · rw [List.getElem?_append_right (by omega), hp, ih (i - 16) (by simp at h; omega)]
      have e1 : i / 16 = (i - 16) / 16 + 1 := by omega
      have e2 : i % 16 = (i - 16) % 16 := by omega
      rw [e1, e2]; simp [pAt]

def putCells (cur : Array Value) (o : Nat) : List Value → Array Value
  | [] => cur
  | v :: vs => putCells (cur.setIfInBounds o v) (o + 1) vs
theorem putCells_size (vs : List Value) (cur : Array Value) (o : Nat) : (putCells cur o vs).size = cur.size := by
  induction vs generalizing cur o with
  | nil => rfl
  | cons v vs ih => rw [putCells, ih]; simp
theorem putCells_get (vs : List Value) (cur : Array Value) (o : Nat) (h : o + vs.length ≤ cur.size) (k : Nat) : (putCells cur o vs)[k]? = if o ≤ k ∧ k < o + vs.length then vs[k - o]? else cur[k]? := by
  induction vs generalizing cur o with
  | nil => rw [putCells, if_neg (by simp)]
  | cons v vs ih =>
    rw [putCells, ih _ _ (by simp at h ⊢; omega)]
    simp only [List.length_cons] at h ⊢
    by_cases e : k = o
    · subst e
      rw [if_neg (by omega), if_pos (by omega), Nat.sub_self]
      simp [show k < cur.size by omega]
    · by_cases h2 : o + 1 ≤ k ∧ k < o + 1 + vs.length
      · rw [if_pos h2, if_pos (by omega), show k - o = (k - (o + 1)) + 1 by omega, List.getElem?_cons_succ]
      · rw [if_neg h2, if_neg (by omega), Array.getElem?_setIfInBounds_ne (by omega)]

theorem run_storeCells_mid (g : Nat) (t : TypeId) : ∀ (vs : List Value) (o i : Nat) (cur : Array Value) (w : World), w.heap[g]? = some (.cells cur t (0, 0)) → o + i + vs.length ≤ cur.size → (∀ v ∈ vs, v.oneCell' = true) →
    (storeCells ⟨g, o, none⟩ vs i).run Try.prog w = .ok () (w.setRow g (putCells cur (o + i) vs))
  | [], o, i, cur, w, hg, hl, _ => by
    have h := run_storeCells_from (P := Try.prog) g t [] cur.size cur w hg (by simp) (by simp)
    rw [putCells]
    simp only [storeCells] at h ⊢
    simpa [List.take_of_length_le] using h
  | v :: rest, o, i, cur, w, hg, hl, h1 => by
    simp only [List.length_cons] at hl
    have hi : o + i < cur.size := by omega
    have hcell : w.cell? ⟨g, o + i, none⟩ = some cur[o + i] := by simp [World.cell?, hg, hi]
    have hfro : w.frozen? ⟨g, o + i, none⟩ = false := by simp [World.frozen?, hg]
    have hst : (store ((⟨g, o, none⟩ : Addr).add i) v).run Try.prog w = .ok () (w.setRow g (cur.setIfInBounds (o + i) v)) := by
      rw [addr_add, run_store Try.prog w _ v _ (h1 v (by simp)), hcell]
      simp [hfro, setCell_eq_setRow w g (o + i) cur t (0, 0) v hg]
    have ih := run_storeCells_mid g t rest o (i + 1) (cur.setIfInBounds (o + i) v) (w.setRow g (cur.setIfInBounds (o + i) v)) (setRow_heap w g cur _ t _ hg) (by simp; omega) (fun x hx => h1 x (by simp [hx]))
    simp only [storeCells, Sem.run_bind, hst, Result.andThen_ok, ih, setRow_setRow, putCells]
    rfl

theorem ldAt {w : World} {g o : Nat} {p : Nat → Bool} (h : ∀ k, k < 16 → w.cell? ⟨g, o + k, none⟩ = some (.int .u64 (partN p k))) : (loadVar 60 ⟨g, o, none⟩).run Try.prog w = .ok (.agg (setA p)) w := by
  have hl : (loadCells ⟨g, o, none⟩ (setA p).toList.length).run Try.prog w = .ok (setA p).toList.toArray w :=
    run_loadCells_list (P := Try.prog) w ⟨g, o, none⟩ (setA p).toList (fun j v hv => by
      have hj : j < 16 := by
        have := (List.getElem?_eq_some_iff.1 hv).1
        simpa [setA_size] using this
      rw [addr_add, h j hj, ← setA_get p j hj]
      simpa using hv)
  cases hq : Try.prog.info? 60 with
  | none => have := info81; simp [hq] at this
  | some i =>
    have hs : i.size = 16 := by have := info81; simpa [hq] using this
    have hagg : (isAgg 60).run Try.prog w = .ok true w := by
      unfold isAgg
      rw [Sem.run_bind, run_underlying Try.underlying60 w]
      rfl
    simp only [Array.length_toList, Array.toArray_toList, setA_size] at hl
    simp [loadVar, Sem.run_bind, hagg, sizeOf, typeInfo, hq, hs, hl]
theorem exec_ldAt {a : Act} {w : World} {g q : Nat} {p : Nat → Bool} (h : ∀ k, k < 16 → w.cell? ⟨g, q + k, none⟩ = some (.int .u64 (partN p k))) (o : Oper) (x : Operand) (ho : o.op = .load 60 x) (hx : a.eval x = .pointer (some ⟨g, q, none⟩)) : (execOp a.eval o).run Try.prog w = .ok (.value (.agg (setA p))) w := by
  unfold execOp
  simp only [ho, hx, Instr.loadAt, Instr.sureAddr, Sem.run_bind, Sem.run_pure, Result.andThen_ok, ldAt h]

theorem OwnSets.cells {w : World} {base g n c : Nat} {L : List (Nat → Bool)} (h : OwnSets w base (.slice (some ⟨g, 0, none⟩) n c) L) (j : Nat) (hj : j < L.length) (k : Nat) (hk : k < 16) : w.cell? ⟨g, j * 16 + k, none⟩ = some (.int .u64 (partN (pAt L j) k)) := by
  rcases h.2 with ⟨hv, _⟩ | ⟨g', c', cur, hv, hb, hh, hle, hm, hs, ht⟩
  · simp at hv
  · simp only [Value.slice.injEq, Option.some.injEq, Addr.mk.injEq, and_true, true_and] at hv
    obtain ⟨rfl, rfl, rfl⟩ := hv
    have h1 := cellsP_get L (j * 16 + k) (by omega)
    rw [← ht, List.getElem?_take_of_lt (by omega), show (j * 16 + k) / 16 = j by omega, show (j * 16 + k) % 16 = k by omega, setA_get _ _ hk] at h1
    rw [cell_of_row w g _ _ _ _ hh]
    simpa using h1
theorem OwnSets.base_le {w : World} {base g n c : Nat} {L : List (Nat → Bool)} (h : OwnSets w base (.slice (some ⟨g, 0, none⟩) n c) L) : base ≤ g ∧ g < w.heap.size := by
  rcases h.2 with ⟨hv, _⟩ | ⟨g', c', cur, hv, hb, hh, hle, hm, hs, ht⟩
  · simp at hv
  · simp only [Value.slice.injEq, Option.some.injEq, Addr.mk.injEq, and_true, true_and] at hv
    obtain ⟨rfl, rfl, rfl⟩ := hv
    exact ⟨hb, (Array.getElem?_eq_some_iff.1 hh).1⟩
theorem pAt_set (L : List (Nat → Bool)) (j i : Nat) (p : Nat → Bool) (hj : j < L.length) : pAt (L.set j p) i = if i = j then p else pAt L i := by
  unfold pAt
  by_cases e : i = j
  · subst e; simp [List.getD, hj]
  · rw [if_neg e]; simp [List.getD, List.getElem?_set_ne (Ne.symm e)]

/-- a store of a set into the list -/
theorem OwnSets.stored {w : World} {base g n c : Nat} {L : List (Nat → Bool)} (h : OwnSets w base (.slice (some ⟨g, 0, none⟩) n c) L) (j : Nat) (hj : j < L.length) (p : Nat → Bool) :
    ∃ w2, (storeVar 60 ⟨g, j * 16, none⟩ (.agg (setA p))).run Try.prog w = .ok () w2 ∧ OwnSets w2 base (.slice (some ⟨g, 0, none⟩) n c) (L.set j p) ∧ w.grownBy w2 (some g) := by
  obtain ⟨h1, h2⟩ := h
  rcases h2 with ⟨hv, _⟩ | ⟨g', c', cur, hv, hb, hh, hle, hm, hs, ht⟩
  · simp at hv
  · simp only [Value.slice.injEq, Option.some.injEq, Addr.mk.injEq, and_true, true_and] at hv
    obtain ⟨rfl, rfl, rfl⟩ := hv
    have hlen : (setA p).toList.length = 16 := by simp [setA_size]
    have hr := run_storeCells_mid g 60 (setA p).toList (j * 16) 0 cur w hh (by rw [hlen]; omega) (fun v hv => (Array.all_eq_true_iff_forall_mem.1 (setA_one p)) v (by simpa using hv))
    refine ⟨w.setRow g (putCells cur (j * 16) (setA p).toList), ?_, ⟨?_, .inr ⟨g, c, putCells cur (j * 16) (setA p).toList, by simp, hb, setRow_heap w g _ _ _ _ hh, by simpa using hle, hm, by rw [putCells_size, hs], ?_⟩⟩, grown_setRow _⟩
    · cases hq : Try.prog.info? 60 with
      | none => have := info81; simp [hq] at this
      | some i =>
        have hsz : i.size = 16 := by have := info81; simpa [hq] using this
        simp only [Nat.add_zero] at hr
        simp [storeVar, sizeOf, typeInfo, hq, Value.cells, hsz, setA_size, hr]
    · rw [cellsP_len]
    · apply List.ext_getElem?
      intro i
      by_cases hi : i < L.length * 16
      · rw [List.getElem?_take_of_lt (by simpa using hi), cellsP_get _ _ (by simpa using hi), Array.getElem?_toList, putCells_get _ _ _ (by rw [hlen]; omega), hlen, pAt_set _ _ _ _ hj]
        by_cases e : j * 16 ≤ i ∧ i < j * 16 + 16
        · rw [if_pos e, if_pos (by omega), show i % 16 = i - j * 16 by omega]; simp
        · rw [if_neg e, if_neg (by omega), ← cellsP_get _ _ hi, ← ht, List.getElem?_take_of_lt hi, Array.getElem?_toList]
      · rw [List.getElem?_eq_none (by simp [putCells_size]; omega), List.getElem?_eq_none (by rw [cellsP_len]; simp; omega)]


theorem infoSets : (Try.prog.info? 60).map (fun i => (i.zero, i.size, i.bytes)) = some (some (.agg (setA fun _ => false)), 16, 128) := infoSet
theorem own_madeSets {w : World} {base : Nat} {v : Value} {n : Nat} (h : w.ownsRow base 60 16 v n (madeCells (Value.agg (setA fun _ => false)).cells (n * 16)).toList) : OwnSets w base v (List.replicate n fun _ => false) := by
  unfold OwnSets
  rw [List.length_replicate]
  have e : (madeCells (Value.agg (setA fun _ => false)).cells (n * 16)).toList = cellsP (List.replicate n fun _ => false) := by
    apply List.ext_getElem?
    intro i
    by_cases hi : i < n * 16
    · rw [cellsP_get _ _ (by simpa using hi)]
      have e1 : pAt (List.replicate n fun _ => false) (i / 16) = fun _ => false := by
        unfold pAt; rw [List.getD_eq_getElem?_getD, List.getElem?_replicate]; split <;> rfl
      rw [e1, Array.getElem?_toList]
      have h16 : i % 16 < (setA fun _ => false).size := by rw [setA_size]; omega
      simp only [madeCells, Value.cells, setA_size, Array.getElem?_map, Array.getElem?_range]
      rw [if_pos hi, Option.map_some, getElem!_pos (setA fun _ => false) (i % 16) h16, Array.getElem?_eq_getElem h16]
    · rw [List.getElem?_eq_none (by simp [size_madeCells]; omega), List.getElem?_eq_none (by rw [cellsP_len]; simp; omega)]
  rw [← e]; exact h

/-- the sets behind the j-th one, together -/
def behU (L : List (Nat → Bool)) (j : Nat) : Nat → Bool := unionL (L.drop (j + 1))
theorem behU_step (L : List (Nat → Bool)) (k : Nat) (h1 : 1 ≤ k) (hk : k < L.length) : (fun u => behU L k u || pAt L k u) = behU L (k - 1) := by
  funext u
  unfold behU unionL
  rw [show k - 1 + 1 = k by omega, List.drop_eq_getElem_cons hk, List.any_cons, Bool.or_comm]
  congr 1
  simp [pAt, List.getD, hk]
theorem behU_last (L : List (Nat → Bool)) (j : Nat) (h : L.length ≤ j + 1) : behU L j = fun _ => false := by
  unfold behU; rw [List.drop_eq_nil_of_le h]; rfl
theorem wp_stAt {o : Oper} {a : Act} {w w3 : World} {K : Act → World → Prop} {Q : Exit → Act → World → Prop} {g q : Nat} {p : Nat → Bool} (x y : Operand) (ho : o.op = .store 60 x y) (hx : a.eval x = .pointer (some ⟨g, q, none⟩)) (hy : a.eval y = .agg (setA p))
    (hst : (storeVar 60 ⟨g, q, none⟩ (.agg (setA p))).run Try.prog w = .ok () w3) (h : K (a.put o.dst undef) w3) : o.wp Try.prog a w K Q := by
  unfold Oper.wp execOp
  simp only [ho, hx, hy, Instr.storeAt, Instr.sureAddr, Sem.run_bind, Sem.run_pure, Result.andThen_ok, hst]
  exact h

end Go.Proofs.Ytlhapanfegjafaa

namespace Go.Proofs.Ytlhapanfegjafaa
open Go.RowKit Cv
set_option linter.unusedVariables false
set_option linter.unusedSimpArgs false
set_option maxRecDepth 100000

/-- how many numbers below n have p -/
def cntTo (p : Nat → Bool) : Nat → Nat
  | 0 => 0
  | n + 1 => cntTo p n + if p n = true then 1 else 0
theorem cntTo_le (p : Nat → Bool) (n : Nat) : cntTo p n ≤ n := by
  induction n with
  | zero => exact Nat.le_refl _
  | succ n ih => rw [cntTo]; split <;> omega
theorem bit_div (m j : Nat) : m / 2 ^ j % 2 = if m.testBit j = true then 1 else 0 := by
  rw [Nat.testBit_eq_decide_div_mod_eq]
  have : m / 2 ^ j % 2 = 0 ∨ m / 2 ^ j % 2 = 1 := by omega
  rcases this with h | h <;> simp [h]
theorem bsum_part (p : Nat → Bool) (k j : Nat) (hj : j ≤ 64) : cntTo p (64 * k) + bsum (partN p k) j = cntTo p (64 * k + j) := by
  induction j with
  | zero => rfl
  | succ j ih =>
    have h := ih (by omega)
    rw [bsum, bit_div, partN_bit p k j (by omega), ← Nat.add_assoc (64 * k) j 1, cntTo, ← h]; omega
/-- what is in p and not in q -/
def byd (p q : Nat → Bool) : Nat → Bool := fun u => p u && !q u
theorem andNot_part (p q : Nat → Bool) (k : Nat) : bits BinOp.andNot IntKind.u64 (partN p k : Int) (partN q k : Int) = (partN (byd p q) k : Int) := part_andNot p q k

set_option maxHeartbeats 1000000 in
theorem countBeyond_any (p q : Nat → Bool) (w : World) :
    Calls Try.prog 82 #[.agg (setA p), .agg (setA q)] w fun e w' => e = .returned (.int .i64 (cntTo (byd p q) 1024)) ∧ Below w.heap.size w w' := by
  have hx := (row_new w p).alloc (.cells (setA q) 60)
  have hy := rown_new (w.alloc (.cells (setA p) 60)) q (n := w.heap.size + 1) (by simp)
  have HB := Lib.hid (fun k => bsum_part (byd p q) k 64 (Nat.le_refl _))
  have HL := Lib.hid (cntTo_le (byd p q))
  have HA := Lib.hid (andNot_part p q)
  go_enter Try.func82, Try.ntmps82
  go_wp2_with (first | (refine wpList_ld16 rfl _ rfl hx rfl ?_))
  go_loopw [5, 9] (fun v i wr => ∃ k : Nat, k ≤ 16 ∧ i = .int .i64 k ∧ v = .int .i64 (cntTo (byd p q) (64 * k)) ∧ RowAt wr (w.heap.size + 1) q ∧ Below w.heap.size w wr) (fun _ i _ => 16 - (intOf i).toNat)
  case atStart => exact ⟨0, by omega, rfl, rfl, hy, by go_grown⟩
  case round =>
    clear hx hy
    obtain ⟨k, hk, rfl, rfl, hr, B⟩ := hrel
    by_cases hlt : k < 16
    · have hcx := hr.cell k hlt
      have hI := idx16 p k hlt wr
      have hO := HA.out k
      have hb := HB.out k
      have hl := HL.out (64 * k)
      have hl2 := HL.out (64 * k + 64)
      have hones := ones_any (partN (byd p q) k) (partN_lt _ _) wr
      obtain ⟨n1, h1⟩ : ∃ n1, n1 = cntTo (byd p q) (64 * k) := ⟨_, rfl⟩
      obtain ⟨n2, h2⟩ : ∃ n2, n2 = bsum (partN (byd p q) k) 64 := ⟨_, rfl⟩
      rw [← h1, ← h2] at hb
      rw [← h1] at hl ⊢
      rw [← h2] at hones
      have E : IntKind.i64.wrap ((n1 : Int) + (n2 : Int)) = ((n1 + n2 : Nat) : Int) := by rw [IntWalk.i64_in _ ⟨by omega, by omega⟩]; rfl
      have HN : Hid (((n1 + n2 : Nat) : Int) = (cntTo (byd p q) (64 * (k + 1)) : Int)) := Lib.hid (by rw [hb]; rfl)
      have kI : (k : Int) < 16 := by omega
      have k0 : (0 : Int) ≤ (k : Int) := by omega
      clear h1 h2 hb
      go_wp2_with fail
      refine hones.mono ?_
      rintro e w1 ⟨rfl, rfl⟩
      go_wp2_with fail
      go_roundw
      case rel => exact ⟨k + 1, by omega, by go_num, by rw [← HN.out]; rfl, hr, B⟩
      case measure => simp [intOf]; omega
    · have ek : Hid (k = 16) := Lib.hid (by omega)
      have kI : ¬ (k : Int) < 16 := by omega
      go_wp2_with fail
      go_ret
      exact ⟨by rw [show (1024 : Nat) = 64 * k by rw [ek.out]]; rfl, B⟩

/-- the greatest of the first k numbers, and where it is first -/
def mbV (f : Nat → Nat) : Nat → Nat
  | 0 => 0
  | k + 1 => if mbV f k < f k then f k else mbV f k
def mbI (f : Nat → Nat) : Nat → Nat
  | 0 => 0
  | k + 1 => if mbV f k < f k then k else mbI f k
theorem mb_step (f : Nat → Nat) (k : Nat) : mbV f (k + 1) = (if mbV f k < f k then f k else mbV f k) ∧ mbI f (k + 1) = (if mbV f k < f k then k else mbI f k) := ⟨rfl, rfl⟩
theorem mbI_lt (f : Nat → Nat) (k : Nat) (hk : 0 < k) : mbI f k < k := by
  induction k with
  | zero => omega
  | succ k ih =>
    rw [mbI]
    split
    · omega
    · cases k with
      | zero => simp [mbI]
      | succ k => have := ih (by omega); omega
theorem mbV_le (f : Nat → Nat) (b : Nat) (h : ∀ j, f j ≤ b) (k : Nat) : mbV f k ≤ b := by
  induction k with
  | zero => exact Nat.zero_le _
  | succ k ih => rw [mbV]; have := h k; split <;> omega
theorem wpList_ldAt {ops : Array Oper} {rest : List Oper} {o : Oper} {a : Act} {w : World} {Q : Exit → Act → World → Prop} (hgd : o.guard = none) (x : Operand) (ho : o.op = .load 60 x) {g q : Nat} {p : Nat → Bool}
    (hc : ∀ k, k < 16 → w.cell? ⟨g, q + k, none⟩ = some (.int .u64 (partN p k))) (hx : a.eval x = .pointer (some ⟨g, q, none⟩)) (h : wpList Try.prog ops Q rest (a.put o.dst (.agg (setA p))) w) : wpList Try.prog ops Q (o :: rest) a w :=
  wpList_plain hgd fun _ hK => by
    unfold Oper.wp execOp
    simp only [ho, hx, Instr.loadAt, Instr.sureAddr, Sem.run_bind, Sem.run_pure, Result.andThen_ok, ldAt hc]
    exact hK _ _ h

set_option maxHeartbeats 1000000 in
theorem mostBeyond_any (base g c K : Nat) (PS : List (Nat → Bool)) (q : Nat → Bool) (hK : K = PS.length) (hl : K ≤ 1048576) (h1 : 1 ≤ K) (w : World) (hbs : base ≤ w.heap.size) (hS : OwnSets w base (.slice (some ⟨g, 0, none⟩) K c) PS) :
    Calls Try.prog 67 #[.slice (some ⟨g, 0, none⟩) K c, .agg (setA q)] w fun e w' => e = .returned (.int .i64 (mbI (fun j => cntTo (byd (pAt PS j) q) 1024) K)) ∧ Below w.heap.size w w' := by
  have hy := row_new w q
  have B0 : Below w.heap.size w (w.alloc (.cells (setA q) 60)) := by go_grown
  obtain ⟨f, hf⟩ : ∃ f : Nat → Nat, f = fun j => cntTo (byd (pAt PS j) q) 1024 := ⟨_, rfl⟩
  rw [← hf]
  have HF := Lib.hid (fun j => congrFun hf j)
  have HFb : Hid (∀ j, f j ≤ 1024) := Lib.hid fun j => by rw [hf]; exact cntTo_le _ _
  have HCB := Lib.hid (fun p w => countBeyond_any p q w)
  have HVb := Lib.hid (fun k => mbV_le f 1024 HFb.out k)
  have HIl := Lib.hid (mbI_lt f)
  have HC : Hid (∀ j, j < K → ∀ k, k < 16 → w.cell? ⟨g, j * 16 + k, none⟩ = some (.int .u64 (partN (pAt PS j) k))) := Lib.hid fun j hj k hk => hS.cells j (by rw [← hK]; exact hj) k hk
  have hg := hS.base_le
  clear hf hS hK
  go_enter Try.func67, Try.ntmps67
  go_wp2_with fail
  go_loopw [5, 6, 12] (fun b v i wr => ∃ k : Nat, k ≤ K ∧ i = .int .i64 k ∧ v = .int .i64 (mbV f k) ∧ b = .int .i64 (mbI f k) ∧ RowAt wr w.heap.size q ∧ Below w.heap.size w wr) (fun _ _ i _ => K - (intOf i).toNat)
  case atStart => exact ⟨0, Nat.zero_le _, rfl, rfl, rfl, hy, B0⟩
  case round =>
    clear hy B0
    obtain ⟨k, hk, rfl, rfl, rfl, hr, B⟩ := hrel
    by_cases hlt : k < K
    · have hck : ∀ j, j < 16 → wr.cell? ⟨g, k * 16 + j, none⟩ = some (.int .u64 (partN (pAt PS k) j)) := fun j hj => kept_cell B (HC.out k hlt j hj) hg.2
      have kI : (k : Int) < (K : Int) := by omega
      have k0 : (0 : Int) ≤ (k : Int) := by omega
      have sB := B.size
      have hrl := hr.lt
      have hcall := HCB.out (pAt PS k)
      have hfk := HF.out k
      have hst := mb_step f k
      obtain ⟨x, hx⟩ : ∃ x, x = f k := ⟨_, rfl⟩
      rw [← hx] at hfk hst
      have hxb : x ≤ 1024 := by rw [hx]; exact HFb.out k
      have hvb := HVb.out k
      obtain ⟨v, hv⟩ : ∃ v, v = mbV f k := ⟨_, rfl⟩
      rw [← hv] at hst hvb ⊢
      obtain ⟨P, hP⟩ : ∃ P, P = pAt PS k := ⟨_, rfl⟩
      rw [← hP] at hck hcall hfk
      have HFK := Lib.hid hfk
      have HST := Lib.hid hst
      clear hx hv hP hfk hst
      go_wp2_with (first | refine wpList_ldAt rfl _ rfl hck rfl ?_ | (refine wpList_st16 rfl _ _ rfl (rowz_new wr rfl) P rfl rfl ?_; have hz := row_set (q := P) (rowz_new wr rfl); have hb1 : Below wr.heap.size wr ((wr.alloc (.cells #[.int .u64 0, .int .u64 0, .int .u64 0, .int .u64 0, .int .u64 0, .int .u64 0, .int .u64 0, .int .u64 0, .int .u64 0, .int .u64 0, .int .u64 0, .int .u64 0, .int .u64 0, .int .u64 0, .int .u64 0, .int .u64 0] 60)).setRow wr.heap.size (setA P)) := ((Below.refl _ _).alloc (Nat.le_refl _) _).grown (grown_setRow _) (by simp) (by intro z hz; cases hz; exact Nat.le_refl _); obtain ⟨w1, hw1⟩ : ∃ w1, w1 = (wr.alloc (.cells #[.int .u64 0, .int .u64 0, .int .u64 0, .int .u64 0, .int .u64 0, .int .u64 0, .int .u64 0, .int .u64 0, .int .u64 0, .int .u64 0, .int .u64 0, .int .u64 0, .int .u64 0, .int .u64 0, .int .u64 0, .int .u64 0] 60)).setRow wr.heap.size (setA P) := ⟨_, rfl⟩; have s1 : wr.heap.size < w1.heap.size := (by rw [hw1]; simp); rw [← hw1] at hz hb1 ⊢; clear hw1; have hr1 := hr.below hb1 (by omega)) | refine wpList_ld16 rfl _ rfl hz rfl ?_ | refine wpList_ld16 rfl _ rfl hr1 rfl ?_)
      refine (hcall w1).mono ?_
      rintro e w2 ⟨rfl, hb2⟩
      rw [← HFK.out]
      have hr2 := hr1.below hb2 (by omega)
      have B2 := B.trans ((hb1.trans (hb2.mono hb1.size)).mono sB)
      clear hcall hb1 hb2 hr1 hz hr B hck
      by_cases hvx : v < x
      · have hgt : (v : Int) < (x : Int) := by omega
        rw [if_pos hvx, if_pos hvx] at HST
        go_wp2_with fail
        go_roundw
        case rel => exact ⟨k + 1, by omega, by go_num, by rw [HST.out.1], by rw [HST.out.2], hr2, B2⟩
        case measure => simp [intOf]; omega
      · have hgt : ¬ (v : Int) < (x : Int) := by omega
        rw [if_neg hvx, if_neg hvx] at HST
        go_wp2_with fail
        go_roundw
        case rel => exact ⟨k + 1, by omega, by go_num, by rw [HST.out.1], by rw [HST.out.2], hr2, B2⟩
        case measure => simp [intOf]; omega
    · have ek : k = K := by omega
      subst ek
      have kI : ¬ (k : Int) < (k : Int) := by omega
      go_wp2_with fail
      go_ret
      exact ⟨rfl, B⟩

end Go.Proofs.Ytlhapanfegjafaa

namespace Go.Proofs.Ytlhapanfegjafaa
open Cv
set_option linter.unusedVariables false
set_option linter.unusedSimpArgs false

theorem cntTo_pos {p : Nat → Bool} {n u : Nat} (hu : u < n) (h : p u = true) : 0 < cntTo p n := by
  induction n with
  | zero => omega
  | succ n ih =>
    rw [cntTo]
    by_cases e : u = n
    · subst e; rw [if_pos h]; omega
    · have := ih (by omega); omega
theorem cntTo_ex {p : Nat → Bool} {n : Nat} (h : 0 < cntTo p n) : ∃ u, u < n ∧ p u = true := by
  induction n with
  | zero => simp [cntTo] at h
  | succ n ih =>
    rw [cntTo] at h
    by_cases e : p n = true
    · exact ⟨n, by omega, e⟩
    · rw [if_neg e, Nat.add_zero] at h
      obtain ⟨u, hu, hp⟩ := ih h
      exact ⟨u, by omega, hp⟩
theorem cntTo_mono {p q : Nat → Bool} (h : ∀ u, p u = true → q u = true) (n : Nat) : cntTo p n ≤ cntTo q n := by
  induction n with
  | zero => exact Nat.le_refl _
  | succ n ih =>
    rw [cntTo, cntTo]
    by_cases e : p n = true
    · rw [if_pos e, if_pos (h n e)]; omega
    · rw [if_neg e]; split <;> omega
theorem cntTo_less {p q : Nat → Bool} (h : ∀ u, p u = true → q u = true) {n u : Nat} (hu : u < n) (h1 : p u = false) (h2 : q u = true) : cntTo p n < cntTo q n := by
  induction n with
  | zero => omega
  | succ n ih =>
    rw [cntTo, cntTo]
    by_cases e : u = n
    · subst e
      have := cntTo_mono h u
      rw [if_neg (by rw [h1]; decide), if_pos h2]; omega
    · have := ih (by omega)
      by_cases e2 : p n = true
      · rw [if_pos e2, if_pos (h n e2)]; omega
      · rw [if_neg e2]; split <;> omega
theorem mbV_ge (f : Nat → Nat) (k j : Nat) (hj : j < k) : f j ≤ mbV f k := by
  induction k with
  | zero => omega
  | succ k ih =>
    rw [mbV]
    by_cases e : j = k
    · subst e; split <;> omega
    · have := ih (by omega); split <;> omega
theorem mbI_at (f : Nat → Nat) (k : Nat) (h : 0 < mbV f k) : mbI f k < k ∧ f (mbI f k) = mbV f k := by
  induction k with
  | zero => simp [mbV] at h
  | succ k ih =>
    rw [mbV] at h ⊢
    rw [mbI]
    by_cases e : mbV f k < f k
    · rw [if_pos e, if_pos e]; exact ⟨by omega, rfl⟩
    · rw [if_neg e] at h
      have := ih h
      rw [if_neg e, if_neg e]; exact ⟨by omega, this.2⟩

/-- how many words a set has beyond those covered -/
def gF (F : Nat → Nat → Bool) (c : Nat → Bool) (j : Nat) : Nat := cntTo (byd (F j) c) 1024
def grDone (c : Nat → Bool) (N : Nat) : Bool := decide (∀ u, u < N → c u = true)
/-- the word that is put to the code next, and what is covered then -/
def grW (F : Nat → Nat → Bool) (N : Nat) (c : Nat → Bool) : Nat := mbI (gF F c) N
def grC (F : Nat → Nat → Bool) (N : Nat) (c : Nat → Bool) : Nat → Bool := fun u => c u || F (grW F N c) u
/-- the greedy code's words in the order in which they come -/
def grRun (F : Nat → Nat → Bool) (N : Nat) : Nat → (Nat → Bool) → List Int → List Int
  | 0, _, L => L
  | n + 1, c, L => if grDone c N = true then L else grRun F N n (grC F N c) (L ++ [(grW F N c : Int)])
/-- how many words are not covered -/
def uc (c : Nat → Bool) (N : Nat) : Nat := cntTo (fun u => !c u) N
/-- sets around words: each has its own word, and words alone -/
structure Arnd (F : Nat → Nat → Bool) (N : Nat) : Prop where
  own : ∀ w, w < N → F w w = true
  wd : ∀ w u, F w u = true → u < N
  n1 : N ≤ 1024
theorem gr_pick {F : Nat → Nat → Bool} {N : Nat} (hF : Arnd F N) {c : Nat → Bool} (h : grDone c N = false) : grW F N c < N ∧ 0 < gF F c (grW F N c) ∧ ∀ j, j < N → gF F c j ≤ gF F c (grW F N c) := by
  have hu : ∃ u, u < N ∧ c u = false := by
    apply Classical.byContradiction
    intro g
    have : grDone c N = true := by
      unfold grDone
      rw [decide_eq_true_eq]
      intro u hu
      cases e : c u with
      | true => rfl
      | false => exact absurd ⟨u, hu, e⟩ g
    rw [this] at h; cases h
  obtain ⟨u, hu, hc⟩ := hu
  have h1 : 0 < gF F c u := cntTo_pos (u := u) (by have := hF.n1; omega) (by unfold byd; rw [hF.own u hu, hc]; rfl)
  have h2 := mbV_ge (gF F c) N u hu
  have h3 := mbI_at (gF F c) N (by omega)
  exact ⟨h3.1, by show 0 < gF F c (mbI (gF F c) N); rw [h3.2]; omega, fun j hj => by show _ ≤ gF F c (mbI (gF F c) N); rw [h3.2]; exact mbV_ge _ _ _ hj⟩
theorem gr_less {F : Nat → Nat → Bool} {N : Nat} (hF : Arnd F N) {c : Nat → Bool} (h : grDone c N = false) : uc (grC F N c) N < uc c N := by
  obtain ⟨_, h2, _⟩ := gr_pick hF h
  obtain ⟨u, _, hb⟩ := cntTo_ex h2
  simp only [byd, Bool.and_eq_true, Bool.not_eq_true'] at hb
  refine cntTo_less (u := u) (fun v hv => ?_) (hF.wd _ _ hb.1) ?_ (by simp [hb.2])
  · simp only [grC, Bool.not_or, Bool.and_eq_true] at hv; exact hv.1
  · simp [grC, hb.1]
/-- the words that are in the code already -/
structure GrI (F : Nat → Nat → Bool) (N : Nat) (c : Nat → Bool) (L : List Int) : Prop where
  wd : ∀ x, x ∈ L → 0 ≤ x ∧ x < N
  cov : ∀ x, x ∈ L → ∀ u, F x.toNat u = true → c u = true
  nd : L.Nodup
theorem gri_0 (F : Nat → Nat → Bool) (N : Nat) (c : Nat → Bool) : GrI F N c [] := ⟨by simp, by simp, by simp⟩
theorem gri_step {F : Nat → Nat → Bool} {N : Nat} (hF : Arnd F N) {c : Nat → Bool} {L : List Int} (g : GrI F N c L) (h : grDone c N = false) : ((grW F N c : Nat) : Int) ∉ L ∧ GrI F N (grC F N c) (L ++ [(grW F N c : Int)]) := by
  obtain ⟨h1, h2, _⟩ := gr_pick hF h
  have hn : ((grW F N c : Nat) : Int) ∉ L := fun hm => by
    obtain ⟨u, _, hb⟩ := cntTo_ex h2
    simp only [byd, Bool.and_eq_true, Bool.not_eq_true'] at hb
    have := g.cov _ hm u (by rw [Int.toNat_natCast]; exact hb.1)
    rw [this] at hb; cases hb.2
  refine ⟨hn, fun x hx => ?_, fun x hx u hu => ?_, ?_⟩
  · rcases List.mem_append.1 hx with hx | hx
    · exact g.wd x hx
    · rw [List.mem_singleton] at hx; subst hx; omega
  · rcases List.mem_append.1 hx with hx | hx
    · simp [grC, g.cov x hx u hu]
    · rw [List.mem_singleton] at hx; subst hx
      rw [Int.toNat_natCast] at hu
      simp [grC, hu]
  · rw [List.nodup_append]
    refine ⟨g.nd, by simp, fun x hx y hy e => ?_⟩
    rw [List.mem_singleton] at hy; subst hy; subst e; exact hn hx
theorem gri_len {F : Nat → Nat → Bool} {N : Nat} {c : Nat → Bool} {L : List Int} (g : GrI F N c L) : L.length ≤ N := by
  have := nd_len g.nd (fun x hx => (mem_upI N x).2 (g.wd x hx))
  rwa [upI_len] at this
theorem uc_le (c : Nat → Bool) (N : Nat) : uc c N ≤ N := cntTo_le _ _
theorem grRun_done {F : Nat → Nat → Bool} {N n : Nat} {c : Nat → Bool} {L : List Int} (h : grDone c N = true) : grRun F N n c L = L := by
  cases n with
  | zero => rfl
  | succ n => rw [grRun, if_pos h]
theorem grRun_step {F : Nat → Nat → Bool} {N n : Nat} {c : Nat → Bool} {L : List Int} (h : grDone c N = false) : grRun F N (n + 1) c L = grRun F N n (grC F N c) (L ++ [(grW F N c : Int)]) := by
  rw [grRun, if_neg (by rw [h]; decide)]
/-- the greedy code, with its words as they come -/
def grL (F : Nat → Nat → Bool) (N : Nat) : List Int := grRun F N (N + 1) (fun _ => false) []

end Go.Proofs.Ytlhapanfegjafaa

namespace Go.Proofs.Ytlhapanfegjafaa
open Go.RowKit Cv
set_option linter.unusedVariables false
set_option linter.unusedSimpArgs false
set_option maxRecDepth 100000

/-- whether two sets have the same bits -/
def eqS (p q : Nat → Bool) : Bool := (List.range' 0 16 1).all fun k => ((partN p k : Nat) : Int) == ((partN q k : Nat) : Int)
theorem eqS_iff (p q : Nat → Bool) : eqS p q = true ↔ ∀ u, u < 1024 → p u = q u := by
  unfold eqS
  rw [List.all_eq_true]
  constructor
  · intro h
    refine partsL_inj (p := p) (q := q) ?_
    refine ext_gi (by rw [partsL_len, partsL_len]) fun i hi => ?_
    rw [partsL_len] at hi
    rw [gi_partsL p i hi, gi_partsL q i hi]
    have := h i (by rw [List.mem_range'_1]; omega)
    simpa using this
  · intro h k hk
    have hk' : k < 16 := by rw [List.mem_range'_1] at hk; omega
    have e : gi (partsL p) k = gi (partsL q) k := by rw [partsL_ext h]
    rw [gi_partsL p k hk', gi_partsL q k hk'] at e
    simpa using e

theorem run_eqSet (p q : Nat → Bool) (w : World) : (Op.equalIn 10000 60 (.agg (setA p)) (.agg (setA q))).run Try.prog w = .ok (eqS p q) w := by
  have he := Try.underlying58
  have hsz := Try.sizeOf58
  have ha := Try.isAgg58
  rw [show (10000 : Nat) = 9998 + 1 + 1 from rfl, Op.equalIn]
  simp only [Sem.run_bind, run_underlying Try.underlying60, Result.andThen_ok, hsz, Std.Legacy.Range.forIn_eq_forIn_range', Std.Legacy.Range.size, Nat.sub_zero, Nat.add_sub_cancel, Nat.div_one]
  unfold eqS
  have hl : ∀ i ∈ List.range' 0 16 1, i < 16 := fun i hi => by rw [List.mem_range'_1] at hi; omega
  generalize List.range' 0 16 1 = l at hl ⊢
  induction l with
  | nil => simp
  | cons i l ih =>
    have hi : i < 16 := hl i (by simp)
    have px : (part 58 (setA p) (i * 1)).run Try.prog w = .ok (.int .u64 (partN p i)) w := by
      simp [part, ha, setA_get p i hi]
    have py : (part 58 (setA q) (i * 1)).run Try.prog w = .ok (.int .u64 (partN q i)) w := by
      simp [part, ha, setA_get q i hi]
    have pe := run_equalIn_int (P := Try.prog) (w := w) 9998 58 .u64 .u64 (partN p i : Int) (partN q i : Int) he
    simp only [List.forIn_cons, Sem.run_bind, px, py, pe, Result.andThen_ok, List.all_cons]
    cases hb : (((partN p i : Nat) : Int) == ((partN q i : Nat) : Int))
    · simp
    · simp only [Bool.not_true, Bool.false_eq_true, if_false, Sem.run_pure, Result.andThen_ok, Bool.true_and]
      exact ih fun j hj => hl j (by simp [hj])

theorem guardSet : Try.prog.eqGuardType Try.prog.depth 60 = false := by kernel_rfl
theorem exec_eqSet {a : Act} {w : World} {p q : Nat → Bool} (o : Oper) (x y : Operand) {t : TypeId} (ho : o.op = .binOp .eql 60 x y t) (hx : a.eval x = .agg (setA p)) (hy : a.eval y = .agg (setA q)) :
    (execOp a.eval o).run Try.prog w = .ok (.value (.bool (eqS p q))) w := by
  unfold execOp
  simp only [ho, hx, hy, Sem.run_bind, Sem.run_pure, Result.andThen_ok, run_eqGuard_agg w _ _ _ _ _ _ guardSet, binOp, Op.equal, Op.maxDepth, run_eqSet]
theorem exec_neSet {a : Act} {w : World} {p q : Nat → Bool} (o : Oper) (x y : Operand) {t : TypeId} (ho : o.op = .binOp .neq 60 x y t) (hx : a.eval x = .agg (setA p)) (hy : a.eval y = .agg (setA q)) :
    (execOp a.eval o).run Try.prog w = .ok (.value (.bool (!eqS p q))) w := by
  unfold execOp
  simp only [ho, hx, hy, Sem.run_bind, Sem.run_pure, Result.andThen_ok, run_eqGuard_agg w _ _ _ _ _ _ guardSet, binOp, Op.equal, Op.maxDepth, run_eqSet]
theorem quiet_exec {P : Program} {o : Oper} {a : Act} {C : World → Prop} {K : Act → Prop} (v : Value) (h : ∀ w, C w → (execOp a.eval o).run P w = .ok (.value v) w) (hk : K (a.put o.dst v)) : o.quiet P a C K :=
  ⟨v, fun w hw => by unfold Oper.quietAt; rw [h w hw]; exact ⟨rfl, rfl⟩, hk⟩

end Go.Proofs.Ytlhapanfegjafaa
