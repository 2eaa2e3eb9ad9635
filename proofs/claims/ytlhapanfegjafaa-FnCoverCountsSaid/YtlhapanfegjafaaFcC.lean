/-
  Merged texts: Seq, GrW, AllW, GrI, GrT, PutN, Make, Bool, GrS. Never import this beside one of them. By an AI agent.
-/
import Derived.Test.YtlhapanfegjafaaFcB
import Derived.Test.YtlhapanfegjafaaSort
import Derived.Deep.RegionHeld3
import Derived.Test.YtlhapanfegjafaaWords
import Derived.Test.YtlhapanfegjafaaAppend
import Derived.Test.YtlhapanfegjafaaAppendAt
import Derived.Test.YtlhapanfegjafaaErr2
import Derived.Test.YtlhapanfegjafaaMathB
import Derived.Test.YtlhapanfegjafaaPut
import Derived.Test.YtlhapanfegjafaaMem
import Derived.Test.YtlhapanfegjafaaSums
import Derived.Test.YtlhapanfegjafaaSpace
import Derived.Test.YtlhapanfegjafaaBall2
import Derived.Test.YtlhapanfegjafaaSize
import Derived.BigQuiet
import Derived.Deep.CutRange
namespace Go.Proofs.Ytlhapanfegjafaa
open Go.RowKit Go.Shelf Cv
set_option linter.unusedVariables false
set_option linter.unusedSimpArgs false
set_option maxRecDepth 100000

attribute [local go_sem] Oper.semAt_some

def encI (x : Int) : Array Value := #[.int .i64 x]

set_option maxHeartbeats 2000000 in
/-- slices.AppendSeq(nil, seq) over an iterator that promises its numbers -/
theorem appendSeq_any (gf : Nat) (lb : Array Value) (eg : ∀ args w, (callFunc gf args).run Try.prog w = .ok (.enter gf args) w) (S : List Int → Prop) (N : Nat) (hN : N ≤ 16777216) (w : World) (hseq : ∀ n, 1 ≤ n → Gives0 Fence.wide n Try.prog gf lb encI (Below w.heap.size) S N w) :
    Calls Try.prog 79 #[.slice none 0 0, .func (.func gf) #[] lb] w fun e w' => ∃ v L, e = .returned v ∧ S L ∧ OwnInts w' w.heap.size v L ∧ Below w.heap.size w w' := by
  refine (callsIn_wide (n := 6)).1 ?_
  refine callsIn_of_wp_marks Try.func79 rfl trivial ?_ rfl
  simp only [Try.ntmps79, List.size_toArray, List.length_cons, List.length_nil, Nat.reduceAdd, Nat.reduceSub, Array.replicate_succ, Array.replicate_zero, List.push_toArray, List.append_toArray, List.nil_append, List.cons_append]
  gi_wp2
  obtain ⟨w1, hw1⟩ : ∃ w1, w1 = w.alloc (.cells #[.slice none 0 0] 24) := ⟨_, rfl⟩
  have b1 : Boxed w1 w.heap.size 24 (.slice none 0 0) := by rw [hw1]; exact Boxed.new w _ _
  have B1 : Below w.heap.size w w1 := by rw [hw1]; exact (Below.refl _ w).alloc (Nat.le_refl _) _
  have s1 : w1.heap.size = w.heap.size + 1 := by rw [hw1]; simp
  rw [← hw1]
  clear hw1
  refine range_gives rfl (by omega) (gf := gf) (lb := lb) rfl trivial eg (hseq (6 - 1) (by omega)) (fun h k => h.trans k)
    (fun A B row hg hr hA => (Below.refl _ A).grown hg (by omega) (fun k e => by have := (hr k e).1; omega)) B1 (fun _ => rfl)
    (fun (pre : List Int) W => (∃ v, Boxed W w.heap.size 24 v ∧ W.ownsRow w.heap.size 2 1 v pre.length (pre.map (Value.int .i64)) ∧ True) ∧ (Below w.heap.size w W ∧ w1.heap.size ≤ W.heap.size))
    (fun q W => ((∃ v, Boxed W w.heap.size 24 v ∧ W.ownsRow w.heap.size 2 1 v q.1.length (q.1.map (Value.int .i64)) ∧ True) ∧ (Below w.heap.size w W ∧ w1.heap.size ≤ W.heap.size)) ∧ q.2.2 = { tmps := #[.slice none 0 0, .func (.func gf) #[] lb, .pointer (some ⟨w.heap.size, 0, none⟩), undef, .slice none 0 0, .int .i64 q.2.1, .func (.func gf) #[] lb, .int .i64 q.2.1, undef, undef, undef, undef, undef], defers := [] })
    ?ownI ?ownA ⟨⟨_, b1, World.ownsRow_nil _ _ _ _, trivial⟩, B1, Nat.le_refl _⟩ ?assign ?body ?done
  case ownI => exact OwnFrom.and (Own.from (holdsRow_own w.heap.size w.heap.size 24 2 1 (fun pre : List Int => pre.length) (fun pre : List Int => pre.map (Value.int .i64)) (fun _ v => True)) _) (OwnFrom.and (ownFrom_below (Nat.le_refl _) B1.size) (fun _ _ _ _ hs hg _ => Nat.le_trans hs hg.size))
  case ownA => exact OwnFrom.and (OwnFrom.and (Own.from (holdsRow_own w.heap.size w.heap.size 24 2 1 (fun q : List Int × Int × Act => q.1.length) (fun q : List Int × Int × Act => q.1.map (Value.int .i64)) (fun _ v => True)) _) (OwnFrom.and (ownFrom_below (Nat.le_refl _) B1.size) (fun _ _ _ _ hs hg _ => Nat.le_trans hs hg.size))) (ownFrom_pure _ _)
  case assign =>
    intro l pre x W K h hK
    dsimp only [encI]
    gi_wp2
    exact hK _ _ ⟨h, rfl⟩ (Below.refl _ _)
  case body =>
    rintro l pre x a' W ⟨⟨⟨v, hv, hrow, _⟩, hB', hsz⟩, ha⟩ hlt
    dsimp only at ha hrow
    subst ha
    have hc := hv.cell
    gi_wp2_with (gi_at_builtin; refine wpListIn_append_int_at rfl _ _ rfl w.heap.size _ _ rfl (OwnInts.alloc hrow _) W.heap.size _ rfl (cell_new _ _ _) (by omega) (by have := hB'.size; simp; omega) ?_; intro v' w3 hown' hgrow hat; obtain ⟨k1, k2, k3, k4, k5⟩ := hv.appended (by decide) hrow hB'.size (Nat.le_refl _) hown' hgrow; obtain ⟨g', cap', rfl⟩ := own_snoc hown'; have hc1 := k1.cell; have hf1 := k1.frozen)
    exact ⟨k4.from _, k5, ⟨_, k2, k3, trivial⟩, hB'.trans k5, by have := k5.size; omega⟩
  case done =>
    rintro D ys W hD HS ⟨⟨v, hv, hrow, _⟩, hB', hsz⟩ hK
    have hc := hv.cell
    gi_wp2
    refine ⟨by simp, .inl ⟨_, _, rfl, run_takeDeferred hK, ?_⟩⟩
    exact ⟨_, results_tmp rfl _ _ _, v, ys, rfl, HS, ownsRow_putObj hrow _ hK rfl, hB'.trans (belowK_b (w := w1) (by omega) W D _ _ hD hK rfl rfl)⟩

theorem collect_any (gf : Nat) (lb : Array Value) (eg : ∀ args w, (callFunc gf args).run Try.prog w = .ok (.enter gf args) w) (S : List Int → Prop) (N : Nat) (hN : N ≤ 16777216) (w : World) (hseq : ∀ n, 1 ≤ n → Gives0 Fence.wide n Try.prog gf lb encI (Below w.heap.size) S N w) :
    Calls Try.prog 64 #[.func (.func gf) #[] lb] w fun e w' => ∃ v L, e = .returned v ∧ S L ∧ OwnInts w' w.heap.size v L ∧ Below w.heap.size w w' := by
  go_enter Try.func64, Try.ntmps64
  go_wp2_with fail
  refine (appendSeq_any gf lb eg S N hN w hseq).mono ?_
  rintro e w1 ⟨v, L, rfl, hS, own, hb⟩
  go_wp2_with fail
  go_ret
  exact ⟨v, L, rfl, hS, own, hb⟩

end Go.Proofs.Ytlhapanfegjafaa

namespace Go.Proofs.Ytlhapanfegjafaa
open Go.RowKit Go.Shelf Cv
set_option linter.unusedVariables false
set_option linter.unusedSimpArgs false

/-- what bears changes of whatever is no cells at or beyond B, and of the m blocks from B on -/
def OwnBar {β : Type} (B m : Nat) (I : β → World → Prop) : Prop :=
  ∀ s W W' row, I s W → W.grownBy W' row → (∀ r, row = some r → B ≤ r ∧ (r < B + m ∨ ∃ o : Obj, W.heap[r]? = some o ∧ o.isCells = false)) → I s W'
theorem OwnBar.and {β : Type} {B m : Nat} {I I' : β → World → Prop} (h : OwnBar B m I) (h' : OwnBar B m I') : OwnBar B m (fun s W => I s W ∧ I' s W) := fun s W W' row hs hg hr => ⟨h s W W' row hs.1 hg hr, h' s W W' row hs.2 hg hr⟩
theorem OwnBar.putObj {β : Type} {B m : Nat} {I : β → World → Prop} (h : OwnBar B m I) {s : β} {W : World} {l : Nat} {o : Obj} (o' : Obj) (hs : I s W) (hB : B ≤ l) (hl : W.heap[l]? = some o) (ho : o.isCells = false) : I s (W.putObj l o') :=
  h s W _ (some l) hs (grownBy_putObj' W l o') (fun r e => by cases e; exact ⟨hB, .inr ⟨o, hl, ho⟩⟩)
theorem ownBar_pure {β : Type} (B m : Nat) (p : β → Prop) : OwnBar B m (fun s (_ : World) => p s) := fun _ _ _ _ hs _ _ => hs
theorem ownBar_below {β : Type} {B m n : Nat} {w₀ : World} (hn : n ≤ B) (hs : n ≤ w₀.heap.size) : OwnBar B m (fun (_ : β) W => Below n w₀ W) := fun _ A C row h hg hr => h.grown hg (by have := h.size; omega) (fun k e => by have := (hr k e).1; omega)
/-- the blocks of a span lie as they lay -/
def Span (B m : Nat) (W W' : World) : Prop := ∀ b, B ≤ b → b < B + m → b < W.heap.size → W'.heap[b]? = W.heap[b]?
theorem Span.trans {B m : Nat} {X Y Z : World} (h : Span B m X Y) (k : Span B m Y Z) (hs : X.heap.size ≤ Y.heap.size) : Span B m X Z := fun b h1 h2 h3 => (k b h1 h2 (by omega)).trans (h b h1 h2 h3)
theorem span_below {B m : Nat} {W W' : World} (h : Below W.heap.size W W') : Span B m W W' := fun b _ _ h3 => h.block b h3
theorem span_row {B m : Nat} {W W' : World} {row : Option Nat} (hg : W.grownBy W' row) (hr : ∀ r, row = some r → r < B ∨ B + m ≤ r) : Span B m W W' := fun b h1 h2 h3 => hg.block b h3 (fun e => by have := hr b e.symm; omega)

/-- an iterator that yields the values of S, or those of Sp to rounds that end it, and keeps m blocks of its own -/
def Gives2 {α : Type} (F : Fence) (n : Nat) (P : Program) (g : Nat) (lb : Array Value) (encs : α → Array Value) (Kp : World → World → Prop) (S Sp : List α → Prop) (N m : Nat) (w : World) : Prop :=
  ∀ (l : Nat) (J Jx : List α → World → Prop) (W : World), Below w.heap.size w W → OwnBar W.heap.size m J → OwnBar W.heap.size m Jx →
    (∀ pre x W1, J pre W1 → pre.length < N → W.heap.size + m ≤ W1.heap.size → YieldAt F (n - 1) P l (encs x) W1 fun e W' => (e = .returned (.bool true) ∧ J (pre ++ [x]) W' ∧ Kp W1 W' ∧ Span W.heap.size m W1 W' ∧ W1.heap.size ≤ W'.heap.size) ∨ (e = .returned (.bool false) ∧ Jx (pre ++ [x]) W')) →
    J [] W → CallsIn F n P g (#[.func (.yield l) #[] #[]] ++ lb) W fun e W' => (∃ v, e = .returned v) ∧ ((∃ xs, S xs ∧ J xs W') ∨ (∃ pre, Sp pre ∧ Jx pre W'))

/-- how the body of a round may be left -/
def ownPost2 {α : Type} (B m : Nat) (Kp : World → World → Prop) (I : List α → World → Prop) (Ix : Code → List α → World → Prop) (xs : List α) (W : World) : Exit → Act → World → Prop
  | .normal, _, W' => KeepsFrom B W W' ∧ Kp W W' ∧ Span (B + 2) m W W' ∧ I xs W'
  | .ret, _, W' => KeepsFrom B W W' ∧ Ix .ret xs W'
  | .exit id, _, W' => KeepsFrom B W W' ∧ Ix (.exit id) xs W'
  | .goto t, _, W' => KeepsFrom B W W' ∧ Ix (.goto t) xs W'
  | .panic _, _, _ => False
  | .outgrown, _, _ => False

theorem range_gives2 {F : Fence} {n : Nat} {P : Program} {α : Type} {g : Operand} {ps : Array Tmp} {assign body : Code} {Q : Exit → Act → World → Prop} {a : Act} {w : World}
    (hro : F.round = none) (h1 : 1 ≤ n) {gf : Nat} {lb : Array Value} (hg : a.eval g = .func (.func gf) #[] lb) (hFg : F.fn gf) (eg : ∀ args w, (callFunc gf args).run P w = .ok (.enter gf args) w)
    {encs : α → Array Value} {Kp : World → World → Prop} {S Sp : List α → Prop} {N m : Nat} {w0 : World} (hseq : Gives2 F (n - 1) P gf lb encs Kp S Sp N m w0)
    (hKt : ∀ {A B C : World}, Kp A B → Kp B C → Kp A C) (hKg : ∀ (A B : World) (row : Option Nat), A.grownBy B row → (∀ r, row = some r → w.heap.size ≤ r ∧ ∃ o : Obj, A.heap[r]? = some o ∧ o.isCells = false) → w.heap.size ≤ A.heap.size → Kp A B) (hb0 : Below w0.heap.size w0 w) (hps : ∀ x, (encs x).size = ps.size)
    (I : List α → World → Prop) (Ix : Code → List α → World → Prop) (Ia : List α × α × Act → World → Prop) (hI : OwnBar w.heap.size (m + 2) I) (hIx : ∀ c, OwnBar w.heap.size (m + 2) (Ix c)) (hIa : OwnBar w.heap.size (m + 2) Ia) (h0 : I [] w)
    (hassign : ∀ (l : Nat) (pre : List α) (x : α) (W : World) (K : Act → World → Prop), I pre W → (∀ a' W', Ia (pre, x, a') W' → Below W.heap.size W W' → K a' W') →
      assign.wpIn (F.inRound l) (n - 1 - 1) P (Exit.then K (fun _ _ _ => False)) { tmps := (ps.zip (encs x)).foldl (fun t (p, v) => t.setIfInBounds p v) a.tmps, defers := [] } W)
    (hbody : ∀ (l : Nat) (pre : List α) (x : α) (a' : Act) (W : World), Ia (pre, x, a') W → pre.length < N → w.heap.size + 2 + m ≤ W.heap.size → body.wpIn (F.inRound l) (n - 1 - 1) P (ownPost2 w.heap.size m Kp I Ix (pre ++ [x]) W) a' W)
    (hdone : ∀ (D : Nat) (xs : List α) (W : World), w.heap.size ≤ D → S xs → I xs W → W.heap[D]? = some (.deferred (some [])) → Q .normal { a with defers := { target := .collected D, args := #[] } :: a.defers } W)
    (hstop : ∀ (D : Nat) (c : Code) (pre : List α) (W : World), w.heap.size ≤ D → Sp pre → Ix c pre W → W.heap[D]? = some (.deferred (some [])) → c.wpIn F n P Q { a with defers := { target := .collected D, args := #[] } :: a.defers } W) :
    (Code.rangeFunc g ps assign body).wpIn F n P Q a w := by
  refine wpIn_rangeFunc fun fn hfn => ?_
  rw [hro]
  obtain ⟨rec, hrec⟩ : ∃ rec : LoopState → Option Code → Loop, rec = fun st pe => { state := st, pending := pe, fn, tmps := a.tmps, params := ps, assign, body, defers := w.heap.size } := ⟨_, rfl⟩
  obtain ⟨V, hV⟩ : ∃ V, (w.alloc (.deferred (some []))).alloc (.loop (rec .ready none)) = V := ⟨_, rfl⟩
  have hVs : V.heap.size = w.heap.size + 2 := by rw [← hV]; simp
  have hVb : Below w.heap.size w V := by rw [← hV]; exact ((Below.refl _ w).alloc (Nat.le_refl _) _).alloc (by simp) _
  have hVl : V.heap[w.heap.size + 1]? = some (.loop (rec .ready none)) := by
    have h := World.alloc_heap_new (w.alloc (.deferred (some []))) (.loop (rec .ready none))
    rw [World.size_alloc] at h; rw [← hV]; exact h
  have hVd : V.heap[w.heap.size]? = some (.deferred (some [])) := by
    rw [← hV]; exact (Below.heap_alloc _ _ _ (by simp)).trans (World.alloc_heap_new w _)
  have hVI : I [] V := hI _ w V none h0 ⟨hVb.os, hVb.tape, hVb.output, hVb.size, fun k hk _ => hVb.block k hk⟩ (fun r e => by cases e)
  refine ⟨w.heap.size + 1, [{ target := .collected w.heap.size, args := #[] }], V, { target := .fn (.func gf) lb, args := #[.func (.yield (w.heap.size + 1)) #[] #[]] }, V, gf, #[.func (.yield (w.heap.size + 1)) #[] #[]] ++ lb, V, ?_, ?_, ?_, ?_, fun _ => h1, ?_⟩
  · rw [← hV, hrec]; exact run_enterLoop_outer _ _ _ _ _
  · simp only [resolve, hg]; simp [go_sem]
  · intro f hf; simp [Target.leads] at hf; subst hf; exact hFg
  · simp [invoke, go_sem, eg]
  have lift : ∀ {A : World} {row : Option Nat}, (∀ r, row = some r → V.heap.size ≤ r ∧ (r < V.heap.size + m ∨ ∃ o : Obj, A.heap[r]? = some o ∧ o.isCells = false)) → ∀ r, row = some r → w.heap.size ≤ r ∧ (r < w.heap.size + (m + 2) ∨ ∃ o : Obj, A.heap[r]? = some o ∧ o.isCells = false) := fun hr r e => by
    obtain ⟨k1, k2⟩ := hr r e
    exact ⟨by omega, k2.imp (fun h => by omega) id⟩
  refine (hseq (w.heap.size + 1) (fun pre W => I pre W ∧ W.heap[w.heap.size + 1]? = some (.loop (rec .ready none)) ∧ W.heap[w.heap.size]? = some (.deferred (some [])))
    (fun pre W => ∃ c, Ix c pre W ∧ W.heap[w.heap.size + 1]? = some (.loop (rec .done (some c))) ∧ W.heap[w.heap.size]? = some (.deferred (some []))) V (hb0.trans (hVb.mono hb0.size))
    (fun s A B row hs hg' hr => ⟨hI s A B row hs.1 hg' (lift hr),
      (hg'.block _ (Array.getElem?_eq_some_iff.1 hs.2.1).1 (fun e => by have := (hr _ e.symm).1; omega)).trans hs.2.1, (hg'.block _ (Array.getElem?_eq_some_iff.1 hs.2.2).1 (fun e => by have := (hr _ e.symm).1; omega)).trans hs.2.2⟩)
    (fun s A B row hs hg' hr => by
      obtain ⟨c, hc, hl, hk⟩ := hs
      exact ⟨c, hIx c s A B row hc hg' (lift hr), (hg'.block _ (Array.getElem?_eq_some_iff.1 hl).1 (fun e => by have := (hr _ e.symm).1; omega)).trans hl, (hg'.block _ (Array.getElem?_eq_some_iff.1 hk).1 (fun e => by have := (hr _ e.symm).1; omega)).trans hk⟩)
    ?_ ⟨hVI, hVl, hVd⟩).mono ?_
  · rintro pre x W ⟨hi, hl, hd⟩ hlen hbig
    have hlt := (Array.getElem?_eq_some_iff.1 hl).1
    have hy := run_yield (P := P) (args := encs x) hl (by rw [hrec]; exact hps x)
    rw [hrec] at hy
    refine ⟨fn, _, assign, body, hy, roundIn_of_wpIn hfn (hassign _ pre x W _ hi fun a' W' ha hB' => ?_)⟩
    have hl' : W'.heap[w.heap.size + 1]? = some (.loop (rec .ready none)) := (hB'.block _ hlt).trans hl
    have hd' : W'.heap[w.heap.size]? = some (.deferred (some [])) := (hB'.block _ (by omega)).trans hd
    have hlt' := (Array.getElem?_eq_some_iff.1 hl').1
    refine ⟨_, run_beginRound hl' (by rw [hrec]), ?_⟩
    have hl2 : (W'.putObj (w.heap.size + 1) (.loop { rec .ready none with state := .busy })).heap[w.heap.size + 1]? = some (.loop { rec .ready none with state := .busy }) := World.putObj_heap_same hlt'
    have hd2 : (W'.putObj (w.heap.size + 1) (.loop { rec .ready none with state := .busy })).heap[w.heap.size]? = some (.deferred (some [])) := (World.putObj_heap_other (by omega)).trans hd'
    have hw0 := hb0.size
    have g1 : W.grownBy W' none := ⟨hB'.os, hB'.tape, hB'.output, hB'.size, fun k hk _ => hB'.block k hk⟩
    have b2 : Kp W (W'.putObj (w.heap.size + 1) (.loop { rec .ready none with state := .busy })) := hKt (hKg _ _ none g1 (fun r e => by cases e) (by omega)) (hKg _ _ (some (w.heap.size + 1)) (grownBy_putObj' _ _ _) (fun r e => by cases e; exact ⟨by omega, _, hl', rfl⟩) (by have := hB'.size; omega))
    have sp2 : Span V.heap.size m W (W'.putObj (w.heap.size + 1) (.loop { rec .ready none with state := .busy })) := (span_below hB').trans (span_row (grownBy_putObj' _ _ _) (fun r e => by cases e; omega)) hB'.size
    have z2 : (W'.putObj (w.heap.size + 1) (.loop { rec .ready none with state := .busy })).heap.size = W'.heap.size := by simp
    refine wpIn_mono (hbody _ pre x a' _ (hIa.putObj _ ha (by omega) hl' rfl) hlen (by rw [z2]; have := hB'.size; omega)) ?_
    rintro e a3 W3 hp
    have fin : ∀ (jump : Option Code), KeepsFrom w.heap.size (W'.putObj (w.heap.size + 1) (.loop { rec .ready none with state := .busy })) W3 →
        (Instr.endRound (w.heap.size + 1) jump).run P W3 = .ok (.bool jump.isNone) (W3.putObj (w.heap.size + 1) (.loop (rec (if jump.isNone then .ready else .done) jump))) ∧
        W3.heap[w.heap.size + 1]? = some (.loop { rec .ready none with state := .busy }) ∧
        (W3.putObj (w.heap.size + 1) (.loop (rec (if jump.isNone then .ready else .done) jump))).heap[w.heap.size + 1]? = some (.loop (rec (if jump.isNone then .ready else .done) jump)) ∧
        (W3.putObj (w.heap.size + 1) (.loop (rec (if jump.isNone then .ready else .done) jump))).heap[w.heap.size]? = some (.deferred (some [])) := fun jump hk3 => by
      have hl3 := hk3.same _ _ (by omega) hl2 rfl
      have := run_endRound (P := P) jump hl3
      rw [hrec] at this ⊢
      exact ⟨this, by rw [hrec] at hl3; exact hl3, World.putObj_heap_same (Array.getElem?_eq_some_iff.1 hl3).1, (World.putObj_heap_other (by omega)).trans (hk3.same _ _ (Nat.le_refl _) hd2 rfl)⟩
    cases e with
    | normal =>
      obtain ⟨hk3, hb3, hs3, hi3⟩ := hp
      obtain ⟨hr, hl3, hl4, hk4⟩ := fin none hk3
      have z3 : W'.heap.size ≤ W3.heap.size := Nat.le_trans (by simp) hk3.size
      refine ⟨_, _, hr, .inl ⟨rfl, ⟨hI.putObj _ hi3 (by omega) hl3 rfl, hl4, hk4⟩, ?_, ?_, ?_⟩⟩
      · exact hKt (hKt b2 hb3) (hKg _ _ (some (w.heap.size + 1)) (grownBy_putObj' _ _ _) (fun r e => by cases e; exact ⟨by omega, _, hl3, rfl⟩) (by have := (Array.getElem?_eq_some_iff.1 hl3).1; omega))
      · rw [hVs] at sp2 ⊢
        exact (sp2.trans hs3 (Nat.le_trans hB'.size (by simp))).trans (span_row (grownBy_putObj' _ _ _) (fun r e => by cases e; omega)) (Nat.le_trans hB'.size z3)
      · have := hB'.size; simp; omega
    | ret =>
      obtain ⟨hk3, hi3⟩ := hp
      obtain ⟨hr, hl3, hl4, hk4⟩ := fin (some .ret) hk3
      exact ⟨_, _, hr, .inr ⟨rfl, .ret, (hIx _).putObj _ hi3 (by omega) hl3 rfl, hl4, hk4⟩⟩
    | exit id =>
      obtain ⟨hk3, hi3⟩ := hp
      obtain ⟨hr, hl3, hl4, hk4⟩ := fin (some (.exit id)) hk3
      exact ⟨_, _, hr, .inr ⟨rfl, .exit id, (hIx _).putObj _ hi3 (by omega) hl3 rfl, hl4, hk4⟩⟩
    | goto t =>
      obtain ⟨hk3, hi3⟩ := hp
      obtain ⟨hr, hl3, hl4, hk4⟩ := fin (some (.goto t)) hk3
      exact ⟨_, _, hr, .inr ⟨rfl, .goto t, (hIx _).putObj _ hi3 (by omega) hl3 rfl, hl4, hk4⟩⟩
    | panic ch => exact hp.elim
    | outgrown => exact hp.elim
  · rintro e W2 ⟨⟨v, rfl⟩, (⟨xs, hS, hi, hl, hk⟩ | ⟨pre, hSp, c, hi, hl, hk⟩)⟩
    · exact ⟨none, _, by have := run_endLoop (P := P) hl (by rw [hrec]; simp); rw [hrec] at this; exact this, hdone _ xs _ (Nat.le_refl _) hS (hI.putObj _ hi (by omega) hl rfl) ((World.putObj_heap_other (by omega)).trans hk)⟩
    · exact ⟨some c, _, by have := run_endLoop (P := P) hl (by rw [hrec]; simp); rw [hrec] at this; exact this, hstop _ c pre _ (Nat.le_refl _) hSp ((hIx c).putObj _ hi (by omega) hl rfl) ((World.putObj_heap_other (by omega)).trans hk)⟩

end Go.Proofs.Ytlhapanfegjafaa

namespace Go.Proofs.Ytlhapanfegjafaa
open Cv
set_option linter.unusedVariables false
set_option linter.unusedSimpArgs false

/-- K sets that have together all of Q and nothing else -/
structure Cvr (F : Nat → Nat → Bool) (K : Nat) (Q : Nat → Bool) : Prop where
  sub : ∀ j u, j < K → F j u = true → Q u = true
  all : ∀ u, Q u = true → ∃ j, j < K ∧ F j u = true
  bd : ∀ u, Q u = true → u < 1024
def gnW (F : Nat → Nat → Bool) (K : Nat) (c : Nat → Bool) : Nat := mbI (gF F c) K
def gnC (F : Nat → Nat → Bool) (K : Nat) (c : Nat → Bool) : Nat → Bool := fun u => c u || F (gnW F K c) u
def gnRun (F : Nat → Nat → Bool) (K : Nat) (Q : Nat → Bool) : Nat → (Nat → Bool) → List Int → List Int
  | 0, _, L => L
  | n + 1, c, L => if eqS c Q = true then L else gnRun F K Q n (gnC F K c) (L ++ [(gnW F K c : Int)])
/-- what is left of Q -/
def lf (Q c : Nat → Bool) : Nat := cntTo (byd Q c) 1024
theorem lf_le (Q c : Nat → Bool) : lf Q c ≤ lf Q fun _ => false := cntTo_mono (fun u h => by simp only [byd, Bool.and_eq_true] at h ⊢; exact ⟨h.1, rfl⟩) _
theorem gn_pick {F : Nat → Nat → Bool} {K : Nat} {Q c : Nat → Bool} (h : Cvr F K Q) (hc : ∀ u, c u = true → Q u = true) (hne : eqS c Q = false) : gnW F K c < K ∧ (∀ u, gnC F K c u = true → Q u = true) ∧ lf Q (gnC F K c) < lf Q c := by
  have hu : ∃ u, u < 1024 ∧ Q u = true ∧ c u = false := by
    apply Classical.byContradiction
    intro g
    have : eqS c Q = true := (eqS_iff c Q).2 fun u hu => by
      cases e : Q u with
      | false => cases e2 : c u with
        | false => rfl
        | true => have := hc u e2; rw [e] at this; cases this
      | true => cases e2 : c u with
        | true => rfl
        | false => exact absurd ⟨u, hu, e, e2⟩ g
    rw [this] at hne; cases hne
  obtain ⟨u, hu, hq, hcu⟩ := hu
  obtain ⟨j, hj, hfj⟩ := h.all u hq
  have h1 : 0 < gF F c j := cntTo_pos hu (by unfold byd; rw [hfj, hcu]; rfl)
  have h2 := mbV_ge (gF F c) K j hj
  obtain ⟨h3, h4⟩ := mbI_at (gF F c) K (by omega)
  have h5 : 0 < gF F c (gnW F K c) := by show 0 < gF F c (mbI (gF F c) K); omega
  obtain ⟨v, hv, hb⟩ := cntTo_ex h5
  simp only [byd, Bool.and_eq_true, Bool.not_eq_true'] at hb
  refine ⟨h3, fun z hz => ?_, ?_⟩
  · simp only [gnC, Bool.or_eq_true] at hz
    rcases hz with hz | hz
    · exact hc z hz
    · exact h.sub _ _ h3 hz
  · refine cntTo_less (u := v) (fun z hz => ?_) hv ?_ ?_
    · simp only [byd, gnC, Bool.and_eq_true, Bool.not_eq_true', Bool.or_eq_false_iff] at hz ⊢
      exact ⟨hz.1, hz.2.1⟩
    · simp [byd, gnC, hb.1]
    · simp [byd, hb.2, h.sub _ _ h3 hb.1]
theorem gnRun_done {F : Nat → Nat → Bool} {K n : Nat} {Q c : Nat → Bool} {L : List Int} (h : eqS c Q = true) : gnRun F K Q n c L = L := by
  cases n with
  | zero => rfl
  | succ n => rw [gnRun, if_pos h]
theorem gnRun_step {F : Nat → Nat → Bool} {K n : Nat} {Q c : Nat → Bool} {L : List Int} (h : eqS c Q = false) : gnRun F K Q (n + 1) c L = gnRun F K Q n (gnC F K c) (L ++ [(gnW F K c : Int)]) := by
  rw [gnRun, if_neg (by rw [h]; decide)]
/-- the greedy rounds' numbers -/
def gnL (F : Nat → Nat → Bool) (K : Nat) (Q : Nat → Bool) : List Int := gnRun F K Q (lf Q (fun _ => false) + 1) (fun _ => false) []

/-- what holds between two rounds: the numbers so far, and what they have together -/
structure GnI (F : Nat → Nat → Bool) (K : Nat) (Q : Nat → Bool) (c : Nat → Bool) (L : List Int) : Prop where
  sub : ∀ u, c u = true → Q u = true
  run : ∃ n, lf Q c < n ∧ gnRun F K Q n c L = gnL F K Q
  len : L.length + lf Q c ≤ lf Q fun _ => false
theorem gnRun_len (F : Nat → Nat → Bool) (K : Nat) (Q : Nat → Bool) : ∀ n c L, L.length ≤ (gnRun F K Q n c L).length
  | 0, _, _ => Nat.le_refl _
  | n + 1, c, L => by
    rw [gnRun]
    split
    · exact Nat.le_refl _
    · exact Nat.le_trans (by rw [List.length_append]; simp) (gnRun_len F K Q n _ _)
theorem gni_len {F : Nat → Nat → Bool} {K : Nat} {Q c : Nat → Bool} {L : List Int} (g : GnI F K Q c L) : L.length ≤ (gnL F K Q).length := by
  obtain ⟨n, _, e⟩ := g.run
  rw [← e]; exact gnRun_len _ _ _ _ _ _
theorem gni_0 (F : Nat → Nat → Bool) (K : Nat) (Q : Nat → Bool) : GnI F K Q (fun _ => false) [] := ⟨(fun u h => by cases h), ⟨_, Nat.lt_succ_self _, rfl⟩, by simp⟩
theorem gni_done {F : Nat → Nat → Bool} {K : Nat} {Q c : Nat → Bool} {L : List Int} (g : GnI F K Q c L) (h : eqS c Q = true) : L = gnL F K Q := by
  obtain ⟨n, _, e⟩ := g.run
  rwa [gnRun_done h] at e
theorem gni_step {F : Nat → Nat → Bool} {K : Nat} {Q c : Nat → Bool} {L : List Int} (hC : Cvr F K Q) (g : GnI F K Q c L) (h : eqS c Q = false) : gnW F K c < K ∧ L.length < lf Q (fun _ => false) ∧ GnI F K Q (gnC F K c) (L ++ [(gnW F K c : Int)]) := by
  obtain ⟨h1, h2, h3⟩ := gn_pick hC g.sub h
  obtain ⟨n, hn, e⟩ := g.run
  have hl := g.len
  obtain ⟨n', rfl⟩ : ∃ n', n = n' + 1 := ⟨n - 1, by omega⟩
  rw [gnRun_step h] at e
  exact ⟨h1, by omega, h2, ⟨n', by omega, e⟩, by rw [List.length_append]; simp; omega⟩
theorem lf_bd (Q c : Nat → Bool) : lf Q c ≤ 1024 := cntTo_le _ _
theorem gn_congr {f g : Nat → Nat} {k : Nat} (h : ∀ j, j < k → f j = g j) : mbI f k = mbI g k ∧ mbV f k = mbV g k := by
  induction k with
  | zero => exact ⟨rfl, rfl⟩
  | succ k ih =>
    have h1 := ih fun j hj => h j (by omega)
    have h2 := h k (by omega)
    simp only [mbI, mbV, h1.1, h1.2, h2, and_self]

end Go.Proofs.Ytlhapanfegjafaa

namespace Go.Proofs.Ytlhapanfegjafaa
open Go.RowKit Go.Shelf Cv
set_option linter.unusedVariables false
set_option linter.unusedSimpArgs false
set_option maxRecDepth 100000

section
attribute [local go_sem] Oper.semAt_some

theorem greedyRounds_any (gs K cs : Nat) (Q : Nat → Bool) (w : World) :
    Calls Try.prog 40 #[.slice (some ⟨gs, 0, none⟩) K cs, .agg (setA Q)] w fun e w' => e = .returned (.func (.func 66) #[] #[.pointer (some ⟨w.heap.size + 1, 0, none⟩), .pointer (some ⟨w.heap.size, 0, none⟩)]) ∧ RowAt w' (w.heap.size + 1) Q ∧ w'.heap[w.heap.size]? = some (.cells #[.slice (some ⟨gs, 0, none⟩) K cs] 56 (0, 0)) ∧ Below w.heap.size w w' := by
  have H1 := Lib.hid ((((Below.refl _ (w.alloc (.cells #[.slice (some ⟨gs, 0, none⟩) K cs] 56))).alloc (Nat.le_refl _) (.cells (setA Q) 60)).block w.heap.size (by simp)).trans (World.alloc_heap_new w (.cells #[.slice (some ⟨gs, 0, none⟩) K cs] 56)))
  have H2 := Lib.hid (rown_new (w.alloc (.cells #[.slice (some ⟨gs, 0, none⟩) K cs] 56)) Q (n := w.heap.size + 1) (by simp))
  go_enter Try.func40, Try.ntmps40
  go_wp2_with fail
  go_ret
  exact ⟨rfl, H2.out, H1.out, by go_grown⟩

theorem sets_keeps {w w' : World} {base g n c : Nat} {PS : List (Nat → Bool)} (h : OwnSets w base (.slice (some ⟨g, 0, none⟩) n c) PS) (k : KeepsAt g w w') : OwnSets w' base (.slice (some ⟨g, 0, none⟩) n c) PS := by
  obtain ⟨h1, h2⟩ := h
  refine ⟨h1, ?_⟩
  rcases h2 with ⟨hv, hn⟩ | ⟨g', cap, cur, hv, hb, hh, rest⟩
  · exact .inl ⟨hv, hn⟩
  · have e := hv
    simp only [Value.slice.injEq, Option.some.injEq, Addr.mk.injEq, and_true, true_and] at e
    obtain ⟨rfl, _, _⟩ := e
    exact .inr ⟨_, cap, cur, hv, hb, k cur _ hh, rest⟩

/-- the set in the block b, as far as it is one -/
def tkF (b : Nat) (W : World) (u : Nat) : Bool := (match W.cell? ⟨b, u / 64, none⟩ with | some (.int _ x) => x.toNat | _ => 0).testBit (u % 64)
def tkM (Q : Nat → Bool) (b : Nat) (W : World) : Nat := lf Q (tkF b W)
theorem tkF_eq {c : Nat → Bool} {b : Nat} {W : World} (h : RowAt W b c) {u : Nat} (hu : u < 1024) : tkF b W u = c u := by
  unfold tkF
  rw [h.cell (u / 64) (by omega)]
  have := partN_bit c (u / 64) (u % 64) (by omega)
  rw [show 64 * (u / 64) + u % 64 = u by omega] at this
  simpa using this
theorem tkM_eq {Q c : Nat → Bool} {b : Nat} {W : World} (h : RowAt W b c) : tkM Q b W = lf Q c := by
  unfold tkM lf
  have e : ∀ n, n ≤ 1024 → cntTo (byd Q (tkF b W)) n = cntTo (byd Q c) n := fun n => by
    induction n with
    | zero => intro _; rfl
    | succ n ih =>
      intro hn
      have hb : byd Q (tkF b W) n = byd Q c n := by unfold byd; rw [tkF_eq h (by omega)]
      rw [cntTo, cntTo, ih (by omega), hb]
  exact e 1024 (Nat.le_refl _)

/-- what a round keeps for the iterator -/
def KpR (wb sb gs : Nat) (W W' : World) : Prop := KeepsAt wb W W' ∧ KeepsAt sb W W' ∧ KeepsAt gs W W'
theorem kpR_t {wb sb gs : Nat} {A B C : World} (h : KpR wb sb gs A B) (k : KpR wb sb gs B C) : KpR wb sb gs A C := ⟨h.1.trans k.1, h.2.1.trans k.2.1, h.2.2.trans k.2.2⟩
theorem kpR_g {wb sb gs N : Nat} (A B : World) (row : Option Nat) (hg : A.grownBy B row) (hr : ∀ r, row = some r → N ≤ r ∧ ∃ o : Obj, A.heap[r]? = some o ∧ o.isCells = false) (hA : N ≤ A.heap.size) : KpR wb sb gs A B :=
  ⟨keepsAt_nc hg fun r e => (hr r e).2, keepsAt_nc hg fun r e => (hr r e).2, keepsAt_nc hg fun r e => (hr r e).2⟩
theorem grown_below' {A B : World} (h : Below A.heap.size A B) : A.grownBy B none := ⟨h.os, h.tape, h.output, h.size, fun j hj _ => h.block j hj⟩

set_option maxHeartbeats 4000000 in
theorem greedyRounds_gives (n : Nat) (hn1 : 1 ≤ n) (base gs cs K : Nat) (PS : List (Nat → Bool)) (hK : K = PS.length) (h1 : 1 ≤ K) (hl : K ≤ 1048576) (Q : Nat → Bool) (hC : Cvr (pAt PS) K Q) (wb sb : Nat) (w : World) (hL : OwnSets w base (.slice (some ⟨gs, 0, none⟩) K cs) PS)
    (hwb : RowAt w wb Q) (hsb : w.heap[sb]? = some (.cells #[.slice (some ⟨gs, 0, none⟩) K cs] 56 (0, 0))) :
    Gives2 Fence.wide n Try.prog 66 #[.pointer (some ⟨wb, 0, none⟩), .pointer (some ⟨sb, 0, none⟩)] encI (KpR wb sb gs) (fun ys => ys = gnL (pAt PS) K Q) (fun ys => ys.length ≤ (gnL (pAt PS) K Q).length) 1024 1 w := fun l J Jx Wst hW hJ hJx hY h0 => by
  have HC := Lib.hid hC
  have hgb := hL.base_le
  have hbs : base ≤ w.heap.size := by omega
  have hWs := hW.size
  have HKl := Lib.hid hK
  have hdd : ∀ k : Nat, (Fence.wide.depth.isSome = true → 1 ≤ k) := fun k h => by cases (show (none : Option Nat).isSome = true from h)
  obtain ⟨T, hT⟩ : ∃ T, T = Wst.heap.size := ⟨_, rfl⟩
  have hwT : wb < T := by have := hwb.lt; omega
  have hsT : sb < T := by have := (Array.getElem?_eq_some_iff.1 hsb).1; omega
  have hgT : gs < T := by omega
  have hz := rowz_new Wst hT
  have gA : Wst.grownBy (Wst.alloc (.cells #[.int .u64 0, .int .u64 0, .int .u64 0, .int .u64 0, .int .u64 0, .int .u64 0, .int .u64 0, .int .u64 0, .int .u64 0, .int .u64 0, .int .u64 0, .int .u64 0, .int .u64 0, .int .u64 0, .int .u64 0, .int .u64 0] 60)) none := World.grownBy_alloc Wst _ none
  have gB : (Wst.alloc (.cells #[.int .u64 0, .int .u64 0, .int .u64 0, .int .u64 0, .int .u64 0, .int .u64 0, .int .u64 0, .int .u64 0, .int .u64 0, .int .u64 0, .int .u64 0, .int .u64 0, .int .u64 0, .int .u64 0, .int .u64 0, .int .u64 0] 60)).grownBy ((Wst.alloc (.cells #[.int .u64 0, .int .u64 0, .int .u64 0, .int .u64 0, .int .u64 0, .int .u64 0, .int .u64 0, .int .u64 0, .int .u64 0, .int .u64 0, .int .u64 0, .int .u64 0, .int .u64 0, .int .u64 0, .int .u64 0, .int .u64 0] 60)).setRow T (setA fun _ => false)) (some T) := grown_setRow _
  have bA : Below Wst.heap.size Wst ((Wst.alloc (.cells #[.int .u64 0, .int .u64 0, .int .u64 0, .int .u64 0, .int .u64 0, .int .u64 0, .int .u64 0, .int .u64 0, .int .u64 0, .int .u64 0, .int .u64 0, .int .u64 0, .int .u64 0, .int .u64 0, .int .u64 0, .int .u64 0] 60)).setRow T (setA fun _ => false)) := ((Below.refl _ Wst).alloc (Nat.le_refl _) _).grown gB (by simp) (fun j e => by cases e; omega)
  have hj0 : J [] ((Wst.alloc (.cells #[.int .u64 0, .int .u64 0, .int .u64 0, .int .u64 0, .int .u64 0, .int .u64 0, .int .u64 0, .int .u64 0, .int .u64 0, .int .u64 0, .int .u64 0, .int .u64 0, .int .u64 0, .int .u64 0, .int .u64 0, .int .u64 0] 60)).setRow T (setA fun _ => false)) :=
    hJ _ _ _ _ (hJ _ _ _ _ h0 gA (fun r e => by cases e)) gB (fun r e => by cases e; exact ⟨by omega, .inl (by omega)⟩)
  obtain ⟨W1, hW1⟩ : ∃ W1, W1 = ((Wst.alloc (.cells #[.int .u64 0, .int .u64 0, .int .u64 0, .int .u64 0, .int .u64 0, .int .u64 0, .int .u64 0, .int .u64 0, .int .u64 0, .int .u64 0, .int .u64 0, .int .u64 0, .int .u64 0, .int .u64 0, .int .u64 0, .int .u64 0] 60)).setRow T (setA fun _ => false)) := ⟨_, rfl⟩
  have rT : RowAt W1 T (fun _ => false) := by rw [hW1]; exact row_set hz
  rw [← hW1] at bA hj0
  have bW := hW.trans (bA.mono hWs)
  have rQ := hwb.below bW hwb.lt
  have sQ := (bW.block sb (Array.getElem?_eq_some_iff.1 hsb).1).trans hsb
  have oL : OwnSets W1 base (.slice (some ⟨gs, 0, none⟩) K cs) PS := hL.below bW
  have HW1 := Lib.hid hW1
  have HT := Lib.hid hT
  clear gA gB bA hwb hsb hL hW1 h0 hK hC bW hT
  refine callsIn_of_wp Try.func66 rfl trivial ?_ rfl
  simp only [Try.ntmps66, List.size_toArray, List.length_cons, List.length_nil, Nat.reduceAdd, Nat.reduceSub, Array.replicate_succ, Array.replicate_zero, List.push_toArray, List.append_toArray, List.nil_append, List.cons_append]
  gi_wp2_with (first
    | (rw [← HT.out]; refine wpListIn_st16 rfl _ _ rfl hz (fun _ => false) rfl (by rw [setA_none]; rfl) ?_; rw [← HW1.out])
    | fail)
  simp only [Act.put]
  gi_loopw [5] (fun kv wr => ∃ (c : Nat → Bool) (pre : List Int), Hid (GnI (pAt PS) K Q c pre) ∧ J pre wr ∧ RowAt wr T c ∧ RowAt wr wb Q ∧ wr.heap[sb]? = some (.cells #[.slice (some ⟨gs, 0, none⟩) K cs] 56 (0, 0)) ∧ OwnSets wr base (.slice (some ⟨gs, 0, none⟩) K cs) PS) (fun _ wr => tkM Q T wr)
  case atStart => exact ⟨_, [], Lib.hid (gni_0 _ _ _), hj0, rT, rQ, sQ, oL⟩
  case round =>
    clear hj0 rT rQ sQ oL hz
    obtain ⟨c, pre, HG, hj, rT, rQ, sQ, oL⟩ := hrel
    have hg := guardSet
    have c1 := cell_of_heap sQ
    have HMs := Lib.hid (tkM_eq (Q := Q) rT)
    cases hd : eqS c Q with
    | true =>
      have heq : ∀ w', (Op.equalIn 10000 60 (.agg (setA c)) (.agg (setA Q))).run Try.prog w' = .ok true w' := fun w' => by rw [run_eqSet, hd]
      have HE := Lib.hid (gni_done HG.out hd)
      clear hd
      gi_wp2_with (first | (refine wpListIn_ld16 rfl _ rfl rT rfl ?_) | (refine wpListIn_ld16 rfl _ rfl rQ rfl ?_) | fail)
      go_end0
      exact ⟨⟨_, rfl⟩, .inl ⟨pre, HE.out, hj⟩⟩
    | false =>
      have heq : ∀ w', (Op.equalIn 10000 60 (.agg (setA c)) (.agg (setA Q))).run Try.prog w' = .ok false w' := fun w' => by rw [run_eqSet, hd]
      obtain ⟨hp1, hp2, hp3⟩ := gni_step HC.out HG.out hd
      have HLs := Lib.hid (gn_pick HC.out HG.out.sub hd).2.2
      have hmb := mostBeyond_any base gs cs K PS c HKl.out hl h1 wr (by have := oL.base_le; omega) oL
      change Calls Try.prog _ _ _ (fun e w' => e = .returned (.int .i64 (gnW (pAt PS) K c : Nat)) ∧ _) at hmb
      obtain ⟨D, hD⟩ : ∃ D, D = gnW (pAt PS) K c := ⟨_, rfl⟩
      rw [← hD] at hmb hp1 hp3
      have HMB := Lib.hid hmb
      have HP3 := Lib.hid hp3
      have HGC : Hid (gnC (pAt PS) K c = fun u => c u || pAt PS D u) := Lib.hid (by rw [hD]; rfl)
      have hpl := lf_bd Q fun _ => false
      clear hmb hp3 hD hd
      gi_wp2_with (first | (refine wpListIn_ld16 rfl _ rfl rT rfl ?_) | (refine wpListIn_ld16 rfl _ rfl rQ rfl ?_) | fail)
      refine ⟨trivial, ?_⟩
      refine (callsIn_wide.2 HMB.out).mono ?_
      rintro e w4 ⟨rfl, hb4⟩
      have s4 := hb4.size
      have lT := rT.lt
      have rT4 := rT.below hb4 lT
      have rQ4 := rQ.below hb4 rQ.lt
      have sQ4 := (hb4.block sb (Array.getElem?_eq_some_iff.1 sQ).1).trans sQ
      have oL4 : OwnSets w4 base (.slice (some ⟨gs, 0, none⟩) K cs) PS := oL.below hb4
      have hj4 := hJ _ _ _ none hj (grown_below' hb4) (fun r e => by cases e)
      obtain ⟨fn, tmps, assign, body, hy, hR⟩ := hY pre (D : Int) w4 hj4 (by omega) (by have := rT4.lt; have := HT.out; omega)
      simp only [encI] at hy
      clear hj rT rQ sQ oL hj4 hb4 c1 heq
      gi_wp2
      refine hR.mono ?_
      rintro e W' (⟨rfl, hj', ⟨kb, ks, kg⟩, hsp, hsz⟩ | ⟨rfl, hjx⟩)
      · have rT5 : RowAt W' T c := (hsp T (by rw [HT.out]; exact Nat.le_refl _) (by rw [HT.out]; omega) rT4.lt).trans rT4
        have rQ5 : RowAt W' wb Q := kb _ _ rQ4
        have sQ5 := ks _ _ sQ4
        have oL5 := sets_keeps oL4 kg
        have hcell : ∀ k, k < 16 → W'.cell? ⟨gs, D * 16 + k, none⟩ = some (.int .u64 (partN (pAt PS D) k)) := fun k hk => oL5.cells D (by rw [← HKl.out]; exact hp1) k hk
        have c5 := cell_of_heap sQ5
        have HJ := Lib.hid hj'
        have lT5 := rT5.lt
        have lg5 := oL5.base_le.2
        have ls5 := (Array.getElem?_eq_some_iff.1 sQ5).1
        have DI : (D : Int) < (K : Int) := by omega
        have D0 : (0 : Int) ≤ (D : Int) := by omega
        clear hy hR hsp kb ks kg hj' rT4 rQ4 sQ4 oL4
        gi_wp2
        refine wpIn_wide.2 ?_
        refine wp_region_held_drew (S := fun w' => (∀ k, k < 16 → w'.cell? ⟨gs, D * 16 + k, none⟩ = some (.int .u64 (partN (pAt PS D) k))) ∧ w'.cell? ⟨sb, 0, none⟩ = some (.slice (some ⟨gs, 0, none⟩) K cs)) (by kernel_rfl) ⟨hcell, c5⟩ (fun hHeld => ?_)
        refine wpAnyH_take (i := 1) (v := ?_) rfl (by kernel_rfl) (by kernel_rfl) (by kernel_rfl) (fun _ _ _ h => h) (Or.inl ⟨by rfl, ?_⟩) (by assumption) ?_
        rotate_left
        · (intro w hSw; obtain ⟨hSw0, hSw1⟩ := hSw; (try dsimp only at hSw0 hSw1); go_simp; try (with_reducible rfl))
        (try simp only [Act.put, List.setIfInBounds_toArray, List.set_cons_zero, List.set_cons_succ])
        refine wpAnyH_take (i := 2) (v := ?_) rfl (by kernel_rfl) (by kernel_rfl) (by kernel_rfl) (fun _ _ _ h => h) (Or.inl ⟨by rfl, ?_⟩) (by assumption) ?_
        rotate_left
        · (intro w hSw; obtain ⟨hSw0, hSw1⟩ := hSw; (try dsimp only at hSw0 hSw1); go_simp; try (with_reducible rfl))
        (try simp only [Act.put, List.setIfInBounds_toArray, List.set_cons_zero, List.set_cons_succ])
        refine wpAnyH_take (i := 3) (v := ?_) rfl (by kernel_rfl) (by kernel_rfl) (by kernel_rfl) (fun _ _ _ h => h) (Or.inl ⟨by rfl, ?_⟩) (by assumption) ?_
        rotate_left
        · (intro w hSw; obtain ⟨hSw0, hSw1⟩ := hSw; (try dsimp only at hSw0 hSw1); go_simp; try (with_reducible rfl))
        (try simp only [Act.put, List.setIfInBounds_toArray, List.set_cons_zero, List.set_cons_succ])
        refine wpAnyH_take (i := 4) (v := .agg (setA (pAt PS D))) rfl (by kernel_rfl) (by kernel_rfl) (by kernel_rfl) (fun _ _ _ h => h) (Or.inl ⟨by rfl, ?_⟩) (by assumption) ?_
        · intro w hSw
          exact exec_ldAt hSw.1 _ (.tmp 20) (by kernel_rfl) (by kernel_rfl)
        (try simp only [Act.put, List.setIfInBounds_toArray, List.set_cons_zero, List.set_cons_succ])
        refine wpAnyH_ready (rs := [0]) (by kernel_rfl) (by simp) ?_
        refine AllReadyH.cons rfl (fun K' hK => ?_) AllReadyH.nil
        refine wp_ld16 (.tmp 4) rfl rT5 (by kernel_rfl) ?_
        refine hK.out _ _ ⟨hcell, c5⟩ (fun hHeld => ?_)
        clear hK K'
        (try simp only [Act.put, List.setIfInBounds_toArray, List.set_cons_zero, List.set_cons_succ])
        refine wpAnyH_ready (rs := [5]) (by kernel_rfl) (by simp) ?_
        refine AllReadyH.cons rfl (fun K' hK => ?_) AllReadyH.nil
        go_simp
        (go_at_call 68; refine (with_any c (pAt PS D) _).mono ?_)
        rintro e w6 ⟨rfl, hb6'⟩
        have hb6 : Below W'.heap.size W' w6 := (Below.refl _ W').drew.trans hb6'
        have s6 := hb6.size
        have rT6 := rT5.below hb6 lT5
        have rQ6 := rQ5.below hb6 rQ5.lt
        have sQ6 := (hb6.block sb ls5).trans sQ5
        have oL6 : OwnSets w6 base (.slice (some ⟨gs, 0, none⟩) K cs) PS := oL5.below hb6
        have hj6 := hJ _ _ _ none HJ.out (grown_below' hb6) (fun r e => by cases e)
        rw [← HGC.out]
        refine hK.out _ _ ⟨fun k hk => kept_cell hb6 (hcell k hk) lg5, kept_cell hb6 c5 ls5⟩ (fun hHeld => ?_)
        clear hK K'
        (try simp only [Act.put, List.setIfInBounds_toArray, List.set_cons_zero, List.set_cons_succ])
        refine wpAnyH_ready (rs := [6]) (by kernel_rfl) (by simp) ?_
        refine AllReadyH.cons rfl (fun K' hK => ?_) AllReadyH.nil
        obtain ⟨c2, hc2⟩ : ∃ c2, c2 = gnC (pAt PS) K c := ⟨_, rfl⟩
        rw [← hc2]
        have hp4 := HP3.out
        rw [← hc2] at hp4
        have HP4 := Lib.hid hp4
        have hl4 := HLs.out
        rw [← hc2] at hl4
        have HL4 := Lib.hid hl4
        clear hc2 hp4 hl4
        refine wp_st16 (.tmp 4) (.tmp 22) rfl rT6 c2 (by kernel_rfl) (by rfl) ?_
        have g7 := grown_setRow (w := w6) (b := T) (setA c2)
        have rT7 := row_set (q := c2) rT6
        have rQ7 := rQ6.kept g7 (by omega)
        have sQ7 := (g7.block sb (by omega) (fun e => by have e' : sb = T := Option.some.inj e; omega)).trans sQ6
        have oL7 : OwnSets (w6.setRow T (setA c2)) base (.slice (some ⟨gs, 0, none⟩) K cs) PS := World.ownsRow.kept oL6 g7 (.inr (show some gs ≠ some T from fun e => by have := Option.some.inj e; omega))
        have hj7 := hJ _ _ _ _ hj6 g7 (fun r e => by cases e; exact ⟨by rw [HT.out]; exact Nat.le_refl _, .inl (by rw [HT.out]; omega)⟩)
        have hm7 := tkM_eq (Q := Q) rT7
        have hcell7 : ∀ k, k < 16 → (w6.setRow T (setA c2)).cell? ⟨gs, D * 16 + k, none⟩ = some (.int .u64 (partN (pAt PS D) k)) := fun k hk => oL7.cells D (by rw [← HKl.out]; exact hp1) k hk
        have c7 := cell_of_heap sQ7
        obtain ⟨w7, hw7⟩ : ∃ w7, w7 = w6.setRow T (setA c2) := ⟨_, rfl⟩
        rw [← hw7] at rT7 rQ7 sQ7 oL7 hj7 hm7 hcell7 c7 ⊢
        have HM7 := Lib.hid hm7
        refine hK.out _ _ ⟨hcell7, c7⟩ (fun hHeld => ?_)
        clear hK K' hw7 hm7
        (try simp only [Act.put, List.setIfInBounds_toArray, List.set_cons_zero, List.set_cons_succ])
        refine wpAnyH_done (by kernel_rfl) ?_ _
        gi_wp2
        go_roundw
        case rel => exact ⟨c2, _, HP4, hj7, rT7, rQ7, sQ7, oL7⟩
        case measure => rw [HM7.out, HMs.out]; exact HL4.out
      · clear hy hR
        gi_wp2
        refine bodyPost_ret (results_none (by rfl) _ _) rfl ?_
        exact ⟨⟨_, rfl⟩, .inr ⟨_, gni_len HP3.out, hjx⟩⟩

end

end Go.Proofs.Ytlhapanfegjafaa

namespace Go.Proofs.Ytlhapanfegjafaa
open Go.RowKit Go.Shelf Cv
set_option linter.unusedVariables false
set_option linter.unusedSimpArgs false
set_option maxRecDepth 100000

section
attribute [local go_sem] Oper.semAt_some

set_option maxHeartbeats 2000000 in
/-- slices.AppendSeq(nil, seq) over an iterator that promises its numbers -/
theorem appendSeq_any2 (gf : Nat) (lb : Array Value) (eg : ∀ args w, (callFunc gf args).run Try.prog w = .ok (.enter gf args) w) (S Sp : List Int → Prop) (N : Nat) (hN : N ≤ 16777216) (w : World) (m : Nat) (Kp : World → World → Prop) (hKt : ∀ {A B C : World}, Kp A B → Kp B C → Kp A C) (hKb : ∀ A B : World, Below w.heap.size A B → Kp A B) (hseq : ∀ n, 1 ≤ n → Gives2 Fence.wide n Try.prog gf lb encI Kp S Sp N m w) :
    Calls Try.prog 79 #[.slice none 0 0, .func (.func gf) #[] lb] w fun e w' => ∃ v L, e = .returned v ∧ S L ∧ OwnInts w' w.heap.size v L ∧ Below w.heap.size w w' := by
  refine (callsIn_wide (n := 6)).1 ?_
  refine callsIn_of_wp_marks Try.func79 rfl trivial ?_ rfl
  simp only [Try.ntmps79, List.size_toArray, List.length_cons, List.length_nil, Nat.reduceAdd, Nat.reduceSub, Array.replicate_succ, Array.replicate_zero, List.push_toArray, List.append_toArray, List.nil_append, List.cons_append]
  gi_wp2
  obtain ⟨w1, hw1⟩ : ∃ w1, w1 = w.alloc (.cells #[.slice none 0 0] 24) := ⟨_, rfl⟩
  have b1 : Boxed w1 w.heap.size 24 (.slice none 0 0) := by rw [hw1]; exact Boxed.new w _ _
  have B1 : Below w.heap.size w w1 := by rw [hw1]; exact (Below.refl _ w).alloc (Nat.le_refl _) _
  have s1 : w1.heap.size = w.heap.size + 1 := by rw [hw1]; simp
  rw [← hw1]
  clear hw1
  have HKb := Lib.hid hKb
  refine range_gives2 (m := m) rfl (by omega) (gf := gf) (lb := lb) rfl trivial eg (hseq (6 - 1) (by omega)) hKt
    (fun A B row hg hr hA => hKb A B ((Below.refl w.heap.size A).grown hg (by omega) (fun k e => by have := (hr k e).1; omega))) B1 (fun _ => rfl)
    (fun (pre : List Int) W => (∃ v, Boxed W w.heap.size 24 v ∧ W.ownsRow w.heap.size 2 1 v pre.length (pre.map (Value.int .i64)) ∧ ∀ k, v.ownBlock = some k → w1.heap.size + 2 + m ≤ k) ∧ (Below w.heap.size w W ∧ w1.heap.size ≤ W.heap.size)) (fun _ _ _ => False)
    (fun q W => ((∃ v, Boxed W w.heap.size 24 v ∧ W.ownsRow w.heap.size 2 1 v q.1.length (q.1.map (Value.int .i64)) ∧ ∀ k, v.ownBlock = some k → w1.heap.size + 2 + m ≤ k) ∧ (Below w.heap.size w W ∧ w1.heap.size ≤ W.heap.size)) ∧ q.2.2 = { tmps := #[.slice none 0 0, .func (.func gf) #[] lb, .pointer (some ⟨w.heap.size, 0, none⟩), undef, .slice none 0 0, .int .i64 q.2.1, .func (.func gf) #[] lb, .int .i64 q.2.1, undef, undef, undef, undef, undef], defers := [] })
    ?ownI (fun _ _ _ _ _ h _ _ => h) ?ownA ⟨⟨_, b1, World.ownsRow_nil _ _ _ _, fun k e => by simp [Value.ownBlock] at e⟩, B1, Nat.le_refl _⟩ ?assign ?body ?done (fun _ _ _ _ _ _ h => h.elim)
  case ownI =>
    rintro pre A C row ⟨⟨v, hv, hrow, hbl⟩, hB', hsz⟩ hg hr
    have hne : ∀ k, v.ownBlock = some k → row ≠ some k := fun k e e2 => by
      rcases (hr k e2).2 with h | ⟨o, ho, hc⟩
      · have := hbl k e; omega
      · rcases hrow.2 with ⟨rfl, _⟩ | ⟨g, cap, cur, rfl, _, hh, _⟩
        · simp [Value.ownBlock] at e
        · obtain rfl : g = k := by simpa [Value.ownBlock] using e
          rw [hh] at ho; cases ho; cases hc
    refine ⟨⟨v, hv.kept hg (fun e => by have := (hr _ e.symm).1; omega), World.ownsRow.kept hrow hg (by cases e : v.ownBlock with | none => exact .inl rfl | some k => exact .inr (fun e2 => hne k e e2.symm)), hbl⟩, hB'.grown hg (by omega) (fun k e => by have := (hr k e).1; omega), Nat.le_trans hsz hg.size⟩
  case ownA =>
    rintro q A C row ⟨⟨⟨v, hv, hrow, hbl⟩, hB', hsz⟩, ha⟩ hg hr
    have hne : ∀ k, v.ownBlock = some k → row ≠ some k := fun k e e2 => by
      rcases (hr k e2).2 with h | ⟨o, ho, hc⟩
      · have := hbl k e; omega
      · rcases hrow.2 with ⟨rfl, _⟩ | ⟨g, cap, cur, rfl, _, hh, _⟩
        · simp [Value.ownBlock] at e
        · obtain rfl : g = k := by simpa [Value.ownBlock] using e
          rw [hh] at ho; cases ho; cases hc
    refine ⟨⟨⟨v, hv.kept hg (fun e => by have := (hr _ e.symm).1; omega), World.ownsRow.kept hrow hg (by cases e : v.ownBlock with | none => exact .inl rfl | some k => exact .inr (fun e2 => hne k e e2.symm)), hbl⟩, hB'.grown hg (by omega) (fun k e => by have := (hr k e).1; omega), Nat.le_trans hsz hg.size⟩, ha⟩
  case assign =>
    intro l pre x W K h hK
    dsimp only [encI]
    gi_wp2
    exact hK _ _ ⟨h, rfl⟩ (Below.refl _ _)
  case body =>
    rintro l pre x a' W ⟨⟨⟨v, hv, hrow, hbl⟩, hB', hsz⟩, ha⟩ hlt hbig
    dsimp only at ha hrow
    subst ha
    have hc := hv.cell
    gi_wp2_with (gi_at_builtin; refine wpListIn_append_int_at rfl _ _ rfl w.heap.size _ _ rfl (OwnInts.alloc hrow _) W.heap.size _ rfl (cell_new _ _ _) (by omega) (by have := hB'.size; simp; omega) ?_; intro v' w3 hown' hgrow hat; obtain ⟨k1, k2, k3, k4, k5⟩ := hv.appended (by decide) hrow hB'.size (Nat.le_refl _) hown' hgrow; obtain ⟨g', cap', rfl⟩ := own_snoc hown'; have hc1 := k1.cell; have hf1 := k1.frozen)
    have z3 : W.heap.size ≤ w3.heap.size := Nat.le_trans (by simp) hgrow.size
    have sp : Span (w1.heap.size + 2) m W (w3.setCell ⟨w.heap.size, 0, none⟩ (.slice (some ⟨g', 0, none⟩) (pre.length + 1) cap')) :=
      ((span_below ((Below.refl _ W).alloc (Nat.le_refl _) (.cells #[.int .i64 x] 2))).trans (span_row hgrow (fun r e => by have := hbl r e; omega)) (by simp)).trans (span_row (grownBy_setCell' w3 w.heap.size _) (fun r e => by cases e; omega)) z3
    refine ⟨k4.from _, HKb.out _ _ k5, sp, ⟨_, k2, k3, fun k e => ?_⟩, hB'.trans k5, by have := k5.size; omega⟩
    rcases hat with h | h
    · exact hbl k (h.symm.trans e)
    · rw [h] at e
      have := Option.some.inj e
      simp at this
      omega
  case done =>
    rintro D ys W hD HS ⟨⟨v, hv, hrow, hbl⟩, hB', hsz⟩ hK
    have hc := hv.cell
    gi_wp2
    refine ⟨by simp, .inl ⟨_, _, rfl, run_takeDeferred hK, ?_⟩⟩
    exact ⟨_, results_tmp rfl _ _ _, v, ys, rfl, HS, ownsRow_putObj hrow _ hK rfl, hB'.trans (belowK_b (w := w1) (by omega) W D _ _ hD hK rfl rfl)⟩

theorem collect_any2 (gf : Nat) (lb : Array Value) (eg : ∀ args w, (callFunc gf args).run Try.prog w = .ok (.enter gf args) w) (S Sp : List Int → Prop) (N : Nat) (hN : N ≤ 16777216) (w : World) (m : Nat) (Kp : World → World → Prop) (hKt : ∀ {A B C : World}, Kp A B → Kp B C → Kp A C) (hKb : ∀ A B : World, Below w.heap.size A B → Kp A B) (hseq : ∀ n, 1 ≤ n → Gives2 Fence.wide n Try.prog gf lb encI Kp S Sp N m w) :
    Calls Try.prog 64 #[.func (.func gf) #[] lb] w fun e w' => ∃ v L, e = .returned v ∧ S L ∧ OwnInts w' w.heap.size v L ∧ Below w.heap.size w w' := by
  have h := appendSeq_any2 gf lb eg S Sp N hN w m Kp hKt hKb hseq
  clear hseq hKb hKt
  go_enter Try.func64, Try.ntmps64
  go_wp2_with fail
  refine h.mono ?_
  rintro e w1 ⟨v, L, rfl, hS, own, hb⟩
  go_wp2_with fail
  go_ret
  exact ⟨v, L, rfl, hS, own, hb⟩

/-- slices.Sorted(seq), of at least one number -/
theorem sorted_any2 (gf : Nat) (lb : Array Value) (eg : ∀ args w, (callFunc gf args).run Try.prog w = .ok (.enter gf args) w) (L : List Int) (h1 : 1 ≤ L.length) (hl : L.length ≤ 1048576) (Sp : List Int → Prop) (N : Nat) (hN : N ≤ 16777216) (w : World) (m : Nat) (Kp : World → World → Prop) (hKt : ∀ {A B C : World}, Kp A B → Kp B C → Kp A C) (hKb : ∀ A B : World, Below w.heap.size A B → Kp A B) (hseq : ∀ n, 1 ≤ n → Gives2 Fence.wide n Try.prog gf lb encI Kp (fun ys => ys = L) Sp N m w) :
    Calls Try.prog 39 #[.func (.func gf) #[] lb] w fun e w' => ∃ v, e = .returned v ∧ OwnInts w' w.heap.size v (sorted L) ∧ Below w.heap.size w w' := by
  have h := collect_any2 gf lb eg _ Sp N hN w m Kp hKt hKb hseq
  clear hseq hKb hKt
  go_enter Try.func39, Try.ntmps39
  go_wp2_with fail
  refine h.mono ?_
  rintro e w1 ⟨v, L', rfl, rfl, own, hb⟩
  obtain ⟨g, cap, rfl, hg⟩ := own_some own (by intro h; rw [h] at h1; simp at h1)
  have hs := sort_any w.heap.size g cap L' w1 (by omega) own
  go_wp2_with fail
  refine hs.mono ?_
  rintro e w2 ⟨rfl, own2, hg2⟩
  have hb2 := hb.grown hg2 hb.size (fun k e => by cases e; exact own.base_le.1)
  go_wp2_with fail
  go_ret
  exact ⟨_, rfl, own2, hb2⟩

end

end Go.Proofs.Ytlhapanfegjafaa

namespace Go.Proofs.Ytlhapanfegjafaa
open Go.RowKit Cv
set_option linter.unusedVariables false
set_option linter.unusedSimpArgs false
set_option maxRecDepth 100000

theorem wordCount_nat (ao : Option Addr) (S : List Int) (cap : Nat) (N : Nat) (hN : Hid (nW S = (N : Int))) (w : World) (h : Sp S) (hS : Ints w ao S) :
    Calls Try.prog 47 #[.agg #[.slice ao S.length cap]] w fun e w' => e = .returned (.int .i64 (N : Int)) ∧ Below w.heap.size w w' := by
  rw [← hN.out]; exact wordCount_sp ao S cap w h hS

set_option maxHeartbeats 1000000 in
theorem allWords_any (ao : Option Addr) (S : List Int) (cap : Nat) (hSp : Sp S) (N : Nat) (hN : Hid (nW S = (N : Int))) (w : World) (hS : Ints w ao S) :
    Calls Try.prog 38 #[.agg #[.slice ao S.length cap]] w fun e w' =>
      ∃ q, e = .returned (.slice (some ⟨q, 0, none⟩) N N) ∧ OwnInts w' w.heap.size (.slice (some ⟨q, 0, none⟩) N N) (upto N) ∧ Below w.heap.size w w' := by
  obtain ⟨i0, hi, hz0, hz1, hz2⟩ := info_parts infoI64
  have N2 : N ≤ 1024 := by have := (nW_bd hSp).2; have := hN.out; omega
  have HSp := Lib.hid hSp
  clear hSp
  go_enter Try.func38, Try.ntmps38
  go_wp2_with fail
  have B0 : Below w.heap.size w (w.alloc (.cells #[.slice ao S.length cap] 26)) := by go_grown
  refine (wordCount_nat ao S cap N hN _ HSp.out (hS.below B0)).mono ?_
  rintro e w1 ⟨rfl, hb1⟩
  have B1 := B0.trans (hb1.mono B0.size)
  have hs1 : w.heap.size < w1.heap.size := lt_of_below hb1 (lt_alloc _ _)
  clear hb1 B0
  go_wp2_with (at_make; refine wpList_make_full _ rfl _ _ 24 rfl w.heap.size 2 i0 (.int .i64 0) 1 Try.underlying24 hi hz0 hz1 .i64 .i64 _ _ N rfl rfl rfl rfl (by rw [hz2]; omega) (by unfold maxLen; omega) (by omega) ?_; intro w2 hown hgrow)
  have B2 : Below w.heap.size w w2 := B1.grown hgrow B1.size (by intro k h; cases h)
  replace hown := own_made hown
  have g1 : w1.heap.size ≠ w.heap.size := by omega
  clear hgrow
  go_loopw [10] (fun i wr => ∃ (k : Nat) (D : List Int), k ≤ N ∧ i = .int .i64 k ∧ OwnInts wr w.heap.size (.slice (some ⟨w1.heap.size, 0, none⟩) N N) D ∧ Hid (D.length = N ∧ ∀ j, j < k → gi D j = j) ∧ Below w.heap.size w wr)
    (fun i _ => N - (intOf i).toNat)
  case atStart => exact ⟨0, _, Nat.zero_le _, rfl, hown, Lib.hid ⟨by simp, fun j h => by omega⟩, B2⟩
  case round =>
    clear hown B2
    obtain ⟨k, D, hk, rfl, hown, HD, B⟩ := hrel
    by_cases hlt : k < N
    · have hcell := hown.cell (k := k) (by rw [HD.out.1]; exact hlt)
      have hfree := hown.free k
      go_wp2
      go_roundw
      case rel =>
        refine ⟨k + 1, _, by omega, by go_num, hown.stored k (k : Int), Lib.hid ⟨by rw [List.length_set]; exact HD.out.1, ?_⟩, B.setCell (by simp; omega) _⟩
        intro j hj
        rw [gi_set _ _ _ _ (by rw [HD.out.1]; exact hlt)]
        by_cases e : j = k
        · rw [if_pos e, e]
        · rw [if_neg e]; exact HD.out.2 j (by omega)
      case measure => simp [intOf]; omega
    · go_wp2
      go_ret
      have e : D = upto N := ext_gi (by rw [HD.out.1, upto_len]) fun i hi => by rw [HD.out.1] at hi; rw [HD.out.2 i (by omega), gi_upto _ _ hi]
      rw [e] at hown
      exact ⟨_, rfl, hown, B⟩

end Go.Proofs.Ytlhapanfegjafaa

namespace Go.Proofs.Ytlhapanfegjafaa
open Go.RowKit Go.Shelf Cv
set_option linter.unusedVariables false
set_option linter.unusedSimpArgs false
set_option maxRecDepth 100000

/-- the words around a word -/
def bF (S : List Int) (r : Int) (w u : Nat) : Bool := ballN S r (w : Int) u
theorem bF_arnd {S : List Int} (hS : Sp S) {r : Int} (hr : 0 ≤ r) : Arnd (bF S r) (nW S).toNat := by
  refine ⟨fun w hw => ?_, fun w u h => ?_, by have := nW_bd hS; omega⟩
  · unfold bF; rw [ballN_in, decide_eq_true_eq, dist_self]; exact ⟨hw, hr⟩
  · unfold bF at h; rw [ballN_in, decide_eq_true_eq] at h; exact h.1
def eGr (S : List Int) (r : Int) : Int := if isSp S = true then (if 0 ≤ r ∧ r ≤ 8 then 0 else 2) else 1
def vGr (S : List Int) (r : Int) : List Int := if eGr S r = 0 then sorted (grL (bF S r) (nW S).toNat) else []
theorem eGr_zero {S : List Int} {r : Int} (h : eGr S r = 0) : Sp S ∧ 0 ≤ r ∧ r ≤ 8 := by
  unfold eGr at h
  split at h
  · rename_i h1
    split at h
    · rename_i h2; exact ⟨(isSp_iff S).1 h1, h2⟩
    · cases h
  · cases h
theorem grRun_len {F : Nat → Nat → Bool} {N : Nat} (hF : Arnd F N) (n : Nat) : ∀ c L, GrI F N c L → (grRun F N n c L).length ≤ N := by
  induction n with
  | zero => intro c L g; exact gri_len g
  | succ n ih =>
    intro c L g
    cases h : grDone c N with
    | true => rw [grRun_done h]; exact gri_len g
    | false => rw [grRun_step h]; exact ih _ _ (gri_step hF g h).2
theorem vGr_len (S : List Int) (r : Int) : (vGr S r).length ≤ 1048576 := by
  unfold vGr
  split
  · rename_i h
    obtain ⟨hS, h0, _⟩ := eGr_zero h
    have hF := bF_arnd hS h0
    have := grRun_len hF ((nW S).toNat + 1) _ _ (gri_0 (bF S r) (nW S).toNat fun _ => false)
    have := hF.n1
    rw [sorted_len]
    show (grRun (bF S r) (nW S).toNat ((nW S).toNat + 1) (fun _ => false) []).length ≤ _
    omega
  · simp
theorem eGr_impl (S : List Int) (r : Int) : eCov2 S [] [] r = eGr S r := by
  rw [eCov2_nil]
  unfold eCov eGr
  cases h : isSp S with
  | true =>
    have : eCode S [] = 0 := eCode_ok h rfl
    rw [if_pos this]; simp
  | false =>
    rw [eCode_inv h]; simp
theorem upto_at (S : List Int) (r : Int) (N j : Nat) (hj : j < N) : pAt ((upto N).map (ballN S r)) j = bF S r j := by
  unfold pAt bF
  simp [upto, hj]
theorem mbI_congr {f g : Nat → Nat} {k : Nat} (h : ∀ j, j < k → f j = g j) : mbI f k = mbI g k ∧ mbV f k = mbV g k := by
  induction k with
  | zero => exact ⟨rfl, rfl⟩
  | succ k ih =>
    have h1 := ih fun j hj => h j (by omega)
    have h2 := h k (by omega)
    simp only [mbI, mbV, h1.1, h1.2, h2, and_self]
theorem done_eq (c : Nat → Bool) (S : List Int) (hN : (nW S).toNat ≤ 1024) (hc : ∀ u, c u = true → u < (nW S).toNat) : eqS c (allN S) = grDone c (nW S).toNat := by
  rw [Bool.eq_iff_iff, eqS_iff]
  unfold grDone allN
  rw [decide_eq_true_eq]
  constructor
  · intro h u hu
    rw [h u (by omega), decide_eq_true hu]
  · intro h u _
    by_cases hu : u < (nW S).toNat
    · rw [h u hu, decide_eq_true hu]
    · rw [decide_eq_false hu]
      cases e : c u with
      | true => exact absurd (hc u e) hu
      | false => rfl
theorem balls_n (ao : Option Addr) (S : List Int) (cap : Nat) (ac : Option Addr) (C : List Int) (K capc : Nat) (hK : K = C.length) (r : Int) (w : World) :
    Calls Try.prog 37 #[.agg #[.slice ao S.length cap], .slice ac K capc, .int .i64 r] w fun e w' =>
      ∃ wb sb rb, e = .returned (.func (.func 62) #[] #[.pointer (some ⟨wb, 0, none⟩), .pointer (some ⟨sb, 0, none⟩), .pointer (some ⟨rb, 0, none⟩)]) ∧ (w.heap.size ≤ wb ∧ w.heap.size ≤ sb ∧ w.heap.size ≤ rb) ∧ w'.heap[wb]? = some (.cells #[.slice ac C.length capc] 24 (0, 0)) ∧ w'.heap[sb]? = some (.cells #[.slice ao S.length cap] 26 (0, 0)) ∧ w'.heap[rb]? = some (.cells #[.int .i64 r] 2 (0, 0)) ∧ Below w.heap.size w w' := by
  subst hK; exact balls_any ao S cap ac C capc r w
theorem upto_ne {N : Nat} (h : 1 ≤ N) (f : Int → Nat → Bool) : (upto N).map f ≠ [] := by
  intro e
  have := congrArg List.length e
  rw [List.length_map, upto_len] at this
  simp at this; omega
def slen : Value → Nat
  | .slice _ n _ => n
  | _ => 0

theorem gn_gr {F G : Nat → Nat → Bool} {N : Nat} {Q : Nat → Bool} (hF : Arnd F N) (hG : ∀ j, j < N → G j = F j) (hD : ∀ c : Nat → Bool, (∀ u, c u = true → u < N) → eqS c Q = grDone c N) : ∀ n c L, (∀ u, c u = true → u < N) → gnRun G N Q n c L = grRun F N n c L
  | 0, _, _, _ => rfl
  | n + 1, c, L, hc => by
    have hw : gnW G N c = grW F N c := (gn_congr (f := gF G c) (g := gF F c) (k := N) fun j hj => by unfold gF; rw [hG j hj]).1
    rw [gnRun, grRun, hD c hc]
    by_cases h : grDone c N = true
    · rw [if_pos h, if_pos h]
    · rw [if_neg h, if_neg h]
      have hp := (gr_pick hF (by simpa using h)).1
      have hcc : gnC G N c = grC F N c := by unfold gnC grC; rw [hw, hG _ hp]
      rw [hcc, hw]
      exact gn_gr hF hG hD n _ _ fun u hu => by
        simp only [grC, Bool.or_eq_true] at hu
        rcases hu with hu | hu
        · exact hc u hu
        · exact hF.wd _ _ hu
theorem gn_len1 (F : Nat → Nat → Bool) (N : Nat) : ∀ n c L, 1 ≤ L.length → 1 ≤ (grRun F N n c L).length
  | 0, _, _, h => h
  | n + 1, c, L, h => by
    rw [grRun]
    split
    · exact h
    · exact gn_len1 F N n _ _ (by rw [List.length_append]; simp)
theorem cnt_lt (N : Nat) : ∀ n, cntTo (fun u => decide (u < N)) n = min n N
  | 0 => by simp [cntTo]
  | n + 1 => by
    rw [cntTo, cnt_lt N n]
    by_cases h : n < N
    · rw [if_pos (by simpa using h)]; omega
    · rw [if_neg (by simpa using h)]; omega
theorem lf_all {S : List Int} {N : Nat} (hN : (nW S).toNat = N) (h : N ≤ 1024) : lf (allN S) (fun _ => false) = N := by
  have e : byd (allN S) (fun _ => false) = fun u => decide (u < N) := by funext u; unfold byd allN; rw [hN]; simp
  unfold lf
  rw [e, cnt_lt]; omega

set_option maxHeartbeats 4000000 in
theorem impl_GreedyCode (ao : Option Addr) (S : List Int) (cap : Nat) (hn : S.length ≤ 4294967296) (r : Int) (hrb : -9223372036854775808 ≤ r ∧ r ≤ 9223372036854775807) (w : World) (hS : Ints w ao S) :
    Calls Try.prog 15 #[.agg #[.slice ao S.length cap], .int .i64 r] w fun e w' => ∃ v, e = .returned (.tuple #[v, .int .i64 (eGr S r)]) ∧ OwnInts w' w.heap.size v (vGr S r) ∧ Below w.heap.size w w' := by
  have B0 : Below w.heap.size w (w.alloc (.cells #[.slice ao S.length cap] 26)) := by go_grown
  have c0 := cell_new w (.slice ao S.length cap) 26
  have l0 := lt_alloc w (.cells #[.slice ao S.length cap] 26)
  have hce := coverError_n ao S cap hn none [] 0 (by simp) r none [] 0 0 rfl (by omega) _ (hS.below B0) (.inl rfl) (.inl rfl)
  rw [eGr_impl] at hce
  by_cases hz : eGr S r = 0
  · obtain ⟨hSp, hr0, hr8⟩ := eGr_zero hz
    have HSp := Lib.hid hSp
    obtain ⟨N1, N2⟩ := nW_bd hSp
    obtain ⟨N, hN⟩ : ∃ N : Nat, nW S = (N : Int) := ⟨(nW S).toNat, by omega⟩
    have hNt : (nW S).toNat = N := by omega
    have HN := Lib.hid hN
    have hA := bF_arnd hSp hr0
    rw [hNt] at hA
    rw [hN] at N1 N2
    have N1n : 1 ≤ N := by omega
    have N2n : N ≤ 1024 := by omega
    have hFP : ∀ j, j < N → pAt ((upto N).map (ballN S r)) j = bF S r j := fun j hj => upto_at S r N j hj
    have hDE : ∀ c : Nat → Bool, (∀ u, c u = true → u < N) → eqS c (allN S) = grDone c N := fun c h => by rw [← hNt]; exact done_eq c S (by omega) (by rw [hNt]; exact h)
    have hCv : Cvr (pAt ((upto N).map (ballN S r))) N (allN S) := ⟨fun j u hj h => by rw [hFP j hj] at h; unfold allN; rw [hNt, decide_eq_true_eq]; exact hA.wd _ _ h,
      fun u hu => by unfold allN at hu; rw [hNt, decide_eq_true_eq] at hu; exact ⟨u, hu, by rw [hFP u hu]; exact hA.own u hu⟩, fun u hu => by unfold allN at hu; rw [hNt, decide_eq_true_eq] at hu; omega⟩
    have hL : gnL (pAt ((upto N).map (ballN S r))) N (allN S) = grL (bF S r) N := by
      unfold gnL grL
      rw [lf_all hNt N2n]
      exact gn_gr hA hFP hDE _ _ _ (fun u h => by cases h)
    have HV : Hid (vGr S r = sorted (gnL (pAt ((upto N).map (ballN S r))) N (allN S))) := Lib.hid (by unfold vGr; rw [if_pos hz, hNt, hL])
    have hlen : 1 ≤ (gnL (pAt ((upto N).map (ballN S r))) N (allN S)).length ∧ (gnL (pAt ((upto N).map (ballN S r))) N (allN S)).length ≤ 1048576 := by
      rw [hL]
      refine ⟨?_, by have := grRun_len hA (N + 1) _ _ (gri_0 (bF S r) N fun _ => false); unfold grL; omega⟩
      unfold grL
      rw [grRun_step (by unfold grDone; rw [decide_eq_false_iff_not]; intro h; have := h 0 (by omega); cases this)]
      exact gn_len1 _ _ _ _ _ (by simp)
    obtain ⟨LL, hLL⟩ : ∃ LL, LL = gnL (pAt ((upto N).map (ballN S r))) N (allN S) := ⟨_, rfl⟩
    rw [← hLL] at hlen HV
    rw [hz] at hce
    have HZ := Lib.hid hz
    have HCE := Lib.hid hce
    have HCv := Lib.hid hCv
    have HLL := Lib.hid hLL
    clear hz hce hSp hN hNt hA hFP hDE hCv hL hLL
    go_enter Try.func15, Try.ntmps15
    go_wp2_with fail
    refine HCE.out.mono ?_
    rintro e w1 ⟨rfl, hb0⟩
    have c1 := kept_cell hb0 c0 l0
    have B1 := B0.trans (hb0.mono B0.size)
    have l1 := lt_of_below hb0 l0
    clear hb0 c0 l0 B0
    go_wp2_with fail
    refine wp_region_held_drew (S := fun w' => w'.cell? ⟨w.heap.size, 0, none⟩ = some (.slice ao S.length cap)) (by kernel_rfl) (c1) (fun hHeld => ?_)
    refine wpAnyH_take (i := 0) (v := ?_) rfl (by kernel_rfl) (by kernel_rfl) (by kernel_rfl) (fun _ _ _ h => h) (Or.inl ⟨by rfl, ?_⟩) (by assumption) ?_
    rotate_left
    · (intro w hSw; obtain hSw := hSw; (try dsimp only at hSw); go_simp; try (with_reducible rfl))
    (try simp only [Act.put, List.setIfInBounds_toArray, List.set_cons_zero, List.set_cons_succ, List.getElem_toArray, List.getElem_cons_succ, List.getElem_cons_zero])
    refine wpAnyH_take (i := 1) (v := ?_) rfl (by kernel_rfl) (by kernel_rfl) (by kernel_rfl) (fun _ _ _ h => h) (Or.inl ⟨by rfl, ?_⟩) (by assumption) ?_
    rotate_left
    · (intro w hSw; obtain hSw := hSw; (try dsimp only at hSw); go_simp; try (with_reducible rfl))
    (try simp only [Act.put, List.setIfInBounds_toArray, List.set_cons_zero, List.set_cons_succ, List.getElem_toArray, List.getElem_cons_succ, List.getElem_cons_zero])
    refine wpAnyH_take (i := 3) (v := ?_) rfl (by kernel_rfl) (by kernel_rfl) (by kernel_rfl) (fun _ _ _ h => h) (Or.inl ⟨by rfl, ?_⟩) (by assumption) ?_
    rotate_left
    · (intro w hSw; obtain hSw := hSw; (try dsimp only at hSw); go_simp; try (with_reducible rfl))
    (try simp only [Act.put, List.setIfInBounds_toArray, List.set_cons_zero, List.set_cons_succ, List.getElem_toArray, List.getElem_cons_succ, List.getElem_cons_zero])
    refine wpAnyH_ready (rs := [2]) (by kernel_rfl) (by simp) ?_
    refine AllReadyH.cons rfl (fun K hK => ?_) AllReadyH.nil
    go_simp
    (go_at_call 38; refine (allWords_any ao S cap HSp.out N HN _ (hS.below (B1.trans (Below.mono (Below.refl w1.heap.size w1).drew B1.size)))).mono ?_)
    rintro e x1 ⟨q, rfl, oq, hb1⟩
    have H1 : Below w1.heap.size w1 x1 := Below.trans (Below.refl w1.heap.size w1).drew (hb1.mono (Below.size (Below.refl w1.heap.size w1).drew))
    refine hK.out _ _ (kept_cell H1 c1 l1) (fun hHeld => ?_)
    clear hK K
    (try simp only [Act.put, List.setIfInBounds_toArray, List.set_cons_zero, List.set_cons_succ, List.getElem_toArray, List.getElem_cons_succ, List.getElem_cons_zero])
    refine wpAnyH_ready (rs := [4]) (by kernel_rfl) (by simp) ?_
    refine AllReadyH.cons rfl (fun K hK => ?_) AllReadyH.nil
    go_simp
    (go_at_call 37; refine (balls_n ao S cap (some ⟨q, 0, none⟩) (upto N) N N (upto_len N).symm r _).mono ?_)
    rintro e x2 ⟨wb, sb, rb, rfl, hbb, hwb, hsb, hrb, hb2⟩
    have H2 : Below w1.heap.size w1 x2 := Below.trans H1 (hb2.mono (Below.size H1))
    refine hK.out _ _ (kept_cell H2 c1 l1) (fun hHeld => ?_)
    clear hK K
    (try simp only [Act.put, List.setIfInBounds_toArray, List.set_cons_zero, List.set_cons_succ, List.getElem_toArray, List.getElem_cons_succ, List.getElem_cons_zero])
    refine wpAnyH_ready (rs := [5]) (by kernel_rfl) (by simp) ?_
    refine AllReadyH.cons rfl (fun K hK => ?_) AllReadyH.nil
    go_simp
    (go_at_call 36; refine (collectBalls_any S HSp.out ao cap (some ⟨q, 0, none⟩) (upto N) N (by rw [upto_len]; omega) (fun i hi => by rw [upto_len] at hi; rw [gi_upto _ _ hi]; omega) r hr0 hr8 wb sb rb x1 x2 hb2 (hS.below (B1.trans (Below.mono H1 B1.size))) (own_ints oq) hwb hsb hrb).mono ?_)
    rintro e x3 ⟨vS, rfl, os, hb3⟩
    have H3 : Below w1.heap.size w1 x3 := Below.trans H2 (hb3.mono (Below.size H2))
    obtain ⟨gs, cs, rfl⟩ := sets_some os (upto_ne N1n _)
    rw [List.length_map, upto_len] at os
    try rw [List.length_map, upto_len]
    refine hK.out _ _ (kept_cell H3 c1 l1) (fun hHeld => ?_)
    clear hK K
    (try simp only [Act.put, List.setIfInBounds_toArray, List.set_cons_zero, List.set_cons_succ, List.getElem_toArray, List.getElem_cons_succ, List.getElem_cons_zero])
    refine wpAnyH_take (i := 6) (v := ?_) rfl (by kernel_rfl) (by kernel_rfl) (by kernel_rfl) (fun _ _ _ h => h) (Or.inl ⟨by rfl, ?_⟩) (by assumption) ?_
    rotate_left
    · (intro w hSw; obtain hSw := hSw; (try dsimp only at hSw); go_simp; try (with_reducible rfl))
    (try simp only [Act.put, List.setIfInBounds_toArray, List.set_cons_zero, List.set_cons_succ, List.getElem_toArray, List.getElem_cons_succ, List.getElem_cons_zero])
    refine wpAnyH_done (by kernel_rfl) ?_ _
    (try simp only [Act.put, List.setIfInBounds_toArray, List.set_cons_zero, List.set_cons_succ, List.getElem_toArray, List.getElem_cons_succ, List.getElem_cons_zero])
    have Hn := H3
    have B5 := B1.trans (Below.mono Hn B1.size)
    have c5 := kept_cell Hn c1 l1
    have l5 := lt_of_below Hn l1
    clear hHeld oq hwb hsb hrb hbb hb1 hb2 H1 H2 H3 Hn c1 l1 B1
    go_wp2_with fail
    refine (wholeSet_any ao S cap HSp.out _ (hS.below B5)).mono ?_
    rintro e w6 ⟨rfl, hb6⟩
    have B6 := B5.trans (hb6.mono B5.size)
    have os6 := os.below hb6
    have s6 := os6.base_le
    clear hb6 os c5 l5 B5
    go_wp2_with fail
    refine (greedyRounds_any gs N cs (allN S) w6).mono ?_
    rintro e w7 ⟨rfl, rw7, hs7, hb7⟩
    have B7 := B6.trans (hb7.mono B6.size)
    have os7 : OwnSets w7 _ (.slice (some ⟨gs, 0, none⟩) N cs) ((upto N).map (ballN S r)) := os6.below hb7
    have lw := rw7.lt
    have ls := (Array.getElem?_eq_some_iff.1 hs7).1
    have lg := os7.base_le.2
    have hst := sorted_any2 66 #[.pointer (some ⟨w6.heap.size + 1, 0, none⟩), .pointer (some ⟨w6.heap.size, 0, none⟩)] (enters_of Try.func66 (by kernel_rfl) rfl) LL hlen.1 hlen.2 _ 1024 (by omega) w7 1 (KpR (w6.heap.size + 1) w6.heap.size gs) kpR_t
      (fun A C h => ⟨fun cur t e => (h.block _ lw).trans e, fun cur t e => (h.block _ ls).trans e, fun cur t e => (h.block _ lg).trans e⟩)
      (fun n hn => by rw [HLL.out]; exact greedyRounds_gives n hn _ gs cs N _ (by rw [List.length_map, upto_len]) N1n (by omega) (allN S) HCv.out _ _ w7 os7 rw7 hs7)
    have s7 := B7.size
    clear os7 hb7 os6 rw7 hs7
    go_wp2_with fail
    refine hst.mono ?_
    rintro e w8 ⟨v, rfl, own, hb8⟩
    go_wp2_with fail
    go_ret2
    exact ⟨_, by rw [HZ.out]; try rfl, by rw [HV.out]; exact own.rebase s7, B7.trans (hb8.mono B7.size)⟩
  · have hzn : (eGr S r != 0) = true := by simpa using hz
    have HV : Hid (vGr S r = []) := Lib.hid (by unfold vGr; rw [if_neg hz])
    have HCE := Lib.hid hce
    clear hz hce
    go_enter Try.func15, Try.ntmps15
    go_wp2_with fail
    refine HCE.out.mono ?_
    rintro e w1 ⟨rfl, hb1⟩
    go_wp2_with fail
    go_ret2
    exact ⟨_, rfl, by rw [HV.out]; exact own_nil _ _, B0.trans (hb1.mono B0.size)⟩

end Go.Proofs.Ytlhapanfegjafaa

namespace Go.Proofs.Ytlhapanfegjafaa
open Cv
set_option linter.unusedVariables false
set_option linter.unusedSimpArgs false

/-- a table of numbers, a table of Bools -/
def tbI (g : Nat → Int) (N : Nat) : List Int := (List.range N).map g
def tbB (f : Nat → Bool) (N : Nat) : List Bool := (List.range N).map f
theorem tbI_len (g : Nat → Int) (N : Nat) : (tbI g N).length = N := by simp [tbI]
theorem tbB_len (f : Nat → Bool) (N : Nat) : (tbB f N).length = N := by simp [tbB]
theorem gi_tbI (g : Nat → Int) {N k : Nat} (h : k < N) : gi (tbI g N) k = g k := by simp [gi, tbI, h]
theorem tbB_at (f : Nat → Bool) {N k : Nat} (h : k < (tbB f N).length) : (tbB f N)[k] = f k := by simp [tbB]
theorem tbI_set (g : Nat → Int) (N k : Nat) (x : Int) : (tbI g N).set k x = tbI (fun u => if u = k then x else g u) N := by
  apply List.ext_getElem (by simp [tbI])
  intro i h1 h2
  simp only [tbI, List.getElem_set, List.getElem_map, List.getElem_range]
  by_cases e : k = i
  · subst e; simp
  · rw [if_neg e, if_neg (fun h => e h.symm)]
theorem tbB_set (f : Nat → Bool) (N k : Nat) (x : Bool) : (tbB f N).set k x = tbB (fun u => if u = k then x else f u) N := by
  apply List.ext_getElem (by simp [tbB])
  intro i h1 h2
  simp only [tbB, List.getElem_set, List.getElem_map, List.getElem_range]
  by_cases e : k = i
  · subst e; simp
  · rw [if_neg e, if_neg (fun h => e h.symm)]
theorem tbI_congr {g g' : Nat → Int} {N : Nat} (h : ∀ u, u < N → g u = g' u) : tbI g N = tbI g' N := by
  unfold tbI
  exact List.map_congr_left (fun u hu => h u (List.mem_range.1 hu))
theorem tbB_congr {g g' : Nat → Bool} {N : Nat} (h : ∀ u, u < N → g u = g' u) : tbB g N = tbB g' N := by
  unfold tbB
  exact List.map_congr_left (fun u hu => h u (List.mem_range.1 hu))
theorem tbI_0 (N : Nat) : List.replicate N (0 : Int) = tbI (fun _ => 0) N := by
  simp [tbI, List.map_const']
theorem tbB_0 (N : Nat) : List.replicate N false = tbB (fun _ => false) N := by
  simp [tbB, List.map_const']

/-- how many -/
theorem cntTo_sel (p : Nat → Bool) (n : Nat) : cntTo p n = (selTo p n).length := by
  induction n with
  | zero => rfl
  | succ n ih => rw [cntTo, selTo, List.length_append, ih]; split <;> rfl
theorem cntTo_congr {p q : Nat → Bool} {n : Nat} (h : ∀ u, u < n → p u = q u) : cntTo p n = cntTo q n := by
  induction n with
  | zero => rfl
  | succ n ih => rw [cntTo, cntTo, ih (fun u hu => h u (by omega)), h n (by omega)]
theorem cntTo_over {p : Nat → Bool} {n : Nat} (h : ∀ u, p u = true → u < n) (m : Nat) (hm : n ≤ m) : cntTo p m = cntTo p n := by
  induction m with
  | zero => obtain rfl : n = 0 := by omega
            rfl
  | succ m ih =>
    by_cases e : n = m + 1
    · rw [e]
    · rw [cntTo, ih (by omega), if_neg (fun g => by have := h m g; omega)]; rfl
theorem cntTo_less1 {p : Nat → Bool} {n x : Nat} (hx : x < n) (h : p x = true) : cntTo (fun u => p u && !decide (u = x)) n + 1 = cntTo p n := by
  induction n with
  | zero => omega
  | succ n ih =>
    rw [cntTo, cntTo]
    by_cases e : x = n
    · subst e
      rw [cntTo_congr (p := fun u => p u && !decide (u = x)) (q := p) (fun u hu => by simp [show u ≠ x by omega]), if_pos h, if_neg (by simp)]
    · have := ih (by omega)
      have e2 : (p n && !decide (n = x)) = p n := by simp [show n ≠ x by omega]
      simp only [e2]
      omega
theorem bF_in (S : List Int) (r : Int) (x u : Nat) : bF S r x u = decide (u < (nW S).toNat ∧ dist S u (x : Int) ≤ r) := ballN_in S r x u
/-- a ball's size is the same for each word -/
theorem bF_size {S : List Int} (hS : Sp S) {r : Int} (hr : 0 ≤ r) (x : Nat) : (cntTo (bF S r x) 1024 : Int) = sizeN S r := by
  have hN := nW_bd hS
  rw [cntTo_over (fun u h => (bF_arnd hS hr).wd x u h) 1024 (by omega)]
  have e := ball_count S hS.bd (x : Int) r.toNat
  rw [Int.toNat_of_nonneg hr] at e
  rw [show sizeN S r = sumF (coef S S.length) r.toNat from rfl, ← e, ← List.length_map (f := Prod.fst), ballW_P, ballW, ← cntTo_sel]
  congr 1
  exact cntTo_congr fun u hu => by rw [bF_in]; simp [ballB, hu]
theorem bF_comm {S : List Int} {r : Int} {x u : Nat} (hx : x < (nW S).toNat) (hu : u < (nW S).toNat) : bF S r x u = bF S r u x := by
  rw [bF_in, bF_in, dist_comm]; simp [hx, hu]
/-- one word more is covered -/
def add1 (c : Nat → Bool) (x : Nat) : Nat → Bool := fun u => c u || decide (u = x)
theorem gF_add (F : Nat → Nat → Bool) (c : Nat → Bool) {x : Nat} (hx : x < 1024) (h : c x = false) (v : Nat) : (gF F (add1 c x) v : Int) = (gF F c v : Int) - (if F v x = true then 1 else 0) := by
  unfold gF
  by_cases e : F v x = true
  · have := cntTo_less1 (p := byd (F v) c) hx (by simp [byd, e, h])
    rw [if_pos e, cntTo_congr (p := byd (F v) (add1 c x)) (q := fun u => byd (F v) c u && !decide (u = x)) (fun u _ => by simp only [byd, add1]; cases F v u <;> cases c u <;> rfl)]
    omega
  · rw [if_neg e, cntTo_congr (p := byd (F v) (add1 c x)) (q := byd (F v) c) (fun u _ => by
      simp only [byd, add1]
      by_cases eu : u = x
      · subst eu; simp [Bool.eq_false_iff.2 e]
      · simp [eu])]
    omega
theorem gF_bd (F : Nat → Nat → Bool) (c : Nat → Bool) (v : Nat) : gF F c v ≤ 1024 := cntTo_le _ _
theorem gF_0 (F : Nat → Nat → Bool) (v : Nat) : gF F (fun _ => false) v = cntTo (F v) 1024 := cntTo_congr fun u _ => by simp [byd]

/-! ### the first numbers of a list -/
theorem take_more (L : List Int) (j : Nat) (hj : j < L.length) : L.take (j + 1) = L.take j ++ [gi L j] := by
  rw [List.take_succ_eq_append_getElem hj, gi_lt L j hj]
theorem inL_more (L : List Int) (j : Nat) (hj : j < L.length) (v : Nat) : inL (L.take (j + 1)) v = (inL (L.take j) v || decide ((v : Int) = gi L j)) := by
  unfold inL
  rw [take_more L j hj]
  rw [Bool.eq_iff_iff]; simp
theorem nd_more {L : List Int} (h : L.Nodup) (j : Nat) (hj : j < L.length) : gi L j ∉ L.take j := by
  have e := take_more L j hj
  have h2 : (L.take (j + 1)).Nodup := h.sublist (List.take_sublist _ _)
  rw [e, List.nodup_append] at h2
  intro hm
  exact h2.2.2 _ hm _ (by simp) rfl
/-- what is covered behind the first k words of a ball -/
def cuT (c : Nat → Bool) (L : List Int) (k : Nat) : Nat → Bool := fun u => c u || inL (L.take k) u
theorem cuT_0 (c : Nat → Bool) (L : List Int) : cuT c L 0 = c := by funext u; simp [cuT, inL]
theorem cuT_all (S : List Int) (r : Int) (c : Nat → Bool) (x : Nat) : cuT c (ballW S (x : Int) r) (ballW S (x : Int) r).length = fun u => c u || bF S r x u := by
  funext u; unfold cuT; rw [List.take_length]; rfl
theorem cuT_more (c : Nat → Bool) (L : List Int) (k x : Nat) (hk : k < L.length) (hx : gi L k = x) : cuT c L (k + 1) = add1 (cuT c L k) x := by
  funext u
  unfold cuT add1
  rw [inL_more L k hk, hx, Bool.or_assoc]
  congr 2
  rw [decide_eq_decide]; omega
theorem cuT_had (c : Nat → Bool) (L : List Int) (k x : Nat) (hk : k < L.length) (hx : gi L k = x) (h : cuT c L k x = true) : cuT c L (k + 1) = cuT c L k := by
  rw [cuT_more c L k x hk hx]
  funext u
  unfold add1
  by_cases e : u = x
  · subst e; simp [h]
  · simp [e]
/-- the numbers while a word's ball is gone through -/
def gT (F : Nat → Nat → Bool) (c : Nat → Bool) (L : List Int) (j v : Nat) : Int := (gF F c v : Int) - (if inL (L.take j) v = true then 1 else 0)
theorem gT_0 (F : Nat → Nat → Bool) (c : Nat → Bool) (L : List Int) (v : Nat) : gT F c L 0 v = (gF F c v : Int) := by simp [gT, inL]
theorem gT_more (F : Nat → Nat → Bool) (c : Nat → Bool) (L : List Int) (hL : L.Nodup) (j x : Nat) (hj : j < L.length) (hx : gi L j = x) (v : Nat) : gT F c L (j + 1) v = if v = x then gT F c L j x - 1 else gT F c L j v := by
  have hn := nd_more hL j hj
  unfold gT
  rw [inL_more L j hj, hx]
  by_cases e : v = x
  · subst e
    rw [if_pos rfl, if_pos (by simp), if_neg (by unfold inL; rw [← hx]; simpa using hn)]
    omega
  · rw [if_neg e]
    have : ¬ ((v : Int) = (x : Int)) := by omega
    simp [this]
theorem gT_bd (F : Nat → Nat → Bool) (c : Nat → Bool) (L : List Int) (j v : Nat) : -1 ≤ gT F c L j v ∧ gT F c L j v ≤ 1024 := by
  have := gF_bd F c v
  unfold gT
  split <;> omega
theorem gT_all {S : List Int} {r : Int} {c : Nat → Bool} {x v : Nat} (hS : Sp S) (hx : x < (nW S).toNat) (hv : v < (nW S).toNat) (h : c x = false) : gT (bF S r) c (ballW S (x : Int) r) (ballW S (x : Int) r).length v = (gF (bF S r) (add1 c x) v : Int) := by
  have hN := nW_bd hS
  rw [gF_add (bF S r) c (by omega) h, bF_comm hv hx]
  unfold gT
  rw [List.take_length]; rfl
theorem ballW_asc (S : List Int) (x r : Int) : Asc (ballW S x r) := by
  unfold ballW
  generalize (nW S).toNat = n
  induction n with
  | zero => exact asc_nil
  | succ n ih =>
    rw [selTo]
    unfold Asc at ih ⊢
    rw [List.pairwise_append]
    refine ⟨ih, by split <;> simp, fun a ha b hb => ?_⟩
    obtain ⟨i, hi, rfl⟩ := mem_gi ha
    have := selTo_bd _ n i hi
    split at hb
    · simp at hb; omega
    · simp at hb
theorem ballW_bd {S : List Int} (hS : Sp S) (x r : Int) (k : Nat) (hk : k < (ballW S x r).length) : ∃ y : Nat, gi (ballW S x r) k = (y : Int) ∧ y < (nW S).toNat := by
  have := selTo_bd _ _ k hk
  exact ⟨(gi (ballW S x r) k).toNat, by unfold ballW at *; omega, by unfold ballW at *; omega⟩

/-! ### which word comes next -/
theorem mb_at1 (f : Nat → Nat) (k : Nat) : f (mbI f (k + 1)) = mbV f (k + 1) := by
  induction k with
  | zero => 
    have h1 : mbI f (0 + 1) = 0 := by simp [mbI]
    have h0 : mbV f 0 = 0 := rfl
    rw [h1, mbV]
    split <;> omega
  | succ k ih =>
    rw [mbV, mbI]
    split
    · rfl
    · exact ih
theorem mbI_1 (f : Nat → Nat) : mbI f 1 = 0 := by simp [mbI]
theorem mbI_more (f : Nat → Nat) (k : Nat) (hk : 1 ≤ k) : mbI f (k + 1) = if f (mbI f k) < f k then k else mbI f k := by
  obtain ⟨j, rfl⟩ : ∃ j, k = j + 1 := ⟨k - 1, by omega⟩
  rw [mb_at1 f j, mbI]
/-- no word is left iff the best covers nothing -/
theorem gr_zero {F : Nat → Nat → Bool} {N : Nat} (hF : Arnd F N) {c : Nat → Bool} (hN : 1 ≤ N) : gF F c (grW F N c) = 0 ↔ grDone c N = true := by
  constructor
  · intro h
    cases e : grDone c N with
    | true => rfl
    | false => have := (gr_pick hF e).2.1; omega
  · intro h
    unfold grDone at h
    rw [decide_eq_true_eq] at h
    apply Classical.byContradiction
    intro g
    obtain ⟨u, _, hb⟩ := cntTo_ex (p := byd (F (grW F N c)) c) (n := 1024) (by unfold gF at g; omega)
    simp only [byd, Bool.and_eq_true, Bool.not_eq_true'] at hb
    rw [h u (hF.wd _ _ hb.1)] at hb; cases hb.2
theorem put_sorted {L : List Int} (h : L.Nodup) {x : Int} (hx : x ∉ L) : putL (sorted L) x = sorted (L ++ [x]) := by
  refine asc_ext (asc_putL (asc_sorted h) x) (asc_sorted (by rw [List.nodup_append]; exact ⟨h, by simp, fun a ha b hb e => by rw [List.mem_singleton] at hb; subst hb; subst e; exact hx ha⟩)) (fun y => ?_)
  rw [mem_putL, Cv.mem_sorted, Cv.mem_sorted, List.mem_append, List.mem_singleton]
theorem sorted_0 : sorted [] = [] := List.eq_nil_of_length_eq_zero (by rw [sorted_len]; rfl)

end Go.Proofs.Ytlhapanfegjafaa

namespace Go.Proofs.Ytlhapanfegjafaa
open Go.RowKit Cv
set_option linter.unusedVariables false
set_option linter.unusedSimpArgs false
set_option maxRecDepth 100000

set_option maxHeartbeats 2000000 in
theorem l01Put_new (base g cap : Nat) (L : List Int) (x : Int) (hx : x ∉ L) (w : World) (hl : L.length ≤ 1048575) (hrow : OwnInts w base (.slice (some ⟨g, 0, none⟩) L.length cap) L) :
    Calls Try.prog 44 #[.slice (some ⟨g, 0, none⟩) L.length cap, .int .i64 x] w fun e w' => ∃ g' c', e = .returned (.slice (some ⟨g', 0, none⟩) (putL L x).length c') ∧ OwnInts w' w.heap.size (.slice (some ⟨g', 0, none⟩) (putL L x).length c') (putL L x) ∧ Below w.heap.size w w' := by
  obtain ⟨hcap, hcm⟩ := own_cap hrow
  obtain ⟨hb1, hb2⟩ := hrow.base_le
  have hI := own_ints hrow
  have hcell : ∀ j, j < L.length → w.cell? ⟨g, j, none⟩ = some (.int .i64 (gi L j)) := fun j hj => hrow.cell hj
  have HL : Hid (putL L x = if 0 < putAt L x L.length ∧ gi L (putAt L x L.length - 1) = x then L else L.take (putAt L x L.length) ++ [x] ++ L.drop (putAt L x L.length)) := Lib.hid rfl
  unfold maxLen at hcm
  have HX := Lib.hid hx
  clear hx
  go_enter Try.func44, Try.ntmps44
  go_wp2_with fail
  go_loopw [5] (fun v wr => ∃ k : Nat, k ≤ L.length ∧ v = .int .i64 k ∧ Hid (putAt L x L.length = putAt L x k) ∧ Below w.heap.size w wr) (fun v _ => (intOf v).toNat)
  case atStart => exact ⟨L.length, Nat.le_refl _, rfl, Lib.hid rfl, Below.refl _ _⟩
  case round =>
    obtain ⟨k, hk, rfl, hp, B⟩ := hrel
    by_cases h0 : k = 0
    · subst h0
      have own := hrow.below B
      have i0 := own_ints_take own 0
      have i9 := own_ints_drop own 0
      have hs := B.size
      have HE : Hid (putL L x = L.take 0 ++ [x] ++ L.drop 0) := Lib.hid (by rw [HL.out, hp.out]; simp [putAt])
      go_wp2_with fail
      refine (l01Own_any ⟨g, 0, none⟩ (L.take 0) 0 cap (by rw [List.length_take]; omega) (by omega) _ i0).mono ?_
      rintro e w1 ⟨g1, c1, rfl, o1, hb⟩
      replace i9 := i9.below hb
      have B1 := B.trans (hb.mono hs)
      replace o1 := o1.rebase (base' := w.heap.size) hs
      have hs1 := B1.size
      go_wp2_with (first | (at_builtin; refine wpList_append_int rfl _ _ rfl w.heap.size _ _ rfl (o1.alloc _) w1.heap.size _ rfl (cell_new _ _ _) (by rw [List.length_take]; omega) (by rw [World.size_alloc]; omega) ?_; intro v' w4 hown' hgrow; obtain ⟨g2, c2, hv, hob⟩ := own_some hown' (by simp); subst hv; have hgb := grown_below (B1.alloc hs1 _) (by rw [World.size_alloc]; omega) hgrow (o1.alloc _) (Nat.le_refl _); have i8 := own_ints_drop (hrow.below hgb) 0; clear o1 hgrow; have hs4 := hgb.size) | (at_builtin; refine wpList_append_ints rfl _ _ rfl w.heap.size _ _ rfl hown' ⟨g, 0, none⟩ (L.drop 0) L.length _ (by simp) rfl i8 (by simp; omega) hs4 ?_; intro v5 w5 hown5 hgrow5 hnil5; rw [← HE.out] at hown5; obtain ⟨g3, c3, hv5, _⟩ := own_some hown5 (by rw [HE.out]; simp); obtain ⟨M5, hM5⟩ : ∃ M, M = (putL L x).length := ⟨_, rfl⟩; rw [← hM5] at hv5; subst hv5; replace hM5 := Lib.hid hM5))
      have hgb5 : Below w.heap.size w w5 := by first | exact grown_below hgb hs4 hgrow5 hown' (Nat.le_refl _) | exact grown_below hgb.drew hs4 hgrow5 hown' (Nat.le_refl _)
      go_ret
      exact ⟨g3, c3, by rw [← hM5.out]; rfl, by rw [← hM5.out]; exact hown5, hgb5⟩
    · obtain ⟨n, hkn⟩ : ∃ n, k = n + 1 := ⟨k - 1, by omega⟩
      have e1 : IntKind.i64.wrap ((k : Int) - 1) = (n : Int) := by rw [IntWalk.i64_in _ ⟨by omega, by omega⟩]; omega
      have p0 : (0 : Int) < (k : Int) := by omega
      have p1 : n < L.length := by omega
      have hc := kept_cell B (hcell n p1) hb2
      have HK := Lib.hid hkn
      have hsub : k - 1 = n := by omega
      by_cases h1 : x < gi L n
      · have hp' : Hid (putAt L x L.length = putAt L x n) := Lib.hid (by rw [hp.out, hkn, putAt_gt h1])
        have d1 : decide (x < gi L n) = true := by simpa using h1
        clear hkn hsub
        go_wp2_with fail
        go_roundw
        case rel => exact ⟨n, by omega, by go_num, hp', B⟩
        case measure => have := HK.out; simp [intOf]; omega
      · have hp' : Hid (putAt L x L.length = k) := Lib.hid (by rw [hp.out, hkn, putAt_here h1])
        by_cases h2 : gi L n = x
        · exact absurd (h2 ▸ gi_mem p1) HX.out
        · have d1 : decide (x < gi L n) = false := by simpa using h1
          have d2 : (gi L n == x) = false := by simpa using h2
          have HE : Hid (putL L x = L.take k ++ [x] ++ L.drop k) := Lib.hid (by rw [HL.out, hp'.out, hsub, if_neg (fun h => h2 h.2)])
          have own := hrow.below B
          have i0 := own_ints_take own k
          have hs := B.size
          clear hkn hsub h0 h1 h2
          by_cases hce : cap = k
          · subst hce
            go_wp2_with fail
            refine (l01Own_any ⟨g, 0, none⟩ (L.take cap) cap cap (by rw [List.length_take]; omega) (by omega) _ i0).mono ?_
            rintro e w1 ⟨g1, c1, rfl, o1, hb⟩
            have B1 := B.trans (hb.mono hs)
            replace o1 := o1.rebase (base' := w.heap.size) hs
            have hs1 := B1.size
            go_wp2_with (first | (at_builtin; refine wpList_append_int rfl _ _ rfl w.heap.size _ _ rfl (o1.alloc _) w1.heap.size _ rfl (cell_new _ _ _) (by rw [List.length_take]; omega) (by rw [World.size_alloc]; omega) ?_; intro v' w4 hown' hgrow; obtain ⟨g2, c2, hv, hob⟩ := own_some hown' (by simp); rw [show (L.take cap ++ [x]).length = cap + 1 by simp; omega] at hv; subst hv; have hgb := grown_below (B1.alloc hs1 _) (by rw [World.size_alloc]; omega) hgrow (o1.alloc _) (Nat.le_refl _); have i8 := own_ints_drop (hrow.below hgb) cap; clear o1 hgrow; have hs4 := hgb.size) | (at_builtin; refine wpList_append_ints rfl _ _ rfl w.heap.size _ _ rfl hown' ⟨g, 0, none⟩ (L.drop cap) _ _ (by rw [List.length_drop]; omega) rfl (.inl (by rw [List.length_drop]; omega)) (by simp; omega) hs4 ?_; intro v5 w5 hown5 hgrow5 hnil5; rw [← HE.out] at hown5; obtain ⟨g3, c3, hv5, _⟩ := own_some hown5 (by rw [HE.out]; simp); obtain ⟨M5, hM5⟩ : ∃ M, M = (putL L x).length := ⟨_, rfl⟩; rw [← hM5] at hv5; subst hv5; replace hM5 := Lib.hid hM5))
            have hgb5 : Below w.heap.size w w5 := by first | exact grown_below hgb hs4 hgrow5 hown' (Nat.le_refl _) | exact grown_below hgb.drew hs4 hgrow5 hown' (Nat.le_refl _)
            go_ret
            exact ⟨g3, c3, by rw [← hM5.out]; rfl, by rw [← hM5.out]; exact hown5, hgb5⟩
          · go_wp2_with fail
            refine (l01Own_any ⟨g, 0, none⟩ (L.take k) k cap (by rw [List.length_take]; omega) (by omega) _ i0).mono ?_
            rintro e w1 ⟨g1, c1, rfl, o1, hb⟩
            have B1 := B.trans (hb.mono hs)
            replace o1 := o1.rebase (base' := w.heap.size) hs
            have hs1 := B1.size
            go_wp2_with (first | (at_builtin; refine wpList_append_int rfl _ _ rfl w.heap.size _ _ rfl (o1.alloc _) w1.heap.size _ rfl (cell_new _ _ _) (by rw [List.length_take]; omega) (by rw [World.size_alloc]; omega) ?_; intro v' w4 hown' hgrow; obtain ⟨g2, c2, hv, hob⟩ := own_some hown' (by simp); rw [show (L.take k ++ [x]).length = k + 1 by simp; omega] at hv; subst hv; have hgb := grown_below (B1.alloc hs1 _) (by rw [World.size_alloc]; omega) hgrow (o1.alloc _) (Nat.le_refl _); have i8 := own_ints_drop (hrow.below hgb) k; clear o1 hgrow; have hs4 := hgb.size) | (at_builtin; refine wpList_append_ints rfl _ _ rfl w.heap.size _ _ rfl hown' ⟨g, k, none⟩ (L.drop k) (L.length - k) _ (by simp) rfl i8 (by simp; omega) hs4 ?_; intro v5 w5 hown5 hgrow5 hnil5; rw [← HE.out] at hown5; obtain ⟨g3, c3, hv5, _⟩ := own_some hown5 (by rw [HE.out]; simp); obtain ⟨M5, hM5⟩ : ∃ M, M = (putL L x).length := ⟨_, rfl⟩; rw [← hM5] at hv5; subst hv5; replace hM5 := Lib.hid hM5))
            have hgb5 : Below w.heap.size w w5 := by first | exact grown_below hgb hs4 hgrow5 hown' (Nat.le_refl _) | exact grown_below hgb.drew hs4 hgrow5 hown' (Nat.le_refl _)
            go_ret
            exact ⟨g3, c3, by rw [← hM5.out]; rfl, by rw [← hM5.out]; exact hown5, hgb5⟩

end Go.Proofs.Ytlhapanfegjafaa

namespace Go.Proofs.Ytlhapanfegjafaa
open Go.RowKit Cv
set_option linter.unusedVariables false
set_option linter.unusedSimpArgs false
set_option maxRecDepth 100000

theorem step_make_free {w : World} {o : Oper} {a : Act} {K : Act → World → Prop} {Q : Exit → Act → World → Prop} (l : Operand) (ho : o.op = Op.makeSlice 24 l l)
    (base m : Nat) (L : Int) (hl : a.eval l = .int .i64 L) (hL : L = (m : Int)) (hm : m ≤ 16777216) (hb : base ≤ w.heap.size)
    (hK : ∀ w' (p : Nat), w.heap.size ≤ p → OwnInts w' base (.slice (some ⟨p, 0, none⟩) m m) (List.replicate m 0) → Below w.heap.size w w' → K (a.put o.dst (.slice (some ⟨p, 0, none⟩) m m)) w') : Oper.wp Try.prog o a w K Q := by
  obtain ⟨i0, hi, hz0, hz1, hz2⟩ := info_parts infoI64
  subst hL
  obtain ⟨w', hrun, r1, r2⟩ := run_make_full (P := Try.prog) w base 24 2 i0 (.int .i64 0) 1 Try.underlying24 hi hz0 hz1 .i64 .i64 m (by rw [hz2]; omega) (by unfold maxLen; omega) hb
  unfold Oper.wp
  simp only [execOp, ho, hl]
  simp [hrun, Result.andThen]
  exact hK w' _ (Nat.le_refl _) (own_made r1) (below_grown0 r2)

theorem ready_make {md : Region.Mode} {ops : Array Oper} {Q : Exit → Act → World → Prop} {S : World → Prop} {fuel : Nat} {listed : Array Bool} {a : Act} {w : World} {i : Nat} {o : Oper} (l : Operand) (ho : ops[i]? = some o) (hw : Region.wanted o (yielded ops a.tmps) = true) (hop : o.op = Op.makeSlice 24 l l)
    (base m : Nat) (L : Int) (hl : a.eval l = .int .i64 L) (hL : L = (m : Int)) (hm : m ≤ 16777216) (hb : base ≤ w.heap.size)
    (h : ∀ w' (p : Nat), w.heap.size ≤ p → OwnInts w' base (.slice (some ⟨p, 0, none⟩) m m) (List.replicate m 0) → Below w.heap.size w w' → S w' ∧ (S w' → wpAnyH Try.prog md ops Q S fuel (listed.setIfInBounds i true) (a.put o.dst (.slice (some ⟨p, 0, none⟩) m m)) w')) : AllReadyH Try.prog md ops Q S fuel listed a w [i] :=
  AllReadyH.cons ho (fun K hK => by
    rw [if_pos hw]
    exact step_make_free l hop base m L hl hL hm hb (fun w' p hp oc hb4 => hK.out _ _ (h w' p hp oc hb4).1 (h w' p hp oc hb4).2)) AllReadyH.nil
end Go.Proofs.Ytlhapanfegjafaa

namespace Go.Proofs.Ytlhapanfegjafaa
open Go.RowKit Cv
set_option linter.unusedVariables false
set_option linter.unusedSimpArgs false
set_option maxRecDepth 100000

namespace Cv
/-- element i of a list of truths -/
def gb (B : List Bool) (i : Nat) : Bool := B.getD i false
theorem gb_map (B : List Bool) (i : Nat) (h : i < B.length) : (B.map Value.bool)[i]? = some (.bool (gb B i)) := by simp [gb, h]
/-- the numbers below n, whether they are among the first k of a list -/
def marB (C : List Int) (n k : Nat) : List Bool := (List.range n).map fun (j : Nat) => decide ((j : Int) ∈ C.take k)
theorem marB_len (C : List Int) (n k : Nat) : (marB C n k).length = n := by simp [marB]
theorem gb_marB (C : List Int) (n k j : Nat) (h : j < n) : gb (marB C n k) j = decide ((j : Int) ∈ C.take k) := by simp [gb, marB, h]
theorem marB_0 (C : List Int) (n : Nat) : marB C n 0 = List.replicate n false := by
  apply List.ext_getElem
  · simp [marB]
  · intro i h1 h2; simp [marB]
theorem marB_step (C : List Int) (n k u : Nat) (hk : k < C.length) (hu : gi C k = (u : Int)) (hn : u < n) : (marB C n k).set u true = marB C n (k + 1) := by
  apply List.ext_getElem
  · simp [marB]
  · intro i h1 h2
    simp only [marB, List.length_set, List.length_map, List.length_range] at h1 h2
    simp only [marB, List.getElem_set, List.getElem_map, List.getElem_range]
    rw [take_snoc C k hk, hu]
    by_cases e : u = i
    · subst e; simp
    · rw [if_neg e]
      rw [Bool.eq_iff_iff, decide_eq_true_eq, decide_eq_true_eq, List.mem_append, List.mem_singleton]
      constructor
      · intro h; exact .inl h
      · rintro (h | h)
        · exact h
        · omega
theorem marB_all (C : List Int) (n : Nat) : marB C n C.length = (List.range n).map (inL C) := by
  unfold marB
  refine List.map_congr_left fun j _ => ?_
  rw [List.take_length]; rfl
end Cv

theorem infoBool : (Try.prog.info? 4).map (fun i => (i.zero, i.size, i.bytes)) = some (some (.bool false), 1, 1) := by kernel_rfl
def OwnBools (w : World) (base : Nat) (v : Value) (B : List Bool) : Prop := w.ownsRow base 4 1 v B.length (B.map Value.bool)
theorem OwnBools.below {w w' : World} {base : Nat} {v : Value} {S : List Bool} (h : OwnBools w base v S) (hb : Below w.heap.size w w') : OwnBools w' base v S := by
  obtain ⟨h1, h2⟩ := h
  refine ⟨h1, ?_⟩
  rcases h2 with h2 | ⟨g, cap, cur, hv, hg, hh, r⟩
  · exact Or.inl h2
  · exact Or.inr ⟨g, cap, cur, hv, hg, by rw [hb.block g (Array.getElem?_eq_some_iff.1 hh).1]; exact hh, r⟩
theorem OwnBools.len {w : World} {base : Nat} {a : Option Addr} {n cap : Nat} {T : List Bool} (h : OwnBools w base (.slice a n cap) T) : n = T.length := by
  rcases h.2 with ⟨hv, hn⟩ | ⟨_, _, _, hv, _⟩ <;> simp only [Value.slice.injEq] at hv
  · omega
  · exact hv.2.1
theorem OwnBools.cell {w : World} {base g n cap : Nat} {T : List Bool} (h : OwnBools w base (.slice (some ⟨g, 0, none⟩) n cap) T) {k : Nat} (hk : k < T.length) : w.cell? ⟨g, k, none⟩ = some (.bool (gb T k)) := by
  obtain rfl := h.len
  have h' : w.ownsRow base 4 1 (.slice (some ⟨g, 0, none⟩) T.length cap) T.length (T.map Value.bool) := h
  rw [h'.cellAt k (by omega), gb_map T k hk]
theorem OwnBools.free {w : World} {base g n cap : Nat} {T : List Bool} (h : OwnBools w base (.slice (some ⟨g, 0, none⟩) n cap) T) (k : Nat) : w.frozen? ⟨g, k, none⟩ = false := by
  obtain rfl := h.len
  have h' : w.ownsRow base 4 1 (.slice (some ⟨g, 0, none⟩) T.length cap) T.length (T.map Value.bool) := h
  exact h'.frozenAt k
theorem OwnBools.base_le {w : World} {base g n cap : Nat} {T : List Bool} (h : OwnBools w base (.slice (some ⟨g, 0, none⟩) n cap) T) : base ≤ g ∧ g < w.heap.size := by
  rcases h.2 with ⟨hv, _⟩ | ⟨g', _, _, hv, hb, hh, _⟩ <;> simp only [Value.slice.injEq] at hv
  · exact absurd hv.1 (by simp)
  · have e : g = g' := by simpa using hv.1
    subst e
    exact ⟨hb, (Array.getElem?_eq_some_iff.1 hh).1⟩
theorem OwnBools.stored {w : World} {base g n cap : Nat} {T : List Bool} (h : OwnBools w base (.slice (some ⟨g, 0, none⟩) n cap) T) (k : Nat) (x : Bool) :
    OwnBools (w.setCell ⟨g, k, none⟩ (.bool x)) base (.slice (some ⟨g, 0, none⟩) n cap) (T.set k x) := by
  obtain rfl := h.len
  have h' : w.ownsRow base 4 1 (.slice (some ⟨g, 0, none⟩) T.length cap) T.length (T.map Value.bool) := h
  have := (h'.stored k (.bool x)).1
  unfold OwnBools
  rw [List.length_set, List.map_set]
  exact this
theorem OwnBools.rebase {w : World} {base base' : Nat} {v : Value} {T : List Bool} (h : OwnBools w base v T) (hb : base' ≤ base) : OwnBools w base' v T := by
  refine ⟨h.1, ?_⟩
  rcases h.2 with h2 | ⟨g, cap, cur, hv, hg, r⟩
  · exact .inl h2
  · exact .inr ⟨g, cap, cur, hv, by omega, r⟩
theorem OwnBools.alloc {w : World} {base : Nat} {v : Value} {T : List Bool} (h : OwnBools w base v T) (o : Obj) : OwnBools (w.alloc o) base v T := World.ownsRow.alloc h o
theorem OwnBools.drew {w : World} {base : Nat} {v : Value} {T : List Bool} (h : OwnBools w base v T) : OwnBools w.drew base v T := h
theorem OwnBools.setBelow {w : World} {base : Nat} {v : Value} {T : List Bool} (h : OwnBools w base v T) {a : Addr} (ha : a.block < base) (u : Value) : OwnBools (w.setCell a u) base v T := ownsRow_setCell_below h ha u
theorem ownb_made {w : World} {base : Nat} {v : Value} {n : Nat} (h : w.ownsRow base 4 1 v n (madeCells (Value.bool false).cells (n * 1)).toList) : OwnBools w base v (List.replicate n false) := by
  unfold OwnBools
  rw [List.length_replicate, List.map_replicate, ← toList_madeCells_one]
  rw [Nat.mul_one] at h
  exact h

end Go.Proofs.Ytlhapanfegjafaa

namespace Go.Proofs.Ytlhapanfegjafaa
open Go.RowKit Cv
set_option linter.unusedVariables false
set_option linter.unusedSimpArgs false
set_option maxRecDepth 100000

theorem gb_tbB (f : Nat → Bool) {N k : Nat} (h : k < N) : gb (tbB f N) k = f k := by simp [gb, tbB, h]
theorem owni_other {w : World} {base g n cap p : Nat} {T : List Int} (h : OwnInts w base (.slice (some ⟨g, 0, none⟩) n cap) T) (hne : g ≠ p) (u : Nat) (v : Value) : OwnInts (w.setCell ⟨p, u, none⟩ v) base (.slice (some ⟨g, 0, none⟩) n cap) T :=
  World.ownsRow.kept h (grown_setCell (World.grownBy.refl _ _) u _) (.inr (show some g ≠ some p from fun e => hne (Option.some.inj e)))
theorem ownb_other {w : World} {base g n cap p : Nat} {T : List Bool} (h : OwnBools w base (.slice (some ⟨g, 0, none⟩) n cap) T) (hne : g ≠ p) (u : Nat) (v : Value) : OwnBools (w.setCell ⟨p, u, none⟩ v) base (.slice (some ⟨g, 0, none⟩) n cap) T :=
  World.ownsRow.kept h (grown_setCell (World.grownBy.refl _ _) u _) (.inr (show some g ≠ some p from fun e => hne (Option.some.inj e)))
theorem below_dn {B : Nat} {a w : World} (h : Below B a w) (n : Nat) : Below B a (w.drewN n) := ⟨h.os, h.tape, h.output, h.size, h.block⟩
theorem l01Ball_some (ao : Option Addr) (S : List Int) (cap : Nat) (hSp : Sp S) {N x : Nat} (hN : (nW S).toNat = N) (hx : x < N) (r : Int) (hr : 0 ≤ r) (w : World) (hS : Ints w ao S) :
    Calls Try.prog 45 #[.agg #[.slice ao S.length cap], .int .i64 (x : Int), .int .i64 r] w fun e w' => ∃ g cc : Nat, e = .returned (.slice (some ⟨g, 0, none⟩) (ballW S (x : Int) r).length cc) ∧ OwnInts w' w.heap.size (.slice (some ⟨g, 0, none⟩) (ballW S (x : Int) r).length cc) (ballW S (x : Int) r) ∧ Below w.heap.size w w' := by
  have hb := nW_bd hSp
  refine (l01Ball_any ao S cap hSp (x : Int) (by omega) (by omega) r w hS).mono ?_
  rintro e w1 ⟨v, rfl, ob, hb1⟩
  obtain ⟨g, cc, rfl, _⟩ := own_some ob (fun h => by
    have := (bF_arnd hSp hr).own x (by omega)
    unfold bF ballN inL at this
    rw [h] at this
    simp at this)
  exact ⟨g, cc, rfl, ob, hb1⟩
theorem step_make_freeB {w : World} {o : Oper} {a : Act} {K : Act → World → Prop} {Q : Exit → Act → World → Prop} (l : Operand) (ho : o.op = Op.makeSlice 71 l l)
    (base m : Nat) (L : Int) (hl : a.eval l = .int .i64 L) (hL : L = (m : Int)) (hm : m ≤ 16777216) (hb : base ≤ w.heap.size)
    (hK : ∀ w' (p : Nat), w.heap.size ≤ p → OwnBools w' base (.slice (some ⟨p, 0, none⟩) m m) (List.replicate m false) → Below w.heap.size w w' → K (a.put o.dst (.slice (some ⟨p, 0, none⟩) m m)) w') : Oper.wp Try.prog o a w K Q := by
  obtain ⟨i0, hi, hz0, hz1, hz2⟩ := info_parts infoBool
  subst hL
  obtain ⟨w', hrun, r1, r2⟩ := run_make_full (P := Try.prog) w base 71 4 i0 (.bool false) 1 Try.underlying71 hi hz0 hz1 .i64 .i64 m (by rw [hz2]; omega) (by unfold maxLen; omega) hb
  unfold Oper.wp
  simp only [execOp, ho, hl]
  simp [hrun, Result.andThen]
  exact hK w' _ (Nat.le_refl _) (ownb_made r1) (below_grown0 r2)

set_option maxHeartbeats 8000000 in
theorem spec_GreedyCode (ao : Option Addr) (S : List Int) (cap : Nat) (hn : S.length ≤ 4294967296) (r : Int) (hrb : -9223372036854775808 ≤ r ∧ r ≤ 9223372036854775807) (w : World) (hS : Ints w ao S) :
    Calls Try.prog 16 #[.agg #[.slice ao S.length cap], .int .i64 r] w fun e w' => ∃ v, e = .returned (.tuple #[v, .int .i64 (eGr S r)]) ∧ OwnInts w' w.heap.size v (vGr S r) ∧ Below w.heap.size w w' := by
  have B0 : Below w.heap.size w (w.alloc (.cells #[.slice ao S.length cap] 26)) := by go_grown
  have c0 := cell_new w (.slice ao S.length cap) 26
  have l0 := lt_alloc w (.cells #[.slice ao S.length cap] 26)
  have hI := l01Is_any ao S cap _ hn (hS.below B0)
  by_cases hs : isSp S = true
  · rw [hs] at hI
    by_cases hr : 0 ≤ r ∧ r ≤ 8
    · have hz : eGr S r = 0 := by unfold eGr; rw [if_pos hs, if_pos hr]
      obtain ⟨hSp, hr0, hr8⟩ := eGr_zero hz
      have HSp := Lib.hid hSp
      obtain ⟨N1, N2⟩ := nW_bd hSp
      obtain ⟨N, hN⟩ : ∃ N : Nat, nW S = (N : Int) := ⟨(nW S).toNat, by omega⟩
      have hNt : (nW S).toNat = N := by omega
      have hA := bF_arnd hSp hr0
      rw [hNt] at hA
      have HA := Lib.hid hA
      have HV : Hid (vGr S r = sorted (grL (bF S r) N)) := Lib.hid (by unfold vGr; rw [if_pos hz, hNt])
      have HIn : Hid (∀ W, Calls Try.prog 32 #[.int .i64 r, .int .i64 0, .int .i64 8] W fun e w' => e = .returned (.bool true) ∧ W = w') := Lib.hid fun W => by
        have h := l01In_any r 0 8 W
        rw [inB_true hr0 hr8] at h
        exact h
      have HN1 : Hid (∀ W, Ints W ao S → Calls Try.prog 33 #[.agg #[.slice ao S.length cap]] W fun e w' => e = .returned (.int .i64 (N : Int)) ∧ Below W.heap.size W w') := Lib.hid fun W hW => by
        have h := l01N_any ao S cap W hSp.hi hSp.bd hW
        rw [show prodTo S S.length = (N : Int) from hN] at h
        exact h
      have HZ := Lib.hid hz
      have HNt := Lib.hid hNt
      have HI := Lib.hid hI
      rw [hN] at N1 N2
      have N1n : 1 ≤ N := by omega
      have N2n : N ≤ 1024 := by omega
      clear hz hI hSp hN hNt hA hs hr
      go_enter Try.func16, Try.ntmps16
      go_wp2_with fail
      refine HI.out.mono ?_
      rintro e w1 ⟨rfl, hb1⟩
      have c1 := kept_cell hb1 c0 l0
      have B1 := B0.trans (hb1.mono B0.size)
      have s1 : w.heap.size < w1.heap.size := lt_of_below hb1 l0
      clear hb1 c0 l0 B0 HI
      go_wp2_with fail
      refine (HIn.out _).mono ?_
      rintro e w1' ⟨rfl, rfl⟩
      go_wp2_with fail
      refine (HN1.out _ (hS.below B1)).mono ?_
      rintro e w2 ⟨rfl, hb2⟩
      have c2 := kept_cell hb2 c1 s1
      have B2 := B1.trans (hb2.mono B1.size)
      have s2 := hb2.size
      have oo := own_empty w2 w.heap.size (by omega) rfl
      obtain ⟨w3, hw3⟩ : ∃ w3, w3 = w2.alloc (.cells #[] 2) := ⟨_, rfl⟩
      rw [← hw3] at oo
      have hb3 : Below w2.heap.size w2 w3 := by rw [hw3]; exact (Below.refl _ _).alloc (Nat.le_refl _) _
      have s3 : w2.heap.size < w3.heap.size := by rw [hw3]; exact lt_alloc _ _
      have c3 := kept_cell hb3 c2 (by omega)
      have B3 := B2.trans (hb3.mono B2.size)
      have HW3 := Lib.hid hw3
      clear hb2 c1 B1 c2 B2 hb3 hw3
      go_wp2_with fail
      rw [← HW3.out]
      go_cut [8, 9] from 28 to 31 (fun sx sy wx => ∃ pl pg : Nat, sx = .slice (some ⟨pl, 0, none⟩) N N ∧ sy = .slice (some ⟨pg, 0, none⟩) N N ∧ w3.heap.size ≤ pl ∧ w3.heap.size ≤ pg ∧ pl ≠ pg ∧ OwnBools wx w.heap.size (.slice (some ⟨pl, 0, none⟩) N N) (List.replicate N false) ∧ OwnInts wx w.heap.size (.slice (some ⟨pg, 0, none⟩) N N) (List.replicate N 0) ∧ Below w3.heap.size w3 wx)
      case first =>
        refine wp_region_held_drew (S := fun w' => w'.cell? ⟨w.heap.size, 0, none⟩ = some (.slice ao S.length cap)) (by kernel_rfl) c3 (fun hHeld => ?_)
        refine wpAnyH_take (i := 0) (v := ?_) rfl (by kernel_rfl) (by kernel_rfl) (by kernel_rfl) (fun _ _ _ h => h) (Or.inl ⟨by rfl, ?_⟩) (by assumption) ?_
        rotate_left
        · (intro w hSw; (try dsimp only at hSw); go_simp; try (with_reducible rfl))
        (try simp only [Act.put, List.setIfInBounds_toArray, List.set_cons_zero, List.set_cons_succ])
        refine wpAnyH_take (i := 2) (v := ?_) rfl (by kernel_rfl) (by kernel_rfl) (by kernel_rfl) (fun _ _ _ h => h) (Or.inl ⟨by rfl, ?_⟩) (by assumption) ?_
        rotate_left
        · (intro w hSw; (try dsimp only at hSw); go_simp; try (with_reducible rfl))
        (try simp only [Act.put, List.setIfInBounds_toArray, List.set_cons_zero, List.set_cons_succ])
        refine wpAnyH_ready (rs := [1, 3]) (by kernel_rfl) (by simp) ?_
        refine AllReadyH.cons rfl (fun K hK => ?_) ?_
        · skip
          rw [if_pos (by kernel_rfl)]
          refine step_make_freeB _ rfl w.heap.size N (N : Int) rfl rfl (by omega) B3.drew.size ?_
          intro w4 pl hpl oB hb4'
          have hb4 : Below w3.heap.size w3 w4 := (Below.refl _ w3).drew.trans hb4'
          have c4 := kept_cell hb4 c3 (by omega)
          have B4 := B3.trans (hb4.mono B3.size)
          have s4 := hb4.size
          have ql := oB.base_le
          have hpl' : w3.heap.size ≤ pl := hpl
          refine hK.out _ _ (c4) (fun hHeld => ?_)
          clear hK K
          (try simp only [Act.put, List.setIfInBounds_toArray, List.set_cons_zero, List.set_cons_succ])
          refine wpAnyH_take (i := 4) (v := ?_) rfl (by kernel_rfl) (by kernel_rfl) (by kernel_rfl) (fun _ _ _ h => h) (Or.inl ⟨by rfl, ?_⟩) (by assumption) ?_
          rotate_left
          · (intro w hSw; (try dsimp only at hSw); go_simp; try (with_reducible rfl))
          (try simp only [Act.put, List.setIfInBounds_toArray, List.set_cons_zero, List.set_cons_succ])
          refine wpAnyH_ready (rs := [3]) (by kernel_rfl) (by simp) ?_
          refine AllReadyH.cons rfl (fun K hK => ?_) AllReadyH.nil
          rw [if_pos (by kernel_rfl)]
          refine step_make_free _ rfl w.heap.size N (N : Int) rfl rfl (by omega) B4.size ?_
          intro w5 pg hpg oI hb5
          have c5 := kept_cell hb5 c4 (by omega)
          refine hK.out _ _ (c5) (fun hHeld => ?_)
          clear hK K
          (try simp only [Act.put, List.setIfInBounds_toArray, List.set_cons_zero, List.set_cons_succ])
          refine wpAnyH_take (i := 5) (v := ?_) rfl (by kernel_rfl) (by kernel_rfl) (by kernel_rfl) (fun _ _ _ h => h) (Or.inl ⟨by rfl, ?_⟩) (by assumption) ?_
          rotate_left
          · (intro w hSw; (try dsimp only at hSw); go_simp; try (with_reducible rfl))
          (try simp only [Act.put, List.setIfInBounds_toArray, List.set_cons_zero, List.set_cons_succ])
          refine wpAnyH_done (by kernel_rfl) ?_ _
          simp only [List.getElem_toArray, List.getElem_cons_succ, List.getElem_cons_zero, Act.put, List.setIfInBounds_toArray, List.set_cons_zero, List.set_cons_succ]
          go_wp2_with fail
          go_meet
          exact ⟨pl, pg, rfl, rfl, hpl', by omega, by omega, oB.below hb5, oI, hb4.trans (hb5.mono s4)⟩
        refine AllReadyH.cons rfl (fun K hK => ?_) AllReadyH.nil
        skip
        rw [if_pos (by kernel_rfl)]
        refine step_make_free _ rfl w.heap.size N (N : Int) rfl rfl (by omega) B3.drew.size ?_
        intro w4 pg hpg oI hb4'
        have hb4 : Below w3.heap.size w3 w4 := (Below.refl _ w3).drew.trans hb4'
        have c4 := kept_cell hb4 c3 (by omega)
        have B4 := B3.trans (hb4.mono B3.size)
        have s4 := hb4.size
        have ql := oI.base_le
        have hpg' : w3.heap.size ≤ pg := hpg
        refine hK.out _ _ (c4) (fun hHeld => ?_)
        clear hK K
        (try simp only [Act.put, List.setIfInBounds_toArray, List.set_cons_zero, List.set_cons_succ])
        refine wpAnyH_ready (rs := [1]) (by kernel_rfl) (by simp) ?_
        refine AllReadyH.cons rfl (fun K hK => ?_) AllReadyH.nil
        rw [if_pos (by kernel_rfl)]
        refine step_make_freeB _ rfl w.heap.size N (N : Int) rfl rfl (by omega) B4.size ?_
        intro w5 pl hpl oB hb5
        have c5 := kept_cell hb5 c4 (by omega)
        refine hK.out _ _ (c5) (fun hHeld => ?_)
        clear hK K
        (try simp only [Act.put, List.setIfInBounds_toArray, List.set_cons_zero, List.set_cons_succ])
        refine wpAnyH_take (i := 4) (v := ?_) rfl (by kernel_rfl) (by kernel_rfl) (by kernel_rfl) (fun _ _ _ h => h) (Or.inl ⟨by rfl, ?_⟩) (by assumption) ?_
        rotate_left
        · (intro w hSw; (try dsimp only at hSw); go_simp; try (with_reducible rfl))
        (try simp only [Act.put, List.setIfInBounds_toArray, List.set_cons_zero, List.set_cons_succ])
        refine wpAnyH_take (i := 5) (v := ?_) rfl (by kernel_rfl) (by kernel_rfl) (by kernel_rfl) (fun _ _ _ h => h) (Or.inl ⟨by rfl, ?_⟩) (by assumption) ?_
        rotate_left
        · (intro w hSw; (try dsimp only at hSw); go_simp; try (with_reducible rfl))
        (try simp only [Act.put, List.setIfInBounds_toArray, List.set_cons_zero, List.set_cons_succ])
        refine wpAnyH_done (by kernel_rfl) ?_ _
        simp only [List.getElem_toArray, List.getElem_cons_succ, List.getElem_cons_zero, Act.put, List.setIfInBounds_toArray, List.set_cons_zero, List.set_cons_succ]
        go_wp2_with fail
        go_meet
        exact ⟨pl, pg, rfl, rfl, by omega, hpg', by omega, oB, oI.below hb5, hb4.trans (hb5.mono s4)⟩
      case rest =>
        obtain ⟨pl, pg, rfl, rfl, hpl, hpg, hne, oB, oI, hbx⟩ := hcut
        obtain ⟨w4, hw4⟩ : ∃ w4, w4 = wc := ⟨_, rfl⟩
        subst hw4
        replace hbx : Below w3.heap.size w3 w4 := hbx
        have c4 := kept_cell hbx c3 (by omega)
        have B4 := B3.trans (hbx.mono B3.size)
        have s4 := hbx.size
        replace oo := oo.below hbx
        rw [tbB_0] at oB
        rw [tbI_0] at oI
        have hlt3 : w2.heap.size < w3.heap.size := s3
        obtain ⟨g0, hg0⟩ : ∃ g0, g0 = w2.heap.size := ⟨_, rfl⟩
        rw [← hg0] at oo s3 ⊢
        have gl : g0 ≠ pl := by omega
        have gg : g0 ≠ pg := by omega
        have HG0 := Lib.hid hg0
        clear hbx c3 B3 hg0
        have CELL : w.heap.size < w3.heap.size := by omega
        have lw : w.heap.size ≠ pl := by omega
        have lg : w.heap.size ≠ pg := by omega
        have HL0 : Hid (tbB (fun _ => false) N = tbB (fun u => decide (u < 0)) N) := Lib.hid (tbB_congr fun u hu => by simp)
        have HL1 : Hid (tbI (fun _ => 0) N = tbI (fun u => if u < 0 then sizeN S r else 0) N) := Lib.hid (tbI_congr fun u hu => by simp)
        rw [HL0.out] at oB
        rw [HL1.out] at oI
        clear HL0 HL1
        go_wp2_with fail
        go_loopw [10] (fun t wr => ∃ k : Nat, k ≤ N ∧ t = .int .i64 k ∧ OwnInts wr w.heap.size (.slice (some ⟨g0, 0, none⟩) 0 0) [] ∧ OwnBools wr w.heap.size (.slice (some ⟨pl, 0, none⟩) N N) (tbB (fun u => decide (u < k)) N) ∧ OwnInts wr w.heap.size (.slice (some ⟨pg, 0, none⟩) N N) (tbI (fun u => if u < k then sizeN S r else 0) N) ∧ wr.cell? ⟨w.heap.size, 0, none⟩ = some (.slice ao S.length cap) ∧ Below w.heap.size w wr) (fun t _ => N - (intOf t).toNat)
        case atStart => exact ⟨0, Nat.zero_le _, rfl, oo, oB, oI, c4, B4⟩
        case round =>
          clear oo oB oI c4 B4
          obtain ⟨k, hk, rfl, oo, oB, oI, c, B⟩ := hrel
          have qB := oB.base_le
          have qI := oI.base_le
          by_cases hlt : k < N
          · have kI : (k : Int) < (N : Int) := by omega
            have k0 : (0 : Int) ≤ (k : Int) := by omega
            have hcB := oB.cell (k := k) (by rw [tbB_len]; exact hlt)
            have hfB := oB.free k
            have oB' := oB.stored k true
            rw [tbB_set] at oB'
            have HB : Hid (tbB (fun u => if u = k then true else decide (u < k)) N = tbB (fun u => decide (u < k + 1)) N) := Lib.hid (tbB_congr fun u hu => by
              by_cases e : u = k
              · subst e; simp
              · simp only [e, if_false]; rw [decide_eq_decide]; omega)
            rw [HB.out] at oB'
            have oI' := owni_other oI (fun e => hne e.symm) k (.bool true)
            have oo' := owni_other oo gl k (.bool true)
            have c' := cell_set_other (a := ⟨pl, k, none⟩) (u := .bool true) c lw
            have B' : Below w.heap.size w (wr.setCell ⟨pl, k, none⟩ (.bool true)) := B.setCell (by simp; omega) _
            go_wp2_with fail
            refine (l01Size_any ao S cap HSp.out r hr0 hr8 _ (hS.below B')).mono ?_
            rintro e w5 ⟨rfl, hb5⟩
            have oB5 := oB'.below hb5
            have oI5 := oI'.below hb5
            have oo5 := oo'.below hb5
            have s5 := B'.size
            have c5 := kept_cell hb5 c' (by simp; omega)
            have B5 := B'.trans (hb5.mono B'.size)
            have q5 := oI5.base_le
            have hcI := oI5.cell (k := k) (by rw [tbI_len]; exact hlt)
            have hfI := oI5.free k
            have oI6 := oI5.stored k (sizeN S r)
            rw [tbI_set] at oI6
            have HI6 : Hid (tbI (fun u => if u = k then sizeN S r else if u < k then sizeN S r else 0) N = tbI (fun u => if u < k + 1 then sizeN S r else 0) N) := Lib.hid (tbI_congr fun u hu => by
              by_cases e : u = k
              · subst e; simp
              · simp only [e, if_false]
                by_cases e2 : u < k
                · rw [if_pos e2, if_pos (by omega)]
                · rw [if_neg e2, if_neg (by omega)])
            rw [HI6.out] at oI6
            have oB6 := ownb_other oB5 hne k (.int .i64 (sizeN S r))
            have oo6 := owni_other oo5 gg k (.int .i64 (sizeN S r))
            have c6 := cell_set_other (a := ⟨pg, k, none⟩) (u := .int .i64 (sizeN S r)) c5 lg
            have B6 : Below w.heap.size w (w5.setCell ⟨pg, k, none⟩ (.int .i64 (sizeN S r))) := B5.setCell (by simp; omega) _
            clear oB oI oo c B oB' oI' oo' c' B' hb5 oB5 oI5 oo5
            go_wp2_with fail
            go_roundw
            case rel => exact ⟨k + 1, by omega, by go_num, oo6, oB6, oI6, c6, B6⟩
            case measure => simp [intOf]; omega
          · obtain rfl : k = N := by omega
            have HB : Hid (tbB (fun u => decide (u < k)) k = tbB (fun u => !(fun _ => false : Nat → Bool) u) k) := Lib.hid (tbB_congr fun u hu => by simp [hu])
            have HJ : Hid (tbI (fun u => if u < k then sizeN S r else 0) k = tbI (fun u => (gF (bF S r) (fun _ => false) u : Int)) k) := Lib.hid (tbI_congr fun u hu => by rw [if_pos hu, gF_0, bF_size HSp.out hr0])
            rw [HB.out] at oB
            rw [HJ.out] at oI
            have HR : Hid (GrI (bF S r) k (fun _ => false) [] ∧ uc (fun _ => false) k < k + 1 ∧ grRun (bF S r) k (k + 1) (fun _ => false) [] = grL (bF S r) k) := Lib.hid ⟨gri_0 _ _ _, by have := uc_le (fun _ => false) k; omega, rfl⟩
            clear HB HJ
            have oo0 := oo
            clear oo
            go_wp2_with fail
            go_loopw [7] (fun v wr => ∃ (fu : Nat) (c : Nat → Bool) (L : List Int) (g cp : Nat), v = .slice (some ⟨g, 0, none⟩) (sorted L).length cp ∧ OwnInts wr w.heap.size (.slice (some ⟨g, 0, none⟩) (sorted L).length cp) (sorted L) ∧ Hid (GrI (bF S r) k c L ∧ uc c k < fu ∧ grRun (bF S r) k fu c L = grL (bF S r) k) ∧ g ≠ pl ∧ g ≠ pg ∧ OwnBools wr w.heap.size (.slice (some ⟨pl, 0, none⟩) k k) (tbB (fun u => !c u) k) ∧ OwnInts wr w.heap.size (.slice (some ⟨pg, 0, none⟩) k k) (tbI (fun u => (gF (bF S r) c u : Int)) k) ∧ wr.cell? ⟨w.heap.size, 0, none⟩ = some (.slice ao S.length cap) ∧ Below w.heap.size w wr) (fun v _ => k - slen v)
            case atStart => exact ⟨k + 1, fun _ => false, [], g0, 0, by rw [sorted_0]; rfl, by rw [sorted_0]; exact oo0, HR, gl, gg, oB, oI, c, B⟩
            case round =>
              clear oo0 oB oI c B HR qB qI hlt
              obtain ⟨fu, c, L, g, cp, rfl, oo, HU, gl, gg, oB, oI, cs, B⟩ := hrel
              have qB := oB.base_le
              have qI := oI.base_le
              have qo := oo.base_le
              obtain ⟨f, hf⟩ : ∃ f, f = gF (bF S r) c := ⟨_, rfl⟩
              have HFf := Lib.hid hf
              clear hf
              go_wp2_with fail
              go_loopw [11, 12] (fun b t wo => ∃ j : Nat, 1 ≤ j ∧ j ≤ k ∧ t = .int .i64 j ∧ b = .int .i64 (mbI f j : Nat) ∧ Below wr.heap.size wr wo) (fun _ t _ => k - (intOf t).toNat)
              case atStart => exact ⟨1, Nat.le_refl _, N1n, rfl, by rw [mbI_1]; rfl, Below.refl _ _⟩
              case round =>
                obtain ⟨j, hj1, hj, rfl, rfl, hbo⟩ := hrel
                have oI0 := oI
                have BB := B
                replace oo := oo.below hbo
                replace oB := oB.below hbo
                replace oI := oI.below hbo
                replace cs := kept_cell hbo cs (by omega)
                replace B := BB.trans (hbo.mono BB.size)
                have hso := hbo.size
                clear oI0 BB
                have hml := mbI_lt f j hj1
                have HM := Lib.hid (mbI_more f j hj1)
                obtain ⟨m, hm⟩ : ∃ m, m = mbI f j := ⟨_, rfl⟩
                rw [← hm] at hml HM ⊢
                have hmk : m < k := by omega
                have hcm := oI.cell (k := m) (by rw [tbI_len]; exact hmk)
                rw [gi_tbI _ hmk] at hcm
                rw [show gF (bF S r) c m = f m by rw [HFf.out]] at hcm
                obtain ⟨zm, hzm⟩ : ∃ zm : Int, zm = (f m : Int) := ⟨_, rfl⟩
                rw [← hzm] at hcm
                have HZM := Lib.hid hzm
                clear hzm
                have HMM := Lib.hid hm
                clear hm
                have jI0 : (0 : Int) ≤ (j : Int) := by omega
                have mI0 : (0 : Int) ≤ (m : Int) := by omega
                have mIk : (m : Int) < (k : Int) := by omega
                by_cases hlt : j < k
                · have jI : (j : Int) < (k : Int) := by omega
                  have hcj := oI.cell (k := j) (by rw [tbI_len]; exact hlt)
                  rw [gi_tbI _ hlt] at hcj
                  rw [show gF (bF S r) c j = f j by rw [HFf.out]] at hcj
                  obtain ⟨zj, hzj⟩ : ∃ zj : Int, zj = (f j : Int) := ⟨_, rfl⟩
                  rw [← hzj] at hcj
                  have HZJ := Lib.hid hzj
                  clear hzj
                  by_cases hg : f m < f j
                  · have hd : decide (zm < zj) = true := by rw [HZM.out, HZJ.out]; simpa using hg
                    have HN' : Hid (mbI f (j + 1) = j) := Lib.hid (by rw [HM.out, if_pos hg])
                    clear hg
                    go_wp2_with fail
                    go_quiet (fail)
                    go_wp2_with fail
                    go_roundw
                    case rel => exact ⟨j + 1, by omega, by omega, by go_num, by rw [HN'.out], below_dn hbo _⟩
                    case measure => simp [intOf]; omega
                  · have hd : decide (zm < zj) = false := by rw [HZM.out, HZJ.out]; simpa using hg
                    have HN' : Hid (mbI f (j + 1) = m) := Lib.hid (by rw [HM.out, if_neg hg])
                    clear hg
                    go_wp2_with fail
                    go_quiet (fail)
                    go_wp2_with fail
                    go_roundw
                    case rel => exact ⟨j + 1, by omega, by omega, by go_num, by rw [HN'.out], below_dn hbo _⟩
                    case measure => simp [intOf]; omega
                · have HM2 : Hid (m = grW (bF S r) k c) := Lib.hid (by rw [HMM.out, HFf.out, show j = k by omega]; rfl)
                  have jI : ¬ ((j : Int) < (k : Int)) := by omega
                  by_cases hd : grDone c k = true
                  · have h0 : f m = 0 := by rw [HFf.out, HM2.out]; exact (gr_zero HA.out (by omega)).2 hd
                    have HL : Hid (sorted L = vGr S r) := Lib.hid (by rw [HV.out, ← HU.out.2.2, grRun_done hd])
                    have hz0 : zm = 0 := by rw [HZM.out, h0]; rfl
                    rw [hz0] at hcm
                    clear h0 hd hz0
                    go_wp2_with fail
                    go_ret2
                    exact ⟨_, by rw [HZ.out]; rfl, by rw [← HL.out]; exact oo, B⟩
                  · have hdf : grDone c k = false := by simpa using hd
                    have h0 : (zm == 0) = false := by
                      have : f m ≠ 0 := by rw [HFf.out, HM2.out]; exact fun h => hd ((gr_zero HA.out (by omega)).1 h)
                      rw [HZM.out]
                      simpa using this
                    have HD := Lib.hid hdf
                    clear hd hdf
                    go_wp2_with fail
                    have hst := gri_step HA.out HU.out.1 HD.out
                    rw [← HM2.out] at hst
                    have hle := gr_less HA.out HD.out
                    have HX : Hid ((m : Int) ∉ sorted L) := Lib.hid (by rw [Cv.mem_sorted]; exact hst.1)
                    have HPU : Hid (putL (sorted L) (m : Int) = sorted (L ++ [(m : Int)])) := Lib.hid (put_sorted HU.out.1.nd hst.1)
                    have hLN := gri_len hst.2
                    rw [List.length_append, List.length_singleton] at hLN
                    have HU2 : Hid (GrI (bF S r) k (grC (bF S r) k c) (L ++ [(m : Int)]) ∧ ∃ fu', uc (grC (bF S r) k c) k < fu' ∧ grRun (bF S r) k fu' (grC (bF S r) k c) (L ++ [(m : Int)]) = grL (bF S r) k) := Lib.hid (by
                      obtain ⟨_, h2, h3⟩ := HU.out
                      obtain ⟨fu', rfl⟩ : ∃ fu', fu = fu' + 1 := ⟨fu - 1, by omega⟩
                      exact ⟨hst.2, fu', by omega, by rw [← h3, grRun_step HD.out, ← HM2.out]⟩)
                    clear hst hle
                    refine (l01Put_new w.heap.size g cp (sorted L) (m : Int) HX.out _ (by rw [sorted_len]; omega) oo).mono ?_
                    rintro e w6 ⟨g6, c6, rfl, oo6, hb6⟩
                    rw [HPU.out] at oo6 ⊢
                    have q6 := oo6.base_le
                    have oB6 := oB.below hb6
                    have oI6 := oI.below hb6
                    have cs6 := kept_cell hb6 cs (by omega)
                    have B6 := B.trans (hb6.mono B.size)
                    have s6 := hb6.size
                    have gl6 : g6 ≠ pl := by omega
                    have gg6 : g6 ≠ pg := by omega
                    replace oo6 := oo6.rebase (base' := w.heap.size) B.size
                    clear oo oB oI cs B hb6 hcm h0 qo HX HPU
                    go_wp2_with fail
                    refine (l01Ball_some ao S cap HSp.out HNt.out hmk r hr0 _ (hS.below B6)).mono ?_
                    rintro e w7 ⟨gb, cb, rfl, ob, hb7⟩
                    obtain ⟨LB, hLB⟩ : ∃ LB, LB = ballW S (m : Int) r := ⟨_, rfl⟩
                    rw [← hLB] at ob ⊢
                    have HB1 : Hid (∀ t, t < LB.length → ∃ y : Nat, gi LB t = (y : Int) ∧ y < k) := Lib.hid fun t ht => by
                      rw [hLB] at ht ⊢
                      have h := ballW_bd HSp.out (m : Int) r t ht
                      rw [HNt.out] at h
                      exact h
                    have hLBl : LB.length ≤ 1024 := by rw [hLB]; exact ballW_len HSp.out _ _
                    have HCA : Hid (cuT c LB LB.length = grC (bF S r) k c) := Lib.hid (by rw [hLB, cuT_all, HM2.out]; rfl)
                    have q7 := ob.base_le
                    have q6' := oo6.base_le
                    have oo7 := oo6.below hb7
                    have oB7 := oB6.below hb7
                    have oI7 := oI6.below hb7
                    have c7 := kept_cell hb7 cs6 (by omega)
                    have B7 := B6.trans (hb7.mono B6.size)
                    have n1 : gb ≠ pl := by omega
                    have n2 : gb ≠ pg := by omega
                    replace ob := ob.rebase (base' := w.heap.size) B6.size
                    clear oo6 oB6 oI6 cs6 B6 hb7 hLB
                    go_wp2_with fail
                    go_loopw [14] (fun t wm => ∃ x : Nat, x ≤ LB.length ∧ t = .int .i64 x ∧ OwnInts wm w.heap.size (.slice (some ⟨g6, 0, none⟩) (sorted (L ++ [(m : Int)])).length c6) (sorted (L ++ [(m : Int)])) ∧ OwnInts wm w.heap.size (.slice (some ⟨gb, 0, none⟩) LB.length cb) LB ∧ OwnBools wm w.heap.size (.slice (some ⟨pl, 0, none⟩) k k) (tbB (fun u => !cuT c LB x u) k) ∧ OwnInts wm w.heap.size (.slice (some ⟨pg, 0, none⟩) k k) (tbI (fun u => (gF (bF S r) (cuT c LB x) u : Int)) k) ∧ wm.cell? ⟨w.heap.size, 0, none⟩ = some (.slice ao S.length cap) ∧ Below w.heap.size w wm) (fun t _ => LB.length - (intOf t).toNat)
                    case atStart => exact ⟨0, Nat.zero_le _, rfl, oo7, ob, by rw [cuT_0]; exact oB7, by rw [cuT_0]; exact oI7, c7, B7⟩
                    case round =>
                      clear oo7 ob oB7 oI7 c7 B7
                      obtain ⟨x, hx, rfl, oo, ob, oB, oI, cs, B⟩ := hrel
                      have qB := oB.base_le
                      have qI := oI.base_le
                      have qo := oo.base_le
                      have qb := ob.base_le
                      by_cases hlt : x < LB.length
                      · obtain ⟨y, hy, hyk⟩ := HB1.out x hlt
                        have hcy := ob.cell hlt
                        rw [hy] at hcy
                        have HY := Lib.hid hy
                        have hcB := oB.cell (k := y) (by rw [tbB_len]; exact hyk)
                        rw [gb_tbB _ hyk] at hcB
                        have xI : (x : Int) < (LB.length : Int) := by omega
                        have x0 : (0 : Int) ≤ (x : Int) := by omega
                        have yI : (y : Int) < (k : Int) := by omega
                        have y0 : (0 : Int) ≤ (y : Int) := by omega
                        obtain ⟨c1, hc1⟩ : ∃ c1, c1 = cuT c LB x := ⟨_, rfl⟩
                        rw [← hc1] at hcB oB oI
                        have HC1 := Lib.hid hc1
                        clear hy hc1
                        by_cases hb : c1 y = true
                        · have HQ : Hid (cuT c LB (x + 1) = c1) := Lib.hid (by rw [cuT_had c LB x y hlt HY.out (by rw [← HC1.out]; exact hb), HC1.out])
                          rw [hb] at hcB
                          simp only [Bool.not_true] at hcB
                          clear hb
                          go_wp2_with fail
                          go_roundw
                          case rel => exact ⟨x + 1, by omega, by go_num, oo, ob, by rw [HQ.out]; exact oB, by rw [HQ.out]; exact oI, cs, B⟩
                          case measure => simp [intOf]; omega
                        · have hbf : c1 y = false := by simpa using hb
                          have HQ : Hid (cuT c LB (x + 1) = add1 c1 y) := Lib.hid (by rw [cuT_more c LB x y hlt HY.out, HC1.out])
                          rw [hbf] at hcB
                          simp only [Bool.not_false] at hcB
                          have HBF := Lib.hid hbf
                          clear hb hbf
                          have hfB := oB.free y
                          have oB' := oB.stored y false
                          rw [tbB_set] at oB'
                          have HB' : Hid (tbB (fun u => if u = y then false else !c1 u) k = tbB (fun u => !add1 c1 y u) k) := Lib.hid (tbB_congr fun u hu => by
                            unfold add1
                            by_cases e : u = y <;> simp [e])
                          rw [HB'.out] at oB'
                          have oI' := owni_other oI (fun e => hne e.symm) y (.bool false)
                          have oo' := owni_other oo gl6 y (.bool false)
                          have ob' := owni_other ob n1 y (.bool false)
                          have c' := cell_set_other (a := ⟨pl, y, none⟩) (u := .bool false) cs lw
                          have B' : Below w.heap.size w (wr.setCell ⟨pl, y, none⟩ (.bool false)) := B.setCell (by simp; omega) _
                          have hcy' := ob'.cell hlt
                          rw [HY.out] at hcy'
                          have z' : w.heap.size < (wr.setCell ⟨pl, y, none⟩ (.bool false)).heap.size := by simp; omega
                          have z2 : gb < (wr.setCell ⟨pl, y, none⟩ (.bool false)).heap.size := by simp; omega
                          have z3 : pg < (wr.setCell ⟨pl, y, none⟩ (.bool false)).heap.size := by simp; omega
                          clear oB oI oo ob cs B HB'
                          go_wp2_with fail
                          obtain ⟨w8, hw8⟩ : ∃ w8, w8 = wr.setCell ⟨pl, y, none⟩ (.bool false) := ⟨_, rfl⟩
                          rw [← hw8] at oB' oI' oo' ob' c' B' hcy' z' z2 z3 ⊢
                          clear hw8
                          go_region_held3 (fun w' => w'.cell? ⟨w.heap.size, 0, none⟩ = some (.slice ao S.length cap) ∧ w'.cell? ⟨gb, x, none⟩ = some (.int .i64 (y : Int))) (first | exact ⟨c', hcy'⟩ | exact ⟨k1, k2⟩) (first | (go_at_call 45; refine (l01Ball_some ao S cap HSp.out HNt.out hyk r hr0 _ (hS.below B'.drew)).mono ?_; rintro e w9 ⟨gn, cn, rfl, on, hb9'⟩; have hb9 : Below w8.heap.size w8 w9 := (Below.refl _ w8).drew.trans hb9'; have k1 := kept_cell hb9 c' z'; have k2 := kept_cell hb9 hcy' z2))
                          obtain ⟨NB, hNB⟩ : ∃ NB, NB = ballW S (y : Int) r := ⟨_, rfl⟩
                          rw [← hNB] at on ⊢
                          have HND : Hid NB.Nodup := Lib.hid (by rw [hNB]; exact asc_nd (ballW_asc S _ _))
                          have HB2 : Hid (∀ t, t < NB.length → ∃ v : Nat, gi NB t = (v : Int) ∧ v < k) := Lib.hid fun t ht => by
                            rw [hNB] at ht ⊢
                            have h := ballW_bd HSp.out (y : Int) r t ht
                            rw [HNt.out] at h
                            exact h
                          have hNBl : NB.length ≤ 1024 := by rw [hNB]; exact ballW_len HSp.out _ _
                          have HGA : Hid (tbI (fun u => gT (bF S r) c1 NB NB.length u) k = tbI (fun u => (gF (bF S r) (add1 c1 y) u : Int)) k) := Lib.hid (tbI_congr fun u hu => by
                            rw [hNB]
                            exact gT_all HSp.out (by rw [HNt.out]; exact hyk) (by rw [HNt.out]; exact hu) HBF.out)
                          have HG0 : Hid (tbI (fun u => (gF (bF S r) c1 u : Int)) k = tbI (fun u => gT (bF S r) c1 NB 0 u) k) := Lib.hid (tbI_congr fun u hu => (gT_0 _ _ _ u).symm)
                          rw [HG0.out] at oI'
                          have q9 : w8.heap.size ≤ gn := on.base_le.1
                          have oo9 := oo'.below hb9
                          have ob9 := ob'.below hb9
                          have oB9 := oB'.below hb9
                          have oI9 := oI'.below hb9
                          have c9 := kept_cell hb9 c' z'
                          have B9 := B'.trans (hb9.mono B'.size)
                          have n3 : gn ≠ pg := by omega
                          replace on := on.rebase (base' := w.heap.size) B'.size
                          clear oo' ob' oB' oI' c' B' hb9 hb9' hNB hcy' hcy hcB hfB k1 k2 HG0
                          go_wp2_with fail
                          go_loopw [16] (fun t wi => ∃ i : Nat, i ≤ NB.length ∧ t = .int .i64 i ∧ OwnInts wi w.heap.size (.slice (some ⟨g6, 0, none⟩) (sorted (L ++ [(m : Int)])).length c6) (sorted (L ++ [(m : Int)])) ∧ OwnInts wi w.heap.size (.slice (some ⟨gb, 0, none⟩) LB.length cb) LB ∧ OwnInts wi w.heap.size (.slice (some ⟨gn, 0, none⟩) NB.length cn) NB ∧ OwnBools wi w.heap.size (.slice (some ⟨pl, 0, none⟩) k k) (tbB (fun u => !add1 c1 y u) k) ∧ OwnInts wi w.heap.size (.slice (some ⟨pg, 0, none⟩) k k) (tbI (fun u => gT (bF S r) c1 NB i u) k) ∧ wi.cell? ⟨w.heap.size, 0, none⟩ = some (.slice ao S.length cap) ∧ Below w.heap.size w wi) (fun t _ => NB.length - (intOf t).toNat)
                          case atStart => exact ⟨0, Nat.zero_le _, rfl, oo9, ob9, on, oB9, oI9, c9, B9⟩
                          case round =>
                            clear oo9 ob9 on oB9 oI9 c9 B9
                            obtain ⟨i, hi, rfl, oo, ob, on, oB, oI, cs, B⟩ := hrel
                            have qI := oI.base_le
                            have qn := on.base_le
                            by_cases hli : i < NB.length
                            · obtain ⟨v, hv, hvk⟩ := HB2.out i hli
                              have hcn := on.cell hli
                              rw [hv] at hcn
                              have HVV := Lib.hid hv
                              have hcg := oI.cell (k := v) (by rw [tbI_len]; exact hvk)
                              rw [gi_tbI _ hvk] at hcg
                              have hzb := gT_bd (bF S r) c1 NB i v
                              obtain ⟨z, hz⟩ : ∃ z, z = gT (bF S r) c1 NB i v := ⟨_, rfl⟩
                              rw [← hz] at hcg hzb
                              have HZ' := Lib.hid hz
                              have ez : IntKind.i64.wrap (z - 1) = z - 1 := IntWalk.i64_in _ ⟨by omega, by omega⟩
                              have hfg := oI.free v
                              have iI : (i : Int) < (NB.length : Int) := by omega
                              have i0 : (0 : Int) ≤ (i : Int) := by omega
                              have vI : (v : Int) < (k : Int) := by omega
                              have v0 : (0 : Int) ≤ (v : Int) := by omega
                              have oI' := oI.stored v (z - 1)
                              rw [tbI_set] at oI'
                              have HI' : Hid (tbI (fun u => if u = v then z - 1 else gT (bF S r) c1 NB i u) k = tbI (fun u => gT (bF S r) c1 NB (i + 1) u) k) := Lib.hid (tbI_congr fun u hu => by rw [gT_more _ _ _ HND.out i v hli HVV.out u, HZ'.out])
                              rw [HI'.out] at oI'
                              have oB' := ownb_other oB hne v (.int .i64 (z - 1))
                              have oo' := owni_other oo gg6 v (.int .i64 (z - 1))
                              have ob' := owni_other ob n2 v (.int .i64 (z - 1))
                              have on' := owni_other on n3 v (.int .i64 (z - 1))
                              have c' := cell_set_other (a := ⟨pg, v, none⟩) (u := .int .i64 (z - 1)) cs lg
                              have B' : Below w.heap.size w (wr.setCell ⟨pg, v, none⟩ (.int .i64 (z - 1))) := B.setCell (by simp; omega) _
                              clear hv hz oI oB oo ob on cs B HI' hzb
                              go_wp2_with fail
                              go_roundw
                              case rel => exact ⟨i + 1, by omega, by go_num, oo', ob', on', oB', oI', c', B'⟩
                              case measure => simp [intOf]; omega
                            · obtain rfl : i = NB.length := by omega
                              rw [HGA.out] at oI
                              have iI : ¬ ((NB.length : Int) < (NB.length : Int)) := by omega
                              go_wp2_with fail
                              go_roundw
                              case rel => exact ⟨x + 1, by omega, by go_num, oo, ob, by rw [HQ.out]; exact oB, by rw [HQ.out]; exact oI, cs, B⟩
                              case measure => simp [intOf]; omega
                      · obtain rfl : x = LB.length := by omega
                        rw [HCA.out] at oB oI
                        have xI : ¬ ((LB.length : Int) < (LB.length : Int)) := by omega
                        obtain ⟨hg2, fu', hu1, hu2⟩ := HU2.out
                        have HU3 : Hid (GrI (bF S r) k (grC (bF S r) k c) (L ++ [(m : Int)]) ∧ uc (grC (bF S r) k c) k < fu' ∧ grRun (bF S r) k fu' (grC (bF S r) k c) (L ++ [(m : Int)]) = grL (bF S r) k) := Lib.hid ⟨hg2, hu1, hu2⟩
                        clear hg2 hu1 hu2
                        go_wp2_with fail
                        go_roundw
                        case rel => exact ⟨fu', grC (bF S r) k c, L ++ [(m : Int)], g6, c6, rfl, oo, HU3, gl6, gg6, oB, oI, cs, B⟩
                        case measure =>
                          show k - (sorted (L ++ [(m : Int)])).length < k - (sorted L).length
                          rw [sorted_len, sorted_len, List.length_append, List.length_singleton]
                          omega
    · have hz : eGr S r = 2 := by unfold eGr; rw [if_pos hs, if_neg hr]
      have HV : Hid (vGr S r = []) := Lib.hid (by unfold vGr; rw [if_neg (by rw [hz]; decide)])
      have HIn : Hid (∀ W, Calls Try.prog 32 #[.int .i64 r, .int .i64 0, .int .i64 8] W fun e w' => e = .returned (.bool false) ∧ W = w') := Lib.hid fun W => by
        have h := l01In_any r 0 8 W
        rw [inB_false hr] at h
        exact h
      have HZ := Lib.hid hz
      have HI := Lib.hid hI
      clear hz hI hs hr
      go_enter Try.func16, Try.ntmps16
      go_wp2_with fail
      refine HI.out.mono ?_
      rintro e w1 ⟨rfl, hb1⟩
      have B1 := B0.trans (hb1.mono B0.size)
      go_wp2_with fail
      refine (HIn.out _).mono ?_
      rintro e w1' ⟨rfl, rfl⟩
      go_wp2_with fail
      go_ret2
      exact ⟨_, by rw [HZ.out]; rfl, by rw [HV.out]; exact own_nil _ _, B1⟩
  · have hz : eGr S r = 1 := by unfold eGr; rw [if_neg hs]
    have HV : Hid (vGr S r = []) := Lib.hid (by unfold vGr; rw [if_neg (by rw [hz]; decide)])
    rw [show isSp S = false by simpa using hs] at hI
    have HZ := Lib.hid hz
    have HI := Lib.hid hI
    clear hz hI hs
    go_enter Try.func16, Try.ntmps16
    go_wp2_with fail
    refine HI.out.mono ?_
    rintro e w1 ⟨rfl, hb1⟩
    have B1 := B0.trans (hb1.mono B0.size)
    go_wp2_with fail
    go_ret2
    exact ⟨_, by rw [HZ.out]; rfl, by rw [HV.out]; exact own_nil _ _, B1⟩

end Go.Proofs.Ytlhapanfegjafaa
