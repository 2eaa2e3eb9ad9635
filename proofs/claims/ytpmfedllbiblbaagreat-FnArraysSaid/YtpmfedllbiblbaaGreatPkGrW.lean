/-
  Merged texts: Giv2, GrN, GrR, Seq2. Never import this beside one of them. By an AI agent.
-/
import Derived.Test.YtpmfedllbiblbaaGreatPk33
import Derived.Test.YtpmfedllbiblbaaGreatPk35
import Derived.Deep.RegionHeld3
namespace Go.Proofs.YtpmfedllbiblbaaGreat
open Go.RowKit Go.Shelf Cv
set_option linter.unusedVariables false
set_option linter.unusedSimpArgs false

/-- what bears changes of whatever is no cells at or beyond B, and of the m blocks from B on -/
def OwnBar {β : Type} (B m : Nat) (I : β → World → Prop) : Prop :=
  ∀ s W W' row, I s W → W.grownBy W' row → (∀ r, row = some r → B ≤ r ∧ (r < B + m ∨ ∃ o : Obj, W.heap[r]? = some o ∧ o.isCells = false)) → I s W'
theorem OwnBar.and {β : Type} {B m : Nat} {I I' : β → World → Prop} (h : OwnBar B m I) (h' : OwnBar B m I') : OwnBar B m (fun s W => I s W ∧ I' s W) := fun s W W' row hs hg hr => ⟨h s W W' row hs.1 hg hr, h' s W W' row hs.2 hg hr⟩
theorem OwnBar.putObj {β : Type} {B m : Nat} {I : β → World → Prop} (h : OwnBar B m I) {s : β} {W : World} {l : Nat} {o : Obj} (o' : Obj) (hs : I s W) (hB : B ≤ l) (hl : W.heap[l]? = some o) (ho : o.isCells = false) : I s (W.putObj l o') :=
  h s W _ (some l) hs (grownBy_putObj' W l o') (fun r e => by cases e; exact ⟨hB, .inr ⟨o, hl, ho⟩⟩)
/-- the blocks of a span lie as they lay -/
def Span (B m : Nat) (W W' : World) : Prop := ∀ b, B ≤ b → b < B + m → b < W.heap.size → W'.heap[b]? = W.heap[b]?
theorem Span.trans {B m : Nat} {X Y Z : World} (h : Span B m X Y) (k : Span B m Y Z) (hs : X.heap.size ≤ Y.heap.size) : Span B m X Z := fun b h1 h2 h3 => (k b h1 h2 (by omega)).trans (h b h1 h2 h3)
theorem span_below {B m : Nat} {W W' : World} (h : Below W.heap.size W W') : Span B m W W' := fun b _ _ h3 => h.block b h3
theorem span_row {B m : Nat} {W W' : World} {row : Option Nat} (hg : W.grownBy W' row) (hr : ∀ r, row = some r → r < B ∨ B + m ≤ r) : Span B m W W' := fun b h1 h2 h3 => hg.block b h3 (fun e => by have := hr b e.symm; omega)

/-- an iterator that yields the values of S, or those of Sp to rounds that end it, and keeps m blocks of its own -/
def Gives2 {α : Type} (F : Fence) (n : Nat) (P : Program) (g : Nat) (lb : Array Value) (encs : α → Array Value) (Kp : World → World → Prop) (S Sp : List α → Prop) (N m : Nat) (w : World) : Prop :=
  ∀ (l : Nat) (J Jx : List α → World → Prop) (W : World), Below w.heap.size w W → OwnBar W.heap.size m J → OwnBar W.heap.size m Jx →
    (∀ pre x W1, J pre W1 → pre.length < N → W.heap.size + m ≤ W1.heap.size → YieldAt F (n - 1) P l (encs x) W1 fun e W' => (e = .returned (.bool true) ∧ J (pre ++ [x]) W' ∧ Kp W1 W' ∧ Span W.heap.size m W1 W' ∧ W1.heap.size ≤ W'.heap.size) ∨ (e = .returned (.bool false) ∧ Jx (pre ++ [x]) W')) →
    J [] W → CallsIn F n P g (#[.func (.yield l) #[] #[]] ++ lb) W fun e W' => (∃ v, e = .returned v) ∧ ((∃ xs, S xs ∧ J xs W') ∨ (∃ pre, Sp pre ∧ Jx pre W'))

/-- how the body of a round may be left -/
def ownPost2 {α : Type} (B m : Nat) (Kp : World → World → Prop) (I : List α → World → Prop) (Ix : Code → List α → World → Prop) (xs : List α) (W : World) : Exit → Act → World → Prop
  | .normal, _, W' => KeepsFrom B W W' ∧ Kp W W' ∧ Span (B + 2) m W W' ∧ I xs W'
  | .ret, _, W' => KeepsFrom B W W' ∧ Ix .ret xs W'
  | .exit id, _, W' => KeepsFrom B W W' ∧ Ix (.exit id) xs W'
  | .goto t, _, W' => KeepsFrom B W W' ∧ Ix (.goto t) xs W'
  | .panic _, _, _ => False
  | .outgrown, _, _ => False

theorem range_gives2 {F : Fence} {n : Nat} {P : Program} {α : Type} {g : Operand} {ps : Array Tmp} {assign body : Code} {Q : Exit → Act → World → Prop} {a : Act} {w : World}
    (hro : F.round = none) (h1 : 1 ≤ n) {gf : Nat} {lb : Array Value} (hg : a.eval g = .func (.func gf) #[] lb) (hFg : F.fn gf) (eg : ∀ args w, (callFunc gf args).run P w = .ok (.enter gf args) w)
    {encs : α → Array Value} {Kp : World → World → Prop} {S Sp : List α → Prop} {N m : Nat} {w0 : World} (hseq : Gives2 F (n - 1) P gf lb encs Kp S Sp N m w0)
    (hKt : ∀ {A B C : World}, Kp A B → Kp B C → Kp A C) (hKg : ∀ (A B : World) (row : Option Nat), A.grownBy B row → (∀ r, row = some r → w.heap.size ≤ r ∧ ∃ o : Obj, A.heap[r]? = some o ∧ o.isCells = false) → w.heap.size ≤ A.heap.size → Kp A B) (hb0 : Below w0.heap.size w0 w) (hps : ∀ x, (encs x).size = ps.size)
    (I : List α → World → Prop) (Ix : Code → List α → World → Prop) (Ia : List α × α × Act → World → Prop) (hI : OwnBar w.heap.size (m + 2) I) (hIx : ∀ c, OwnBar w.heap.size (m + 2) (Ix c)) (hIa : OwnBar w.heap.size (m + 2) Ia) (h0 : I [] w)
    (hassign : ∀ (l : Nat) (pre : List α) (x : α) (W : World) (K : Act → World → Prop), I pre W → (∀ a' W', Ia (pre, x, a') W' → Below W.heap.size W W' → K a' W') →
      assign.wpIn (F.inRound l) (n - 1 - 1) P (Exit.then K (fun _ _ _ => False)) { tmps := (ps.zip (encs x)).foldl (fun t (p, v) => t.setIfInBounds p v) a.tmps, defers := [] } W)
    (hbody : ∀ (l : Nat) (pre : List α) (x : α) (a' : Act) (W : World), Ia (pre, x, a') W → pre.length < N → w.heap.size + 2 + m ≤ W.heap.size → body.wpIn (F.inRound l) (n - 1 - 1) P (ownPost2 w.heap.size m Kp I Ix (pre ++ [x]) W) a' W)
    (hdone : ∀ (D : Nat) (xs : List α) (W : World), w.heap.size ≤ D → S xs → I xs W → W.heap[D]? = some (.deferred (some [])) → Q .normal { a with defers := { target := .collected D, args := #[] } :: a.defers } W)
    (hstop : ∀ (D : Nat) (c : Code) (pre : List α) (W : World), w.heap.size ≤ D → Sp pre → Ix c pre W → W.heap[D]? = some (.deferred (some [])) → c.wpIn F n P Q { a with defers := { target := .collected D, args := #[] } :: a.defers } W) :
    (Code.rangeFunc g ps assign body).wpIn F n P Q a w := by
  refine wpIn_rangeFunc fun fn hfn => ?_
  rw [hro]
  obtain ⟨rec, hrec⟩ : ∃ rec : LoopState → Option Code → Loop, rec = fun st pe => { state := st, pending := pe, fn, tmps := a.tmps, params := ps, assign, body, defers := w.heap.size } := ⟨_, rfl⟩
  obtain ⟨V, hV⟩ : ∃ V, (w.alloc (.deferred (some []))).alloc (.loop (rec .ready none)) = V := ⟨_, rfl⟩
  have hVs : V.heap.size = w.heap.size + 2 := by rw [← hV]; simp
  have hVb : Below w.heap.size w V := by rw [← hV]; exact ((Below.refl _ w).alloc (Nat.le_refl _) _).alloc (by simp) _
  have hVl : V.heap[w.heap.size + 1]? = some (.loop (rec .ready none)) := by
    have h := World.alloc_heap_new (w.alloc (.deferred (some []))) (.loop (rec .ready none))
    rw [World.size_alloc] at h; rw [← hV]; exact h
  have hVd : V.heap[w.heap.size]? = some (.deferred (some [])) := by
    rw [← hV]; exact (Below.heap_alloc _ _ _ (by simp)).trans (World.alloc_heap_new w _)
  have hVI : I [] V := hI _ w V none h0 ⟨hVb.os, hVb.tape, hVb.output, hVb.size, fun k hk _ => hVb.block k hk⟩ (fun r e => by cases e)
  refine ⟨w.heap.size + 1, [{ target := .collected w.heap.size, args := #[] }], V, { target := .fn (.func gf) lb, args := #[.func (.yield (w.heap.size + 1)) #[] #[]] }, V, gf, #[.func (.yield (w.heap.size + 1)) #[] #[]] ++ lb, V, ?_, ?_, ?_, ?_, fun _ => h1, ?_⟩
  · rw [← hV, hrec]; exact run_enterLoop_outer _ _ _ _ _
  · simp only [resolve, hg]; simp [go_sem]
  · intro f hf; simp [Target.leads] at hf; subst hf; exact hFg
  · simp [invoke, go_sem, eg]
  have lift : ∀ {A : World} {row : Option Nat}, (∀ r, row = some r → V.heap.size ≤ r ∧ (r < V.heap.size + m ∨ ∃ o : Obj, A.heap[r]? = some o ∧ o.isCells = false)) → ∀ r, row = some r → w.heap.size ≤ r ∧ (r < w.heap.size + (m + 2) ∨ ∃ o : Obj, A.heap[r]? = some o ∧ o.isCells = false) := fun hr r e => by
    obtain ⟨k1, k2⟩ := hr r e
    exact ⟨by omega, k2.imp (fun h => by omega) id⟩
  refine (hseq (w.heap.size + 1) (fun pre W => I pre W ∧ W.heap[w.heap.size + 1]? = some (.loop (rec .ready none)) ∧ W.heap[w.heap.size]? = some (.deferred (some [])))
    (fun pre W => ∃ c, Ix c pre W ∧ W.heap[w.heap.size + 1]? = some (.loop (rec .done (some c))) ∧ W.heap[w.heap.size]? = some (.deferred (some []))) V (hb0.trans (hVb.mono hb0.size))
    (fun s A B row hs hg' hr => ⟨hI s A B row hs.1 hg' (lift hr),
      (hg'.block _ (Array.getElem?_eq_some_iff.1 hs.2.1).1 (fun e => by have := (hr _ e.symm).1; omega)).trans hs.2.1, (hg'.block _ (Array.getElem?_eq_some_iff.1 hs.2.2).1 (fun e => by have := (hr _ e.symm).1; omega)).trans hs.2.2⟩)
    (fun s A B row hs hg' hr => by
      obtain ⟨c, hc, hl, hk⟩ := hs
      exact ⟨c, hIx c s A B row hc hg' (lift hr), (hg'.block _ (Array.getElem?_eq_some_iff.1 hl).1 (fun e => by have := (hr _ e.symm).1; omega)).trans hl, (hg'.block _ (Array.getElem?_eq_some_iff.1 hk).1 (fun e => by have := (hr _ e.symm).1; omega)).trans hk⟩)
    ?_ ⟨hVI, hVl, hVd⟩).mono ?_
  · rintro pre x W ⟨hi, hl, hd⟩ hlen hbig
    have hlt := (Array.getElem?_eq_some_iff.1 hl).1
    have hy := run_yield (P := P) (args := encs x) hl (by rw [hrec]; exact hps x)
    rw [hrec] at hy
    refine ⟨fn, _, assign, body, hy, roundIn_of_wpIn hfn (hassign _ pre x W _ hi fun a' W' ha hB' => ?_)⟩
    have hl' : W'.heap[w.heap.size + 1]? = some (.loop (rec .ready none)) := (hB'.block _ hlt).trans hl
    have hd' : W'.heap[w.heap.size]? = some (.deferred (some [])) := (hB'.block _ (by omega)).trans hd
    have hlt' := (Array.getElem?_eq_some_iff.1 hl').1
    refine ⟨_, run_beginRound hl' (by rw [hrec]), ?_⟩
    have hl2 : (W'.putObj (w.heap.size + 1) (.loop { rec .ready none with state := .busy })).heap[w.heap.size + 1]? = some (.loop { rec .ready none with state := .busy }) := World.putObj_heap_same hlt'
    have hd2 : (W'.putObj (w.heap.size + 1) (.loop { rec .ready none with state := .busy })).heap[w.heap.size]? = some (.deferred (some [])) := (World.putObj_heap_other (by omega)).trans hd'
    have hw0 := hb0.size
    have g1 : W.grownBy W' none := ⟨hB'.os, hB'.tape, hB'.output, hB'.size, fun k hk _ => hB'.block k hk⟩
    have b2 : Kp W (W'.putObj (w.heap.size + 1) (.loop { rec .ready none with state := .busy })) := hKt (hKg _ _ none g1 (fun r e => by cases e) (by omega)) (hKg _ _ (some (w.heap.size + 1)) (grownBy_putObj' _ _ _) (fun r e => by cases e; exact ⟨by omega, _, hl', rfl⟩) (by have := hB'.size; omega))
    have sp2 : Span V.heap.size m W (W'.putObj (w.heap.size + 1) (.loop { rec .ready none with state := .busy })) := (span_below hB').trans (span_row (grownBy_putObj' _ _ _) (fun r e => by cases e; omega)) hB'.size
    have z2 : (W'.putObj (w.heap.size + 1) (.loop { rec .ready none with state := .busy })).heap.size = W'.heap.size := by simp
    refine wpIn_mono (hbody _ pre x a' _ (hIa.putObj _ ha (by omega) hl' rfl) hlen (by rw [z2]; have := hB'.size; omega)) ?_
    rintro e a3 W3 hp
    have fin : ∀ (jump : Option Code), KeepsFrom w.heap.size (W'.putObj (w.heap.size + 1) (.loop { rec .ready none with state := .busy })) W3 →
        (Instr.endRound (w.heap.size + 1) jump).run P W3 = .ok (.bool jump.isNone) (W3.putObj (w.heap.size + 1) (.loop (rec (if jump.isNone then .ready else .done) jump))) ∧
        W3.heap[w.heap.size + 1]? = some (.loop { rec .ready none with state := .busy }) ∧
        (W3.putObj (w.heap.size + 1) (.loop (rec (if jump.isNone then .ready else .done) jump))).heap[w.heap.size + 1]? = some (.loop (rec (if jump.isNone then .ready else .done) jump)) ∧
        (W3.putObj (w.heap.size + 1) (.loop (rec (if jump.isNone then .ready else .done) jump))).heap[w.heap.size]? = some (.deferred (some [])) := fun jump hk3 => by
      have hl3 := hk3.same _ _ (by omega) hl2 rfl
      have := run_endRound (P := P) jump hl3
      rw [hrec] at this ⊢
      exact ⟨this, by rw [hrec] at hl3; exact hl3, World.putObj_heap_same (Array.getElem?_eq_some_iff.1 hl3).1, (World.putObj_heap_other (by omega)).trans (hk3.same _ _ (Nat.le_refl _) hd2 rfl)⟩
    cases e with
    | normal =>
      obtain ⟨hk3, hb3, hs3, hi3⟩ := hp
      obtain ⟨hr, hl3, hl4, hk4⟩ := fin none hk3
      have z3 : W'.heap.size ≤ W3.heap.size := Nat.le_trans (by simp) hk3.size
      refine ⟨_, _, hr, .inl ⟨rfl, ⟨hI.putObj _ hi3 (by omega) hl3 rfl, hl4, hk4⟩, ?_, ?_, ?_⟩⟩
      · exact hKt (hKt b2 hb3) (hKg _ _ (some (w.heap.size + 1)) (grownBy_putObj' _ _ _) (fun r e => by cases e; exact ⟨by omega, _, hl3, rfl⟩) (by have := (Array.getElem?_eq_some_iff.1 hl3).1; omega))
      · rw [hVs] at sp2 ⊢
        exact (sp2.trans hs3 (Nat.le_trans hB'.size (by simp))).trans (span_row (grownBy_putObj' _ _ _) (fun r e => by cases e; omega)) (Nat.le_trans hB'.size z3)
      · have := hB'.size; simp; omega
    | ret =>
      obtain ⟨hk3, hi3⟩ := hp
      obtain ⟨hr, hl3, hl4, hk4⟩ := fin (some .ret) hk3
      exact ⟨_, _, hr, .inr ⟨rfl, .ret, (hIx _).putObj _ hi3 (by omega) hl3 rfl, hl4, hk4⟩⟩
    | exit id =>
      obtain ⟨hk3, hi3⟩ := hp
      obtain ⟨hr, hl3, hl4, hk4⟩ := fin (some (.exit id)) hk3
      exact ⟨_, _, hr, .inr ⟨rfl, .exit id, (hIx _).putObj _ hi3 (by omega) hl3 rfl, hl4, hk4⟩⟩
    | goto t =>
      obtain ⟨hk3, hi3⟩ := hp
      obtain ⟨hr, hl3, hl4, hk4⟩ := fin (some (.goto t)) hk3
      exact ⟨_, _, hr, .inr ⟨rfl, .goto t, (hIx _).putObj _ hi3 (by omega) hl3 rfl, hl4, hk4⟩⟩
    | panic ch => exact hp.elim
    | outgrown => exact hp.elim
  · rintro e W2 ⟨⟨v, rfl⟩, (⟨xs, hS, hi, hl, hk⟩ | ⟨pre, hSp, c, hi, hl, hk⟩)⟩
    · exact ⟨none, _, by have := run_endLoop (P := P) hl (by rw [hrec]; simp); rw [hrec] at this; exact this, hdone _ xs _ (Nat.le_refl _) hS (hI.putObj _ hi (by omega) hl rfl) ((World.putObj_heap_other (by omega)).trans hk)⟩
    · exact ⟨some c, _, by have := run_endLoop (P := P) hl (by rw [hrec]; simp); rw [hrec] at this; exact this, hstop _ c pre _ (Nat.le_refl _) hSp ((hIx c).putObj _ hi (by omega) hl rfl) ((World.putObj_heap_other (by omega)).trans hk)⟩

end Go.Proofs.YtpmfedllbiblbaaGreat

namespace Go.Proofs.YtpmfedllbiblbaaGreat
open Cv
set_option linter.unusedVariables false
set_option linter.unusedSimpArgs false

/-- K sets that have together all of Q and nothing else -/
structure Cvr (F : Nat → Nat → Bool) (K : Nat) (Q : Nat → Bool) : Prop where
  sub : ∀ j u, j < K → F j u = true → Q u = true
  all : ∀ u, Q u = true → ∃ j, j < K ∧ F j u = true
  bd : ∀ u, Q u = true → u < 1024
def gnW (F : Nat → Nat → Bool) (K : Nat) (c : Nat → Bool) : Nat := mbI (gF F c) K
def gnC (F : Nat → Nat → Bool) (K : Nat) (c : Nat → Bool) : Nat → Bool := fun u => c u || F (gnW F K c) u
def gnRun (F : Nat → Nat → Bool) (K : Nat) (Q : Nat → Bool) : Nat → (Nat → Bool) → List Int → List Int
  | 0, _, L => L
  | n + 1, c, L => if eqS c Q = true then L else gnRun F K Q n (gnC F K c) (L ++ [(gnW F K c : Int)])
/-- what is left of Q -/
def lf (Q c : Nat → Bool) : Nat := cntTo (byd Q c) 1024
theorem gn_pick {F : Nat → Nat → Bool} {K : Nat} {Q c : Nat → Bool} (h : Cvr F K Q) (hc : ∀ u, c u = true → Q u = true) (hne : eqS c Q = false) : gnW F K c < K ∧ (∀ u, gnC F K c u = true → Q u = true) ∧ lf Q (gnC F K c) < lf Q c := by
  have hu : ∃ u, u < 1024 ∧ Q u = true ∧ c u = false := by
    apply Classical.byContradiction
    intro g
    have : eqS c Q = true := (eqS_iff c Q).2 fun u hu => by
      cases e : Q u with
      | false => cases e2 : c u with
        | false => rfl
        | true => have := hc u e2; rw [e] at this; cases this
      | true => cases e2 : c u with
        | true => rfl
        | false => exact absurd ⟨u, hu, e, e2⟩ g
    rw [this] at hne; cases hne
  obtain ⟨u, hu, hq, hcu⟩ := hu
  obtain ⟨j, hj, hfj⟩ := h.all u hq
  have h1 : 0 < gF F c j := cntTo_pos hu (by unfold byd; rw [hfj, hcu]; rfl)
  have h2 := mbV_ge (gF F c) K j hj
  obtain ⟨h3, h4⟩ := mbI_at (gF F c) K (by omega)
  have h5 : 0 < gF F c (gnW F K c) := by show 0 < gF F c (mbI (gF F c) K); omega
  obtain ⟨v, hv, hb⟩ := cntTo_ex h5
  simp only [byd, Bool.and_eq_true, Bool.not_eq_true'] at hb
  refine ⟨h3, fun z hz => ?_, ?_⟩
  · simp only [gnC, Bool.or_eq_true] at hz
    rcases hz with hz | hz
    · exact hc z hz
    · exact h.sub _ _ h3 hz
  · refine cntTo_less (u := v) (fun z hz => ?_) hv ?_ ?_
    · simp only [byd, gnC, Bool.and_eq_true, Bool.not_eq_true', Bool.or_eq_false_iff] at hz ⊢
      exact ⟨hz.1, hz.2.1⟩
    · simp [byd, gnC, hb.1]
    · simp [byd, hb.2, h.sub _ _ h3 hb.1]
theorem gnRun_done {F : Nat → Nat → Bool} {K n : Nat} {Q c : Nat → Bool} {L : List Int} (h : eqS c Q = true) : gnRun F K Q n c L = L := by
  cases n with
  | zero => rfl
  | succ n => rw [gnRun, if_pos h]
theorem gnRun_step {F : Nat → Nat → Bool} {K n : Nat} {Q c : Nat → Bool} {L : List Int} (h : eqS c Q = false) : gnRun F K Q (n + 1) c L = gnRun F K Q n (gnC F K c) (L ++ [(gnW F K c : Int)]) := by
  rw [gnRun, if_neg (by rw [h]; decide)]
/-- the greedy rounds' numbers -/
def gnL (F : Nat → Nat → Bool) (K : Nat) (Q : Nat → Bool) : List Int := gnRun F K Q (lf Q (fun _ => false) + 1) (fun _ => false) []

/-- what holds between two rounds: the numbers so far, and what they have together -/
structure GnI (F : Nat → Nat → Bool) (K : Nat) (Q : Nat → Bool) (c : Nat → Bool) (L : List Int) : Prop where
  sub : ∀ u, c u = true → Q u = true
  run : ∃ n, lf Q c < n ∧ gnRun F K Q n c L = gnL F K Q
  len : L.length + lf Q c ≤ lf Q fun _ => false
theorem gnRun_len (F : Nat → Nat → Bool) (K : Nat) (Q : Nat → Bool) : ∀ n c L, L.length ≤ (gnRun F K Q n c L).length
  | 0, _, _ => Nat.le_refl _
  | n + 1, c, L => by
    rw [gnRun]
    split
    · exact Nat.le_refl _
    · exact Nat.le_trans (by rw [List.length_append]; simp) (gnRun_len F K Q n _ _)
theorem gni_len {F : Nat → Nat → Bool} {K : Nat} {Q c : Nat → Bool} {L : List Int} (g : GnI F K Q c L) : L.length ≤ (gnL F K Q).length := by
  obtain ⟨n, _, e⟩ := g.run
  rw [← e]; exact gnRun_len _ _ _ _ _ _
theorem gni_0 (F : Nat → Nat → Bool) (K : Nat) (Q : Nat → Bool) : GnI F K Q (fun _ => false) [] := ⟨(fun u h => by cases h), ⟨_, Nat.lt_succ_self _, rfl⟩, by simp⟩
theorem gni_done {F : Nat → Nat → Bool} {K : Nat} {Q c : Nat → Bool} {L : List Int} (g : GnI F K Q c L) (h : eqS c Q = true) : L = gnL F K Q := by
  obtain ⟨n, _, e⟩ := g.run
  rwa [gnRun_done h] at e
theorem gni_step {F : Nat → Nat → Bool} {K : Nat} {Q c : Nat → Bool} {L : List Int} (hC : Cvr F K Q) (g : GnI F K Q c L) (h : eqS c Q = false) : gnW F K c < K ∧ L.length < lf Q (fun _ => false) ∧ GnI F K Q (gnC F K c) (L ++ [(gnW F K c : Int)]) := by
  obtain ⟨h1, h2, h3⟩ := gn_pick hC g.sub h
  obtain ⟨n, hn, e⟩ := g.run
  have hl := g.len
  obtain ⟨n', rfl⟩ : ∃ n', n = n' + 1 := ⟨n - 1, by omega⟩
  rw [gnRun_step h] at e
  exact ⟨h1, by omega, h2, ⟨n', by omega, e⟩, by rw [List.length_append]; simp; omega⟩
theorem lf_bd (Q c : Nat → Bool) : lf Q c ≤ 1024 := cntTo_le _ _
theorem gn_congr {f g : Nat → Nat} {k : Nat} (h : ∀ j, j < k → f j = g j) : mbI f k = mbI g k ∧ mbV f k = mbV g k := by
  induction k with
  | zero => exact ⟨rfl, rfl⟩
  | succ k ih =>
    have h1 := ih fun j hj => h j (by omega)
    have h2 := h k (by omega)
    simp only [mbI, mbV, h1.1, h1.2, h2, and_self]

end Go.Proofs.YtpmfedllbiblbaaGreat

namespace Go.Proofs.YtpmfedllbiblbaaGreat
open Go.RowKit Go.Shelf Cv
set_option linter.unusedVariables false
set_option linter.unusedSimpArgs false
set_option maxRecDepth 100000

section
attribute [local go_sem] Oper.semAt_some

theorem greedyRounds_any (gs K cs : Nat) (Q : Nat → Bool) (w : World) :
    Calls Tryz.prog 94 #[.slice (some ⟨gs, 0, none⟩) K cs, .agg (setA Q)] w fun e w' => e = .returned (.func (.func 108) #[] #[.pointer (some ⟨w.heap.size + 1, 0, none⟩), .pointer (some ⟨w.heap.size, 0, none⟩)]) ∧ RowAt w' (w.heap.size + 1) Q ∧ w'.heap[w.heap.size]? = some (.cells #[.slice (some ⟨gs, 0, none⟩) K cs] 55 (0, 0)) ∧ Below w.heap.size w w' := by
  have H1 := Lib.hid ((((Below.refl _ (w.alloc (.cells #[.slice (some ⟨gs, 0, none⟩) K cs] 55))).alloc (Nat.le_refl _) (.cells (setA Q) 68)).block w.heap.size (by simp)).trans (World.alloc_heap_new w (.cells #[.slice (some ⟨gs, 0, none⟩) K cs] 55)))
  have H2 := Lib.hid (rown_new (w.alloc (.cells #[.slice (some ⟨gs, 0, none⟩) K cs] 55)) Q (n := w.heap.size + 1) (by simp))
  go_enter Tryz.func94, Tryz.ntmps94
  go_wp2_with fail
  go_ret
  exact ⟨rfl, H2.out, H1.out, by go_grown⟩

theorem sets_keeps {w w' : World} {base g n c : Nat} {PS : List (Nat → Bool)} (h : OwnSets w base (.slice (some ⟨g, 0, none⟩) n c) PS) (k : KeepsAt g w w') : OwnSets w' base (.slice (some ⟨g, 0, none⟩) n c) PS := by
  obtain ⟨h1, h2⟩ := h
  refine ⟨h1, ?_⟩
  rcases h2 with ⟨hv, hn⟩ | ⟨g', cap, cur, hv, hb, hh, rest⟩
  · exact .inl ⟨hv, hn⟩
  · have e := hv
    simp only [Value.slice.injEq, Option.some.injEq, Addr.mk.injEq, and_true, true_and] at e
    obtain ⟨rfl, _, _⟩ := e
    exact .inr ⟨_, cap, cur, hv, hb, k cur _ hh, rest⟩

/-- the set in the block b, as far as it is one -/
def tkF (b : Nat) (W : World) (u : Nat) : Bool := (match W.cell? ⟨b, u / 64, none⟩ with | some (.int _ x) => x.toNat | _ => 0).testBit (u % 64)
def tkM (Q : Nat → Bool) (b : Nat) (W : World) : Nat := lf Q (tkF b W)
theorem tkF_eq {c : Nat → Bool} {b : Nat} {W : World} (h : RowAt W b c) {u : Nat} (hu : u < 1024) : tkF b W u = c u := by
  unfold tkF
  rw [h.cell (u / 64) (by omega)]
  have := partN_bit c (u / 64) (u % 64) (by omega)
  rw [show 64 * (u / 64) + u % 64 = u by omega] at this
  simpa using this
theorem tkM_eq {Q c : Nat → Bool} {b : Nat} {W : World} (h : RowAt W b c) : tkM Q b W = lf Q c := by
  unfold tkM lf
  have e : ∀ n, n ≤ 1024 → cntTo (byd Q (tkF b W)) n = cntTo (byd Q c) n := fun n => by
    induction n with
    | zero => intro _; rfl
    | succ n ih =>
      intro hn
      have hb : byd Q (tkF b W) n = byd Q c n := by unfold byd; rw [tkF_eq h (by omega)]
      rw [cntTo, cntTo, ih (by omega), hb]
  exact e 1024 (Nat.le_refl _)

/-- what a round keeps for the iterator -/
def KpR (wb sb gs : Nat) (W W' : World) : Prop := KeepsAt wb W W' ∧ KeepsAt sb W W' ∧ KeepsAt gs W W'
theorem kpR_t {wb sb gs : Nat} {A B C : World} (h : KpR wb sb gs A B) (k : KpR wb sb gs B C) : KpR wb sb gs A C := ⟨h.1.trans k.1, h.2.1.trans k.2.1, h.2.2.trans k.2.2⟩
theorem kpR_g {wb sb gs N : Nat} (A B : World) (row : Option Nat) (hg : A.grownBy B row) (hr : ∀ r, row = some r → N ≤ r ∧ ∃ o : Obj, A.heap[r]? = some o ∧ o.isCells = false) (hA : N ≤ A.heap.size) : KpR wb sb gs A B :=
  ⟨keepsAt_nc hg fun r e => (hr r e).2, keepsAt_nc hg fun r e => (hr r e).2, keepsAt_nc hg fun r e => (hr r e).2⟩
theorem grown_below' {A B : World} (h : Below A.heap.size A B) : A.grownBy B none := ⟨h.os, h.tape, h.output, h.size, fun j hj _ => h.block j hj⟩

set_option maxHeartbeats 4000000 in
theorem greedyRounds_gives (n : Nat) (hn1 : 1 ≤ n) (base gs cs K : Nat) (PS : List (Nat → Bool)) (hK : K = PS.length) (h1 : 1 ≤ K) (hl : K ≤ 1048576) (Q : Nat → Bool) (hC : Cvr (pAt PS) K Q) (wb sb : Nat) (w : World) (hL : OwnSets w base (.slice (some ⟨gs, 0, none⟩) K cs) PS)
    (hwb : RowAt w wb Q) (hsb : w.heap[sb]? = some (.cells #[.slice (some ⟨gs, 0, none⟩) K cs] 55 (0, 0))) :
    Gives2 Fence.wide n Tryz.prog 108 #[.pointer (some ⟨wb, 0, none⟩), .pointer (some ⟨sb, 0, none⟩)] encI (KpR wb sb gs) (fun ys => ys = gnL (pAt PS) K Q) (fun ys => ys.length ≤ (gnL (pAt PS) K Q).length) 1024 1 w := fun l J Jx Wst hW hJ hJx hY h0 => by
  have HC := Lib.hid hC
  have hgb := hL.base_le
  have hbs : base ≤ w.heap.size := by omega
  have hWs := hW.size
  have HKl := Lib.hid hK
  have hdd : ∀ k : Nat, (Fence.wide.depth.isSome = true → 1 ≤ k) := fun k h => by cases (show (none : Option Nat).isSome = true from h)
  obtain ⟨T, hT⟩ : ∃ T, T = Wst.heap.size := ⟨_, rfl⟩
  have hwT : wb < T := by have := hwb.lt; omega
  have hsT : sb < T := by have := (Array.getElem?_eq_some_iff.1 hsb).1; omega
  have hgT : gs < T := by omega
  have hz := rowz_new Wst hT
  have gA : Wst.grownBy (Wst.alloc (.cells #[.int .u64 0, .int .u64 0, .int .u64 0, .int .u64 0, .int .u64 0, .int .u64 0, .int .u64 0, .int .u64 0, .int .u64 0, .int .u64 0, .int .u64 0, .int .u64 0, .int .u64 0, .int .u64 0, .int .u64 0, .int .u64 0] 68)) none := World.grownBy_alloc Wst _ none
  have gB : (Wst.alloc (.cells #[.int .u64 0, .int .u64 0, .int .u64 0, .int .u64 0, .int .u64 0, .int .u64 0, .int .u64 0, .int .u64 0, .int .u64 0, .int .u64 0, .int .u64 0, .int .u64 0, .int .u64 0, .int .u64 0, .int .u64 0, .int .u64 0] 68)).grownBy ((Wst.alloc (.cells #[.int .u64 0, .int .u64 0, .int .u64 0, .int .u64 0, .int .u64 0, .int .u64 0, .int .u64 0, .int .u64 0, .int .u64 0, .int .u64 0, .int .u64 0, .int .u64 0, .int .u64 0, .int .u64 0, .int .u64 0, .int .u64 0] 68)).setRow T (setA fun _ => false)) (some T) := grown_setRow _
  have bA : Below Wst.heap.size Wst ((Wst.alloc (.cells #[.int .u64 0, .int .u64 0, .int .u64 0, .int .u64 0, .int .u64 0, .int .u64 0, .int .u64 0, .int .u64 0, .int .u64 0, .int .u64 0, .int .u64 0, .int .u64 0, .int .u64 0, .int .u64 0, .int .u64 0, .int .u64 0] 68)).setRow T (setA fun _ => false)) := ((Below.refl _ Wst).alloc (Nat.le_refl _) _).grown gB (by simp) (fun j e => by cases e; omega)
  have hj0 : J [] ((Wst.alloc (.cells #[.int .u64 0, .int .u64 0, .int .u64 0, .int .u64 0, .int .u64 0, .int .u64 0, .int .u64 0, .int .u64 0, .int .u64 0, .int .u64 0, .int .u64 0, .int .u64 0, .int .u64 0, .int .u64 0, .int .u64 0, .int .u64 0] 68)).setRow T (setA fun _ => false)) :=
    hJ _ _ _ _ (hJ _ _ _ _ h0 gA (fun r e => by cases e)) gB (fun r e => by cases e; exact ⟨by omega, .inl (by omega)⟩)
  obtain ⟨W1, hW1⟩ : ∃ W1, W1 = ((Wst.alloc (.cells #[.int .u64 0, .int .u64 0, .int .u64 0, .int .u64 0, .int .u64 0, .int .u64 0, .int .u64 0, .int .u64 0, .int .u64 0, .int .u64 0, .int .u64 0, .int .u64 0, .int .u64 0, .int .u64 0, .int .u64 0, .int .u64 0] 68)).setRow T (setA fun _ => false)) := ⟨_, rfl⟩
  have rT : RowAt W1 T (fun _ => false) := by rw [hW1]; exact row_set hz
  rw [← hW1] at bA hj0
  have bW := hW.trans (bA.mono hWs)
  have rQ := hwb.below bW hwb.lt
  have sQ := (bW.block sb (Array.getElem?_eq_some_iff.1 hsb).1).trans hsb
  have oL : OwnSets W1 base (.slice (some ⟨gs, 0, none⟩) K cs) PS := hL.below bW
  have HW1 := Lib.hid hW1
  have HT := Lib.hid hT
  clear gA gB bA hwb hsb hL hW1 h0 hK hC bW hT
  refine callsIn_of_wp Tryz.func108 rfl trivial ?_ rfl
  simp only [Tryz.ntmps108, List.size_toArray, List.length_cons, List.length_nil, Nat.reduceAdd, Nat.reduceSub, Array.replicate_succ, Array.replicate_zero, List.push_toArray, List.append_toArray, List.nil_append, List.cons_append]
  gi_wp2_with (first
    | (rw [← HT.out]; refine wpListIn_st16 rfl _ _ rfl hz (fun _ => false) rfl (by rw [setA_none]; rfl) ?_; rw [← HW1.out])
    | fail)
  simp only [Act.put]
  gi_loopw [5] (fun kv wr => ∃ (c : Nat → Bool) (pre : List Int), Hid (GnI (pAt PS) K Q c pre) ∧ J pre wr ∧ RowAt wr T c ∧ RowAt wr wb Q ∧ wr.heap[sb]? = some (.cells #[.slice (some ⟨gs, 0, none⟩) K cs] 55 (0, 0)) ∧ OwnSets wr base (.slice (some ⟨gs, 0, none⟩) K cs) PS) (fun _ wr => tkM Q T wr)
  case atStart => exact ⟨_, [], Lib.hid (gni_0 _ _ _), hj0, rT, rQ, sQ, oL⟩
  case round =>
    clear hj0 rT rQ sQ oL hz
    obtain ⟨c, pre, HG, hj, rT, rQ, sQ, oL⟩ := hrel
    have hg := guardSet
    have c1 := cell_of_heap sQ
    have HMs := Lib.hid (tkM_eq (Q := Q) rT)
    cases hd : eqS c Q with
    | true =>
      have heq : ∀ w', (Op.equalIn 10000 68 (.agg (setA c)) (.agg (setA Q))).run Tryz.prog w' = .ok true w' := fun w' => by rw [run_eqSet, hd]
      have HE := Lib.hid (gni_done HG.out hd)
      clear hd
      gi_wp2_with (first | (refine wpListIn_ld16 rfl _ rfl rT rfl ?_) | (refine wpListIn_ld16 rfl _ rfl rQ rfl ?_) | fail)
      go_end0
      exact ⟨⟨_, rfl⟩, .inl ⟨pre, HE.out, hj⟩⟩
    | false =>
      have heq : ∀ w', (Op.equalIn 10000 68 (.agg (setA c)) (.agg (setA Q))).run Tryz.prog w' = .ok false w' := fun w' => by rw [run_eqSet, hd]
      obtain ⟨hp1, hp2, hp3⟩ := gni_step HC.out HG.out hd
      have HLs := Lib.hid (gn_pick HC.out HG.out.sub hd).2.2
      have hmb := mostBeyond_any base gs cs K PS c HKl.out hl h1 wr (by have := oL.base_le; omega) oL
      change Calls Tryz.prog _ _ _ (fun e w' => e = .returned (.int .i64 (gnW (pAt PS) K c : Nat)) ∧ _) at hmb
      obtain ⟨D, hD⟩ : ∃ D, D = gnW (pAt PS) K c := ⟨_, rfl⟩
      rw [← hD] at hmb hp1 hp3
      have HMB := Lib.hid hmb
      have HP3 := Lib.hid hp3
      have HGC : Hid (gnC (pAt PS) K c = fun u => c u || pAt PS D u) := Lib.hid (by rw [hD]; rfl)
      have hpl := lf_bd Q fun _ => false
      clear hmb hp3 hD hd
      gi_wp2_with (first | (refine wpListIn_ld16 rfl _ rfl rT rfl ?_) | (refine wpListIn_ld16 rfl _ rfl rQ rfl ?_) | fail)
      refine ⟨trivial, ?_⟩
      refine (callsIn_wide.2 HMB.out).mono ?_
      rintro e w4 ⟨rfl, hb4⟩
      have s4 := hb4.size
      have lT := rT.lt
      have rT4 := rT.below hb4 lT
      have rQ4 := rQ.below hb4 rQ.lt
      have sQ4 := (hb4.block sb (Array.getElem?_eq_some_iff.1 sQ).1).trans sQ
      have oL4 : OwnSets w4 base (.slice (some ⟨gs, 0, none⟩) K cs) PS := oL.below hb4
      have hj4 := hJ _ _ _ none hj (grown_below' hb4) (fun r e => by cases e)
      obtain ⟨fn, tmps, assign, body, hy, hR⟩ := hY pre (D : Int) w4 hj4 (by omega) (by have := rT4.lt; have := HT.out; omega)
      simp only [encI] at hy
      clear hj rT rQ sQ oL hj4 hb4 c1 heq
      gi_wp2
      refine hR.mono ?_
      rintro e W' (⟨rfl, hj', ⟨kb, ks, kg⟩, hsp, hsz⟩ | ⟨rfl, hjx⟩)
      · have rT5 : RowAt W' T c := (hsp T (by rw [HT.out]; exact Nat.le_refl _) (by rw [HT.out]; omega) rT4.lt).trans rT4
        have rQ5 : RowAt W' wb Q := kb _ _ rQ4
        have sQ5 := ks _ _ sQ4
        have oL5 := sets_keeps oL4 kg
        have hcell : ∀ k, k < 16 → W'.cell? ⟨gs, D * 16 + k, none⟩ = some (.int .u64 (partN (pAt PS D) k)) := fun k hk => oL5.cells D (by rw [← HKl.out]; exact hp1) k hk
        have c5 := cell_of_heap sQ5
        have HJ := Lib.hid hj'
        have lT5 := rT5.lt
        have lg5 := oL5.base_le.2
        have ls5 := (Array.getElem?_eq_some_iff.1 sQ5).1
        have DI : (D : Int) < (K : Int) := by omega
        have D0 : (0 : Int) ≤ (D : Int) := by omega
        clear hy hR hsp kb ks kg hj' rT4 rQ4 sQ4 oL4
        gi_wp2
        refine wpIn_wide.2 ?_
        refine wp_region_held_drew (S := fun w' => (∀ k, k < 16 → w'.cell? ⟨gs, D * 16 + k, none⟩ = some (.int .u64 (partN (pAt PS D) k))) ∧ w'.cell? ⟨sb, 0, none⟩ = some (.slice (some ⟨gs, 0, none⟩) K cs)) (by kernel_rfl) ⟨hcell, c5⟩ (fun hHeld => ?_)
        refine wpAnyH_take (i := 1) (v := ?_) rfl (by kernel_rfl) (by kernel_rfl) (by kernel_rfl) (fun _ _ _ h => h) (Or.inl ⟨by rfl, ?_⟩) (by assumption) ?_
        rotate_left
        · (intro w hSw; obtain ⟨hSw0, hSw1⟩ := hSw; (try dsimp only at hSw0 hSw1); go_simp; try (with_reducible rfl))
        (try simp only [Act.put, List.setIfInBounds_toArray, List.set_cons_zero, List.set_cons_succ])
        refine wpAnyH_take (i := 2) (v := ?_) rfl (by kernel_rfl) (by kernel_rfl) (by kernel_rfl) (fun _ _ _ h => h) (Or.inl ⟨by rfl, ?_⟩) (by assumption) ?_
        rotate_left
        · (intro w hSw; obtain ⟨hSw0, hSw1⟩ := hSw; (try dsimp only at hSw0 hSw1); go_simp; try (with_reducible rfl))
        (try simp only [Act.put, List.setIfInBounds_toArray, List.set_cons_zero, List.set_cons_succ])
        refine wpAnyH_take (i := 3) (v := ?_) rfl (by kernel_rfl) (by kernel_rfl) (by kernel_rfl) (fun _ _ _ h => h) (Or.inl ⟨by rfl, ?_⟩) (by assumption) ?_
        rotate_left
        · (intro w hSw; obtain ⟨hSw0, hSw1⟩ := hSw; (try dsimp only at hSw0 hSw1); go_simp; try (with_reducible rfl))
        (try simp only [Act.put, List.setIfInBounds_toArray, List.set_cons_zero, List.set_cons_succ])
        refine wpAnyH_take (i := 4) (v := .agg (setA (pAt PS D))) rfl (by kernel_rfl) (by kernel_rfl) (by kernel_rfl) (fun _ _ _ h => h) (Or.inl ⟨by rfl, ?_⟩) (by assumption) ?_
        · intro w hSw
          exact exec_ldAt hSw.1 _ (.tmp 20) (by kernel_rfl) (by kernel_rfl)
        (try simp only [Act.put, List.setIfInBounds_toArray, List.set_cons_zero, List.set_cons_succ])
        refine wpAnyH_ready (rs := [0]) (by kernel_rfl) (by simp) ?_
        refine AllReadyH.cons rfl (fun K' hK => ?_) AllReadyH.nil
        refine wp_ld16 (.tmp 4) rfl rT5 (by kernel_rfl) ?_
        refine hK.out _ _ ⟨hcell, c5⟩ (fun hHeld => ?_)
        clear hK K'
        (try simp only [Act.put, List.setIfInBounds_toArray, List.set_cons_zero, List.set_cons_succ])
        refine wpAnyH_ready (rs := [5]) (by kernel_rfl) (by simp) ?_
        refine AllReadyH.cons rfl (fun K' hK => ?_) AllReadyH.nil
        go_simp
        (go_at_call 49; refine (with_any c (pAt PS D) _).mono ?_)
        rintro e w6 ⟨rfl, hb6'⟩
        have hb6 : Below W'.heap.size W' w6 := (Below.refl _ W').drew.trans hb6'
        have s6 := hb6.size
        have rT6 := rT5.below hb6 lT5
        have rQ6 := rQ5.below hb6 rQ5.lt
        have sQ6 := (hb6.block sb ls5).trans sQ5
        have oL6 : OwnSets w6 base (.slice (some ⟨gs, 0, none⟩) K cs) PS := oL5.below hb6
        have hj6 := hJ _ _ _ none HJ.out (grown_below' hb6) (fun r e => by cases e)
        rw [← HGC.out]
        refine hK.out _ _ ⟨fun k hk => kept_cell hb6 (hcell k hk) lg5, kept_cell hb6 c5 ls5⟩ (fun hHeld => ?_)
        clear hK K'
        (try simp only [Act.put, List.setIfInBounds_toArray, List.set_cons_zero, List.set_cons_succ])
        refine wpAnyH_ready (rs := [6]) (by kernel_rfl) (by simp) ?_
        refine AllReadyH.cons rfl (fun K' hK => ?_) AllReadyH.nil
        obtain ⟨c2, hc2⟩ : ∃ c2, c2 = gnC (pAt PS) K c := ⟨_, rfl⟩
        rw [← hc2]
        have hp4 := HP3.out
        rw [← hc2] at hp4
        have HP4 := Lib.hid hp4
        have hl4 := HLs.out
        rw [← hc2] at hl4
        have HL4 := Lib.hid hl4
        clear hc2 hp4 hl4
        refine wp_st16 (.tmp 4) (.tmp 22) rfl rT6 c2 (by kernel_rfl) (by rfl) ?_
        have g7 := grown_setRow (w := w6) (b := T) (setA c2)
        have rT7 := row_set (q := c2) rT6
        have rQ7 := rQ6.kept g7 (by omega)
        have sQ7 := (g7.block sb (by omega) (fun e => by have e' : sb = T := Option.some.inj e; omega)).trans sQ6
        have oL7 : OwnSets (w6.setRow T (setA c2)) base (.slice (some ⟨gs, 0, none⟩) K cs) PS := World.ownsRow.kept oL6 g7 (.inr (show some gs ≠ some T from fun e => by have := Option.some.inj e; omega))
        have hj7 := hJ _ _ _ _ hj6 g7 (fun r e => by cases e; exact ⟨by rw [HT.out]; exact Nat.le_refl _, .inl (by rw [HT.out]; omega)⟩)
        have hm7 := tkM_eq (Q := Q) rT7
        have hcell7 : ∀ k, k < 16 → (w6.setRow T (setA c2)).cell? ⟨gs, D * 16 + k, none⟩ = some (.int .u64 (partN (pAt PS D) k)) := fun k hk => oL7.cells D (by rw [← HKl.out]; exact hp1) k hk
        have c7 := cell_of_heap sQ7
        obtain ⟨w7, hw7⟩ : ∃ w7, w7 = w6.setRow T (setA c2) := ⟨_, rfl⟩
        rw [← hw7] at rT7 rQ7 sQ7 oL7 hj7 hm7 hcell7 c7 ⊢
        have HM7 := Lib.hid hm7
        refine hK.out _ _ ⟨hcell7, c7⟩ (fun hHeld => ?_)
        clear hK K' hw7 hm7
        (try simp only [Act.put, List.setIfInBounds_toArray, List.set_cons_zero, List.set_cons_succ])
        refine wpAnyH_done (by kernel_rfl) ?_ _
        gi_wp2
        go_roundw
        case rel => exact ⟨c2, _, HP4, hj7, rT7, rQ7, sQ7, oL7⟩
        case measure => rw [HM7.out, HMs.out]; exact HL4.out
      · clear hy hR
        gi_wp2
        refine bodyPost_ret (results_none (by rfl) _ _) rfl ?_
        exact ⟨⟨_, rfl⟩, .inr ⟨_, gni_len HP3.out, hjx⟩⟩

end

end Go.Proofs.YtpmfedllbiblbaaGreat

namespace Go.Proofs.YtpmfedllbiblbaaGreat
open Go.RowKit Go.Shelf Cv
set_option linter.unusedVariables false
set_option linter.unusedSimpArgs false
set_option maxRecDepth 100000

section
attribute [local go_sem] Oper.semAt_some

end

end Go.Proofs.YtpmfedllbiblbaaGreat
