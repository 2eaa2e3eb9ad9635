/-
  Merged texts: Giv, Set, Balls, Covd, Sets, CntB, GrM, SetEq. Never import this beside one of them. By an AI agent.
-/
import Derived.Test.YtfpcdffahjoejaaMarks
import Derived.Test.YtfpcdffahjoejaaBits
import Derived.Test.YtfpcdffahjoejaaMath
import Derived.Test.YtfpcdffahjoejaaAppend
import Derived.Test.YtfpcdffahjoejaaSpace
import Derived.Test.YtfpcdffahjoejaaFam
import Derived.Deep.RegionHeld3
import Derived.StillTailTactics
import Derived.Deep.WholeRow
import Derived.Deep.Cut
import Derived.Test.YtfpcdffahjoejaaSums2
import Derived.Great.BuildSlice
import Derived.Test.YtfpcdffahjoejaaOnesA
import Derived.Laws.StructEq
import Derived.BigQuiet
namespace Go.Proofs.Ytfpcdffahjoejaa
open Go.RowKit Go.Shelf Cv
set_option linter.unusedVariables false
set_option linter.unusedSimpArgs false

/-- an iterator that yields the values of S, to rounds that all go on, whatever the caller keeps that bears what is no cells turned beyond its own start -/
def Gives0 {α : Type} (F : Fence) (n : Nat) (P : Program) (g : Nat) (lb : Array Value) (encs : α → Array Value) (Kp : World → World → Prop) (S : List α → Prop) (N : Nat) (w : World) : Prop :=
  ∀ (l : Nat) (J : List α → World → Prop) (W : World), Below w.heap.size w W → OwnFrom W.heap.size J →
    (∀ pre x W1, J pre W1 → pre.length < N → YieldAt F (n - 1) P l (encs x) W1 fun e W' => e = .returned (.bool true) ∧ J (pre ++ [x]) W' ∧ Kp W1 W' ∧ KeepsFrom W.heap.size W1 W') →
    J [] W → CallsIn F n P g (#[.func (.yield l) #[] #[]] ++ lb) W fun e W' => (∃ v, e = .returned v) ∧ ∃ xs, S xs ∧ J xs W'

theorem keepsFrom_below {B : Nat} {W W' : World} (h : Below W.heap.size W W') : KeepsFrom B W W' := ⟨h.size, fun k o _ hk _ => (h.block k (Array.getElem?_eq_some_iff.1 hk).1).trans hk⟩
theorem keepsFrom_mono {B B' : Nat} {W W' : World} (h : KeepsFrom B W W') (hB : B ≤ B') : KeepsFrom B' W W' := ⟨h.size, fun k o hk hh ho => h.same k o (Nat.le_trans hB hk) hh ho⟩
theorem keepsFrom_put {B l : Nat} (W : World) (o' : Obj) (hl : l < B) : KeepsFrom B W (W.putObj l o') := ⟨by simp, fun k o hk hh _ => (World.putObj_heap_other (by omega)).trans hh⟩

theorem range_gives {F : Fence} {n : Nat} {P : Program} {α : Type} {g : Operand} {ps : Array Tmp} {assign body : Code} {Q : Exit → Act → World → Prop} {a : Act} {w : World}
    (hro : F.round = none) (h1 : 1 ≤ n) {gf : Nat} {lb : Array Value} (hg : a.eval g = .func (.func gf) #[] lb) (hFg : F.fn gf) (eg : ∀ args w, (callFunc gf args).run P w = .ok (.enter gf args) w)
    {encs : α → Array Value} {Kp : World → World → Prop} {S : List α → Prop} {N : Nat} {w0 : World} (hseq : Gives0 F (n - 1) P gf lb encs Kp S N w0)
    (hKt : ∀ {A B C : World}, Kp A B → Kp B C → Kp A C) (hKg : ∀ (A B : World) (row : Option Nat), A.grownBy B row → (∀ r, row = some r → w.heap.size ≤ r ∧ ∃ o : Obj, A.heap[r]? = some o ∧ o.isCells = false) → w.heap.size ≤ A.heap.size → Kp A B) (hb0 : Below w0.heap.size w0 w) (hps : ∀ x, (encs x).size = ps.size)
    (I : List α → World → Prop) (Ia : List α × α × Act → World → Prop) (hI : OwnFrom w.heap.size I) (hIa : OwnFrom w.heap.size Ia) (h0 : I [] w)
    (hassign : ∀ (l : Nat) (pre : List α) (x : α) (W : World) (K : Act → World → Prop), I pre W → (∀ a' W', Ia (pre, x, a') W' → Below W.heap.size W W' → K a' W') →
      assign.wpIn (F.inRound l) (n - 1 - 1) P (Exit.then K (fun _ _ _ => False)) { tmps := (ps.zip (encs x)).foldl (fun t (p, v) => t.setIfInBounds p v) a.tmps, defers := [] } W)
    (hbody : ∀ (l : Nat) (pre : List α) (x : α) (a' : Act) (W : World), Ia (pre, x, a') W → pre.length < N → body.wpIn (F.inRound l) (n - 1 - 1) P (ownPostG w.heap.size Kp I (fun _ _ _ => False) (pre ++ [x]) W) a' W)
    (hdone : ∀ (D : Nat) (xs : List α) (W : World), w.heap.size ≤ D → S xs → I xs W → W.heap[D]? = some (.deferred (some [])) → Q .normal { a with defers := { target := .collected D, args := #[] } :: a.defers } W) :
    (Code.rangeFunc g ps assign body).wpIn F n P Q a w := by
  refine wpIn_rangeFunc fun fn hfn => ?_
  rw [hro]
  -- the loop's record, and the block of its rounds' deferred calls
  obtain ⟨rec, hrec⟩ : ∃ rec : LoopState → Option Code → Loop, rec = fun st pe => { state := st, pending := pe, fn, tmps := a.tmps, params := ps, assign, body, defers := w.heap.size } := ⟨_, rfl⟩
  obtain ⟨V, hV⟩ : ∃ V, (w.alloc (.deferred (some []))).alloc (.loop (rec .ready none)) = V := ⟨_, rfl⟩
  have hVs : V.heap.size = w.heap.size + 2 := by rw [← hV]; simp
  have hVb : Below w.heap.size w V := by rw [← hV]; exact ((Below.refl _ w).alloc (Nat.le_refl _) _).alloc (by simp) _
  have hVl : V.heap[w.heap.size + 1]? = some (.loop (rec .ready none)) := by
    have h := World.alloc_heap_new (w.alloc (.deferred (some []))) (.loop (rec .ready none))
    rw [World.size_alloc] at h; rw [← hV]; exact h
  have hVd : V.heap[w.heap.size]? = some (.deferred (some [])) := by
    rw [← hV]; exact (Below.heap_alloc _ _ _ (by simp)).trans (World.alloc_heap_new w _)
  have hVI : I [] V := hI _ w V none h0 ⟨hVb.os, hVb.tape, hVb.output, hVb.size, fun k hk _ => hVb.block k hk⟩ (fun r e => by cases e)
  refine ⟨w.heap.size + 1, [{ target := .collected w.heap.size, args := #[] }], V, { target := .fn (.func gf) lb, args := #[.func (.yield (w.heap.size + 1)) #[] #[]] }, V, gf, #[.func (.yield (w.heap.size + 1)) #[] #[]] ++ lb, V, ?_, ?_, ?_, ?_, fun _ => h1, ?_⟩
  · rw [← hV, hrec]; exact run_enterLoop_outer _ _ _ _ _
  · simp only [resolve, hg]; simp [go_sem]
  · intro f hf; simp [Target.leads] at hf; subst hf; exact hFg
  · simp [invoke, go_sem, eg]
  refine (hseq (w.heap.size + 1) (fun pre W => I pre W ∧ W.heap[w.heap.size + 1]? = some (.loop (rec .ready none)) ∧ W.heap[w.heap.size]? = some (.deferred (some []))) V (hb0.trans (hVb.mono hb0.size))
    (fun s A B row hs hg' hr => ⟨hI s A B row hs.1 hg' (fun r e => ⟨by have := (hr r e).1; omega, (hr r e).2⟩),
      (hg'.block _ (Array.getElem?_eq_some_iff.1 hs.2.1).1 (fun e => by have := (hr _ e.symm).1; omega)).trans hs.2.1, (hg'.block _ (Array.getElem?_eq_some_iff.1 hs.2.2).1 (fun e => by have := (hr _ e.symm).1; omega)).trans hs.2.2⟩)
    ?_ ⟨hVI, hVl, hVd⟩).mono ?_
  · -- a round
    rintro pre x W ⟨hi, hl, hd⟩ hlen
    have hlt := (Array.getElem?_eq_some_iff.1 hl).1
    have hy := run_yield (P := P) (args := encs x) hl (by rw [hrec]; exact hps x)
    rw [hrec] at hy
    refine ⟨fn, _, assign, body, hy, roundIn_of_wpIn hfn (hassign _ pre x W _ hi fun a' W' ha hB' => ?_)⟩
    have hl' : W'.heap[w.heap.size + 1]? = some (.loop (rec .ready none)) := (hB'.block _ hlt).trans hl
    have hd' : W'.heap[w.heap.size]? = some (.deferred (some [])) := (hB'.block _ (by omega)).trans hd
    have hlt' := (Array.getElem?_eq_some_iff.1 hl').1
    refine ⟨_, run_beginRound hl' (by rw [hrec]), ?_⟩
    have hl2 : (W'.putObj (w.heap.size + 1) (.loop { rec .ready none with state := .busy })).heap[w.heap.size + 1]? = some (.loop { rec .ready none with state := .busy }) := World.putObj_heap_same hlt'
    have hd2 : (W'.putObj (w.heap.size + 1) (.loop { rec .ready none with state := .busy })).heap[w.heap.size]? = some (.deferred (some [])) := (World.putObj_heap_other (by omega)).trans hd'
    have hw0 := hb0.size
    have g1 : W.grownBy W' none := ⟨hB'.os, hB'.tape, hB'.output, hB'.size, fun k hk _ => hB'.block k hk⟩
    have b2 : Kp W (W'.putObj (w.heap.size + 1) (.loop { rec .ready none with state := .busy })) := hKt (hKg _ _ none g1 (fun r e => by cases e) (by omega)) (hKg _ _ (some (w.heap.size + 1)) (grownBy_putObj' _ _ _) (fun r e => by cases e; exact ⟨by omega, _, hl', rfl⟩) (by have := hB'.size; omega))
    have k2 : KeepsFrom V.heap.size W (W'.putObj (w.heap.size + 1) (.loop { rec .ready none with state := .busy })) := (keepsFrom_below hB').trans (keepsFrom_put _ _ (by omega))
    refine wpIn_mono (hbody _ pre x a' _ (hIa _ _ _ (some (w.heap.size + 1)) ha (grownBy_putObj' _ _ _) (fun r e => by cases e; exact ⟨by omega, _, hl', rfl⟩)) hlen) ?_
    rintro e a3 W3 hp
    cases e with
    | normal =>
      obtain ⟨hk3, hb3, hi3⟩ := hp
      have hl3 := hk3.same _ _ (by omega) hl2 rfl
      have hd3 := hk3.same _ _ (Nat.le_refl _) hd2 rfl
      have he := run_endRound (P := P) none hl3
      rw [hrec] at he
      refine ⟨_, _, he, rfl, ⟨hI _ _ _ (some (w.heap.size + 1)) hi3 (grownBy_putObj' _ _ _) (fun r e => by cases e; exact ⟨by omega, _, hl3, rfl⟩), ?_, (World.putObj_heap_other (by omega)).trans hd3⟩, ?_, ?_⟩
      · rw [World.putObj_heap_same (Array.getElem?_eq_some_iff.1 hl3).1, hrec]; rfl
      · exact hKt (hKt b2 hb3) (hKg _ _ (some (w.heap.size + 1)) (grownBy_putObj' _ _ _) (fun r e => by cases e; exact ⟨by omega, _, hl3, rfl⟩) (by have := (Array.getElem?_eq_some_iff.1 hl3).1; omega))
      · exact (k2.trans (keepsFrom_mono hk3 (by omega))).trans (keepsFrom_put _ _ (by omega))
    | ret => exact hp.2.elim
    | exit id => exact hp.2.elim
    | goto t => exact hp.2.elim
    | panic ch => exact hp.elim
    | outgrown => exact hp.elim
  · -- behind the iterator
    rintro e W2 ⟨⟨v, rfl⟩, xs, hS, hi, hl, hd⟩
    have he := run_endLoop (P := P) hl (by rw [hrec]; simp)
    rw [hrec] at he
    exact ⟨none, _, he, hdone _ xs _ (Nat.le_refl _) hS (hI _ _ _ (some (w.heap.size + 1)) hi (grownBy_putObj' _ _ _) (fun r e => by cases e; exact ⟨by omega, _, hl, rfl⟩)) ((World.putObj_heap_other (by omega)).trans hd)⟩

/-- a function leaves with marks among its deferred calls: whatever bears what is no cells turned beyond B stands -/
theorem leaves_marksJ {F : Fence} {n : Nat} {P : Program} {fn : Func} {tmps : Array Value} {R : Ending → World → Prop} {B : Nat} {J : World → Prop}
    (hJ : ∀ (W : World) (r : Nat) (o o' : Obj), J W → B ≤ r → W.heap[r]? = some o → o.isCells = false → J (W.putObj r o')) (hf : ∀ W', J W' → ∃ v, (results fn tmps).run P W' = .ok v W' ∧ R (.returned v) W') :
    ∀ (ds : List Deferred) (W : World), Marks B ds W → J W → LeavesInM F n P fn tmps R ds .returning W
  | [], W, _, h => hf W h
  | d :: ds, W, ⟨⟨r, h1, h2, h3, h4⟩, h5⟩, h => by
    refine ⟨by simp, .inl ⟨r, _, h1, run_takeDeferred h3, leaves_marksJ hJ hf ds _ (h5.keep fun r' hr hh ⟨d', hd', ht'⟩ => ?_) (hJ _ _ _ _ h h2 h3 rfl)⟩⟩
    rw [World.putObj_heap_other (fun e => h4 d' hd' (by rw [ht', e]))]
    exact hh

end Go.Proofs.Ytfpcdffahjoejaa

namespace Go.Proofs.Ytfpcdffahjoejaa
open Go.RowKit Cv
set_option linter.unusedVariables false
set_option linter.unusedSimpArgs false
set_option maxRecDepth 100000

/-- the set p as a value -/
def setA (p : Nat → Bool) : Array Value := ((partsL p).map (Value.int .u64)).toArray
theorem setA_size (p : Nat → Bool) : (setA p).size = 16 := by simp [setA, partsL]
theorem setA_get (p : Nat → Bool) (k : Nat) (h : k < 16) : (setA p)[k]? = some (.int .u64 (partN p k)) := by simp [setA, partsL, h]
theorem setA_ext {p q : Nat → Bool} (h : ∀ u, u < 1024 → p u = q u) : setA p = setA q := by unfold setA; rw [partsL_ext h]
theorem partN_none (k : Nat) : partN (fun _ => false) k = 0 := by
  have h : ∀ n, ofB (fun _ => false) k n = 0 := by intro n; induction n with
    | zero => rfl
    | succ n ih => rw [ofB, ih]; simp
  exact h 64
theorem setA_none : setA (fun _ => false) = #[.int .u64 0, .int .u64 0, .int .u64 0, .int .u64 0, .int .u64 0, .int .u64 0, .int .u64 0, .int .u64 0, .int .u64 0, .int .u64 0, .int .u64 0, .int .u64 0, .int .u64 0, .int .u64 0, .int .u64 0, .int .u64 0] := by
  unfold setA partsL
  simp only [partN_none]
  rfl
theorem setA_one (p : Nat → Bool) : (setA p).all (·.oneCell') = true := by
  unfold setA partsL
  simp [Value.oneCell']
theorem grown_setRow {w : World} {b : Nat} (q : Array Value) : w.grownBy (w.setRow b q) (some b) :=
  ⟨rfl, rfl, rfl, by simp, fun i hi hne => setRow_other w b i q (by simpa using hne)⟩
theorem part_has (p : Nat → Bool) (u : Nat) (hu : u < 1024) : (bits BinOp.and IntKind.u64 ((partN p (u / 64) : Int) / 2 ^ (u % 64)) 1 == 1) = p u := by
  have hb := partN_lt p (u / 64)
  have e0 : ((partN p (u / 64) : Int) / 2 ^ (u % 64)) = ((partN p (u / 64) / 2 ^ (u % 64) : Nat) : Int) := by push_cast; rfl
  have hlt : partN p (u / 64) / 2 ^ (u % 64) < 18446744073709551616 := Nat.lt_of_le_of_lt (Nat.div_le_self _ _) hb
  have e1 : partN p (u / 64) / 2 ^ (u % 64) % 2 = (if p u = true then 1 else 0) := by
    have h := partN_bit p (u / 64) (u % 64) (by omega)
    rw [show 64 * (u / 64) + u % 64 = u by omega, Nat.testBit_eq_decide_div_mod_eq] at h
    by_cases hp : p u = true
    · rw [if_pos hp]; rw [hp] at h; simpa using h
    · rw [if_neg hp]; simp only [Bool.not_eq_true] at hp; rw [hp] at h
      have := Nat.mod_lt (partN p (u / 64) / 2 ^ (u % 64)) (show 0 < 2 by decide)
      simp at h; omega
  unfold bits
  have e2 : ((BitVec.ofInt IntKind.u64.bits ((partN p (u / 64) : Int) / 2 ^ (u % 64))) &&& (BitVec.ofInt IntKind.u64.bits 1)).toNat = partN p (u / 64) / 2 ^ (u % 64) % 2 := by
    rw [e0, BitVec.toNat_and]
    show (BitVec.ofInt 64 ((partN p (u / 64) / 2 ^ (u % 64) : Nat) : Int)).toNat &&& (BitVec.ofInt 64 1).toNat = _
    rw [bv_nat _ hlt, show (BitVec.ofInt 64 1).toNat = 1 from rfl, Nat.and_one_is_mod]
  show (IntKind.u64.wrap (((BitVec.ofInt IntKind.u64.bits ((partN p (u / 64) : Int) / 2 ^ (u % 64))) &&& (BitVec.ofInt IntKind.u64.bits 1)).toNat : Int) == 1) = p u
  rw [e2, e1]
  by_cases hp : p u = true
  · rw [if_pos hp, hp]; rfl
  · rw [if_neg hp]; simp only [Bool.not_eq_true] at hp; rw [hp]; rfl
theorem part_put1 (p : Nat → Bool) (u : Nat) : bits BinOp.or IntKind.u64 ((partN p (u / 64) : Int)) (IntKind.u64.wrap (2 ^ (u % 64))) = (partN (putB p u) (u / 64) : Int) := by
  have h1 := part_one u
  rw [Int.one_mul] at h1
  rw [h1]
  exact part_or p (fun v => decide (v = u)) (u / 64)
theorem setA_put (p : Nat → Bool) (u : Nat) (hu : u < 1024) : (setA p).setIfInBounds (u / 64) (.int .u64 (partN (putB p u) (u / 64))) = setA (putB p u) := by
  apply Array.ext_getElem?
  intro k
  rw [Array.getElem?_setIfInBounds]
  by_cases hk : k < 16
  · rw [setA_get _ k hk, setA_get _ k hk]
    by_cases e : u / 64 = k
    · subst e; simp [setA_size, hk]
    · rw [if_neg e, part_put_other p u k (Ne.symm e)]
  · have h1 : (setA p)[k]? = none := by simp [setA_size]; omega
    have h2 : (setA (putB p u))[k]? = none := by simp [setA_size]; omega
    rw [h1, h2]; simp [setA_size]; omega
/-- the words among the first k of a list, as a set -/
def setTo (T : List Int) : Nat → Nat → Bool
  | 0 => fun _ => false
  | k + 1 => putB (setTo T k) (gi T k).toNat
theorem setTo_in (T : List Int) (hT : ∀ i, i < T.length → 0 ≤ gi T i) (k : Nat) (hk : k ≤ T.length) (u : Nat) : setTo T k u = decide (∃ i, i < k ∧ gi T i = (u : Int)) := by
  induction k with
  | zero => simp [setTo]
  | succ k ih =>
    rw [setTo, putB, ih (by omega), Bool.eq_iff_iff]
    simp only [Bool.or_eq_true, decide_eq_true_eq]
    have h0 := hT k (by omega)
    constructor
    · rintro (⟨i, hi, e⟩ | h)
      · exact ⟨i, by omega, e⟩
      · exact ⟨k, by omega, by omega⟩
    · rintro ⟨i, hi, e⟩
      by_cases e2 : i = k
      · subst e2; exact .inr (by omega)
      · exact .inl ⟨i, by omega, e⟩
theorem setTo_all (T : List Int) (hT : ∀ i, i < T.length → 0 ≤ gi T i) (u : Nat) : setTo T T.length u = inL T u := by
  rw [setTo_in T hT _ (Nat.le_refl _), inL, Bool.eq_iff_iff]
  simp only [decide_eq_true_eq]
  constructor
  · rintro ⟨i, hi, e⟩; exact e ▸ gi_mem hi
  · intro h; obtain ⟨i, hi, e⟩ := mem_gi h; exact ⟨i, hi, e⟩

/-- a set with the first k parts of another one -/
def mixP (p q : Nat → Bool) (k : Nat) : Nat → Bool := fun u => if u / 64 < k then p u || q u else p u
theorem mixP_at (p q : Nat → Bool) (k : Nat) : partN (mixP p q k) k = partN p k := partN_ext _ _ _ fun b hb => by
  unfold mixP; rw [if_neg (by omega)]
theorem mixP_set (p q : Nat → Bool) (k : Nat) (hk : k < 16) : (setA (mixP p q k)).setIfInBounds k (.int .u64 (partN (fun u => p u || q u) k)) = setA (mixP p q (k + 1)) := by
  apply Array.ext_getElem?
  intro j
  rw [Array.getElem?_setIfInBounds]
  by_cases hj : j < 16
  · rw [setA_get _ j hj, setA_get _ j hj]
    by_cases e : k = j
    · subst e
      rw [if_pos rfl, if_pos (by rw [setA_size]; exact hk)]
      congr 2
      have : partN (mixP p q (k + 1)) k = partN (fun u => p u || q u) k := partN_ext _ _ _ fun b hb => by unfold mixP; rw [if_pos (by omega)]
      rw [this]
    · rw [if_neg e]
      congr 2
      have : partN (mixP p q (k + 1)) j = partN (mixP p q k) j := partN_ext _ _ _ fun b hb => by
        unfold mixP
        by_cases h : (64 * j + b) / 64 < k
        · rw [if_pos h, if_pos (by omega)]
        · rw [if_neg h, if_neg (by omega)]
      rw [this]
  · have h1 : (setA (mixP p q k))[j]? = none := by simp [setA_size]; omega
    have h2 : (setA (mixP p q (k + 1)))[j]? = none := by simp [setA_size]; omega
    rw [h1, h2]; simp [setA_size]; omega
theorem mixP_zero (p q : Nat → Bool) : mixP p q 0 = p := by funext u; simp [mixP]
theorem mixP_all (p q : Nat → Bool) : setA (mixP p q 16) = setA (fun u => p u || q u) := setA_ext fun u hu => by unfold mixP; rw [if_pos (by omega)]

end Go.Proofs.Ytfpcdffahjoejaa

namespace Go.Proofs.Ytfpcdffahjoejaa
open Go.RowKit Go.Shelf Cv
set_option linter.unusedVariables false
set_option linter.unusedSimpArgs false
set_option maxRecDepth 100000

attribute [local go_sem] Oper.semAt_some

/-- the words of a ball, as a set -/
def ballN (S : List Int) (r c : Int) : Nat → Bool := inL (ballW S c r)
def encP (p : Nat → Bool) : Array Value := #[.agg (setA p)]
theorem setTo_app (L M : List Int) (k : Nat) (h : k ≤ L.length) : setTo (L ++ M) k = setTo L k := by
  induction k with
  | zero => rfl
  | succ k ih => rw [setTo, setTo, ih (by omega), gi_append_lt _ _ _ (by omega)]
theorem results_none {fn : Func} (h : fn.results = #[]) (tmps : Array Value) (w : World) : (results fn tmps).run Try.prog w = .ok (.tuple #[]) w := by simp [results, h, go_sem]
/-- what a round of a loop over the balls keeps -/
def KpC (n₀ wb sb rb : Nat) (W W' : World) : Prop := Below n₀ W W' ∧ KeepsAt wb W W' ∧ KeepsAt sb W W' ∧ KeepsAt rb W W'
theorem kpC_t {n₀ wb sb rb : Nat} {A B C : World} (h : KpC n₀ wb sb rb A B) (k : KpC n₀ wb sb rb B C) : KpC n₀ wb sb rb A C := ⟨h.1.trans k.1, h.2.1.trans k.2.1, h.2.2.1.trans k.2.2.1, h.2.2.2.trans k.2.2.2⟩
theorem keepsAt_nc {g : Nat} {A B : World} {row : Option Nat} (hg : A.grownBy B row) (hr : ∀ r, row = some r → ∃ o : Obj, A.heap[r]? = some o ∧ o.isCells = false) : KeepsAt g A B := fun cur t hi =>
  (hg.block g (Array.getElem?_eq_some_iff.1 hi).1 (fun e => by obtain ⟨o, ho, hc⟩ := hr g e.symm; rw [hi] at ho; injection ho with ho; subst ho; cases hc)).trans hi
theorem kpC_g {n₀ wb sb rb N : Nat} (hN : n₀ ≤ N) (A B : World) (row : Option Nat) (hg : A.grownBy B row) (hr : ∀ r, row = some r → N ≤ r ∧ ∃ o : Obj, A.heap[r]? = some o ∧ o.isCells = false) (hA : N ≤ A.heap.size) : KpC n₀ wb sb rb A B :=
  ⟨(Below.refl n₀ A).grown hg (by omega) (fun k e => by have := (hr k e).1; omega), keepsAt_nc hg fun r e => (hr r e).2, keepsAt_nc hg fun r e => (hr r e).2, keepsAt_nc hg fun r e => (hr r e).2⟩
theorem keepsAt_below {g : Nat} {A B : World} (h : Below A.heap.size A B) : KeepsAt g A B := fun cur t hi => (h.block g (Array.getElem?_eq_some_iff.1 hi).1).trans hi
theorem keepsAt_row {g b : Nat} {W W' : World} (hg : W.grownBy W' (some b)) (hne : g ≠ b) : KeepsAt g W W' := KeepsAt.of_grown hg (by simp; omega)

/-- what holds between two rounds of the loop over the words -/
def BInv (S C : List Int) (r : Int) (ao ac : Option Addr) (cap capc l wb sb rb : Nat) (J : List (Nat → Bool) → World → Prop) (w0 Wst : World) (a : Act) (W : World) : Prop :=
  ∃ (k : Nat) (ds : List Deferred) (u4 u5 u6 u7 u8 u12 u13 u14 u15 u16 u17 u18 u19 u20 u21 u22 u23 u24 u25 u26 u27 u28 : Value), k ≤ C.length ∧ J ((C.take k).map (ballN S r)) W ∧ Below w0.heap.size w0 W ∧ Marks Wst.heap.size ds W ∧ Wst.heap.size ≤ W.heap.size ∧ (W.heap[wb]? = some (.cells #[.slice ac C.length capc] 24 (0, 0)) ∧ W.heap[sb]? = some (.cells #[.slice ao S.length cap] 26 (0, 0)) ∧ W.heap[rb]? = some (.cells #[.int .i64 r] 2 (0, 0))) ∧
    a = { tmps := #[.func (.yield l) #[] #[], .pointer (some ⟨wb, 0, none⟩), .pointer (some ⟨sb, 0, none⟩), .pointer (some ⟨rb, 0, none⟩), u4, u5, u6, u7, u8, .slice ac C.length capc, .int .i64 (C.length : Int), .int .i64 (k : Int), u12, u13, u14, u15, u16, u17, u18, u19, u20, u21, u22, u23, u24, u25, u26, u27, u28], defers := ds }
def BMes (C : List Int) (a : Act) (W : World) : Nat := C.length - (intOf (a.tmps.getD 11 undef)).toNat

end Go.Proofs.Ytfpcdffahjoejaa

namespace Go.Proofs.Ytfpcdffahjoejaa
open Go.RowKit Go.Shelf Cv
set_option linter.unusedVariables false
set_option linter.unusedSimpArgs false
set_option maxRecDepth 100000

attribute [local go_sem] Oper.semAt_some

/-- the words of all sets of a list together -/
def unionL (ps : List (Nat → Bool)) : Nat → Bool := fun u => ps.any (fun p => p u)
theorem unionL_snoc (ps : List (Nat → Bool)) (p : Nat → Bool) : unionL (ps ++ [p]) = fun u => unionL ps u || p u := by
  funext u; simp [unionL]
/-- the words that a code covers -/
def covN (S C : List Int) (r : Int) : Nat → Bool := unionL (C.map (ballN S r))

theorem ballN_in (S : List Int) (r c : Int) (u : Nat) : ballN S r c u = decide (u < (nW S).toNat ∧ dist S u c ≤ r) := by
  unfold ballN inL ballW
  rw [Bool.eq_iff_iff, decide_eq_true_eq, decide_eq_true_eq, selTo_eq, List.mem_map]
  constructor
  · rintro ⟨i, hi, e⟩
    have hi' : i = u := by have : (i : Int) = (u : Int) := e; omega
    subst hi'
    rw [List.mem_filter, List.mem_range] at hi
    exact ⟨hi.1, by simpa [ballB] using hi.2⟩
  · rintro ⟨h1, h2⟩
    exact ⟨u, by rw [List.mem_filter, List.mem_range]; exact ⟨h1, by simpa [ballB] using h2⟩, rfl⟩
theorem covN_in (S C : List Int) (r : Int) (u : Nat) : covN S C r u = decide (u < (nW S).toNat ∧ ∃ c ∈ C, dist S u c ≤ r) := by
  unfold covN unionL
  rw [Bool.eq_iff_iff, decide_eq_true_eq, List.any_eq_true]
  constructor
  · rintro ⟨p, hp, h⟩
    obtain ⟨c, hc, rfl⟩ := List.mem_map.1 hp
    rw [ballN_in, decide_eq_true_eq] at h
    exact ⟨h.1, c, hc, h.2⟩
  · rintro ⟨h1, c, hc, h2⟩
    exact ⟨_, List.mem_map.2 ⟨c, hc, rfl⟩, by rw [ballN_in, decide_eq_true_eq]; exact ⟨h1, h2⟩⟩
/-- the set of all words -/
def allN (S : List Int) : Nat → Bool := fun u => decide (u < (nW S).toNat)
theorem covN_whole {S : List Int} (h : Sp S) : covN S [0] 8 = allN S := by
  funext u
  rw [covN_in, allN, Bool.eq_iff_iff, decide_eq_true_eq, decide_eq_true_eq]
  exact ⟨fun g => g.1, fun g => ⟨g, 0, by simp, by have := (dist_bd S u 0).2; have := h.hi; omega⟩⟩

theorem zero_code : ∀ i, i < ([0] : List Int).length → 0 ≤ gi [0] i ∧ gi [0] i ≤ 9223372036854775807 := fun i hi => by
  have e : i = 0 := by simpa using hi
  subst e
  exact ⟨Int.le_refl 0, by decide⟩
end Go.Proofs.Ytfpcdffahjoejaa

namespace Go.Proofs.Ytfpcdffahjoejaa
open Go.RowKit Go.Shelf Cv
set_option linter.unusedVariables false
set_option linter.unusedSimpArgs false
set_option maxRecDepth 100000

section
attribute [local go_sem] Oper.semAt_some

/-- the cells of a list of sets -/
def cellsP (ps : List (Nat → Bool)) : List Value := ps.flatMap fun p => (setA p).toList
theorem cellsP_len (ps : List (Nat → Bool)) : (cellsP ps).length = ps.length * 16 := by
  induction ps with
  | nil => rfl
  | cons p ps ih => rw [cellsP, List.flatMap_cons, List.length_append]; have := setA_size p; rw [← cellsP, ih]; simp [setA_size]; omega
theorem cellsP_snoc (ps : List (Nat → Bool)) (p : Nat → Bool) : cellsP (ps ++ [p]) = cellsP ps ++ (setA p).toList := by simp [cellsP]
theorem fill16 (z : Array Value) (hz : z.size = 16) (p : Nat → Bool) : Instr.fill (fun i => some (i * 16, 16)) z [(0, .agg (setA p))] = some (setA p) := by
  have h := Great.fill_whole (s := 16) (by decide) [.agg (setA p)] z (fun v hv => by rw [List.mem_singleton.1 hv]; exact setA_size p) (by simp [hz])
  simpa [Value.cells] using h

end

theorem addr_add (g o i : Nat) : (⟨g, o, none⟩ : Addr).add i = ⟨g, o + i, none⟩ := by unfold Addr.add; split <;> simp_all
def pAt (L : List (Nat → Bool)) (j : Nat) : Nat → Bool := L.getD j fun _ => false
theorem cellsP_get (L : List (Nat → Bool)) (i : Nat) (h : i < L.length * 16) : (cellsP L)[i]? = (setA (pAt L (i / 16)))[i % 16]? := by
  induction L generalizing i with
  | nil => simp at h
  | cons p L ih =>
    rw [cellsP, List.flatMap_cons, ← cellsP]
    have hp : (setA p).toList.length = 16 := by simp [setA_size]
    by_cases h16 : i < 16
    · rw [List.getElem?_append_left (by omega), Nat.div_eq_of_lt h16, Nat.mod_eq_of_lt h16]; simp [pAt]
    · rw [List.getElem?_append_right (by omega), hp, ih (i - 16) (by simp at h; omega)]
      have e1 : i / 16 = (i - 16) / 16 + 1 := by omega
      have e2 : i % 16 = (i - 16) % 16 := by omega
      rw [e1, e2]; simp [pAt]

def putCells (cur : Array Value) (o : Nat) : List Value → Array Value
  | [] => cur
  | v :: vs => putCells (cur.setIfInBounds o v) (o + 1) vs
theorem putCells_size (vs : List Value) (cur : Array Value) (o : Nat) : (putCells cur o vs).size = cur.size := by
  induction vs generalizing cur o with
  | nil => rfl
  | cons v vs ih => rw [putCells, ih]; simp
theorem putCells_get (vs : List Value) (cur : Array Value) (o : Nat) (h : o + vs.length ≤ cur.size) (k : Nat) : (putCells cur o vs)[k]? = if o ≤ k ∧ k < o + vs.length then vs[k - o]? else cur[k]? := by
  induction vs generalizing cur o with
  | nil => rw [putCells, if_neg (by simp)]
  | cons v vs ih =>
    rw [putCells, ih _ _ (by simp at h ⊢; omega)]
    simp only [List.length_cons] at h ⊢
    by_cases e : k = o
    · subst e
      rw [if_neg (by omega), if_pos (by omega), Nat.sub_self]
      simp [show k < cur.size by omega]
    · by_cases h2 : o + 1 ≤ k ∧ k < o + 1 + vs.length
      · rw [if_pos h2, if_pos (by omega), show k - o = (k - (o + 1)) + 1 by omega, List.getElem?_cons_succ]
      · rw [if_neg h2, if_neg (by omega), Array.getElem?_setIfInBounds_ne (by omega)]

theorem run_storeCells_mid (g : Nat) (t : TypeId) : ∀ (vs : List Value) (o i : Nat) (cur : Array Value) (w : World), w.heap[g]? = some (.cells cur t (0, 0)) → o + i + vs.length ≤ cur.size → (∀ v ∈ vs, v.oneCell' = true) →
    (storeCells ⟨g, o, none⟩ vs i).run Try.prog w = .ok () (w.setRow g (putCells cur (o + i) vs))
  | [], o, i, cur, w, hg, hl, _ => by
    have h := run_storeCells_from (P := Try.prog) g t [] cur.size cur w hg (by simp) (by simp)
    rw [putCells]
    simp only [storeCells] at h ⊢
    simpa [List.take_of_length_le] using h
  | v :: rest, o, i, cur, w, hg, hl, h1 => by
    simp only [List.length_cons] at hl
    have hi : o + i < cur.size := by omega
    have hcell : w.cell? ⟨g, o + i, none⟩ = some cur[o + i] := by simp [World.cell?, hg, hi]
    have hfro : w.frozen? ⟨g, o + i, none⟩ = false := by simp [World.frozen?, hg]
    have hst : (store ((⟨g, o, none⟩ : Addr).add i) v).run Try.prog w = .ok () (w.setRow g (cur.setIfInBounds (o + i) v)) := by
      rw [addr_add, run_store Try.prog w _ v _ (h1 v (by simp)), hcell]
      simp [hfro, setCell_eq_setRow w g (o + i) cur t (0, 0) v hg]
    have ih := run_storeCells_mid g t rest o (i + 1) (cur.setIfInBounds (o + i) v) (w.setRow g (cur.setIfInBounds (o + i) v)) (setRow_heap w g cur _ t _ hg) (by simp; omega) (fun x hx => h1 x (by simp [hx]))
    simp only [storeCells, Sem.run_bind, hst, Result.andThen_ok, ih, setRow_setRow, putCells]
    rfl

theorem pAt_set (L : List (Nat → Bool)) (j i : Nat) (p : Nat → Bool) (hj : j < L.length) : pAt (L.set j p) i = if i = j then p else pAt L i := by
  unfold pAt
  by_cases e : i = j
  · subst e; simp [List.getD, hj]
  · rw [if_neg e]; simp [List.getD, List.getElem?_set_ne (Ne.symm e)]

/-- the sets behind the j-th one, together -/
def behU (L : List (Nat → Bool)) (j : Nat) : Nat → Bool := unionL (L.drop (j + 1))
theorem behU_step (L : List (Nat → Bool)) (k : Nat) (h1 : 1 ≤ k) (hk : k < L.length) : (fun u => behU L k u || pAt L k u) = behU L (k - 1) := by
  funext u
  unfold behU unionL
  rw [show k - 1 + 1 = k by omega, List.drop_eq_getElem_cons hk, List.any_cons, Bool.or_comm]
  congr 1
  simp [pAt, List.getD, hk]
theorem behU_last (L : List (Nat → Bool)) (j : Nat) (h : L.length ≤ j + 1) : behU L j = fun _ => false := by
  unfold behU; rw [List.drop_eq_nil_of_le h]; rfl
end Go.Proofs.Ytfpcdffahjoejaa

namespace Go.Proofs.Ytfpcdffahjoejaa
open Go.RowKit Cv
set_option linter.unusedVariables false
set_option linter.unusedSimpArgs false
set_option maxRecDepth 100000

/-- how many numbers below n have p -/
def cntTo (p : Nat → Bool) : Nat → Nat
  | 0 => 0
  | n + 1 => cntTo p n + if p n = true then 1 else 0
theorem cntTo_le (p : Nat → Bool) (n : Nat) : cntTo p n ≤ n := by
  induction n with
  | zero => exact Nat.le_refl _
  | succ n ih => rw [cntTo]; split <;> omega
theorem bit_div (m j : Nat) : m / 2 ^ j % 2 = if m.testBit j = true then 1 else 0 := by
  rw [Nat.testBit_eq_decide_div_mod_eq]
  have : m / 2 ^ j % 2 = 0 ∨ m / 2 ^ j % 2 = 1 := by omega
  rcases this with h | h <;> simp [h]
theorem bsum_part (p : Nat → Bool) (k j : Nat) (hj : j ≤ 64) : cntTo p (64 * k) + bsum (partN p k) j = cntTo p (64 * k + j) := by
  induction j with
  | zero => rfl
  | succ j ih =>
    have h := ih (by omega)
    rw [bsum, bit_div, partN_bit p k j (by omega), ← Nat.add_assoc (64 * k) j 1, cntTo, ← h]; omega
/-- what is in p and not in q -/
def byd (p q : Nat → Bool) : Nat → Bool := fun u => p u && !q u
theorem andNot_part (p q : Nat → Bool) (k : Nat) : bits BinOp.andNot IntKind.u64 (partN p k : Int) (partN q k : Int) = (partN (byd p q) k : Int) := part_andNot p q k

/-- the greatest of the first k numbers, and where it is first -/
def mbV (f : Nat → Nat) : Nat → Nat
  | 0 => 0
  | k + 1 => if mbV f k < f k then f k else mbV f k
def mbI (f : Nat → Nat) : Nat → Nat
  | 0 => 0
  | k + 1 => if mbV f k < f k then k else mbI f k
theorem mb_step (f : Nat → Nat) (k : Nat) : mbV f (k + 1) = (if mbV f k < f k then f k else mbV f k) ∧ mbI f (k + 1) = (if mbV f k < f k then k else mbI f k) := ⟨rfl, rfl⟩
theorem mbI_lt (f : Nat → Nat) (k : Nat) (hk : 0 < k) : mbI f k < k := by
  induction k with
  | zero => omega
  | succ k ih =>
    rw [mbI]
    split
    · omega
    · cases k with
      | zero => simp [mbI]
      | succ k => have := ih (by omega); omega
theorem mbV_le (f : Nat → Nat) (b : Nat) (h : ∀ j, f j ≤ b) (k : Nat) : mbV f k ≤ b := by
  induction k with
  | zero => exact Nat.zero_le _
  | succ k ih => rw [mbV]; have := h k; split <;> omega
end Go.Proofs.Ytfpcdffahjoejaa

namespace Go.Proofs.Ytfpcdffahjoejaa
open Cv
set_option linter.unusedVariables false
set_option linter.unusedSimpArgs false

theorem cntTo_pos {p : Nat → Bool} {n u : Nat} (hu : u < n) (h : p u = true) : 0 < cntTo p n := by
  induction n with
  | zero => omega
  | succ n ih =>
    rw [cntTo]
    by_cases e : u = n
    · subst e; rw [if_pos h]; omega
    · have := ih (by omega); omega
theorem cntTo_ex {p : Nat → Bool} {n : Nat} (h : 0 < cntTo p n) : ∃ u, u < n ∧ p u = true := by
  induction n with
  | zero => simp [cntTo] at h
  | succ n ih =>
    rw [cntTo] at h
    by_cases e : p n = true
    · exact ⟨n, by omega, e⟩
    · rw [if_neg e, Nat.add_zero] at h
      obtain ⟨u, hu, hp⟩ := ih h
      exact ⟨u, by omega, hp⟩
theorem cntTo_mono {p q : Nat → Bool} (h : ∀ u, p u = true → q u = true) (n : Nat) : cntTo p n ≤ cntTo q n := by
  induction n with
  | zero => exact Nat.le_refl _
  | succ n ih =>
    rw [cntTo, cntTo]
    by_cases e : p n = true
    · rw [if_pos e, if_pos (h n e)]; omega
    · rw [if_neg e]; split <;> omega
theorem cntTo_less {p q : Nat → Bool} (h : ∀ u, p u = true → q u = true) {n u : Nat} (hu : u < n) (h1 : p u = false) (h2 : q u = true) : cntTo p n < cntTo q n := by
  induction n with
  | zero => omega
  | succ n ih =>
    rw [cntTo, cntTo]
    by_cases e : u = n
    · subst e
      have := cntTo_mono h u
      rw [if_neg (by rw [h1]; decide), if_pos h2]; omega
    · have := ih (by omega)
      by_cases e2 : p n = true
      · rw [if_pos e2, if_pos (h n e2)]; omega
      · rw [if_neg e2]; split <;> omega
theorem mbV_ge (f : Nat → Nat) (k j : Nat) (hj : j < k) : f j ≤ mbV f k := by
  induction k with
  | zero => omega
  | succ k ih =>
    rw [mbV]
    by_cases e : j = k
    · subst e; split <;> omega
    · have := ih (by omega); split <;> omega
theorem mbI_at (f : Nat → Nat) (k : Nat) (h : 0 < mbV f k) : mbI f k < k ∧ f (mbI f k) = mbV f k := by
  induction k with
  | zero => simp [mbV] at h
  | succ k ih =>
    rw [mbV] at h ⊢
    rw [mbI]
    by_cases e : mbV f k < f k
    · rw [if_pos e, if_pos e]; exact ⟨by omega, rfl⟩
    · rw [if_neg e] at h
      have := ih h
      rw [if_neg e, if_neg e]; exact ⟨by omega, this.2⟩

/-- how many words a set has beyond those covered -/
def gF (F : Nat → Nat → Bool) (c : Nat → Bool) (j : Nat) : Nat := cntTo (byd (F j) c) 1024
def grDone (c : Nat → Bool) (N : Nat) : Bool := decide (∀ u, u < N → c u = true)
/-- the word that is put to the code next, and what is covered then -/
def grW (F : Nat → Nat → Bool) (N : Nat) (c : Nat → Bool) : Nat := mbI (gF F c) N
def grC (F : Nat → Nat → Bool) (N : Nat) (c : Nat → Bool) : Nat → Bool := fun u => c u || F (grW F N c) u
/-- the greedy code's words in the order in which they come -/
def grRun (F : Nat → Nat → Bool) (N : Nat) : Nat → (Nat → Bool) → List Int → List Int
  | 0, _, L => L
  | n + 1, c, L => if grDone c N = true then L else grRun F N n (grC F N c) (L ++ [(grW F N c : Int)])
/-- how many words are not covered -/
def uc (c : Nat → Bool) (N : Nat) : Nat := cntTo (fun u => !c u) N
/-- sets around words: each has its own word, and words alone -/
structure Arnd (F : Nat → Nat → Bool) (N : Nat) : Prop where
  own : ∀ w, w < N → F w w = true
  wd : ∀ w u, F w u = true → u < N
  n1 : N ≤ 1024
theorem gr_pick {F : Nat → Nat → Bool} {N : Nat} (hF : Arnd F N) {c : Nat → Bool} (h : grDone c N = false) : grW F N c < N ∧ 0 < gF F c (grW F N c) ∧ ∀ j, j < N → gF F c j ≤ gF F c (grW F N c) := by
  have hu : ∃ u, u < N ∧ c u = false := by
    apply Classical.byContradiction
    intro g
    have : grDone c N = true := by
      unfold grDone
      rw [decide_eq_true_eq]
      intro u hu
      cases e : c u with
      | true => rfl
      | false => exact absurd ⟨u, hu, e⟩ g
    rw [this] at h; cases h
  obtain ⟨u, hu, hc⟩ := hu
  have h1 : 0 < gF F c u := cntTo_pos (u := u) (by have := hF.n1; omega) (by unfold byd; rw [hF.own u hu, hc]; rfl)
  have h2 := mbV_ge (gF F c) N u hu
  have h3 := mbI_at (gF F c) N (by omega)
  exact ⟨h3.1, by show 0 < gF F c (mbI (gF F c) N); rw [h3.2]; omega, fun j hj => by show _ ≤ gF F c (mbI (gF F c) N); rw [h3.2]; exact mbV_ge _ _ _ hj⟩
theorem gr_less {F : Nat → Nat → Bool} {N : Nat} (hF : Arnd F N) {c : Nat → Bool} (h : grDone c N = false) : uc (grC F N c) N < uc c N := by
  obtain ⟨_, h2, _⟩ := gr_pick hF h
  obtain ⟨u, _, hb⟩ := cntTo_ex h2
  simp only [byd, Bool.and_eq_true, Bool.not_eq_true'] at hb
  refine cntTo_less (u := u) (fun v hv => ?_) (hF.wd _ _ hb.1) ?_ (by simp [hb.2])
  · simp only [grC, Bool.not_or, Bool.and_eq_true] at hv; exact hv.1
  · simp [grC, hb.1]
/-- the words that are in the code already -/
structure GrI (F : Nat → Nat → Bool) (N : Nat) (c : Nat → Bool) (L : List Int) : Prop where
  wd : ∀ x, x ∈ L → 0 ≤ x ∧ x < N
  cov : ∀ x, x ∈ L → ∀ u, F x.toNat u = true → c u = true
  nd : L.Nodup
theorem gri_0 (F : Nat → Nat → Bool) (N : Nat) (c : Nat → Bool) : GrI F N c [] := ⟨by simp, by simp, by simp⟩
theorem gri_step {F : Nat → Nat → Bool} {N : Nat} (hF : Arnd F N) {c : Nat → Bool} {L : List Int} (g : GrI F N c L) (h : grDone c N = false) : ((grW F N c : Nat) : Int) ∉ L ∧ GrI F N (grC F N c) (L ++ [(grW F N c : Int)]) := by
  obtain ⟨h1, h2, _⟩ := gr_pick hF h
  have hn : ((grW F N c : Nat) : Int) ∉ L := fun hm => by
    obtain ⟨u, _, hb⟩ := cntTo_ex h2
    simp only [byd, Bool.and_eq_true, Bool.not_eq_true'] at hb
    have := g.cov _ hm u (by rw [Int.toNat_natCast]; exact hb.1)
    rw [this] at hb; cases hb.2
  refine ⟨hn, fun x hx => ?_, fun x hx u hu => ?_, ?_⟩
  · rcases List.mem_append.1 hx with hx | hx
    · exact g.wd x hx
    · rw [List.mem_singleton] at hx; subst hx; omega
  · rcases List.mem_append.1 hx with hx | hx
    · simp [grC, g.cov x hx u hu]
    · rw [List.mem_singleton] at hx; subst hx
      rw [Int.toNat_natCast] at hu
      simp [grC, hu]
  · rw [List.nodup_append]
    refine ⟨g.nd, by simp, fun x hx y hy e => ?_⟩
    rw [List.mem_singleton] at hy; subst hy; subst e; exact hn hx
theorem gri_len {F : Nat → Nat → Bool} {N : Nat} {c : Nat → Bool} {L : List Int} (g : GrI F N c L) : L.length ≤ N := by
  have := nd_len g.nd (fun x hx => (mem_upI N x).2 (g.wd x hx))
  rwa [upI_len] at this
theorem uc_le (c : Nat → Bool) (N : Nat) : uc c N ≤ N := cntTo_le _ _
theorem grRun_done {F : Nat → Nat → Bool} {N n : Nat} {c : Nat → Bool} {L : List Int} (h : grDone c N = true) : grRun F N n c L = L := by
  cases n with
  | zero => rfl
  | succ n => rw [grRun, if_pos h]
theorem grRun_step {F : Nat → Nat → Bool} {N n : Nat} {c : Nat → Bool} {L : List Int} (h : grDone c N = false) : grRun F N (n + 1) c L = grRun F N n (grC F N c) (L ++ [(grW F N c : Int)]) := by
  rw [grRun, if_neg (by rw [h]; decide)]
/-- the greedy code, with its words as they come -/
def grL (F : Nat → Nat → Bool) (N : Nat) : List Int := grRun F N (N + 1) (fun _ => false) []

end Go.Proofs.Ytfpcdffahjoejaa

namespace Go.Proofs.Ytfpcdffahjoejaa
open Go.RowKit Cv
set_option linter.unusedVariables false
set_option linter.unusedSimpArgs false
set_option maxRecDepth 100000

/-- whether two sets have the same bits -/
def eqS (p q : Nat → Bool) : Bool := (List.range' 0 16 1).all fun k => ((partN p k : Nat) : Int) == ((partN q k : Nat) : Int)
theorem eqS_iff (p q : Nat → Bool) : eqS p q = true ↔ ∀ u, u < 1024 → p u = q u := by
  unfold eqS
  rw [List.all_eq_true]
  constructor
  · intro h
    refine partsL_inj (p := p) (q := q) ?_
    refine ext_gi (by rw [partsL_len, partsL_len]) fun i hi => ?_
    rw [partsL_len] at hi
    rw [gi_partsL p i hi, gi_partsL q i hi]
    have := h i (by rw [List.mem_range'_1]; omega)
    simpa using this
  · intro h k hk
    have hk' : k < 16 := by rw [List.mem_range'_1] at hk; omega
    have e : gi (partsL p) k = gi (partsL q) k := by rw [partsL_ext h]
    rw [gi_partsL p k hk', gi_partsL q k hk'] at e
    simpa using e

theorem quiet_exec {P : Program} {o : Oper} {a : Act} {C : World → Prop} {K : Act → Prop} (v : Value) (h : ∀ w, C w → (execOp a.eval o).run P w = .ok (.value v) w) (hk : K (a.put o.dst v)) : o.quiet P a C K :=
  ⟨v, fun w hw => by unfold Oper.quietAt; rw [h w hw]; exact ⟨rfl, rfl⟩, hk⟩

end Go.Proofs.Ytfpcdffahjoejaa
