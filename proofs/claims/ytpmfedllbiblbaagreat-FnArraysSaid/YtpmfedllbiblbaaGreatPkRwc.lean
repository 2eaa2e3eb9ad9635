/-
  Lists of lists that a call made: each row in a block of its own; compared, marked, held. By an AI agent.
-/
import Derived.Test.YtpmfedllbiblbaaGreatPkMathB
import Derived.Test.YtpmfedllbiblbaaGreatPkMark
import Derived.Test.YtpmfedllbiblbaaGreatPkAppendAt
import Derived.Deep.RegionHeld3
namespace Go.Proofs.YtpmfedllbiblbaaGreat
open Go.RowKit Cv
set_option linter.unusedVariables false
set_option linter.unusedSimpArgs false
set_option maxRecDepth 100000

/-- row i -/
def rr (R : List (List Int)) (i : Nat) : List Int := R.getD i []
theorem rr_set (R : List (List Int)) (L : List Int) (i j : Nat) (h : i < R.length) : rr (R.set i L) j = if j = i then L else rr R j := by
  unfold rr
  simp only [List.getD, List.getElem?_set]
  by_cases e : i = j
  · subst e; simp [h]
  · rw [if_neg e, if_neg (fun g => e g.symm)]
theorem rr_app (R : List (List Int)) (L : List Int) (j : Nat) (h : j < R.length + 1) : rr (R ++ [L]) j = if j = R.length then L else rr R j := by
  unfold rr
  simp only [List.getD]
  by_cases e : j = R.length
  · subst e; simp
  · rw [if_neg e, List.getElem?_append_left (by omega)]
def RwsAt (w : World) (lo hi : Nat) (v : Value) (R : List (List Int)) (hs : List Value) : Prop :=
  hs.length = R.length ∧ w.ownsRow lo 24 1 v R.length hs ∧ (∀ k, v.ownBlock = some k → k < hi) ∧
    (∀ i, i < R.length → ∃ h, hs[i]? = some h ∧ OwnInts w lo h (rr R i) ∧ (h.ownBlock = none ∨ h.ownBlock ≠ v.ownBlock) ∧ ∀ k, h.ownBlock = some k → k < hi) ∧
    ∀ (i j : Nat) (h h' : Value), i ≠ j → hs[i]? = some h → hs[j]? = some h' → h.ownBlock = none ∨ h.ownBlock ≠ h'.ownBlock
def OwnRws (w : World) (lo hi : Nat) (v : Value) (R : List (List Int)) : Prop := ∃ hs : List Value, RwsAt w lo hi v R hs

theorem row_belowB {B : Nat} {w w' : World} {base n : Nat} {e : TypeId} {v : Value} {xs : List Value} (h : w.ownsRow base e 1 v n xs) (hv : ∀ k, v.ownBlock = some k → k < B) (hb : Below B w w') : w'.ownsRow base e 1 v n xs := by
  obtain ⟨h1, h2⟩ := h
  refine ⟨h1, ?_⟩
  rcases h2 with h2 | ⟨g, cap, cur, rfl, hg, hh, r⟩
  · exact Or.inl h2
  · exact Or.inr ⟨g, cap, cur, rfl, hg, by rw [hb.block g (hv g rfl)]; exact hh, r⟩
theorem OwnInts.belowB {B : Nat} {w w' : World} {base : Nat} {v : Value} {T : List Int} (h : OwnInts w base v T) (hv : ∀ k, v.ownBlock = some k → k < B) (hb : Below B w w') : OwnInts w' base v T := row_belowB h hv hb
theorem OwnRws.belowB {B : Nat} {w w' : World} {lo hi : Nat} {v : Value} {R : List (List Int)} (h : OwnRws w lo hi v R) (hB : hi ≤ B) (hb : Below B w w') : OwnRws w' lo hi v R := by
  obtain ⟨hs, h1, h2, h3, h4, h5⟩ := h
  refine ⟨hs, h1, row_belowB h2 (fun k hk => by have := h3 k hk; omega) hb, h3, fun i hi => ?_, h5⟩
  obtain ⟨x, hx, ho, hn, hk⟩ := h4 i hi
  exact ⟨x, hx, ho.belowB (fun k e => by have := hk k e; omega) hb, hn, hk⟩
theorem OwnRws.below {w w' : World} {lo hi : Nat} {v : Value} {R : List (List Int)} (h : OwnRws w lo hi v R) (hb : Below w.heap.size w w') : OwnRws w' lo hi v R := by
  obtain ⟨hs, h1, h2, h3, h4, h5⟩ := h
  refine ⟨hs, h1, row_belowB h2 (fun k hk => (World.ownsRow.lt h2 k hk).2) hb, h3, fun i hi => ?_, h5⟩
  obtain ⟨x, hx, ho, hn, hk⟩ := h4 i hi
  exact ⟨x, hx, ho.below hb, hn, hk⟩
theorem OwnRws.kept {w w' : World} {lo hi : Nat} {v : Value} {R : List (List Int)} {b : Option Nat} (h : OwnRws w lo hi v R) (hg : w.grownBy w' b) (hb : ∀ k, b = some k → k < lo ∨ hi ≤ k) : OwnRws w' lo hi v R := by
  obtain ⟨hs, h1, h2, h3, h4, h5⟩ := h
  have ne : ∀ z : Value, (∀ k, z.ownBlock = some k → lo ≤ k ∧ k < hi) → z.ownBlock = none ∨ z.ownBlock ≠ b := fun z hz => by
    cases hv : z.ownBlock with
    | none => exact .inl rfl
    | some k =>
      refine .inr fun e => ?_
      have := hz k hv
      have := hb k e.symm
      omega
  refine ⟨hs, h1, World.ownsRow.kept h2 hg (ne v fun k hk => ⟨(World.ownsRow.lt h2 k hk).1, h3 k hk⟩), h3, fun i hi => ?_, h5⟩
  obtain ⟨x, hx, ho, hn, hk⟩ := h4 i hi
  exact ⟨x, hx, World.ownsRow.kept ho hg (ne x fun k e => ⟨(World.ownsRow.lt ho k e).1, hk k e⟩), hn, hk⟩
theorem OwnRws.alloc {w : World} {lo hi : Nat} {v : Value} {R : List (List Int)} (h : OwnRws w lo hi v R) (o : Obj) : OwnRws (w.alloc o) lo hi v R := h.below ((Below.refl _ w).alloc (Nat.le_refl _) o)
theorem row_rebase {w : World} {base base' n : Nat} {e : TypeId} {v : Value} {xs : List Value} (h : w.ownsRow base e 1 v n xs) (hb : base' ≤ base) : w.ownsRow base' e 1 v n xs := by
  obtain ⟨h1, h2⟩ := h
  refine ⟨h1, ?_⟩
  rcases h2 with h2 | ⟨g, cap, cur, hv, hg, r⟩
  · exact Or.inl h2
  · exact Or.inr ⟨g, cap, cur, hv, by omega, r⟩
theorem OwnRws.rebase {w : World} {lo hi lo' hi' : Nat} {v : Value} {R : List (List Int)} (h : OwnRws w lo hi v R) (h1 : lo' ≤ lo) (h2 : hi ≤ hi') : OwnRws w lo' hi' v R := by
  obtain ⟨hs, e1, e2, e3, e4, e5⟩ := h
  refine ⟨hs, e1, row_rebase e2 h1, fun k hk => by have := e3 k hk; omega, fun i hi => ?_, e5⟩
  obtain ⟨x, hx, ho, hn, hk⟩ := e4 i hi
  exact ⟨x, hx, ho.rebase h1, hn, fun k e => by have := hk k e; omega⟩
/-- the blocks lie below the heap's size -/
theorem OwnRws.top {w : World} {lo hi : Nat} {v : Value} {R : List (List Int)} (h : OwnRws w lo hi v R) : OwnRws w lo w.heap.size v R := by
  obtain ⟨hs, e1, e2, e3, e4, e5⟩ := h
  refine ⟨hs, e1, e2, fun k hk => (World.ownsRow.lt e2 k hk).2, fun i hi => ?_, e5⟩
  obtain ⟨x, hx, ho, hn, hk⟩ := e4 i hi
  exact ⟨x, hx, ho, hn, fun k e => (World.ownsRow.lt ho k e).2⟩
theorem OwnRws.nil (w : World) (lo hi : Nat) : OwnRws w lo hi (.slice none 0 0) [] :=
  ⟨[], rfl, World.ownsRow_nil _ _ _ _, fun k hk => by simp [Value.ownBlock] at hk, fun i hi => by simp at hi, fun i j h h' _ hi => by simp at hi⟩
theorem OwnRws.empty (w : World) (lo : Nat) (h : lo ≤ w.heap.size) {n : Nat} (hn : n = w.heap.size) : OwnRws (w.alloc (.cells #[] 24)) lo (w.heap.size + 1) (.slice (some ⟨n, 0, none⟩) 0 0) [] := by
  subst hn
  exact ⟨[], rfl, World.ownsRow_made w #[] 0 h (by simp [maxLen]) (by simp), fun k hk => by simp [Value.ownBlock] at hk; omega, fun i hi => by simp at hi, fun i j h h' _ hi => by simp at hi⟩
theorem OwnRws.shape {w : World} {lo hi : Nat} {v : Value} {R : List (List Int)} (h : OwnRws w lo hi v R) : ∃ a c, v = .slice a R.length c := by
  obtain ⟨hs, e1, e2, e3, e4, e5⟩ := h
  rcases e2.2 with ⟨hv, hn⟩ | ⟨g, cap, cur, hv, _⟩
  · exact ⟨none, 0, by rw [hn]; exact hv⟩
  · exact ⟨_, _, hv⟩
/-- the row at an index, and what stays when it is written -/
theorem OwnRws.at {w : World} {lo hi n c : Nat} {a : Option Addr} {R : List (List Int)} (h : OwnRws w lo hi (.slice a n c) R) {i : Nat} (hlt : i < R.length) :
    ∃ g z, a = some ⟨g, 0, none⟩ ∧ g < w.heap.size ∧ w.cell? ⟨g, i, none⟩ = some z ∧ OwnInts w lo z (rr R i) ∧ (∀ k, z.ownBlock = some k → lo ≤ k) ∧
      ∀ w' L, OwnInts w' lo z L → w.grownBy w' z.ownBlock → OwnRws w' lo hi (.slice a n c) (R.set i L) := by
  obtain ⟨hs, e1, e2, e3, e4, e5⟩ := h
  obtain ⟨z, hz, ho, hn, hk⟩ := e4 i hlt
  rcases e2.2 with ⟨_, h0⟩ | ⟨g, cap, cur, hv, _⟩
  · omega
  · simp only [Value.slice.injEq] at hv
    obtain ⟨rfl, rfl, rfl⟩ := hv
    have hcell : w.cell? ⟨g, i, none⟩ = some z := by rw [e2.cellAt i (by omega)]; exact hz
    refine ⟨g, z, rfl, (World.ownsRow.lt e2 g rfl).2, hcell, ho, fun k e => (World.ownsRow.lt ho k e).1, fun w' L h1 h2 => ?_⟩
    have hlen : R.length = (R.set i L).length := by simp
    have hne : (Value.slice (some ⟨g, 0, none⟩) R.length c).ownBlock = none ∨ (Value.slice (some ⟨g, 0, none⟩) R.length c).ownBlock ≠ z.ownBlock := .inr fun e => by
      rcases hn with h | h
      · rw [h] at e; simp [Value.ownBlock] at e
      · exact h e.symm
    have e2' := World.ownsRow.kept e2 h2 hne
    refine ⟨hs, by rw [← hlen]; exact e1, by rw [← hlen]; exact e2', e3, fun j hj => ?_, e5⟩
    · rw [← hlen] at hj
      by_cases e : j = i
      · subst e
        exact ⟨z, hz, by rw [rr_set R L j j hj, if_pos rfl]; exact h1, hn, hk⟩
      · obtain ⟨y, hy, hoy, hny, hky⟩ := e4 j hj
        refine ⟨y, hy, by rw [rr_set R L i j hlt, if_neg e]; exact World.ownsRow.kept hoy h2 (e5 j i y z e hy hz), hny, hky⟩

/-- lists that a call made, as far as reading them asks -/
def RdRws (w : World) (lo hi : Nat) (v : Value) (R : List (List Int)) : Prop :=
  ∃ hs : List Value, hs.length = R.length ∧ w.ownsRow lo 24 1 v R.length hs ∧ (∀ k, v.ownBlock = some k → k < hi) ∧
    (∀ i, i < R.length → ∃ h, hs[i]? = some h ∧ OwnInts w lo h (rr R i) ∧ ∀ k, h.ownBlock = some k → k < hi)
theorem RdRws.belowB {B : Nat} {w w' : World} {lo hi : Nat} {v : Value} {R : List (List Int)} (h : RdRws w lo hi v R) (hB : hi ≤ B) (hb : Below B w w') : RdRws w' lo hi v R := by
  obtain ⟨hs, h1, h2, h3, h4⟩ := h
  refine ⟨hs, h1, row_belowB h2 (fun k hk => by have := h3 k hk; omega) hb, h3, fun i hi => ?_⟩
  obtain ⟨x, hx, ho, hk⟩ := h4 i hi
  exact ⟨x, hx, ho.belowB (fun k e => by have := hk k e; omega) hb, hk⟩
theorem RdRws.below {w w' : World} {lo hi : Nat} {v : Value} {R : List (List Int)} (h : RdRws w lo hi v R) (hb : Below w.heap.size w w') : RdRws w' lo hi v R := by
  obtain ⟨hs, h1, h2, h3, h4⟩ := h
  refine ⟨hs, h1, row_belowB h2 (fun k hk => (World.ownsRow.lt h2 k hk).2) hb, h3, fun i hi => ?_⟩
  obtain ⟨x, hx, ho, hk⟩ := h4 i hi
  exact ⟨x, hx, ho.below hb, hk⟩
theorem RdRws.rebase {w : World} {lo hi lo' hi' : Nat} {v : Value} {R : List (List Int)} (h : RdRws w lo hi v R) (h1 : lo' ≤ lo) (h2 : hi ≤ hi') : RdRws w lo' hi' v R := by
  obtain ⟨hs, e1, e2, e3, e4⟩ := h
  refine ⟨hs, e1, row_rebase e2 h1, fun k hk => by have := e3 k hk; omega, fun i hi => ?_⟩
  obtain ⟨x, hx, ho, hk⟩ := e4 i hi
  exact ⟨x, hx, ho.rebase h1, fun k e => by have := hk k e; omega⟩
theorem RdRws.shape {w : World} {lo hi : Nat} {v : Value} {R : List (List Int)} (h : RdRws w lo hi v R) : ∃ a c, v = .slice a R.length c := by
  obtain ⟨hs, e1, e2, e3, e4⟩ := h
  rcases e2.2 with ⟨hv, hn⟩ | ⟨g, cap, cur, hv, _⟩
  · exact ⟨none, 0, by rw [hn]; exact hv⟩
  · exact ⟨_, _, hv⟩
theorem RdRws.at {w : World} {lo hi n c : Nat} {a : Option Addr} {R : List (List Int)} (h : RdRws w lo hi (.slice a n c) R) {i : Nat} (hlt : i < R.length) :
    ∃ g z, a = some ⟨g, 0, none⟩ ∧ g < w.heap.size ∧ w.cell? ⟨g, i, none⟩ = some z ∧ OwnInts w lo z (rr R i) := by
  obtain ⟨hs, e1, e2, e3, e4⟩ := h
  obtain ⟨z, hz, ho, hk⟩ := e4 i hlt
  rcases e2.2 with ⟨_, h0⟩ | ⟨g, cap, cur, hv, _⟩
  · omega
  · simp only [Value.slice.injEq] at hv
    obtain ⟨rfl, rfl, rfl⟩ := hv
    exact ⟨g, z, rfl, (World.ownsRow.lt e2 g rfl).2, by rw [e2.cellAt i (by omega)]; exact hz, ho⟩
/-- a list of nils -/
theorem OwnRws.made {w : World} {lo hi n : Nat} {v : Value} (h : w.ownsRow lo 24 1 v n (madeCells (Value.slice none 0 0).cells (n * 1)).toList) (hv : ∀ k, v.ownBlock = some k → k < hi) : OwnRws w lo hi v (List.replicate n []) := by
  rw [Nat.mul_one] at h
  have e : (madeCells (Value.slice none 0 0).cells n).toList = List.replicate n (.slice none 0 0) := toList_madeCells_one _ _
  rw [e] at h
  refine ⟨List.replicate n (.slice none 0 0), by simp, by rw [List.length_replicate]; exact h, hv, fun i hi => ?_, fun i j x x' _ hx _ => ?_⟩
  · rw [List.length_replicate] at hi
    exact ⟨.slice none 0 0, by simp [hi], by simp [rr, List.getD, hi]; exact World.ownsRow_nil _ _ _ _, .inl rfl, fun k hk => by simp [Value.ownBlock] at hk⟩
  · have := List.mem_of_getElem? hx
    rw [List.eq_of_mem_replicate this]
    exact .inl rfl
theorem OwnRws.slot {w : World} {lo hi g n c : Nat} {R : List (List Int)} (h : OwnRws w lo hi (.slice (some ⟨g, 0, none⟩) n c) R) {i : Nat} (hlt : i < R.length) : (∃ z, w.cell? ⟨g, i, none⟩ = some z) ∧ w.frozen? ⟨g, i, none⟩ = false ∧ g < hi ∧ lo ≤ g := by
  obtain ⟨hs, e1, e2, e3, e4, e5⟩ := h
  obtain ⟨z, hz, _⟩ := e4 i hlt
  have hn : n = R.length := by
    rcases e2.2 with ⟨hv, _⟩ | ⟨g', cap', cur, hv, _⟩
    · simp at hv
    · simp at hv; exact hv.2.1
  subst hn
  exact ⟨⟨z, by rw [e2.cellAt i (by omega)]; exact hz⟩, e2.frozenAt i, e3 g rfl, (World.ownsRow.lt e2 g rfl).1⟩
/-- a new row laid into its slot -/
theorem OwnRws.put {w : World} {lo hi g n c : Nat} {R : List (List Int)} (h : OwnRws w lo hi (.slice (some ⟨g, 0, none⟩) n c) R) {i : Nat} (hlt : i < R.length) {y : Value} {L : List Int} (hy : OwnInts w lo y L) (hyb : ∀ k, y.ownBlock = some k → hi ≤ k) :
    OwnRws (w.setCell ⟨g, i, none⟩ y) lo w.heap.size (.slice (some ⟨g, 0, none⟩) n c) (R.set i L) := by
  obtain ⟨hs, e1, e2, e3, e4, e5⟩ := h
  have hn : n = R.length := by
    rcases e2.2 with ⟨hv, _⟩ | ⟨g', cap', cur, hv, _⟩
    · simp at hv
    · simp at hv; exact hv.2.1
  subst hn
  obtain ⟨st1, st2⟩ := e2.stored i y
  have hg := e3 g rfl
  have hgw := (World.ownsRow.lt e2 g rfl).2
  have hyg : y.ownBlock = none ∨ y.ownBlock ≠ some g := by
    cases hyo : y.ownBlock with
    | none => exact .inl rfl
    | some k => exact .inr fun e => by have := hyb k hyo; have := Option.some.inj e; omega
  have hyt : ∀ k, y.ownBlock = some k → k < w.heap.size := fun k hk => (World.ownsRow.lt hy k hk).2
  refine ⟨hs.set i y, by simp [e1], by rw [List.length_set]; exact st1, fun k hk => by simp [Value.ownBlock] at hk; omega, fun j hj => ?_, fun a b z z' hne ha hb => ?_⟩
  · rw [List.length_set] at hj
    by_cases e : j = i
    · subst e
      exact ⟨y, by rw [List.getElem?_set_self (by omega)], by rw [rr_set R L j j hlt, if_pos rfl]; exact World.ownsRow.kept hy st2 hyg, hyg, hyt⟩
    · obtain ⟨z, hz, ho, hn, hk⟩ := e4 j hj
      exact ⟨z, by rw [List.getElem?_set_ne (fun h => e h.symm)]; exact hz, by rw [rr_set R L i j hlt, if_neg e]; exact World.ownsRow.kept ho st2 hn, hn, fun k hk2 => by have := hk k hk2; have := (World.ownsRow.lt ho k hk2).2; omega⟩
  · have hal : a < R.length := by have := (List.getElem?_eq_some_iff.1 ha).1; simp at this; omega
    have hbl : b < R.length := by have := (List.getElem?_eq_some_iff.1 hb).1; simp at this; omega
    have low : ∀ j z, j < R.length → hs[j]? = some z → ∀ k, z.ownBlock = some k → k < hi := fun j z h1 h2 => by
      obtain ⟨z2, hz2, _, _, hk2⟩ := e4 j h1
      rw [h2] at hz2
      obtain rfl := Option.some.inj hz2
      exact hk2
    by_cases ea : a = i
    · have hz : z = y := by rw [ea, List.getElem?_set_self (by omega)] at ha; exact (Option.some.inj ha).symm
      have hb2 : hs[b]? = some z' := by rwa [List.getElem?_set_ne (by omega)] at hb
      rw [hz]
      cases hyo : y.ownBlock with
      | none => exact .inl rfl
      | some k => exact .inr fun e => by have h1 := hyb k hyo; have h2 := low b z' hbl hb2 k e.symm; omega
    · have ha2 : hs[a]? = some z := by rwa [List.getElem?_set_ne (fun h => ea h.symm)] at ha
      by_cases eb : b = i
      · have hz : z' = y := by rw [eb, List.getElem?_set_self (by omega)] at hb; exact (Option.some.inj hb).symm
        rw [hz]
        cases hzo : z.ownBlock with
        | none => exact .inl rfl
        | some k => exact .inr fun e => by have h1 := hyb k e.symm; have h2 := low a z hal ha2 k hzo; omega
      · have hb2 : hs[b]? = some z' := by rwa [List.getElem?_set_ne (fun h => eb h.symm)] at hb
        exact e5 a b z z' hne ha2 hb2

def offR (R : List (List Int)) : Nat → Nat
  | 0 => 0
  | i + 1 => offR R i + (rr R i).length
def mkR (k0 : Int) (R : List (List Int)) : List (List Int) := (List.range R.length).map fun i => marks (k0 + offR R i) (rr R i).length
end Go.Proofs.YtpmfedllbiblbaaGreat
