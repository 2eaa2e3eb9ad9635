/-
  Lists of lists that a call made: the rows lie in blocks of their own. (Groundwork for the columns of Hamming codes.) By an AI agent.
-/
import Derived.Test.YthfddfhjcadomaaMathB
import Derived.Test.YthfddfhjcadomaaParts
import Derived.Test.YthfddfhjcadomaaAppendAt
namespace Go.Proofs.Ythfddfhjcadomaa
open Go.RowKit Cv
set_option linter.unusedVariables false
set_option linter.unusedSimpArgs false
set_option maxRecDepth 100000

/-- row i of a list of lists -/
def ri (R : List (List Int)) (i : Nat) : List Int := R.getD i []
theorem ri_append_lt (R : List (List Int)) (L : List Int) (i : Nat) (h : i < R.length) : ri (R ++ [L]) i = ri R i := by
  unfold ri; simp [List.getD, List.getElem?_append_left h]
theorem ri_append_eq (R : List (List Int)) (L : List Int) : ri (R ++ [L]) R.length = L := by
  unfold ri; simp [List.getD]
/-- lists that a call made and owns, each in a block of its own, in a list that it made -/
def OwnCols (w : World) (base : Nat) (v : Value) (R : List (List Int)) : Prop :=
  ∃ hs : List Value, hs.length = R.length ∧ w.ownsRow base 22 1 v R.length hs ∧ ∀ i, i < R.length → ∃ h, hs[i]? = some h ∧ OwnInts w base h (ri R i) ∧ (h.ownBlock = none ∨ h.ownBlock ≠ v.ownBlock)
theorem row_below {w w' : World} {base n : Nat} {e : TypeId} {v : Value} {xs : List Value} (h : w.ownsRow base e 1 v n xs) (hb : Below w.heap.size w w') : w'.ownsRow base e 1 v n xs := by
  obtain ⟨h1, h2⟩ := h
  refine ⟨h1, ?_⟩
  rcases h2 with h2 | ⟨g, cap, cur, hv, hg, hh, r⟩
  · exact Or.inl h2
  · exact Or.inr ⟨g, cap, cur, hv, hg, by rw [hb.block g (Array.getElem?_eq_some_iff.1 hh).1]; exact hh, r⟩
theorem OwnCols.below {w w' : World} {base : Nat} {v : Value} {R : List (List Int)} (h : OwnCols w base v R) (hb : Below w.heap.size w w') : OwnCols w' base v R := by
  obtain ⟨hs, h1, h2, h3⟩ := h
  refine ⟨hs, h1, row_below h2 hb, fun i hi => ?_⟩
  obtain ⟨x, hx, ho, hn⟩ := h3 i hi
  exact ⟨x, hx, ho.below hb, hn⟩
theorem OwnCols.empty (w : World) (base : Nat) (h : base ≤ w.heap.size) {n : Nat} (hn : n = w.heap.size) : OwnCols (w.alloc (.cells #[] 22)) base (.slice (some ⟨n, 0, none⟩) 0 0) [] := by
  subst hn
  exact ⟨[], rfl, World.ownsRow_made w #[] 0 h (by simp [maxLen]) (by simp), fun i hi => by simp at hi⟩

/-- an append of one more list -/
theorem wpList_append_col_at {w : World} {ops : Array Oper} {rest : List Oper} {o : Oper} {a : Act} {Q : Exit → Act → World → Prop} (hgd : o.guard = none) (s x : Operand)
    (ho : o.op = .call { callee := .builtin .append, args := #[s, x], argTypes := #[33, 33] })
    (base : Nat) (v : Value) (R : List (List Int)) (hs : a.eval s = v) (hown : OwnCols w base v R) (b : Nat) (y : Value) (L : List Int) (hy : OwnInts w base y L) (hyb : y.ownBlock = none ∨ y.ownBlock ≠ v.ownBlock) (hyv : ∀ k, y.ownBlock = some k → k < w.heap.size) (hx : a.eval x = .slice (some ⟨b, 0, none⟩) 1 1) (hc : w.cell? ⟨b, 0, none⟩ = some y)
    (hlen : R.length ≤ 1073741824) (hbase : base ≤ w.heap.size)
    (h : ∀ v' w', OwnCols w' base v' (R ++ [L]) → w.grownBy w' v.ownBlock → (v'.ownBlock = v.ownBlock ∨ v'.ownBlock = some w.heap.size) → wpList Try.prog ops Q rest (a.put o.dst v') w') : wpList Try.prog ops Q (o :: rest) a w := by
  obtain ⟨i0, hi, hz0, hz1, hz2⟩ := info_parts infoSl
  obtain ⟨hl, e1, e2, e3⟩ := hown
  refine wpList_append_own_at w hgd s x 33 ho base 22 i0 (.slice none 0 0) 1 24 Try.underlying33 hi hz0 hz1 hz2 rfl (by decide) v R.length hl hs e2 ⟨b, 0, none⟩ 1 1 [y] hx rfl ?_ ?_ (by unfold maxLen; omega) (by omega) hbase ?_
  · intro j u hj
    match j, hj with
    | 0, hj => simp at hj; subst hj; simpa [Addr.add] using hc
  · intro u hu; simp at hu; subst hu; rcases hy.2 with ⟨rfl, _⟩ | ⟨_, _, _, rfl, _⟩ <;> rfl
  · intro v' w' h1 h2 _ h3
    refine h v' w' ⟨hl ++ [y], by simp [e1], by rw [List.length_append]; exact h1, fun i hi => ?_⟩ h2 h3
    have hkeep : ∀ (z : Value) (T : List Int), OwnInts w base z T → (z.ownBlock = none ∨ z.ownBlock ≠ v.ownBlock) → OwnInts w' base z T ∧ (z.ownBlock = none ∨ z.ownBlock ≠ v'.ownBlock) := fun z T hz hn => by
      refine ⟨World.ownsRow.kept hz h2 hn, ?_⟩
      rcases h3 with e | e
      · rw [e]; exact hn
      · rw [e]
        cases hzb : z.ownBlock with
        | none => exact .inl rfl
        | some k =>
          refine .inr fun e5 => ?_
          have := (World.ownsRow.lt hz k hzb).2
          have := Option.some.inj e5
          omega
    rw [List.length_append] at hi
    by_cases hlt : i < R.length
    · obtain ⟨z, hz, ho2, hn⟩ := e3 i hlt
      obtain ⟨k1, k2⟩ := hkeep z _ ho2 hn
      exact ⟨z, by rw [List.getElem?_append_left (by omega)]; exact hz, by rw [ri_append_lt R L i hlt]; exact k1, k2⟩
    · have ei : i = R.length := by simp at hi; omega
      subst ei
      obtain ⟨k1, k2⟩ := hkeep y _ hy hyb
      exact ⟨y, by rw [List.getElem?_append_right (by omega), e1]; simp, by rw [ri_append_eq]; exact k1, k2⟩

theorem OwnCols.alloc {w : World} {base : Nat} {v : Value} {R : List (List Int)} (h : OwnCols w base v R) (o : Obj) : OwnCols (w.alloc o) base v R := h.below ((Below.refl _ w).alloc (Nat.le_refl _) o)
theorem OwnCols.isSlice {w : World} {base : Nat} {v : Value} {R : List (List Int)} {L : List Int} (h : OwnCols w base v (R ++ [L])) : ∃ g c, v = .slice (some ⟨g, 0, none⟩) (R ++ [L]).length c := by
  obtain ⟨hs, e1, e2, e3⟩ := h
  rcases e2.2 with ⟨_, hn⟩ | ⟨g, cap, cur, hv, _⟩
  · simp at hn
  · exact ⟨g, cap, hv⟩
theorem OwnCols.base_le {w : World} {base g n cap : Nat} {R : List (List Int)} (h : OwnCols w base (.slice (some ⟨g, 0, none⟩) n cap) R) : base ≤ g ∧ g < w.heap.size := by
  obtain ⟨hs, e1, e2, e3⟩ := h
  exact World.ownsRow.lt e2 g rfl
/-- the row at an index, and its numbers -/
theorem OwnCols.row {w : World} {base g n cap : Nat} {R : List (List Int)} (h : OwnCols w base (.slice (some ⟨g, 0, none⟩) n cap) R) {i : Nat} (hi : i < R.length) : ∃ z, w.cell? ⟨g, i, none⟩ = some z ∧ OwnInts w base z (ri R i) := by
  obtain ⟨hs, e1, e2, e3⟩ := h
  obtain ⟨z, hz, ho, _⟩ := e3 i hi
  have hn : n = R.length := by
    rcases e2.2 with ⟨hv, _⟩ | ⟨g', cap', cur, hv, _⟩
    · simp at hv
    · simp at hv; exact hv.2.1
  subst hn
  exact ⟨z, by rw [e2.cellAt i (by omega)]; exact hz, ho⟩

end Go.Proofs.Ythfddfhjcadomaa
