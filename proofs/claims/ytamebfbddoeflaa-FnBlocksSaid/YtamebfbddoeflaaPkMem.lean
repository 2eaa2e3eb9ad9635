/-
  What the walks say of memory: lists of numbers that lie in it, structs in boxes, rows that a call made. By an AI agent.
-/
import Derived.Test.YtamebfbddoeflaaPkMath
import Derived.Test.YtamebfbddoeflaaRows
import Derived.WalkKit
import Derived.WalkSpells
import Derived.WalkSmall
import Derived.WalkLawsBesides
import Derived.Lib.Hide
import Derived.Handy
import Derived.Deep.DeepMust
import Derived.Deep.DeepFit
import Derived.BigQuiet
import Derived.Deep.QuietTactic
namespace Go.Proofs.Ytamebfbddoeflaa
open Go.RowKit Cv
set_option linter.unusedVariables false
set_option linter.unusedSimpArgs false

/-- the numbers S lie at ao -/
def Ints (w : World) (ao : Option Addr) (S : List Int) : Prop :=
  S.length = 0 ∨ ∃ b o, ao = some ⟨b, o, none⟩ ∧ b < w.heap.size ∧ ∀ i, i < S.length → w.cell? ⟨b, o + i, none⟩ = some (.int .i64 (gi S i))

theorem Ints.below {w w' : World} {ao : Option Addr} {S : List Int} (h : Ints w ao S) (hb : Below w.heap.size w w') : Ints w' ao S := by
  rcases h with h | ⟨b, o, rfl, hlt, hc⟩
  · exact .inl h
  · exact .inr ⟨b, o, rfl, Nat.lt_of_lt_of_le hlt hb.size, fun i hi => (hb.cell (p := ⟨b, o + i, none⟩) hlt).trans (hc i hi)⟩

theorem Ints.at {w : World} {ao : Option Addr} {S : List Int} (h : Ints w ao S) {i : Nat} (hi : i < S.length) :
    ∃ b o, ao = some ⟨b, o, none⟩ ∧ b < w.heap.size ∧ ∀ i, i < S.length → w.cell? ⟨b, o + i, none⟩ = some (.int .i64 (gi S i)) := by
  rcases h with h | h
  · omega
  · exact h

theorem bcell {W w1 : World} (hb : Below W.heap.size W w1) : (∀ b o, b < W.heap.size → w1.cell? ⟨b, o, none⟩ = W.cell? ⟨b, o, none⟩) ∧ (∀ b o, b < W.heap.size → w1.frozen? ⟨b, o, none⟩ = W.frozen? ⟨b, o, none⟩) :=
  ⟨fun b o h => hb.cell (p := ⟨b, o, none⟩) h, fun b o h => hb.frozen (p := ⟨b, o, none⟩) h⟩

/-- the row of the table for int64 -/
theorem infoI64 : (Try.prog.info? 2).map (fun i => (i.zero, i.size, i.bytes)) = some (some (.int .i64 0), 1, 8) := by kernel_rfl

/-- the numbers that a call made and owns -/
def OwnInts (w : World) (base : Nat) (v : Value) (S : List Int) : Prop := w.ownsRow base 2 1 v S.length (S.map (Value.int .i64))

theorem OwnInts.below {w w' : World} {base : Nat} {v : Value} {S : List Int} (h : OwnInts w base v S) (hb : Below w.heap.size w w') : OwnInts w' base v S := by
  obtain ⟨h1, h2⟩ := h
  refine ⟨h1, ?_⟩
  rcases h2 with h2 | ⟨g, cap, cur, hv, hg, hh, r⟩
  · exact Or.inl h2
  · exact Or.inr ⟨g, cap, cur, hv, hg, by rw [hb.block g (Array.getElem?_eq_some_iff.1 hh).1]; exact hh, r⟩

theorem OwnInts.ints {w : World} {base : Nat} {v : Value} {S : List Int} (h : OwnInts w base v S) : ∃ ao cap, v = .slice ao S.length cap ∧ Ints w ao S := by
  obtain ⟨h1, h2⟩ := h
  rcases h2 with ⟨hv, hn⟩ | ⟨g, cap, cur, hv, hg, hh, hle, hm, hs, ht⟩
  · exact ⟨none, 0, by rw [hn]; exact hv, .inl hn⟩
  · refine ⟨some ⟨g, 0, none⟩, cap, hv, .inr ⟨g, 0, rfl, (Array.getElem?_eq_some_iff.1 hh).1, fun i hi => ?_⟩⟩
    have hown : w.ownsRow base 2 1 (.slice (some ⟨g, 0, none⟩) S.length cap) S.length (S.map (Value.int .i64)) := ⟨h1, .inr ⟨g, cap, cur, rfl, hg, hh, hle, hm, hs, ht⟩⟩
    rw [Nat.zero_add, hown.cellAt i (by omega), gi_map S i hi]

theorem OwnInts.cell {w : World} {base g n cap : Nat} {T : List Int} (h : OwnInts w base (.slice (some ⟨g, 0, none⟩) n cap) T) {k : Nat} (hk : k < T.length) : w.cell? ⟨g, k, none⟩ = some (.int .i64 (gi T k)) := by
  have hn : n = T.length := by
    rcases h.2 with ⟨hv, _⟩ | ⟨_, _, _, hv, _⟩ <;> simp only [Value.slice.injEq] at hv
    · exact absurd hv.1 (by simp)
    · exact hv.2.1
  subst hn
  have h' : w.ownsRow base 2 1 (.slice (some ⟨g, 0, none⟩) T.length cap) T.length (T.map (Value.int .i64)) := h
  rw [h'.cellAt k (by omega), gi_map T k hk]

theorem OwnInts.len {w : World} {base : Nat} {a : Option Addr} {n cap : Nat} {T : List Int} (h : OwnInts w base (.slice a n cap) T) : n = T.length := by
  rcases h.2 with ⟨hv, hn⟩ | ⟨_, _, _, hv, _⟩ <;> simp only [Value.slice.injEq] at hv
  · omega
  · exact hv.2.1

theorem OwnInts.free {w : World} {base g n cap : Nat} {T : List Int} (h : OwnInts w base (.slice (some ⟨g, 0, none⟩) n cap) T) (k : Nat) : w.frozen? ⟨g, k, none⟩ = false := by
  obtain rfl := h.len
  have h' : w.ownsRow base 2 1 (.slice (some ⟨g, 0, none⟩) T.length cap) T.length (T.map (Value.int .i64)) := h
  exact h'.frozenAt k

theorem OwnInts.base_le {w : World} {base g n cap : Nat} {T : List Int} (h : OwnInts w base (.slice (some ⟨g, 0, none⟩) n cap) T) : base ≤ g ∧ g < w.heap.size := by
  rcases h.2 with ⟨hv, _⟩ | ⟨g', _, _, hv, hb, hh, _⟩ <;> simp only [Value.slice.injEq] at hv
  · exact absurd hv.1 (by simp)
  · have e : g = g' := by simpa using hv.1
    subst e
    exact ⟨hb, (Array.getElem?_eq_some_iff.1 hh).1⟩

theorem OwnInts.stored {w : World} {base g n cap : Nat} {T : List Int} (h : OwnInts w base (.slice (some ⟨g, 0, none⟩) n cap) T) (k : Nat) (x : Int) :
    OwnInts (w.setCell ⟨g, k, none⟩ (.int .i64 x)) base (.slice (some ⟨g, 0, none⟩) n cap) (T.set k x) := by
  obtain rfl := h.len
  have h' : w.ownsRow base 2 1 (.slice (some ⟨g, 0, none⟩) T.length cap) T.length (T.map (Value.int .i64)) := h
  have := (h'.stored k (.int .i64 x)).1
  unfold OwnInts
  rw [List.length_set, List.map_set]
  exact this

theorem OwnInts.alloc {w : World} {base : Nat} {v : Value} {T : List Int} (h : OwnInts w base v T) (o : Obj) : OwnInts (w.alloc o) base v T := World.ownsRow.alloc h o

theorem OwnInts.setBelow {w : World} {base : Nat} {v : Value} {T : List Int} (h : OwnInts w base v T) {a : Addr} (ha : a.block < base) (u : Value) : OwnInts (w.setCell a u) base v T := ownsRow_setCell_below h ha u
theorem OwnInts.rebase {w : World} {base base' : Nat} {v : Value} {T : List Int} (h : OwnInts w base v T) (hb : base' ≤ base) : OwnInts w base' v T := by
  refine ⟨h.1, ?_⟩
  rcases h.2 with h2 | ⟨g, cap, cur, hv, hg, r⟩
  · exact .inl h2
  · exact .inr ⟨g, cap, cur, hv, by omega, r⟩
theorem OwnInts.kept {w w' : World} {base : Nat} {v : Value} {T : List Int} {row : Option Nat} (h : OwnInts w base v T) (hg : w.grownBy w' row) (hne : v.ownBlock = none ∨ v.ownBlock ≠ row) : OwnInts w' base v T := World.ownsRow.kept h hg hne
theorem OwnInts.drew {w : World} {base : Nat} {v : Value} {T : List Int} (h : OwnInts w base v T) : OwnInts w.drew base v T := h

theorem own_made {w : World} {base : Nat} {v : Value} {n : Nat} (h : w.ownsRow base 2 1 v n (madeCells (Value.int .i64 0).cells (n * 1)).toList) : OwnInts w base v (List.replicate n 0) := by
  unfold OwnInts
  rw [List.length_replicate, List.map_replicate, ← toList_madeCells_one]
  rw [Nat.mul_one] at h
  exact h

theorem grown_trans {a b c : World} {row : Option Nat} (h : a.grownBy b row) (k : b.grownBy c row) : a.grownBy c row :=
  ⟨k.os.trans h.os, k.tape.trans h.tape, k.output.trans h.output, Nat.le_trans h.size k.size, fun i hi hr => (k.block i (Nat.lt_of_lt_of_le hi h.size) hr).trans (h.block i hi hr)⟩
theorem grown_setCell {a b : World} {g : Nat} (h : a.grownBy b (some g)) (k : Nat) (u : Value) : a.grownBy (b.setCell ⟨g, k, none⟩ u) (some g) :=
  grown_trans h ⟨rfl, rfl, rfl, by simp [World.setCell], fun i _ hr => Below.heap_setCell _ _ _ _ (fun e => hr (by rw [e]))⟩
theorem grown_of_below {a b : World} (h : Below a.heap.size a b) (row : Option Nat) : a.grownBy b row := ⟨h.os, h.tape, h.output, h.size, fun i hi _ => h.block i hi⟩

theorem own_ints {w : World} {base : Nat} {a : Option Addr} {n cap : Nat} {S : List Int} (h : OwnInts w base (.slice a n cap) S) : Ints w a S := by
  obtain ⟨ao, c, hv, hi⟩ := h.ints
  simp only [Value.slice.injEq] at hv
  rw [hv.1]; exact hi

/-- a cell keeps what it holds -/
theorem kept_cell {B : Nat} {w w' : World} {b o : Nat} {v : Value} (hb : Below B w w') (h : w.cell? ⟨b, o, none⟩ = some v) (hlt : b < B) : w'.cell? ⟨b, o, none⟩ = some v := (hb.cell (p := ⟨b, o, none⟩) hlt).trans h
theorem cell_new (w : World) (v : Value) (t : TypeId) : (w.alloc (.cells #[v] t)).cell? ⟨w.heap.size, 0, none⟩ = some v := by simp
theorem lt_alloc (w : World) (o : Obj) : w.heap.size < (w.alloc o).heap.size := by simp
theorem lt_of_below {B b : Nat} {w w' : World} (hb : Below B w w') (h : b < w.heap.size) : b < w'.heap.size := Nat.lt_of_lt_of_le h hb.size

theorem below_grown0 {w w' : World} (hg : w.grownBy w' none) : Below w.heap.size w w' := (Below.refl _ _).grown hg (Nat.le_refl _) (by intro k h; cases h)

theorem cell_set_other {w : World} {a : Addr} {b o : Nat} {v u : Value} (h : w.cell? ⟨b, o, none⟩ = some v) (hne : b ≠ a.block) : (w.setCell a u).cell? ⟨b, o, none⟩ = some v :=
  (World.cell?_of_block (Below.heap_setCell _ _ _ _ hne)).trans h

theorem ints_new (w : World) (L : List Int) (t : TypeId) : Ints (w.alloc (.cells (L.map (Value.int .i64)).toArray t)) (some ⟨w.heap.size, 0, none⟩) L := by
  refine .inr ⟨_, 0, rfl, lt_alloc _ _, fun i hi => ?_⟩
  rw [cell_of_row _ _ _ _ t (0, 0) (heap_alloc_new w _)]
  simp only [Nat.zero_add, List.getElem?_toArray]
  exact gi_map L i hi
theorem ints_new1 (w : World) (a : Int) (t : TypeId) {n : Nat} (hn : n = w.heap.size) : Ints (w.alloc (.cells #[.int .i64 a] t)) (some ⟨n, 0, none⟩) [a] := by subst hn; exact ints_new w [a] t
theorem ints_new2 (w : World) (a b : Int) (t : TypeId) {n : Nat} (hn : n = w.heap.size) : Ints (w.alloc (.cells #[.int .i64 a, .int .i64 b] t)) (some ⟨n, 0, none⟩) [a, b] := by subst hn; exact ints_new w [a, b] t

end Go.Proofs.Ytamebfbddoeflaa
