/-
  Marks: which rows a call may have written, and what stays. By an AI agent.
-/
import Derived.Test.YtcbkmmadejbbpaaHelp
namespace Go.Proofs.Ytcbkmmadejbbpaa
open Go.RowKit Cv
set_option linter.unusedVariables false
set_option linter.unusedSimpArgs false

/-- the row of a value lies between two numbers -/
def RowIn (v : Value) (lo hi : Nat) : Prop := ∀ k, v.ownBlock = some k → lo ≤ k ∧ k < hi

theorem OwnInts.rowIn {w : World} {base : Nat} {v : Value} {T : List Int} (h : OwnInts w base v T) : RowIn v base w.heap.size := World.ownsRow.lt h
theorem RowIn.mono {v : Value} {lo hi lo' : Nat} (h : RowIn v lo hi) (hl : lo' ≤ lo) : RowIn v lo' hi := fun k hk => by have := h k hk; omega
theorem OwnInts.shape {w : World} {base : Nat} {v : Value} {T : List Int} (h : OwnInts w base v T) : ∃ ao cap, v = .slice ao T.length cap := by
  obtain ⟨ao, cap, hv, _⟩ := h.ints
  exact ⟨ao, cap, hv⟩
theorem row_ne_box {v : Value} {lo hi b : Nat} (R : RowIn v lo hi) (h : b < lo ∨ hi ≤ b) : some b ≠ v.ownBlock := fun e => by
  have := R b e.symm; omega
theorem row_ne_row {v v' : Value} {lo hi lo' hi' : Nat} (R : RowIn v lo hi) (R' : RowIn v' lo' hi') (h : hi ≤ lo' ∨ hi' ≤ lo) : v.ownBlock = none ∨ v.ownBlock ≠ v'.ownBlock := by
  cases hv : v.ownBlock with
  | none => exact .inl rfl
  | some k =>
    refine .inr fun e => ?_
    have h1 := R k hv
    have h2 := R' k e.symm
    omega
theorem below_mark {n lo hi : Nat} {w0 w w' : World} {v : Value} (B : Below n w0 w) (hn : n ≤ w.heap.size) (hg : w.grownBy w' v.ownBlock) (R : RowIn v lo hi) (hlo : n ≤ lo) : Below n w0 w' :=
  B.grown hg hn fun k hk => by have := R k hk; omega

theorem markInt64S_own (ao : Option Addr) (base cap n : Nat) (T : List Int) (k0 : Int) (w : World) (hn : n ≤ 4294967296) (h0 : 0 ≤ k0) (h1 : k0 ≤ 4294967296) (hT : T.length = n) (h : OwnInts w base (.slice ao n cap) T) :
    Calls Try.prog 20 #[.slice ao n cap, .int .i64 k0] w fun e w' => e = .returned (.int .i64 (k0 + n)) ∧
      OwnInts w' base (.slice ao n cap) (marks k0 n) ∧ w.grownBy w' (Value.slice ao n cap).ownBlock := by
  rcases h.2 with ⟨hv, hz⟩ | ⟨g, cap', cur, hv, _⟩
  · simp only [Value.slice.injEq] at hv
    obtain ⟨rfl, rfl, rfl⟩ := hv
    refine (markInt64S_nil 0 none k0 w h0 h1).mono ?_
    rintro e w' ⟨rfl, rfl⟩
    exact ⟨by simp, by show OwnInts w base (.slice none 0 0) (marks k0 0); simp only [marks, List.range_zero, List.map_nil]; exact World.ownsRow_nil _ _ _ _, World.grownBy.refl _ _⟩
  · simp only [Value.slice.injEq] at hv
    obtain ⟨rfl, _, _⟩ := hv
    exact markInt64S_any g base cap n T k0 w hn h0 h1 hT h

theorem markSpace_own (g base cap n : Nat) (T : List Int) (k0 : Int) (w : World) (hn : n ≤ 4294967296) (h0 : 0 ≤ k0) (h1 : k0 ≤ 4294967296) (hT : T.length = n) (h : OwnInts w base (.slice (some ⟨g, 0, none⟩) n cap) T) :
    Calls Try.prog 19 #[.agg #[.slice (some ⟨g, 0, none⟩) n cap], .int .i64 k0] w fun e w' => e = .returned (.int .i64 (k0 + n)) ∧
      OwnInts w' base (.slice (some ⟨g, 0, none⟩) n cap) (marks k0 n) ∧ w.grownBy w' (Value.slice (some ⟨g, 0, none⟩) n cap).ownBlock := markSpace_any g base cap n T k0 w hn h0 h1 hT h

end Go.Proofs.Ytcbkmmadejbbpaa
