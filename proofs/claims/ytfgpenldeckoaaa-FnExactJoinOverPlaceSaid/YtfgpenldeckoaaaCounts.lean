/-
  The contracts of DistanceCounts. By an AI agent.
-/
import Derived.Test.YtfgpenldeckoaaaLeast
import Derived.Deep.RegionHeld3
import Derived.Deep.RegionLaw
import Derived.Deep.RegionWith
namespace Go.Proofs.Ytfgpenldeckoaaa
open Go.RowKit Cv
set_option linter.unusedVariables false
set_option linter.unusedSimpArgs false
set_option maxRecDepth 100000

theorem Ints.grown {w w' : World} {ao : Option Addr} {S : List Int} {r : Nat} (h : Ints w ao S) (hg : w.grownBy w' (some r)) (hne : ∀ b o, ao = some ⟨b, o, none⟩ → b ≠ r) : Ints w' ao S := by
  rcases h with h | ⟨b, o, rfl, hlt, hc⟩
  · exact .inl h
  · exact .inr ⟨b, o, rfl, Nat.lt_of_lt_of_le hlt hg.size, fun i hi => hg.cell (a := ⟨b, o + i, none⟩) (hc i hi) (by have := hne b o rfl; simpa using this)⟩

theorem l01Distance_nat (ao : Option Addr) (S : List Int) (cap : Nat) (hl : S.length ≤ 8) (hbd : ∀ i, i < S.length → 2 ≤ gi S i ∧ gi S i ≤ 4) (u x : Int) (hu : 0 ≤ u) (hu2 : u ≤ 9223372036854775807) (hx : 0 ≤ x) (hx2 : x ≤ 9223372036854775807) (D : Nat) (hD : Hid (dist S u x = (D : Int))) (w : World) (hS : Ints w ao S) :
    Calls Try.prog 89 #[.agg #[.slice ao S.length cap], .int .i64 u, .int .i64 x] w fun e w' => e = .returned (.int .i64 (D : Int)) ∧ Below w.heap.size w w' := by
  rw [← hD.out]; exact l01Distance_any ao S cap hl hbd u x hu hu2 hx hx2 w hS

theorem differences_nat (a a' : Option Addr) (S : List Int) (u x : Int) (c c' : Nat) (w : World) (hn : S.length ≤ 8) (D : Nat) (hD : Hid (dist S u x = (D : Int))) (h : Ints w a (digs S u)) (h' : Ints w a' (digs S x)) :
    Calls Try.prog 92 #[.slice a S.length c, .slice a' S.length c'] w fun e w' => e = .returned (.int .i64 (D : Int)) ∧ Below w.heap.size w w' := by
  rw [← hD.out, ← diff_digs]
  exact differences_any a a' (digs S u) (digs S x) S.length c S.length c' w (by omega) (digs_length _ _) (digs_length _ _) (Nat.le_refl _) h h'

end Go.Proofs.Ytfgpenldeckoaaa
