/-
  The contracts of what the laws of whole promises ask about lists: is the code long, are two lists the same, is a number in a list. By an AI agent.
-/
import Derived.Test.YtlhapanfegjafaaHelp
namespace Go.Proofs.Ytlhapanfegjafaa
open Go.RowKit Cv
set_option linter.unusedVariables false
set_option linter.unusedSimpArgs false
set_option maxRecDepth 100000

theorem big_any (a : Option Addr) (n cap : Nat) (w : World) :
    Calls Try.prog 4 #[.slice a n cap] w fun e w' => e = .returned (.bool (decide (4096 < n))) ∧ Below w.heap.size w w' := by
  have e1 : decide ((4096 : Int) < (n : Int)) = decide (4096 < n) := by
    by_cases h : 4096 < n
    · rw [decide_eq_true h, decide_eq_true (by omega)]
    · rw [decide_eq_false h, decide_eq_false (by omega)]
  by_cases h : 4096 < n
  · have i1 : (4096 : Int) < (n : Int) := by omega
    rw [decide_eq_true h]
    clear e1 h
    go_enter Try.func4, Try.ntmps4
    go_wp2_with fail
    go_ret
    exact ⟨rfl, Below.refl _ _⟩
  · have i1 : ¬ (4096 : Int) < (n : Int) := by omega
    rw [decide_eq_false h]
    clear e1 h
    go_enter Try.func4, Try.ntmps4
    go_wp2_with fail
    go_ret
    exact ⟨rfl, Below.refl _ _⟩

theorem likeInts_same (a a' : Option Addr) (S : List Int) (c c' : Nat) (w : World) (hn : S.length ≤ 4294967296) (h : Ints w a S) (h' : Ints w a' S) :
    Calls Try.prog 8 #[.slice a S.length c, .slice a' S.length c'] w fun e w' => e = .returned (.bool true) ∧ Below w.heap.size w w' := by
  go_enter Try.func8, Try.ntmps8
  go_wp2
  go_loopw [5] (fun i wr => ∃ k : Nat, k ≤ S.length ∧ i = .int .i64 k ∧ Below w.heap.size w wr) (fun i _ => S.length - (intOf i).toNat)
  case atStart => exact ⟨0, Nat.zero_le _, rfl, Below.refl _ _⟩
  case round =>
    obtain ⟨k, hk, rfl, hbel⟩ := hrel
    by_cases hlt : k < S.length
    · obtain ⟨b, o, rfl, hb, hc⟩ := h.at hlt
      obtain ⟨b', o', rfl, hb', hc'⟩ := h'.at hlt
      have hck : wr.cell? ⟨b, o + k, none⟩ = some (.int .i64 (gi S k)) := (hbel.cell (p := ⟨b, o + k, none⟩) hb).trans (hc k hlt)
      have hck' : wr.cell? ⟨b', o' + k, none⟩ = some (.int .i64 (gi S k)) := (hbel.cell (p := ⟨b', o' + k, none⟩) hb').trans (hc' k hlt)
      clear hc hc'
      go_wp2
      go_quiet (fail)
      go_wp2
      go_roundw
      case rel => exact ⟨k + 1, by omega, by go_num, below_drewN hbel _⟩
      case measure => simp [intOf]; omega
    · go_wp2
      go_ret
      exact ⟨rfl, hbel⟩

/-- is x among the first k numbers of S -/
def hasTo (S : List Int) (x : Int) : Nat → Bool
  | 0 => false
  | k + 1 => hasTo S x k || gi S k == x
theorem hasTo_iff (S : List Int) (x : Int) : ∀ k, hasTo S x k = true ↔ ∃ j, j < k ∧ gi S j = x := by
  intro k
  induction k with
  | zero => simp [hasTo]
  | succ k ih =>
    simp only [hasTo, Bool.or_eq_true, ih, beq_iff_eq]
    constructor
    · rintro (⟨j, hj, e⟩ | e)
      · exact ⟨j, by omega, e⟩
      · exact ⟨k, by omega, e⟩
    · rintro ⟨j, hj, e⟩
      by_cases h : j = k
      · subst h; exact .inr e
      · exact .inl ⟨j, by omega, e⟩
theorem hasTo_mono {S : List Int} {x : Int} {k n : Nat} (h : k ≤ n) (hk : hasTo S x k = true) : hasTo S x n = true := by
  obtain ⟨j, hj, e⟩ := (hasTo_iff S x k).1 hk
  exact (hasTo_iff S x n).2 ⟨j, by omega, e⟩
end Go.Proofs.Ytlhapanfegjafaa
