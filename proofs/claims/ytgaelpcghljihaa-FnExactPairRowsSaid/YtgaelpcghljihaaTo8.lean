/-
  The contracts of TicketOf. By an AI agent.
-/
import Derived.Test.YtgaelpcghljihaaTk8
namespace Go.Proofs.Ytgaelpcghljihaa
open Go.RowKit Cv
set_option linter.unusedVariables false
set_option linter.unusedSimpArgs false
set_option maxRecDepth 100000

def nbB (v x : Int) : Bool := decide (0 ≤ x ∧ x < v)
/-- the sum of 2 to the power of each of the first k numbers -/
def orTo (L : List Int) : Nat → Nat
  | 0 => 0
  | k + 1 => orTo L k ||| 2 ^ (gi L k).toNat
theorem orTo_lt (L : List Int) (k : Nat) (h : ∀ j, j < k → 0 ≤ gi L j ∧ gi L j < 12) : orTo L k < 4096 := by
  induction k with
  | zero => simp [orTo]
  | succ k ih =>
    rw [orTo]
    have h1 := h k (by omega)
    have h2 : 2 ^ (gi L k).toNat < 2 ^ 12 := Nat.pow_lt_pow_right (by omega) (by omega)
    exact Nat.or_lt_two_pow (n := 12) (ih fun j hj => h j (by omega)) h2
def okTo (v p : Int) (N : List Int) : Bool := decide ((N.length : Int) = p) && ascB N N.length && N.all (nbB v)
def eTo (v p d h : Int) (N : List Int) : Int := if lotB v p d h = true then (if okTo v p N = true then 0 else 2) else 1
def vTo (v p d h : Int) (N : List Int) : Int := if eTo v p d h N = 0 then (orTo N N.length : Nat) else 0
theorem okTo_iff (v p : Int) (N : List Int) : okTo v p N = true ↔ (N.length : Int) = p ∧ (∀ i, 0 < i → i < N.length → gi N (i - 1) < gi N i) ∧ ∀ j, j < N.length → 0 ≤ gi N j ∧ gi N j < v := by
  unfold okTo
  rw [Bool.and_eq_true, Bool.and_eq_true, decide_eq_true_iff, ascB_iff, all_gi]
  unfold nbB
  simp only [decide_eq_true_iff]
  exact ⟨fun h => ⟨h.1.1, h.1.2, h.2⟩, fun h => ⟨⟨h.1, h.2.1⟩, h.2.2⟩⟩
theorem eTo_inv {v p d h : Int} (g : lotB v p d h = false) (N : List Int) : eTo v p d h N = 1 ∧ vTo v p d h N = 0 := by
  have e : eTo v p d h N = 1 := by unfold eTo; rw [g]; rfl
  exact ⟨e, by unfold vTo; rw [e]; rfl⟩
theorem eTo_bad {v p d h : Int} (g : lotB v p d h = true) {N : List Int} (b : okTo v p N = false) : eTo v p d h N = 2 ∧ vTo v p d h N = 0 := by
  have e : eTo v p d h N = 2 := by unfold eTo; rw [if_pos g, b]; rfl
  exact ⟨e, by unfold vTo; rw [e]; rfl⟩
theorem eTo_ok {v p d h : Int} (g : lotB v p d h = true) {N : List Int} (b : okTo v p N = true) : eTo v p d h N = 0 ∧ vTo v p d h N = (orTo N N.length : Nat) := by
  have e : eTo v p d h N = 0 := by unfold eTo; rw [if_pos g, if_pos b]
  exact ⟨e, by unfold vTo; rw [if_pos e]⟩
theorem okTo_not {v p : Int} {N : List Int} (n : ¬ ((N.length : Int) = p ∧ (∀ i, 0 < i → i < N.length → gi N (i - 1) < gi N i) ∧ ∀ j, j < N.length → 0 ≤ gi N j ∧ gi N j < v)) : okTo v p N = false := by
  rw [← Bool.not_eq_true, okTo_iff]; exact n

theorem shl_tw0 {v : Int} (h : 0 ≤ v ∧ v ≤ 12) : IntKind.i64.wrap (1 * 2 ^ v.toNat) = tw v ∧ IntKind.i64.wrap (2 ^ v.toNat) = tw v ∧ IntKind.u64.wrap v = v ∧ IntKind.i64.wrap (2 ^ min v.toNat 64) = tw v ∧ wrap64 (2 ^ v.toNat) = tw v := by
  rcases (show v = 0 ∨ v = 1 ∨ v = 2 ∨ v = 3 ∨ v = 4 ∨ v = 5 ∨ v = 6 ∨ v = 7 ∨ v = 8 ∨ v = 9 ∨ v = 10 ∨ v = 11 ∨ v = 12 by omega) with rfl | rfl | rfl | rfl | rfl | rfl | rfl | rfl | rfl | rfl | rfl | rfl | rfl <;> exact ⟨by decide, by decide, by decide, by decide, by unfold wrap64; decide⟩
theorem bits_orN {a b : Nat} (ha : a < 4096) (hb : b < 4096) : bits .or .i64 (a : Int) (b : Int) = ((a ||| b : Nat) : Int) := by
  have h : a ||| b < 2 ^ 12 := Nat.or_lt_two_pow (n := 12) ha hb
  show IntKind.i64.wrap (((BitVec.ofInt 64 (a : Int) ||| BitVec.ofInt 64 (b : Int)).toNat : Nat) : Int) = _
  rw [BitVec.toNat_or, bv_nat a (by omega), bv_nat b (by omega), IntWalk.i64_in _ ⟨by omega, by omega⟩]
theorem or_step {L : List Int} {k : Nat} (h : ∀ j, j < k → 0 ≤ gi L j ∧ gi L j < 12) (hk : 0 ≤ gi L k ∧ gi L k < 12) : bits .or .i64 (orTo L k : Nat) (tw (gi L k)) = ((orTo L (k + 1) : Nat) : Int) := by
  have h2 : 2 ^ (gi L k).toNat < 2 ^ 12 := Nat.pow_lt_pow_right (by omega) (by omega)
  rw [tw_nat, bits_orN (orTo_lt L k h) h2]
  rfl

end Go.Proofs.Ytgaelpcghljihaa
