/-
  The contracts of RankOfTicket. By an AI agent.
-/
import Derived.Test.YtgaelpcghljihaaBs8
import Derived.Test.YtgaelpcghljihaaPr8
namespace Go.Proofs.Ytgaelpcghljihaa
open Go.RowKit Cv
set_option linter.unusedVariables false
set_option linter.unusedSimpArgs false
set_option maxRecDepth 100000

theorem bit_test {m : Nat} (hm : m < 4096) (k : Nat) : bits .and .i64 ((m : Int) / 2 ^ k) 1 = ((m / 2 ^ k % 2 : Nat) : Int) := by
  have hsh : ((m : Int) / 2 ^ k) = ((m / 2 ^ k : Nat) : Int) := by push_cast; rfl
  have hlo : m / 2 ^ k < 4096 := Nat.lt_of_le_of_lt (Nat.div_le_self _ _) hm
  rw [hsh]
  have := bits_andN (a := m / 2 ^ k) (b := 1) (by omega) (by omega)
  rw [Nat.and_one_is_mod] at this
  exact this
theorem cb_le (k n : Nat) : cb k n ≤ n := by
  induction n with
  | zero => exact Nat.le_refl _
  | succ n ih => rw [cb]; split <;> omega

theorem eTk_tick (v p d h t : Int) (g : lotB v p d h = true) : eTk v p d h [t] [] = if setB v p t = true then 0 else 2 := by
  unfold eTk
  rw [if_pos g, tkB_one]
  cases setB v p t <;> simp
def vRk (v p d h t : Int) : Int := if eTk v p d h [t] [] = 0 then (cb p.toNat t.toNat : Nat) else 0

end Go.Proofs.Ytgaelpcghljihaa
