/-
  The contracts of CommonNumbers and PrizesOf. By an AI agent.
-/
import Derived.Test.YtgaelpcghljihaaTm8
namespace Go.Proofs.Ytgaelpcghljihaa
open Go.RowKit Cv
set_option linter.unusedVariables false
set_option linter.unusedSimpArgs false
set_option maxRecDepth 100000

theorem bsum_and (a b k : Nat) : bsum (a &&& b) k ≤ bsum a k := by
  induction k with
  | zero => exact Nat.le_refl _
  | succ k ih =>
    rw [bsum, bsum, bit_and]
    have : a / 2 ^ k % 2 * (b / 2 ^ k % 2) ≤ a / 2 ^ k % 2 * 1 := Nat.mul_le_mul_left _ (by omega)
    omega
theorem pc_and (a b : Nat) : pc (a &&& b) ≤ pc a := bsum_and a b 12
theorem setB_nat {v k x : Int} (hv : 1 ≤ v ∧ v ≤ 12) (h : setB v k x = true) : ∃ m : Nat, x = m ∧ m < 4096 ∧ (pc m : Int) = k := by
  have := tw_bd hv
  obtain ⟨h1, h2⟩ := (setB_iff v k x).1 h
  exact ⟨x.toNat, by omega, by omega, h2⟩
theorem eTk_zero {v p d h : Int} {T D : List Int} (e : eTk v p d h T D = 0) : lotB v p d h = true ∧ T.length ≤ 200 ∧ tkB v p T = true ∧ D.all (setB v d) = true := by
  unfold eTk at e
  by_cases g : lotB v p d h = true
  · rw [if_pos g] at e
    split at e
    · next hh => simp only [Bool.and_eq_true, decide_eq_true_iff] at hh; exact ⟨g, hh.1.1, hh.1.2, hh.2⟩
    · cases e
  · rw [if_neg g] at e; cases e
theorem lot_v {v p d h : Int} (g : lotB v p d h = true) : 1 ≤ v ∧ v ≤ 12 := by have l := (lot_iff v p d h).1 g; exact ⟨l.v1, l.v2⟩
theorem eTk_draw {v p d h x : Int} {T : List Int} (e : eTk v p d h T [x] = 0) : ∃ q : Nat, x = q ∧ q < 4096 := by
  obtain ⟨g, _, _, h4⟩ := eTk_zero e
  rw [List.all_cons, List.all_nil, Bool.and_true] at h4
  obtain ⟨q, h5, h6, _⟩ := setB_nat (lot_v g) h4
  exact ⟨q, h5, h6⟩
theorem eTk_at {v p d h : Int} {T D : List Int} (e : eTk v p d h T D = 0) {k : Nat} (hk : k < T.length) : ∃ m : Nat, gi T k = m ∧ m < 4096 ∧ (pc m : Int) = p := by
  obtain ⟨g, _, h3, _⟩ := eTk_zero e
  exact setB_nat (lot_v g) (((tkB_iff v p T).1 h3).2 k hk)
theorem eTk_ne {v p d h : Int} {T D : List Int} : eTk v p d h T D = 0 ∨ eTk v p d h T D = 1 ∨ eTk v p d h T D = 2 := by
  unfold eTk; split
  · split <;> simp
  · simp

/-- how many numbers a ticket and a draw have in common -/
def cmN (t x : Int) : Nat := pc (t.toNat &&& x.toNat)
def vCn (v p d h t x : Int) : Int := if eTk v p d h [t] [x] = 0 then (cmN t x : Nat) else 0

theorem ticketsError_n (v p d h : Int) (a : Option Addr) (T : List Int) (n cap : Nat) (hK : n = T.length) (hn : n ≤ 4294967296) (b : Option Addr) (D : List Int) (m capd : Nat) (hM : m = D.length) (hnd : m ≤ 4294967296) (w : World) (hT : Ints w a T) (hD : Ints w b D) :
    Calls Try.prog 60 #[.agg #[.int .i64 v, .int .i64 p, .int .i64 d, .int .i64 h], .slice a n cap, .slice b m capd] w fun e w' => e = .returned (.int .i64 (eTk v p d h T D)) ∧ Below w.heap.size w w' := by
  subst hK hM; exact ticketsError_any v p d h a T cap hn b D capd hnd w hT hD

theorem eTk_one (v p d h t x : Int) (g : lotB v p d h = true) : eTk v p d h [t] [x] = if setB v p t = true then (if setB v d x = true then 0 else 2) else 2 := by
  unfold eTk
  rw [if_pos g, tkB_one]
  cases setB v p t <;> cases hs : setB v d x <;> simp [hs]

end Go.Proofs.Ytgaelpcghljihaa
