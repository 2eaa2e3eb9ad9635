/-
  Plain facts on codes by columns: no Go, no program. By an AI agent.
-/
import Derived.Test.YtfgpenldeckoaaaMtt9
namespace Go.Proofs.Ytfgpenldeckoaaa
set_option linter.unusedVariables false
set_option linter.unusedSimpArgs false
namespace Cv

/-- a column added d times -/
def itW (S : List Int) (c u : Int) : Nat → Int
  | 0 => u
  | d + 1 => sumW S (itW S c u d) c
theorem itW_wd {S : List Int} (hS : Sp S) (c : Int) {u : Int} (hu : Wd S u) (d : Nat) : Wd S (itW S c u d) := by
  cases d with
  | zero => exact hu
  | succ d => exact wd_sum hS _ _
/-- the sum of the first k columns, each as often as a digit tells -/
def csF (S T : List Int) (q : Int) : Nat → Int → Int
  | 0, _ => 0
  | k + 1, v => itW S (gi T k) (csF S T q k (v / q)) (v % q).toNat
theorem csF_wd {S : List Int} (hS : Sp S) (T : List Int) (q : Int) (k : Nat) (v : Int) : Wd S (csF S T q k v) := by
  induction k generalizing v with
  | zero => exact wd_0 hS
  | succ k ih => exact itW_wd hS _ (ih _) _
def csL (S T : List Int) (q : Int) (k n : Nat) : List Int := (List.range n).map fun (v : Nat) => csF S T q k (v : Int)
theorem csL_len (S T : List Int) (q : Int) (k n : Nat) : (csL S T q k n).length = n := by simp [csL]
theorem gi_csL (S T : List Int) (q : Int) (k n i : Nat) (h : i < n) : gi (csL S T q k n) i = csF S T q k (i : Int) := by
  rw [gi_lt _ _ (by rw [csL_len]; exact h)]; simp [csL]
theorem csL_one (S T : List Int) (q : Int) : csL S T q 0 1 = [0] := by simp [csL, csF]
theorem csL_zero (S T : List Int) (q : Int) (k : Nat) : csL S T q k 0 = [] := rfl
theorem csL_step (S T : List Int) (Q k i d : Nat) (hd : d < Q) : csL S T (Q : Int) (k + 1) (i * Q + d) ++ [itW S (gi T k) (csF S T (Q : Int) k (i : Int)) d] = csL S T (Q : Int) (k + 1) (i * Q + (d + 1)) := by
  unfold csL
  rw [show i * Q + (d + 1) = (i * Q + d) + 1 from by omega, List.range_succ, List.map_append]
  congr 1
  simp only [List.map_cons, List.map_nil]
  congr 1
  show _ = itW S (gi T k) (csF S T (Q : Int) k (((i * Q + d : Nat) : Int) / (Q : Int))) (((i * Q + d : Nat) : Int) % (Q : Int)).toNat
  have e1 : ((i * Q + d : Nat) : Int) / (Q : Int) = (i : Int) := by
    have : (i * Q + d) / Q = i := by
      rw [Nat.mul_comm, Nat.mul_add_div (by omega)]
      rw [Nat.div_eq_of_lt hd]; rfl
    exact_mod_cast this
  have e2 : ((i * Q + d : Nat) : Int) % (Q : Int) = (d : Int) := by
    have : (i * Q + d) % Q = d := by
      rw [Nat.mul_comm, Nat.mul_add_mod]; exact Nat.mod_eq_of_lt hd
    exact_mod_cast this
  rw [e1, e2, Int.toNat_natCast]
theorem csL_row (S T : List Int) (q : Int) (Q k i : Nat) : csL S T q (k + 1) (i * Q + Q) = csL S T q (k + 1) ((i + 1) * Q) := by rw [Nat.add_mul, Nat.one_mul]

/-- the plain space with n places -/
def plS (n : Nat) (q : Int) : List Int := List.replicate n q
theorem plS_len (n : Nat) (q : Int) : (plS n q).length = n := by simp [plS]
theorem gi_plS (n : Nat) (q : Int) (i : Nat) (h : i < n) : gi (plS n q) i = q := by
  rw [gi_lt _ _ (by rw [plS_len]; exact h)]; simp [plS]
theorem plS_prod (n : Nat) (Q k : Nat) (hk : k ≤ n) : prodTo (plS n (Q : Int)) k = ((Q ^ k : Nat) : Int) := by
  induction k with
  | zero => rfl
  | succ k ih => rw [prodTo, ih (by omega), gi_plS _ _ _ (by omega), Nat.pow_succ]; simp
theorem plS_nW (n Q : Nat) : nW (plS n (Q : Int)) = ((Q ^ n : Nat) : Int) := by
  unfold nW; rw [plS_len]; exact plS_prod n Q n (Nat.le_refl _)
/-- digit by digit -/
theorem cs_dig (S T : List Int) (n : Nat) (Q : Nat) (w : Int) (k : Nat) (hk : k < n) :
    csF S T (Q : Int) (k + 1) (quo (plS n (Q : Int)) w (k + 1)) = itW S (gi T k) (csF S T (Q : Int) k (quo (plS n (Q : Int)) w k)) (dig (plS n (Q : Int)) w k).toNat := by
  have h1 := quo_step (plS n (Q : Int)) w k (by rw [plS_len]; exact hk)
  have h2 := dig_quo (plS n (Q : Int)) w k (by rw [plS_len]; exact hk)
  rw [gi_plS _ _ _ hk] at h1 h2
  rw [csF, h2, ← h1]
theorem cs_all (S T : List Int) (n : Nat) (q w : Int) : csF S T q n (quo (plS n q) w n) = csF S T q n w := by
  have := quo_all (plS n q) w
  rw [plS_len] at this
  rw [this]

def eCc (S C T : List Int) : Int := if eCs S C T 0 = 0 then (if ldB S T = true then (if isSp (plS T.length (gi S 0)) = true then 0 else 3) else 5) else eCs S C T 0
def ccB (S C T : List Int) (u : Nat) : Bool := inL C (csF S T (gi S 0) T.length (u : Int)).toNat
def vCcS (S C T : List Int) : List Int := if eCc S C T = 0 then plS T.length (gi S 0) else []
def vCcC (S C T : List Int) : List Int := if eCc S C T = 0 then selL (ccB S C T) (nW (plS T.length (gi S 0))).toNat else []
theorem eCc_zero {S C T : List Int} (h : eCc S C T = 0) : eCs S C T 0 = 0 ∧ ldB S T = true ∧ Sp (plS T.length (gi S 0)) := by
  unfold eCc at h
  split at h
  · split at h
    · split at h
      · exact ⟨‹_›, ‹_›, (isSp_iff _).1 ‹_›⟩
      · omega
    · omega
  · exact absurd h ‹_›
theorem eCc_1 {S C T : List Int} (h : eCs S C T 0 ≠ 0) : eCc S C T = eCs S C T 0 ∧ vCcS S C T = [] ∧ vCcC S C T = [] := by
  have e : eCc S C T = eCs S C T 0 := by unfold eCc; rw [if_neg h]
  exact ⟨e, by unfold vCcS; rw [if_neg (by rw [e]; exact h)], by unfold vCcC; rw [if_neg (by rw [e]; exact h)]⟩
theorem eCc_2 {S C T : List Int} (h : eCs S C T 0 = 0) (hl : ldB S T = false) : eCc S C T = 5 ∧ vCcS S C T = [] ∧ vCcC S C T = [] := by
  have e : eCc S C T = 5 := by unfold eCc; rw [if_pos h, if_neg (by rw [hl]; decide)]
  exact ⟨e, by unfold vCcS; rw [if_neg (by rw [e]; decide)], by unfold vCcC; rw [if_neg (by rw [e]; decide)]⟩
theorem eCc_3 {S C T : List Int} (h : eCs S C T 0 = 0) (hl : ldB S T = true) (hs : isSp (plS T.length (gi S 0)) = false) : eCc S C T = 3 ∧ vCcS S C T = [] ∧ vCcC S C T = [] := by
  have e : eCc S C T = 3 := by unfold eCc; rw [if_pos h, if_pos hl, if_neg (by rw [hs]; decide)]
  exact ⟨e, by unfold vCcS; rw [if_neg (by rw [e]; decide)], by unfold vCcC; rw [if_neg (by rw [e]; decide)]⟩
theorem eCc_ok {S C T : List Int} (h : eCs S C T 0 = 0) (hl : ldB S T = true) (hs : isSp (plS T.length (gi S 0)) = true) : eCc S C T = 0 ∧ vCcS S C T = plS T.length (gi S 0) ∧ vCcC S C T = selL (ccB S C T) (nW (plS T.length (gi S 0))).toNat := by
  have e : eCc S C T = 0 := by unfold eCc; rw [if_pos h, if_pos hl, if_pos hs]
  exact ⟨e, by unfold vCcS; rw [if_pos e], by unfold vCcC; rw [if_pos e]⟩
theorem vCcS_len (S C T : List Int) : (vCcS S C T).length ≤ 8 := by
  unfold vCcS
  split
  · rename_i h; rw [plS_len]; exact (eCs_zero (eCc_zero h).1).2.2.2.1
  · simp
theorem vCcC_len (S C T : List Int) : (vCcC S C T).length ≤ 1024 := by
  unfold vCcC
  split
  · rename_i h
    have := nW_bd (eCc_zero h).2.2
    have := selL_le (ccB S C T) (nW (plS T.length (gi S 0))).toNat
    omega
  · simp

end Cv
end Go.Proofs.Ytfgpenldeckoaaa
