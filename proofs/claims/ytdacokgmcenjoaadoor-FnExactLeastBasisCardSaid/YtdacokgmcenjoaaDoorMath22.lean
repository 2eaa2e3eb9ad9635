/-
  Plain facts on the place of the sum. By an AI agent.
-/
import Derived.Test.YtdacokgmcenjoaaDoorMath21
namespace Go.Proofs.YtdacokgmcenjoaaDoor
set_option linter.unusedVariables false
set_option linter.unusedSimpArgs false
namespace Cv

/-- the sum of the first k numbers -/
def sumTo (T : List Int) : Nat → Int
  | 0 => 0
  | k + 1 => sumTo T k + gi T k
theorem sumTo_bd (T : List Int) (h : ∀ i, i < T.length → 0 ≤ gi T i ∧ gi T i ≤ 4) (k : Nat) (hk : k ≤ T.length) : 0 ≤ sumTo T k ∧ sumTo T k ≤ 4 * k := by
  induction k with
  | zero => simp [sumTo]
  | succ k ih => have := ih (by omega); have := h k (by omega); rw [sumTo]; omega
/-- the digits with the rest of their sum behind -/
def addD (q : Int) (T : List Int) : List Int := T ++ [sumTo T T.length % q]
theorem wordTo_app (S D : List Int) (q r : Int) (hl : D.length = S.length) (k : Nat) (hk : k ≤ S.length) : wordTo (S ++ [q]) (D ++ [r]) k = wordTo S D k := by
  induction k with
  | zero => rfl
  | succ k ih => rw [wordTo, wordTo, ih (by omega), gi_append_lt _ _ _ (by omega), gi_append_lt _ _ _ (by omega)]
theorem wordTo_snoc (S D : List Int) (q r : Int) (hl : D.length = S.length) : wordTo (S ++ [q]) (D ++ [r]) (S ++ [q]).length = wordTo S D S.length * q + r := by
  rw [List.length_append, List.length_singleton, wordTo, wordTo_app S D q r hl _ (Nat.le_refl _), gi_append_ge _ _ _ (Nat.le_refl _), ← hl, gi_append_ge _ _ _ (Nat.le_refl _), hl]
  simp [gi]
/-- the code with the rest of the sum of all digits behind -/
def addC (S C : List Int) (q : Int) : List Int := C.map fun c => c * q + sumTo (digs S c) S.length % q
theorem addC_word {S : List Int} (hS : Sp S) (C : List Int) (q : Int) (hC : ∀ i, i < C.length → 0 ≤ gi C i ∧ gi C i < prodTo S S.length) :
    (C.map fun c => wordTo (S ++ [q]) (addD q (digs S c)) (S ++ [q]).length) = addC S C q := by
  unfold addC
  refine List.map_congr_left fun c hc => ?_
  obtain ⟨i, hi, e⟩ := mem_gi hc
  have h := hC i hi
  rw [e] at h
  unfold addD
  rw [wordTo_snoc _ _ _ _ (digs_length S c), wordTo_digs S c hS h.1 h.2, digs_length]
theorem gi_addC (S C : List Int) (q : Int) (i : Nat) (hi : i < C.length) : gi (addC S C q) i = gi C i * q + sumTo (digs S (gi C i)) S.length % q := by
  unfold addC gi; simp [List.getD_eq_getElem?_getD, hi]
theorem addC_len (S C : List Int) (q : Int) : (addC S C q).length = C.length := by simp [addC]
theorem asc_addC (S C : List Int) (q : Int) (hq : 2 ≤ q) (hC : Asc C) : Asc (addC S C q) := by
  refine asc_of fun i h1 h2 => ?_
  rw [addC_len] at h2
  rw [gi_addC _ _ _ _ (by omega), gi_addC _ _ _ _ h2]
  have h := asc_lt hC (show i - 1 < i by omega) h2
  have m1 := Int.emod_lt_of_pos (sumTo (digs S (gi C (i - 1))) S.length) (show 0 < q by omega)
  have m2 := Int.emod_nonneg (sumTo (digs S (gi C i)) S.length) (show q ≠ 0 by omega)
  have m3 : (gi C (i - 1) + 1) * q ≤ gi C i * q := Int.mul_le_mul_of_nonneg_right (by omega) (by omega)
  rw [Int.add_mul, Int.one_mul] at m3
  omega
/-- a list that ascends is left as it is by sorting and compacting -/
theorem cmp_asc {L : List Int} (h : Asc L) : cmpT (sorted L) L.length = L := by
  refine asc_ext (asc_cmpT (sorted_le L) _ (by rw [sorted_len]; exact Nat.le_refl _)) h fun y => ?_
  rw [mem_cmpT]
  constructor
  · rintro ⟨i, hi, rfl⟩
    exact (mem_sorted L _).1 (gi_mem (by rw [sorted_len]; exact hi))
  · intro hy
    obtain ⟨j, hj, e⟩ := mem_gi ((mem_sorted L y).2 hy)
    exact ⟨j, by rw [sorted_len] at hj; exact hj, e.symm⟩
/-- what the program makes is what the model makes -/
theorem add_same {S C : List Int} (q : Int) (hS : Sp S) (hq : 2 ≤ q) (hC : Asc C) (hb : ∀ i, i < C.length → 0 ≤ gi C i ∧ gi C i < prodTo S S.length) :
    cmpT (sorted (C.map fun c => wordTo (S ++ [q]) (addD q (digs S c)) (S ++ [q]).length)) C.length = addC S C q := by
  rw [addC_word hS C q hb, ← addC_len S C q]
  have := cmp_asc (asc_addC S C q hq hC)
  rw [addC_len] at this ⊢
  exact this

/-- the code of AddSumPlace, and its results -/
def eAdd (S C : List Int) (q : Int) : Int := if eCode S C ≠ 0 then eCode S C else if q < 2 ∨ 4 < q then 2 else if isSp (S ++ [q]) = true then 0 else 3
def vAddS (S C : List Int) (q : Int) : List Int := if eAdd S C q = 0 then S ++ [q] else []
def vAddC (S C : List Int) (q : Int) : List Int := if eAdd S C q = 0 then addC S C q else []
theorem eAdd_zero {S C : List Int} {q : Int} (h : eAdd S C q = 0) : eCode S C = 0 ∧ (2 ≤ q ∧ q ≤ 4) ∧ isSp (S ++ [q]) = true := by
  unfold eAdd at h
  split at h
  · rename_i h1; exact absurd h h1
  · rename_i h1
    split at h
    · cases h
    · rename_i h2
      split at h
      · rename_i h3; exact ⟨Classical.not_not.1 h1, by omega, h3⟩
      · cases h
theorem vAddS_len (S C : List Int) (q : Int) : (vAddS S C q).length ≤ 8 := by
  unfold vAddS
  split
  · rename_i h; exact ((isSp_iff _).1 (eAdd_zero h).2.2).hi
  · simp
theorem vAddC_len (S C : List Int) (q : Int) : (vAddC S C q).length ≤ 1048576 := by
  unfold vAddC
  split
  · rename_i h; rw [addC_len]; have := code_len0 (eAdd_zero h).1; omega
  · simp

end Cv
end Go.Proofs.YtdacokgmcenjoaaDoor
