/-
  Plain facts on reaches, norms, columns that are led and their errors: no Go, no program. By an AI agent.
-/
import Derived.Test.YtamebfbddoeflaaPkMathB
namespace Go.Proofs.Ytamebfbddoeflaa
set_option linter.unusedVariables false
set_option linter.unusedSimpArgs false
namespace Cv

/-- the reach of a word for the sign d at a place, by the first k words of a code -/
def rcK (S C : List Int) (i : Nat) (x d : Int) : Nat → Int
  | 0 => (S.length : Int) + 1
  | k + 1 => if dig S (gi C k) i = d then min (rcK S C i x d k) (dist S x (gi C k)) else rcK S C i x d k
/-- the reaches for all signs -/
def rcL (S C : List Int) (i : Nat) (x : Int) (k : Nat) : List Int := (List.range (gi S i).toNat).map fun (d : Nat) => rcK S C i x (d : Int) k
/-- the sum of the first k numbers of a list -/
def lsT (L : List Int) : Nat → Int
  | 0 => 0
  | k + 1 => lsT L k + gi L k
/-- the sum of the reaches of a word -/
def rcS (S C : List Int) (i : Nat) (x : Int) : Int := lsT (rcL S C i x C.length) (gi S i).toNat
/-- the greatest one of the sums for the first k words -/
def nrK (S C : List Int) (i : Nat) : Nat → Int
  | 0 => 0
  | k + 1 => max (nrK S C i k) (rcS S C i (k : Int))
/-- the norm of a place -/
def nrm (S C : List Int) (i : Nat) : Int := nrK S C i (nW S).toNat

def eRch (S C : List Int) (i x : Int) : Int := orI (ePlc S C i) (eWords S [x])
def vRch (S C : List Int) (i x : Int) : List Int := if eRch S C i x = 0 then rcL S C i.toNat x C.length else []
def vNrm (S C : List Int) (i : Int) : Int := if ePlc S C i = 0 then nrm S C i.toNat else 0

/-- the error of a space that should be plain, a code of it, at most 8 words and a number -/
def eCs (S C T : List Int) (m : Int) : Int := if isSp S = true then (if codeB S C = true ∧ okW S T T.length = true ∧ T.length ≤ 8 ∧ 0 ≤ m ∧ m ≤ 8 then (if isPl S = true then 0 else 5) else 2) else 1
theorem codeB_nil (S : List Int) : codeB S [] = true := (codeB_iff S []).2 ⟨fun i h => by simp at h, fun i _ h => by simp at h⟩
theorem eCs_zero {S C T : List Int} {m : Int} (h : eCs S C T m = 0) : Pl S ∧ eCode S C = 0 ∧ eWords S T = 0 ∧ T.length ≤ 8 ∧ 0 ≤ m ∧ m ≤ 8 := by
  unfold eCs at h
  split at h
  · rename_i h1
    split at h
    · rename_i h2
      split at h
      · rename_i h3
        exact ⟨pl_of ((isSp_iff S).1 h1) h3, eCode_ok h1 h2.1, eWords_ok h1 ((okW_iff S T _).1 h2.2.1), h2.2.2⟩
      · omega
    · omega
  · omega
/-- as the program asks -/
theorem eCs_prog (S C T : List Int) (m : Int) : eCs S C T m = (if orI (orI (eCW S C T) (eNum S (T.length : Int) 0 8)) (eNum S m 0 8) = 0 ∧ isPl S = false then 5 else orI (orI (eCW S C T) (eNum S (T.length : Int) 0 8)) (eNum S m 0 8)) := by
  unfold eCs
  by_cases hs : isSp S = true
  · rw [if_pos hs]
    by_cases h1 : codeB S C = true
    · by_cases h2 : okW S T T.length = true
      · have e0 : eCW S C T = 0 := by unfold eCW orI; rw [if_pos (eCode_ok hs h1)]; exact eWords_ok hs ((okW_iff S T _).1 h2)
        by_cases h3 : T.length ≤ 8
        · have e1 : eNum S (T.length : Int) 0 8 = 0 := by unfold eNum; rw [if_pos hs, if_pos ⟨by omega, by omega⟩]
          by_cases h4 : 0 ≤ m ∧ m ≤ 8
          · have e2 : eNum S m 0 8 = 0 := by unfold eNum; rw [if_pos hs, if_pos h4]
            rw [if_pos ⟨h1, h2, h3, h4⟩, e0, e1, e2]
            cases hp : isPl S with
            | true => rw [if_pos rfl, if_neg (by simp)]; rfl
            | false => rw [if_neg (by simp), if_pos ⟨rfl, rfl⟩]
          · have e2 : eNum S m 0 8 = 2 := by unfold eNum; rw [if_pos hs, if_neg h4]
            rw [if_neg (fun g => h4 g.2.2.2), e0, e1, e2, if_neg (fun g => absurd g.1 (by decide))]; rfl
        · have e1 : eNum S (T.length : Int) 0 8 = 2 := by unfold eNum; rw [if_pos hs, if_neg (by omega)]
          rw [if_neg (fun g => h3 g.2.2.1), e0, e1, if_neg (fun g => absurd g.1 (by simp [orI]))]; rfl
      · have e0 : eCW S C T = 2 := by unfold eCW orI; rw [if_pos (eCode_ok hs h1)]; unfold eWords; rw [if_pos hs, if_neg h2]
        rw [if_neg (fun g => h2 g.2.1), e0, if_neg (fun g => absurd g.1 (by simp [orI]))]; rfl
    · have e0 : eCW S C T = 2 := by unfold eCW orI; rw [eCode_bad hs (by simpa using h1)]; rfl
      rw [if_neg (fun g => h1 g.1), e0, if_neg (fun g => absurd g.1 (by simp [orI]))]; rfl
  · have hs2 : isSp S = false := by simpa using hs
    have e0 : eCW S C T = 1 := by unfold eCW orI; rw [eCode_inv hs2]; rfl
    rw [if_neg hs, e0, if_neg (fun g => absurd g.1 (by simp [orI]))]; rfl
/-- as the model asks of columns alone -/
theorem eCs_cols (S T : List Int) : eCs S [] T 0 = (if eWords S T = 0 then (if 8 < T.length then 2 else if isPl S = true then 0 else 5) else eWords S T) := by
  unfold eCs
  by_cases hs : isSp S = true
  · rw [if_pos hs]
    by_cases h2 : okW S T T.length = true
    · rw [if_pos (eWords_ok hs ((okW_iff S T _).1 h2))]
      by_cases h3 : T.length ≤ 8
      · rw [if_pos ⟨codeB_nil S, h2, h3, by decide, by decide⟩]
        by_cases h4 : isPl S = true
        · rw [if_pos h4, if_neg (show ¬ 8 < T.length by omega)]
        · rw [if_neg h4, if_neg (show ¬ 8 < T.length by omega)]
      · rw [if_neg (fun g => h3 g.2.2.1), if_pos (by omega)]
    · have e : eWords S T = 2 := by unfold eWords; rw [if_pos hs, if_neg h2]
      rw [if_neg (fun g => h2 g.2.1), e]; rfl
  · have hs2 : isSp S = false := by simpa using hs
    rw [if_neg hs, eWords_inv hs2]; rfl
/-- as the model asks of a set and columns -/
theorem eCs_set (S C T : List Int) : eCs S C T 0 = (if eCs S [] T 0 ≠ 1 ∧ codeB S C = false then 2 else eCs S [] T 0) := by
  by_cases hs : isSp S = true
  · have hne : eCs S [] T 0 ≠ 1 := by unfold eCs; rw [if_pos hs]; split <;> (try split) <;> decide
    cases hc : codeB S C with
    | false => rw [if_pos ⟨hne, rfl⟩]; unfold eCs; rw [if_pos hs, if_neg (by rw [hc]; simp)]
    | true => rw [if_neg (by simp)]; unfold eCs; rw [if_pos hs, if_pos hs, hc, codeB_nil]
  · have hs2 : isSp S = false := by simpa using hs
    have e : ∀ D, eCs S D T 0 = 1 := fun D => by unfold eCs; rw [if_neg hs]
    rw [e, e, if_neg (by simp)]
theorem eCs_m (S C T : List Int) (m : Int) : eCs S C T m = (if eCs S C T 0 ≠ 1 ∧ ¬ (0 ≤ m ∧ m ≤ 8) then 2 else eCs S C T 0) := by
  by_cases hs : isSp S = true
  · have hne : eCs S C T 0 ≠ 1 := by unfold eCs; rw [if_pos hs]; split <;> (try split) <;> decide
    by_cases hm : 0 ≤ m ∧ m ≤ 8
    · rw [if_neg (fun g => g.2 hm)]; unfold eCs; rw [if_pos hs, if_pos hs]
      simp only [hm, and_self, and_true, Int.le_refl, show (0 : Int) ≤ 8 from by decide]
    · rw [if_pos ⟨hne, hm⟩]; unfold eCs; rw [if_pos hs, if_neg (fun g => hm g.2.2.2)]
  · have e : ∀ m, eCs S C T m = 1 := fun m => by unfold eCs; rw [if_neg hs]
    rw [e, e, if_neg (by simp)]

/-- the words that lead: what is left of the number of all words -/
def ldW (S : List Int) : Nat → Int
  | 0 => nW S
  | k + 1 => ldW S k / gi S k
theorem ldW_eq {S : List Int} (hP : Pl S) (k : Nat) (hk : k ≤ S.length) : ldW S k = prodTo S (S.length - k) := by
  induction k with
  | zero => rfl
  | succ k ih =>
    have e : S.length - k = (S.length - (k + 1)) + 1 := by omega
    have g := hP.sp.bd k (by omega)
    have g1 := hP.same k (by omega)
    have g2 := hP.same (S.length - (k + 1)) (by omega)
    rw [ldW, ih (by omega), e, prodTo, g2, ← g1]
    exact Int.mul_ediv_cancel _ (by omega)
theorem ldW_bd {S : List Int} (hP : Pl S) (k : Nat) (hk : k ≤ S.length) : 1 ≤ ldW S k ∧ ldW S k ≤ 1024 := by
  rw [ldW_eq hP k hk]
  have h1 := prodTo_pos S (S.length - k) fun i hi => hP.sp.bd i (by omega)
  have h2 := prodTo_mono S S.length (S.length - k) hP.sp.bd (by omega)
  have := hP.sp.pr
  omega
theorem ldW_last {S : List Int} (hP : Pl S) : ldW S S.length = 1 := by rw [ldW_eq hP _ (Nat.le_refl _), Nat.sub_self]; rfl
theorem ldW_q {S : List Int} (hP : Pl S) (k : Nat) (hk : k < S.length) : ldW S k / gi S 0 = ldW S (k + 1) := by rw [ldW, hP.same k hk]
theorem ldW_end {S : List Int} (hP : Pl S) : ldW S S.length / gi S 0 = 0 := by
  rw [ldW_last hP]; rcases hP.q with h | h <;> rw [h] <;> decide
/-- the word that is looked at behind k leading ones: 0 behind the last one -/
def ldX (S : List Int) (k : Nat) : Int := if k < S.length then ldW S (k + 1) else 0
theorem ldX_bd {S : List Int} (hP : Pl S) (k : Nat) : 0 ≤ ldX S k ∧ ldX S k ≤ 1024 := by
  unfold ldX
  split
  · have := ldW_bd hP (k + 1) (by omega); omega
  · omega
theorem ldX_pos {S : List Int} (hP : Pl S) (k : Nat) (hk : k < S.length) : 0 < ldX S k := by
  unfold ldX; rw [if_pos hk]; have := ldW_bd hP (k + 1) (by omega); omega
theorem ldX_step {S : List Int} (hP : Pl S) (k : Nat) (hk : k < S.length) : ldX S k / gi S 0 = ldX S (k + 1) := by
  unfold ldX; rw [if_pos hk]
  split
  · exact ldW_q hP (k + 1) (by omega)
  · have e : k + 1 = S.length := by omega
    rw [e]; exact ldW_end hP
theorem ldX_zero {S : List Int} (hP : Pl S) : nW S / gi S 0 = ldX S 0 := by
  have := hP.sp.lo
  unfold ldX; rw [if_pos (by omega)]; exact ldW_q hP 0 (by omega)
theorem ldX_out (S : List Int) (k : Nat) (hk : ¬ k < S.length) : ldX S k = 0 := by unfold ldX; rw [if_neg hk]
/-- the leading words -/
def ldL (S : List Int) (k : Nat) : List Int := (List.range k).map fun (j : Nat) => ldW S (j + 1)
theorem ldL_len (S : List Int) (k : Nat) : (ldL S k).length = k := by simp [ldL]
theorem ldL_step (S : List Int) (k : Nat) (hk : k < S.length) : ldL S k ++ [ldX S k] = ldL S (k + 1) := by
  unfold ldL ldX; rw [if_pos hk, List.range_succ, List.map_append]; rfl
theorem gi_ldL (S : List Int) (k j : Nat) (h : j < k) : gi (ldL S k) j = ldW S (j + 1) := by
  rw [gi_lt _ _ (by rw [ldL_len]; exact h)]; simp [ldL]
def ldB (S T : List Int) : Bool := decide (S.length ≤ T.length ∧ ∀ k, k < S.length → gi T k = ldW S (k + 1))
theorem ldB_iff (S T : List Int) : ldB S T = true ↔ S.length ≤ T.length ∧ ∀ k, k < S.length → gi T k = ldW S (k + 1) := by unfold ldB; simp
theorem ldB_short {S T : List Int} (h : ¬ S.length ≤ T.length) : ldB S T = false := by rw [← Bool.not_eq_true, ldB_iff]; exact fun g => h g.1
theorem ldB_not {S T : List Int} {k : Nat} (hk : k < S.length) (h : gi T k ≠ ldW S (k + 1)) : ldB S T = false := by rw [← Bool.not_eq_true, ldB_iff]; exact fun g => h (g.2 k hk)
/-- whether two lists are the same -/
def eqL (A B : List Int) : Bool := decide (A = B)
theorem eqL_len {A B : List Int} (h : A.length ≠ B.length) : eqL A B = false := by unfold eqL; simp; intro g; rw [g] at h; exact h rfl
theorem eqL_at {A B : List Int} {k : Nat} (h : gi A k ≠ gi B k) : eqL A B = false := by unfold eqL; simp; intro g; rw [g] at h; exact h rfl
theorem eqL_all {A B : List Int} (h : A.length = B.length) (g : ∀ k, k < A.length → gi A k = gi B k) : eqL A B = true := by unfold eqL; simp; exact ext_gi h g
theorem ldB_eq {S T : List Int} (h : S.length ≤ T.length) : eqL (T.take S.length) (ldL S S.length) = ldB S T := by
  have hl : (T.take S.length).length = S.length := by simp; omega
  cases hb : ldB S T with
  | true =>
    refine eqL_all (by rw [hl, ldL_len]) fun k hk => ?_
    rw [hl] at hk
    rw [gi_take _ _ _ hk, gi_ldL _ _ _ hk]; exact ((ldB_iff S T).1 hb).2 k hk
  | false =>
    rw [← Bool.not_eq_true] at hb ⊢
    intro g
    unfold eqL at g
    rw [decide_eq_true_eq] at g
    refine hb ((ldB_iff S T).2 ⟨h, fun k hk => ?_⟩)
    rw [← gi_take T _ _ hk, g, gi_ldL _ _ _ hk]
def vLed (S T : List Int) : Bool := if eCs S [] T 0 = 0 then ldB S T else false

end Cv
end Go.Proofs.Ytamebfbddoeflaa
