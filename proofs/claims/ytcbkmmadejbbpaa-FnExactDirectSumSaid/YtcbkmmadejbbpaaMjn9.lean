/-
  Plain facts on codes joined over a place: no Go, no program. By an AI agent.
-/
import Derived.Test.YtcbkmmadejbbpaaMathB
namespace Go.Proofs.Ytcbkmmadejbbpaa
set_option linter.unusedVariables false
set_option linter.unusedSimpArgs false
namespace Cv

def eBo (S C X D : List Int) : Int := if isSp S = true ∧ isSp X = true then (if codeB S C = true ∧ codeB X D = true then 0 else 2) else 1
theorem eBo_zero {S C X D : List Int} (h : eBo S C X D = 0) : eCode S C = 0 ∧ eCode X D = 0 := by
  unfold eBo at h
  split at h
  · rename_i h1
    split at h
    · rename_i h2; exact ⟨eCode_ok h1.1 h2.1, eCode_ok h1.2 h2.2⟩
    · omega
  · omega
theorem eBo_or {S C X D : List Int} (h1 : isSp S = true) (h2 : isSp X = true) : eBo S C X D = orI (eCode S C) (eCode X D) := by
  unfold eBo orI
  rw [if_pos ⟨h1, h2⟩]
  cases hc : codeB S C with
  | true =>
    rw [eCode_ok h1 hc, if_pos rfl]
    cases hd : codeB X D with
    | true => rw [eCode_ok h2 hd]; simp
    | false => rw [eCode_bad h2 hd]; simp
  | false => rw [eCode_bad h1 hc]; simp
/-- the last place and the first one -/
def jnB (S X : List Int) : Bool := gi S (S.length - 1) == gi X 0
def jnS (S X : List Int) : List Int := S ++ X.drop 1
def eJn (S C X D : List Int) : Int := if eBo S C X D = 0 then (if jnB S X = true then (if isSp (jnS S X) = true then 0 else 3) else 5) else eBo S C X D
def jnR (q r u : Int) (D : List Int) : Nat → List Int
  | 0 => []
  | k + 1 => jnR q r u D k ++ (if u % q = gi D k / r then [u * r + gi D k % r] else [])
theorem jnR_len (q r u : Int) (D : List Int) (k : Nat) : (jnR q r u D k).length ≤ k := by
  induction k with
  | zero => simp [jnR]
  | succ k ih => rw [jnR, List.length_append]; split <;> simp <;> omega
def jnW (q r : Int) (C D : List Int) : Nat → List Int
  | 0 => []
  | k + 1 => jnW q r C D k ++ jnR q r (gi C k) D D.length
def jnI (q r : Int) (C D : List Int) (k i : Nat) : List Int := jnW q r C D k ++ jnR q r (gi C k) D i
theorem jnI_0 (q r : Int) (C D : List Int) (k : Nat) : jnI q r C D k 0 = jnW q r C D k := by simp [jnI, jnR]
theorem jnI_all (q r : Int) (C D : List Int) (k : Nat) : jnI q r C D k D.length = jnW q r C D (k + 1) := rfl
theorem jnI_yes (q r : Int) (C D : List Int) (k i : Nat) (h : gi C k % q = gi D i / r) : jnI q r C D k i ++ [gi C k * r + gi D i % r] = jnI q r C D k (i + 1) := by
  unfold jnI; rw [jnR, if_pos h, List.append_assoc]
theorem jnI_no (q r : Int) (C D : List Int) (k i : Nat) (h : ¬ gi C k % q = gi D i / r) : jnI q r C D k i = jnI q r C D k (i + 1) := by
  unfold jnI; rw [jnR, if_neg h, List.append_nil]
theorem jnW_len (q r : Int) (C D : List Int) (k : Nat) (hD : D.length ≤ 1024) : (jnW q r C D k).length ≤ k * 1024 := by
  induction k with
  | zero => simp [jnW]
  | succ k ih => rw [jnW, List.length_append]; have := jnR_len q r (gi C k) D D.length; omega
theorem jnI_len (q r : Int) (C D : List Int) (k i : Nat) (hD : D.length ≤ 1024) (hi : i ≤ D.length) (hk : k ≤ 1024) : (jnI q r C D k i).length ≤ 1049600 := by
  unfold jnI; rw [List.length_append]
  have := jnR_len q r (gi C k) D i
  have := jnW_len q r C D k hD
  omega
def jnQ (X : List Int) : Int := nW X / gi X 0
def vJnS (S C X D : List Int) : List Int := if eJn S C X D = 0 then jnS S X else []
def vJnC (S C X D : List Int) : List Int := if eJn S C X D = 0 then jnW (gi X 0) (jnQ X) C D C.length else []
theorem eJn_zero {S C X D : List Int} (h : eJn S C X D = 0) : eBo S C X D = 0 ∧ jnB S X = true ∧ Sp (jnS S X) := by
  unfold eJn at h
  split at h
  · split at h
    · split at h
      · exact ⟨‹_›, ‹_›, (isSp_iff _).1 ‹_›⟩
      · omega
    · omega
  · exact absurd h ‹_›
theorem eJn_1 {S C X D : List Int} (h : eBo S C X D ≠ 0) : eJn S C X D = eBo S C X D ∧ vJnS S C X D = [] ∧ vJnC S C X D = [] := by
  have e : eJn S C X D = eBo S C X D := by unfold eJn; rw [if_neg h]
  exact ⟨e, by unfold vJnS; rw [if_neg (by rw [e]; exact h)], by unfold vJnC; rw [if_neg (by rw [e]; exact h)]⟩
theorem eJn_2 {S C X D : List Int} (h : eBo S C X D = 0) (hl : jnB S X = false) : eJn S C X D = 5 ∧ vJnS S C X D = [] ∧ vJnC S C X D = [] := by
  have e : eJn S C X D = 5 := by unfold eJn; rw [if_pos h, if_neg (by rw [hl]; decide)]
  exact ⟨e, by unfold vJnS; rw [if_neg (by rw [e]; decide)], by unfold vJnC; rw [if_neg (by rw [e]; decide)]⟩
theorem eJn_3 {S C X D : List Int} (h : eBo S C X D = 0) (hl : jnB S X = true) (hs : isSp (jnS S X) = false) : eJn S C X D = 3 ∧ vJnS S C X D = [] ∧ vJnC S C X D = [] := by
  have e : eJn S C X D = 3 := by unfold eJn; rw [if_pos h, if_pos hl, if_neg (by rw [hs]; decide)]
  exact ⟨e, by unfold vJnS; rw [if_neg (by rw [e]; decide)], by unfold vJnC; rw [if_neg (by rw [e]; decide)]⟩
theorem eJn_ok {S C X D : List Int} (h : eBo S C X D = 0) (hl : jnB S X = true) (hs : isSp (jnS S X) = true) : eJn S C X D = 0 ∧ vJnS S C X D = jnS S X ∧ vJnC S C X D = jnW (gi X 0) (jnQ X) C D C.length := by
  have e : eJn S C X D = 0 := by unfold eJn; rw [if_pos h, if_pos hl, if_pos hs]
  exact ⟨e, by unfold vJnS; rw [if_pos e], by unfold vJnC; rw [if_pos e]⟩
theorem vJnS_len (S C X D : List Int) : (vJnS S C X D).length ≤ 8 := by
  unfold vJnS
  split
  · rename_i h; exact (eJn_zero h).2.2.hi
  · simp
theorem vJnC_len (S C X D : List Int) : (vJnC S C X D).length ≤ 1048576 := by
  unfold vJnC
  split
  · rename_i h
    obtain ⟨h1, h2⟩ := eBo_zero (eJn_zero h).1
    have a := code_len0 h1
    have b := code_len0 h2
    have := jnW_len (gi X 0) (jnQ X) C D C.length b
    omega
  · simp

end Cv
end Go.Proofs.Ytcbkmmadejbbpaa
