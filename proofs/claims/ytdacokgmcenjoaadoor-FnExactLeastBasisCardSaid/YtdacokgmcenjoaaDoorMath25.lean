/-
  Plain facts on how a span is made wider. By an AI agent.
-/
import Derived.Test.YtdacokgmcenjoaaDoorMath24
namespace Go.Proofs.YtdacokgmcenjoaaDoor
set_option linter.unusedVariables false
set_option linter.unusedSimpArgs false
namespace Cv

/-- a word added to itself k times -/
def mulW (S : List Int) (x : Int) : Nat → Int
  | 0 => x
  | k + 1 => sumW S (mulW S x k) x
/-- a list and behind it its sums with the first k of these -/
def widL (S L : List Int) (x : Int) : Nat → List Int
  | 0 => L
  | k + 1 => widL S L x k ++ shL S L (mulW S x k)
def widI (S L : List Int) (x : Int) (k i : Nat) : List Int := widL S L x k ++ (L.take i).map fun u => sumW S u (mulW S x k)
theorem widI_0 (S L : List Int) (x : Int) (k : Nat) : widI S L x k 0 = widL S L x k := by simp [widI]
theorem widI_step (S L : List Int) (x : Int) (k i : Nat) (hi : i < L.length) : widI S L x k (i + 1) = widI S L x k i ++ [sumW S (gi L i) (mulW S x k)] := by
  unfold widI; rw [take_snoc L i hi, List.map_append, List.append_assoc]; rfl
theorem widI_all (S L : List Int) (x : Int) (k : Nat) : widI S L x k L.length = widL S L x (k + 1) := by unfold widI; rw [List.take_length]; rfl
theorem widL_len (S L : List Int) (x : Int) (k : Nat) : (widL S L x k).length = (k + 1) * L.length := by
  induction k with
  | zero => simp [widL]
  | succ k ih => rw [widL, List.length_append, ih, shL, List.length_map, Nat.add_mul (k + 1) 1 L.length, Nat.one_mul]
theorem widI_len (S L : List Int) (x : Int) (k i : Nat) : (widI S L x k i).length ≤ (k + 2) * L.length := by
  unfold widI
  rw [List.length_append, widL_len, List.length_map, List.length_take, Nat.add_mul k 2, Nat.add_mul k 1]; omega
def qN (S : List Int) : Nat := (gi S 0).toNat - 1
theorem qN_bd {S : List Int} (hP : Pl S) : qN S = 1 ∨ qN S = 2 := by unfold qN; rcases hP.q with h | h <;> rw [h] <;> simp
theorem mul_wd {S : List Int} (hS : Sp S) {x : Int} (hx : Wd S x) (k : Nat) : Wd S (mulW S x k) := by
  cases k with
  | zero => exact hx
  | succ k => exact wd_sum hS _ _
theorem mul_end {S : List Int} (hP : Pl S) (x : Int) : mulW S x (qN S) = 0 := by
  rcases hP.q with h | h
  · have e : qN S = 1 := by unfold qN; rw [h]; rfl
    rw [e]; exact two_2 hP h x
  · have e : qN S = 2 := by unfold qN; rw [h]; rfl
    rw [e]; exact three_3 hP h x
theorem mul_ne {S : List Int} (hP : Pl S) {x : Int} (hx : Wd S x) (h0 : x ≠ 0) (k : Nat) (hk : k < qN S) : mulW S x k ≠ 0 := by
  rcases hP.q with h | h
  · have e : qN S = 1 := by unfold qN; rw [h]; rfl
    have : k = 0 := by omega
    subst this; exact h0
  · have e : qN S = 2 := by unfold qN; rw [h]; rfl
    have : k = 0 ∨ k = 1 := by omega
    rcases this with rfl | rfl
    · exact h0
    · exact two_ne hP h hx h0
theorem wid_end {S : List Int} (hP : Pl S) (L : List Int) (x : Int) : widL S L x (qN S) = spW S L x := by
  unfold spW
  rcases hP.q with h | h
  · have e : qN S = 1 := by unfold qN; rw [h]; rfl
    rw [e, if_neg (by omega)]; rfl
  · have e : qN S = 2 := by unfold qN; rw [h]; rfl
    rw [e, if_pos h]; rfl

/-- the error of a plain space, at most 20 words of it and another word -/
def eSyn (S G : List Int) (x : Int) : Int := if orI (eWords S G) (eWords S [x]) = 0 then (if 20 < G.length then 2 else if isPl S = true then 0 else 5) else orI (eWords S G) (eWords S [x])
theorem orI_zero {a b : Int} (h : orI a b = 0) : a = 0 ∧ b = 0 := by
  unfold orI at h
  split at h
  · rename_i g; exact ⟨g, h⟩
  · rename_i g; exact absurd h g
theorem eSyn_sp {S G : List Int} {x : Int} (h : orI (eWords S G) (eWords S [x]) = 0) : Sp S := (eWords_zero (orI_zero h).1).1
/-- as the model asks -/
theorem eSyn_model (S G : List Int) (x : Int) : eSyn S G x = if eWords S [x] = 0 then eSpan S G else eWords S [x] := by
  unfold eSyn
  by_cases h1 : eWords S [x] = 0
  · rw [if_pos h1, h1]
    unfold eSpan
    by_cases h2 : eWords S G = 0
    · rw [if_pos h2, if_pos (show orI (eWords S G) 0 = 0 by unfold orI; rw [if_pos h2])]
    · rw [if_neg h2, if_neg (show ¬ orI (eWords S G) 0 = 0 by unfold orI; rw [if_neg h2]; exact h2)]
      unfold orI; rw [if_neg h2]
  · rw [if_neg h1]
    have e : orI (eWords S G) (eWords S [x]) = eWords S [x] := by
      unfold orI
      split
      · rfl
      · rename_i h2
        by_cases hs : isSp S = true
        · rcases eWords_or S G with g | g | g
          · exact absurd g h2
          · unfold eWords at g; rw [if_pos hs] at g; split at g <;> cases g
          · rcases eWords_or S [x] with g2 | g2 | g2
            · exact absurd g2 h1
            · unfold eWords at g2; rw [if_pos hs] at g2; split at g2 <;> cases g2
            · rw [g, g2]
        · have hs2 : isSp S = false := by simpa using hs
          rw [eWords_inv hs2, eWords_inv hs2]
    rw [e, if_neg h1]
theorem eSyn_span (S G : List Int) : eSyn S G 0 = eSpan S G := by
  rw [eSyn_model]
  by_cases hs : isSp S = true
  · rw [if_pos (eWords_0 ((isSp_iff S).1 hs))]
  · have hs2 : isSp S = false := by simpa using hs
    rw [if_neg (by rw [eWords_inv hs2]; decide), eWords_inv hs2]
    unfold eSpan; rw [if_neg (by rw [eWords_inv hs2]; decide), eWords_inv hs2]

end Cv
end Go.Proofs.YtdacokgmcenjoaaDoor
