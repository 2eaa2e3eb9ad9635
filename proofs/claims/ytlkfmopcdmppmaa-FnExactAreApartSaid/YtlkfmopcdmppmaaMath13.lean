/-
  What chapter 3 asks for, as plain lists: sums, codes together and in common. By an AI agent.
-/
import Derived.Test.YtlkfmopcdmppmaaMath12
namespace Go.Proofs.Ytlkfmopcdmppmaa
set_option linter.unusedVariables false
set_option linter.unusedSimpArgs false
namespace Cv

/-- the error of a space and two codes of it -/
def eTwo (S C D : List Int) : Int := if eCode S C = 0 then eCode S D else eCode S C
theorem eTwo_zero {S C D : List Int} (h : eTwo S C D = 0) : eCode S C = 0 ∧ eCode S D = 0 := by
  unfold eTwo at h
  split at h
  · rename_i h1; exact ⟨h1, h⟩
  · rename_i h1; exact absurd h h1
theorem eTwo_ok {S C D : List Int} (h : eCode S C = 0) : eTwo S C D = eCode S D := by unfold eTwo; rw [if_pos h]
theorem eTwo_bad {S C D : List Int} (h : eCode S C ≠ 0) : eTwo S C D = eCode S C := by unfold eTwo; rw [if_neg h]
/-- the words of one of two codes -/
def togL (S C D : List Int) : List Int := selL (fun u => inL C u || inL D u) (nW S).toNat
def vTog (S C D : List Int) : List Int := if eTwo S C D = 0 then togL S C D else []
theorem togL_put {S C D : List Int} (h : eTwo S C D = 0) : putTo C (gi D) D.length = togL S C D := by
  obtain ⟨h1, h2⟩ := eTwo_zero h
  obtain ⟨hs, c1, c2⟩ := eCode_zero h1
  obtain ⟨_, d1, d2⟩ := eCode_zero h2
  refine asc_ext (asc_putTo (asc_code h1) _ _) (asc_selL _ _) fun y => ?_
  rw [mem_putTo]
  unfold togL
  rw [mem_selL]
  simp only [inL, Bool.or_eq_true, decide_eq_true_eq]
  constructor
  · rintro (hm | ⟨i, hi, e⟩)
    · obtain ⟨j, hj, e⟩ := mem_gi hm
      have b := c1 j hj
      rw [e] at b
      exact ⟨y.toNat, by omega, .inl (by rw [Int.toNat_of_nonneg b.1]; exact hm), by omega⟩
    · have b := d1 i hi
      rw [← e] at b
      exact ⟨y.toNat, by omega, .inr (by rw [Int.toNat_of_nonneg b.1, e]; exact gi_mem hi), by omega⟩
  · rintro ⟨i, hi, hm | hm, e⟩
    · exact .inl (e ▸ hm)
    · obtain ⟨j, hj, e2⟩ := mem_gi hm
      exact .inr ⟨j, hj, by rw [e2, e]⟩
theorem vTog_len (S C D : List Int) : (vTog S C D).length ≤ 1024 := by
  unfold vTog
  split
  · rename_i h
    have := selL_len (fun u => inL C u || inL D u) (nW S).toNat
    have := nW_bd (eCode_zero (eTwo_zero h).1).1
    unfold togL; omega
  · simp

/-- the words among the first k of a code that are in another one -/
def comTo (C D : List Int) : Nat → List Int
  | 0 => []
  | k + 1 => comTo C D k ++ if gi C k ∈ D then [gi C k] else []
theorem comTo_len (C D : List Int) (k : Nat) : (comTo C D k).length ≤ k := by
  induction k with
  | zero => simp [comTo]
  | succ k ih => rw [comTo]; split <;> simp <;> omega
theorem comTo_filter (C D : List Int) (k : Nat) (hk : k ≤ C.length) : comTo C D k = (C.take k).filter fun x => decide (x ∈ D) := by
  induction k with
  | zero => simp [comTo]
  | succ k ih =>
    rw [comTo, ih (by omega), take_snoc C k (by omega), List.filter_append]
    congr 1
    by_cases h : gi C k ∈ D <;> simp [h]
def vCom (S C D : List Int) : List Int := if eTwo S C D = 0 then comTo C D C.length else []
theorem vCom_filter {S C D : List Int} (h : eTwo S C D = 0) : vCom S C D = C.filter fun x => decide (x ∈ D) := by
  unfold vCom
  rw [if_pos h, comTo_filter C D _ (Nat.le_refl _), List.take_length]
theorem code_len0 {S C : List Int} (h : eCode S C = 0) : C.length ≤ 1024 := by
  obtain ⟨hs, c1, c2⟩ := eCode_zero h
  have := nW_bd hs
  by_cases e : C.length = 0
  · omega
  · have := code_ge c1 c2 (C.length - 1) (by omega)
    have := c1 (C.length - 1) (by omega)
    omega
theorem vCom_len (S C D : List Int) : (vCom S C D).length ≤ 1024 := by
  unfold vCom
  split
  · rename_i h
    have := comTo_len C D C.length
    have := code_len0 (eTwo_zero h).1
    omega
  · simp

/-- the error of two spaces and a code of each -/
def eDs (S C X O : List Int) : Int :=
  if isSp S = true ∧ isSp X = true then (if eCode S C = 0 then (if eCode X O = 0 then (if isSp (S ++ X) = true then 0 else 3) else eCode X O) else eCode S C) else 1
theorem eDs_inv {S C X O : List Int} (h : ¬ (isSp S = true ∧ isSp X = true)) : eDs S C X O = 1 := by unfold eDs; rw [if_neg h]
theorem eDs_c1 {S C X O : List Int} (h1 : isSp S = true) (h2 : isSp X = true) (h : eCode S C ≠ 0) : eDs S C X O = eCode S C := by unfold eDs; rw [if_pos ⟨h1, h2⟩, if_neg h]
theorem eDs_c2 {S C X O : List Int} (h1 : isSp S = true) (h2 : isSp X = true) (h3 : eCode S C = 0) (h : eCode X O ≠ 0) : eDs S C X O = eCode X O := by unfold eDs; rw [if_pos ⟨h1, h2⟩, if_pos h3, if_neg h]
theorem eDs_big {S C X O : List Int} (h1 : isSp S = true) (h2 : isSp X = true) (h3 : eCode S C = 0) (h4 : eCode X O = 0) (h : isSp (S ++ X) = false) : eDs S C X O = 3 := by unfold eDs; rw [if_pos ⟨h1, h2⟩, if_pos h3, if_pos h4, if_neg (by simp [h])]
theorem eDs_ok {S C X O : List Int} (h1 : isSp S = true) (h2 : isSp X = true) (h3 : eCode S C = 0) (h4 : eCode X O = 0) (h : isSp (S ++ X) = true) : eDs S C X O = 0 := by unfold eDs; rw [if_pos ⟨h1, h2⟩, if_pos h3, if_pos h4, if_pos h]
theorem eCode_sp {S C : List Int} (h : isSp S = true) (hc : eCode S C ≠ 0) : eCode S C = 2 := by
  unfold eCode at hc ⊢
  rw [if_pos h] at hc ⊢
  split
  · rename_i h2; rw [if_pos h2] at hc; exact absurd rfl hc
  · rfl
theorem eDs_zero {S C X O : List Int} (h : eDs S C X O = 0) : isSp S = true ∧ isSp X = true ∧ eCode S C = 0 ∧ eCode X O = 0 ∧ isSp (S ++ X) = true := by
  unfold eDs at h
  split at h
  · rename_i h1
    split at h
    · rename_i h2
      split at h
      · rename_i h3
        split at h
        · rename_i h4; exact ⟨h1.1, h1.2, h2, h3, h4⟩
        · simp at h
      · rename_i h3; exact absurd h h3
    · rename_i h2; exact absurd h h2
  · simp at h
/-- the words of the sums of the first k words of a code -/
def dsTo (C O : List Int) (n : Int) : Nat → List Int
  | 0 => []
  | k + 1 => dsTo C O n k ++ O.map fun y => gi C k * n + y
theorem dsTo_len (C O : List Int) (n : Int) (k : Nat) : (dsTo C O n k).length = k * O.length := by
  induction k with
  | zero => simp [dsTo]
  | succ k ih => rw [dsTo, List.length_append, ih, List.length_map, Nat.succ_mul]
/-- .. and of the next one with the first j words of the other code -/
def dsIn (C O : List Int) (n : Int) (k j : Nat) : List Int := dsTo C O n k ++ (O.take j).map fun y => gi C k * n + y
theorem dsIn_zero (C O : List Int) (n : Int) (k : Nat) : dsIn C O n k 0 = dsTo C O n k := by simp [dsIn]
theorem dsIn_succ (C O : List Int) (n : Int) (k j : Nat) (h : j < O.length) : dsIn C O n k (j + 1) = dsIn C O n k j ++ [gi C k * n + gi O j] := by
  unfold dsIn
  rw [take_snoc O j h, List.map_append, List.append_assoc]; rfl
theorem dsIn_all (C O : List Int) (n : Int) (k : Nat) : dsIn C O n k O.length = dsTo C O n (k + 1) := by
  unfold dsIn; rw [List.take_length]; rfl
theorem dsIn_len (C O : List Int) (n : Int) (k j : Nat) (hk : k < 1024) (ho : O.length ≤ 1024) (hj : j ≤ O.length) : (dsIn C O n k j).length ≤ 1048576 := by
  unfold dsIn
  rw [List.length_append, dsTo_len, List.length_map, List.length_take]
  have : k * O.length ≤ 1023 * 1024 := Nat.mul_le_mul (by omega) ho
  omega
def vDsS (S C X O : List Int) : List Int := if eDs S C X O = 0 then S ++ X else []
def vDsC (S C X O : List Int) : List Int := if eDs S C X O = 0 then dsTo C O (nW X) C.length else []
theorem vDsS_len (S C X O : List Int) : (vDsS S C X O).length ≤ 8 := by
  unfold vDsS
  split
  · rename_i h
    exact ((isSp_iff _).1 (eDs_zero h).2.2.2.2).hi
  · simp
theorem vDsC_len (S C X O : List Int) : (vDsC S C X O).length ≤ 1048576 := by
  unfold vDsC
  split
  · rename_i h
    obtain ⟨_, _, h3, h4, _⟩ := eDs_zero h
    rw [dsTo_len]
    exact Nat.mul_le_mul (code_len0 h3) (code_len0 h4)
  · simp

end Cv
end Go.Proofs.Ytlkfmopcdmppmaa
