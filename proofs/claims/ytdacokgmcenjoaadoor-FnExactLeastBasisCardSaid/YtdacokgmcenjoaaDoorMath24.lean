/-
  Plain facts on what says whether a code is linear, on spans and on counts of weights: the functions' answers. By an AI agent.
-/
import Derived.Test.YtdacokgmcenjoaaDoorMath23
namespace Go.Proofs.YtdacokgmcenjoaaDoor
set_option linter.unusedVariables false
set_option linter.unusedSimpArgs false
namespace Cv

def vIsPl (S : List Int) : Bool := if isSp S = true then isPl S else false

/-- the code of a plain space and at most 20 words -/
def eSpan (S W : List Int) : Int := if eWords S W = 0 then (if 20 < W.length then 2 else if isPl S = true then 0 else 5) else eWords S W
def vSpan (S W : List Int) : List Int := if eSpan S W = 0 then sorted (spTo S W W.length) else []
theorem eSpan_bad {S W : List Int} (h : eWords S W ≠ 0) : eSpan S W = eWords S W := by unfold eSpan; rw [if_neg h]
theorem eSpan_many {S W : List Int} (h : eWords S W = 0) (hl : 20 < W.length) : eSpan S W = 2 := by unfold eSpan; rw [if_pos h, if_pos hl]
theorem eSpan_state {S W : List Int} (h : eWords S W = 0) (hl : ¬ 20 < W.length) (hp : isPl S = false) : eSpan S W = 5 := by unfold eSpan; rw [if_pos h, if_neg hl, if_neg (by rw [hp]; decide)]
theorem eSpan_ok {S W : List Int} (h : eWords S W = 0) (hl : ¬ 20 < W.length) (hp : isPl S = true) : eSpan S W = 0 := by unfold eSpan; rw [if_pos h, if_neg hl, if_pos hp]
theorem eSpan_zero {S W : List Int} (h : eSpan S W = 0) : eWords S W = 0 ∧ W.length ≤ 20 ∧ isPl S = true := by
  unfold eSpan at h
  split at h
  · rename_i h1
    split at h
    · cases h
    · rename_i h2
      split at h
      · rename_i h3; exact ⟨h1, by omega, h3⟩
      · cases h
  · rename_i h1; exact absurd h h1
theorem vSpan_len (S W : List Int) : (vSpan S W).length ≤ 1024 := by
  unfold vSpan
  split
  · rename_i h
    obtain ⟨h1, h2, h3⟩ := eSpan_zero h
    obtain ⟨hs, hw⟩ := eWords_zero h1
    rw [sorted_len]
    exact (spTo_len (pl_of hs h3) hw _ (Nat.le_refl _)).2
  · simp

/-- whether a code is linear, as the program asks -/
def linB (S C : List Int) : Bool := isPl S && decide ((spTo S C C.length).length = C.length)
/-- and as the model asks -/
def linM (S C : List Int) : Bool := isPl S && decide (1 ≤ C.length ∧ gi C 0 = 0 ∧ ∀ i, i < C.length → ∀ k, k < i + 1 → sumW S (gi C i) (gi C k) ∈ C)
theorem code_wd {S C : List Int} (h : eCode S C = 0) : ∀ i, i < C.length → Wd S (gi C i) := (eCode_zero h).2.1
theorem code_nd {S C : List Int} (h : eCode S C = 0) : C.Nodup := (asc_code h).imp fun h e => by omega
theorem lin_gp {S C : List Int} (h : eCode S C = 0) (hl : linB S C = true) : Pl S ∧ Gp S C := by
  unfold linB at hl
  rw [Bool.and_eq_true, decide_eq_true_eq] at hl
  have hP := pl_of (eCode_zero h).1 hl.1
  have hw := code_wd h
  have g := gp_to hP hw C.length (Nat.le_refl _)
  have sub : ∀ x, x ∈ C → x ∈ spTo S C C.length := fun x hx => by
    obtain ⟨j, hj, rfl⟩ := mem_gi hx
    exact w_spTo hP hw hj (Nat.le_refl _)
  have hasc := asc_code h
  have sup : ∀ x, x ∈ spTo S C C.length → x ∈ C := by
    intro x hx
    apply Classical.byContradiction
    intro hn
    have := nd_len (L := x :: C) (M := spTo S C C.length) (List.nodup_cons.2 ⟨hn, code_nd h⟩) fun y hy => by
      rcases List.mem_cons.1 hy with rfl | hy
      · exact hx
      · exact sub y hy
    simp at this; omega
  refine ⟨hP, fun u hu => g.wd u (sub u hu), sup 0 g.zero, fun u x hu hx => sup _ (g.sum u x (sub u hu) (sub x hx)), code_nd h⟩
theorem lin_of_gp {S C : List Int} (h : eCode S C = 0) (hp : isPl S = true) (h0 : 0 ∈ C) (hs : ∀ u x, u ∈ C → x ∈ C → sumW S u x ∈ C) : linB S C = true := by
  have hP := pl_of (eCode_zero h).1 hp
  have hw := code_wd h
  have g := gp_to hP hw C.length (Nat.le_refl _)
  unfold linB
  rw [hp, Bool.true_and, decide_eq_true_eq]
  have l1 := nd_len (M := C) g.nd (spTo_sub hP h0 hs C.length fun i hi => gi_mem hi)
  have l2 := nd_len (M := spTo S C C.length) (code_nd h) fun x hx => by
    obtain ⟨j, hj, rfl⟩ := mem_gi hx
    exact w_spTo hP hw hj (Nat.le_refl _)
  omega
theorem lin_same {S C : List Int} (h : eCode S C = 0) : linM S C = linB S C := by
  have hS := (eCode_zero h).1
  rw [Bool.eq_iff_iff]
  constructor
  · intro hm
    unfold linM at hm
    rw [Bool.and_eq_true, decide_eq_true_eq] at hm
    obtain ⟨hp, h1, h2, h3⟩ := hm
    refine lin_of_gp h hp (by rw [← h2]; exact gi_mem (by omega)) fun u x hu hx => ?_
    obtain ⟨i, hi, rfl⟩ := mem_gi hu
    obtain ⟨j, hj, rfl⟩ := mem_gi hx
    by_cases e : j ≤ i
    · exact h3 i hi j (by omega)
    · rw [sum_comm hS]; exact h3 j hj i (by omega)
  · intro hl
    obtain ⟨hP, g⟩ := lin_gp h hl
    have hp : isPl S = true := by unfold linB at hl; rw [Bool.and_eq_true] at hl; exact hl.1
    unfold linM
    rw [hp, Bool.true_and, decide_eq_true_eq]
    have hlen := List.length_pos_of_mem g.zero
    refine ⟨hlen, ?_, fun i hi k hk => g.sum _ _ (gi_mem hi) (gi_mem (by omega))⟩
    obtain ⟨j, hj, e⟩ := mem_gi g.zero
    have w0 := (code_wd h 0 hlen).1
    by_cases e0 : j = 0
    · subst e0; exact e
    · have := asc_lt (asc_code h) (show 0 < j by omega) hj
      omega
def vLin (S C : List Int) : Bool := if eCode S C = 0 then linB S C else false

/-- for each weight the number of the first k words of a list that have it -/
def wcTo (S C : List Int) (k : Nat) : List Int := (List.range (S.length + 1)).map fun (m : Nat) => cnt (fun i => decide (dist S 0 (gi C i) = (m : Int))) k
theorem wcTo_len (S C : List Int) (k : Nat) : (wcTo S C k).length = S.length + 1 := by simp [wcTo]
theorem gi_wcTo (S C : List Int) (k m : Nat) (h : m < S.length + 1) : gi (wcTo S C k) m = cnt (fun i => decide (dist S 0 (gi C i) = (m : Int))) k := by
  rw [gi_lt _ _ (by rw [wcTo_len]; exact h)]; simp [wcTo]
theorem wcTo_0 (S C : List Int) : wcTo S C 0 = List.replicate (S.length + 1) 0 := by
  refine ext_gi (by rw [wcTo_len, List.length_replicate]) fun i hi => ?_
  rw [wcTo_len] at hi
  rw [gi_wcTo _ _ _ _ hi]
  simp [cnt, gi, hi]
theorem wcTo_bd (S C : List Int) (k m : Nat) : 0 ≤ gi (wcTo S C k) m ∧ gi (wcTo S C k) m ≤ k := by
  by_cases h : m < S.length + 1
  · rw [gi_wcTo _ _ _ _ h]; exact cnt_bd _ _
  · rw [gi_out _ _ (by rw [wcTo_len]; omega)]; omega
theorem wcTo_step (S C : List Int) (k d : Nat) (hd : dist S 0 (gi C k) = (d : Int)) : (wcTo S C k).set d (gi (wcTo S C k) d + 1) = wcTo S C (k + 1) := by
  have hb := dist_bd S 0 (gi C k)
  refine ext_gi (by rw [List.length_set, wcTo_len, wcTo_len]) fun i hi => ?_
  rw [List.length_set, wcTo_len] at hi
  rw [gi_set _ _ _ _ (by rw [wcTo_len]; omega), gi_wcTo _ _ _ _ hi, gi_wcTo _ _ _ d (by omega), gi_wcTo _ _ _ _ hi, cnt, hd]
  by_cases e : i = d
  · subst e; rw [if_pos rfl]; simp
  · rw [if_neg e]
    have : decide ((d : Int) = (i : Int)) = false := by simp; omega
    rw [this]; simp
def vWc (S C : List Int) : List Int := if eCode S C = 0 then wcTo S C C.length else []
theorem vWc_len (S C : List Int) : (vWc S C).length ≤ 9 := by
  unfold vWc
  split
  · rename_i h; have := (eCode_zero h).1.hi; rw [wcTo_len]; omega
  · simp
end Cv
end Go.Proofs.YtdacokgmcenjoaaDoor
