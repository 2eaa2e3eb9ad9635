/-
  Plain facts on leaders and on nearest words of linear codes. By an AI agent.
-/
import Derived.Test.YtdacokgmcenjoaaDoorMath25
namespace Go.Proofs.YtdacokgmcenjoaaDoor
set_option linter.unusedVariables false
set_option linter.unusedSimpArgs false
namespace Cv

/-- lighter, or as light and less -/
def lgt (S : List Int) (y z : Int) : Bool := decide (dist S 0 y < dist S 0 z) || decide (dist S 0 y = dist S 0 z ∧ y < z)
theorem lgt_iff (S : List Int) (y z : Int) : lgt S y z = true ↔ dist S 0 y < dist S 0 z ∨ dist S 0 y = dist S 0 z ∧ y < z := by simp [lgt]
/-- the leader among the first k + 1 of a list -/
def ldrTo (S L : List Int) : Nat → Int
  | 0 => gi L 0
  | k + 1 => if lgt S (gi L (k + 1)) (ldrTo S L k) = true then gi L (k + 1) else ldrTo S L k
theorem ldrTo_mem (S L : List Int) (k : Nat) (hk : k < L.length) : ldrTo S L k ∈ L := by
  induction k with
  | zero => exact gi_mem hk
  | succ k ih => rw [ldrTo]; split; exact gi_mem hk; exact ih (by omega)
theorem ldrTo_le (S L : List Int) (k : Nat) (i : Nat) (hi : i ≤ k) : lgt S (gi L i) (ldrTo S L k) = false := by
  induction k with
  | zero =>
    have : i = 0 := by omega
    subst this
    rw [← Bool.not_eq_true, lgt_iff, ldrTo]; omega
  | succ k ih =>
    rw [ldrTo]
    by_cases e : i = k + 1
    · subst e
      split
      · rw [← Bool.not_eq_true, lgt_iff]; omega
      · rename_i h; simpa using h
    · have h1 := ih (by omega)
      split
      · rename_i h
        rw [← Bool.not_eq_true, lgt_iff] at h1 ⊢
        rw [lgt_iff] at h
        omega
      · exact h1
/-- a list's leader: lightest, and least of these -/
def isLdr (S L : List Int) (y : Int) : Prop := y ∈ L ∧ ∀ z, z ∈ L → lgt S z y = false
theorem ldr_is (S L : List Int) (h : 0 < L.length) : isLdr S L (ldrTo S L (L.length - 1)) := by
  refine ⟨ldrTo_mem S L _ (by omega), fun z hz => ?_⟩
  obtain ⟨i, hi, rfl⟩ := mem_gi hz
  exact ldrTo_le S L _ i (by omega)
theorem ldr_uniq {S L M : List Int} (h : ∀ x, x ∈ L ↔ x ∈ M) {y z : Int} (hy : isLdr S L y) (hz : isLdr S M z) : y = z := by
  have a := hy.2 z ((h z).2 hz.1)
  have b := hz.2 y ((h y).1 hy.1)
  rw [← Bool.not_eq_true, lgt_iff] at a b
  omega
/-- the leader of the class of a word -/
def ldr (S C : List Int) (x : Int) : Int := ldrTo S (shL S C x) ((shL S C x).length - 1)

theorem wd_opp {S : List Int} (hS : Sp S) (x : Int) : Wd S (oppW S x) := wordTo_bd S _ S.length hS.bd fun i hi => by
  have s := hS.bd i hi
  rw [gi_oppD _ _ _ hi]
  exact ⟨Int.emod_nonneg _ (by omega), Int.emod_lt_of_pos _ (by omega)⟩
theorem dig_opp {S : List Int} (hS : Sp S) (x : Int) (i : Nat) (hi : i < S.length) : dig S (oppW S x) i = (gi S i - dig S x i) % gi S i := by
  have h := digs_word hS (oppD_length S (digs S x)) fun i hi => by
    have s := hS.bd i hi
    rw [gi_oppD _ _ _ hi]
    exact ⟨Int.emod_nonneg _ (by omega), Int.emod_lt_of_pos _ (by omega)⟩
  rw [← gi_digs S _ i hi]
  unfold oppW
  rw [h, gi_oppD _ _ _ hi, gi_digs S x i hi]
theorem sum_opp {S : List Int} (hS : Sp S) (x : Int) : sumW S x (oppW S x) = 0 :=
  word_ext hS (wd_sum hS _ _) (wd_0 hS) fun i hi => by
    have s := hS.bd i hi
    rw [dig_sum hS _ _ i hi, dig_opp hS _ i hi, dig_0, Int.add_emod_emod]
    have : dig S x i + (gi S i - dig S x i) = gi S i := by omega
    rw [this]; exact Int.emod_self
/-- the word whose sum with y is x -/
theorem minus_iff {S : List Int} (hS : Sp S) {c y x : Int} (hc : Wd S c) (hy : Wd S y) (hx : Wd S x) : sumW S c y = x ↔ c = sumW S x (oppW S y) := by
  constructor
  · intro h
    rw [← h, sum_assoc hS, sum_opp hS, sum_0 hS hc]
  · intro h
    rw [h, sum_assoc hS, sum_comm hS (oppW S y) y, sum_opp hS, sum_0 hS hx]
/-- the nearest word -/
def nrW (S C : List Int) (x : Int) : Int := sumW S x (oppW S (ldr S C x))
theorem shL_len (S C : List Int) (x : Int) : (shL S C x).length = C.length := by simp [shL]
theorem ldr_wd {S C : List Int} (hP : Pl S) (h : Gp S C) (x : Int) : Wd S (ldr S C x) := by
  have hl := List.length_pos_of_mem h.zero
  have hm := ldrTo_mem S (shL S C x) ((shL S C x).length - 1) (by rw [shL_len]; omega)
  obtain ⟨u, _, e⟩ := (mem_shL _ _ _ _).1 hm
  unfold ldr; rw [← e]; exact wd_sum hP.sp _ _
theorem nr_mem {S C : List Int} (hP : Pl S) (h : Gp S C) {x : Int} (hx : Wd S x) : nrW S C x ∈ C := by
  have hl := List.length_pos_of_mem h.zero
  have hm := ldrTo_mem S (shL S C x) ((shL S C x).length - 1) (by rw [shL_len]; omega)
  obtain ⟨u, hu, e⟩ := (mem_shL _ _ _ _).1 hm
  change sumW S u x = ldr S C x at e
  obtain ⟨v, hv, e2⟩ := gp_neg hP h hu
  have : v = nrW S C x := by
    refine (minus_iff hP.sp (h.wd v hv) (ldr_wd hP h x) hx).1 ?_
    rw [← e, ← sum_assoc hP.sp, sum_comm hP.sp v u, e2, sum_0l hP.sp hx]
  rw [← this]; exact hv

/-- the error of a space and a linear code, and of a word ahead -/
def eLin (S C : List Int) : Int := if eCode S C = 0 then (if linB S C = true then 0 else 5) else eCode S C
def eNrW (S C : List Int) (x : Int) : Int := if eCW S C [x] = 0 then (if linB S C = true then 0 else 5) else eCW S C [x]
def vNrW (S C : List Int) (x : Int) : Int := if eNrW S C x = 0 then nrW S C x else 0
/-- three-way comparison -/
def cmpI (a b : Int) : Int := if a < b then -1 else if b < a then 1 else 0
def cmpW (S : List Int) (y z : Int) : Int := orI (cmpI (dist S 0 y) (dist S 0 z)) (cmpI y z)
theorem cmpW_neg (S : List Int) (y z : Int) : decide (cmpW S y z < 0) = lgt S y z := by
  rw [Bool.eq_iff_iff, decide_eq_true_eq, lgt_iff]
  unfold cmpW orI cmpI
  split <;> (try split) <;> (try split) <;> omega
/-- the leader as the model finds it: after the first k -/
def ldrM (S L : List Int) : Nat → Int
  | 0 => gi L 0
  | k + 1 => if dist S 0 (gi L k) < dist S 0 (ldrM S L k) then gi L k else ldrM S L k
theorem ldrM_inv {S L : List Int} (hA : Asc L) (h0 : 0 < L.length) (k : Nat) (hk : k ≤ L.length) : (∀ i, i < k → lgt S (gi L i) (ldrM S L k) = false) ∧ ∃ j, j < L.length ∧ (j < k ∨ j = 0) ∧ ldrM S L k = gi L j := by
  induction k with
  | zero => exact ⟨fun i hi => by omega, 0, h0, .inr rfl, rfl⟩
  | succ k ih =>
    obtain ⟨h1, j, hj, hjk, e⟩ := ih (by omega)
    rw [ldrM]
    split
    · rename_i hlt
      refine ⟨fun i hi => ?_, k, by omega, .inl (by omega), rfl⟩
      by_cases e2 : i = k
      · subst e2; rw [← Bool.not_eq_true, lgt_iff]; omega
      · have := h1 i (by omega)
        rw [← Bool.not_eq_true, lgt_iff] at this ⊢
        omega
    · rename_i hlt
      refine ⟨fun i hi => ?_, j, hj, by omega, e⟩
      by_cases e2 : i = k
      · subst e2
        rw [← Bool.not_eq_true, lgt_iff]
        have hle : gi L j ≤ gi L i := by
          by_cases e3 : j = i
          · subst e3; exact Int.le_refl _
          · have := asc_lt hA (show j < i by omega) (by omega); omega
        rw [e] at hlt ⊢; omega
      · exact h1 i (by omega)
theorem ldrM_is {S L : List Int} (hA : Asc L) (h0 : 0 < L.length) : isLdr S L (ldrM S L L.length) := by
  obtain ⟨h1, j, hj, _, e⟩ := ldrM_inv hA h0 L.length (Nat.le_refl _)
  refine ⟨by rw [e]; exact gi_mem hj, fun z hz => ?_⟩
  obtain ⟨i, hi, rfl⟩ := mem_gi hz
  exact h1 i hi
theorem ldrM_same {S C : List Int} (h0 : 0 < C.length) (x : Int) : ldrM S (putTo [] (fun i => sumW S (gi C i) x) C.length) (putTo [] (fun i => sumW S (gi C i) x) C.length).length = ldr S C x := by
  have hm : ∀ y, y ∈ putTo [] (fun i => sumW S (gi C i) x) C.length ↔ y ∈ shL S C x := fun y => by
    rw [mem_putTo, mem_shL]
    constructor
    · rintro (h | ⟨i, hi, e⟩)
      · simp at h
      · exact ⟨gi C i, gi_mem hi, e.symm⟩
    · rintro ⟨u, hu, e⟩
      obtain ⟨i, hi, rfl⟩ := mem_gi hu
      exact .inr ⟨i, hi, e.symm⟩
  have hp : 0 < (putTo [] (fun i => sumW S (gi C i) x) C.length).length := List.length_pos_of_mem ((hm (sumW S (gi C 0) x)).2 ((mem_shL _ _ _ _).2 ⟨_, gi_mem h0, rfl⟩))
  exact ldr_uniq hm (ldrM_is (asc_putTo asc_nil _ _) hp) (ldr_is S (shL S C x) (by rw [shL_len]; exact h0))
theorem eNrW_zero {S C : List Int} {x : Int} (h : eNrW S C x = 0) : eCode S C = 0 ∧ eWords S [x] = 0 ∧ linB S C = true := by
  unfold eNrW at h
  split at h
  · rename_i h1
    obtain ⟨a, b⟩ := eCW_zero h1
    split at h
    · rename_i h2; exact ⟨a, b, h2⟩
    · cases h
  · rename_i h1; exact absurd h h1
/-- the order of the model's errors -/
theorem eNrW_model (S C : List Int) (x : Int) : eNrW S C x = if eWords S [x] = 0 then eLin S C else eWords S [x] := by
  have hS := eShift_w (S := S) (C := C) (x := x)
  have hB := eShift_bad (S := S) (C := C) (x := x)
  have e : eCW S C [x] = eShift S C x := rfl
  unfold eNrW eLin
  by_cases h : eWords S [x] = 0
  · rw [if_pos h, e, hS h]
  · rw [if_neg h, e, hB h, if_neg h]
end Cv
end Go.Proofs.YtdacokgmcenjoaaDoor
