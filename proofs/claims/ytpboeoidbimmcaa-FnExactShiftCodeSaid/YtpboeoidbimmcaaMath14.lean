/-
  Sums with a word are different for different words; sorted lists. By an AI agent.
-/
import Derived.Test.YtpboeoidbimmcaaMath13
import Derived.Test.YtpboeoidbimmcaaMath5
namespace Go.Proofs.Ytpboeoidbimmcaa
set_option linter.unusedVariables false
set_option linter.unusedSimpArgs false
namespace Cv

theorem wordTo_inj {S D E : List Int} (n : Nat) (hS : ∀ i, i < n → 2 ≤ gi S i ∧ gi S i ≤ 4) (hD : ∀ i, i < n → 0 ≤ gi D i ∧ gi D i < gi S i) (hE : ∀ i, i < n → 0 ≤ gi E i ∧ gi E i < gi S i)
    (h : wordTo S D n = wordTo S E n) : ∀ i, i < n → gi D i = gi E i := by
  induction n with
  | zero => intro i hi; omega
  | succ n ih =>
    simp only [wordTo] at h
    have s := hS n (by omega)
    have d := hD n (by omega)
    have e := hE n (by omega)
    have h1 : gi D n = gi E n := by
      have a : (wordTo S D n * gi S n + gi D n) % gi S n = gi D n := by
        rw [Int.add_comm, Int.add_mul_emod_self_right]; exact Int.emod_eq_of_lt d.1 d.2
      have b : (wordTo S E n * gi S n + gi E n) % gi S n = gi E n := by
        rw [Int.add_comm, Int.add_mul_emod_self_right]; exact Int.emod_eq_of_lt e.1 e.2
      rw [← a, h, b]
    have h2 : wordTo S D n = wordTo S E n := by
      have : wordTo S D n * gi S n = wordTo S E n * gi S n := by omega
      exact Int.eq_of_mul_eq_mul_right (by omega) this
    intro i hi
    by_cases e2 : i = n
    · subst e2; exact h1
    · exact ih (fun i hi => hS i (by omega)) (fun i hi => hD i (by omega)) (fun i hi => hE i (by omega)) h2 i (by omega)
theorem sumW_inj {S : List Int} (hS : Sp S) {u v x : Int} (hu : 0 ≤ u ∧ u < nW S) (hv : 0 ≤ v ∧ v < nW S) (h : sumW S u x = sumW S v x) : u = v := by
  have key : ∀ i, i < S.length → gi (sumD S (digs S u) (digs S x)) i = gi (sumD S (digs S v) (digs S x)) i := by
    refine wordTo_inj S.length hS.bd ?_ ?_ h
    all_goals
      intro i hi
      have s := hS.bd i hi
      rw [gi_sumD _ _ _ _ hi]
      exact ⟨Int.emod_nonneg _ (by omega), Int.emod_lt_of_pos _ (by omega)⟩
  have hd : digs S u = digs S v := by
    refine ext_gi (by rw [digs_length, digs_length]) fun i hi => ?_
    rw [digs_length] at hi
    have k := key i hi
    rw [gi_sumD _ _ _ _ hi, gi_sumD _ _ _ _ hi] at k
    have s := hS.bd i hi
    have a := dig_bd S u hS.bd i hi
    have b := dig_bd S v hS.bd i hi
    rw [← gi_digs S u i hi] at a
    rw [← gi_digs S v i hi] at b
    have e1 : ((gi (digs S u) i + gi (digs S x) i) - (gi (digs S v) i + gi (digs S x) i)) % gi S i = 0 := Int.emod_eq_emod_iff_emod_sub_eq_zero.1 k
    have e2 : (gi (digs S u) i - gi (digs S v) i) % gi S i = 0 := by
      have : (gi (digs S u) i + gi (digs S x) i) - (gi (digs S v) i + gi (digs S x) i) = gi (digs S u) i - gi (digs S v) i := by omega
      rwa [this] at e1
    obtain ⟨m, hm⟩ := Int.dvd_of_emod_eq_zero e2
    have hm0 : m = 0 := by
      rcases Int.lt_trichotomy m 0 with h0 | h0 | h0
      · have : gi S i * m ≤ gi S i * (-1) := Int.mul_le_mul_of_nonneg_left (by omega) (by omega)
        omega
      · exact h0
      · have : gi S i * 1 ≤ gi S i * m := Int.mul_le_mul_of_nonneg_left (by omega) (by omega)
        omega
    rw [hm0] at hm; omega
  rw [← wordTo_digs S u hS hu.1 hu.2, ← wordTo_digs S v hS hv.1 hv.2, hd]

/-- a list in its order -/
def sorted (L : List Int) : List Int := L.mergeSort fun x y => decide (x ≤ y)
theorem sorted_perm (L : List Int) : (sorted L).Perm L := List.mergeSort_perm _ _
theorem sorted_len (L : List Int) : (sorted L).length = L.length := (sorted_perm L).length_eq
theorem mem_sorted (L : List Int) (x : Int) : x ∈ sorted L ↔ x ∈ L := (sorted_perm L).mem_iff
theorem sorted_le (L : List Int) : (sorted L).Pairwise (fun x y => x ≤ y) := by
  have h := List.pairwise_mergeSort (le := fun x y : Int => decide (x ≤ y)) (fun a b c h1 h2 => by simp at h1 h2 ⊢; omega) (fun a b => by simp; omega) L
  exact h.imp fun h => by simpa using h
theorem asc_sorted {L : List Int} (h : L.Nodup) : Asc (sorted L) := by
  have n : (sorted L).Nodup := (sorted_perm L).symm.nodup h
  have := List.Pairwise.and (sorted_le L) n
  exact this.imp fun ⟨a, b⟩ => by omega
/-- the list of the sums of all words of a code with x -/
def sumsL (S C : List Int) (x : Int) : List Int := C.map fun u => sumW S u x
theorem sums_put {S C : List Int} (h : eCode S C = 0) (x : Int) : sorted (sumsL S C x) = putTo [] (fun i => sumW S (gi C i) x) C.length := by
  obtain ⟨hs, c1, c2⟩ := eCode_zero h
  have hasc := asc_code h
  refine asc_ext (asc_sorted ?_) (asc_putTo asc_nil _ _) fun y => ?_
  · unfold sumsL
    refine List.Pairwise.map _ (fun a b hab => hab) ?_
    refine List.Pairwise.imp_of_mem ?_ hasc
    intro a b ha hb hab e
    obtain ⟨i, hi, rfl⟩ := mem_gi ha
    obtain ⟨j, hj, rfl⟩ := mem_gi hb
    have := sumW_inj hs (c1 i hi) (c1 j hj) e
    omega
  · rw [mem_sorted, mem_putTo]
    unfold sumsL
    rw [List.mem_map]
    constructor
    · rintro ⟨u, hu, e⟩
      obtain ⟨i, hi, rfl⟩ := mem_gi hu
      exact .inr ⟨i, hi, e.symm⟩
    · rintro (h | ⟨i, hi, e⟩)
      · simp at h
      · exact ⟨gi C i, gi_mem hi, e.symm⟩
/-- the error of a space, a code and a word -/
def eShift (S C : List Int) (x : Int) : Int := orI (eCode S C) (eWords S [x])
def vShift (S C : List Int) (x : Int) : List Int := if eShift S C x = 0 then sorted (sumsL S C x) else []
theorem eShift_zero {S C : List Int} {x : Int} (h : eShift S C x = 0) : eCode S C = 0 ∧ eWords S [x] = 0 := by
  unfold eShift orI at h
  split at h
  · rename_i h1; exact ⟨h1, h⟩
  · rename_i h1; exact absurd h h1
theorem eShift_w {S C : List Int} {x : Int} (h : eWords S [x] = 0) : eShift S C x = eCode S C := by
  unfold eShift orI
  split
  · rename_i h1; rw [h, h1]
  · rfl
theorem eShift_bad {S C : List Int} {x : Int} (h : eWords S [x] ≠ 0) : eShift S C x = eWords S [x] := by
  unfold eShift orI
  split
  · rfl
  · rename_i h1
    by_cases hs : isSp S = true
    · rw [eCode_sp hs h1]
      unfold eWords at h ⊢
      rw [if_pos hs] at h ⊢
      split
      · rename_i h2; rw [if_pos h2] at h; exact absurd rfl h
      · rfl
    · have hs2 : isSp S = false := by simpa using hs
      rw [eCode_inv hs2, eWords_inv hs2]
theorem vShift_len (S C : List Int) (x : Int) : (vShift S C x).length ≤ 1024 := by
  unfold vShift
  split
  · rename_i h
    rw [sorted_len]
    unfold sumsL
    rw [List.length_map]
    exact code_len0 (eShift_zero h).1
  · simp

end Cv
end Go.Proofs.Ytpboeoidbimmcaa
