/-
  Plain facts on a place taken out. By an AI agent.
-/
import Derived.Test.YtpmeccpagndifaaMath
import Derived.Test.YtpmeccpagndifaaMath21
namespace Go.Proofs.Ytpmeccpagndifaa
set_option linter.unusedVariables false
set_option linter.unusedSimpArgs false
namespace Cv

/-- a list without its element k -/
def dropI (k : Nat) (T : List Int) : List Int := T.take k ++ T.drop (k + 1)
theorem dropI_len (k : Nat) (T : List Int) (h : k < T.length) : (dropI k T).length = T.length - 1 := by simp [dropI]; omega
theorem gi_drop (T : List Int) (k i : Nat) : gi (T.drop k) i = gi T (k + i) := by simp [gi]
theorem gi_dropI (k : Nat) (T : List Int) (h : k < T.length) (i : Nat) : gi (dropI k T) i = if i < k then gi T i else gi T (i + 1) := by
  unfold dropI
  by_cases e : i < k
  · rw [if_pos e, gi_append_lt _ _ _ (by rw [List.length_take]; omega), gi_take _ _ _ e]
  · rw [if_neg e, gi_append_ge _ _ _ (by rw [List.length_take]; omega), gi_drop, List.length_take]
    congr 1; omega
theorem dropI_bd {S : List Int} (h : ∀ i, i < S.length → 2 ≤ gi S i ∧ gi S i ≤ 4) {k : Nat} (hk : k < S.length) : ∀ i, i < (dropI k S).length → 2 ≤ gi (dropI k S) i ∧ gi (dropI k S) i ≤ 4 := by
  intro i hi
  rw [dropI_len k S hk] at hi
  rw [gi_dropI k S hk]
  split <;> exact h _ (by omega)
theorem dropI_dg {S T : List Int} (hT : T.length = S.length ∧ ∀ i, i < S.length → 0 ≤ gi T i ∧ gi T i < gi S i) {k : Nat} (hk : k < S.length) :
    (dropI k T).length = (dropI k S).length ∧ ∀ i, i < (dropI k S).length → 0 ≤ gi (dropI k T) i ∧ gi (dropI k T) i < gi (dropI k S) i := by
  refine ⟨by rw [dropI_len k S hk, dropI_len k T (by omega), hT.1], fun i hi => ?_⟩
  rw [dropI_len k S hk] at hi
  rw [gi_dropI k S hk, gi_dropI k T (by omega)]
  split <;> exact hT.2 _ (by omega)

/-- the word without a place -/
def outW (S : List Int) (k : Nat) (c : Int) : Int := wordTo (dropI k S) (dropI k (digs S c)) (dropI k S).length
/-- the words without a place, of the first j those with the digit d there, or all for a number less than 0 -/
def outTo (S C : List Int) (k : Nat) (d : Int) : Nat → List Int
  | 0 => []
  | j + 1 => if d < 0 ∨ dig S (gi C j) k = d then putL (outTo S C k d j) (outW S k (gi C j)) else outTo S C k d j
theorem outTo_len (S C : List Int) (k : Nat) (d : Int) (j : Nat) : (outTo S C k d j).length ≤ j := by
  induction j with
  | zero => simp [outTo]
  | succ j ih =>
    rw [outTo]
    split
    · have := (putL_len (outTo S C k d j) (outW S k (gi C j))).2; omega
    · omega
theorem asc_outTo (S C : List Int) (k : Nat) (d : Int) (j : Nat) : Asc (outTo S C k d j) := by
  induction j with
  | zero => exact asc_nil
  | succ j ih =>
    rw [outTo]
    split
    · exact asc_putL ih _
    · exact ih
theorem mem_outTo (S C : List Int) (k : Nat) (d : Int) (j : Nat) (y : Int) : y ∈ outTo S C k d j ↔ ∃ i, i < j ∧ (d < 0 ∨ dig S (gi C i) k = d) ∧ y = outW S k (gi C i) := by
  induction j with
  | zero => simp [outTo]
  | succ j ih =>
    rw [outTo]
    split
    · rename_i h
      rw [mem_putL, ih]
      constructor
      · rintro (⟨i, hi, a, b⟩ | e)
        · exact ⟨i, by omega, a, b⟩
        · exact ⟨j, by omega, h, e⟩
      · rintro ⟨i, hi, a, b⟩
        by_cases e : i = j
        · subst e; exact .inr b
        · exact .inl ⟨i, by omega, a, b⟩
    · rename_i h
      rw [ih]
      constructor
      · rintro ⟨i, hi, a, b⟩; exact ⟨i, by omega, a, b⟩
      · rintro ⟨i, hi, a, b⟩
        by_cases e : i = j
        · subst e; exact absurd a h
        · exact ⟨i, by omega, a, b⟩
/-- what the program makes of all words is what the model makes -/
theorem out_all (S C : List Int) (k : Nat) (d : Int) (hd : d < 0) : cmpT (sorted (C.map (outW S k))) C.length = outTo S C k d C.length := by
  have h := cmp_put (C.map (outW S k)) (fun i => outW S k (gi C i)) fun i hi => by
    rw [List.length_map] at hi; simp [gi, hi]
  rw [List.length_map] at h
  rw [h]
  refine asc_ext (asc_putTo asc_nil _ _) (asc_outTo _ _ _ _ _) fun y => ?_
  rw [mem_putTo, mem_outTo]
  constructor
  · rintro (h | ⟨i, hi, e⟩)
    · simp at h
    · exact ⟨i, hi, .inl hd, e⟩
  · rintro ⟨i, hi, _, e⟩; exact .inr ⟨i, hi, e⟩
/-- the words with a digit at a place -/
def keepL (S C : List Int) (k : Nat) (d : Int) : List Int := C.filter fun x => !(dig S x k != d)
theorem mem_keepL (S C : List Int) (k : Nat) (d x : Int) : x ∈ keepL S C k d ↔ x ∈ C ∧ dig S x k = d := by
  unfold keepL; rw [List.mem_filter]; simp
theorem keep_code {S C : List Int} (h : eCode S C = 0) (k : Nat) (d : Int) : eCode S (keepL S C k d) = 0 := by
  obtain ⟨hs, c1, c2⟩ := eCode_zero h
  refine eCode_ok ((isSp_iff S).2 hs) ((codeB_iff S _).2 ⟨fun i hi => ?_, fun i h0 hi => ?_⟩)
  · obtain ⟨j, hj, e⟩ := mem_gi ((mem_keepL S C k d _).1 (gi_mem hi)).1
    rw [← e]; exact c1 j hj
  · have ha : Asc (keepL S C k d) := (asc_code h).sublist List.filter_sublist
    exact asc_lt ha (by omega) hi
theorem out_keep (S C : List Int) (k : Nat) (d : Int) (hd : 0 ≤ d) : outTo S (keepL S C k d) k (-1) (keepL S C k d).length = outTo S C k d C.length := by
  refine asc_ext (asc_outTo _ _ _ _ _) (asc_outTo _ _ _ _ _) fun y => ?_
  rw [mem_outTo, mem_outTo]
  constructor
  · rintro ⟨i, hi, _, e⟩
    obtain ⟨h1, h2⟩ := (mem_keepL S C k d _).1 (gi_mem hi)
    obtain ⟨j, hj, e2⟩ := mem_gi h1
    exact ⟨j, hj, .inr (by rw [e2]; exact h2), by rw [e2]; exact e⟩
  · rintro ⟨i, hi, a, e⟩
    have a2 : dig S (gi C i) k = d := by rcases a with a | a; omega; exact a
    obtain ⟨j, hj, e2⟩ := mem_gi ((mem_keepL S C k d (gi C i)).2 ⟨gi_mem hi, a2⟩)
    exact ⟨j, hj, .inl (by omega), by rw [e2]; exact e⟩

/-- the error of a space, a code and a place -/
def ePlc (S C : List Int) (i : Int) : Int := if eCode S C = 0 then (if 0 ≤ i ∧ i < S.length then 0 else 2) else eCode S C
def eTk (S C : List Int) (i : Int) : Int := if ePlc S C i = 0 then (if S.length = 1 then 5 else 0) else ePlc S C i
def vTkS (S C : List Int) (i : Int) : List Int := if eTk S C i = 0 then dropI i.toNat S else []
def vTkC (S C : List Int) (i : Int) : List Int := if eTk S C i = 0 then outTo S C i.toNat (-1) C.length else []
theorem ePlc_zero {S C : List Int} {i : Int} (h : ePlc S C i = 0) : eCode S C = 0 ∧ 0 ≤ i ∧ i < S.length := by
  unfold ePlc at h
  split at h
  · rename_i h1
    split at h
    · rename_i h2; exact ⟨h1, h2⟩
    · cases h
  · rename_i h1; exact absurd h h1
theorem eTk_zero {S C : List Int} {i : Int} (h : eTk S C i = 0) : ePlc S C i = 0 ∧ S.length ≠ 1 := by
  unfold eTk at h
  split at h
  · rename_i h1
    split at h
    · cases h
    · rename_i h2; exact ⟨h1, h2⟩
  · rename_i h1; exact absurd h h1
theorem vTkS_len (S C : List Int) (i : Int) : (vTkS S C i).length ≤ 8 := by
  unfold vTkS
  split
  · rename_i h
    obtain ⟨h1, h2⟩ := eTk_zero h
    obtain ⟨h3, h4, h5⟩ := ePlc_zero h1
    have := (eCode_zero h3).1.hi
    rw [dropI_len _ _ (by omega)]; omega
  · simp
theorem vTkC_len (S C : List Int) (i : Int) : (vTkC S C i).length ≤ 1048576 := by
  unfold vTkC
  split
  · rename_i h
    have := outTo_len S C i.toNat (-1) C.length
    have := code_len0 (ePlc_zero (eTk_zero h).1).1
    omega
  · simp
/-- and with the digit that is kept -/
def eKs (S C : List Int) (i d : Int) : Int := if ePlc S C i = 0 then (if 0 ≤ d ∧ d < gi S i.toNat then (if S.length = 1 then 5 else 0) else 2) else ePlc S C i
def vKsS (S C : List Int) (i d : Int) : List Int := if eKs S C i d = 0 then dropI i.toNat S else []
def vKsC (S C : List Int) (i d : Int) : List Int := if eKs S C i d = 0 then outTo S C i.toNat d C.length else []
theorem eKs_zero {S C : List Int} {i d : Int} (h : eKs S C i d = 0) : ePlc S C i = 0 ∧ (0 ≤ d ∧ d < gi S i.toNat) ∧ S.length ≠ 1 := by
  unfold eKs at h
  split at h
  · rename_i h1
    split at h
    · rename_i h2
      split at h
      · cases h
      · rename_i h3; exact ⟨h1, h2, h3⟩
    · cases h
  · rename_i h1; exact absurd h h1
theorem vKsS_len (S C : List Int) (i d : Int) : (vKsS S C i d).length ≤ 8 := by
  unfold vKsS
  split
  · rename_i h
    obtain ⟨h1, _, h2⟩ := eKs_zero h
    obtain ⟨h3, h4, h5⟩ := ePlc_zero h1
    have := (eCode_zero h3).1.hi
    rw [dropI_len _ _ (by omega)]; omega
  · simp
theorem vKsC_len (S C : List Int) (i d : Int) : (vKsC S C i d).length ≤ 1048576 := by
  unfold vKsC
  split
  · rename_i h
    have := outTo_len S C i.toNat d C.length
    have := code_len0 (ePlc_zero (eKs_zero h).1).1
    omega
  · simp
end Cv
end Go.Proofs.Ytpmeccpagndifaa
