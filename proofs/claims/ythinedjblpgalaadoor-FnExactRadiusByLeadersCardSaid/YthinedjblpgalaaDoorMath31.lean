/-
  Plain facts on the leaders of all classes, and on the greatest weight of one. By an AI agent.
-/
import Derived.Test.YthinedjblpgalaaDoorMath30
namespace Go.Proofs.YthinedjblpgalaaDoor
set_option linter.unusedVariables false
set_option linter.unusedSimpArgs false
namespace Cv

/-- the words of the classes of the first k words -/
def knTo (S C : List Int) : Nat → List Int
  | 0 => []
  | k + 1 => if (k : Int) ∈ knTo S C k then knTo S C k else knTo S C k ++ shL S C k
/-- their leaders, as they are found -/
def ldsTo (S C : List Int) : Nat → List Int
  | 0 => []
  | k + 1 => if (k : Int) ∈ knTo S C k then ldsTo S C k else ldsTo S C k ++ [ldr S C k]
/-- and as the model puts them together -/
def ldsM (S C : List Int) : Nat → List Int
  | 0 => []
  | k + 1 => if (k : Int) ∈ knTo S C k then ldsM S C k else putL (ldsM S C k) (ldr S C k)
theorem kn_yes {S C : List Int} {k : Nat} (h : (k : Int) ∈ knTo S C k) : knTo S C (k + 1) = knTo S C k ∧ ldsTo S C (k + 1) = ldsTo S C k ∧ ldsM S C (k + 1) = ldsM S C k := by
  refine ⟨?_, ?_, ?_⟩
  · rw [knTo, if_pos h]
  · rw [ldsTo, if_pos h]
  · rw [ldsM, if_pos h]
theorem kn_no {S C : List Int} {k : Nat} (h : (k : Int) ∉ knTo S C k) : knTo S C (k + 1) = knTo S C k ++ shL S C k ∧ ldsTo S C (k + 1) = ldsTo S C k ++ [ldr S C k] ∧ ldsM S C (k + 1) = putL (ldsM S C k) (ldr S C k) := by
  refine ⟨?_, ?_, ?_⟩
  · rw [knTo, if_neg h]
  · rw [ldsTo, if_neg h]
  · rw [ldsM, if_neg h]
theorem kn_bits {S C : List Int} {k : Nat} (h : (k : Int) ∉ knTo S C k) : inL (knTo S C (k + 1)) = fun u => inL (knTo S C k) u || inL (shL S C k) u := by
  funext u
  rw [(kn_no h).1]
  unfold inL
  rw [Bool.eq_iff_iff, Bool.or_eq_true, decide_eq_true_eq, decide_eq_true_eq, decide_eq_true_eq, List.mem_append]
theorem wd_nat {S : List Int} {k : Nat} (h : k < (nW S).toNat) : Wd S (k : Int) := ⟨by omega, by omega⟩

/-- what is known is closed -/
theorem kn_closed {S C : List Int} (hP : Pl S) (h : Gp S C) (k : Nat) (hk : k ≤ (nW S).toNat) : ∀ y, y ∈ knTo S C k → Wd S y ∧ ∀ z, z ∈ shL S C y → z ∈ knTo S C k := by
  induction k with
  | zero => intro y hy; simp [knTo] at hy
  | succ k ih =>
    have h1 := ih (by omega)
    by_cases e : (k : Int) ∈ knTo S C k
    · rw [(kn_yes e).1]; exact h1
    · rw [(kn_no e).1]
      intro y hy
      rcases List.mem_append.1 hy with hy | hy
      · exact ⟨(h1 y hy).1, fun z hz => List.mem_append_left _ ((h1 y hy).2 z hz)⟩
      · obtain ⟨u, hu, rfl⟩ := (mem_shL _ _ _ _).1 hy
        refine ⟨wd_sum hP.sp _ _, fun z hz => List.mem_append_right _ ?_⟩
        obtain ⟨v, hv, rfl⟩ := (mem_shL _ _ _ _).1 hz
        exact (mem_shL _ _ _ _).2 ⟨sumW S v u, h.sum v u hv hu, sum_assoc hP.sp _ _ _⟩
theorem ldr_mem {S C : List Int} (h : Gp S C) (x : Int) : ldr S C x ∈ shL S C x :=
  ldrTo_mem S (shL S C x) ((shL S C x).length - 1) (by have := List.length_pos_of_mem h.zero; rw [shL_len]; omega)
theorem sh_back {S C : List Int} (hP : Pl S) (h : Gp S C) {x y : Int} (hx : Wd S x) (hy : y ∈ shL S C x) : x ∈ shL S C y := by
  obtain ⟨u, hu, rfl⟩ := (mem_shL _ _ _ _).1 hy
  obtain ⟨v, hv, e⟩ := gp_neg hP h hu
  exact (mem_shL _ _ _ _).2 ⟨v, hv, by rw [← sum_assoc hP.sp, sum_comm hP.sp v u, e, sum_0l hP.sp hx]⟩
theorem sh_self {S C : List Int} (hP : Pl S) (h : Gp S C) {x : Int} (hx : Wd S x) : x ∈ shL S C x := (mem_shL _ _ _ _).2 ⟨0, h.zero, sum_0l hP.sp hx⟩
theorem lds_known {S C : List Int} (h : Gp S C) (k : Nat) : ∀ y, y ∈ ldsTo S C k → y ∈ knTo S C k := by
  induction k with
  | zero => intro y hy; simp [ldsTo] at hy
  | succ k ih =>
    by_cases e : (k : Int) ∈ knTo S C k
    · rw [(kn_yes e).1, (kn_yes e).2.1]; exact ih
    · rw [(kn_no e).1, (kn_no e).2.1]
      intro y hy
      rcases List.mem_append.1 hy with hy | hy
      · exact List.mem_append_left _ (ih y hy)
      · rw [List.mem_singleton] at hy; subst hy; exact List.mem_append_right _ (ldr_mem h _)
theorem lds_nd {S C : List Int} (hP : Pl S) (h : Gp S C) (k : Nat) (hk : k ≤ (nW S).toNat) : (ldsTo S C k).Nodup := by
  induction k with
  | zero => simp [ldsTo]
  | succ k ih =>
    have h1 := ih (by omega)
    by_cases e : (k : Int) ∈ knTo S C k
    · rw [(kn_yes e).2.1]; exact h1
    · rw [(kn_no e).2.1, List.nodup_append]
      refine ⟨h1, by simp, fun a ha b hb e2 => ?_⟩
      rw [List.mem_singleton] at hb
      subst e2 hb
      exact e ((kn_closed hP h k (by omega) _ (lds_known h k _ ha)).2 _ (sh_back hP h (wd_nat (by omega)) (ldr_mem h _)))
theorem lds_wd {S C : List Int} (hP : Pl S) (h : Gp S C) (k : Nat) : ∀ y, y ∈ ldsTo S C k → Wd S y := by
  induction k with
  | zero => intro y hy; simp [ldsTo] at hy
  | succ k ih =>
    by_cases e : (k : Int) ∈ knTo S C k
    · rw [(kn_yes e).2.1]; exact ih
    · rw [(kn_no e).2.1]
      intro y hy
      rcases List.mem_append.1 hy with hy | hy
      · exact ih y hy
      · rw [List.mem_singleton] at hy; subst hy; exact ldr_wd hP h _
theorem lds_len {S C : List Int} (hP : Pl S) (h : Gp S C) (k : Nat) (hk : k ≤ (nW S).toNat) : (ldsTo S C k).length ≤ 1024 := nd_words hP.sp (lds_nd hP h k hk) (lds_wd hP h k)
theorem ldsM_asc (S C : List Int) (k : Nat) : Asc (ldsM S C k) := by
  induction k with
  | zero => exact asc_nil
  | succ k ih =>
    by_cases e : (k : Int) ∈ knTo S C k
    · rw [(kn_yes e).2.2]; exact ih
    · rw [(kn_no e).2.2]; exact asc_putL ih _
theorem mem_ldsM (S C : List Int) (k : Nat) (y : Int) : y ∈ ldsM S C k ↔ y ∈ ldsTo S C k := by
  induction k with
  | zero => exact Iff.rfl
  | succ k ih =>
    by_cases e : (k : Int) ∈ knTo S C k
    · rw [(kn_yes e).2.2, (kn_yes e).2.1]; exact ih
    · rw [(kn_no e).2.2, (kn_no e).2.1, mem_putL, List.mem_append, List.mem_singleton, ih]
theorem lds_same {S C : List Int} (hP : Pl S) (h : Gp S C) (k : Nat) (hk : k ≤ (nW S).toNat) : sorted (ldsTo S C k) = ldsM S C k :=
  asc_ext (asc_sorted (lds_nd hP h k hk)) (ldsM_asc S C k) fun x => by rw [mem_sorted, mem_ldsM]
theorem ldsM_len (S C : List Int) (k : Nat) : (ldsM S C k).length ≤ k := by
  induction k with
  | zero => simp [ldsM]
  | succ k ih =>
    by_cases e : (k : Int) ∈ knTo S C k
    · rw [(kn_yes e).2.2]; omega
    · rw [(kn_no e).2.2]; have := putL_len (ldsM S C k) (ldr S C k); omega
theorem ldsM_wd {S C : List Int} (hP : Pl S) (h : Gp S C) (k : Nat) : ∀ y, y ∈ ldsM S C k → Wd S y := fun y hy => lds_wd hP h k y ((mem_ldsM _ _ _ _).1 hy)
theorem ldsM_pos {S C : List Int} {k : Nat} (hk : 1 ≤ k) : 1 ≤ (ldsM S C k).length := by
  have h : ldr S C ((0 : Nat) : Int) ∈ ldsTo S C k := by
    induction k with
    | zero => omega
    | succ k ih =>
      by_cases e0 : k = 0
      · subst e0
        rw [(kn_no (by simp [knTo])).2.1]; simp
      · have := ih (by omega)
        by_cases e : (k : Int) ∈ knTo S C k
        · rw [(kn_yes e).2.1]; exact this
        · rw [(kn_no e).2.1]; exact List.mem_append_left _ this
  exact List.length_pos_of_mem ((mem_ldsM _ _ _ _).2 h)

/-- the leaders of a linear code, ascending -/
def vLds (S C : List Int) : List Int := if eLin S C = 0 then ldsM S C (nW S).toNat else []
theorem eLin_zero {S C : List Int} (h : eLin S C = 0) : eCode S C = 0 ∧ linB S C = true := by
  unfold eLin at h
  split at h
  · rename_i h1
    split at h
    · rename_i h2; exact ⟨h1, h2⟩
    · cases h
  · rename_i h1; exact absurd h h1
theorem vLds_len (S C : List Int) : (vLds S C).length ≤ 1024 := by
  unfold vLds
  split
  · rename_i h
    obtain ⟨h1, h2⟩ := eLin_zero h
    have := nW_bd (eCode_zero h1).1
    have := ldsM_len S C (nW S).toNat
    omega
  · simp
/-- the greatest weight of the first k words of a list -/
def wmTo (S L : List Int) : Nat → Int
  | 0 => 0
  | k + 1 => if wmTo S L k < dist S 0 (gi L k) then dist S 0 (gi L k) else wmTo S L k
theorem wmTo_bd (S L : List Int) (k : Nat) : 0 ≤ wmTo S L k ∧ wmTo S L k ≤ S.length := by
  induction k with
  | zero => rw [wmTo]; omega
  | succ k ih => rw [wmTo]; have := dist_bd S 0 (gi L k); split <;> omega
/-- the greatest of the first k + 1 numbers -/
def mxTo (L : List Int) : Nat → Int
  | 0 => gi L 0
  | k + 1 => if mxTo L k < gi L (k + 1) then gi L (k + 1) else mxTo L k
theorem mx_wm (S L : List Int) (k : Nat) (hk : k < L.length) : mxTo (L.map (dist S 0)) k = wmTo S L (k + 1) := by
  have hg : ∀ i, i < L.length → gi (L.map (dist S 0)) i = dist S 0 (gi L i) := fun i hi => by
    rw [gi_lt _ _ (by simpa using hi), gi_lt _ _ hi]; simp
  induction k with
  | zero =>
    have := dist_bd S 0 (gi L 0)
    rw [mxTo, hg 0 hk, wmTo, wmTo]; split <;> omega
  | succ k ih => rw [mxTo, ih (by omega), hg _ hk]; rfl
def vRad (S C : List Int) : Int := if eLin S C = 0 then wmTo S (ldsM S C (nW S).toNat) (ldsM S C (nW S).toNat).length else 0
theorem mxTo_bd {L : List Int} {a b : Int} (h : ∀ i, i < L.length → a ≤ gi L i ∧ gi L i ≤ b) (k : Nat) (hk : k < L.length) : a ≤ mxTo L k ∧ mxTo L k ≤ b := by
  induction k with
  | zero => exact h 0 hk
  | succ k ih => rw [mxTo]; have := h (k + 1) hk; have := ih (by omega); split <;> omega

/-- the marks of known words and of the first words of a class -/
theorem known_marks {S C L : List Int} {k : Nat} (h : (k : Int) ∉ knTo S C k) (hL : ∀ y, y ∈ L ↔ y ∈ shL S C k) (n : Nat) : (List.range n).map (inL (knTo S C k ++ L)) = (List.range n).map (inL (knTo S C (k + 1))) := by
  refine List.map_congr_left fun j _ => ?_
  rw [(kn_no h).1]
  unfold inL
  rw [Bool.eq_iff_iff, decide_eq_true_eq, decide_eq_true_eq, List.mem_append, List.mem_append, hL]
theorem mem_class {S C : List Int} (x y : Int) : y ∈ putTo [] (fun i => sumW S (gi C i) x) C.length ↔ y ∈ shL S C x := by
  rw [mem_putTo, mem_shL]
  constructor
  · rintro (h | ⟨i, hi, e⟩)
    · simp at h
    · exact ⟨gi C i, gi_mem hi, e.symm⟩
  · rintro ⟨u, hu, e⟩
    obtain ⟨i, hi, rfl⟩ := mem_gi hu
    exact .inr ⟨i, hi, e.symm⟩
end Cv
end Go.Proofs.YthinedjblpgalaaDoor
