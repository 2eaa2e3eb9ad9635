/-
  Plain facts on the model's spans. By an AI agent.
-/
import Derived.Test.YtpmeccpagndifaaMath25
namespace Go.Proofs.Ytpmeccpagndifaa
set_option linter.unusedVariables false
set_option linter.unusedSimpArgs false
namespace Cv

/-- the model's multiples, and its next list -/
def ownW (S : List Int) (x : Int) : Nat → Int
  | 0 => 0
  | k + 1 => mulW S x k
theorem ownW_step {S : List Int} (hS : Sp S) {x : Int} (hx : Wd S x) (k : Nat) : sumW S (ownW S x k) x = ownW S x (k + 1) := by
  cases k with
  | zero => exact sum_0l hS hx
  | succ k => rfl
theorem ownW_wd {S : List Int} (hS : Sp S) {x : Int} (hx : Wd S x) (k : Nat) : Wd S (ownW S x k) := by
  cases k with
  | zero => exact wd_0 hS
  | succ k => exact mul_wd hS hx k
def nxL (S M : List Int) (x : Int) : Nat → List Int
  | 0 => M
  | k + 1 => nxL S M x k ++ putTo [] (fun i => sumW S (gi M i) (ownW S x (k + 1))) M.length
theorem nxL_len (S M : List Int) (x : Int) (k : Nat) : (nxL S M x k).length ≤ (k + 1) * M.length := by
  induction k with
  | zero => simp [nxL]
  | succ k ih =>
    have h := putTo_len [] (fun i => sumW S (gi M i) (ownW S x (k + 1))) M.length
    rw [nxL, List.length_append, Nat.add_mul (k + 1) 1]
    simp at h ⊢; omega
theorem mem_nxL (S M : List Int) (x : Int) (k : Nat) (y : Int) : y ∈ nxL S M x k ↔ y ∈ widL S M x k := by
  induction k with
  | zero => rfl
  | succ k ih =>
    rw [nxL, widL, List.mem_append, List.mem_append, ih, mem_putTo, mem_shL]
    constructor
    · rintro (h | h | ⟨i, hi, e⟩)
      · exact .inl h
      · simp at h
      · exact .inr ⟨gi M i, gi_mem hi, e.symm⟩
    · rintro (h | ⟨u, hu, e⟩)
      · exact .inl h
      · obtain ⟨i, hi, rfl⟩ := mem_gi hu
        exact .inr (.inr ⟨i, hi, e.symm⟩)
theorem mem_shL_congr {S L M : List Int} (h : ∀ u, u ∈ L ↔ u ∈ M) (x y : Int) : y ∈ shL S L x ↔ y ∈ shL S M x := by
  rw [mem_shL, mem_shL]
  exact ⟨fun ⟨u, a, b⟩ => ⟨u, (h u).1 a, b⟩, fun ⟨u, a, b⟩ => ⟨u, (h u).2 a, b⟩⟩
theorem mem_spW_congr {S L M : List Int} (h : ∀ u, u ∈ L ↔ u ∈ M) (x y : Int) : y ∈ spW S L x ↔ y ∈ spW S M x := by
  unfold spW
  split
  · simp only [List.mem_append, h y, mem_shL_congr h]
  · simp only [List.mem_append, h y, mem_shL_congr h]
/-- the model's span after the first k words -/
def moL (S G : List Int) (k : Nat) : List Int := selL (inL (spTo S G k)) (nW S).toNat
theorem mem_moL {S G : List Int} (hP : Pl S) (hG : ∀ i, i < G.length → Wd S (gi G i)) (k : Nat) (hk : k ≤ G.length) (u : Int) : u ∈ moL S G k ↔ u ∈ spTo S G k := by
  unfold moL; rw [← spTo_sel hP hG k hk, mem_sorted]
theorem moL_0 {S G : List Int} (hP : Pl S) (hG : ∀ i, i < G.length → Wd S (gi G i)) : moL S G 0 = [0] := by
  unfold moL; rw [← spTo_sel hP hG 0 (by omega)]
  show sorted [0] = [0]
  simp [sorted]
theorem moL_len {S G : List Int} (hP : Pl S) (hG : ∀ i, i < G.length → Wd S (gi G i)) (k : Nat) (hk : k ≤ G.length) : 1 ≤ (moL S G k).length ∧ (moL S G k).length ≤ 1024 := by
  unfold moL; rw [← spTo_sel hP hG k hk, sorted_len]; exact spTo_len hP hG k hk
theorem moL_yes {S G : List Int} {k : Nat} (h : gi G k ∈ spTo S G k) : moL S G (k + 1) = moL S G k := by unfold moL; rw [spTo, if_pos h]
theorem moL_no {S G : List Int} (hP : Pl S) (hG : ∀ i, i < G.length → Wd S (gi G i)) {k : Nat} (hk : k < G.length) (h : ¬ gi G k ∈ spTo S G k) :
    selL (inL (nxL S (moL S G k) (gi G k) (qN S))) (nW S).toNat = moL S G (k + 1) := by
  refine selL_congr fun i hi => ?_
  unfold inL
  rw [Bool.eq_iff_iff, decide_eq_true_eq, decide_eq_true_eq, mem_nxL, wid_end hP, spTo, if_neg h]
  exact mem_spW_congr (fun u => mem_moL hP hG k (by omega) u) _ _
theorem nx_wd {S G : List Int} (hP : Pl S) (hG : ∀ i, i < G.length → Wd S (gi G i)) {k : Nat} (hk : k < G.length) (h : ¬ gi G k ∈ spTo S G k) :
    ∀ i, i < (nxL S (moL S G k) (gi G k) (qN S)).length → 0 ≤ gi (nxL S (moL S G k) (gi G k) (qN S)) i ∧ gi (nxL S (moL S G k) (gi G k) (qN S)) i < nW S := by
  intro i hi
  have hm := gi_mem hi
  rw [mem_nxL, wid_end hP, mem_spW_congr (fun u => mem_moL hP hG k (by omega) u)] at hm
  have g := gp_to hP hG (k + 1) (by omega)
  rw [spTo, if_neg h] at g
  exact g.wd _ hm

end Cv
end Go.Proofs.Ytpmeccpagndifaa
