/-
  Plain facts on bundles of perfect codes. By an AI agent.
-/
import Derived.Test.YtcbkmmadejbbpaaMathP
namespace Go.Proofs.Ytcbkmmadejbbpaa
open Cv
set_option linter.unusedVariables false
set_option linter.unusedSimpArgs false

/-- whether two words are bound at a place -/
def bndB (S : List Int) (i : Nat) (x y : Int) : Bool := decide (dist S x y = 3) && (dig S x i != dig S y i)
/-- a list with the words of the first k of a code that are bound to x and that it lacks -/
def buIn (S C : List Int) (i : Nat) (x : Int) (Q : List Int) : Nat → List Int
  | 0 => Q
  | k + 1 => if bndB S i x (gi C k) = true ∧ ¬ gi C k ∈ buIn S C i x Q k then buIn S C i x Q k ++ [gi C k] else buIn S C i x Q k
def buTo (S C : List Int) (i : Nat) (w : Int) : Nat → List Int
  | 0 => [w]
  | k + 1 => if k < (buTo S C i w k).length then buIn S C i (gi (buTo S C i w k) k) (buTo S C i w k) C.length else buTo S C i w k
def bunL (S C : List Int) (i : Nat) (w : Int) : List Int := buTo S C i w C.length
structure Sub (C Q : List Int) : Prop where
  nd : Q.Nodup
  sub : ∀ y, y ∈ Q → y ∈ C
theorem Sub.len {C Q : List Int} (h : Sub C Q) : Q.length ≤ C.length := nd_len h.nd h.sub
theorem sub_in {S C : List Int} (i : Nat) (x : Int) {Q : List Int} (h : Sub C Q) (k : Nat) (hk : k ≤ C.length) : Sub C (buIn S C i x Q k) := by
  induction k with
  | zero => exact h
  | succ k ih =>
    have h1 := ih (by omega)
    rw [buIn]
    split
    · rename_i g
      refine ⟨List.nodup_append.2 ⟨h1.nd, by simp, ?_⟩, ?_⟩
      · intro a ha b hb e
        rw [List.mem_singleton] at hb
        subst hb; subst e; exact g.2 ha
      · intro y hy
        rw [List.mem_append, List.mem_singleton] at hy
        rcases hy with hy | hy
        · exact h1.sub y hy
        · subst hy; exact gi_mem (by omega)
    · exact h1
theorem in_len {S C : List Int} (i : Nat) (x : Int) (Q : List Int) (k : Nat) : Q.length ≤ (buIn S C i x Q k).length := by
  induction k with
  | zero => exact Nat.le_refl _
  | succ k ih =>
    rw [buIn]; split
    · rw [List.length_append]; omega
    · exact ih
theorem in_gi {S C : List Int} (i : Nat) (x : Int) (Q : List Int) (k j : Nat) (hj : j < Q.length) : gi (buIn S C i x Q k) j = gi Q j := by
  induction k with
  | zero => rfl
  | succ k ih =>
    have := in_len (S := S) (C := C) i x Q k
    rw [buIn]; split
    · rw [gi_append_lt _ _ _ (by omega), ih]
    · exact ih
theorem sub_to {S C : List Int} (i : Nat) {w : Int} (hw : w ∈ C) (k : Nat) : Sub C (buTo S C i w k) := by
  induction k with
  | zero => exact ⟨by simp [buTo], fun y hy => by simp [buTo] at hy; subst hy; exact hw⟩
  | succ k ih =>
    rw [buTo]; split
    · exact sub_in i _ ih _ (Nat.le_refl _)
    · exact ih
theorem to_len {S C : List Int} (i : Nat) (w : Int) (k : Nat) : 1 ≤ (buTo S C i w k).length := by
  induction k with
  | zero => simp [buTo]
  | succ k ih =>
    rw [buTo]; split
    · have := in_len (S := S) (C := C) i (gi (buTo S C i w k) k) (buTo S C i w k) C.length; omega
    · exact ih
theorem to_step {S C : List Int} {i : Nat} {w : Int} {k : Nat} (h : k < (buTo S C i w k).length) : buTo S C i w (k + 1) = buIn S C i (gi (buTo S C i w k) k) (buTo S C i w k) C.length := by rw [buTo, if_pos h]
theorem to_end {S C : List Int} {i : Nat} {w : Int} (hw : w ∈ C) {k : Nat} (hk : k ≤ (buTo S C i w k).length) (h : ¬ k < (buTo S C i w k).length) : bunL S C i w = buTo S C i w k := by
  have h1 := (sub_to (S := S) i hw k).len
  have key : ∀ m, buTo S C i w (k + m) = buTo S C i w k := by
    intro m
    induction m with
    | zero => rfl
    | succ m ih => rw [← Nat.add_assoc, buTo, ih, if_neg (by omega)]
  unfold bunL
  have := key (C.length - k)
  rw [show k + (C.length - k) = C.length by omega] at this
  exact this
theorem bun_sub {S C : List Int} (i : Nat) {w : Int} (hw : w ∈ C) : Sub C (bunL S C i w) := sub_to i hw _
theorem put_srt {L : List Int} (h : L.Nodup) {x : Int} (hx : x ∉ L) : putL (sorted L) x = sorted (L ++ [x]) := by
  refine asc_ext (asc_putL (asc_sorted h) x) (asc_sorted ?_) fun y => ?_
  · refine List.nodup_append.2 ⟨h, by simp, ?_⟩
    intro a ha b hb e
    rw [List.mem_singleton] at hb
    subst hb; subst e; exact hx ha
  · rw [mem_putL, mem_sorted, mem_sorted, List.mem_append, List.mem_singleton]
theorem sorted_1 (x : Int) : sorted [x] = [x] := by
  have h := sorted_perm [x]
  exact List.perm_singleton.1 h

/-- the error of a code, a word and a place -/
def eBuA (S C : List Int) (x i : Int) : Int := if eCode S C = 0 then (if (0 ≤ x ∧ x < nW S) ∧ 0 ≤ i ∧ i < S.length then 0 else 2) else eCode S C
def allTwo (S : List Int) : Bool := decide (∀ k, k < S.length → gi S k = 2)
def eBun (S C : List Int) (x i : Int) : Int := if eBuA S C x i = 0 then (if allTwo S = true ∧ perB S C 1 = true ∧ x ∈ C then 0 else 5) else eBuA S C x i
def vBun (S C : List Int) (x i : Int) : List Int := if eBun S C x i = 0 then sorted (bunL S C i.toNat x) else []
theorem eBuA_zero {S C : List Int} {x i : Int} (h : eBuA S C x i = 0) : eCode S C = 0 ∧ (0 ≤ x ∧ x < nW S) ∧ 0 ≤ i ∧ i < S.length := by
  unfold eBuA at h
  split at h
  · rename_i h1
    split at h
    · rename_i h2; exact ⟨h1, h2⟩
    · omega
  · rename_i h1; exact absurd h h1
theorem eBun_zero {S C : List Int} {x i : Int} (h : eBun S C x i = 0) : eBuA S C x i = 0 ∧ allTwo S = true ∧ perB S C 1 = true ∧ x ∈ C := by
  unfold eBun at h
  split at h
  · rename_i h1
    split at h
    · rename_i h2; exact ⟨h1, h2⟩
    · omega
  · rename_i h1; exact absurd h h1
theorem eBuA_or (S C : List Int) (x i : Int) : orI (eCW S C [x]) (ePlc S C i) = eBuA S C x i := by
  unfold eBuA
  by_cases h : eCode S C = 0
  · rw [if_pos h, eCW_at h, ePlc, if_pos h]
    unfold orI
    repeat' split
    all_goals first | rfl | omega
  · have h2 : eCW S C [x] = eCode S C := by unfold eCW orI; rw [if_neg h]
    rw [if_neg h, h2]
    unfold orI; rw [if_neg h]
theorem vBun_len (S C : List Int) (x i : Int) : (vBun S C x i).length ≤ 1024 := by
  unfold vBun
  split
  · rename_i h
    obtain ⟨h1, _, _, h4⟩ := eBun_zero h
    have h5 := code_len0 (eBuA_zero h1).1
    have := (bun_sub (S := S) i.toNat h4).len
    rw [sorted_len]; omega
  · simp
end Go.Proofs.Ytcbkmmadejbbpaa
