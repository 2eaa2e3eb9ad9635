/-
  Plain facts on balls and spheres as lists of words. By an AI agent.
-/
import Derived.Test.YtlkfmopcdmppmaaMath7
namespace Go.Proofs.Ytlkfmopcdmppmaa
set_option linter.unusedVariables false
set_option linter.unusedSimpArgs false
namespace Cv

/-- those of 0 .. n - 1 that p holds of -/
def selTo (p : Nat → Bool) : Nat → List Int
  | 0 => []
  | k + 1 => selTo p k ++ if p k then [(k : Int)] else []
theorem selTo_yes {p : Nat → Bool} {k : Nat} (h : p k = true) : selTo p (k + 1) = selTo p k ++ [(k : Int)] := by rw [selTo, if_pos h]
theorem selTo_no {p : Nat → Bool} {k : Nat} (h : p k = false) : selTo p (k + 1) = selTo p k := by rw [selTo, if_neg (by simp [h]), List.append_nil]
theorem selTo_len (p : Nat → Bool) (n : Nat) : (selTo p n).length ≤ n := by
  induction n with
  | zero => simp [selTo]
  | succ n ih => rw [selTo, List.length_append]; split <;> simp <;> omega
theorem selTo_eq (p : Nat → Bool) (n : Nat) : selTo p n = ((List.range n).filter p).map Int.ofNat := by
  induction n with
  | zero => rfl
  | succ n ih =>
    rw [selTo, ih, List.range_succ, List.filter_append, List.map_append]
    congr 1
    by_cases h : p n = true
    · simp [h]
    · simp [h]
/-- the words of a ball, of a sphere -/
def ballB (S : List Int) (x r : Int) (u : Nat) : Bool := decide (dist S u x ≤ r)
def sphB (S : List Int) (x r : Int) (u : Nat) : Bool := decide (dist S u x = r)
def ballW (S : List Int) (x r : Int) : List Int := selTo (ballB S x r) (nW S).toNat
def sphW (S : List Int) (x r : Int) : List Int := selTo (sphB S x r) (nW S).toNat
theorem ballW_P (S : List Int) (x r : Int) : (ballP S x r).map Prod.fst = ballW S x r := by rw [ballP_map, ballW, selTo_eq]; rfl
theorem sphW_P (S : List Int) (x r : Int) : ((ballP S x r).filter fun p => decide (p.2 = r)).map Prod.fst = sphW S x r := by
  rw [sphW, selTo_eq, ballP]
  induction (List.range (nW S).toNat) with
  | nil => rfl
  | cons u l ih =>
    by_cases e : dist S u x = r
    · simp only [List.filterMap_cons, List.filter_cons, sphB, e, Int.le_refl, if_true, decide_true, List.map_cons, ih]; rfl
    · by_cases e2 : dist S u x ≤ r
      · simp only [List.filterMap_cons, List.filter_cons, sphB, e, e2, if_true, decide_false]; exact ih
      · simp only [List.filterMap_cons, List.filter_cons, sphB, e, e2, if_false, decide_false, ih]; simp [sphB]
theorem ballW_len {S : List Int} (h : Sp S) (x r : Int) : (ballW S x r).length ≤ 1024 := by
  have := selTo_len (ballB S x r) (nW S).toNat
  have := (nW_bd h).2
  unfold ballW; omega
theorem sphW_len {S : List Int} (h : Sp S) (x r : Int) : (sphW S x r).length ≤ 1024 := by
  have := selTo_len (sphB S x r) (nW S).toNat
  have := (nW_bd h).2
  unfold sphW; omega
def vBall (S : List Int) (x r : Int) : List Int := if eBall S x r = 0 then ballW S x r else []
def vSph (S : List Int) (x r : Int) : List Int := if eBall S x r = 0 then sphW S x r else []
theorem vBall_len (S : List Int) (x r : Int) : (vBall S x r).length ≤ 1024 := by
  unfold vBall; split
  · rename_i h; exact ballW_len (eWords1 (eBall_zero h).1).1 x r
  · simp
theorem vSph_len (S : List Int) (x r : Int) : (vSph S x r).length ≤ 1024 := by
  unfold vSph; split
  · rename_i h; exact sphW_len (eWords1 (eBall_zero h).1).1 x r
  · simp

end Cv
end Go.Proofs.Ytlkfmopcdmppmaa
