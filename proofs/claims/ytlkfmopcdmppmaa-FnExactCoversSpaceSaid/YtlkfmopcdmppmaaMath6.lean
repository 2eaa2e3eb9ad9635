/-
  Plain facts on the words of a ball in their order: the walk over digits gives them. By an AI agent.
-/
import Derived.Test.YtlkfmopcdmppmaaMath5
namespace Go.Proofs.Ytlkfmopcdmppmaa
set_option linter.unusedVariables false
set_option linter.unusedSimpArgs false
namespace Cv

/-- the product of the last k sizes -/
def restP (S : List Int) : Nat → Int
  | 0 => 1
  | k + 1 => restP S k * gi S (S.length - 1 - k)
theorem restP_pos (S : List Int) (h : ∀ i, i < S.length → 2 ≤ gi S i ∧ gi S i ≤ 4) (k : Nat) (hk : k ≤ S.length) : 1 ≤ restP S k := by
  induction k with
  | zero => simp [restP]
  | succ k ih =>
    have h1 := ih (by omega)
    have h2 := (h (S.length - 1 - k) (by omega)).1
    show 1 ≤ restP S k * gi S (S.length - 1 - k)
    have := Int.mul_le_mul h1 (show 1 ≤ gi S (S.length - 1 - k) by omega) (by omega) (by omega)
    omega
theorem prod_rest (S : List Int) (k : Nat) (hk : k ≤ S.length) : prodTo S S.length = prodTo S (S.length - k) * restP S k := by
  induction k with
  | zero => simp [restP]
  | succ k ih =>
    rw [ih (by omega)]
    have e : S.length - k = (S.length - (k + 1)) + 1 := by omega
    have e2 : S.length - 1 - k = S.length - (k + 1) := by omega
    rw [e, prodTo, restP, e2, Int.mul_assoc, Int.mul_comm (gi S _) (restP S k)]
theorem restP_all (S : List Int) : restP S S.length = nW S := by
  have := prod_rest S S.length (Nat.le_refl _)
  simpa [prodTo, nW] using this.symm
theorem quoTop_rest (S : List Int) (h : ∀ i, i < S.length → 2 ≤ gi S i ∧ gi S i ≤ 4) (u : Int) (k : Nat) (hk : k ≤ S.length) : quoTop S u k = u / restP S k := by
  induction k with
  | zero => simp [quoTop, restP]
  | succ k ih =>
    have := restP_pos S h k (by omega)
    rw [quoTop, ih (by omega), restP, Int.ediv_ediv_of_nonneg (by omega)]

/-- the last k digits: how many are different -/
def dT (S : List Int) (x u : Int) (k : Nat) : Int := cntTop (fun i => dig S u i != dig S x i) S.length k
theorem dT_bd (S : List Int) (x u : Int) (k : Nat) : 0 ≤ dT S x u k ∧ dT S x u k ≤ k := cntTop_bd _ _ _
theorem dT_all (S : List Int) (x u : Int) : dT S x u S.length = dist S u x := cntTop_all _ _

/-- the words that go on from st with k digits more -/
def allL (S : List Int) : Nat → Int → List Int
  | 0, st => [st]
  | k + 1, st => (List.range (gi S (S.length - 1 - k)).toNat).flatMap fun (d : Nat) => allL S k (st * gi S (S.length - 1 - k) + d)
theorem flat_range (q R : Nat) (f : Nat → Int) : ((List.range q).flatMap fun d => (List.range R).map fun t => f (d * R + t)) = (List.range (q * R)).map f := by
  induction q with
  | zero => simp
  | succ q ih =>
    rw [List.range_succ, List.flatMap_append, ih, Nat.add_mul, Nat.one_mul, List.range_add, List.map_append]
    simp
theorem allL_eq (S : List Int) (h : ∀ i, i < S.length → 2 ≤ gi S i ∧ gi S i ≤ 4) (k : Nat) (hk : k ≤ S.length) (st : Int) :
    allL S k st = (List.range (restP S k).toNat).map fun (t : Nat) => st * restP S k + t := by
  induction k generalizing st with
  | zero => simp [allL, restP]
  | succ k ih =>
    have hp := restP_pos S h k (by omega)
    have hq := h (S.length - 1 - k) (by omega)
    have e : (restP S (k + 1)).toNat = (gi S (S.length - 1 - k)).toNat * (restP S k).toNat := by
      rw [restP, Int.mul_comm, Int.toNat_mul (by omega) (by omega)]
    have e2 : ((restP S k).toNat : Int) = restP S k := Int.toNat_of_nonneg (by omega)
    rw [e, ← flat_range, allL]
    congr 1
    funext d
    rw [ih (by omega)]
    congr 1
    funext t
    rw [restP, Int.natCast_add, Int.natCast_mul, e2, Int.add_mul, ← Int.mul_assoc, Int.mul_right_comm, Int.add_assoc]

theorem mem_allL (S : List Int) (h : ∀ i, i < S.length → 2 ≤ gi S i ∧ gi S i ≤ 4) (k : Nat) (hk : k ≤ S.length) (st u : Int) (hu : u ∈ allL S k st) : quoTop S u k = st := by
  rw [allL_eq S h k hk] at hu
  obtain ⟨t, ht, rfl⟩ := List.mem_map.1 hu
  have hp := restP_pos S h k hk
  rw [List.mem_range] at ht
  rw [quoTop_rest S h _ k hk, Int.add_comm, Int.add_mul_ediv_right _ _ (by omega), Int.ediv_eq_zero_of_lt (by omega) (by omega)]
  omega
theorem dig_allL (S : List Int) (h : ∀ i, i < S.length → 2 ≤ gi S i ∧ gi S i ≤ 4) (k : Nat) (hk : k < S.length) (st : Int) (d : Nat) (hd : (d : Int) < gi S (S.length - 1 - k)) (u : Int) (hu : u ∈ allL S k (st * gi S (S.length - 1 - k) + d)) : dig S u (S.length - 1 - k) = d := by
  have := mem_allL S h k (by omega) _ u hu
  have e : S.length - 1 - (S.length - 1 - k) = k := by omega
  rw [dig, e, this, Int.add_comm, Int.add_mul_emod_self_right, Int.emod_eq_of_lt (by omega) hd]

/-- what the digit d costs at the place that has k places behind it -/
def cost (S : List Int) (x : Int) (k : Nat) (d : Int) : Int := if d = dig S x (S.length - 1 - k) then 0 else 1
/-- the walk: what it yields, from the first digits on -/
def walkL (S : List Int) (x r : Int) : Nat → Int → Int → List (Int × Int)
  | 0, st, far => [(st, far)]
  | k + 1, st, far => (List.range (gi S (S.length - 1 - k)).toNat).flatMap fun (d : Nat) =>
      if far + cost S x k d ≤ r then walkL S x r k (st * gi S (S.length - 1 - k) + d) (far + cost S x k d) else []
/-- what one round of the walk yields -/
def walkD (S : List Int) (x r : Int) (k : Nat) (st far : Int) (d : Nat) : List (Int × Int) :=
  if far + cost S x k d ≤ r then walkL S x r k (st * gi S (S.length - 1 - k) + d) (far + cost S x k d) else []
theorem walkL_succ (S : List Int) (x r : Int) (k : Nat) (st far : Int) : walkL S x r (k + 1) st far = (List.range (gi S (S.length - 1 - k)).toNat).flatMap (walkD S x r k st far) := rfl
def keep (S : List Int) (x r : Int) (k : Nat) (far u : Int) : Option (Int × Int) := if far + dT S x u k ≤ r then some (u, far + dT S x u k) else none

theorem dT_step (S : List Int) (x u : Int) (k : Nat) : dT S x u (k + 1) = dT S x u k + cost S x k (dig S u (S.length - 1 - k)) := by
  unfold dT cost
  rw [cntTop]
  by_cases e : dig S u (S.length - 1 - k) = dig S x (S.length - 1 - k) <;> simp [e]

theorem fm_congr {A B : Type} {f g : A → Option B} {l : List A} (h : ∀ u ∈ l, f u = g u) : l.filterMap f = l.filterMap g := by
  induction l with
  | nil => rfl
  | cons a l ih =>
    have h1 := h a (by simp)
    have h2 := ih fun u hu => h u (by simp [hu])
    simp only [List.filterMap_cons, h1, h2]
theorem walkL_eq (S : List Int) (h : ∀ i, i < S.length → 2 ≤ gi S i ∧ gi S i ≤ 4) (x r : Int) (k : Nat) (hk : k ≤ S.length) (st far : Int) (hf : far ≤ r) :
    walkL S x r k st far = (allL S k st).filterMap (keep S x r k far) := by
  induction k generalizing st far with
  | zero => simp [walkL, allL, keep, dT, cntTop, hf]
  | succ k ih =>
    rw [walkL, allL, List.filterMap_flatMap]
    rw [List.flatMap_def, List.flatMap_def]
    congr 1
    apply List.map_congr_left
    intro d hd
    have hq := h (S.length - 1 - k) (by omega)
    rw [List.mem_range] at hd
    have hd' : (d : Int) < gi S (S.length - 1 - k) := by omega
    have hk1 : ∀ u ∈ allL S k (st * gi S (S.length - 1 - k) + d), keep S x r (k + 1) far u = keep S x r k (far + cost S x k d) u := by
      intro u hu
      unfold keep
      rw [dT_step, dig_allL S h k (by omega) st d hd' u hu]
      have e : far + (dT S x u k + cost S x k d) = far + cost S x k d + dT S x u k := by omega
      rw [e]
    rw [fm_congr hk1]
    split
    · rename_i hc
      exact ih (by omega) _ _ hc
    · rename_i hc
      symm
      rw [List.filterMap_eq_nil_iff]
      intro u hu
      unfold keep
      rw [if_neg (by have := (dT_bd S x u k).1; omega)]

/-- the words of a ball with their distances, ascending -/
def ballP (S : List Int) (x r : Int) : List (Int × Int) := (List.range (nW S).toNat).filterMap fun (u : Nat) => if dist S u x ≤ r then some ((u : Int), dist S u x) else none
theorem walk_ball (S : List Int) (h : ∀ i, i < S.length → 2 ≤ gi S i ∧ gi S i ≤ 4) (x r : Int) (hr : 0 ≤ r) : walkL S x r S.length 0 0 = ballP S x r := by
  rw [walkL_eq S h x r S.length (Nat.le_refl _) 0 0 hr, allL_eq S h _ (Nat.le_refl _), List.filterMap_map, restP_all]
  unfold ballP
  congr 1
  funext t
  simp [keep, dT_all]

theorem ballP_map (S : List Int) (x r : Int) : (ballP S x r).map Prod.fst = ((List.range (nW S).toNat).filter fun (u : Nat) => decide (dist S u x ≤ r)).map Int.ofNat := by
  unfold ballP
  induction (List.range (nW S).toNat) with
  | nil => rfl
  | cons u l ih =>
    by_cases e : dist S u x ≤ r
    · simp only [List.filterMap_cons, List.filter_cons, e, if_true, decide_true, List.map_cons, ih]; rfl
    · simp only [List.filterMap_cons, List.filter_cons, e, if_false, decide_false, ih]; simp

theorem walkL_len (S : List Int) (h : ∀ i, i < S.length → 2 ≤ gi S i ∧ gi S i ≤ 4) (x r : Int) (k : Nat) (hk : k ≤ S.length) (st far : Int) (hf : far ≤ r) : (walkL S x r k st far).length ≤ (restP S k).toNat := by
  rw [walkL_eq S h x r k hk st far hf, allL_eq S h k hk]
  refine Nat.le_trans (List.length_filterMap_le _ _) (by simp)

end Cv
end Go.Proofs.Ytlkfmopcdmppmaa
