/-
  Plain facts of nearest and farthest words (for the law FnNearest). By an AI agent.
-/
import Derived.Test.YtlhapanfegjafaaMath
namespace Go.Proofs.Ytlhapanfegjafaa
set_option linter.unusedVariables false
set_option linter.unusedSimpArgs false
namespace Cv

theorem minTo_at (f : Nat → Int) (k : Nat) : ∃ j, j ≤ k ∧ f j = minTo f k := by
  induction k with
  | zero => exact ⟨0, Nat.le_refl _, rfl⟩
  | succ k ih =>
    obtain ⟨j, hj, e⟩ := ih
    show ∃ j, _ ∧ f j = min (minTo f k) (f (k + 1))
    by_cases h : minTo f k ≤ f (k + 1)
    · exact ⟨j, by omega, by rw [Int.min_eq_left h]; exact e⟩
    · exact ⟨k + 1, by omega, by rw [Int.min_eq_right (by omega)]⟩
theorem farB_at (f : Nat → Int) (k : Nat) : f (farB f k).1.toNat = (farB f k).2 := by
  induction k with
  | zero => rfl
  | succ k ih =>
    simp only [farB]
    split
    · show f ((k + 1 : Nat) : Int).toNat = _
      rw [Int.toNat_natCast]
    · exact ih
theorem mem_nearOut {S C : List Int} {x m u : Int} (k : Nat) : u ∈ nearOut S C x m k ↔ ∃ j, j < k ∧ gi C j = u ∧ dist S u x = m := by
  induction k with
  | zero => simp [nearOut]
  | succ k ih =>
    simp only [nearOut, List.mem_append, ih]
    constructor
    · rintro (⟨j, hj, h1, h2⟩ | h)
      · exact ⟨j, by omega, h1, h2⟩
      · split at h
        · rename_i hd
          have e : u = gi C k := by simpa using h
          exact ⟨k, by omega, e.symm, by rw [e]; exact hd⟩
        · simp at h
    · rintro ⟨j, hj, h1, h2⟩
      by_cases e : j = k
      · subst e
        rw [h1, if_pos h2]
        exact .inr (by simp)
      · exact .inl ⟨j, by omega, h1, h2⟩
theorem near_own {S C : List Int} {x : Int} (h : eNear S C x = 0) {i : Nat} (hi : i < C.length) :
    eWords S [gi C i, x] = 0 ∧ vDist S (gi C i) x = dist S (gi C i) x ∧ toW S C x ≤ dist S (gi C i) x ∧ (dist S (gi C i) x = toW S C x ↔ gi C i ∈ vNear S C x) := by
  obtain ⟨h1, h2⟩ := eCW_zero h
  obtain ⟨hs, hc, _⟩ := eCode_zero h1
  obtain ⟨_, x0, x1⟩ := eWords1 h2
  have hw : eWords S [gi C i, x] = 0 := eWords_ok ((isSp_iff S).2 hs) fun k hk => by
    match k, hk with
    | 0, _ => exact hc i hi
    | 1, _ => exact ⟨x0, x1⟩
  refine ⟨hw, by unfold vDist; rw [if_pos hw], minTo_le _ _ i (by omega), ?_⟩
  unfold vNear
  rw [if_pos h, mem_nearOut]
  constructor
  · intro e; exact ⟨i, hi, rfl, e⟩
  · rintro ⟨j, _, _, e⟩; exact e
theorem near_some {S C : List Int} {x : Int} (h : eNear S C x = 0) (hc : 0 < C.length) : 0 < (vNear S C x).length := by
  obtain ⟨j, hj, e⟩ := minTo_at (fun k => dist S (gi C k) x) (C.length - 1)
  have := ((near_own h (i := j) (by omega)).2.2.2).1 e
  exact List.length_pos_of_mem this
theorem near_no {S C : List Int} {x : Int} (h : eNear S C x ≠ 0) : vNear S C x = [] ∧ eTo S C x = eNear S C x := by
  refine ⟨by unfold vNear; rw [if_neg h], ?_⟩
  unfold eTo eSome
  rw [if_neg (fun e => h e.1)]; rfl
theorem near_nil {S C : List Int} {x : Int} (h : eNear S C x = 0) (hc : C.length = 0) : vNear S C x = [] ∧ eTo S C x = 5 := by
  refine ⟨by unfold vNear; rw [if_pos h, hc]; rfl, ?_⟩
  unfold eTo eSome
  rw [if_pos ⟨h, hc⟩]
theorem near_to {S C : List Int} {x : Int} (h : eNear S C x = 0) (hc : 0 < C.length) : eTo S C x = 0 ∧ vTo S C x = toW S C x := by
  have e : eTo S C x = 0 := by
    unfold eTo eSome
    rw [if_neg (by omega)]; exact h
  exact ⟨e, by unfold vTo; rw [if_pos e]⟩
theorem far_to {S C : List Int} (h : eFull S C = 0) : eTo S C (vFarthest S C) = 0 ∧ vTo S C (vFarthest S C) = vRadius S C ∧ 0 ≤ vFarthest S C ∧ vFarthest S C < nW S := by
  obtain ⟨h1, hc⟩ := eFull_zero h
  obtain ⟨hs, _, _⟩ := eCode_zero h1
  have hn := nW_bd hs
  have hf : vFarthest S C = (farW S C).1 := by unfold vFarthest; rw [if_pos h]
  have hr : vRadius S C = (farW S C).2 := by unfold vRadius; rw [if_pos h]
  have hb := (farB_bd (fun (u : Nat) => toW S C (u : Int)) ((nW S).toNat - 1) 0 S.length (fun j _ => toW_bd S C j)).1
  have ha := farB_at (fun (u : Nat) => toW S C (u : Int)) ((nW S).toNat - 1)
  have b0 : 0 ≤ (farW S C).1 := hb.1
  have b1 : (farW S C).1 < nW S := by have := hb.2; show (farB _ _).1 < _; omega
  have hw : eWords S [(farW S C).1] = 0 := by rw [eWords_w hs, if_pos ⟨b0, b1⟩]
  have hn0 : eNear S C (farW S C).1 = 0 := by unfold eNear eCW orI; rw [if_pos h1]; exact hw
  obtain ⟨t1, t2⟩ := near_to hn0 hc
  rw [hf, hr]
  refine ⟨t1, ?_, b0, b1⟩
  rw [t2]
  have e : (((farW S C).1.toNat : Nat) : Int) = (farW S C).1 := by omega
  have ha' : toW S C (((farW S C).1.toNat : Nat) : Int) = (farW S C).2 := ha
  rw [e] at ha'
  exact ha'

end Cv
end Go.Proofs.Ytlhapanfegjafaa
