/-
  Plain facts on how often words are covered, counted ball by ball. By an AI agent.
-/
import Derived.Test.YtlkfmopcdmppmaaMath8
namespace Go.Proofs.Ytlkfmopcdmppmaa
set_option linter.unusedVariables false
set_option linter.unusedSimpArgs false
namespace Cv

theorem selTo_bd (p : Nat → Bool) (n t : Nat) (ht : t < (selTo p n).length) : 0 ≤ gi (selTo p n) t ∧ gi (selTo p n) t < n := by
  induction n with
  | zero => simp [selTo] at ht
  | succ n ih =>
    by_cases h : p n = true
    · rw [selTo_yes h] at ht ⊢
      rw [List.length_append] at ht
      by_cases e : t < (selTo p n).length
      · rw [gi_append_lt _ _ _ e]; have := ih e; omega
      · have e2 : t = (selTo p n).length := by simp at ht; omega
        subst e2
        rw [gi_append_ge _ _ _ (Nat.le_refl _)]; simp [gi]; omega
    · have h' : p n = false := by simpa using h
      rw [selTo_no h'] at ht ⊢
      have := ih ht; omega
/-- how many of the first j of a list are u -/
def cntIn (L : List Int) (u : Int) (j : Nat) : Int := cnt (fun t => decide (gi L t = u)) j
theorem cntIn_bd (L : List Int) (u : Int) (j : Nat) : 0 ≤ cntIn L u j ∧ cntIn L u j ≤ j := cnt_bd _ _
theorem cntIn_yes {L : List Int} {u : Int} {j : Nat} (h : gi L j = u) : cntIn L u (j + 1) = cntIn L u j + 1 := by
  unfold cntIn; rw [cnt_at, if_pos (by simpa using h)]
theorem cntIn_no {L : List Int} {u : Int} {j : Nat} (h : ¬ gi L j = u) : cntIn L u (j + 1) = cntIn L u j := by
  unfold cntIn; rw [cnt_at, if_neg (by simpa using h), Int.add_zero]
theorem cntIn_app (L M : List Int) (u : Int) (j : Nat) (h : j ≤ L.length) : cntIn (L ++ M) u j = cntIn L u j := cnt_congr _ _ _ fun i hi => by rw [gi_append_lt _ _ _ (by omega)]
theorem cntIn_sel (p : Nat → Bool) (n u : Nat) : cntIn (selTo p n) u (selTo p n).length = if u < n ∧ p u = true then 1 else 0 := by
  induction n with
  | zero => simp [selTo, cntIn, cnt]
  | succ n ih =>
    by_cases h : p n = true
    · rw [selTo_yes h, List.length_append]
      show cntIn _ _ ((selTo p n).length + 1) = _
      by_cases e : n = u
      · subst e
        rw [cntIn_yes (by rw [gi_append_ge _ _ _ (Nat.le_refl _)]; simp [gi]), cntIn_app _ _ _ _ (Nat.le_refl _), ih, if_neg (by omega), if_pos ⟨by omega, h⟩]; rfl
      · rw [cntIn_no (by rw [gi_append_ge _ _ _ (Nat.le_refl _)]; simp [gi]; omega), cntIn_app _ _ _ _ (Nat.le_refl _), ih]
        have e2 : (u < n ∧ p u = true) ↔ (u < n + 1 ∧ p u = true) := ⟨fun a => ⟨by omega, a.2⟩, fun a => ⟨by omega, a.2⟩⟩
        simp only [e2]
    · have h' : p n = false := by simpa using h
      rw [selTo_no h', ih]
      have e2 : (u < n ∧ p u = true) ↔ (u < n + 1 ∧ p u = true) := ⟨fun a => ⟨by omega, a.2⟩, fun a => ⟨by have : u ≠ n := fun e => (by rw [e, h'] at a; exact absurd a.2 (by simp)); omega, a.2⟩⟩
      simp only [e2]
/-- how often each word is covered -/
def timesL (S C : List Int) (r : Int) : List Int := (List.range (nW S).toNat).map fun (u : Nat) => tcov S C r u C.length
theorem timesL_len (S C : List Int) (r : Int) : (timesL S C r).length = (nW S).toNat := by simp [timesL]
theorem gi_timesL (S C : List Int) (r : Int) (u : Nat) (h : u < (nW S).toNat) : gi (timesL S C r) u = tcov S C r u C.length := by simp [timesL, gi, h]
theorem tcov_ball (S C : List Int) (r : Int) (u k : Nat) (hu : u < (nW S).toNat) : tcov S C r u (k + 1) = tcov S C r u k + cntIn (ballW S (gi C k) r) u (ballW S (gi C k) r).length := by
  unfold ballW
  rw [cntIn_sel]
  by_cases h : dist S u (gi C k) ≤ r
  · rw [tcov_yes _ _ _ _ _ h, if_pos ⟨hu, by simpa [ballB] using h⟩]
  · rw [tcov_no _ _ _ _ _ h, if_neg (fun g => h (by simpa [ballB] using g.2)), Int.add_zero]

end Cv
end Go.Proofs.Ytlkfmopcdmppmaa
