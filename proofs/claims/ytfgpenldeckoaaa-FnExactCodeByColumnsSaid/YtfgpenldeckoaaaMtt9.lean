/-
  Plain facts on the model's tables of words that are reached: no Go, no program. By an AI agent.
-/
import Derived.Test.YtfgpenldeckoaaaMtr9
namespace Go.Proofs.Ytfgpenldeckoaaa
set_option linter.unusedVariables false
set_option linter.unusedSimpArgs false
namespace Cv

/-- a table -/
def tbZ (f : Nat → Int) (N : Nat) : List Int := (List.range N).map f
theorem tbZ_len (f : Nat → Int) (N : Nat) : (tbZ f N).length = N := by simp [tbZ]
theorem gi_tbZ (f : Nat → Int) (N u : Nat) (h : u < N) : gi (tbZ f N) u = f u := by
  rw [gi_lt _ _ (by rw [tbZ_len]; exact h)]; simp [tbZ]
theorem tbZ_eq {L : List Int} {f : Nat → Int} {N : Nat} (hl : L.length = N) (h : ∀ u, u < N → gi L u = f u) : L = tbZ f N :=
  ext_gi (by rw [hl, tbZ_len]) fun u hu => by rw [hl] at hu; rw [h u hu, gi_tbZ _ _ _ hu]
theorem tbZ_set (f : Nat → Int) (N t : Nat) (v : Int) (ht : t < N) (h : f t < 0 ∨ v < f t) : (tbZ f N).set t v = tbZ (updF f t v) N :=
  tbZ_eq (by rw [List.length_set, tbZ_len]) fun u hu => by
    rw [gi_set _ _ _ _ (by rw [tbZ_len]; exact ht), gi_tbZ _ _ _ hu]
    unfold updF
    by_cases e : u = t
    · subst e; rw [if_pos rfl, if_pos ⟨rfl, h⟩]
    · rw [if_neg e, if_neg (fun g => e g.1)]
theorem tbZ_same (f : Nat → Int) (N t : Nat) (v : Int) (h : ¬ (f t < 0 ∨ v < f t)) : tbZ f N = tbZ (updF f t v) N := by
  unfold tbZ
  congr 1
  funext u
  unfold updF
  by_cases e : u = t
  · subst e; rw [if_neg (fun g => h g.2)]
  · rw [if_neg (fun g => e g.1)]
/-- the words of a set marked by 0 -/
def st0F (C : List Int) (k : Nat) : Nat → Int := fun u => if inL (C.take k) u = true then 0 else -1
theorem st0F_0 (C : List Int) : st0F C 0 = fun _ => -1 := by funext u; simp [st0F, inL]
theorem st0F_all (C T S : List Int) : st0F C C.length = rdC S C T 0 := by funext u; unfold st0F; rw [List.take_length]; rfl
theorem st0F_set (C : List Int) (N k t : Nat) (hk : k < C.length) (ht : t < N) (h : gi C k = (t : Int)) : (tbZ (st0F C k) N).set t 0 = tbZ (st0F C (k + 1)) N :=
  tbZ_eq (by rw [List.length_set, tbZ_len]) fun u hu => by
    rw [gi_set _ _ _ _ (by rw [tbZ_len]; exact ht), gi_tbZ _ _ _ hu]
    unfold st0F inL
    rw [take_snoc C k hk, h]
    by_cases e : u = t
    · subst e; simp
    · rw [if_neg e]
      have : ¬ (u : Int) = (t : Int) := by omega
      simp [this]
/-- the word that is looked at behind j multiples -/
def rtW (S : List Int) (w c : Int) : Nat → Int
  | 0 => w
  | j + 1 => sumW S w (mulW S c j)
theorem rtW_step {S : List Int} (hS : Sp S) (w c : Int) (j : Nat) : sumW S (rtW S w c j) c = rtW S w c (j + 1) := by
  cases j with
  | zero => rfl
  | succ j => show sumW S (sumW S w (mulW S c j)) c = sumW S w (mulW S c (j + 1)); rw [sum_assoc hS]; rfl
theorem rtW_wd {S : List Int} (hS : Sp S) {w : Int} (hw : Wd S w) (c : Int) (j : Nat) : Wd S (rtW S w c j) := by
  cases j with
  | zero => exact hw
  | succ j => exact wd_sum hS _ _
theorem upd_bd {f : Nat → Int} {b : Int} (t : Nat) (v : Int) (h : ∀ u, -1 ≤ f u ∧ f u ≤ b) (hv : -1 ≤ v ∧ v ≤ b) (u : Nat) : -1 ≤ updF f t v u ∧ updF f t v u ≤ b := by
  unfold updF; split
  · exact hv
  · exact h u
theorem rdJ_bd {S : List Int} {c a b : Int} {w : Nat} {f : Nat → Int} (h : ∀ u, -1 ≤ f u ∧ f u ≤ b) (ha : -1 ≤ a + 1 ∧ a + 1 ≤ b) (J : Nat) : ∀ u, -1 ≤ rdJ S c a w f J u ∧ rdJ S c a w f J u ≤ b := by
  induction J with
  | zero => exact h
  | succ J ih => exact fun u => upd_bd _ _ ih ha u
theorem rdK_bd {S : List Int} {c b : Int} {L : Nat → Int} (h : ∀ u, -1 ≤ L u ∧ L u ≤ b) (K : Nat) : ∀ u, -1 ≤ rdK S c L K u ∧ rdK S c L K u ≤ b + 1 := by
  induction K with
  | zero => exact fun u => by have := h u; simp only [rdK]; omega
  | succ K ih =>
    intro u
    rw [rdK]
    split
    · exact ih u
    · exact rdJ_bd ih (by have := h K; omega) _ u
theorem rdC_bd (S C T : List Int) (k : Nat) : ∀ u, -1 ≤ rdC S C T k u ∧ rdC S C T k u ≤ (k : Int) := by
  induction k with
  | zero => intro u; simp only [rdC]; split <;> simp
  | succ k ih => intro u; have := rdK_bd (S := S) (c := gi T k) ih (nW S).toNat u; simp only [rdC]; omega
theorem rdK_neg (S : List Int) (c : Int) (L : Nat → Int) (k : Nat) (h : L k < 0) : rdK S c L k = rdK S c L (k + 1) := by rw [rdK, if_pos h]
theorem rdK_all (S : List Int) (c : Int) (L : Nat → Int) (k : Nat) (h : ¬ L k < 0) : rdJ S c (L k) k (rdK S c L k) (qN S) = rdK S c L (k + 1) := by rw [rdK, if_neg h]
theorem eCs_ne1 {S C T : List Int} {m : Int} (h : eCs S C T m ≠ 1) : isSp S = true := by
  cases hs : isSp S with
  | true => rfl
  | false => exact absurd (show eCs S C T m = 1 by unfold eCs; rw [if_neg (by rw [hs]; decide)]) h
/-- the words below k that are reached within m -/
theorem selL_step (p : Nat → Bool) (k : Nat) : selL p (k + 1) = selL p k ++ (if p k = true then [(k : Int)] else []) := by
  unfold selL
  rw [List.range_succ, List.filter_append, List.map_append]
  congr 1
  cases h : p k <;> simp [h]
theorem selL_le (p : Nat → Bool) (k : Nat) : (selL p k).length ≤ k := by
  induction k with
  | zero => simp [selL]
  | succ k ih => rw [selL_step, List.length_append]; split <;> simp <;> omega
theorem vWr_len (S C T : List Int) (m : Int) : (vWr S C T m).length ≤ 1024 := by
  unfold vWr
  split
  · rename_i h
    have := nW_bd (eCs_zero h).1.sp
    have := selL_le (wrB S C T m) (nW S).toNat
    omega
  · simp

end Cv
end Go.Proofs.Ytfgpenldeckoaaa
