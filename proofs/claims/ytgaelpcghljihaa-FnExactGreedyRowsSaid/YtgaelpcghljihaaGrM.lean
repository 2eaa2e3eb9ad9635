/-
  Plain facts on greedy codes: which set is taken next, and that the rounds end. By an AI agent.
-/
import Derived.Test.YtgaelpcghljihaaCntB
namespace Go.Proofs.Ytgaelpcghljihaa
open Cv
set_option linter.unusedVariables false
set_option linter.unusedSimpArgs false

theorem cntTo_pos {p : Nat → Bool} {n u : Nat} (hu : u < n) (h : p u = true) : 0 < cntTo p n := by
  induction n with
  | zero => omega
  | succ n ih =>
    rw [cntTo]
    by_cases e : u = n
    · subst e; rw [if_pos h]; omega
    · have := ih (by omega); omega
theorem cntTo_ex {p : Nat → Bool} {n : Nat} (h : 0 < cntTo p n) : ∃ u, u < n ∧ p u = true := by
  induction n with
  | zero => simp [cntTo] at h
  | succ n ih =>
    rw [cntTo] at h
    by_cases e : p n = true
    · exact ⟨n, by omega, e⟩
    · rw [if_neg e, Nat.add_zero] at h
      obtain ⟨u, hu, hp⟩ := ih h
      exact ⟨u, by omega, hp⟩
theorem cntTo_mono {p q : Nat → Bool} (h : ∀ u, p u = true → q u = true) (n : Nat) : cntTo p n ≤ cntTo q n := by
  induction n with
  | zero => exact Nat.le_refl _
  | succ n ih =>
    rw [cntTo, cntTo]
    by_cases e : p n = true
    · rw [if_pos e, if_pos (h n e)]; omega
    · rw [if_neg e]; split <;> omega
theorem cntTo_less {p q : Nat → Bool} (h : ∀ u, p u = true → q u = true) {n u : Nat} (hu : u < n) (h1 : p u = false) (h2 : q u = true) : cntTo p n < cntTo q n := by
  induction n with
  | zero => omega
  | succ n ih =>
    rw [cntTo, cntTo]
    by_cases e : u = n
    · subst e
      have := cntTo_mono h u
      rw [if_neg (by rw [h1]; decide), if_pos h2]; omega
    · have := ih (by omega)
      by_cases e2 : p n = true
      · rw [if_pos e2, if_pos (h n e2)]; omega
      · rw [if_neg e2]; split <;> omega
theorem mbV_ge (f : Nat → Nat) (k j : Nat) (hj : j < k) : f j ≤ mbV f k := by
  induction k with
  | zero => omega
  | succ k ih =>
    rw [mbV]
    by_cases e : j = k
    · subst e; split <;> omega
    · have := ih (by omega); split <;> omega
theorem mbI_at (f : Nat → Nat) (k : Nat) (h : 0 < mbV f k) : mbI f k < k ∧ f (mbI f k) = mbV f k := by
  induction k with
  | zero => simp [mbV] at h
  | succ k ih =>
    rw [mbV] at h ⊢
    rw [mbI]
    by_cases e : mbV f k < f k
    · rw [if_pos e, if_pos e]; exact ⟨by omega, rfl⟩
    · rw [if_neg e] at h
      have := ih h
      rw [if_neg e, if_neg e]; exact ⟨by omega, this.2⟩

/-- how many words a set has beyond those covered -/
def gF (F : Nat → Nat → Bool) (c : Nat → Bool) (j : Nat) : Nat := cntTo (byd (F j) c) 1024
def grDone (c : Nat → Bool) (N : Nat) : Bool := decide (∀ u, u < N → c u = true)
/-- the word that is put to the code next, and what is covered then -/
def grW (F : Nat → Nat → Bool) (N : Nat) (c : Nat → Bool) : Nat := mbI (gF F c) N
def grC (F : Nat → Nat → Bool) (N : Nat) (c : Nat → Bool) : Nat → Bool := fun u => c u || F (grW F N c) u
/-- the greedy code's words in the order in which they come -/
def grRun (F : Nat → Nat → Bool) (N : Nat) : Nat → (Nat → Bool) → List Int → List Int
  | 0, _, L => L
  | n + 1, c, L => if grDone c N = true then L else grRun F N n (grC F N c) (L ++ [(grW F N c : Int)])
/-- how many words are not covered -/
def uc (c : Nat → Bool) (N : Nat) : Nat := cntTo (fun u => !c u) N
/-- sets around words: each has its own word, and words alone -/
structure Arnd (F : Nat → Nat → Bool) (N : Nat) : Prop where
  own : ∀ w, w < N → F w w = true
  wd : ∀ w u, F w u = true → u < N
  n1 : N ≤ 1024
theorem gr_pick {F : Nat → Nat → Bool} {N : Nat} (hF : Arnd F N) {c : Nat → Bool} (h : grDone c N = false) : grW F N c < N ∧ 0 < gF F c (grW F N c) ∧ ∀ j, j < N → gF F c j ≤ gF F c (grW F N c) := by
  have hu : ∃ u, u < N ∧ c u = false := by
    apply Classical.byContradiction
    intro g
    have : grDone c N = true := by
      unfold grDone
      rw [decide_eq_true_eq]
      intro u hu
      cases e : c u with
      | true => rfl
      | false => exact absurd ⟨u, hu, e⟩ g
    rw [this] at h; cases h
  obtain ⟨u, hu, hc⟩ := hu
  have h1 : 0 < gF F c u := cntTo_pos (u := u) (by have := hF.n1; omega) (by unfold byd; rw [hF.own u hu, hc]; rfl)
  have h2 := mbV_ge (gF F c) N u hu
  have h3 := mbI_at (gF F c) N (by omega)
  exact ⟨h3.1, by show 0 < gF F c (mbI (gF F c) N); rw [h3.2]; omega, fun j hj => by show _ ≤ gF F c (mbI (gF F c) N); rw [h3.2]; exact mbV_ge _ _ _ hj⟩
theorem gr_less {F : Nat → Nat → Bool} {N : Nat} (hF : Arnd F N) {c : Nat → Bool} (h : grDone c N = false) : uc (grC F N c) N < uc c N := by
  obtain ⟨_, h2, _⟩ := gr_pick hF h
  obtain ⟨u, _, hb⟩ := cntTo_ex h2
  simp only [byd, Bool.and_eq_true, Bool.not_eq_true'] at hb
  refine cntTo_less (u := u) (fun v hv => ?_) (hF.wd _ _ hb.1) ?_ (by simp [hb.2])
  · simp only [grC, Bool.not_or, Bool.and_eq_true] at hv; exact hv.1
  · simp [grC, hb.1]
/-- the words that are in the code already -/
structure GrI (F : Nat → Nat → Bool) (N : Nat) (c : Nat → Bool) (L : List Int) : Prop where
  wd : ∀ x, x ∈ L → 0 ≤ x ∧ x < N
  cov : ∀ x, x ∈ L → ∀ u, F x.toNat u = true → c u = true
  nd : L.Nodup
theorem gri_0 (F : Nat → Nat → Bool) (N : Nat) (c : Nat → Bool) : GrI F N c [] := ⟨by simp, by simp, by simp⟩
theorem gri_step {F : Nat → Nat → Bool} {N : Nat} (hF : Arnd F N) {c : Nat → Bool} {L : List Int} (g : GrI F N c L) (h : grDone c N = false) : ((grW F N c : Nat) : Int) ∉ L ∧ GrI F N (grC F N c) (L ++ [(grW F N c : Int)]) := by
  obtain ⟨h1, h2, _⟩ := gr_pick hF h
  have hn : ((grW F N c : Nat) : Int) ∉ L := fun hm => by
    obtain ⟨u, _, hb⟩ := cntTo_ex h2
    simp only [byd, Bool.and_eq_true, Bool.not_eq_true'] at hb
    have := g.cov _ hm u (by rw [Int.toNat_natCast]; exact hb.1)
    rw [this] at hb; cases hb.2
  refine ⟨hn, fun x hx => ?_, fun x hx u hu => ?_, ?_⟩
  · rcases List.mem_append.1 hx with hx | hx
    · exact g.wd x hx
    · rw [List.mem_singleton] at hx; subst hx; omega
  · rcases List.mem_append.1 hx with hx | hx
    · simp [grC, g.cov x hx u hu]
    · rw [List.mem_singleton] at hx; subst hx
      rw [Int.toNat_natCast] at hu
      simp [grC, hu]
  · rw [List.nodup_append]
    refine ⟨g.nd, by simp, fun x hx y hy e => ?_⟩
    rw [List.mem_singleton] at hy; subst hy; subst e; exact hn hx
theorem gri_len {F : Nat → Nat → Bool} {N : Nat} {c : Nat → Bool} {L : List Int} (g : GrI F N c L) : L.length ≤ N := by
  have := nd_len g.nd (fun x hx => (mem_upI N x).2 (g.wd x hx))
  rwa [upI_len] at this
theorem uc_le (c : Nat → Bool) (N : Nat) : uc c N ≤ N := cntTo_le _ _
theorem grRun_done {F : Nat → Nat → Bool} {N n : Nat} {c : Nat → Bool} {L : List Int} (h : grDone c N = true) : grRun F N n c L = L := by
  cases n with
  | zero => rfl
  | succ n => rw [grRun, if_pos h]
theorem grRun_step {F : Nat → Nat → Bool} {N n : Nat} {c : Nat → Bool} {L : List Int} (h : grDone c N = false) : grRun F N (n + 1) c L = grRun F N n (grC F N c) (L ++ [(grW F N c : Int)]) := by
  rw [grRun, if_neg (by rw [h]; decide)]
/-- the greedy code, with its words as they come -/
def grL (F : Nat → Nat → Bool) (N : Nat) : List Int := grRun F N (N + 1) (fun _ => false) []

end Go.Proofs.Ytgaelpcghljihaa
