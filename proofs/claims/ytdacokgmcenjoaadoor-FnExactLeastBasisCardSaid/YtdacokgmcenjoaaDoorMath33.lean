/-
  Plain facts on how the model finds the least basis. By an AI agent.
-/
import Derived.Test.YtdacokgmcenjoaaDoorMath32
namespace Go.Proofs.YtdacokgmcenjoaaDoor
set_option linter.unusedVariables false
set_option linter.unusedSimpArgs false
namespace Cv

/-- a word's first digit other than 0 lies at place i -/
def ledB (S : List Int) (u : Int) (i : Nat) : Bool := decide (dig S u i ≠ 0 ∧ ∀ j, j < i → dig S u j = 0)
def frW (S C : List Int) (k i : Nat) : Bool := decide (∃ j, j < k ∧ ledB S (gi C j) i = true)
def frB (S C : List Int) (k : Nat) : List Bool := (List.range S.length).map (frW S C k)
theorem top_zero {S : List Int} (hP : Pl S) {u : Int} (hu : Wd S u) (k : Nat) (hk : k < S.length) : (∀ j, j < S.length - 1 - k → dig S u j = 0) ↔ quoTop S u (k + 1) = 0 := by
  constructor
  · intro h
    rw [qt_agree hP hu (wd_0 hP.sp) (S.length - (k + 1)) (k + 1) (by omega) fun j h1 h2 => ?_, qt_0]
    rw [lv_dig hP u j h2, lv_dig hP 0 j h2, dig_0, h _ (by omega)]
  · intro h j hj
    rw [dig_lv hP u j (by omega)]
    unfold lv
    rw [qt_up' hP h (show k + 1 ≤ S.length - 1 - j by omega) (by omega)]
    exact Int.zero_emod _
theorem led_iff {S : List Int} (hP : Pl S) {u : Int} (hu : Wd S u) (i : Nat) (hi : i < S.length) : ledB S u i = true ↔ quoTop S u (S.length - 1 - i + 1) = 0 ∧ quoTop S u (S.length - 1 - i) ≠ 0 := by
  have h1 := top_zero hP hu (S.length - 1 - i) (by omega)
  rw [show S.length - 1 - (S.length - 1 - i) = i by omega] at h1
  unfold ledB
  rw [decide_eq_true_eq, h1, dig_lv hP u i hi]
  constructor
  · rintro ⟨a, b⟩; exact ⟨b, by rw [qt_lead hP (by omega) b]; exact a⟩
  · rintro ⟨a, b⟩; exact ⟨by rw [← qt_lead hP (by omega) a]; exact b, a⟩
theorem fr_iff {S C : List Int} (hP : Pl S) (g : Gp S C) (i : Nat) (hi : i < S.length) : frW S C C.length i = true ↔ ∃ b, basAt S C (S.length - 1 - i) = some b := by
  unfold frW
  rw [decide_eq_true_eq]
  constructor
  · rintro ⟨j, hj, h⟩
    obtain ⟨h1, h0⟩ := (led_iff hP (g.wd _ (gi_mem hj)) i hi).1 h
    obtain ⟨b, hb, e⟩ := lead_one hP g (by omega) (gi_mem hj) h1 h0
    cases e2 : basAt S C (S.length - 1 - i) with
    | some x => exact ⟨x, rfl⟩
    | none => exact absurd e (basAt_none e2 b hb)
  · rintro ⟨b, h⟩
    obtain ⟨hb, e⟩ := basAt_some h
    obtain ⟨j, hj, rfl⟩ := mem_gi hb
    have hq := q_bd hP
    exact ⟨j, hj, (led_iff hP (g.wd _ hb) i hi).2 ⟨by rw [qt_step hP _ _ (by omega), e]; exact Int.ediv_eq_zero_of_lt (by omega) (by omega), by omega⟩⟩
/-- a word that the model takes for place i, by the first k digits -/
def gdTo (S C : List Int) (i : Nat) (u : Int) (k : Nat) : Bool := decide (dig S u i = 1 ∧ ∀ j, j < k → (j < i ∨ frW S C C.length j = true ∧ j ≠ i) → dig S u j = 0)
theorem gd_bad (S C : List Int) (i : Nat) (u : Int) (k : Nat) (h : (k < i ∨ frW S C C.length k = true ∧ k ≠ i) ∧ dig S u k ≠ 0) : gdTo S C i u (k + 1) = false := by
  unfold gdTo
  rw [decide_eq_false_iff_not]
  rintro ⟨_, g⟩
  exact h.2 (g k (by omega) h.1)
theorem gd_same (S C : List Int) (i : Nat) (u : Int) (k : Nat) (h : ¬ ((k < i ∨ frW S C C.length k = true ∧ k ≠ i) ∧ dig S u k ≠ 0)) : gdTo S C i u (k + 1) = gdTo S C i u k := by
  unfold gdTo
  rw [Bool.eq_iff_iff, decide_eq_true_eq, decide_eq_true_eq]
  constructor
  · rintro ⟨a, g⟩; exact ⟨a, fun j hj => g j (by omega)⟩
  · rintro ⟨a, g⟩
    refine ⟨a, fun j hj hc => ?_⟩
    by_cases e : j = k
    · subst e
      exact Classical.byContradiction fun hn => h ⟨hc, hn⟩
    · exact g j (by omega) hc
theorem gd_0 (S C : List Int) (i : Nat) (u : Int) : gdTo S C i u 0 = decide (dig S u i = 1) := by
  unfold gdTo; rw [Bool.eq_iff_iff, decide_eq_true_eq, decide_eq_true_eq]; exact ⟨fun h => h.1, fun h => ⟨h, fun j hj => by omega⟩⟩
theorem gd_one {S C : List Int} (hP : Pl S) {u : Int} (hu : Wd S u) (i : Nat) (hi : i < S.length) (h : gdTo S C i u S.length = true) : quoTop S u (S.length - 1 - i) = 1 := by
  unfold gdTo at h
  rw [decide_eq_true_eq] at h
  have h1 := (top_zero hP hu (S.length - 1 - i) (by omega)).1 fun j hj => h.2 j (by omega) (.inl (by omega))
  rw [qt_lead hP (by omega) h1, ← dig_lv hP u i hi]; exact h.1
theorem find_least {L : List Int} (hA : Asc L) {p : Int → Bool} {m : Int} (h : L.find? p = some m) : ∀ u, u ∈ L → p u = true → m ≤ u := by
  induction L with
  | nil => intro u hu; simp at hu
  | cons a L ih =>
    intro u hu hp
    have hA' := List.pairwise_cons.1 hA
    by_cases e : p a = true
    · rw [List.find?_cons_of_pos e] at h
      cases h
      rcases List.mem_cons.1 hu with rfl | hu
      · exact Int.le_refl _
      · have := hA'.1 u hu; omega
    · rw [List.find?_cons_of_neg e] at h
      rcases List.mem_cons.1 hu with rfl | hu
      · exact absurd hp e
      · exact ih hA'.2 h u hu hp
theorem gd_least {S C : List Int} (hP : Pl S) (g : Gp S C) (hA : Asc C) (i : Nat) (hi : i < S.length) {m : Int} (h : basAt S C (S.length - 1 - i) = some m) : gdTo S C i m S.length = true := by
  obtain ⟨hm, e⟩ := basAt_some h
  have hmw := g.wd m hm
  have hq := q_bd hP
  have h1 : quoTop S m (S.length - 1 - i + 1) = 0 := by rw [qt_step hP _ _ (by omega), e]; exact Int.ediv_eq_zero_of_lt (by omega) (by omega)
  unfold gdTo
  rw [decide_eq_true_eq]
  refine ⟨by rw [dig_lv hP m i hi, ← qt_lead hP (by omega) h1]; exact e, fun j hj hc => ?_⟩
  rcases hc with hc | ⟨hf, hne⟩
  · exact (top_zero hP hmw (S.length - 1 - i) (by omega)).2 h1 j (by omega)
  · by_cases hji : j < i
    · exact (top_zero hP hmw (S.length - 1 - i) (by omega)).2 h1 j (by omega)
    apply Classical.byContradiction
    intro hn
    obtain ⟨b, hb⟩ := (fr_iff hP g j hj).1 hf
    obtain ⟨hbC, eb⟩ := basAt_some hb
    obtain ⟨k, hk⟩ : ∃ k, k = S.length - 1 - j := ⟨_, rfl⟩
    rw [← hk] at eb
    rw [dig_lv hP m j hj, ← hk] at hn
    have hkn : k < S.length := by omega
    have hb1 : quoTop S b (k + 1) = 0 := by rw [qt_step hP _ _ hkn, eb]; exact Int.ediv_eq_zero_of_lt (by omega) (by omega)
    have hbl : lv S b k = 1 := by rw [← qt_lead hP hkn hb1]; exact eb
    have hlm := lv_bd hP m k
    -- a multiple of b that takes the digit away
    have hx : ∃ x, x ∈ C ∧ quoTop S x (k + 1) = 0 ∧ (lv S m k + lv S x k) % gi S 0 = 0 := by
      have h2l := lv_two hP b k hkn
      have h21 : quoTop S (two S b) (k + 1) = 0 := by rw [two, qt_sum hP (g.wd b hbC) (k + 1) (by omega) hb1, hb1]
      rw [hbl] at h2l
      rcases hP.q with h2 | h3
      · refine ⟨b, hbC, hb1, ?_⟩
        rw [hbl, h2]; omega
      · by_cases e2 : lv S m k = 2
        · exact ⟨b, hbC, hb1, by rw [hbl, e2, h3]; rfl⟩
        · have e3 : lv S m k = 1 := by omega
          exact ⟨two S b, g.sum b b hbC hbC, h21, by rw [h2l, e3, h3]; rfl⟩
    obtain ⟨x, hxC, hx1, hxl⟩ := hx
    have hmx : sumW S m x ∈ C := g.sum m x hm hxC
    have q1 : quoTop S (sumW S m x) (k + 1) = quoTop S m (k + 1) := qt_sum hP hmw (k + 1) (by omega) hx1
    have q0 : quoTop S (sumW S m x) k < quoTop S m k := by
      rw [qt_split hP (sumW S m x) k hkn, qt_split hP m k hkn, q1, lv_sum hP m x k hkn, hxl]
      omega
    have hlt := qt_lt hP k (by omega) q0
    have qi : quoTop S (sumW S m x) (S.length - 1 - i) = 1 := by
      rw [qt_sum hP hmw _ (by omega) (qt_up' hP hx1 (by omega) (by omega))]; exact e
    have := find_least hA h _ hmx (by rw [decide_eq_true_eq]; exact qi)
    omega
theorem find_imp {L : List Int} {p q : Int → Bool} (h : ∀ u, u ∈ L → p u = true → q u = true) {m : Int} (hq : L.find? q = some m) (hp : p m = true) : L.find? p = some m := by
  induction L with
  | nil => simp at hq
  | cons a L ih =>
    by_cases e : q a = true
    · rw [List.find?_cons_of_pos e] at hq
      cases hq
      exact List.find?_cons_of_pos hp
    · rw [List.find?_cons_of_neg e] at hq
      rw [List.find?_cons_of_neg (fun hpa => e (h a (by simp) hpa))]
      exact ih (fun u hu => h u (by simp [hu])) hq
/-- what the model adds for place i -/
def gdAt (S C : List Int) (i : Nat) : List Int := if frW S C C.length i = true then (C.find? fun u => gdTo S C i u S.length).toList else []
theorem gd_bas {S C : List Int} (hP : Pl S) (g : Gp S C) (hA : Asc C) (i : Nat) (hi : i < S.length) : gdAt S C i = (basAt S C (S.length - 1 - i)).toList := by
  unfold gdAt
  cases e : basAt S C (S.length - 1 - i) with
  | none =>
    rw [if_neg fun h => by obtain ⟨b, hb⟩ := (fr_iff hP g i hi).1 h; rw [e] at hb; cases hb]; rfl
  | some m =>
    rw [if_pos ((fr_iff hP g i hi).2 ⟨m, e⟩), find_imp (fun u hu h => decide_eq_true (gd_one hP (g.wd u hu) i hi h)) e (gd_least hP g hA i hi e)]
/-- the model's basis after the first i places -/
def basM (S C : List Int) : Nat → List Int
  | 0 => []
  | i + 1 => basM S C i ++ gdAt S C i
theorem basM_up {S C : List Int} (hP : Pl S) (g : Gp S C) (hA : Asc C) (i : Nat) (hi : i ≤ S.length) : basM S C i ++ basUp S C (S.length - i) = basUp S C S.length := by
  induction i with
  | zero => rfl
  | succ i ih =>
    rw [← ih (by omega), basM, gd_bas hP g hA i (by omega), List.append_assoc]
    obtain ⟨k, hk⟩ : ∃ k, k = S.length - 1 - i := ⟨_, rfl⟩
    rw [show S.length - (i + 1) = k by omega, show S.length - i = k + 1 by omega, ← hk, basUp]
theorem basM_all {S C : List Int} (hP : Pl S) (g : Gp S C) (hA : Asc C) : basM S C S.length = basUp S C S.length := by
  have := basM_up hP g hA S.length (Nat.le_refl _)
  rw [Nat.sub_self] at this
  simpa [basUp] using this
theorem gdAt_len (S C : List Int) (i : Nat) : (gdAt S C i).length ≤ 1 := by
  unfold gdAt
  split
  · cases C.find? fun u => gdTo S C i u S.length <;> simp
  · simp
theorem basM_len (S C : List Int) (i : Nat) : (basM S C i).length ≤ i := by
  induction i with
  | zero => simp [basM]
  | succ i ih => rw [basM, List.length_append]; have := gdAt_len S C i; omega
theorem gd_find {S C : List Int} {i k : Nat} (hk : k < C.length) (h1 : frW S C C.length i = true) (hp : gdTo S C i (gi C k) S.length = true) (h : ∀ j, j < k → gdTo S C i (gi C j) S.length = false) : gdAt S C i = [gi C k] := by
  unfold gdAt
  rw [if_pos h1, find_at hk hp h]; rfl
theorem gd_find_no {S C : List Int} {i : Nat} (h : ∀ j, j < C.length → gdTo S C i (gi C j) S.length = false) : gdAt S C i = [] := by
  unfold gdAt
  split
  · rw [find_no h]; rfl
  · rfl
theorem gd_no {S C : List Int} {i : Nat} (h : frW S C C.length i = false) : gdAt S C i = [] := by
  unfold gdAt
  rw [if_neg (by rw [h]; decide)]
/-- the marks of first places -/
theorem frB_len (S C : List Int) (k : Nat) : (frB S C k).length = S.length := by simp [frB]
theorem frB_0 (S C : List Int) : frB S C 0 = List.replicate S.length false := by
  apply List.ext_getElem
  · simp [frB]
  · intro i h1 h2; simp [frB, frW]
theorem frW_step (S C : List Int) (k i : Nat) : frW S C (k + 1) i = (frW S C k i || ledB S (gi C k) i) := by
  unfold frW
  rw [Bool.eq_iff_iff, Bool.or_eq_true, decide_eq_true_eq, decide_eq_true_eq]
  constructor
  · rintro ⟨j, hj, h⟩
    by_cases e : j = k
    · subst e; exact .inr h
    · exact .inl ⟨j, by omega, h⟩
  · rintro (⟨j, hj, h⟩ | h)
    · exact ⟨j, by omega, h⟩
    · exact ⟨k, by omega, h⟩
theorem frB_set {S C : List Int} {k i : Nat} (hi : i < S.length) (h0 : ∀ j, j < i → dig S (gi C k) j = 0) (h : dig S (gi C k) i ≠ 0) : (frB S C k).set i true = frB S C (k + 1) := by
  apply List.ext_getElem
  · simp [frB]
  · intro j h1 h2
    simp only [frB, List.length_set, List.length_map, List.length_range] at h1 h2
    simp only [frB, List.getElem_set, List.getElem_map, List.getElem_range, frW_step]
    by_cases e : i = j
    · subst e
      have : ledB S (gi C k) i = true := by unfold ledB; rw [decide_eq_true_eq]; exact ⟨h, h0⟩
      rw [if_pos rfl, this, Bool.or_true]
    · rw [if_neg e]
      have : ledB S (gi C k) j = false := by
        unfold ledB
        rw [decide_eq_false_iff_not]
        rintro ⟨a, b⟩
        by_cases g : j < i
        · exact a (h0 j g)
        · exact h (b i (by omega))
      rw [this, Bool.or_false]
theorem frB_same {S C : List Int} {k : Nat} (h0 : ∀ j, j < S.length → dig S (gi C k) j = 0) : frB S C (k + 1) = frB S C k := by
  apply List.ext_getElem
  · simp [frB]
  · intro j h1 h2
    simp only [frB, List.length_map, List.length_range] at h1 h2
    simp only [frB, List.getElem_map, List.getElem_range, frW_step]
    have : ledB S (gi C k) j = false := by
      unfold ledB
      rw [decide_eq_false_iff_not]
      rintro ⟨a, b⟩
      exact a (h0 j h1)
    rw [this, Bool.or_false]
end Cv
end Go.Proofs.YtdacokgmcenjoaaDoor
