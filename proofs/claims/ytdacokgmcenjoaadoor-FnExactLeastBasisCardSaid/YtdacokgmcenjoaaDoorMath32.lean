/-
  Plain facts on the least basis of a linear code: what is left of a word in front of its last k digits, the words of a code that have nothing there. By an AI agent.
-/
import Derived.Test.YtdacokgmcenjoaaDoorMath30
namespace Go.Proofs.YtdacokgmcenjoaaDoor
set_option linter.unusedVariables false
set_option linter.unusedSimpArgs false
namespace Cv

/-- the digit in front of the last k ones -/
def lv (S : List Int) (u : Int) (k : Nat) : Int := quoTop S u k % gi S 0
theorem q_bd {S : List Int} (hP : Pl S) : 2 ≤ gi S 0 ∧ gi S 0 ≤ 3 := by rcases hP.q with h | h <;> omega
theorem qt_step {S : List Int} (hP : Pl S) (u : Int) (k : Nat) (hk : k < S.length) : quoTop S u (k + 1) = quoTop S u k / gi S 0 := by rw [quoTop, hP.same _ (by omega)]
theorem dig_lv {S : List Int} (hP : Pl S) (u : Int) (i : Nat) (hi : i < S.length) : dig S u i = lv S u (S.length - 1 - i) := by unfold dig lv; rw [hP.same _ hi]
theorem lv_dig {S : List Int} (hP : Pl S) (u : Int) (k : Nat) (hk : k < S.length) : lv S u k = dig S u (S.length - 1 - k) := by
  rw [dig_lv hP u _ (by omega)]; congr 1; omega
theorem qt_split {S : List Int} (hP : Pl S) (u : Int) (k : Nat) (hk : k < S.length) : quoTop S u k = gi S 0 * quoTop S u (k + 1) + lv S u k := by
  rw [qt_step hP u k hk]; unfold lv; exact (Int.mul_ediv_add_emod _ _).symm
theorem lv_bd {S : List Int} (hP : Pl S) (u : Int) (k : Nat) : 0 ≤ lv S u k ∧ lv S u k < gi S 0 := by
  have := q_bd hP
  unfold lv
  exact ⟨Int.emod_nonneg _ (by omega), Int.emod_lt_of_pos _ (by omega)⟩
theorem qt_nonneg {S : List Int} (hP : Pl S) {u : Int} (hu : Wd S u) (k : Nat) (hk : k ≤ S.length) : 0 ≤ quoTop S u k := quoTop_nonneg S u hP.sp.bd hu.1 k hk
theorem qt_end {S : List Int} (hP : Pl S) {u : Int} (hu : Wd S u) : quoTop S u S.length = 0 := by
  have h := quoTop_lt S u hP.sp.bd hu.1 hu.2 S.length (Nat.le_refl _)
  rw [Nat.sub_self] at h
  have := qt_nonneg hP hu S.length (Nat.le_refl _)
  simp only [prodTo] at h; omega
theorem lv_sum {S : List Int} (hP : Pl S) (u x : Int) (k : Nat) (hk : k < S.length) : lv S (sumW S u x) k = (lv S u k + lv S x k) % gi S 0 := by
  rw [lv_dig hP _ k hk, lv_dig hP _ k hk, lv_dig hP _ k hk, dig_sum hP.sp _ _ _ (by omega), hP.same _ (by omega)]
theorem qt_agree {S : List Int} (hP : Pl S) {u v : Int} (hu : Wd S u) (hv : Wd S v) (m : Nat) : ∀ k, k + m = S.length → (∀ j, k ≤ j → j < S.length → lv S u j = lv S v j) → quoTop S u k = quoTop S v k := by
  induction m with
  | zero => intro k hk _; have e : k = S.length := by omega
            subst e; rw [qt_end hP hu, qt_end hP hv]
  | succ m ih =>
    intro k hk h
    rw [qt_split hP u k (by omega), qt_split hP v k (by omega), ih (k + 1) (by omega) fun j h1 h2 => h j (by omega) h2, h k (Nat.le_refl _) (by omega)]
theorem qt_up {S : List Int} (hP : Pl S) {u : Int} {k : Nat} (h : quoTop S u k = 0) (m : Nat) (hm : k + m ≤ S.length) : quoTop S u (k + m) = 0 := by
  induction m with
  | zero => exact h
  | succ m ih => rw [← Nat.add_assoc, qt_step hP u (k + m) (by omega), ih (by omega)]; exact Int.zero_ediv _
theorem qt_up' {S : List Int} (hP : Pl S) {u : Int} {k j : Nat} (h : quoTop S u k = 0) (hk : k ≤ j) (hj : j ≤ S.length) : quoTop S u j = 0 := by
  have := qt_up hP h (j - k) (by omega)
  rwa [show k + (j - k) = j by omega] at this
theorem qt_sum {S : List Int} (hP : Pl S) {u x : Int} (hu : Wd S u) (k : Nat) (hk : k ≤ S.length) (h : quoTop S x k = 0) : quoTop S (sumW S u x) k = quoTop S u k :=
  qt_agree hP (wd_sum hP.sp _ _) hu (S.length - k) k (by omega) fun j h1 h2 => by
    have e : lv S x j = 0 := by unfold lv; rw [qt_up' hP h h1 (by omega)]; exact Int.zero_emod _
    have := lv_bd hP u j
    rw [lv_sum hP u x j h2, e, Int.add_zero]; exact Int.emod_eq_of_lt this.1 this.2
theorem qt_lt {S : List Int} (hP : Pl S) {u v : Int} (k : Nat) (hk : k ≤ S.length) (h : quoTop S v k < quoTop S u k) : v < u := by
  rw [quoTop_rest S hP.sp.bd v k hk, quoTop_rest S hP.sp.bd u k hk] at h
  have hp := restP_pos S hP.sp.bd k hk
  apply Classical.byContradiction
  intro g
  have := Int.ediv_le_ediv (a := u) (b := v) (c := restP S k) (by omega) (by omega)
  omega
theorem qt_one {S : List Int} (hP : Pl S) {u : Int} (k : Nat) (hk : k ≤ S.length) : quoTop S u k = 1 ↔ restP S k ≤ u ∧ u < 2 * restP S k := by
  have hp := restP_pos S hP.sp.bd k hk
  rw [quoTop_rest S hP.sp.bd u k hk]
  have h1 := Int.mul_ediv_add_emod u (restP S k)
  have h2 := Int.emod_nonneg u (show restP S k ≠ 0 by omega)
  have h3 := Int.emod_lt_of_pos u (show 0 < restP S k by omega)
  constructor
  · intro e; rw [e] at h1; omega
  · rintro ⟨g1, g2⟩
    have a1 := (Int.le_ediv_iff_mul_le (a := 1) (b := u) (show 0 < restP S k by omega)).2 (by omega)
    have a2 := (Int.ediv_lt_iff_lt_mul (a := u) (b := 2) (show 0 < restP S k by omega)).2 (by omega)
    omega
theorem qt_lead {S : List Int} (hP : Pl S) {u : Int} {k : Nat} (hk : k < S.length) (h : quoTop S u (k + 1) = 0) : quoTop S u k = lv S u k := by
  rw [qt_split hP u k hk, h, Int.mul_zero, Int.zero_add]

/-- the words of a list that have nothing in front of their last k digits -/
def subL (S C : List Int) (k : Nat) : List Int := C.filter fun u => decide (quoTop S u k = 0)
theorem mem_subL (S C : List Int) (k : Nat) (u : Int) : u ∈ subL S C k ↔ u ∈ C ∧ quoTop S u k = 0 := by simp [subL]
theorem qt_0 (S : List Int) (k : Nat) : quoTop S 0 k = 0 := quoTop_0 S k
theorem gp_subL {S C : List Int} (hP : Pl S) (g : Gp S C) (k : Nat) (hk : k ≤ S.length) : Gp S (subL S C k) := by
  refine ⟨fun u hu => g.wd u ((mem_subL _ _ _ _).1 hu).1, (mem_subL _ _ _ _).2 ⟨g.zero, qt_0 S k⟩, fun u x hu hx => ?_, g.nd.filter _⟩
  obtain ⟨h1, h2⟩ := (mem_subL _ _ _ _).1 hu
  obtain ⟨h3, h4⟩ := (mem_subL _ _ _ _).1 hx
  exact (mem_subL _ _ _ _).2 ⟨g.sum u x h1 h3, by rw [qt_sum hP (g.wd u h1) k hk h4, h2]⟩
/-- a word twice -/
theorem lv_two {S : List Int} (hP : Pl S) (u : Int) (k : Nat) (hk : k < S.length) : lv S (two S u) k = (lv S u k + lv S u k) % gi S 0 := lv_sum hP u u k hk
theorem subL_step {S C : List Int} (hP : Pl S) (g : Gp S C) {k : Nat} (hk : k < S.length) {b : Int} (hbC : b ∈ C) (hb : quoTop S b k = 1) (u : Int) : u ∈ subL S C (k + 1) ↔ u ∈ spW S (subL S C k) b := by
  have hq := q_bd hP
  have hb1 : quoTop S b (k + 1) = 0 := by rw [qt_step hP b k hk, hb]; exact Int.ediv_eq_zero_of_lt (by omega) (by omega)
  have hbl : lv S b k = 1 := by unfold lv; rw [hb]; exact Int.emod_eq_of_lt (by omega) (by omega)
  have hbw := g.wd b hbC
  have h2C : two S b ∈ C := g.sum b b hbC hbC
  have h2w : Wd S (two S b) := wd_sum hP.sp _ _
  have h21 : quoTop S (two S b) (k + 1) = 0 := by rw [two, qt_sum hP hbw (k + 1) (by omega) hb1, hb1]
  have sub1 : ∀ v, v ∈ subL S C k → v ∈ subL S C (k + 1) := fun v hv => by
    obtain ⟨h1, h2⟩ := (mem_subL _ _ _ _).1 hv
    exact (mem_subL _ _ _ _).2 ⟨h1, by rw [qt_step hP v k hk, h2]; exact Int.zero_ediv _⟩
  have shs : ∀ x, x ∈ C → quoTop S x (k + 1) = 0 → ∀ y, y ∈ shL S (subL S C k) x → y ∈ subL S C (k + 1) := fun x hx h0 y hy => by
    obtain ⟨v, hv, rfl⟩ := (mem_shL _ _ _ _).1 hy
    obtain ⟨h1, h2⟩ := (mem_subL _ _ _ _).1 (sub1 v hv)
    exact (mem_subL _ _ _ _).2 ⟨g.sum v x h1 hx, by rw [qt_sum hP (g.wd v h1) (k + 1) (by omega) h0, h2]⟩
  constructor
  · intro hu
    obtain ⟨huC, hu1⟩ := (mem_subL _ _ _ _).1 hu
    have huw := g.wd u huC
    have hul := qt_lead hP hk hu1
    have hlb := lv_bd hP u k
    unfold spW
    rcases hP.q with h2 | h3
    · rw [if_neg (by omega)]
      have : lv S u k = 0 ∨ lv S u k = 1 := by omega
      rcases this with e | e
      · exact List.mem_append_left _ ((mem_subL _ _ _ _).2 ⟨huC, by rw [hul, e]⟩)
      · refine List.mem_append_right _ ((mem_shL _ _ _ _).2 ⟨sumW S u b, (mem_subL _ _ _ _).2 ⟨g.sum u b huC hbC, ?_⟩, ?_⟩)
        · rw [qt_lead hP hk (by rw [qt_sum hP huw (k + 1) (by omega) hb1, hu1]), lv_sum hP u b k hk, e, hbl, h2]; rfl
        · rw [sum_assoc hP.sp, show sumW S b b = 0 from two_2 hP h2 b, sum_0 hP.sp huw]
    · rw [if_pos h3]
      have : lv S u k = 0 ∨ lv S u k = 1 ∨ lv S u k = 2 := by omega
      have h3b := three_3 hP h3 b
      have h2l : lv S (two S b) k = 2 := by rw [lv_two hP b k hk, hbl, h3]; rfl
      rcases this with e | e | e
      · exact List.mem_append_left _ (List.mem_append_left _ ((mem_subL _ _ _ _).2 ⟨huC, by rw [hul, e]⟩))
      · refine List.mem_append_left _ (List.mem_append_right _ ((mem_shL _ _ _ _).2 ⟨sumW S u (two S b), (mem_subL _ _ _ _).2 ⟨g.sum u _ huC h2C, ?_⟩, ?_⟩))
        · rw [qt_lead hP hk (by rw [qt_sum hP huw (k + 1) (by omega) h21, hu1]), lv_sum hP u _ k hk, e, h2l, h3]; rfl
        · rw [sum_assoc hP.sp, h3b, sum_0 hP.sp huw]
      · refine List.mem_append_right _ ((mem_shL _ _ _ _).2 ⟨sumW S u b, (mem_subL _ _ _ _).2 ⟨g.sum u _ huC hbC, ?_⟩, ?_⟩)
        · rw [qt_lead hP hk (by rw [qt_sum hP huw (k + 1) (by omega) hb1, hu1]), lv_sum hP u _ k hk, e, hbl, h3]; rfl
        · rw [sum_assoc hP.sp, sum_comm hP.sp b (two S b), h3b, sum_0 hP.sp huw]
  · intro hu
    unfold spW at hu
    split at hu
    · rcases List.mem_append.1 hu with hu | hu
      · rcases List.mem_append.1 hu with hu | hu
        · exact sub1 u hu
        · exact shs b hbC hb1 u hu
      · exact shs _ h2C h21 u hu
    · rcases List.mem_append.1 hu with hu | hu
      · exact sub1 u hu
      · exact shs b hbC hb1 u hu
/-- where some word has its first digit, some has 1 there -/
theorem lead_one {S C : List Int} (hP : Pl S) (g : Gp S C) {k : Nat} (hk : k < S.length) {u : Int} (hu : u ∈ C) (h1 : quoTop S u (k + 1) = 0) (h0 : quoTop S u k ≠ 0) : ∃ b, b ∈ C ∧ quoTop S b k = 1 := by
  have hul := qt_lead hP hk h1
  have hlb := lv_bd hP u k
  have hq := q_bd hP
  have : lv S u k = 1 ∨ (gi S 0 = 3 ∧ lv S u k = 2) := by omega
  rcases this with e | ⟨h3, e⟩
  · exact ⟨u, hu, by rw [hul, e]⟩
  · refine ⟨two S u, g.sum u u hu hu, ?_⟩
    rw [qt_lead hP hk (by rw [two, qt_sum hP (g.wd u hu) (k + 1) (by omega) h1, h1]), lv_two hP u k hk, e, h3]; rfl
theorem subL_no {S C : List Int} (hP : Pl S) (g : Gp S C) {k : Nat} (hk : k < S.length) (h : ∀ b, b ∈ C → quoTop S b k ≠ 1) (u : Int) : u ∈ subL S C (k + 1) ↔ u ∈ subL S C k := by
  rw [mem_subL, mem_subL]
  constructor
  · rintro ⟨hu, h1⟩
    refine ⟨hu, Classical.byContradiction fun h0 => ?_⟩
    obtain ⟨b, hb, e⟩ := lead_one hP g hk hu h1 h0
    exact h b hb e
  · rintro ⟨hu, h1⟩
    exact ⟨hu, by rw [qt_step hP u k hk, h1]; exact Int.zero_ediv _⟩

/-- the word of the least basis with its first digit in front of the last k ones -/
def basAt (S C : List Int) (k : Nat) : Option Int := C.find? fun u => decide (quoTop S u k = 1)
theorem basAt_some {S C : List Int} {k : Nat} {b : Int} (h : basAt S C k = some b) : b ∈ C ∧ quoTop S b k = 1 :=
  ⟨List.mem_of_find?_eq_some h, by have := List.find?_some h; simpa using this⟩
theorem basAt_none {S C : List Int} {k : Nat} (h : basAt S C k = none) : ∀ b, b ∈ C → quoTop S b k ≠ 1 := fun b hb e => by
  have := List.find?_eq_none.1 h b hb
  simp [e] at this
/-- the least basis, from behind -/
def basUp (S C : List Int) : Nat → List Int
  | 0 => []
  | k + 1 => (basAt S C k).toList ++ basUp S C k
theorem basUp_len (S C : List Int) (k : Nat) : (basUp S C k).length ≤ k := by
  induction k with
  | zero => simp [basUp]
  | succ k ih => rw [basUp, List.length_append]; have : (basAt S C k).toList.length ≤ 1 := by cases basAt S C k <;> simp
                 omega
theorem basUp_mem (S C : List Int) (k : Nat) : ∀ b, b ∈ basUp S C k → b ∈ C := by
  induction k with
  | zero => intro b hb; simp [basUp] at hb
  | succ k ih =>
    intro b hb
    rw [basUp] at hb
    rcases List.mem_append.1 hb with hb | hb
    · rw [Option.mem_toList] at hb; exact (basAt_some hb).1
    · exact ih b hb
/-- the number of words, by the length of the basis -/
def pwI (q : Int) : Nat → Int
  | 0 => 1
  | k + 1 => pwI q k * q
theorem spW_len {S L : List Int} (hP : Pl S) (b : Int) : ((spW S L b).length : Int) = gi S 0 * L.length := by
  unfold spW
  rcases hP.q with h | h
  · rw [if_neg (by omega), h, List.length_append, shL_len]; omega
  · rw [if_pos h, h, List.length_append, List.length_append, shL_len, shL_len]; omega
theorem same_len {L M : List Int} (h1 : L.Nodup) (h2 : M.Nodup) (h : ∀ x, x ∈ L ↔ x ∈ M) : L.length = M.length := by
  have := nd_len h1 fun x hx => (h x).1 hx
  have := nd_len h2 fun x hx => (h x).2 hx
  omega
theorem sub_len {S C : List Int} (hP : Pl S) (g : Gp S C) (k : Nat) (hk : k ≤ S.length) : ((subL S C k).length : Int) = pwI (gi S 0) (basUp S C k).length := by
  induction k with
  | zero =>
    have : subL S C 0 = [0] := by
      have e : ∀ x, x ∈ subL S C 0 ↔ x ∈ [(0 : Int)] := fun x => by
        rw [mem_subL, List.mem_singleton]
        constructor
        · rintro ⟨_, h⟩; simpa [quoTop] using h
        · rintro rfl; exact ⟨g.zero, by simp [quoTop]⟩
      have hl := same_len (gp_subL hP g 0 (by omega)).nd (by simp : ([(0 : Int)]).Nodup) e
      match h : subL S C 0, hl with
      | [x], _ => rw [h] at e; have := (e x).1 (by simp); simpa using this
    rw [this]; simp [basUp, pwI]
  | succ k ih =>
    have h1 := ih (by omega)
    have gk := gp_subL hP g k (by omega)
    rw [basUp]
    cases e : basAt S C k with
    | none =>
      rw [same_len (gp_subL hP g (k + 1) hk).nd gk.nd (subL_no hP g (by omega) (basAt_none e)), h1]; simp
    | some b =>
      obtain ⟨hb, hq⟩ := basAt_some e
      have hn : b ∉ subL S C k := fun h => by have := ((mem_subL _ _ _ _).1 h).2; omega
      rw [same_len (gp_subL hP g (k + 1) hk).nd (gp_step hP gk (g.wd b hb) hn).nd (subL_step hP g (by omega) hb hq), spW_len hP, h1]
      show _ = pwI _ ((Option.some b).toList ++ basUp S C k).length
      rw [Option.toList_some, List.singleton_append, List.length_cons, pwI, Int.mul_comm]
theorem sub_all {S C : List Int} (hP : Pl S) (g : Gp S C) : subL S C S.length = C := by
  unfold subL
  rw [List.filter_eq_self]
  intro u hu
  rw [qt_end hP (g.wd u hu)]; rfl
theorem code_pw {S C : List Int} (hP : Pl S) (g : Gp S C) : (C.length : Int) = pwI (gi S 0) (basUp S C S.length).length := by
  have := sub_len hP g S.length (Nat.le_refl _)
  rwa [sub_all hP g] at this
theorem pwI_pos {S : List Int} (hP : Pl S) (k : Nat) : 1 ≤ pwI (gi S 0) k := by
  have hq := q_bd hP
  induction k with
  | zero => simp [pwI]
  | succ k ih => rw [pwI]; have := Int.mul_le_mul ih (show 1 ≤ gi S 0 by omega) (by omega) (by omega); omega
theorem pwI_step {S : List Int} (hP : Pl S) (k : Nat) : pwI (gi S 0) k < pwI (gi S 0) (k + 1) := by
  have := pwI_pos hP k
  rw [pwI]; rcases hP.q with h | h <;> rw [h] at this ⊢ <;> omega
theorem pwI_mono {S : List Int} (hP : Pl S) {j k : Nat} (h : j < k) : pwI (gi S 0) j < pwI (gi S 0) k := by
  induction k with
  | zero => omega
  | succ k ih =>
    have := pwI_step hP k
    by_cases e : j = k
    · subst e; exact this
    · have := ih (by omega); omega
theorem pwI_lt {S : List Int} (hP : Pl S) (j k : Nat) : pwI (gi S 0) j < pwI (gi S 0) k ↔ j < k := by
  constructor
  · intro h
    apply Classical.byContradiction
    intro g
    by_cases e : j = k
    · subst e; omega
    · have := pwI_mono hP (show k < j by omega); omega
  · exact pwI_mono hP
/-- what a search in an ascending code finds -/
theorem find_at {L : List Int} {p : Int → Bool} {j : Nat} (hj : j < L.length) (hp : p (gi L j) = true) (h : ∀ i, i < j → p (gi L i) = false) : L.find? p = some (gi L j) := by
  induction L generalizing j with
  | nil => simp at hj
  | cons a L ih =>
    cases j with
    | zero =>
      have e : gi (a :: L) 0 = a := rfl
      rw [e] at hp ⊢
      rw [List.find?_cons_of_pos hp]
    | succ j =>
      have e : ∀ i, gi (a :: L) (i + 1) = gi L i := fun i => rfl
      have h0 := h 0 (by omega)
      have e0 : gi (a :: L) 0 = a := rfl
      rw [e0] at h0
      rw [e] at hp ⊢
      rw [List.find?_cons_of_neg (by rw [h0]; decide)]
      exact ih (by simpa using hj) hp fun i hi => by have := h (i + 1) (by omega); rwa [e] at this
theorem find_no {L : List Int} {p : Int → Bool} (h : ∀ i, i < L.length → p (gi L i) = false) : L.find? p = none := by
  rw [List.find?_eq_none]
  intro x hx
  obtain ⟨i, hi, rfl⟩ := mem_gi hx
  rw [h i hi]; decide
theorem bas_yes {S C : List Int} (hP : Pl S) {k j : Nat} (hk : k ≤ S.length) (hj : j < C.length) (h1 : ∀ i, i < j → gi C i < restP S k) (h2 : ∀ i, j ≤ i → i < C.length → restP S k ≤ gi C i) (h : gi C j < 2 * restP S k) : basAt S C k = some (gi C j) :=
  find_at hj (by rw [decide_eq_true_eq]; exact (qt_one hP k hk).2 ⟨h2 j (Nat.le_refl _) hj, h⟩) fun i hi => decide_eq_false fun e => by have := ((qt_one hP k hk).1 e).1; have := h1 i hi; omega
theorem bas_no {S C : List Int} (hP : Pl S) (hA : Asc C) {k j : Nat} (hk : k ≤ S.length) (h1 : ∀ i, i < j → gi C i < restP S k) (h : ¬ (j < C.length ∧ gi C j < 2 * restP S k)) : basAt S C k = none :=
  find_no fun i hi => decide_eq_false fun e => by
    obtain ⟨a, b⟩ := (qt_one hP k hk).1 e
    by_cases g : i < j
    · have := h1 i g; omega
    · by_cases g2 : i = j
      · subst g2; exact h ⟨hi, b⟩
      · have := asc_lt hA (show j < i by omega) hi
        exact h ⟨by omega, by omega⟩
/-- the least word that is looked for when m digits are left -/
def fstW (S : List Int) (m : Nat) : Int := if m = 0 then 0 else restP S (m - 1)
theorem fst_next {S : List Int} (hP : Pl S) (m : Nat) (hm : m + 1 ≤ S.length) : restP S m / gi S 0 = fstW S m := by
  have hq := q_bd hP
  unfold fstW
  split
  · rename_i e; subst e
    rw [restP]; exact Int.ediv_eq_zero_of_lt (by omega) (by omega)
  · rename_i e
    obtain ⟨k, rfl⟩ : ∃ k, m = k + 1 := ⟨m - 1, by omega⟩
    rw [restP, hP.same _ (by omega), Nat.add_sub_cancel]
    exact Int.mul_ediv_cancel _ (by omega)
theorem fst_all {S : List Int} (hP : Pl S) : nW S / gi S 0 = restP S (S.length - 1) := by
  have hq := q_bd hP
  have hn := hP.sp.lo
  rw [← restP_all]
  obtain ⟨k, hk⟩ : ∃ k, S.length = k + 1 := ⟨S.length - 1, by omega⟩
  rw [hk, restP, hP.same _ (by omega), Nat.add_sub_cancel]
  exact Int.mul_ediv_cancel _ (by omega)
theorem rest_le {S : List Int} (hP : Pl S) (k : Nat) (hk : k ≤ S.length) : 1 ≤ restP S k ∧ restP S k ≤ 1024 := by
  have h1 := restP_pos S hP.sp.bd k hk
  have h2 := prod_rest S k hk
  have h3 := prodTo_pos S (S.length - k) fun i hi => hP.sp.bd i (by omega)
  have h4 := nW_bd hP.sp
  have h5 : prodTo S S.length = nW S := rfl
  have := Int.mul_le_mul h3 (Int.le_refl (restP S k)) (by omega) (by omega)
  omega
theorem fst_lt {S : List Int} (hP : Pl S) (m : Nat) (hm : m + 1 ≤ S.length) : 0 ≤ fstW S m ∧ fstW S m < restP S m := by
  have h1 := restP_pos S hP.sp.bd m (by omega)
  rw [← fst_next hP m hm]
  rcases hP.q with h | h <;> rw [h] <;> omega
def vBas (S C : List Int) : List Int := if eLin S C = 0 then basUp S C S.length else []
theorem vBas_len (S C : List Int) : (vBas S C).length ≤ 8 := by
  unfold vBas
  split
  · rename_i h
    have : eCode S C = 0 := by unfold eLin at h; split at h; assumption; omega
    have h2 := (eCode_zero this).1.hi
    have := basUp_len S C S.length
    omega
  · simp
def vDim (S C : List Int) : Int := if eLin S C = 0 then (basUp S C S.length).length else 0
end Cv
end Go.Proofs.YtdacokgmcenjoaaDoor
