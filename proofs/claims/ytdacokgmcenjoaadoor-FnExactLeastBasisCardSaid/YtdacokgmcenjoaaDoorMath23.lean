/-
  Plain facts on plain spaces, spans and linear codes. By an AI agent.
-/
import Derived.Test.YtdacokgmcenjoaaDoorMath
namespace Go.Proofs.YtdacokgmcenjoaaDoor
set_option linter.unusedVariables false
set_option linter.unusedSimpArgs false
namespace Cv

/-- the first k sizes are the first one, and none is greater than 3 -/
def plUp (S : List Int) (k : Nat) : Bool := decide (∀ i, i < k → gi S i = gi S 0 ∧ gi S i ≤ 3)
def isPl (S : List Int) : Bool := plUp S S.length
theorem isPl_iff (S : List Int) : isPl S = true ↔ ∀ i, i < S.length → gi S i = gi S 0 ∧ gi S i ≤ 3 := by
  unfold isPl plUp; simp
theorem isPl_not {S : List Int} {k : Nat} (hk : k < S.length) (h : ¬ (gi S k = gi S 0 ∧ gi S k ≤ 3)) : isPl S = false := by
  rw [← Bool.not_eq_true, isPl_iff]; exact fun g => h (g k hk)
/-- what the program asks -/
theorem isPl_any {S : List Int} (h1 : 1 ≤ S.length) : isPl S = (decide (gi S 0 ≤ 3) && !S.any fun x => x != gi S 0) := by
  rw [Bool.eq_iff_iff, isPl_iff, Bool.and_eq_true, decide_eq_true_eq, Bool.not_eq_true', ← Bool.not_eq_true, List.any_eq_true]
  constructor
  · intro h
    refine ⟨(h 0 (by omega)).2, ?_⟩
    rintro ⟨x, hx, he⟩
    obtain ⟨j, hj, e⟩ := mem_gi hx
    have := (h j hj).1
    rw [e] at this
    simp [this] at he
  · rintro ⟨h1, h2⟩ i hi
    have : gi S i = gi S 0 := by
      apply Classical.byContradiction
      intro g
      exact h2 ⟨gi S i, gi_mem hi, by simpa using g⟩
    exact ⟨this, by omega⟩

/-- a plain space -/
structure Pl (S : List Int) : Prop where
  sp : Sp S
  same : ∀ i, i < S.length → gi S i = gi S 0
  q : gi S 0 = 2 ∨ gi S 0 = 3
theorem pl_of {S : List Int} (h : Sp S) (hp : isPl S = true) : Pl S := by
  have g := (isPl_iff S).1 hp
  have h0 := h.bd 0 h.lo
  have g0 := g 0 h.lo
  exact ⟨h, fun i hi => (g i hi).1, by omega⟩

/-- a word -/
def Wd (S : List Int) (u : Int) : Prop := 0 ≤ u ∧ u < nW S
theorem digs_word {S D : List Int} (hS : Sp S) (hl : D.length = S.length) (hD : ∀ i, i < S.length → 0 ≤ gi D i ∧ gi D i < gi S i) : digs S (wordTo S D S.length) = D := by
  obtain ⟨a, b⟩ := wordTo_bd S D S.length hS.bd hD
  have h1 := wordTo_digs S _ hS a b
  refine ext_gi (by rw [digs_length, hl]) fun i hi => ?_
  rw [digs_length] at hi
  exact wordTo_inj S.length hS.bd (fun i hi => by rw [gi_digs _ _ _ hi]; exact dig_bd S _ hS.bd i hi) hD h1 i hi
theorem sumD_bd {S : List Int} (hS : Sp S) (A B : List Int) : ∀ i, i < S.length → 0 ≤ gi (sumD S A B) i ∧ gi (sumD S A B) i < gi S i := by
  intro i hi
  have s := hS.bd i hi
  rw [gi_sumD _ _ _ _ hi]
  exact ⟨Int.emod_nonneg _ (by omega), Int.emod_lt_of_pos _ (by omega)⟩
theorem wd_sum {S : List Int} (hS : Sp S) (u x : Int) : Wd S (sumW S u x) := wordTo_bd S _ S.length hS.bd (sumD_bd hS _ _)
theorem dig_sum {S : List Int} (hS : Sp S) (u x : Int) (i : Nat) (hi : i < S.length) : dig S (sumW S u x) i = (dig S u i + dig S x i) % gi S i := by
  have h := digs_word hS (sumD_length S (digs S u) (digs S x)) (sumD_bd hS _ _)
  rw [← gi_digs S _ i hi]
  show gi (digs S (sumW S u x)) i = _
  unfold sumW
  rw [h, gi_sumD _ _ _ _ hi, gi_digs S u i hi, gi_digs S x i hi]
theorem word_ext {S : List Int} (hS : Sp S) {u x : Int} (hu : Wd S u) (hx : Wd S x) (h : ∀ i, i < S.length → dig S u i = dig S x i) : u = x := by
  have : digs S u = digs S x := ext_gi (by rw [digs_length, digs_length]) fun i hi => by rw [digs_length] at hi; rw [gi_digs S u i hi, gi_digs S x i hi, h i hi]
  rw [← wordTo_digs S u hS hu.1 hu.2, ← wordTo_digs S x hS hx.1 hx.2, this]
theorem quoTop_0 (S : List Int) (k : Nat) : quoTop S 0 k = 0 := by
  induction k with
  | zero => rfl
  | succ k ih => rw [quoTop, ih]; exact Int.zero_ediv _
theorem dig_0 (S : List Int) (i : Nat) : dig S 0 i = 0 := by unfold dig; rw [quoTop_0]; exact Int.zero_emod _
theorem wd_0 {S : List Int} (hS : Sp S) : Wd S 0 := ⟨by omega, by have := nW_bd hS; omega⟩

theorem sum_comm {S : List Int} (hS : Sp S) (u x : Int) : sumW S u x = sumW S x u :=
  word_ext hS (wd_sum hS _ _) (wd_sum hS _ _) fun i hi => by rw [dig_sum hS _ _ i hi, dig_sum hS _ _ i hi, Int.add_comm]
theorem sum_assoc {S : List Int} (hS : Sp S) (u x y : Int) : sumW S (sumW S u x) y = sumW S u (sumW S x y) :=
  word_ext hS (wd_sum hS _ _) (wd_sum hS _ _) fun i hi => by
    rw [dig_sum hS _ _ i hi, dig_sum hS _ _ i hi, dig_sum hS _ _ i hi, dig_sum hS _ _ i hi, Int.emod_add_emod, Int.add_emod_emod, Int.add_assoc]
theorem sum_0 {S : List Int} (hS : Sp S) {u : Int} (hu : Wd S u) : sumW S u 0 = u :=
  word_ext hS (wd_sum hS _ _) hu fun i hi => by
    have := dig_bd S u hS.bd i hi
    rw [dig_sum hS _ _ i hi, dig_0, Int.add_zero]; exact Int.emod_eq_of_lt this.1 this.2
theorem sum_0l {S : List Int} (hS : Sp S) {u : Int} (hu : Wd S u) : sumW S 0 u = u := by rw [sum_comm hS, sum_0 hS hu]

/-- the word twice -/
def two (S : List Int) (w : Int) : Int := sumW S w w
theorem two_2 {S : List Int} (hP : Pl S) (h2 : gi S 0 = 2) (w : Int) : two S w = 0 :=
  word_ext hP.sp (wd_sum hP.sp _ _) (wd_0 hP.sp) fun i hi => by
    have := dig_bd S w hP.sp.bd i hi
    have e := hP.same i hi
    rw [two, dig_sum hP.sp _ _ i hi, dig_0, e, h2]; omega
theorem three_3 {S : List Int} (hP : Pl S) (h3 : gi S 0 = 3) (w : Int) : sumW S (two S w) w = 0 :=
  word_ext hP.sp (wd_sum hP.sp _ _) (wd_0 hP.sp) fun i hi => by
    have := dig_bd S w hP.sp.bd i hi
    have e := hP.same i hi
    rw [dig_sum hP.sp _ _ i hi, two, dig_sum hP.sp _ _ i hi, dig_0, e, h3]; omega
theorem two_ne {S : List Int} (hP : Pl S) (h3 : gi S 0 = 3) {w : Int} (hw : Wd S w) (h : w ≠ 0) : two S w ≠ 0 := fun g => h (by
  have h1 := three_3 hP h3 w
  rw [g, sum_0l hP.sp hw] at h1; exact h1)

/-- a list of words that has 0 and all sums of two of its words, each once -/
structure Gp (S L : List Int) : Prop where
  wd : ∀ u, u ∈ L → Wd S u
  zero : 0 ∈ L
  sum : ∀ u x, u ∈ L → x ∈ L → sumW S u x ∈ L
  nd : L.Nodup
theorem gp_0 {S : List Int} (hS : Sp S) : Gp S [0] := by
  refine ⟨fun u hu => ?_, by simp, fun u x hu hx => ?_, by simp⟩
  · rw [List.mem_singleton] at hu; subst hu; exact wd_0 hS
  · rw [List.mem_singleton] at hu hx ⊢; subst hu hx; exact sum_0 hS (wd_0 hS)

def shL (S L : List Int) (x : Int) : List Int := L.map fun u => sumW S u x
/-- a list of words, and their sums with w and, for the size 3, with w twice -/
def spW (S L : List Int) (w : Int) : List Int := if gi S 0 = 3 then L ++ shL S L w ++ shL S L (two S w) else L ++ shL S L w
theorem mem_shL (S L : List Int) (x y : Int) : y ∈ shL S L x ↔ ∃ u, u ∈ L ∧ sumW S u x = y := by simp [shL]
theorem nd_shL {S L : List Int} (hS : Sp S) (h : Gp S L) (x : Int) : (shL S L x).Nodup := by
  unfold shL
  refine List.Pairwise.map _ (fun a b hab => hab) (List.Pairwise.imp_of_mem ?_ h.nd)
  intro a b ha hb hab e
  exact hab (sumW_inj hS (h.wd a ha) (h.wd b hb) e)
theorem sum_inj_l {S : List Int} (hS : Sp S) {u v x : Int} (hu : Wd S u) (hv : Wd S v) (h : sumW S x u = sumW S x v) : u = v := by
  rw [sum_comm hS x u, sum_comm hS x v] at h; exact sumW_inj hS hu hv h
/-- the opposite of a word of a group is in it -/
theorem gp_neg {S L : List Int} (hP : Pl S) (h : Gp S L) {u : Int} (hu : u ∈ L) : ∃ v, v ∈ L ∧ sumW S u v = 0 := by
  rcases hP.q with h2 | h3
  · exact ⟨u, hu, two_2 hP h2 u⟩
  · exact ⟨two S u, h.sum u u hu hu, by rw [sum_comm hP.sp]; exact three_3 hP h3 u⟩
theorem gp_sub {S L : List Int} (hP : Pl S) (h : Gp S L) {u v x : Int} (hu : u ∈ L) (hv : v ∈ L) (hx : Wd S x) (e : sumW S u x = v) : x ∈ L := by
  obtain ⟨y, hy, e2⟩ := gp_neg hP h hu
  have : sumW S y v = x := by rw [← e, ← sum_assoc hP.sp, sum_comm hP.sp y u, e2, sum_0l hP.sp hx]
  rw [← this]; exact h.sum y v hy hv

theorem gp_step {S L : List Int} (hP : Pl S) (h : Gp S L) {w : Int} (hw : Wd S w) (hn : w ∉ L) : Gp S (spW S L w) := by
  have hS := hP.sp
  have a1 : ∀ u v, u ∈ L → v ∈ L → sumW S u w ≠ v := fun u v hu hv e => hn (gp_sub hP h hu hv hw e)
  rcases hP.q with h2 | h3
  · have e0 : two S w = 0 := two_2 hP h2 w
    have e : spW S L w = L ++ shL S L w := by unfold spW; rw [if_neg (by omega)]
    rw [e]
    refine ⟨fun u hu => ?_, List.mem_append_left _ h.zero, fun u x hu hx => ?_, ?_⟩
    · rw [List.mem_append, mem_shL] at hu
      rcases hu with hu | ⟨v, hv, rfl⟩
      · exact h.wd u hu
      · exact wd_sum hS _ _
    · rw [List.mem_append, mem_shL] at hu hx ⊢
      rcases hu with hu | ⟨v, hv, rfl⟩ <;> rcases hx with hx | ⟨y, hy, rfl⟩
      · exact .inl (h.sum u x hu hx)
      · exact .inr ⟨sumW S u y, h.sum u y hu hy, by rw [sum_assoc hS]⟩
      · exact .inr ⟨sumW S v x, h.sum v x hv hx, by rw [sum_assoc hS, sum_comm hS x w, ← sum_assoc hS]⟩
      · refine .inl ?_
        have : sumW S (sumW S v w) (sumW S y w) = sumW S v y := by
          rw [sum_assoc hS, sum_comm hS y w, ← sum_assoc hS w w y]
          show sumW S v (sumW S (two S w) y) = _
          rw [e0, sum_0l hS (h.wd y hy)]
        rw [this]; exact h.sum v y hv hy
    · refine List.nodup_append.2 ⟨h.nd, nd_shL hS h w, fun a ha b hb e => ?_⟩
      obtain ⟨v, hv, e2⟩ := (mem_shL S L w b).1 hb
      exact a1 v a hv ha (by rw [e2, e])
  · have e0 : sumW S (two S w) w = 0 := three_3 hP h3 w
    have e1 : sumW S w (two S w) = 0 := by rw [sum_comm hS]; exact e0
    have e2 : sumW S (two S w) (two S w) = w := by
      show sumW S (two S w) (sumW S w w) = w
      rw [← sum_assoc hS, e0, sum_0l hS hw]
    have e : spW S L w = L ++ shL S L w ++ shL S L (two S w) := by unfold spW; rw [if_pos h3]
    have wt : Wd S (two S w) := wd_sum hS _ _
    have a2 : ∀ u v, u ∈ L → v ∈ L → sumW S u (two S w) ≠ v := fun u v hu hv g => by
      have t := gp_sub hP h hu hv wt g
      have := h.sum _ _ t t
      rw [e2] at this; exact hn this
    have mem : ∀ y, y ∈ L ++ shL S L w ++ shL S L (two S w) ↔ ∃ v, v ∈ L ∧ ∃ x, (x = 0 ∨ x = w ∨ x = two S w) ∧ y = sumW S v x := by
      intro y
      rw [List.mem_append, List.mem_append, mem_shL, mem_shL]
      constructor
      · rintro ((g | ⟨v, hv, rfl⟩) | ⟨v, hv, rfl⟩)
        · exact ⟨y, g, 0, .inl rfl, (sum_0 hS (h.wd y g)).symm⟩
        · exact ⟨v, hv, w, .inr (.inl rfl), rfl⟩
        · exact ⟨v, hv, two S w, .inr (.inr rfl), rfl⟩
      · rintro ⟨v, hv, x, (rfl | rfl | rfl), rfl⟩
        · rw [sum_0 hS (h.wd v hv)]; exact .inl (.inl hv)
        · exact .inl (.inr ⟨v, hv, rfl⟩)
        · exact .inr ⟨v, hv, rfl⟩
    rw [e]
    refine ⟨fun u hu => ?_, List.mem_append_left _ (List.mem_append_left _ h.zero), fun u x hu hx => ?_, ?_⟩
    · obtain ⟨v, hv, x, _, rfl⟩ := (mem u).1 hu; exact wd_sum hS _ _
    · obtain ⟨v, hv, a, ha, rfl⟩ := (mem u).1 hu
      obtain ⟨y, hy, b, hb, rfl⟩ := (mem x).1 hx
      refine (mem _).2 ⟨sumW S v y, h.sum v y hv hy, sumW S a b, ?_, ?_⟩
      · rcases ha with rfl | rfl | rfl <;> rcases hb with rfl | rfl | rfl
        · exact .inl (sum_0 hS (wd_0 hS))
        · exact .inr (.inl (sum_0l hS hw))
        · exact .inr (.inr (sum_0l hS wt))
        · exact .inr (.inl (sum_0 hS hw))
        · exact .inr (.inr rfl)
        · exact .inl e1
        · exact .inr (.inr (sum_0 hS wt))
        · exact .inl e0
        · exact .inr (.inl e2)
      · rw [sum_assoc hS, ← sum_assoc hS a y b, sum_comm hS a y, sum_assoc hS y a b, ← sum_assoc hS]
    · refine List.nodup_append.2 ⟨List.nodup_append.2 ⟨h.nd, nd_shL hS h w, fun a ha b hb g => ?_⟩, nd_shL hS h _, fun a ha b hb g => ?_⟩
      · obtain ⟨v, hv, e3⟩ := (mem_shL S L w b).1 hb
        exact a1 v a hv ha (by rw [e3, g])
      · obtain ⟨v, hv, e3⟩ := (mem_shL S L _ b).1 hb
        rcases List.mem_append.1 ha with ha | ha
        · exact a2 v a hv ha (by rw [e3, g])
        · obtain ⟨y, hy, e4⟩ := (mem_shL S L w a).1 ha
          refine a1 v y hv hy (sumW_inj hS (x := w) (wd_sum hS _ _) (h.wd y hy) ?_)
          rw [sum_assoc hS, e4, g, ← e3]; rfl

/-- the words made of the first k words of a list -/
def spTo (S W : List Int) : Nat → List Int
  | 0 => [0]
  | k + 1 => if gi W k ∈ spTo S W k then spTo S W k else spW S (spTo S W k) (gi W k)
theorem gp_to {S W : List Int} (hP : Pl S) (hW : ∀ i, i < W.length → Wd S (gi W i)) (k : Nat) (hk : k ≤ W.length) : Gp S (spTo S W k) := by
  induction k with
  | zero => exact gp_0 hP.sp
  | succ k ih =>
    have h := ih (by omega)
    rw [spTo]
    split
    · exact h
    · rename_i hn; exact gp_step hP h (hW k (by omega)) hn
theorem sub_spW (S L : List Int) (w u : Int) (h : u ∈ L) : u ∈ spW S L w := by unfold spW; split <;> simp [h]
theorem sub_spTo {S W : List Int} {k m : Nat} (hk : k ≤ m) {u : Int} (h : u ∈ spTo S W k) : u ∈ spTo S W m := by
  induction m with
  | zero => have : k = 0 := by omega
            subst this; exact h
  | succ m ih =>
    by_cases e : k = m + 1
    · subst e; exact h
    · have := ih (by omega)
      rw [spTo]
      split
      · exact this
      · exact sub_spW _ _ _ _ this
theorem w_spTo {S W : List Int} (hP : Pl S) (hW : ∀ i, i < W.length → Wd S (gi W i)) {i k : Nat} (hi : i < k) (hk : k ≤ W.length) : gi W i ∈ spTo S W k := by
  refine sub_spTo (k := i + 1) (by omega) ?_
  rw [spTo]
  split
  · assumption
  · have g := gp_to hP hW i (by omega)
    have : gi W i ∈ shL S (spTo S W i) (gi W i) := (mem_shL _ _ _ _).2 ⟨0, g.zero, sum_0l hP.sp (hW i (by omega))⟩
    unfold spW; split <;> simp [this]
/-- what is closed by sums and has the words has their span -/
theorem spTo_sub {S W L : List Int} (hP : Pl S) (h0 : 0 ∈ L) (hs : ∀ u x, u ∈ L → x ∈ L → sumW S u x ∈ L) (k : Nat) (hW : ∀ i, i < k → gi W i ∈ L) : ∀ u, u ∈ spTo S W k → u ∈ L := by
  induction k with
  | zero => intro u hu; simp [spTo] at hu; subst hu; exact h0
  | succ k ih =>
    have h := ih fun i hi => hW i (by omega)
    have hw := hW k (by omega)
    intro u hu
    rw [spTo] at hu
    split at hu
    · exact h u hu
    · have s1 : ∀ x, x ∈ L → ∀ y, y ∈ shL S (spTo S W k) x → y ∈ L := by
        intro x hx y hy
        obtain ⟨v, hv, rfl⟩ := (mem_shL _ _ _ _).1 hy
        exact hs v x (h v hv) hx
      unfold spW at hu
      split at hu
      · rcases List.mem_append.1 hu with hu | hu
        · rcases List.mem_append.1 hu with hu | hu
          · exact h u hu
          · exact s1 _ hw u hu
        · exact s1 _ (hs _ _ hw hw) u hu
      · rcases List.mem_append.1 hu with hu | hu
        · exact h u hu
        · exact s1 _ hw u hu
theorem nd_len : ∀ {L M : List Int}, L.Nodup → (∀ x, x ∈ L → x ∈ M) → L.length ≤ M.length := by
  intro L
  induction L with
  | nil => intro M _ _; simp
  | cons a L ih =>
    intro M hn hs
    have ha : a ∈ M := hs a (by simp)
    rw [List.nodup_cons] at hn
    have := ih (M := M.erase a) hn.2 fun x hx => (List.mem_erase_of_ne (fun (e : x = a) => hn.1 (by rw [← e]; exact hx))).2 (hs x (by simp [hx]))
    rw [List.length_erase_of_mem ha] at this
    have hp : 0 < M.length := List.length_pos_of_mem ha
    simp; omega
theorem nd_words {S L : List Int} (hS : Sp S) (hn : L.Nodup) (hw : ∀ u, u ∈ L → Wd S u) : L.length ≤ 1024 := by
  have h := nW_bd hS
  have := nd_len (M := (List.range (nW S).toNat).map fun (i : Nat) => (i : Int)) hn fun x hx => by
    have g := hw x hx
    unfold Wd at g
    exact List.mem_map.2 ⟨x.toNat, by rw [List.mem_range]; omega, by omega⟩
  rw [List.length_map, List.length_range] at this
  omega
theorem spTo_len {S W : List Int} (hP : Pl S) (hW : ∀ i, i < W.length → Wd S (gi W i)) (k : Nat) (hk : k ≤ W.length) : 1 ≤ (spTo S W k).length ∧ (spTo S W k).length ≤ 1024 := by
  have g := gp_to hP hW k hk
  exact ⟨List.length_pos_of_mem g.zero, nd_words hP.sp g.nd g.wd⟩
/-- the span, ascending: the numbers below the number of words that are in it -/
theorem spTo_sel {S W : List Int} (hP : Pl S) (hW : ∀ i, i < W.length → Wd S (gi W i)) (k : Nat) (hk : k ≤ W.length) : sorted (spTo S W k) = selL (inL (spTo S W k)) (nW S).toNat := by
  have g := gp_to hP hW k hk
  refine asc_ext (asc_sorted g.nd) (asc_selL _ _) fun x => ?_
  rw [mem_sorted, mem_selL]
  constructor
  · intro hx
    have h := g.wd x hx
    unfold Wd at h
    exact ⟨x.toNat, by omega, by unfold inL; rw [decide_eq_true_eq, Int.toNat_of_nonneg h.1]; exact hx, by omega⟩
  · rintro ⟨i, hi, hp, rfl⟩
    unfold inL at hp
    simpa using hp
end Cv
end Go.Proofs.YtdacokgmcenjoaaDoor
