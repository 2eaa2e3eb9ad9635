/-
  Plain facts on the words that columns reach, as the model finds them and as the program does: no Go, no program. By an AI agent.
-/
import Derived.Test.YtamebfbddoeflaaPkMth9
import Derived.Test.YtamebfbddoeflaaPk19
namespace Go.Proofs.Ytamebfbddoeflaa
set_option linter.unusedVariables false
set_option linter.unusedSimpArgs false
namespace Cv

/-- how many multiples of a column lead to another word -/
def nst (S : List Int) (c : Int) : Nat := if c = 0 then 0 else qN S
/-- the multiple that is looked at behind j of them: 0 behind the last one -/
def mtX (S : List Int) (c : Int) (j : Nat) : Int := if j < nst S c then mulW S c j else 0
theorem mtX_0 {S : List Int} (hP : Pl S) (c : Int) : mtX S c 0 = c := by
  have := qN_bd hP
  unfold mtX nst
  by_cases h : c = 0
  · rw [if_pos h, if_neg (by omega), h]
  · rw [if_neg h, if_pos (by omega)]; rfl
theorem mtX_ne {S : List Int} (hP : Pl S) {c : Int} (hc : Wd S c) (j : Nat) (hj : j < nst S c) : mtX S c j ≠ 0 ∧ mtX S c j = mulW S c j := by
  unfold mtX; rw [if_pos hj]
  unfold nst at hj
  split at hj
  · omega
  · rename_i h; exact ⟨mul_ne hP hc h j hj, rfl⟩
theorem mtX_step {S : List Int} (hP : Pl S) (c : Int) (j : Nat) (hj : j < nst S c) : sumW S (mtX S c j) c = mtX S c (j + 1) := by
  have e : mtX S c j = mulW S c j := by unfold mtX; rw [if_pos hj]
  rw [e]
  show mulW S c (j + 1) = _
  unfold mtX
  by_cases h : j + 1 < nst S c
  · rw [if_pos h]
  · rw [if_neg h]
    have h2 : j + 1 = qN S := by
      unfold nst at hj h
      split at hj
      · omega
      · rename_i g; rw [if_neg g] at h; omega
    rw [h2]; exact mul_end hP c
theorem mtX_end (S : List Int) (c : Int) (j : Nat) (hj : ¬ j < nst S c) : mtX S c j = 0 := by unfold mtX; rw [if_neg hj]
theorem mtX_wd {S : List Int} (hS : Sp S) {c : Int} (hc : Wd S c) (j : Nat) : Wd S (mtX S c j) := by
  unfold mtX; split
  · exact mul_wd hS hc j
  · exact wd_0 hS
theorem nst_le {S : List Int} (hP : Pl S) (c : Int) : nst S c ≤ 2 := by have := qN_bd hP; unfold nst; split <;> omega
/-- the steps of the first k columns, and of j multiples of the next one -/
def stL (S T : List Int) : Nat → List Int
  | 0 => []
  | k + 1 => stL S T k ++ (List.range (nst S (gi T k))).map (mulW S (gi T k))
def stJ (S T : List Int) (k j : Nat) : List Int := stL S T k ++ (List.range j).map (mulW S (gi T k))
theorem stJ_0 (S T : List Int) (k : Nat) : stJ S T k 0 = stL S T k := by simp [stJ]
theorem stJ_all (S T : List Int) (k : Nat) : stJ S T k (nst S (gi T k)) = stL S T (k + 1) := rfl
theorem stJ_step (S T : List Int) (k j : Nat) : stJ S T k j ++ [mulW S (gi T k) j] = stJ S T k (j + 1) := by
  unfold stJ; rw [List.range_succ, List.map_append, List.append_assoc]; rfl
theorem stL_len {S : List Int} (hP : Pl S) (T : List Int) (k : Nat) : (stL S T k).length ≤ 2 * k := by
  induction k with
  | zero => simp [stL]
  | succ k ih => rw [stL, List.length_append, List.length_map, List.length_range]; have := nst_le hP (gi T k); omega
theorem stJ_len (S T : List Int) (k j : Nat) : (stJ S T k j).length = (stL S T k).length + j := by unfold stJ; simp
theorem mem_stL (S T : List Int) (k : Nat) (x : Int) : x ∈ stL S T k ↔ ∃ i, i < k ∧ ∃ a, a < nst S (gi T i) ∧ x = mulW S (gi T i) a := by
  induction k with
  | zero => simp [stL]
  | succ k ih =>
    rw [stL, List.mem_append, ih, List.mem_map]
    constructor
    · rintro (⟨i, h1, h2⟩ | ⟨a, h1, h2⟩)
      · exact ⟨i, by omega, h2⟩
      · exact ⟨k, by omega, a, List.mem_range.1 h1, h2.symm⟩
    · rintro ⟨i, h1, a, h2, h3⟩
      by_cases e : i = k
      · subst e; exact .inr ⟨a, List.mem_range.2 h2, h3.symm⟩
      · exact .inl ⟨i, by omega, a, h2, h3⟩
theorem stL_wd {S T : List Int} (hS : Sp S) (hT : ∀ i, i < T.length → Wd S (gi T i)) : ∀ x, x ∈ stL S T T.length → Wd S x := by
  intro x hx
  obtain ⟨i, hi, a, _, rfl⟩ := (mem_stL S T _ x).1 hx
  exact mul_wd hS (hT i hi) a

/-- the model's tables -/
def updF (f : Nat → Int) (t : Nat) (v : Int) : Nat → Int := fun u => if u = t ∧ (f u < 0 ∨ v < f u) then v else f u
def rdJ (S : List Int) (c a : Int) (w : Nat) (f : Nat → Int) : Nat → Nat → Int
  | 0 => f
  | j + 1 => updF (rdJ S c a w f j) (sumW S (w : Int) (mulW S c j)).toNat (a + 1)
def rdK (S : List Int) (c : Int) (L : Nat → Int) : Nat → Nat → Int
  | 0 => L
  | k + 1 => if L k < 0 then rdK S c L k else rdJ S c (L k) k (rdK S c L k) (qN S)
def rdC (S C T : List Int) : Nat → Nat → Int
  | 0 => fun u => if inL C u = true then 0 else -1
  | k + 1 => rdK S (gi T k) (rdC S C T k) (nW S).toNat
def InR (f : Nat → Int) (j : Int) (u : Nat) : Prop := 0 ≤ f u ∧ f u ≤ j
theorem upd_in (f : Nat → Int) (t : Nat) (v j : Int) (u : Nat) (hv : 0 ≤ v) : InR (updF f t v) j u ↔ InR f j u ∨ (u = t ∧ v ≤ j) := by
  unfold InR updF
  by_cases h : u = t
  · by_cases g : f u < 0 ∨ v < f u
    · rw [if_pos ⟨h, g⟩]; constructor
      · intro a; exact .inr ⟨h, a.2⟩
      · rintro (a | a)
        · omega
        · exact ⟨hv, a.2⟩
    · rw [if_neg (fun a => g a.2)]; constructor
      · exact .inl
      · rintro (a | a)
        · exact a
        · omega
  · rw [if_neg (fun a => h a.1)]; constructor
    · exact .inl
    · rintro (a | a)
      · exact a
      · exact absurd a.1 h
theorem rdJ_in (S : List Int) (c a : Int) (ha : 0 ≤ a) (w : Nat) (f : Nat → Int) (J : Nat) (j : Int) (u : Nat) :
    InR (rdJ S c a w f J) j u ↔ InR f j u ∨ ∃ i, i < J ∧ u = (sumW S (w : Int) (mulW S c i)).toNat ∧ a + 1 ≤ j := by
  induction J with
  | zero => simp [rdJ]
  | succ J ih =>
    rw [rdJ, upd_in _ _ _ _ _ (by omega), ih]
    constructor
    · rintro ((h | ⟨i, h1, h2⟩) | ⟨h1, h2⟩)
      · exact .inl h
      · exact .inr ⟨i, by omega, h2⟩
      · exact .inr ⟨J, by omega, h1, h2⟩
    · rintro (h | ⟨i, h1, h2, h3⟩)
      · exact .inl (.inl h)
      · by_cases e : i = J
        · subst e; exact .inr ⟨h2, h3⟩
        · exact .inl (.inr ⟨i, by omega, h2, h3⟩)
theorem rdK_in (S : List Int) (c : Int) (L : Nat → Int) (K : Nat) (j : Int) (u : Nat) :
    InR (rdK S c L K) j u ↔ InR L j u ∨ ∃ w, w < K ∧ InR L (j - 1) w ∧ ∃ i, i < qN S ∧ u = (sumW S (w : Int) (mulW S c i)).toNat := by
  induction K with
  | zero => simp [rdK]
  | succ K ih =>
    rw [rdK]
    by_cases h : L K < 0
    · rw [if_pos h, ih]
      constructor
      · rintro (a | ⟨w, h1, h2⟩)
        · exact .inl a
        · exact .inr ⟨w, by omega, h2⟩
      · rintro (a | ⟨w, h1, h2, h3⟩)
        · exact .inl a
        · by_cases e : w = K
          · subst e; unfold InR at h2; omega
          · exact .inr ⟨w, by omega, h2, h3⟩
    · rw [if_neg h, rdJ_in _ _ _ (by omega), ih]
      constructor
      · rintro ((a | ⟨w, h1, h2⟩) | ⟨i, h1, h2, h3⟩)
        · exact .inl a
        · exact .inr ⟨w, by omega, h2⟩
        · exact .inr ⟨K, by omega, ⟨by omega, by omega⟩, i, h1, h2⟩
      · rintro (a | ⟨w, h1, h2, i, h3, h4⟩)
        · exact .inl (.inl a)
        · by_cases e : w = K
          · subst e; exact .inr ⟨i, h3, h4, by have := h2.2; omega⟩
          · exact .inl (.inr ⟨w, by omega, h2, i, h3, h4⟩)
/-- reached by the first k columns, within j -/
def PrC (S C T : List Int) : Nat → Nat → Nat → Prop
  | 0, _, u => inL C u = true
  | k + 1, j, u => PrC S C T k j u ∨ ∃ j', j = j' + 1 ∧ ∃ w, w < (nW S).toNat ∧ PrC S C T k j' w ∧ ∃ i, i < qN S ∧ u = (sumW S (w : Int) (mulW S (gi T k) i)).toNat
theorem rdC_in (S C T : List Int) (k j u : Nat) : InR (rdC S C T k) (j : Int) u ↔ PrC S C T k j u := by
  induction k generalizing j u with
  | zero =>
    unfold InR rdC PrC
    by_cases h : inL C u = true
    · simp [h]
    · simp [h]
  | succ k ih =>
    rw [rdC, rdK_in, PrC, ih]
    constructor
    · rintro (a | ⟨w, h1, h2, h3⟩)
      · exact .inl a
      · have hj : j ≠ 0 := by unfold InR at h2; omega
        obtain ⟨j', rfl⟩ : ∃ j', j = j' + 1 := ⟨j - 1, by omega⟩
        refine .inr ⟨j', rfl, w, h1, (ih j' w).1 ?_, h3⟩
        have e : ((j' + 1 : Nat) : Int) - 1 = (j' : Int) := by omega
        rwa [e] at h2
    · rintro (a | ⟨j', rfl, w, h1, h2, h3⟩)
      · exact .inl a
      · refine .inr ⟨w, h1, ?_, h3⟩
        have e : ((j' + 1 : Nat) : Int) - 1 = (j' : Int) := by omega
        rw [e]; exact (ih j' w).2 h2
theorem PrC_lt {S C T : List Int} (hS : Sp S) (hC : ∀ u, inL C u = true → u < (nW S).toNat) (k j u : Nat) (h : PrC S C T k j u) : u < (nW S).toNat := by
  induction k generalizing j u with
  | zero => exact hC u h
  | succ k ih =>
    rcases h with h | ⟨j', _, w, _, _, i, _, rfl⟩
    · exact ih j u h
    · have := wd_sum hS (w : Int) (mulW S (gi T k) i)
      unfold Wd at this; omega
theorem PrC_mono {S C T : List Int} (k j u : Nat) (h : PrC S C T k j u) : PrC S C T k (j + 1) u := by
  induction k generalizing j u with
  | zero => exact h
  | succ k ih =>
    rcases h with h | ⟨j', rfl, w, h1, h2, h3⟩
    · exact .inl (ih j u h)
    · exact .inr ⟨j' + 1, rfl, w, h1, ih j' w h2, h3⟩
/-- two multiples of one column make one, or 0 -/
theorem mul_add {S : List Int} (hP : Pl S) {c : Int} (hc : Wd S c) (a b : Nat) (ha : a < qN S) (hb : b < qN S) : sumW S (mulW S c a) (mulW S c b) = 0 ∨ ∃ d, d < qN S ∧ sumW S (mulW S c a) (mulW S c b) = mulW S c d := by
  rcases hP.q with h | h
  · have e : qN S = 1 := by unfold qN; rw [h]; rfl
    have e1 : a = 0 := by omega
    have e2 : b = 0 := by omega
    subst e1 e2
    exact .inl (two_2 hP h c)
  · have e : qN S = 2 := by unfold qN; rw [h]; rfl
    have h3 := three_3 hP h c
    have a2 : a = 0 ∨ a = 1 := by omega
    have b2 : b = 0 ∨ b = 1 := by omega
    rcases a2 with rfl | rfl <;> rcases b2 with rfl | rfl
    · exact .inr ⟨1, by omega, rfl⟩
    · refine .inl ?_
      rw [sum_comm hP.sp]; exact h3
    · exact .inl h3
    · refine .inr ⟨0, by omega, ?_⟩
      show sumW S (two S c) (two S c) = c
      have : sumW S (two S c) (two S c) = sumW S (sumW S (two S c) c) c := by rw [sum_assoc hP.sp]; rfl
      rw [this, h3, sum_0l hP.sp hc]
theorem toNat_wd {S : List Int} (hS : Sp S) (u x : Int) : (((sumW S u x).toNat : Nat) : Int) = sumW S u x := Int.toNat_of_nonneg (wd_sum hS u x).1
theorem PrC_add {S C T : List Int} (hP : Pl S) (hC : ∀ u, inL C u = true → u < (nW S).toNat) (hT : ∀ i, i < T.length → Wd S (gi T i)) (k j u i a : Nat) (hk : k ≤ T.length) (h : PrC S C T k j u) (hi : i < k) (ha : a < qN S) :
    PrC S C T k (j + 1) (sumW S (u : Int) (mulW S (gi T i) a)).toNat := by
  induction k generalizing j u with
  | zero => omega
  | succ k ih =>
    have hu := PrC_lt hP.sp hC _ _ _ h
    by_cases e : i = k
    · subst e
      rcases h with h | ⟨j', rfl, w, h1, h2, b, h3, rfl⟩
      · exact .inr ⟨j, rfl, u, hu, h, a, ha, rfl⟩
      · rw [toNat_wd hP.sp, sum_assoc hP.sp]
        have hw : Wd S (w : Int) := ⟨by omega, by omega⟩
        rcases mul_add hP (hT i (by omega)) b a h3 ha with g | ⟨d, g1, g2⟩
        · rw [g, sum_0 hP.sp hw, Int.toNat_natCast]
          exact .inl (PrC_mono _ _ _ (PrC_mono _ _ _ h2))
        · rw [g2]
          exact .inr ⟨j' + 1, rfl, w, h1, PrC_mono _ _ _ h2, d, g1, rfl⟩
    · have hi2 : i < k := by omega
      rcases h with h | ⟨j', rfl, w, h1, h2, b, h3, rfl⟩
      · exact .inl (ih j u (by omega) h hi2)
      · have h4 := ih j' w (by omega) h2 hi2
        refine .inr ⟨j' + 1, rfl, _, PrC_lt hP.sp hC _ _ _ h4, h4, b, h3, ?_⟩
        rw [toNat_wd hP.sp, toNat_wd hP.sp, sum_assoc hP.sp, sum_assoc hP.sp, sum_comm hP.sp (mulW S (gi T k) b)]
/-- reached within m steps -/
def QrC (S C St : List Int) : Nat → Nat → Prop
  | 0, u => inL C u = true
  | m + 1, u => QrC S C St m u ∨ ∃ w, w < (nW S).toNat ∧ QrC S C St m w ∧ ∃ s, s ∈ St ∧ u = (sumW S (w : Int) s).toNat
theorem Qr_of_Pr {S C T : List Int} (hP : Pl S) (k j u : Nat) (hk : k ≤ T.length) (h : PrC S C T k j u) : QrC S C (stL S T T.length) j u := by
  induction k generalizing j u with
  | zero =>
    have h0 : ∀ j, QrC S C (stL S T T.length) j u := fun j => by
      induction j with
      | zero => exact h
      | succ j ih => exact .inl ih
    exact h0 j
  | succ k ih =>
    rcases h with h | ⟨j', rfl, w, h1, h2, i, h3, rfl⟩
    · exact ih j u (by omega) h
    · have h4 := ih j' w (by omega) h2
      have hw : Wd S (w : Int) := ⟨by omega, by omega⟩
      by_cases e : gi T k = 0
      · have hm : ∀ i, mulW S (gi T k) i = 0 := fun i => by
          induction i with
          | zero => exact e
          | succ i ih => rw [mulW, ih, e]; exact sum_0 hP.sp (wd_0 hP.sp)
        rw [hm, sum_0 hP.sp hw, Int.toNat_natCast]
        exact .inl h4
      · refine .inr ⟨w, h1, h4, _, (mem_stL S T _ _).2 ⟨k, by omega, i, ?_, rfl⟩, rfl⟩
        unfold nst; rw [if_neg e]; exact h3
theorem Pr_of_Qr {S C T : List Int} (hP : Pl S) (hC : ∀ u, inL C u = true → u < (nW S).toNat) (hT : ∀ i, i < T.length → Wd S (gi T i)) (j u : Nat) (h : QrC S C (stL S T T.length) j u) : PrC S C T T.length j u := by
  induction j generalizing u with
  | zero =>
    have h0 : ∀ k, PrC S C T k 0 u := fun k => by
      induction k with
      | zero => exact h
      | succ k ih => exact .inl ih
    exact h0 _
  | succ j ih =>
    rcases h with h | ⟨w, h1, h2, s, h3, rfl⟩
    · exact PrC_mono _ _ _ (ih u h)
    · obtain ⟨i, hi, a, ha, rfl⟩ := (mem_stL S T _ s).1 h3
      have ha2 : a < qN S := by unfold nst at ha; split at ha <;> omega
      exact PrC_add hP hC hT _ _ _ _ _ (Nat.le_refl _) (ih w h2) hi ha2

/-- the words that the model finds reached within m -/
def wrB (S C T : List Int) (m : Int) (u : Nat) : Bool := decide (0 ≤ rdC S C T T.length u ∧ rdC S C T T.length u ≤ m)
theorem wrB_iff {S C T : List Int} (hP : Pl S) (hC : ∀ u, inL C u = true → u < (nW S).toNat) (hT : ∀ i, i < T.length → Wd S (gi T i)) (m u : Nat) : wrB S C T (m : Int) u = true ↔ QrC S C (stL S T T.length) m u := by
  unfold wrB
  rw [decide_eq_true_eq]
  have h := rdC_in S C T T.length m u
  unfold InR at h
  rw [h]
  exact ⟨Qr_of_Pr hP _ _ _ (Nat.le_refl _), Pr_of_Qr hP hC hT _ _⟩

/-- what the program has found in a round, behind a words and b steps of the next one -/
def NEx (S NL St : List Int) (a b v : Nat) : Prop := (∃ i, i < a ∧ ∃ k, k < St.length ∧ v = (sumW S (gi NL i) (gi St k)).toNat) ∨ ∃ k, k < b ∧ v = (sumW S (gi NL a) (gi St k)).toNat
structure Fnd (S : List Int) (p0 : Nat → Bool) (E : Nat → Prop) (p : Nat → Bool) (F : List Int) : Prop where
  mem : ∀ v, p v = true ↔ p0 v = true ∨ E v
  new : ∀ v : Nat, (v : Int) ∈ F ↔ p v = true ∧ p0 v = false
  wd : ∀ x, x ∈ F → Wd S x
  nd : F.Nodup
theorem fnd_0 (S NL St : List Int) (p0 : Nat → Bool) : Fnd S p0 (NEx S NL St 0 0) p0 [] := by
  refine ⟨fun v => ⟨.inl, ?_⟩, fun v => ?_, fun x h => absurd h (by simp), List.nodup_nil⟩
  · rintro (h | ⟨i, h, _⟩ | ⟨i, h, _⟩)
    · exact h
    · omega
    · omega
  · simp
theorem nex_step (S NL St : List Int) (a b v : Nat) : NEx S NL St a (b + 1) v ↔ NEx S NL St a b v ∨ v = (sumW S (gi NL a) (gi St b)).toNat := by
  unfold NEx
  constructor
  · rintro (h | ⟨k, h1, h2⟩)
    · exact .inl (.inl h)
    · by_cases e : k = b
      · subst e; exact .inr h2
      · exact .inl (.inr ⟨k, by omega, h2⟩)
  · rintro ((h | ⟨k, h1, h2⟩) | h)
    · exact .inl h
    · exact .inr ⟨k, by omega, h2⟩
    · exact .inr ⟨b, by omega, h⟩
theorem nex_row (S NL St : List Int) (a v : Nat) : NEx S NL St a St.length v ↔ NEx S NL St (a + 1) 0 v := by
  unfold NEx
  constructor
  · rintro (⟨i, h1, h2⟩ | ⟨k, h1, h2⟩)
    · exact .inl ⟨i, by omega, h2⟩
    · exact .inl ⟨a, by omega, k, h1, h2⟩
  · rintro (⟨i, h1, h2⟩ | ⟨k, h1, _⟩)
    · by_cases e : i = a
      · subst e; obtain ⟨k, h3, h4⟩ := h2; exact .inr ⟨k, h3, h4⟩
      · exact .inl ⟨i, by omega, h2⟩
    · omega
theorem Fnd.congr {S : List Int} {p0 p : Nat → Bool} {E E' : Nat → Prop} {F : List Int} (h : Fnd S p0 E p F) (he : ∀ v, E v ↔ E' v) : Fnd S p0 E' p F :=
  ⟨fun v => by rw [h.mem, he], h.new, h.wd, h.nd⟩
theorem fnd_old {S NL St : List Int} {p0 p : Nat → Bool} {F : List Int} {a b : Nat} (h : Fnd S p0 (NEx S NL St a b) p F) (hp : p (sumW S (gi NL a) (gi St b)).toNat = true) : Fnd S p0 (NEx S NL St a (b + 1)) p F := by
  refine ⟨fun v => ?_, h.new, h.wd, h.nd⟩
  rw [nex_step, h.mem]
  constructor
  · rintro (g | g)
    · exact .inl g
    · exact .inr (.inl g)
  · rintro (g | g | g)
    · exact .inl g
    · exact .inr g
    · subst g; exact (h.mem _).1 hp
theorem fnd_new {S NL St : List Int} (hS : Sp S) {p0 p : Nat → Bool} {F : List Int} {a b t : Nat} (h : Fnd S p0 (NEx S NL St a b) p F) (ht : sumW S (gi NL a) (gi St b) = (t : Int)) (hp : p t = false) : Fnd S p0 (NEx S NL St a (b + 1)) (putB p t) (F ++ [(t : Int)]) := by
  have hp0 : p0 t = false := by
    cases e : p0 t with
    | false => rfl
    | true => rw [(h.mem t).2 (.inl e)] at hp; cases hp
  refine ⟨fun v => ?_, fun v => ?_, fun x hx => ?_, ?_⟩
  · rw [nex_step, ht, Int.toNat_natCast]
    unfold putB
    rw [Bool.or_eq_true, decide_eq_true_eq, h.mem]
    exact ⟨fun g => by rcases g with (g | g) | g <;> simp [g], fun g => by rcases g with g | g | g <;> simp [g]⟩
  · rw [List.mem_append, List.mem_singleton, h.new]
    unfold putB
    rw [Bool.or_eq_true, decide_eq_true_eq]
    constructor
    · rintro (⟨g1, g2⟩ | g)
      · exact ⟨.inl g1, g2⟩
      · have : v = t := by omega
        subst this; exact ⟨.inr rfl, hp0⟩
    · rintro ⟨g1 | g1, g2⟩
      · exact .inl ⟨g1, g2⟩
      · exact .inr (by rw [g1])
  · rw [List.mem_append, List.mem_singleton] at hx
    rcases hx with hx | rfl
    · exact h.wd x hx
    · rw [← ht]; exact wd_sum hS _ _
  · rw [List.nodup_append]
    refine ⟨h.nd, by simp, fun x hx y hy => ?_⟩
    rw [List.mem_singleton] at hy
    subst hy
    intro e
    subst e
    rw [((h.new t).1 hx).1] at hp; cases hp
/-- what holds ahead of round m -/
structure Rnd (S C St : List Int) (m : Nat) (p : Nat → Bool) (NL : List Int) : Prop where
  mem : ∀ v, p v = true ↔ QrC S C St m v
  sub : ∀ x, x ∈ NL → Wd S x ∧ QrC S C St m x.toNat
  new : ∀ v : Nat, QrC S C St m v → (v : Int) ∈ NL ∨ ∃ m', m = m' + 1 ∧ QrC S C St m' v
  nd : NL.Nodup
theorem rnd_0 {S C : List Int} (St : List Int) (hC : ∀ i, i < C.length → Wd S (gi C i)) (hn : C.Nodup) : Rnd S C St 0 (inL C) C := by
  refine ⟨fun v => Iff.rfl, fun x hx => ?_, fun v h => .inl ?_, hn⟩
  · obtain ⟨i, hi, e⟩ := mem_gi hx
    have := hC i hi
    rw [e] at this
    refine ⟨this, ?_⟩
    show inL C x.toNat = true
    unfold inL
    rw [decide_eq_true_eq, Int.toNat_of_nonneg this.1]; exact hx
  · have h' : inL C v = true := h
    unfold inL at h'
    rwa [decide_eq_true_eq] at h'
theorem rnd_step {S C St : List Int} (hS : Sp S) {m : Nat} {p0 p : Nat → Bool} {NL F : List Int} (h : Rnd S C St m p0 NL) (f : Fnd S p0 (NEx S NL St NL.length 0) p F) : Rnd S C St (m + 1) p F := by
  have key : ∀ v, p v = true ↔ QrC S C St (m + 1) v := by
    intro v
    rw [f.mem, h.mem]
    constructor
    · rintro (g | ⟨i, h1, k, h2, h3⟩ | ⟨k, h1, _⟩)
      · exact .inl g
      · have hx := h.sub _ (gi_mem h1)
        have hw := hx.1
        unfold Wd at hw
        refine .inr ⟨(gi NL i).toNat, by omega, hx.2, gi St k, gi_mem h2, ?_⟩
        rw [Int.toNat_of_nonneg hw.1]; exact h3
      · omega
    · rintro (g | ⟨w, h1, h2, s, h3, h4⟩)
      · exact .inl g
      · rcases h.new w h2 with g | ⟨m', rfl, g⟩
        · obtain ⟨i, hi, e⟩ := mem_gi g
          obtain ⟨k, hk, e2⟩ := mem_gi h3
          exact .inr (.inl ⟨i, hi, k, hk, by rw [e, e2]; exact h4⟩)
        · exact .inl (.inr ⟨w, h1, g, s, h3, h4⟩)
  refine ⟨key, fun x hx => ⟨f.wd x hx, ?_⟩, fun v hv => ?_, f.nd⟩
  · have hw := f.wd x hx
    have e : (((x.toNat : Nat)) : Int) = x := Int.toNat_of_nonneg hw.1
    exact (key _).1 ((f.new x.toNat).1 (by rw [e]; exact hx)).1
  · cases e : p0 v with
    | true => exact .inr ⟨m, rfl, (h.mem v).1 e⟩
    | false => exact .inl ((f.new v).2 ⟨(key v).2 hv, e⟩)

def vWr (S C T : List Int) (m : Int) : List Int := if eCs S C T m = 0 then selL (wrB S C T m) (nW S).toNat else []

end Cv
end Go.Proofs.Ytamebfbddoeflaa
