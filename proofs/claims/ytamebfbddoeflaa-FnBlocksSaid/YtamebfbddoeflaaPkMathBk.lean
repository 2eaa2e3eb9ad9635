/-
  Plain facts of the law FnBlocks: what a code by columns covers, and how many words it has. By an AI agent.
-/
import Derived.Test.YtamebfbddoeflaaPk31
namespace Go.Proofs.Ytamebfbddoeflaa
set_option linter.unusedVariables false
set_option linter.unusedSimpArgs false
namespace Cv

/- A column taken so many times. -/
theorem it_sum {S : List Int} (hS : Sp S) {c u : Int} (hu : Wd S u) (d : Nat) : itW S c u d = sumW S u (itW S c 0 d) := by
  induction d with
  | zero => rw [itW, itW, sum_0 hS hu]
  | succ d ih => rw [itW, itW, ih, sum_assoc hS]
theorem it_mul {S : List Int} (hS : Sp S) {c : Int} (hc : Wd S c) (d : Nat) : itW S c 0 (d + 1) = mulW S c d := by
  induction d with
  | zero => rw [itW, itW, mulW]; exact sum_0l hS hc
  | succ d ih => rw [itW, ih, mulW]
theorem it_add (S : List Int) (c u : Int) (a b : Nat) : itW S c (itW S c u a) b = itW S c u (a + b) := by
  induction b with
  | zero => rfl
  | succ b ih => rw [itW, ih]; rfl
theorem q_eq {S : List Int} (hP : Pl S) : (gi S 0).toNat = qN S + 1 := by unfold qN; rcases hP.q with h | h <;> rw [h] <;> rfl
theorem it_q0 {S : List Int} (hP : Pl S) {c : Int} (hc : Wd S c) : itW S c 0 (qN S + 1) = 0 := by rw [it_mul hP.sp hc, mul_end hP]
theorem it_q {S : List Int} (hP : Pl S) {c u : Int} (hc : Wd S c) (hu : Wd S u) : itW S c u (qN S + 1) = u := by
  rw [it_sum hP.sp hu, it_q0 hP hc, sum_0 hP.sp hu]
/-- what makes one multiple of a column out of another one -/
theorem it_diff {S : List Int} (hP : Pl S) {c : Int} (hc : Wd S c) {a b : Nat} (ha : a < qN S + 1) (hb : b < qN S + 1) :
    ∃ e, e < qN S + 1 ∧ (e = 0 → a = b) ∧ itW S c 0 b = sumW S (itW S c 0 a) (itW S c 0 e) := by
  have h0 := wd_0 hP.sp
  by_cases h : a ≤ b
  · refine ⟨b - a, by omega, by omega, ?_⟩
    rw [← it_sum hP.sp (itW_wd hP.sp c h0 a), it_add, show a + (b - a) = b by omega]
  · refine ⟨qN S + 1 - a + b, by omega, by omega, ?_⟩
    rw [← it_sum hP.sp (itW_wd hP.sp c h0 a), it_add, show a + (qN S + 1 - a + b) = (qN S + 1) + b by omega, ← it_add, it_q0 hP hc]

/-- the sum of the first k columns, each as often as D tells -/
def fS (S T : List Int) (D : Nat → Int) : Nat → Int
  | 0 => 0
  | k + 1 => itW S (gi T k) (fS S T D k) (D k).toNat
theorem fS_wd {S : List Int} (hS : Sp S) (T : List Int) (D : Nat → Int) (k : Nat) : Wd S (fS S T D k) := by
  induction k with
  | zero => exact wd_0 hS
  | succ k ih => exact itW_wd hS _ ih _
theorem fS_congr (S T : List Int) {D E : Nat → Int} (k : Nat) (h : ∀ i, i < k → D i = E i) : fS S T D k = fS S T E k := by
  induction k with
  | zero => rfl
  | succ k ih => rw [fS, fS, ih (fun i hi => h i (by omega)), h k (by omega)]
theorem cs_fS (S T : List Int) (n Q : Nat) (v : Int) (k : Nat) (hk : k ≤ n) : csF S T (Q : Int) k (quo (plS n (Q : Int)) v k) = fS S T (dig (plS n (Q : Int)) v) k := by
  induction k with
  | zero => rfl
  | succ k ih => rw [cs_dig S T n Q v k (by omega), ih (by omega)]; rfl
theorem F_fS (S T : List Int) (n Q : Nat) (v : Int) : csF S T (Q : Int) n v = fS S T (dig (plS n (Q : Int)) v) n := by rw [← cs_fS S T n Q v n (Nat.le_refl _), cs_all]
/-- one digit is changed -/
theorem fS_one {S T : List Int} (hS : Sp S) {D E : Nat → Int} {k : Nat} {z : Int} (hz : itW S (gi T k) 0 (E k).toNat = sumW S (itW S (gi T k) 0 (D k).toNat) z) (hne : ∀ i, i ≠ k → E i = D i) (n : Nat) (hn : k < n) : fS S T E n = sumW S (fS S T D n) z := by
  induction n with
  | zero => omega
  | succ n ih =>
    rw [fS, fS, it_sum hS (fS_wd hS T E n), it_sum hS (fS_wd hS T D n)]
    by_cases e : k = n
    · subst e
      rw [hz, fS_congr S T k (fun i hi => hne i (by omega)), sum_assoc hS]
    · rw [ih (by omega), hne n (by omega), sum_assoc hS, sum_assoc hS, sum_comm hS z]
/-- in how many of the first k places two differ -/
def df (D E : Nat → Int) : Nat → Nat
  | 0 => 0
  | k + 1 => df D E k + if D k = E k then 0 else 1
theorem df_congr {D E D' E' : Nat → Int} (k : Nat) (h : ∀ i, i < k → D i = D' i) (h' : ∀ i, i < k → E i = E' i) : df D E k = df D' E' k := by
  induction k with
  | zero => rfl
  | succ k ih => rw [df, df, ih (fun i hi => h i (by omega)) (fun i hi => h' i (by omega)), h k (by omega), h' k (by omega)]
theorem df_cnt (S : List Int) (u x : Int) (n : Nat) : cnt (fun i => dig S u i != dig S x i) n = (df (dig S u) (dig S x) n : Int) := by
  induction n with
  | zero => rfl
  | succ n ih =>
    rw [cnt, df, ih]
    by_cases e : dig S u n = dig S x n
    · simp [e]
    · simp [e]
/-- a word that is covered is reached -/
theorem cvA {S C T : List Int} (hP : Pl S) (hT : ∀ i, i < T.length → Wd S (gi T i)) {D E : Nat → Int} {n : Nat} (hn : n ≤ T.length) (hD : ∀ i, i < n → 0 ≤ D i ∧ D i < gi S 0) (hE : ∀ i, i < n → 0 ≤ E i ∧ E i < gi S 0)
    (hC : inL C (fS S T E n).toNat = true) (k : Nat) (hk : k ≤ n) : PrC S C T k (df D E k) (fS S T (fun i => if i < k then D i else E i) n).toNat := by
  have hq := q_eq hP
  induction k with
  | zero =>
    rw [PrC, fS_congr S T n (E := E) (fun i hi => by simp)]; exact hC
  | succ k ih =>
    have h := ih (by omega)
    obtain ⟨d0, d1⟩ := hD k (by omega)
    obtain ⟨e0, e1⟩ := hE k (by omega)
    obtain ⟨e, he, hz, hd⟩ := it_diff hP (hT k (by omega)) (a := (E k).toNat) (b := (D k).toNat) (by omega) (by omega)
    have hw := fS_wd hP.sp T (fun i => if i < k then D i else E i) n
    by_cases hDE : D k = E k
    · have : fS S T (fun i => if i < k + 1 then D i else E i) n = fS S T (fun i => if i < k then D i else E i) n := fS_congr S T n fun i hi => by
        by_cases h1 : i < k
        · simp [h1, show i < k + 1 by omega]
        · by_cases h2 : i = k
          · subst h2; simp [hDE]
          · simp [h1, show ¬ i < k + 1 by omega]
      rw [PrC, this, df, if_pos hDE]
      exact .inl h
    · have hone : fS S T (fun i => if i < k + 1 then D i else E i) n = sumW S (fS S T (fun i => if i < k then D i else E i) n) (itW S (gi T k) 0 e) :=
        fS_one hP.sp (k := k) (by simpa using hd) (fun i hi => by
          by_cases h1 : i < k
          · simp [h1, show i < k + 1 by omega]
          · simp [h1, show ¬ i < k + 1 by omega]) n (by omega)
      obtain ⟨i, rfl⟩ : ∃ i, e = i + 1 := ⟨e - 1, by
        have : e ≠ 0 := fun h0 => hDE (by have := hz h0; omega)
        omega⟩
      rw [it_mul hP.sp (hT k (by omega))] at hone
      rw [PrC, df, if_neg hDE, hone]
      refine .inr ⟨df D E k, rfl, (fS S T (fun i => if i < k then D i else E i) n).toNat, by have := hw.2; have := hw.1; omega, h, i, by omega, ?_⟩
      rw [Int.toNat_of_nonneg hw.1]
/-- a word that is reached is covered -/
theorem cvB {S C T : List Int} (hP : Pl S) (hT : ∀ i, i < T.length → Wd S (gi T i)) {n : Nat} (hn : n ≤ T.length) (k : Nat) (hk : k ≤ n) : ∀ (j : Nat) (D : Nat → Int), (∀ i, i < n → 0 ≤ D i ∧ D i < gi S 0) → PrC S C T k j (fS S T D n).toNat →
    ∃ E : Nat → Int, (∀ i, i < n → 0 ≤ E i ∧ E i < gi S 0) ∧ inL C (fS S T E n).toNat = true ∧ (∀ i, k ≤ i → E i = D i) ∧ df D E k ≤ j := by
  have hq := q_eq hP
  have hq2 := qN_bd hP
  induction k with
  | zero => intro j D hD h; exact ⟨D, hD, h, fun i _ => rfl, Nat.zero_le _⟩
  | succ k ih =>
    intro j D hD h
    rcases h with h | ⟨j', rfl, w, hw, h, i, hi, hu⟩
    · obtain ⟨E, h1, h2, h3, h4⟩ := ih (by omega) j D hD h
      exact ⟨E, h1, h2, fun i hi => h3 i (by omega), by rw [df, if_pos (h3 k (Nat.le_refl _)).symm]; exact h4⟩
    · obtain ⟨d0, d1⟩ := hD k (by omega)
      obtain ⟨b, hb⟩ : ∃ b : Nat, D k = (b : Int) := ⟨(D k).toNat, by omega⟩
      have hbq : b < qN S + 1 := by omega
      obtain ⟨a, ha⟩ : ∃ a : Nat, a = if i + 1 ≤ b then b - (i + 1) else b + (qN S + 1) - (i + 1) := ⟨_, rfl⟩
      have hc := hT k (by omega)
      have h0 := wd_0 hP.sp
      have haq : a < qN S + 1 := by rw [ha]; split <;> omega
      have hz : itW S (gi T k) 0 b = sumW S (itW S (gi T k) 0 a) (mulW S (gi T k) i) := by
        rw [← it_mul hP.sp hc, ← it_sum hP.sp (itW_wd hP.sp _ h0 a), it_add]
        by_cases e : i + 1 ≤ b
        · rw [ha, if_pos e, show b - (i + 1) + (i + 1) = b by omega]
        · rw [ha, if_neg e, show b + (qN S + 1) - (i + 1) + (i + 1) = (qN S + 1) + b by omega, ← it_add, it_q0 hP hc]
      have hone : fS S T D n = sumW S (fS S T (fun x => if x = k then (a : Int) else D x) n) (mulW S (gi T k) i) :=
        fS_one hP.sp (k := k) (by simp only [if_true, Int.toNat_natCast, hb]; exact hz) (fun x hx => by simp [hx]) n (by omega)
      have hwd := fS_wd hP.sp T (fun x => if x = k then (a : Int) else D x) n
      have hD0 := fS_wd hP.sp T D n
      have hs := wd_sum hP.sp (w : Int) (mulW S (gi T k) i)
      have hww : Wd S (w : Int) := ⟨by omega, by omega⟩
      have e1 : sumW S (fS S T (fun x => if x = k then (a : Int) else D x) n) (mulW S (gi T k) i) = sumW S (w : Int) (mulW S (gi T k) i) := by
        rw [← hone]
        have := hD0.1
        have := hs.1
        omega
      have e2 := sumW_inj hP.sp hwd hww e1
      obtain ⟨E, h1, h2, h3, h4⟩ := ih (by omega) j' (fun x => if x = k then (a : Int) else D x) (fun x hx => by
        by_cases e : x = k
        · simp only [e, if_true]; omega
        · simp only [e, if_false]; exact hD x hx) (by rw [e2, Int.toNat_natCast]; exact h)
      refine ⟨E, h1, h2, fun x hx => by have := h3 x (by omega); rw [this]; simp [show x ≠ k by omega], ?_⟩
      rw [df, df_congr k (D' := fun x => if x = k then (a : Int) else D x) (E' := E) (fun x hx => by simp [show x ≠ k by omega]) (fun _ _ => rfl)]
      split <;> omega

theorem PrC_le {S C T : List Int} (k : Nat) {j j' : Nat} (h : j ≤ j') {u : Nat} (hp : PrC S C T k j u) : PrC S C T k j' u := by
  induction j' with
  | zero => obtain rfl : j = 0 := by omega
            exact hp
  | succ j' ih =>
    by_cases e : j = j' + 1
    · subst e; exact hp
    · exact PrC_mono _ _ _ (ih (by omega))
theorem dist_df (n Q : Nat) (u x : Int) : dist (plS n (Q : Int)) u x = (df (dig (plS n (Q : Int)) u) (dig (plS n (Q : Int)) x) n : Int) := by
  unfold dist; rw [plS_len, df_cnt]
/-- covered within r: reached within r steps -/
theorem cv_iff {S C T : List Int} (hP : Pl S) (hT : ∀ i, i < T.length → Wd S (gi T i)) {Q : Nat} (hQ : gi S 0 = (Q : Int)) (hX : Sp (plS T.length (Q : Int))) {v : Int} (hv : Wd (plS T.length (Q : Int)) v) (r : Nat) :
    (∃ c, c ∈ selL (ccB S C T) (nW (plS T.length (Q : Int))).toNat ∧ dist (plS T.length (Q : Int)) v c ≤ (r : Int)) ↔ PrC S C T T.length r (fS S T (dig (plS T.length (Q : Int)) v) T.length).toNat := by
  have hlen := plS_len T.length (Q : Int)
  have hbd : ∀ x : Int, ∀ i, i < T.length → 0 ≤ dig (plS T.length (Q : Int)) x i ∧ dig (plS T.length (Q : Int)) x i < gi S 0 := fun x i hi => by
    have := dig_bd (plS T.length (Q : Int)) x hX.bd i (by rw [hlen]; exact hi)
    rw [gi_plS _ _ _ hi] at this
    rw [hQ]; exact this
  constructor
  · rintro ⟨c, hc, hd⟩
    obtain ⟨i, hi, hp, rfl⟩ := (mem_selL _ _ _).1 hc
    rw [dist_df] at hd
    have hp2 : inL C (fS S T (dig (plS T.length (Q : Int)) (i : Int)) T.length).toNat = true := by
      have h : ccB S C T i = true := hp
      unfold ccB at h
      rw [hQ, F_fS] at h; exact h
    have h := cvA hP hT (Nat.le_refl _) (hbd v) (hbd (i : Int)) hp2 T.length (Nat.le_refl _)
    rw [fS_congr S T T.length (E := dig (plS T.length (Q : Int)) v) (fun j hj => by simp [hj])] at h
    exact PrC_le _ (by omega) h
  · intro h
    obtain ⟨E, h1, h2, h3, h4⟩ := cvB hP hT (Nat.le_refl _) T.length (Nat.le_refl _) r _ (hbd v) h
    have hgl : ∀ i, i < T.length → gi ((List.range T.length).map E) i = E i := fun i hi => by rw [gi_lt _ _ (by simpa using hi)]; simp
    have hb : ∀ i, i < (plS T.length (Q : Int)).length → 0 ≤ gi ((List.range T.length).map E) i ∧ gi ((List.range T.length).map E) i < gi (plS T.length (Q : Int)) i := fun i hi => by
      rw [hlen] at hi
      rw [hgl i hi, gi_plS _ _ _ hi, ← hQ]; exact h1 i hi
    have hdg := digs_word hX (by simp [hlen]) hb
    obtain ⟨w0, w1⟩ := wordTo_bd (plS T.length (Q : Int)) ((List.range T.length).map E) (plS T.length (Q : Int)).length hX.bd hb
    obtain ⟨c, hc⟩ : ∃ c, c = wordTo (plS T.length (Q : Int)) ((List.range T.length).map E) (plS T.length (Q : Int)).length := ⟨_, rfl⟩
    rw [← hc] at hdg w0 w1
    have hdc : ∀ i, i < T.length → dig (plS T.length (Q : Int)) c i = E i := fun i hi => by rw [← gi_digs _ _ _ (by rw [hlen]; exact hi), hdg, hgl i hi]
    have w2 : c < nW (plS T.length (Q : Int)) := w1
    refine ⟨c, (mem_selL _ _ _).2 ⟨c.toNat, by omega, ?_, by omega⟩, ?_⟩
    · show inL C (csF S T (gi S 0) T.length ((c.toNat : Nat) : Int)).toNat = true
      rw [Int.toNat_of_nonneg w0, hQ, F_fS, fS_congr S T T.length hdc]; exact h2
    · rw [dist_df, df_congr T.length (D' := dig (plS T.length (Q : Int)) v) (E' := E) (fun _ _ => rfl) hdc]
      omega
theorem dig_it {S : List Int} (hS : Sp S) (c u : Int) (d i : Nat) (hi : i < S.length) : dig S (itW S c u d) i = (dig S u i + (d : Int) * dig S c i) % gi S i := by
  induction d with
  | zero =>
    have h := dig_bd S u hS.bd i hi
    rw [itW]; simp only [Int.natCast_zero, Int.zero_mul, Int.add_zero]
    exact (Int.emod_eq_of_lt h.1 h.2).symm
  | succ d ih =>
    rw [itW, dig_sum hS _ _ i hi, ih, Int.emod_add_emod, Int.natCast_add, Int.add_mul, Int.natCast_one, Int.one_mul, Int.add_assoc]
/-- the digits of a leading word -/
theorem dig_ld {S : List Int} (hP : Pl S) {k : Nat} (hk : k < S.length) (i : Nat) (hi : i < S.length) : dig S (ldW S (k + 1)) i = if i = k then 1 else 0 := by
  have hU : ∀ i, i < S.length → gi ((List.range S.length).map fun i => if i = k then (1 : Int) else 0) i = if i = k then 1 else 0 := fun i hi => by rw [gi_lt _ _ (by simpa using hi)]; simp
  have h0 : ∀ j, j ≤ k → wordTo S ((List.range S.length).map fun i => if i = k then (1 : Int) else 0) j = 0 := fun j => by
    induction j with
    | zero => intro _; rfl
    | succ j ih => intro hj; rw [wordTo, ih (by omega), hU j (by omega), if_neg (by omega)]; simp
  have h1 : ∀ t, k + 1 + t ≤ S.length → wordTo S ((List.range S.length).map fun i => if i = k then (1 : Int) else 0) (k + 1 + t) = prodTo S t := fun t => by
    induction t with
    | zero => intro _; rw [Nat.add_zero, wordTo, h0 k (Nat.le_refl _), hU k hk, if_pos rfl]; simp [prodTo]
    | succ t ih =>
      intro ht
      rw [show k + 1 + (t + 1) = (k + 1 + t) + 1 by omega, wordTo, ih (by omega), hU _ (by omega), if_neg (by omega), prodTo, hP.same (k + 1 + t) (by omega), hP.same t (by omega)]
      simp
  have h2 := h1 (S.length - (k + 1)) (by omega)
  rw [show k + 1 + (S.length - (k + 1)) = S.length by omega, ← ldW_eq hP (k + 1) (by omega)] at h2
  have hd := digs_word hP.sp (D := (List.range S.length).map fun i => if i = k then (1 : Int) else 0) (by simp) (fun i hi => by
    rw [hU i hi]
    have := hP.sp.bd i hi
    split <;> omega)
  rw [h2] at hd
  rw [← gi_digs _ _ _ hi, hd, hU i hi]
/-- the leading columns alone: the word itself -/
theorem fS_lead {S T : List Int} (hP : Pl S) (hl : ∀ k, k < S.length → gi T k = ldW S (k + 1)) {D : Nat → Int} (hD : ∀ i, i < S.length → 0 ≤ D i ∧ D i < gi S i) (k : Nat) (hk : k ≤ S.length) (i : Nat) (hi : i < S.length) :
    dig S (fS S T D k) i = if i < k then D i else 0 := by
  induction k with
  | zero =>
    rw [fS, if_neg (by omega)]
    exact dig_0 S i
  | succ k ih =>
    rw [fS, dig_it hP.sp _ _ _ i hi, ih (by omega), hl k (by omega), dig_ld hP (by omega) i hi]
    obtain ⟨d0, d1⟩ := hD k (by omega)
    obtain ⟨e0, e1⟩ := hD i hi
    have hg := hP.sp.bd i hi
    by_cases h1 : i < k
    · rw [if_pos h1, if_neg (by omega), if_pos (by omega), Int.mul_zero, Int.add_zero]; exact Int.emod_eq_of_lt e0 e1
    · by_cases h2 : i = k
      · subst h2
        rw [if_neg h1, if_pos rfl, if_pos (by omega), Int.mul_one, Int.zero_add, Int.toNat_of_nonneg d0]; exact Int.emod_eq_of_lt d0 d1
      · rw [if_neg h1, if_neg h2, if_neg (by omega)]; simp

theorem S_pl {S : List Int} (hP : Pl S) {Q : Nat} (hQ : gi S 0 = (Q : Int)) : S = plS S.length (Q : Int) :=
  ext_gi (by rw [plS_len]) fun i hi => by rw [gi_plS _ _ _ hi, hP.same i hi, hQ]
theorem wd_ext {S : List Int} (hS : Sp S) {u v : Int} (hu : Wd S u) (hv : Wd S v) (h : ∀ i, i < S.length → dig S u i = dig S v i) : u = v := by
  have e : digs S u = digs S v := ext_gi (by rw [digs_length, digs_length]) fun i hi => by
    rw [digs_length] at hi
    rw [gi_digs _ _ _ hi, gi_digs _ _ _ hi]; exact h i hi
  have h1 := wordTo_digs S u hS hu.1 hu.2
  have h2 := wordTo_digs S v hS hv.1 hv.2
  rw [← h1, ← h2, e]
theorem cs_lead {S T : List Int} (hP : Pl S) {Q : Nat} (hQ : gi S 0 = (Q : Int)) (hl : ∀ k, k < S.length → gi T k = ldW S (k + 1)) {v : Int} (hv : Wd S v) : csF S T (Q : Int) S.length v = v := by
  rw [F_fS, ← S_pl hP hQ]
  refine wd_ext hP.sp (fS_wd hP.sp T _ _) hv fun i hi => ?_
  rw [fS_lead hP hl (fun i hi => dig_bd S v hP.sp.bd i hi) S.length (Nat.le_refl _) i hi, if_pos hi]

/- Sums of natural numbers. -/
def sN (f : Nat → Nat) : Nat → Nat
  | 0 => 0
  | n + 1 => sN f n + f n
theorem sN_congr {f g : Nat → Nat} (n : Nat) (h : ∀ i, i < n → f i = g i) : sN f n = sN g n := by
  induction n with
  | zero => rfl
  | succ n ih => rw [sN, sN, ih (fun i hi => h i (by omega)), h n (by omega)]
theorem sN_const (c n : Nat) : sN (fun _ => c) n = n * c := by
  induction n with
  | zero => simp [sN]
  | succ n ih => rw [sN, ih, Nat.add_mul, Nat.one_mul]
theorem sN_add (f : Nat → Nat) (a b : Nat) : sN f (a + b) = sN f a + sN (fun i => f (a + i)) b := by
  induction b with
  | zero => rfl
  | succ b ih => rw [← Nat.add_assoc, sN, sN, ih, Nat.add_assoc]
theorem sN_sum (f g : Nat → Nat) (n : Nat) : sN (fun i => f i + g i) n = sN f n + sN g n := by
  induction n with
  | zero => rfl
  | succ n ih => rw [sN, sN, sN, ih]; omega
theorem sN_mul (f : Nat → Nat) (K Q : Nat) : sN f (K * Q) = sN (fun i => sN (fun d => f (i * Q + d)) Q) K := by
  induction K with
  | zero => simp [sN]
  | succ K ih => rw [Nat.add_mul, Nat.one_mul, sN_add, ih, sN]
theorem sN_swap (f : Nat → Nat → Nat) (K Q : Nat) : sN (fun i => sN (f i) Q) K = sN (fun d => sN (fun i => f i d) K) Q := by
  induction K with
  | zero => rw [sN, sN_congr (f := fun d => sN (fun i => f i d) 0) Q (g := fun _ => 0) (fun d _ => rfl), sN_const]; omega
  | succ K ih =>
    rw [sN, ih, ← sN_sum]; rfl
theorem sN_one {u N : Nat} (h : u < N) : sN (fun v => if v = u then 1 else 0) N = 1 := by
  induction N with
  | zero => omega
  | succ N ih =>
    rw [sN]
    by_cases e : N = u
    · subst e
      rw [if_pos rfl, sN_congr N (g := fun _ => 0) (fun i hi => by rw [if_neg (by omega)]), sN_const]; omega
    · rw [if_neg e, ih (by omega)]
theorem sN_pos {f : Nat → Nat} {N : Nat} (h : 0 < sN f N) : ∃ v, v < N ∧ 0 < f v := by
  induction N with
  | zero => simp [sN] at h
  | succ N ih =>
    rw [sN] at h
    by_cases e : 0 < f N
    · exact ⟨N, by omega, e⟩
    · obtain ⟨v, h1, h2⟩ := ih (by omega)
      exact ⟨v, by omega, h2⟩
theorem selL_sN (p : Nat → Bool) (n : Nat) : (selL p n).length = sN (fun v => if p v = true then 1 else 0) n := by
  unfold selL
  rw [List.length_map]
  induction n with
  | zero => rfl
  | succ n ih =>
    rw [List.range_succ, List.filter_append, List.length_append, ih, sN]
    by_cases e : p n = true <;> simp [e]
/-- how many of the first words of k places have the sum u -/
def fib (S T : List Int) (Q k : Nat) (u : Int) : Nat := sN (fun v => if csF S T (Q : Int) k (v : Int) = u then 1 else 0) (Q ^ k)
theorem cs_in (S T : List Int) (Q k i d : Nat) (hd : d < Q) : csF S T (Q : Int) (k + 1) ((i * Q + d : Nat) : Int) = itW S (gi T k) (csF S T (Q : Int) k (i : Int)) d := by
  have e1 : ((i * Q + d : Nat) : Int) / (Q : Int) = (i : Int) := by
    have : (i * Q + d) / Q = i := by
      rw [Nat.mul_comm, Nat.mul_add_div (by omega)]
      rw [Nat.div_eq_of_lt hd]; rfl
    exact_mod_cast this
  have e2 : ((i * Q + d : Nat) : Int) % (Q : Int) = (d : Int) := by
    have : (i * Q + d) % Q = d := by
      rw [Nat.mul_comm, Nat.mul_add_mod]; exact Nat.mod_eq_of_lt hd
    exact_mod_cast this
  rw [csF, e1, e2, Int.toNat_natCast]
theorem fib_step {S T : List Int} (hP : Pl S) {Q : Nat} (hQ : gi S 0 = (Q : Int)) {k : Nat} (hT : Wd S (gi T k)) {u : Int} (hu : Wd S u) : fib S T Q (k + 1) u = sN (fun d => fib S T Q k (itW S (gi T k) u (Q - d))) Q := by
  have hq : Q = qN S + 1 := by rw [← q_eq hP, hQ]; rfl
  unfold fib
  rw [Nat.pow_succ, sN_mul, sN_swap]
  refine sN_congr _ fun d hd => sN_congr _ fun i hi => ?_
  rw [cs_in _ _ _ _ _ _ hd]
  have hw := csF_wd hP.sp T (Q : Int) k (i : Int)
  by_cases e : csF S T (Q : Int) k (i : Int) = itW S (gi T k) u (Q - d)
  · rw [if_pos e, if_pos (by rw [e, it_add, show Q - d + d = qN S + 1 by omega]; exact it_q hP hT hu)]
  · rw [if_neg e, if_neg (fun h => e (by rw [← h, it_add, show d + (Q - d) = qN S + 1 by omega, it_q hP hT hw]))]
theorem fib_all {S T : List Int} (hP : Pl S) {Q : Nat} (hQ : gi S 0 = (Q : Int)) (hl : ∀ k, k < S.length → gi T k = ldW S (k + 1)) (hT : ∀ i, i < T.length → Wd S (gi T i)) (j : Nat) (hj : S.length + j ≤ T.length) : ∀ {u : Int}, Wd S u → fib S T Q (S.length + j) u = Q ^ j := by
  have hN : nW S = ((Q ^ S.length : Nat) : Int) := by
    have := plS_nW S.length Q
    rw [← S_pl hP hQ] at this; exact this
  induction j with
  | zero =>
    intro u hu
    obtain ⟨x, rfl⟩ : ∃ x : Nat, u = (x : Int) := ⟨u.toNat, by have := hu.1; omega⟩
    have hx : x < Q ^ S.length := by have := hu.2; omega
    unfold fib
    rw [Nat.add_zero, sN_congr _ (g := fun v => if v = x then 1 else 0) (fun v hv => by
      rw [cs_lead hP hQ hl ⟨by omega, by omega⟩]
      by_cases e : v = x
      · rw [if_pos e, if_pos (by omega)]
      · rw [if_neg e, if_neg (by omega)]), sN_one hx]
    rfl
  | succ j ih =>
    intro u hu
    rw [← Nat.add_assoc, fib_step hP hQ (hT _ (by omega)) hu, sN_congr _ (g := fun _ => Q ^ j) (fun d hd => ih (by omega) (itW_wd hP.sp _ hu _)), sN_const, Nat.pow_succ, Nat.mul_comm]
theorem cnt_list {S T : List Int} (hP : Pl S) {Q : Nat} (hQ : gi S 0 = (Q : Int)) (hl : ∀ k, k < S.length → gi T k = ldW S (k + 1)) (hT : ∀ i, i < T.length → Wd S (gi T i)) {j : Nat} (hj : S.length + j = T.length) : ∀ (L : List Int), L.Nodup → (∀ c, c ∈ L → Wd S c) →
    sN (fun v => if inL L (csF S T (Q : Int) T.length (v : Int)).toNat = true then 1 else 0) (Q ^ T.length) = L.length * Q ^ j
  | [], _, _ => by
    rw [sN_congr _ (g := fun _ => 0) (fun v _ => by simp [inL]), sN_const]; simp
  | c :: L, hn, hw => by
    obtain ⟨n1, n2⟩ := List.nodup_cons.1 hn
    have ih := cnt_list hP hQ hl hT hj L n2 (fun x hx => hw x (List.mem_cons_of_mem _ hx))
    have hf := fib_all hP hQ hl hT j (by omega) (hw c (List.mem_cons_self ..))
    unfold fib at hf
    rw [hj] at hf
    rw [sN_congr _ (g := fun v => (if csF S T (Q : Int) T.length (v : Int) = c then 1 else 0) + (if inL L (csF S T (Q : Int) T.length (v : Int)).toNat = true then 1 else 0)) (fun v _ => by
      have h0 := (csF_wd hP.sp T (Q : Int) T.length (v : Int)).1
      unfold inL
      rw [Int.toNat_of_nonneg h0]
      by_cases e : csF S T (Q : Int) T.length (v : Int) = c
      · rw [e]; simp [n1]
      · by_cases e2 : csF S T (Q : Int) T.length (v : Int) ∈ L
        · simp [e, e2]
        · simp [e, e2]), sN_sum, hf, ih, List.length_cons, Nat.add_mul, Nat.one_mul, Nat.add_comm]

/- What the law asks. -/
theorem selL_all {p : Nat → Bool} {n : Nat} : (selL p n).length = n ↔ ∀ u, u < n → p u = true := by
  unfold selL
  rw [List.length_map]
  induction n with
  | zero => simp
  | succ n ih =>
    have hle := List.length_filter_le p (List.range n)
    rw [List.length_range] at hle
    rw [List.range_succ, List.filter_append, List.length_append]
    constructor
    · intro h u hu
      have hs : (List.filter p [n]).length ≤ [n].length := List.length_filter_le p [n]
      have h1 : (List.filter p (List.range n)).length = n := by rw [List.length_singleton] at hs; omega
      have h2 : (List.filter p [n]).length = 1 := by omega
      by_cases e : u = n
      · subst e
        cases hp : p u with
        | true => rfl
        | false => simp [hp] at h2
      · exact ih.1 h1 u (by omega)
    · intro h
      rw [ih.2 fun u hu => h u (by omega)]
      simp [h n (by omega)]
theorem selL_none {p : Nat → Bool} {n : Nat} : (selL p n).length = 0 ↔ ∀ u, u < n → p u = false := by
  constructor
  · intro h u hu
    cases e : p u with
    | false => rfl
    | true =>
      have : ((u : Nat) : Int) ∈ selL p n := (mem_selL _ _ _).2 ⟨u, hu, e, rfl⟩
      rw [List.eq_nil_of_length_eq_zero h] at this
      simp at this
  · intro h
    unfold selL
    rw [List.length_map, List.filter_eq_nil_iff.2 (fun a ha => by rw [h a (List.mem_range.1 ha)]; simp)]; rfl
theorem eCs_any {S C T : List Int} {m r : Int} (h : eCs S C T m = 0) (h0 : 0 ≤ r) (h8 : r ≤ 8) : eCs S C T r = 0 := by
  unfold eCs at h ⊢
  split at h
  · rename_i h1
    rw [if_pos h1]
    split at h
    · rename_i h2
      rw [if_pos ⟨h2.1, h2.2.1, h2.2.2.1, h0, h8⟩]; exact h
    · omega
  · omega
theorem wr_iff (S C T : List Int) (r u : Nat) : wrB S C T (r : Int) u = true ↔ PrC S C T T.length r u := by
  unfold wrB
  rw [decide_eq_true_eq]
  exact rdC_in S C T T.length r u
theorem tT_wd {S C T : List Int} {m : Int} (h : eCs S C T m = 0) : ∀ i, i < T.length → Wd S (gi T i) := fun i hi => by
  have hw := (eCs_zero h).2.2.1
  exact (eWords_zero hw).2 i hi
/-- the words reached within one step more hold those reached, and these hold the set -/
theorem bk_more {S C T : List Int} {m : Int} (h : eCs S C T m = 0) (hm : m < 8) :
    eCs S C T (m + 1) = 0 ∧ (vWr S C T m).length ≤ (vWr S C T (m + 1)).length ∧ (∀ x, x ∈ vWr S C T m → x ∈ vWr S C T (m + 1)) ∧ ∀ x, x ∈ C → x ∈ vWr S C T m := by
  obtain ⟨hP, hc, _, _, m0, m8⟩ := eCs_zero h
  have h1 := eCs_any h (show 0 ≤ m + 1 by omega) (show m + 1 ≤ 8 by omega)
  obtain ⟨k, rfl⟩ : ∃ k : Nat, m = (k : Int) := ⟨m.toNat, by omega⟩
  have hmem : ∀ x, x ∈ vWr S C T (k : Int) → x ∈ vWr S C T ((k : Int) + 1) := fun x hx => by
    unfold vWr at hx ⊢
    rw [if_pos h] at hx
    rw [if_pos h1]
    obtain ⟨u, hu, hp, rfl⟩ := (mem_selL _ _ _).1 hx
    refine (mem_selL _ _ _).2 ⟨u, hu, ?_, rfl⟩
    have e := PrC_mono _ _ _ ((wr_iff S C T k u).1 hp)
    have := (wr_iff S C T (k + 1) u).2 e
    rwa [show (((k + 1 : Nat)) : Int) = (k : Int) + 1 by omega] at this
  refine ⟨h1, nd_len (by unfold vWr; rw [if_pos h]; exact asc_nd (asc_selL _ _)) hmem, hmem, fun x hx => ?_⟩
  obtain ⟨i, hi, rfl⟩ := mem_gi hx
  have hb := (eCode_zero hc).2.1 i hi
  unfold vWr
  rw [if_pos h]
  refine (mem_selL _ _ _).2 ⟨(gi C i).toNat, by omega, (wr_iff S C T k _).2 ?_, by omega⟩
  have h0 : ∀ n, PrC S C T n 0 (gi C i).toNat := fun n => by
    induction n with
    | zero => show inL C (gi C i).toNat = true
              unfold inL; rw [decide_eq_true_eq, Int.toNat_of_nonneg hb.1]; exact hx
    | succ n ih => exact .inl ih
  exact PrC_le _ (Nat.zero_le _) (h0 _)
/-- the code by columns: how many words it has, and what it covers -/
theorem bk_all {S C T : List Int} (h : eCc S C T = 0) :
    eSp S = 0 ∧ eSp (vCcS S C T) = 0 ∧ (1 ≤ vCount S ∧ vCount S ≤ 1024) ∧ (1 ≤ vCount (vCcS S C T) ∧ vCount (vCcS S C T) ≤ 1024) ∧ ((vCcC S C T).length : Int) * vCount S = (C.length : Int) * vCount (vCcS S C T) ∧
      ∀ r : Int, 0 ≤ r → r ≤ 8 → eCs S C T r = 0 ∧ eCov (vCcS S C T) (vCcC S C T) r = 0 ∧ vCovS (vCcS S C T) (vCcC S C T) r = (((vWr S C T r).length : Int) == vCount S) := by
  obtain ⟨hcs, hlb, hX⟩ := eCc_zero h
  obtain ⟨hP, hc, _, hT8, _, _⟩ := eCs_zero hcs
  obtain ⟨hlen, hlead⟩ := (ldB_iff S T).1 hlb
  have hT := tT_wd hcs
  have eS : vCcS S C T = plS T.length (gi S 0) := by unfold vCcS; rw [if_pos h]
  have eC : vCcC S C T = selL (ccB S C T) (nW (plS T.length (gi S 0))).toNat := by unfold vCcC; rw [if_pos h]
  obtain ⟨Q, hQ⟩ : ∃ Q : Nat, gi S 0 = (Q : Int) := ⟨(gi S 0).toNat, by have := hP.q; omega⟩
  rw [hQ] at eS eC hX
  have hN := nW_bd hP.sp
  have hM := nW_bd hX
  have cS : vCount S = nW S := by unfold vCount; rw [if_pos ((isSp_iff S).2 hP.sp)]
  have cX : vCount (plS T.length (Q : Int)) = nW (plS T.length (Q : Int)) := by unfold vCount; rw [if_pos ((isSp_iff _).2 hX)]
  have eQ : nW S = ((Q ^ S.length : Nat) : Int) := by
    have := plS_nW S.length Q
    rw [← S_pl hP hQ] at this; exact this
  have eM := plS_nW T.length Q
  have hcod : eCode (plS T.length (Q : Int)) (selL (ccB S C T) (nW (plS T.length (Q : Int))).toNat) = 0 := by
    refine eCode_ok ((isSp_iff _).2 hX) ((codeB_iff _ _).2 ⟨fun i hi => ?_, fun i h0 hi => ?_⟩)
    · obtain ⟨x, hx, _, e⟩ := (mem_selL _ _ _).1 (gi_mem hi)
      omega
    · exact asc_lt (asc_selL _ _) (by omega) hi
  rw [eS, eC, cS, cX]
  refine ⟨by unfold eSp; rw [if_pos ((isSp_iff S).2 hP.sp)], by unfold eSp; rw [if_pos ((isSp_iff _).2 hX)], hN, hM, ?_, fun r r0 r8 => ?_⟩
  · have hcl := cnt_list hP hQ hlead hT (j := T.length - S.length) (by omega) C (code_nd hc) (fun c hcm => by
      obtain ⟨i, hi, rfl⟩ := mem_gi hcm
      exact (eCode_zero hc).2.1 i hi)
    have hl : (selL (ccB S C T) (nW (plS T.length (Q : Int))).toNat).length = C.length * Q ^ (T.length - S.length) := by
      rw [selL_sN, eM, Int.toNat_natCast, ← hcl]
      refine sN_congr _ fun v _ => ?_
      unfold ccB
      rw [hQ]
    rw [hl, eQ, eM]
    have : C.length * Q ^ (T.length - S.length) * Q ^ S.length = C.length * Q ^ T.length := by rw [Nat.mul_assoc, ← Nat.pow_add, show T.length - S.length + S.length = T.length by omega]
    exact_mod_cast this
  · obtain ⟨k, rfl⟩ : ∃ k : Nat, r = (k : Int) := ⟨r.toNat, by omega⟩
    have h1 := eCs_any hcs r0 r8
    have h2 : eCov (plS T.length (Q : Int)) (selL (ccB S C T) (nW (plS T.length (Q : Int))).toNat) (k : Int) = 0 := by unfold eCov; rw [if_pos hcod, if_pos ⟨r0, r8⟩]
    refine ⟨h1, h2, ?_⟩
    have key : (∀ v, v < (nW (plS T.length (Q : Int))).toNat → uncP (plS T.length (Q : Int)) (selL (ccB S C T) (nW (plS T.length (Q : Int))).toNat) (k : Int) v = false) ↔ ∀ u, u < (nW S).toNat → wrB S C T (k : Int) u = true := by
      have hcv := fun (v : Nat) (hv : v < (nW (plS T.length (Q : Int))).toNat) => cv_iff (C := C) hP hT hQ hX (v := (v : Int)) ⟨by omega, by omega⟩ k
      have hun : ∀ v, v < (nW (plS T.length (Q : Int))).toNat → (uncP (plS T.length (Q : Int)) (selL (ccB S C T) (nW (plS T.length (Q : Int))).toNat) (k : Int) v = false ↔ wrB S C T (k : Int) (csF S T (Q : Int) T.length (v : Int)).toNat = true) := fun v hv => by
        rw [uncP_in, wr_iff, F_fS, ← hcv v hv]
        simp
      constructor
      · intro hall u hu
        have hw : Wd S (u : Int) := ⟨by omega, by omega⟩
        have hf := fib_all hP hQ hlead hT (T.length - S.length) (by omega) hw
        rw [show S.length + (T.length - S.length) = T.length by omega] at hf
        have hQ0 : 0 < Q := by have := hP.q; omega
        have hpos : 0 < fib S T Q T.length (u : Int) := by rw [hf]; exact Nat.pow_pos hQ0
        obtain ⟨v, hv, hvv⟩ := sN_pos hpos
        have e : csF S T (Q : Int) T.length (v : Int) = (u : Int) := by
          by_cases e : csF S T (Q : Int) T.length (v : Int) = (u : Int)
          · exact e
          · rw [if_neg e] at hvv; omega
        have hv2 : v < (nW (plS T.length (Q : Int))).toNat := by rw [eM]; exact hv
        have := (hun v hv2).1 (hall v hv2)
        rwa [e, Int.toNat_natCast] at this
      · intro hall v hv
        have hw := csF_wd hP.sp T (Q : Int) T.length (v : Int)
        exact (hun v hv).2 (hall _ (by have := hw.1; have := hw.2; omega))
    unfold vCovS vWr
    rw [if_pos h2, if_pos h1]
    have e1 : (decide ((selL (uncP (plS T.length (Q : Int)) (selL (ccB S C T) (nW (plS T.length (Q : Int))).toNat) (k : Int)) (nW (plS T.length (Q : Int))).toNat).length = 0) = true) ↔ (((selL (wrB S C T (k : Int)) (nW S).toNat).length : Int) == nW S) = true := by
      rw [decide_eq_true_eq, selL_none, key, ← selL_all, beq_iff_eq]
      omega
    cases hb : (((selL (wrB S C T (k : Int)) (nW S).toNat).length : Int) == nW S) with
    | true => exact e1.2 hb
    | false =>
      rw [hb] at e1
      cases hd : decide ((selL (uncP (plS T.length (Q : Int)) (selL (ccB S C T) (nW (plS T.length (Q : Int))).toNat) (k : Int)) (nW (plS T.length (Q : Int))).toNat).length = 0) with
      | false => rfl
      | true => exact absurd (e1.1 hd) (by simp)

end Cv
end Go.Proofs.Ytamebfbddoeflaa
