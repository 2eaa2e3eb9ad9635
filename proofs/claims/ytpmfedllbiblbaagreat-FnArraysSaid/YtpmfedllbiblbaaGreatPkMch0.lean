/-
  Choices of places with digits, plain: lists of places, lists of digits, how many choices there are. By an AI agent.
-/
import Derived.Test.YtpmfedllbiblbaaGreatPkMathB
namespace Go.Proofs.YtpmfedllbiblbaaGreat
set_option linter.unusedVariables false
set_option linter.unusedSimpArgs false
namespace Cv

theorem flatMap_same {α β : Type} {L : List α} {f g : α → List β} (h : ∀ a, a ∈ L → f a = g a) : L.flatMap f = L.flatMap g := by
  induction L with
  | nil => rfl
  | cons a L ih => rw [List.flatMap_cons, List.flatMap_cons, h a (by simp), ih fun b hb => h b (by simp [hb])]
/-- the ascending lists of t places from a place on, as the model makes them -/
def plM (n : Nat) : Nat → Nat → List (List Int)
  | _, 0 => [[]]
  | f, t + 1 => (List.range (n - f)).flatMap fun i => (plM n (f + i + 1) t).map fun l => ((f + i : Nat) : Int) :: l
theorem plM_len (n : Nat) (t : Nat) : ∀ f l, l ∈ plM n f t → l.length = t ∧ ∀ x, x ∈ l → (f : Int) ≤ x ∧ x < n := by
  induction t with
  | zero => intro f l h; simp [plM] at h; subst h; simp
  | succ t ih =>
    intro f l h
    simp only [plM, List.mem_flatMap, List.mem_range, List.mem_map] at h
    obtain ⟨i, hi, l', hl', rfl⟩ := h
    obtain ⟨h1, h2⟩ := ih _ _ hl'
    refine ⟨by simp [h1], fun x hx => ?_⟩
    rcases List.mem_cons.1 hx with rfl | hx
    · omega
    · have := h2 x hx; omega
/-- the places that may follow a list -/
def okE (l : List Int) (j : Nat) : Bool := l.isEmpty || decide (gi l (l.length - 1) < j)
/-- a list with each place below k that may follow -/
def extTo (l : List Int) (k : Nat) : List (List Int) := ((List.range k).filter (okE l)).map fun (j : Nat) => l ++ [(j : Int)]
theorem extTo_succ (l : List Int) (k : Nat) : extTo l (k + 1) = extTo l k ++ if okE l k = true then [l ++ [(k : Int)]] else [] := by
  unfold extTo
  rw [List.range_succ, List.filter_append, List.map_append]
  congr 1
  by_cases h : okE l k = true <;> simp [h]
def extF (n f : Nat) (l : List Int) : List (List Int) := ((List.range n).filter fun j => decide (f ≤ j) && okE l j).map fun (j : Nat) => l ++ [(j : Int)]
theorem filt_from (n f : Nat) : (List.range n).filter (fun j => decide (f ≤ j)) = (List.range (n - f)).map fun i => f + i := by
  induction n with
  | zero => simp
  | succ n ih =>
    rw [List.range_succ, List.filter_append, ih]
    by_cases h : f ≤ n
    · rw [show n + 1 - f = n - f + 1 from by omega, List.range_succ, List.map_append]
      simp [h]
    · rw [show n + 1 - f = n - f from by omega]
      simp [h]
theorem ext_cons (n f i : Nat) (l : List Int) (hl : ∀ x, x ∈ l → ((f + i + 1 : Nat) : Int) ≤ x) : extF n f (((f + i : Nat) : Int) :: l) = (extF n (f + i + 1) l).map fun m => ((f + i : Nat) : Int) :: m := by
  unfold extF
  rw [List.map_map]
  have hp : ∀ j : Nat, (decide (f ≤ j) && okE (((f + i : Nat) : Int) :: l) j) = (decide (f + i + 1 ≤ j) && okE l j) := by
    intro j
    cases l with
    | nil =>
      simp only [okE, List.isEmpty_cons, List.isEmpty_nil, Bool.false_or, Bool.true_or, Bool.and_true, List.length_cons, List.length_nil]
      have e : gi [((f + i : Nat) : Int)] (0 + 1 - 1) = ((f + i : Nat) : Int) := rfl
      simp only [e]
      rw [← Bool.decide_and]
      exact decide_eq_decide.2 (by omega)
    | cons a l =>
      have e : gi (((f + i : Nat) : Int) :: a :: l) ((((f + i : Nat) : Int) :: a :: l).length - 1) = gi (a :: l) ((a :: l).length - 1) := by simp [gi]
      have hm : gi (a :: l) ((a :: l).length - 1) ∈ a :: l := by rw [gi_lt _ _ (by simp)]; exact List.getElem_mem _
      have := hl _ hm
      unfold okE
      simp only [e, List.isEmpty_cons, Bool.false_or]
      rw [← Bool.decide_and, ← Bool.decide_and]
      exact decide_eq_decide.2 (by omega)
  rw [List.filter_congr (fun j _ => hp j)]
  rfl
theorem plM_ext (n : Nat) (t : Nat) : ∀ f, (plM n f t).flatMap (extF n f) = plM n f (t + 1) := by
  induction t with
  | zero =>
    intro f
    simp only [plM, List.flatMap_cons, List.flatMap_nil, List.append_nil, List.map_cons, List.map_nil]
    unfold extF
    rw [show (fun j => decide (f ≤ j) && okE [] j) = fun j => decide (f ≤ j) from by funext j; simp [okE], filt_from, List.map_map]
    induction (List.range (n - f)) with
    | nil => rfl
    | cons a L ih => rw [List.map_cons, List.flatMap_cons, ← ih]; rfl
  | succ t ih =>
    intro f
    rw [plM, plM, List.flatMap_assoc]
    refine flatMap_same fun i hi => ?_
    rw [← ih, List.map_flatMap, List.flatMap_map]
    refine flatMap_same fun l hl => ?_
    exact ext_cons n f i l fun x hx => ((plM_len n t _ _ hl).2 x hx).1
/-- the lists of t places, as the program makes them -/
def plP (n : Nat) : Nat → List (List Int)
  | 0 => [[]]
  | t + 1 => (plP n t).flatMap fun l => extTo l n
theorem plP_eq (n t : Nat) : plP n t = plM n 0 t := by
  induction t with
  | zero => rfl
  | succ t ih =>
    rw [plP, ih, ← plM_ext]
    refine flatMap_same fun l _ => ?_
    unfold extF extTo
    simp

/-- the sizes at some places -/
def szP (S P : List Int) : List Int := P.map fun i => gi S i.toNat
theorem szP_len (S P : List Int) : (szP S P).length = P.length := by simp [szP]
theorem gi_szP (S P : List Int) (i : Nat) (h : i < P.length) : gi (szP S P) i = gi S (gi P i).toNat := by simp [szP, gi, h]
/-- all lists of digits of the first k places -/
def dgTo (Q : List Int) : Nat → List (List Int)
  | 0 => [[]]
  | k + 1 => (dgTo Q k).flatMap fun l => (List.range (gi Q k).toNat).map fun (d : Nat) => l ++ [(d : Int)]
theorem dgTo_len (Q : List Int) (k : Nat) : ∀ l, l ∈ dgTo Q k → l.length = k := by
  induction k with
  | zero => intro l h; simp [dgTo] at h; subst h; rfl
  | succ k ih =>
    intro l h
    simp only [dgTo, List.mem_flatMap, List.mem_map] at h
    obtain ⟨l', hl', d, _, rfl⟩ := h
    simp [ih _ hl']
theorem range_mul (N q : Nat) {α : Type} (f : Nat → α) : (List.range (N * q)).map f = (List.range N).flatMap fun a => (List.range q).map fun d => f (a * q + d) := by
  induction N with
  | zero => simp
  | succ N ih =>
    rw [show (N + 1) * q = N * q + q from Nat.succ_mul N q, List.range_add, List.map_append, ih, List.range_succ, List.flatMap_append, List.map_map]
    simp [Function.comp_def]
theorem quoTop_take (Q : List Int) (k : Nat) (hk : k < Q.length) (w : Int) (j : Nat) (hj : j ≤ k) : quoTop (Q.take (k + 1)) w (j + 1) = quoTop (Q.take k) (w / gi Q k) j := by
  induction j with
  | zero =>
    simp only [quoTop]
    rw [show (Q.take (k + 1)).length - 1 - 0 = k from by simp; omega, gi_take _ _ _ (by omega)]
  | succ j ih =>
    rw [quoTop, ih (by omega), quoTop]
    rw [show (Q.take (k + 1)).length - 1 - (j + 1) = k - 1 - j from by simp; omega, show (Q.take k).length - 1 - j = k - 1 - j from by simp; omega, gi_take _ _ _ (by omega), gi_take _ _ _ (by omega)]
theorem digs_snoc (Q : List Int) (k : Nat) (hk : k < Q.length) (w : Int) : digs (Q.take (k + 1)) w = digs (Q.take k) (w / gi Q k) ++ [w % gi Q k] := by
  refine ext_gi (by simp [digs_length]; omega) fun i hi => ?_
  rw [digs_length] at hi
  have hi' : i < k + 1 := by simp at hi; omega
  rw [gi_digs _ _ _ hi]
  have hl : (digs (Q.take k) (w / gi Q k)).length = k := by simp [digs_length]; omega
  by_cases e : i = k
  · subst e
    rw [gi_append_ge _ _ _ (by omega), hl, Nat.sub_self]
    unfold dig
    rw [show (Q.take (i + 1)).length - 1 - i = 0 from by simp; omega, gi_take _ _ _ (by omega)]
    rfl
  · rw [gi_append_lt _ _ _ (by omega), gi_digs _ _ _ (by simp; omega)]
    unfold dig
    rw [show (Q.take (k + 1)).length - 1 - i = (k - 1 - i) + 1 from by simp; omega, quoTop_take Q k hk w _ (by omega), show (Q.take k).length - 1 - i = k - 1 - i from by simp; omega, gi_take _ _ _ (by omega), gi_take _ _ _ (by omega)]
theorem dgTo_digs (Q : List Int) (hQ : ∀ i, i < Q.length → 2 ≤ gi Q i ∧ gi Q i ≤ 4) (k : Nat) (hk : k ≤ Q.length) : dgTo Q k = (List.range (prodTo Q k).toNat).map fun (w : Nat) => digs (Q.take k) (w : Int) := by
  induction k with
  | zero => simp [dgTo, prodTo, digs]
  | succ k ih =>
    obtain ⟨q1, q2⟩ := hQ k (by omega)
    obtain ⟨p1, _⟩ := prodTo_bd Q k fun i hi => hQ i (by omega)
    have e : (prodTo Q (k + 1)).toNat = (prodTo Q k).toNat * (gi Q k).toNat := by
      rw [prodTo, Int.toNat_mul (by omega) (by omega)]
    rw [dgTo, ih (by omega), e, range_mul, List.flatMap_map]
    refine flatMap_same fun a _ => List.map_congr_left fun d hd => ?_
    have hd : d < (gi Q k).toNat := by simpa using hd
    rw [digs_snoc Q k (by omega)]
    have e1 : (((a * (gi Q k).toNat + d : Nat) : Int)) = (a : Int) * gi Q k + (d : Int) := by
      push_cast
      rw [Int.toNat_of_nonneg (by omega)]
    have e2 : ((a * (gi Q k).toNat + d : Nat) : Int) / gi Q k = (a : Int) := by
      rw [e1, Int.add_comm, Int.add_mul_ediv_right _ _ (by omega), Int.ediv_eq_zero_of_lt (by omega) (by omega)]; omega
    have e3 : ((a * (gi Q k).toNat + d : Nat) : Int) % gi Q k = (d : Int) := by
      rw [e1, Int.add_comm, Int.add_mul_emod_self_right, Int.emod_eq_of_lt (by omega) (by omega)]
    rw [e2, e3]

/-- all choices of t places -/
def allC (S : List Int) (t : Nat) : List (List Int) := (plM S.length 0 t).flatMap fun P => (dgTo (szP S P) t).map fun D => P ++ D
theorem allC_len2 (S : List Int) (t : Nat) : ∀ c, c ∈ allC S t → c.length = 2 * t := by
  intro c h
  simp only [allC, List.mem_flatMap, List.mem_map] at h
  obtain ⟨P, hP, D, hD, rfl⟩ := h
  have := (plM_len _ _ _ _ hP).1
  have := dgTo_len _ _ _ hD
  simp; omega

/-- sums of the products of t of the sizes -/
def es : List Int → Nat → Int
  | _, 0 => 1
  | [], _ + 1 => 0
  | q :: Q, t + 1 => q * es Q t + es Q (t + 1)
theorem es_0 (Q : List Int) : es Q 0 = 1 := by cases Q <;> rfl
theorem dg_count (Q : List Int) (hQ : ∀ i, i < Q.length → 2 ≤ gi Q i ∧ gi Q i ≤ 4) (k : Nat) (hk : k ≤ Q.length) : ((dgTo Q k).length : Int) = prodTo Q k := by
  rw [dgTo_digs Q hQ k hk]
  have := (prodTo_bd Q k fun i hi => hQ i (by omega)).1
  simp; omega
def sumL (L : List Int) : Int := L.foldr (· + ·) 0
theorem sumL_app (L M : List Int) : sumL (L ++ M) = sumL L + sumL M := by
  induction L with
  | nil => simp [sumL]
  | cons a L ih => simp only [sumL, List.cons_append, List.foldr_cons] at *; omega
theorem sumL_mul (q : Int) (L : List Int) : sumL (L.map fun x => q * x) = q * sumL L := by
  induction L with
  | nil => simp [sumL]
  | cons a L ih => simp only [sumL, List.map_cons, List.foldr_cons] at *; rw [ih, Int.mul_add]
theorem prodTo_cons (q : Int) (Q : List Int) (k : Nat) : prodTo (q :: Q) (k + 1) = q * prodTo Q k := by
  induction k with
  | zero => simp [prodTo, gi]
  | succ k ih => rw [prodTo, ih, prodTo]; simp [gi, Int.mul_assoc]
/-- the choices' number, by the lists of places -/
theorem es_pl (S : List Int) (t : Nat) : ∀ f, f ≤ S.length → sumL ((plM S.length f t).map fun P => prodTo (szP S P) t) = es (S.drop f) t := by
  suffices H : ∀ d f, S.length - f = d → f ≤ S.length → sumL ((plM S.length f t).map fun P => prodTo (szP S P) t) = es (S.drop f) t from fun f hf => H _ f rfl hf
  induction t with
  | zero => intro d f _ _; simp [plM, es_0, sumL, prodTo]
  | succ t ih =>
    intro d
    induction d with
    | zero =>
      intro f hd hf
      have : S.length - f = 0 := hd
      rw [plM, this, List.drop_eq_nil_of_le (by omega)]
      simp [sumL, es]
    | succ d ihd =>
      intro f hd hf
      have hf' : f < S.length := by omega
      have e : plM S.length f (t + 1) = ((plM S.length (f + 1) t).map fun l => ((f : Nat) : Int) :: l) ++ plM S.length (f + 1) (t + 1) := by
        rw [plM, plM, show S.length - f = (S.length - (f + 1)) + 1 from by omega, List.range_succ_eq_map, List.flatMap_cons, List.flatMap_map]
        congr 1
        refine flatMap_same fun i _ => ?_
        rw [show f + (i + 1) = f + 1 + i from by omega]
      rw [e, List.map_append, sumL_app, ihd (f + 1) (by omega) (by omega), List.map_map]
      have e2 : S.drop f = gi S f :: S.drop (f + 1) := by rw [List.drop_eq_getElem_cons hf', gi_lt S f hf']
      rw [e2, es, ← ih _ (f + 1) rfl (by omega), ← sumL_mul, List.map_map]
      congr 2
      refine List.map_congr_left fun l _ => ?_
      show prodTo (szP S (((f : Nat) : Int) :: l)) (t + 1) = gi S f * prodTo (szP S l) t
      rw [show szP S (((f : Nat) : Int) :: l) = gi S f :: szP S l from by simp [szP], prodTo_cons]
theorem fm_len {α β : Type} (L : List α) (f : α → List β) : ((L.flatMap f).length : Int) = sumL (L.map fun a => ((f a).length : Int)) := by
  induction L with
  | nil => simp [sumL]
  | cons a L ih => rw [List.flatMap_cons, List.length_append, List.map_cons]; simp only [sumL, List.foldr_cons] at *; omega
theorem szP_bd {S : List Int} (hS : Sp S) {t : Nat} {P : List Int} (hP : P ∈ plM S.length 0 t) : (szP S P).length = t ∧ ∀ i, i < (szP S P).length → 2 ≤ gi (szP S P) i ∧ gi (szP S P) i ≤ 4 := by
  obtain ⟨h1, h2⟩ := plM_len _ _ _ _ hP
  refine ⟨by rw [szP_len, h1], fun i hi => ?_⟩
  rw [szP_len] at hi
  rw [gi_szP _ _ _ hi]
  have := h2 (gi P i) (by rw [gi_lt _ _ hi]; exact List.getElem_mem _)
  exact hS.bd _ (by omega)
theorem allC_es {S : List Int} (hS : Sp S) (t : Nat) : ((allC S t).length : Int) = es S t := by
  have h := es_pl S t 0 (by omega)
  rw [List.drop_zero] at h
  rw [← h, allC, fm_len]
  congr 1
  refine List.map_congr_left fun P hP => ?_
  obtain ⟨h1, h2⟩ := szP_bd hS hP
  rw [List.length_map, dg_count _ h2 _ (by omega)]

/-- no space of at most m more places has too many choices -/
def esOk : Nat → Int → Int → Int → Int → Bool
  | 0, _, a, b, c => decide (a ≤ 832) && decide (b ≤ 832) && decide (c ≤ 832)
  | m + 1, p, a, b, c => decide (a ≤ 832) && decide (b ≤ 832) && decide (c ≤ 832) && (decide (1024 < p * 2) || esOk m (p * 2) (a + 2) (b + 2 * a) (c + 2 * b)) && (decide (1024 < p * 3) || esOk m (p * 3) (a + 3) (b + 3 * a) (c + 3 * b)) && (decide (1024 < p * 4) || esOk m (p * 4) (a + 4) (b + 4 * a) (c + 4 * b))
theorem esOk_8 : esOk 8 1 0 0 0 = true := by decide +kernel
theorem esOk_all (m : Nat) : ∀ (p a b c : Int) (Q : List Int), 1 ≤ p → esOk m p a b c = true → Q.length ≤ m → (∀ i, i < Q.length → 2 ≤ gi Q i ∧ gi Q i ≤ 4) → p * prodTo Q Q.length ≤ 1024 →
    a + es Q 1 ≤ 832 ∧ b + a * es Q 1 + es Q 2 ≤ 832 ∧ c + b * es Q 1 + a * es Q 2 + es Q 3 ≤ 832 := by
  induction m with
  | zero =>
    intro p a b c Q hp h hl hQ hN
    have : Q = [] := List.eq_nil_of_length_eq_zero (by omega)
    subst this
    simp [esOk] at h
    simp [es]
    omega
  | succ m ih =>
    intro p a b c Q hp h hl hQ hN
    simp only [esOk, Bool.and_eq_true, decide_eq_true_eq, Bool.or_eq_true] at h
    cases Q with
    | nil => simp [es]; omega
    | cons q Q =>
      have hq := hQ 0 (by simp)
      rw [show gi (q :: Q) 0 = q from rfl] at hq
      have hQ' : ∀ i, i < Q.length → 2 ≤ gi Q i ∧ gi Q i ≤ 4 := fun i hi => by
        have := hQ (i + 1) (by simp; omega)
        simpa [gi] using this
      rw [List.length_cons, prodTo_cons, ← Int.mul_assoc] at hN
      have hpr := (prodTo_bd Q Q.length hQ').1
      have hpq : p * q ≤ 1024 := by
        have : 0 ≤ p * q := Int.mul_nonneg (by omega) (by omega)
        have := Int.mul_le_mul_of_nonneg_left hpr this
        omega
      have key : esOk m (p * q) (a + q) (b + q * a) (c + q * b) = true := by
        have : q = 2 ∨ q = 3 ∨ q = 4 := by omega
        rcases this with rfl | rfl | rfl
        · rcases h.1.1.2 with h | h
          · omega
          · exact h
        · rcases h.1.2 with h | h
          · omega
          · exact h
        · rcases h.2 with h | h
          · omega
          · exact h
      have hl' : Q.length ≤ m := by simpa using hl
      have hp' : 1 ≤ p * q := by
        have := Int.mul_le_mul_of_nonneg_left (show (1 : Int) ≤ q by omega) (show (0 : Int) ≤ p by omega)
        omega
      obtain ⟨r1, r2, r3⟩ := ih (p * q) _ _ _ Q hp' key hl' hQ' hN
      have e1 : es (q :: Q) 1 = q + es Q 1 := by show q * es Q 0 + es Q 1 = _; rw [es_0, Int.mul_one]
      have e2 : es (q :: Q) 2 = q * es Q 1 + es Q 2 := rfl
      have e3 : es (q :: Q) 3 = q * es Q 2 + es Q 3 := rfl
      rw [e1, e2, e3]
      have g2 : b + a * (q + es Q 1) + (q * es Q 1 + es Q 2) = b + q * a + (a + q) * es Q 1 + es Q 2 := by
        rw [Int.mul_add, Int.add_mul, Int.mul_comm a q]; omega
      have g3 : c + b * (q + es Q 1) + a * (q * es Q 1 + es Q 2) + (q * es Q 2 + es Q 3) = c + q * b + (b + q * a) * es Q 1 + (a + q) * es Q 2 + es Q 3 := by
        rw [Int.mul_add, Int.mul_add, Int.add_mul, Int.add_mul, Int.mul_comm b q, ← Int.mul_assoc, Int.mul_comm a q]; omega
      exact ⟨by omega, by rw [g2]; exact r2, by rw [g3]; exact r3⟩
theorem allC_le {S : List Int} (hS : Sp S) {t : Nat} (h1 : 1 ≤ t) (h3 : t ≤ 3) : (allC S t).length ≤ 832 := by
  have h := esOk_all 8 1 0 0 0 S (by omega) esOk_8 hS.hi hS.bd (by rw [Int.one_mul]; exact hS.pr)
  have e := allC_es hS t
  have : t = 1 ∨ t = 2 ∨ t = 3 := by omega
  rcases this with rfl | rfl | rfl <;> omega

end Cv
end Go.Proofs.YtpmfedllbiblbaaGreat
