/-
  Texts put together: Grm10, Mis10. By an AI agent.
-/
import Derived.Test.YtpmfedllbiblbaaGreatPk37
import Derived.Test.YtpmfedllbiblbaaGreatPkChoA
import Derived.Test.YtpmfedllbiblbaaGreatPkRow10
namespace Go.Proofs.YtpmfedllbiblbaaGreat
open Go.RowKit Cv
set_option linter.unusedVariables false
set_option linter.unusedSimpArgs false

theorem plM_pw (n t : Nat) : ∀ f l, l ∈ plM n f t → l.Pairwise (· < ·) := by
  induction t with
  | zero => intro f l h; simp [plM] at h; subst h; exact List.Pairwise.nil
  | succ t ih =>
    intro f l h
    simp only [plM, List.mem_flatMap, List.mem_range, List.mem_map] at h
    obtain ⟨i, hi, l', hl', rfl⟩ := h
    refine List.Pairwise.cons (fun x hx => ?_) (ih _ _ hl')
    have := ((plM_len n t _ _ hl').2 x hx).1
    omega
theorem dgTo_bd (Q : List Int) (k : Nat) : ∀ l, l ∈ dgTo Q k → ∀ j, j < k → 0 ≤ gi l j ∧ gi l j < gi Q j := by
  induction k with
  | zero => intro l h j hj; omega
  | succ k ih =>
    intro l h j hj
    simp only [dgTo, List.mem_flatMap, List.mem_map, List.mem_range] at h
    obtain ⟨l', hl', d, hd, rfl⟩ := h
    have hlen := dgTo_len Q k l' hl'
    by_cases e : j = k
    · subst e
      rw [gi_append_ge _ _ _ (by omega), hlen, Nat.sub_self, show gi [(d : Int)] 0 = (d : Int) from rfl]
      omega
    · rw [gi_append_lt _ _ _ (by omega)]
      exact ih l' hl' j (by omega)
/-- the digit that a choice gives a place -/
def dgAt (P D : List Int) (i : Int) : Nat → Int
  | 0 => 0
  | k + 1 => if gi P k = i then gi D k else dgAt P D i k
theorem dgAt_at (P D : List Int) (hP : P.Pairwise (· < ·)) (t : Nat) (ht : t ≤ P.length) (j : Nat) (hj : j < t) : dgAt P D (gi P j) t = gi D j := by
  induction t with
  | zero => omega
  | succ t ih =>
    rw [dgAt]
    by_cases e : j = t
    · subst e; rw [if_pos rfl]
    · have hlt : gi P j < gi P t := by
        rw [gi_lt P j (by omega), gi_lt P t (by omega)]
        exact List.pairwise_iff_getElem.1 hP j t (by omega) (by omega) (by omega)
      rw [if_neg (by omega)]
      exact ih (by omega) (by omega)
theorem dgAt_bd (P D : List Int) (q i : Int) (hq : 0 < q) (t : Nat) (h : ∀ j, j < t → gi P j = i → 0 ≤ gi D j ∧ gi D j < q) : 0 ≤ dgAt P D i t ∧ dgAt P D i t < q := by
  induction t with
  | zero => exact ⟨Int.le_refl _, hq⟩
  | succ t ih =>
    rw [dgAt]
    by_cases e : gi P t = i
    · rw [if_pos e]; exact h t (by omega) e
    · rw [if_neg e]; exact ih fun j hj => h j (by omega)
theorem hcTo_all {D c : List Int} {t : Nat} (n : Nat) (h : ∀ k, k < n → gi D (gi c k).toNat = gi c (t + k)) : hcTo D c t n = true := by
  induction n with
  | zero => rfl
  | succ n ih => rw [hcTo, ih fun k hk => h k (by omega), h n (by omega)]; simp
/-- each choice is in some word -/
theorem allC_in {S : List Int} (hS : Sp S) {t : Nat} {c : List Int} (hc : c ∈ allC S t) : ∃ x : Int, 0 ≤ x ∧ x < nW S ∧ hasC (digs S x) c = true := by
  have hl2 := allC_len2 S t c hc
  simp only [allC, List.mem_flatMap, List.mem_map] at hc
  obtain ⟨P, hP, D, hD, rfl⟩ := hc
  obtain ⟨p1, p2⟩ := plM_len _ _ _ _ hP
  have pw := plM_pw _ _ _ _ hP
  have d1 := dgTo_len _ _ _ hD
  have d2 := dgTo_bd _ _ _ hD
  have gP : ∀ j, j < t → 0 ≤ gi P j ∧ gi P j < S.length := fun j hj => by
    have := p2 (gi P j) (by rw [gi_lt _ _ (by omega)]; exact List.getElem_mem _)
    omega
  obtain ⟨W, hW⟩ : ∃ W, W = (List.range S.length).map fun (i : Nat) => dgAt P D (i : Int) t := ⟨_, rfl⟩
  have wl : W.length = S.length := by simp [hW]
  have wg : ∀ i, i < S.length → gi W i = dgAt P D (i : Int) t := fun i hi => by rw [hW]; simp [gi, hi]
  have wb : ∀ i, i < S.length → 0 ≤ gi W i ∧ gi W i < gi S i := fun i hi => by
    rw [wg i hi]
    have s := hS.bd i hi
    refine dgAt_bd P D _ _ (by omega) t fun j hj e => ?_
    have := d2 j hj
    rw [gi_szP _ _ _ (by omega), e, Int.toNat_natCast] at this
    exact this
  obtain ⟨a, b⟩ := wordTo_bd S W S.length hS.bd wb
  refine ⟨wordTo S W S.length, a, b, ?_⟩
  rw [digs_word hS wl wb]
  have ht : (P ++ D).length / 2 = t := by rw [hl2]; omega
  unfold hasC
  rw [ht]
  refine hcTo_all t fun k hk => ?_
  obtain ⟨g1, g2⟩ := gP k hk
  rw [gi_append_lt _ _ _ (by omega), gi_append_ge _ _ _ (by omega), p1, Nat.add_sub_cancel_left, wg _ (by omega), Int.toNat_of_nonneg g1]
  exact dgAt_at P D pw t (by omega) k hk

/-- whether one of the rows has the choice -/
def anyG (S L c : List Int) : Bool := L.any fun x => hasC (digs S x) c
theorem anyG_snoc (S L c : List Int) (x : Int) : anyG S (L ++ [x]) c = (anyG S L c || hasC (digs S x) c) := by simp [anyG]
theorem union_chG (S : List Int) (C : List (List Int)) (L : List Int) (u : Nat) : unionL (chSets S C L) u = (decide (u < C.length) && anyG S L (rr C u)) := by
  induction L with
  | nil => simp [unionL, chSets, anyG]
  | cons x L ih =>
    unfold unionL chSets anyG at ih ⊢
    rw [List.map_cons, List.any_cons, List.any_cons, ih, chP]
    cases decide (u < C.length) <;> simp
theorem cntTo_filterG (C : List (List Int)) (f : List Int → Bool) (N : Nat) (hN : C.length ≤ N) : (C.filter f).length = cntTo (fun u => decide (u < C.length) && f (rr C u)) N := by
  have h1 : ∀ n, n ≤ C.length → ((C.take n).filter f).length = cntTo (fun u => decide (u < C.length) && f (rr C u)) n := fun n hn => by
    induction n with
    | zero => simp [cntTo]
    | succ n ih =>
      rw [take_rr C n (by omega), List.filter_append, List.length_append, ih (by omega), cntTo]
      congr 1
      cases h : f (rr C n) <;> simp [h, show n < C.length by omega]
  have h2 : ∀ m, cntTo (fun u => decide (u < C.length) && f (rr C u)) (C.length + m) = cntTo (fun u => decide (u < C.length) && f (rr C u)) C.length := fun m => by
    induction m with
    | zero => rfl
    | succ m ih => rw [← Nat.add_assoc, cntTo, ih]; simp [show ¬ C.length + m < C.length by omega]
  have h3 := h1 C.length (Nat.le_refl _)
  rw [List.take_length] at h3
  rw [h3, ← h2 (N - C.length), Nat.add_sub_cancel' hN]
theorem cntTo_ext {p q : Nat → Bool} (h : ∀ u, p u = q u) (n : Nat) : cntTo p n = cntTo q n := by rw [show p = q from funext h]
theorem mbI_ext {k : Nat} {f g : Nat → Nat} (h : ∀ j, j < k → f j = g j) : mbI f k = mbI g k := (gn_congr h).1

/-- what the rounds have together -/
def cvG (S : List Int) (C : List (List Int)) (O : List Int) : Nat → Bool := fun u => decide (u < C.length) && anyG S O (rr C u)
/-- the sets of all words -/
def psG (S : List Int) (C : List (List Int)) (N : Nat) : List (Nat → Bool) := chSets S C (upto N)
theorem psG_len (S : List Int) (C : List (List Int)) (N : Nat) : (psG S C N).length = N := by unfold psG; rw [chSets_len, upto_len]
theorem psG_bd (S : List Int) (C : List (List Int)) (N : Nat) (hC : C.length ≤ 1024) : ∀ p, p ∈ psG S C N → ∀ u, p u = true → u < 1024 := by
  intro p hp u hu
  simp only [psG, chSets, List.mem_map] at hp
  obtain ⟨x, _, rfl⟩ := hp
  simp only [chP, Bool.and_eq_true, decide_eq_true_eq] at hu
  omega
theorem psG_at (S : List Int) (C : List (List Int)) (N j : Nat) (hj : j < N) : pAt (psG S C N) j = chP (digs S (j : Int)) C C.length := by
  unfold psG
  rw [pAt_chSets _ _ _ _ (by rw [upto_len]; exact hj), gi_upto _ _ hj]
/-- all choices together -/
theorem unG {S : List Int} (hS : Sp S) {t N : Nat} (hN : nW S = (N : Int)) (u : Nat) : unionL (psG S (allC S t) N) u = decide (u < (allC S t).length) := by
  unfold psG
  rw [union_chG]
  by_cases h : u < (allC S t).length
  · have hm : rr (allC S t) u ∈ allC S t := rr_mem h
    obtain ⟨x, x0, x1, hx⟩ := allC_in hS hm
    have : anyG S (upto N) (rr (allC S t) u) = true := by
      refine List.any_eq_true.2 ⟨x, ?_, hx⟩
      rw [hN] at x1
      simp only [upto, List.mem_map, List.mem_range]
      exact ⟨x.toNat, by omega, by omega⟩
    rw [this]; simp [h]
  · simp [h]

/-- what holds between two rounds: the rows so far, the choices left -/
structure RiG (S : List Int) (C : List (List Int)) (N : Nat) (O : List Int) (L : List (List Int)) : Prop where
  g : GnI (pAt (psG S C N)) N (unionL (psG S C N)) (cvG S C O) O
  l : L = C.filter fun c => !anyG S O c
/-- how many of the choices left a word has -/
def hkG (S : List Int) (L : List (List Int)) (j : Nat) : Nat := (L.filter fun c => hasC (digs S (j : Int)) c).length
theorem cvG_nil (S : List Int) (C : List (List Int)) : cvG S C [] = fun _ => false := by funext u; simp [cvG, anyG]
theorem riG_0 (S : List Int) (C : List (List Int)) (N : Nat) : RiG S C N [] C := ⟨by rw [cvG_nil]; exact gni_0 _ _ _, by symm; exact List.filter_eq_self.2 fun _ _ => rfl⟩
theorem riG_eqS {S : List Int} (hS : Sp S) {t N : Nat} (hN : nW S = (N : Int)) (hC : (allC S t).length ≤ 1024) {O : List Int} {L : List (List Int)} (h : RiG S (allC S t) N O L) : eqS (cvG S (allC S t) O) (unionL (psG S (allC S t) N)) = true ↔ L = [] := by
  rw [eqS_iff, h.l, List.filter_eq_nil_iff]
  constructor
  · intro g c hc
    obtain ⟨u, hu, rfl⟩ := List.getElem_of_mem hc
    have := g u (by omega)
    rw [unG hS hN] at this
    have er : rr (allC S t) u = (allC S t)[u] := by simp [rr, List.getD, List.getElem?_eq_getElem hu]
    simp only [cvG, er, hu, decide_true, Bool.true_and] at this
    simp [this]
  · intro g u hu
    rw [unG hS hN]
    unfold cvG
    by_cases e : u < (allC S t).length
    · have := g _ (rr_mem e)
      simp only [Bool.not_eq_true', Bool.not_eq_false] at this
      simp only [e, decide_true, Bool.true_and]
      simpa using this
    · simp [e]
theorem riG_done {S : List Int} (hS : Sp S) {t N : Nat} (hN : nW S = (N : Int)) (hC : (allC S t).length ≤ 1024) {O : List Int} (h : RiG S (allC S t) N O []) : O = upL (psG S (allC S t) N) N := gni_done h.g ((riG_eqS hS hN hC h).2 rfl)
theorem riG_gF {S : List Int} {C : List (List Int)} (hC : C.length ≤ 1024) {N : Nat} {O : List Int} {L : List (List Int)} (h : RiG S C N O L) (j : Nat) (hj : j < N) : gF (pAt (psG S C N)) (cvG S C O) j = hkG S L j := by
  unfold gF hkG
  rw [h.l, List.filter_filter, cntTo_filterG C _ 1024 hC]
  refine cntTo_ext (fun u => ?_) _
  rw [psG_at S C N j hj]
  unfold byd chP cvG
  cases decide (u < C.length) <;> simp
theorem riG_step {S : List Int} (hS : Sp S) {t N : Nat} (hN : nW S = (N : Int)) (hC : (allC S t).length ≤ 1024) {O : List Int} {L : List (List Int)} (h : RiG S (allC S t) N O L) (hne : L ≠ []) : mbI (hkG S L) N < N ∧ O.length + 1 ≤ (upL (psG S (allC S t) N) N).length ∧ RiG S (allC S t) N (O ++ [((mbI (hkG S L) N : Nat) : Int)]) (L.filter fun c => !hasC (digs S ((mbI (hkG S L) N : Nat) : Int)) c) := by
  have he : eqS (cvG S (allC S t) O) (unionL (psG S (allC S t) N)) = false := by
    rw [← Bool.not_eq_true]; exact fun e => hne ((riG_eqS hS hN hC h).1 e)
  have hcv := cvr_union (psG S (allC S t) N) N (psG_len _ _ _).symm (psG_bd _ _ _ hC)
  obtain ⟨s1, s2, s3⟩ := gni_step hcv h.g he
  have eW : gnW (pAt (psG S (allC S t) N)) N (cvG S (allC S t) O) = mbI (hkG S L) N := mbI_ext fun j hj => riG_gF hC h j hj
  rw [eW] at s1 s3
  have eC : gnC (pAt (psG S (allC S t) N)) N (cvG S (allC S t) O) = cvG S (allC S t) (O ++ [((mbI (hkG S L) N : Nat) : Int)]) := by
    funext u
    unfold gnC
    rw [eW, psG_at _ _ _ _ s1]
    unfold cvG chP
    rw [anyG_snoc]
    cases decide (u < (allC S t).length) <;> simp
  rw [eC] at s3
  refine ⟨s1, ?_, s3, ?_⟩
  · have := gni_len s3
    rw [List.length_append] at this
    exact this
  · rw [h.l, List.filter_filter]
    congr 1
    funext c
    rw [anyG_snoc, Bool.not_or, Bool.and_comm]

theorem eR10_nilG (S : List Int) (t : Int) : eR10 S [] t = eC10 S t := by
  rcases h' : isSp S with _ | _
  · rw [eR10_inv h', eC10_inv h']
  · exact eR10_ok h' ⟨(okW_iff S [] _).2 (fun i hi => by simp at hi), by simp⟩
/-- the greedy rows and their error -/
def vGu (S : List Int) (t : Int) : List Int := if eC10 S t = 0 then upV (psG S (allC S t.toNat) (nW S).toNat) (nW S).toNat 200 else []
def eGu (S : List Int) (t : Int) : Int := if eC10 S t = 0 then upE (psG S (allC S t.toNat) (nW S).toNat) (nW S).toNat 200 else eC10 S t
theorem vGu_len (S : List Int) (t : Int) : (vGu S t).length ≤ 1024 := by
  unfold vGu upV
  split
  · split
    · omega
    · simp
  · simp
end Go.Proofs.YtpmfedllbiblbaaGreat

namespace Go.Proofs.YtpmfedllbiblbaaGreat
open Go.RowKit Cv
set_option linter.unusedVariables false
set_option linter.unusedSimpArgs false
set_option maxRecDepth 100000

theorem ret_i2 {a b c d : Int} (h1 : a = b) (h2 : c = d) : Ending.returned (.tuple #[.int .i64 a, .int .i64 c]) = .returned (.tuple #[.int .i64 b, .int .i64 d]) := by rw [h1, h2]
/-- the choices of t places that rows lack -/
def mL (S R : List Int) (t : Nat) : List (List Int) := msTo S (allC S t) R R.length
def vCc (S : List Int) (t : Int) : Int := if eC10 S t = 0 then ((allC S t.toNat).length : Nat) else 0
def vCm (S R : List Int) (t : Int) : Int := if eR10 S R t = 0 then ((mL S R t.toNat).length : Nat) else 0
def vMi (S R : List Int) (t : Int) : List (List Int) := if eR10 S R t = 0 then mL S R t.toNat else []
/-- the greatest number of places up to t for which rows lack nothing -/
def stTo (S R : List Int) : Nat → Nat
  | 0 => 0
  | t + 1 => if mL S R (t + 1) = [] then t + 1 else stTo S R t
def vSt (S R : List Int) : Int := if eR10 S R 1 = 0 then (stTo S R (min 3 S.length) : Nat) else 0
theorem rd_nil10 (w : World) (lo hi : Nat) : RdRws w lo hi (.slice none 0 0) [] := ⟨[], rfl, World.ownsRow_nil _ _ _ _, fun k hk => by simp [Value.ownBlock] at hk, fun i hi => by simp at hi⟩
theorem mL_len {S : List Int} (hS : Sp S) (R : List Int) {t : Nat} (h1 : 0 < t) (h3 : t ≤ 3) : (mL S R t).length ≤ 832 := Nat.le_trans (msTo_sub _ _ _ _).1 (allC_le hS h1 h3)

set_option maxHeartbeats 2000000 in
theorem spec_CountChoices (ao : Option Addr) (S : List Int) (cap : Nat) (hn : S.length ≤ 4294967296) (t : Int) (ht : -9223372036854775808 ≤ t ∧ t ≤ 9223372036854775807) (w : World) (hS : Ints w ao S) :
    Calls Tryz.prog 21 #[.agg #[.slice ao S.length cap], .int .i64 t] w fun e w' => e = .returned (.tuple #[.int .i64 (vCc S t), .int .i64 (eC10 S t)]) ∧ Below w.heap.size w w' := by
  have B0 : Below w.heap.size w (w.alloc (.cells #[.slice ao S.length cap] 26)) := by go_grown
  have c0 := cell_new w (.slice ao S.length cap) 26
  have l0 := lt_alloc w (.cells #[.slice ao S.length cap] 26)
  have hc := l10Code_any ao S cap hn t _ (hS.below B0)
  by_cases he : eC10 S t = 0
  case neg =>
    have HV : Hid (vCc S t = 0) := Lib.hid (by unfold vCc; rw [if_neg he])
    obtain ⟨E, hE⟩ : ∃ E, E = eC10 S t := ⟨_, rfl⟩
    rw [← hE] at hc he ⊢
    have hb : (E != 0) = true := by simpa using he
    clear hE he
    go_enter Tryz.func21, Tryz.ntmps21
    go_wp2_with fail
    refine hc.mono ?_
    rintro e w1 ⟨rfl, hb1⟩
    have B1 := B0.trans (hb1.mono B0.size)
    go_wp2_with fail
    go_ret2
    exact ⟨ret_i2 HV.out.symm rfl, B1⟩
  obtain ⟨hSp, g1, g2, g3⟩ := eC10_zero he
  have HSp := Lib.hid hSp
  have HV : Hid (vCc S t = ((allC S t.toNat).length : Nat)) := Lib.hid (by unfold vCc; rw [if_pos he])
  have HE := Lib.hid he
  rw [he] at hc
  clear he
  obtain ⟨t, rfl⟩ : ∃ n : Nat, t = n := ⟨t.toNat, by omega⟩
  rw [Int.toNat_natCast] at HV
  have ht1 : 0 < t := by omega
  have ht3 : t ≤ 3 := by omega
  go_enter Tryz.func21, Tryz.ntmps21
  go_wp2_with fail
  refine hc.mono ?_
  rintro e w1 ⟨rfl, hb1⟩
  have c1 := kept_cell hb1 c0 l0
  have B1 := B0.trans (hb1.mono B0.size)
  go_wp2_with fail
  refine (l10All_any ao S cap HSp.out t ht1 ht3 _ (hS.below B1)).mono ?_
  rintro e w2 ⟨g, c, rfl, ls, hb2⟩
  go_wp2_with fail
  go_ret2
  exact ⟨ret_i2 HV.out.symm HE.out.symm, B1.trans (hb2.mono B1.size)⟩

set_option maxHeartbeats 2000000 in
theorem spec_CountMissing (ao : Option Addr) (S : List Int) (cap : Nat) (hn : S.length ≤ 4294967296) (ar : Option Addr) (R : List Int) (capr : Nat) (hnr : R.length ≤ 4294967296) (t : Int) (ht : -9223372036854775808 ≤ t ∧ t ≤ 9223372036854775807) (w : World) (hS : Ints w ao S) (hRI : Ints w ar R) :
    Calls Tryz.prog 14 #[.agg #[.slice ao S.length cap], .slice ar R.length capr, .int .i64 t] w fun e w' => e = .returned (.tuple #[.int .i64 (vCm S R t), .int .i64 (eR10 S R t)]) ∧ Below w.heap.size w w' := by
  have B0 : Below w.heap.size w (w.alloc (.cells #[.slice ao S.length cap] 26)) := by go_grown
  have c0 := cell_new w (.slice ao S.length cap) 26
  have l0 := lt_alloc w (.cells #[.slice ao S.length cap] 26)
  have hc := l10Rows_any ao S cap hn ar R capr hnr t _ (hS.below B0) (hRI.below B0)
  by_cases he : eR10 S R t = 0
  case neg =>
    have HV : Hid (vCm S R t = 0) := Lib.hid (by unfold vCm; rw [if_neg he])
    obtain ⟨E, hE⟩ : ∃ E, E = eR10 S R t := ⟨_, rfl⟩
    rw [← hE] at hc he ⊢
    have hb : (E != 0) = true := by simpa using he
    clear hE he
    go_enter Tryz.func14, Tryz.ntmps14
    go_wp2_with fail
    refine hc.mono ?_
    rintro e w1 ⟨rfl, hb1⟩
    have B1 := B0.trans (hb1.mono B0.size)
    go_wp2_with fail
    go_ret2
    exact ⟨ret_i2 HV.out.symm rfl, B1⟩
  obtain ⟨hSp, hRb, hR2, g1, g2, g3⟩ := eR10_zero he
  have HSp := Lib.hid hSp
  have HRb := Lib.hid hRb
  have HV : Hid (vCm S R t = ((mL S R t.toNat).length : Nat)) := Lib.hid (by unfold vCm; rw [if_pos he])
  have HE := Lib.hid he
  rw [he] at hc
  clear he hRb
  obtain ⟨t, rfl⟩ : ∃ n : Nat, t = n := ⟨t.toNat, by omega⟩
  rw [Int.toNat_natCast] at HV
  have ht1 : 0 < t := by omega
  have ht3 : t ≤ 3 := by omega
  have HCl : Hid ((allC S t).length ≤ 1048576) := Lib.hid (Nat.le_trans (allC_le hSp ht1 ht3) (by omega))
  clear hSp
  go_enter Tryz.func14, Tryz.ntmps14
  go_wp2_with fail
  refine hc.mono ?_
  rintro e w1 ⟨rfl, hb1⟩
  have c1 := kept_cell hb1 c0 l0
  have l1 := lt_of_below hb1 l0
  have B1 := B0.trans (hb1.mono B0.size)
  clear hc c0 l0 B0 hb1
  go_wp2_with fail
  refine wp_region_held_drew (S := fun w' => w'.cell? ⟨w.heap.size, 0, none⟩ = some (.slice ao S.length cap)) (by kernel_rfl) (c1) (fun hHeld => ?_)
  refine wpAnyH_take (i := 0) (v := ?_) rfl (by kernel_rfl) (by kernel_rfl) (by kernel_rfl) (fun _ _ _ h => h) (Or.inl ⟨by rfl, ?_⟩) (by assumption) ?_
  rotate_left
  · (intro w hSw; obtain hSw := hSw; (try dsimp only at hSw); go_simp; try (with_reducible rfl))
  (try simp only [Act.put, List.setIfInBounds_toArray, List.set_cons_zero, List.set_cons_succ, List.getElem_toArray, List.getElem_cons_succ, List.getElem_cons_zero])
  refine wpAnyH_take (i := 1) (v := ?_) rfl (by kernel_rfl) (by kernel_rfl) (by kernel_rfl) (fun _ _ _ h => h) (Or.inl ⟨by rfl, ?_⟩) (by assumption) ?_
  rotate_left
  · (intro w hSw; obtain hSw := hSw; (try dsimp only at hSw); go_simp; try (with_reducible rfl))
  (try simp only [Act.put, List.setIfInBounds_toArray, List.set_cons_zero, List.set_cons_succ, List.getElem_toArray, List.getElem_cons_succ, List.getElem_cons_zero])
  refine wpAnyH_take (i := 2) (v := ?_) rfl (by kernel_rfl) (by kernel_rfl) (by kernel_rfl) (fun _ _ _ h => h) (Or.inl ⟨by rfl, ?_⟩) (by assumption) ?_
  rotate_left
  · (intro w hSw; obtain hSw := hSw; (try dsimp only at hSw); go_simp; try (with_reducible rfl))
  (try simp only [Act.put, List.setIfInBounds_toArray, List.set_cons_zero, List.set_cons_succ, List.getElem_toArray, List.getElem_cons_succ, List.getElem_cons_zero])
  refine wpAnyH_take (i := 4) (v := ?_) rfl (by kernel_rfl) (by kernel_rfl) (by kernel_rfl) (fun _ _ _ h => h) (Or.inl ⟨by rfl, ?_⟩) (by assumption) ?_
  rotate_left
  · (intro w hSw; obtain hSw := hSw; (try dsimp only at hSw); go_simp; try (with_reducible rfl))
  (try simp only [Act.put, List.setIfInBounds_toArray, List.set_cons_zero, List.set_cons_succ, List.getElem_toArray, List.getElem_cons_succ, List.getElem_cons_zero])
  refine wpAnyH_ready (rs := [3]) (by kernel_rfl) (by simp) ?_
  refine AllReadyH.cons rfl (fun K hK => ?_) AllReadyH.nil
  go_simp
  (go_at_call 43; refine (l10All_any ao S cap HSp.out t ht1 ht3 _ ((hS.below B1).below (Below.refl w1.heap.size w1).drew)).mono ?_)
  rintro e x1 ⟨g1, k1, rfl, ls1, hb1⟩
  have H1 : Below w1.heap.size w1 x1 := Below.trans (Below.refl w1.heap.size w1).drew (hb1.mono (Below.size (Below.refl w1.heap.size w1).drew))
  replace ls1 := ls1.rebase (lo' := w.heap.size) (Nat.le_trans B1.size (Below.size (Below.refl w1.heap.size w1).drew))
  refine hK.out _ _ (kept_cell H1 c1 l1) (fun hHeld => ?_)
  clear hK K
  (try simp only [Act.put, List.setIfInBounds_toArray, List.set_cons_zero, List.set_cons_succ, List.getElem_toArray, List.getElem_cons_succ, List.getElem_cons_zero])
  refine wpAnyH_ready (rs := [5]) (by kernel_rfl) (by simp) ?_
  refine AllReadyH.cons rfl (fun K hK => ?_) AllReadyH.nil
  go_simp
  (go_at_call 45; refine (l10Missing_any ao S cap HSp.out w.heap.size _ _ t (allC S t) ht3 HCl.out (allC_cs t) ar R capr (by omega) HRb.out _ (Nat.le_trans B1.size (Below.size H1)) ((hS.below B1).below H1) ls1 ((hRI.below B1).below H1)).mono ?_)
  rintro e x2 ⟨g2, k2, rfl, ls2, hb2⟩
  have H2 : Below w1.heap.size w1 x2 := Below.trans H1 (hb2.mono (Below.size H1))
  replace ls1 := ls1.below hb2
  refine hK.out _ _ (kept_cell H2 c1 l1) (fun hHeld => ?_)
  clear hK K
  (try simp only [Act.put, List.setIfInBounds_toArray, List.set_cons_zero, List.set_cons_succ, List.getElem_toArray, List.getElem_cons_succ, List.getElem_cons_zero])
  refine wpAnyH_take (i := 6) (v := ?_) rfl (by kernel_rfl) (by kernel_rfl) (by kernel_rfl) (fun _ _ _ h => h) (Or.inl ⟨by rfl, ?_⟩) (by assumption) ?_
  rotate_left
  · (intro w hSw; obtain hSw := hSw; (try dsimp only at hSw); go_simp; try (with_reducible rfl))
  (try simp only [Act.put, List.setIfInBounds_toArray, List.set_cons_zero, List.set_cons_succ, List.getElem_toArray, List.getElem_cons_succ, List.getElem_cons_zero])
  refine wpAnyH_take (i := 7) (v := ?_) rfl (by kernel_rfl) (by kernel_rfl) (by kernel_rfl) (fun _ _ _ h => h) (Or.inl ⟨by rfl, ?_⟩) (by assumption) ?_
  rotate_left
  · (intro w hSw; obtain hSw := hSw; (try dsimp only at hSw); go_simp; try (with_reducible rfl))
  (try simp only [Act.put, List.setIfInBounds_toArray, List.set_cons_zero, List.set_cons_succ, List.getElem_toArray, List.getElem_cons_succ, List.getElem_cons_zero])
  refine wpAnyH_take (i := 8) (v := ?_) rfl (by kernel_rfl) (by kernel_rfl) (by kernel_rfl) (fun _ _ _ h => h) (Or.inl ⟨by rfl, ?_⟩) (by assumption) ?_
  rotate_left
  · (intro w hSw; obtain hSw := hSw; (try dsimp only at hSw); go_simp; try (with_reducible rfl))
  (try simp only [Act.put, List.setIfInBounds_toArray, List.set_cons_zero, List.set_cons_succ, List.getElem_toArray, List.getElem_cons_succ, List.getElem_cons_zero])
  refine wpAnyH_done (by kernel_rfl) ?_ _
  (try simp only [Act.put, List.setIfInBounds_toArray, List.set_cons_zero, List.set_cons_succ, List.getElem_toArray, List.getElem_cons_succ, List.getElem_cons_zero])
  have Hn : Below w1.heap.size w1 x2 := H2
  go_wp2_with fail
  go_ret2
  exact ⟨ret_i2 HV.out.symm HE.out.symm, B1.trans (Hn.mono B1.size)⟩

set_option maxHeartbeats 2000000 in
theorem spec_MissingChoices (ao : Option Addr) (S : List Int) (cap : Nat) (hn : S.length ≤ 4294967296) (ar : Option Addr) (R : List Int) (capr : Nat) (hnr : R.length ≤ 4294967296) (t : Int) (ht : -9223372036854775808 ≤ t ∧ t ≤ 9223372036854775807) (w : World) (hS : Ints w ao S) (hRI : Ints w ar R) :
    Calls Tryz.prog 11 #[.agg #[.slice ao S.length cap], .slice ar R.length capr, .int .i64 t] w fun e w' => ∃ v, e = .returned (.tuple #[v, .int .i64 (eR10 S R t)]) ∧ RdRws w' w.heap.size w'.heap.size v (vMi S R t) ∧ Below w.heap.size w w' := by
  have B0 : Below w.heap.size w (w.alloc (.cells #[.slice ao S.length cap] 26)) := by go_grown
  have c0 := cell_new w (.slice ao S.length cap) 26
  have l0 := lt_alloc w (.cells #[.slice ao S.length cap] 26)
  have hc := l10Rows_any ao S cap hn ar R capr hnr t _ (hS.below B0) (hRI.below B0)
  by_cases he : eR10 S R t = 0
  case neg =>
    have HV : Hid (vMi S R t = []) := Lib.hid (by unfold vMi; rw [if_neg he])
    obtain ⟨E, hE⟩ : ∃ E, E = eR10 S R t := ⟨_, rfl⟩
    rw [← hE] at hc he ⊢
    have hb : (E != 0) = true := by simpa using he
    clear hE he
    go_enter Tryz.func11, Tryz.ntmps11
    go_wp2_with fail
    refine hc.mono ?_
    rintro e w1 ⟨rfl, hb1⟩
    have B1 := B0.trans (hb1.mono B0.size)
    go_wp2_with fail
    go_ret2
    exact ⟨_, rfl, by rw [HV.out]; exact (rd_nil10 _ _ _), B1⟩
  obtain ⟨hSp, hRb, hR2, g1, g2, g3⟩ := eR10_zero he
  have HSp := Lib.hid hSp
  have HRb := Lib.hid hRb
  have HV : Hid (vMi S R t = mL S R t.toNat) := Lib.hid (by unfold vMi; rw [if_pos he])
  have HE := Lib.hid he
  rw [he] at hc
  clear he hRb
  obtain ⟨t, rfl⟩ : ∃ n : Nat, t = n := ⟨t.toNat, by omega⟩
  rw [Int.toNat_natCast] at HV
  have ht1 : 0 < t := by omega
  have ht3 : t ≤ 3 := by omega
  have HCl : Hid ((allC S t).length ≤ 1048576) := Lib.hid (Nat.le_trans (allC_le hSp ht1 ht3) (by omega))
  clear hSp
  go_enter Tryz.func11, Tryz.ntmps11
  go_wp2_with fail
  refine hc.mono ?_
  rintro e w1 ⟨rfl, hb1⟩
  have c1 := kept_cell hb1 c0 l0
  have l1 := lt_of_below hb1 l0
  have B1 := B0.trans (hb1.mono B0.size)
  clear hc c0 l0 B0 hb1
  go_wp2_with fail
  refine wp_region_held_drew (S := fun w' => w'.cell? ⟨w.heap.size, 0, none⟩ = some (.slice ao S.length cap)) (by kernel_rfl) (c1) (fun hHeld => ?_)
  refine wpAnyH_take (i := 0) (v := ?_) rfl (by kernel_rfl) (by kernel_rfl) (by kernel_rfl) (fun _ _ _ h => h) (Or.inl ⟨by rfl, ?_⟩) (by assumption) ?_
  rotate_left
  · (intro w hSw; obtain hSw := hSw; (try dsimp only at hSw); go_simp; try (with_reducible rfl))
  (try simp only [Act.put, List.setIfInBounds_toArray, List.set_cons_zero, List.set_cons_succ, List.getElem_toArray, List.getElem_cons_succ, List.getElem_cons_zero])
  refine wpAnyH_take (i := 1) (v := ?_) rfl (by kernel_rfl) (by kernel_rfl) (by kernel_rfl) (fun _ _ _ h => h) (Or.inl ⟨by rfl, ?_⟩) (by assumption) ?_
  rotate_left
  · (intro w hSw; obtain hSw := hSw; (try dsimp only at hSw); go_simp; try (with_reducible rfl))
  (try simp only [Act.put, List.setIfInBounds_toArray, List.set_cons_zero, List.set_cons_succ, List.getElem_toArray, List.getElem_cons_succ, List.getElem_cons_zero])
  refine wpAnyH_take (i := 2) (v := ?_) rfl (by kernel_rfl) (by kernel_rfl) (by kernel_rfl) (fun _ _ _ h => h) (Or.inl ⟨by rfl, ?_⟩) (by assumption) ?_
  rotate_left
  · (intro w hSw; obtain hSw := hSw; (try dsimp only at hSw); go_simp; try (with_reducible rfl))
  (try simp only [Act.put, List.setIfInBounds_toArray, List.set_cons_zero, List.set_cons_succ, List.getElem_toArray, List.getElem_cons_succ, List.getElem_cons_zero])
  refine wpAnyH_take (i := 4) (v := ?_) rfl (by kernel_rfl) (by kernel_rfl) (by kernel_rfl) (fun _ _ _ h => h) (Or.inl ⟨by rfl, ?_⟩) (by assumption) ?_
  rotate_left
  · (intro w hSw; obtain hSw := hSw; (try dsimp only at hSw); go_simp; try (with_reducible rfl))
  (try simp only [Act.put, List.setIfInBounds_toArray, List.set_cons_zero, List.set_cons_succ, List.getElem_toArray, List.getElem_cons_succ, List.getElem_cons_zero])
  refine wpAnyH_ready (rs := [3]) (by kernel_rfl) (by simp) ?_
  refine AllReadyH.cons rfl (fun K hK => ?_) AllReadyH.nil
  go_simp
  (go_at_call 43; refine (l10All_any ao S cap HSp.out t ht1 ht3 _ ((hS.below B1).below (Below.refl w1.heap.size w1).drew)).mono ?_)
  rintro e x1 ⟨g1, k1, rfl, ls1, hb1⟩
  have H1 : Below w1.heap.size w1 x1 := Below.trans (Below.refl w1.heap.size w1).drew (hb1.mono (Below.size (Below.refl w1.heap.size w1).drew))
  replace ls1 := ls1.rebase (lo' := w.heap.size) (Nat.le_trans B1.size (Below.size (Below.refl w1.heap.size w1).drew))
  refine hK.out _ _ (kept_cell H1 c1 l1) (fun hHeld => ?_)
  clear hK K
  (try simp only [Act.put, List.setIfInBounds_toArray, List.set_cons_zero, List.set_cons_succ, List.getElem_toArray, List.getElem_cons_succ, List.getElem_cons_zero])
  refine wpAnyH_ready (rs := [5]) (by kernel_rfl) (by simp) ?_
  refine AllReadyH.cons rfl (fun K hK => ?_) AllReadyH.nil
  go_simp
  (go_at_call 45; refine (l10Missing_any ao S cap HSp.out w.heap.size _ _ t (allC S t) ht3 HCl.out (allC_cs t) ar R capr (by omega) HRb.out _ (Nat.le_trans B1.size (Below.size H1)) ((hS.below B1).below H1) ls1 ((hRI.below B1).below H1)).mono ?_)
  rintro e x2 ⟨g2, k2, rfl, ls2, hb2⟩
  have H2 : Below w1.heap.size w1 x2 := Below.trans H1 (hb2.mono (Below.size H1))
  replace ls1 := ls1.below hb2
  refine hK.out _ _ (kept_cell H2 c1 l1) (fun hHeld => ?_)
  clear hK K
  (try simp only [Act.put, List.setIfInBounds_toArray, List.set_cons_zero, List.set_cons_succ, List.getElem_toArray, List.getElem_cons_succ, List.getElem_cons_zero])
  refine wpAnyH_take (i := 6) (v := ?_) rfl (by kernel_rfl) (by kernel_rfl) (by kernel_rfl) (fun _ _ _ h => h) (Or.inl ⟨by rfl, ?_⟩) (by assumption) ?_
  rotate_left
  · (intro w hSw; obtain hSw := hSw; (try dsimp only at hSw); go_simp; try (with_reducible rfl))
  (try simp only [Act.put, List.setIfInBounds_toArray, List.set_cons_zero, List.set_cons_succ, List.getElem_toArray, List.getElem_cons_succ, List.getElem_cons_zero])
  refine wpAnyH_take (i := 7) (v := ?_) rfl (by kernel_rfl) (by kernel_rfl) (by kernel_rfl) (fun _ _ _ h => h) (Or.inl ⟨by rfl, ?_⟩) (by assumption) ?_
  rotate_left
  · (intro w hSw; obtain hSw := hSw; (try dsimp only at hSw); go_simp; try (with_reducible rfl))
  (try simp only [Act.put, List.setIfInBounds_toArray, List.set_cons_zero, List.set_cons_succ, List.getElem_toArray, List.getElem_cons_succ, List.getElem_cons_zero])
  refine wpAnyH_done (by kernel_rfl) ?_ _
  (try simp only [Act.put, List.setIfInBounds_toArray, List.set_cons_zero, List.set_cons_succ, List.getElem_toArray, List.getElem_cons_succ, List.getElem_cons_zero])
  have Hn : Below w1.heap.size w1 x2 := H2
  go_wp2_with fail
  go_ret2
  exact ⟨_, by rw [HE.out]; rfl, by rw [HV.out]; exact ls2.rd, B1.trans (Hn.mono B1.size)⟩

end Go.Proofs.YtpmfedllbiblbaaGreat
