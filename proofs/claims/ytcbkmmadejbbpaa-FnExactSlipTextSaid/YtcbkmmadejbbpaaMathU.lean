/-
  Plain facts on slips: sets of signs, bets, hits. By an AI agent.
-/
import Derived.Test.YtcbkmmadejbbpaaMathB
namespace Go.Proofs.Ytcbkmmadejbbpaa
set_option linter.unusedVariables false
set_option linter.unusedSimpArgs false
namespace Cv

def pw (q : Int) : Int := (2 : Int) ^ q.toNat
theorem pw_bd {q : Int} (h : 2 ≤ q ∧ q ≤ 4) : 4 ≤ pw q ∧ pw q ≤ 16 := by
  rcases (show q = 2 ∨ q = 3 ∨ q = 4 by omega) with rfl | rfl | rfl <;> decide
def slTo (S T : List Int) : Nat → Bool
  | 0 => true
  | k + 1 => slTo S T k && (decide (1 ≤ gi T k) && decide (gi T k < pw (gi S k)))
theorem slTo_iff (S T : List Int) (k : Nat) : slTo S T k = true ↔ ∀ j, j < k → 1 ≤ gi T j ∧ gi T j < pw (gi S j) := by
  induction k with
  | zero => simp [slTo]
  | succ k ih =>
    simp only [slTo, Bool.and_eq_true, decide_eq_true_eq, ih]
    constructor
    · rintro ⟨h, a⟩ j hj
      by_cases e : j = k
      · subst e; exact a
      · exact h j (by omega)
    · intro h
      exact ⟨fun j hj => h j (by omega), h k (by omega)⟩
def slB (S T : List Int) : Bool := decide (T.length = S.length) && slTo S T S.length
theorem slB_len {S T : List Int} (h : ¬ T.length = S.length) : slB S T = false := by simp [slB, h]
theorem slB_at {S T : List Int} {k : Nat} (hk : k < S.length) (h : ¬ (1 ≤ gi T k ∧ gi T k < pw (gi S k))) : slB S T = false := by
  rw [← Bool.not_eq_true, slB, Bool.and_eq_true, slTo_iff]
  exact fun g => h (g.2 k hk)
theorem slB_iff (S T : List Int) : slB S T = true ↔ T.length = S.length ∧ ∀ j, j < S.length → 1 ≤ gi T j ∧ gi T j < pw (gi S j) := by
  rw [slB, Bool.and_eq_true, slTo_iff, decide_eq_true_eq]
/-- whether the first k lists are slips -/
def slsB (S : List Int) (Ts : List (List Int)) : Nat → Bool
  | 0 => true
  | k + 1 => slsB S Ts k && slB S (Ts.getD k [])
theorem slsB_iff (S : List Int) (Ts : List (List Int)) (k : Nat) : slsB S Ts k = true ↔ ∀ j, j < k → slB S (Ts.getD j []) = true := by
  induction k with
  | zero => simp [slsB]
  | succ k ih =>
    rw [slsB, Bool.and_eq_true, ih]
    constructor
    · rintro ⟨h, a⟩ j hj
      by_cases e : j = k
      · subst e; exact a
      · exact h j (by omega)
    · intro h
      exact ⟨fun j hj => h j (by omega), h k (by omega)⟩
def eSls (S : List Int) (Ts : List (List Int)) : Int := if isSp S = true then (if slsB S Ts Ts.length = true then 0 else 2) else 1
theorem eSls_inv {S : List Int} {Ts : List (List Int)} (h : isSp S = false) : eSls S Ts = 1 := by simp [eSls, h]
theorem eSls_bad {S : List Int} {Ts : List (List Int)} (h : isSp S = true) {k : Nat} (hk : k < Ts.length) (hb : slB S (Ts.getD k []) = false) : eSls S Ts = 2 := by
  have : ¬ slsB S Ts Ts.length = true := fun g => by rw [(slsB_iff S Ts _).1 g k hk] at hb; cases hb
  simp only [eSls, h, if_true, if_neg this]
theorem eSls_ok {S : List Int} {Ts : List (List Int)} (h : isSp S = true) (ha : ∀ j, j < Ts.length → slB S (Ts.getD j []) = true) : eSls S Ts = 0 := by
  simp only [eSls, h, if_true, (slsB_iff S Ts _).2 ha]
theorem eSls_zero {S : List Int} {Ts : List (List Int)} (h : eSls S Ts = 0) : Sp S ∧ ∀ j, j < Ts.length → slB S (Ts.getD j []) = true := by
  unfold eSls at h
  split at h
  · rename_i h1
    split at h
    · rename_i h2; exact ⟨(isSp_iff S).1 h1, (slsB_iff S Ts _).1 h2⟩
    · cases h
  · cases h
structure Sl (S T : List Int) : Prop where
  len : T.length = S.length
  bd : ∀ j, j < S.length → 1 ≤ gi T j ∧ gi T j < 16
theorem sl_of {S T : List Int} (hS : Sp S) (h : slB S T = true) : Sl S T := by
  obtain ⟨h1, h2⟩ := (slB_iff S T).1 h
  exact ⟨h1, fun j hj => by have := h2 j hj; have := pw_bd (hS.bd j hj); omega⟩
theorem eSls1 {S T : List Int} (h : eSls S [T] = 0) : Sp S ∧ Sl S T := by
  obtain ⟨h1, h2⟩ := eSls_zero h
  exact ⟨h1, sl_of h1 (h2 0 (by simp))⟩
theorem eSls2 {S T U : List Int} (h : eSls S [T, U] = 0) : Sp S ∧ Sl S T ∧ Sl S U := by
  obtain ⟨h1, h2⟩ := eSls_zero h
  exact ⟨h1, sl_of h1 (h2 0 (by simp)), sl_of h1 (h2 1 (by simp))⟩
def vIsSl (S T : List Int) : Bool := isSp S && slB S T
def fullL (S : List Int) : List Int := (List.range S.length).map fun i => pw (gi S i) - 1
def vFull (S : List Int) : List Int := if isSp S = true then fullL S else []
theorem fullL_len (S : List Int) : (fullL S).length = S.length := by simp [fullL]
theorem vFull_len (S : List Int) : (vFull S).length ≤ S.length := by
  unfold vFull; split
  · rw [fullL_len]; exact Nat.le_refl _
  · simp
theorem gi_map_range (f : Nat → Int) (n i : Nat) (h : i < n) : gi ((List.range n).map f) i = f i := by
  simp [gi, List.getD, h]
/-- the signs of a set -/
def bitI (t : Int) (d : Nat) : Bool := decide (t / 2 ^ d % 2 = 1)
def sgL (t : Int) : List Int := selL (bitI t) 4
def ones (t : Int) : Int := ((sgL t).length : Int)
theorem ones_bd {t : Int} : 0 ≤ ones t ∧ ones t ≤ 4 := by
  have := selL_len (bitI t) 4
  unfold ones sgL; omega
def prF (f : Nat → Int) : Nat → Int
  | 0 => 1
  | k + 1 => prF f k * f k
theorem prF_bd (f : Nat → Int) (h : ∀ j, 0 ≤ f j ∧ f j ≤ 4) (k : Nat) : 0 ≤ prF f k ∧ prF f k ≤ 4 ^ k := by
  induction k with
  | zero => simp [prF]
  | succ k ih =>
    obtain ⟨a, b⟩ := h k
    obtain ⟨c, d⟩ := ih
    refine ⟨Int.mul_nonneg c a, ?_⟩
    rw [prF, Int.pow_succ]
    exact Int.mul_le_mul d b a (by omega)
theorem prF_small (f : Nat → Int) (h : ∀ j, 0 ≤ f j ∧ f j ≤ 4) (k : Nat) (hk : k ≤ 8) : 0 ≤ prF f k ∧ prF f k ≤ 65536 := by
  obtain ⟨a, b⟩ := prF_bd f h k
  refine ⟨a, Int.le_trans b ?_⟩
  have h4 : (4 : Nat) ^ k ≤ 4 ^ 8 := Nat.pow_le_pow_right (by omega) hk
  have : (4 : Int) ^ k ≤ 4 ^ 8 := by exact_mod_cast h4
  simpa using this
def cbF (T : List Int) (k : Nat) : Int := ones (gi T k)
def vCb (S T : List Int) : Int := if eSls S [T] = 0 then prF (cbF T) T.length else 0
/-- slips in common -/
def andI (a b : Int) : Int := ((a.toNat &&& b.toNat : Nat) : Int)
def cmL (T U : List Int) : List Int := (List.range T.length).map fun i => andI (gi T i) (gi U i)
theorem cmL_len (T U : List Int) : (cmL T U).length = T.length := by simp [cmL]
def eCm (S T U : List Int) : Int := if eSls S [T, U] = 0 then (if slB S (cmL T U) = true then 0 else 4) else eSls S [T, U]
def vCm (S T U : List Int) : List Int := if eCm S T U = 0 then cmL T U else []
theorem vCm_len (S T U : List Int) : (vCm S T U).length ≤ T.length := by
  unfold vCm; split
  · rw [cmL_len]; exact Nat.le_refl _
  · simp
/-- the least slip of words -/
def orTo (f : Nat → Int) : Nat → Nat
  | 0 => 0
  | k + 1 => orTo f k ||| 2 ^ (f k).toNat
theorem orTo_lt (f : Nat → Int) (k : Nat) (h : ∀ j, j < k → 0 ≤ f j ∧ f j < 4) : orTo f k < 16 := by
  induction k with
  | zero => simp [orTo]
  | succ k ih =>
    have h1 := ih fun j hj => h j (by omega)
    have h2 := h k (by omega)
    rw [orTo]
    refine Nat.or_lt_two_pow (n := 4) h1 ?_
    have : (2 : Nat) ^ (f k).toNat ≤ 2 ^ 3 := Nat.pow_le_pow_right (by omega) (by omega)
    omega
def lsF (S C : List Int) (i : Nat) (j : Nat) : Int := dig S (gi C j) i
def lsM (S C : List Int) (k m : Nat) : List Int := (List.range S.length).map fun i => (orTo (lsF S C i) (if i < m then k + 1 else k) : Int)
theorem lsM_len (S C : List Int) (k m : Nat) : (lsM S C k m).length = S.length := by simp [lsM]
theorem lsM_zero (S C : List Int) : lsM S C 0 0 = List.replicate S.length 0 := by
  unfold lsM
  refine List.ext_getElem (by simp) fun i h1 h2 => ?_
  simp [orTo]
theorem lsM_end (S C : List Int) (k : Nat) : lsM S C k S.length = lsM S C (k + 1) 0 := by
  unfold lsM
  refine List.map_congr_left fun i hi => ?_
  have := List.mem_range.1 hi
  simp [this]
theorem lsM_set (S C : List Int) (k m : Nat) (hm : m < S.length) : (lsM S C k m).set m (orTo (lsF S C m) k ||| 2 ^ (lsF S C m k).toNat : Nat) = lsM S C k (m + 1) := by
  refine List.ext_getElem (by simp [lsM]) fun i h1 h2 => ?_
  rw [List.getElem_set]
  by_cases e : m = i
  · subst e; rw [if_pos rfl]; simp [lsM, orTo]
  · rw [if_neg e]
    simp only [lsM, List.getElem_map, List.getElem_range]
    by_cases h : i < m
    · rw [if_pos h, if_pos (by omega)]
    · rw [if_neg h, if_neg (by omega)]
theorem gi_lsM (S C : List Int) (k m : Nat) (hm : m < S.length) : gi (lsM S C k m) m = (orTo (lsF S C m) k : Int) := by
  unfold lsM; rw [gi_map_range _ _ _ hm, if_neg (by omega)]
def vLs (S C : List Int) : List Int := if eFull S C = 0 then lsM S C C.length 0 else []
theorem vLs_len (S C : List Int) : (vLs S C).length ≤ S.length := by
  unfold vLs; split
  · rw [lsM_len]; exact Nat.le_refl _
  · simp
/-- hits -/
def hitW (S : List Int) (u x : Int) : Int := (S.length : Int) - dist S u x
def vHits (S : List Int) (u x : Int) : Int := if eWords S [u, x] = 0 then hitW S u x else 0
def eBest (S C : List Int) (x : Int) : Int := eSome S C [x]
def bsTo (S C : List Int) (x : Int) : Nat → Int
  | 0 => 0
  | k + 1 => max (bsTo S C x k) (hitW S (gi C k) x)
def vBest (S C : List Int) (x : Int) : Int := if eBest S C x = 0 then bsTo S C x C.length else 0
def htL (S C : List Int) (x : Int) : List Int := C.map fun u => hitW S u x
def msL (S C : List Int) (x : Int) : List Int := C.map fun u => dist S u x
theorem gi_mapI (f : Int → Int) (L : List Int) (k : Nat) (h : k < L.length) : gi (L.map f) k = f (gi L k) := by
  simp [gi, List.getD, h]
theorem mx_bs {S C : List Int} {x : Int} (h : ∀ j, j < C.length → 0 ≤ hitW S (gi C j) x) (k : Nat) (hk : k < C.length) : mxTo (htL S C x) k = bsTo S C x (k + 1) := by
  induction k with
  | zero =>
    have := h 0 hk
    rw [mxTo, htL, gi_mapI _ _ _ hk, bsTo, bsTo]; omega
  | succ k ih =>
    have h1 := ih (by omega)
    rw [mxTo, h1, htL, gi_mapI _ _ _ hk]
    rw [bsTo.eq_def S C x (k + 1 + 1)]
    simp only
    split <;> omega
def pzTo (S C : List Int) (x : Int) : Nat → List Int
  | 0 => List.replicate (S.length + 1) 0
  | k + 1 => bump (pzTo S C x k) (dist S (gi C k) x)
theorem pzTo_len (S C : List Int) (x : Int) (k : Nat) : (pzTo S C x k).length = S.length + 1 := by
  induction k with
  | zero => simp [pzTo]
  | succ k ih => rw [pzTo, bump_len, ih]
theorem pzTo_bd (S C : List Int) (x : Int) (k j : Nat) : 0 ≤ gi (pzTo S C x k) j ∧ gi (pzTo S C x k) j ≤ k := by
  induction k generalizing j with
  | zero => rw [pzTo, gi_rep0]; omega
  | succ k ih =>
    have := bump_bd _ (dist S (gi C k) x) k ih j
    rw [pzTo]; omega
def vPz (S C : List Int) (x : Int) : List Int := if eCW S C [x] = 0 then pzTo S C x C.length else []
theorem vPz_len (S C : List Int) (x : Int) : (vPz S C x).length ≤ S.length + 1 := by
  unfold vPz; split
  · rw [pzTo_len]; exact Nat.le_refl _
  · simp
theorem orI_comm12 {a b : Int} (h : (a = 1 ∧ b = 1) ∨ ((a = 0 ∨ a = 2) ∧ (b = 0 ∨ b = 2))) : orI a b = orI b a := by
  unfold orI
  rcases h with ⟨rfl, rfl⟩ | ⟨rfl | rfl, rfl | rfl⟩ <;> rfl
theorem eCW_comm (S C T : List Int) : eCW S C T = orI (eWords S T) (eCode S C) := by
  refine orI_comm12 ?_
  by_cases h : isSp S = true
  · refine .inr ⟨?_, ?_⟩
    · unfold eCode; rw [if_pos h]; split <;> simp
    · unfold eWords; rw [if_pos h]; split <;> simp
  · refine .inl ⟨?_, ?_⟩
    · unfold eCode; rw [if_neg h]
    · unfold eWords; rw [if_neg h]
end Cv
end Go.Proofs.Ytcbkmmadejbbpaa
