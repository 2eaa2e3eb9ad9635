/-
  Texts put together: Mtt9, Mcc9. By an AI agent.
-/
import Derived.Test.YtamebfbddoeflaaPkMtr9
namespace Go.Proofs.Ytamebfbddoeflaa
set_option linter.unusedVariables false
set_option linter.unusedSimpArgs false
namespace Cv

/-- a table -/
def tbZ (f : Nat → Int) (N : Nat) : List Int := (List.range N).map f
theorem tbZ_len (f : Nat → Int) (N : Nat) : (tbZ f N).length = N := by simp [tbZ]
theorem gi_tbZ (f : Nat → Int) (N u : Nat) (h : u < N) : gi (tbZ f N) u = f u := by
  rw [gi_lt _ _ (by rw [tbZ_len]; exact h)]; simp [tbZ]
theorem tbZ_eq {L : List Int} {f : Nat → Int} {N : Nat} (hl : L.length = N) (h : ∀ u, u < N → gi L u = f u) : L = tbZ f N :=
  ext_gi (by rw [hl, tbZ_len]) fun u hu => by rw [hl] at hu; rw [h u hu, gi_tbZ _ _ _ hu]
theorem tbZ_set (f : Nat → Int) (N t : Nat) (v : Int) (ht : t < N) (h : f t < 0 ∨ v < f t) : (tbZ f N).set t v = tbZ (updF f t v) N :=
  tbZ_eq (by rw [List.length_set, tbZ_len]) fun u hu => by
    rw [gi_set _ _ _ _ (by rw [tbZ_len]; exact ht), gi_tbZ _ _ _ hu]
    unfold updF
    by_cases e : u = t
    · subst e; rw [if_pos rfl, if_pos ⟨rfl, h⟩]
    · rw [if_neg e, if_neg (fun g => e g.1)]
theorem tbZ_same (f : Nat → Int) (N t : Nat) (v : Int) (h : ¬ (f t < 0 ∨ v < f t)) : tbZ f N = tbZ (updF f t v) N := by
  unfold tbZ
  congr 1
  funext u
  unfold updF
  by_cases e : u = t
  · subst e; rw [if_neg (fun g => h g.2)]
  · rw [if_neg (fun g => e g.1)]
/-- the words of a set marked by 0 -/
def st0F (C : List Int) (k : Nat) : Nat → Int := fun u => if inL (C.take k) u = true then 0 else -1
theorem st0F_0 (C : List Int) : st0F C 0 = fun _ => -1 := by funext u; simp [st0F, inL]
theorem st0F_all (C T S : List Int) : st0F C C.length = rdC S C T 0 := by funext u; unfold st0F; rw [List.take_length]; rfl
theorem st0F_set (C : List Int) (N k t : Nat) (hk : k < C.length) (ht : t < N) (h : gi C k = (t : Int)) : (tbZ (st0F C k) N).set t 0 = tbZ (st0F C (k + 1)) N :=
  tbZ_eq (by rw [List.length_set, tbZ_len]) fun u hu => by
    rw [gi_set _ _ _ _ (by rw [tbZ_len]; exact ht), gi_tbZ _ _ _ hu]
    unfold st0F inL
    rw [take_snoc C k hk, h]
    by_cases e : u = t
    · subst e; simp
    · rw [if_neg e]
      have : ¬ (u : Int) = (t : Int) := by omega
      simp [this]
/-- the word that is looked at behind j multiples -/
def rtW (S : List Int) (w c : Int) : Nat → Int
  | 0 => w
  | j + 1 => sumW S w (mulW S c j)
theorem rtW_step {S : List Int} (hS : Sp S) (w c : Int) (j : Nat) : sumW S (rtW S w c j) c = rtW S w c (j + 1) := by
  cases j with
  | zero => rfl
  | succ j => show sumW S (sumW S w (mulW S c j)) c = sumW S w (mulW S c (j + 1)); rw [sum_assoc hS]; rfl
theorem rtW_wd {S : List Int} (hS : Sp S) {w : Int} (hw : Wd S w) (c : Int) (j : Nat) : Wd S (rtW S w c j) := by
  cases j with
  | zero => exact hw
  | succ j => exact wd_sum hS _ _
theorem upd_bd {f : Nat → Int} {b : Int} (t : Nat) (v : Int) (h : ∀ u, -1 ≤ f u ∧ f u ≤ b) (hv : -1 ≤ v ∧ v ≤ b) (u : Nat) : -1 ≤ updF f t v u ∧ updF f t v u ≤ b := by
  unfold updF; split
  · exact hv
  · exact h u
theorem rdJ_bd {S : List Int} {c a b : Int} {w : Nat} {f : Nat → Int} (h : ∀ u, -1 ≤ f u ∧ f u ≤ b) (ha : -1 ≤ a + 1 ∧ a + 1 ≤ b) (J : Nat) : ∀ u, -1 ≤ rdJ S c a w f J u ∧ rdJ S c a w f J u ≤ b := by
  induction J with
  | zero => exact h
  | succ J ih => exact fun u => upd_bd _ _ ih ha u
theorem rdK_bd {S : List Int} {c b : Int} {L : Nat → Int} (h : ∀ u, -1 ≤ L u ∧ L u ≤ b) (K : Nat) : ∀ u, -1 ≤ rdK S c L K u ∧ rdK S c L K u ≤ b + 1 := by
  induction K with
  | zero => exact fun u => by have := h u; simp only [rdK]; omega
  | succ K ih =>
    intro u
    rw [rdK]
    split
    · exact ih u
    · exact rdJ_bd ih (by have := h K; omega) _ u
theorem rdC_bd (S C T : List Int) (k : Nat) : ∀ u, -1 ≤ rdC S C T k u ∧ rdC S C T k u ≤ (k : Int) := by
  induction k with
  | zero => intro u; simp only [rdC]; split <;> simp
  | succ k ih => intro u; have := rdK_bd (S := S) (c := gi T k) ih (nW S).toNat u; simp only [rdC]; omega
theorem rdK_neg (S : List Int) (c : Int) (L : Nat → Int) (k : Nat) (h : L k < 0) : rdK S c L k = rdK S c L (k + 1) := by rw [rdK, if_pos h]
theorem rdK_all (S : List Int) (c : Int) (L : Nat → Int) (k : Nat) (h : ¬ L k < 0) : rdJ S c (L k) k (rdK S c L k) (qN S) = rdK S c L (k + 1) := by rw [rdK, if_neg h]
theorem eCs_ne1 {S C T : List Int} {m : Int} (h : eCs S C T m ≠ 1) : isSp S = true := by
  cases hs : isSp S with
  | true => rfl
  | false => exact absurd (show eCs S C T m = 1 by unfold eCs; rw [if_neg (by rw [hs]; decide)]) h
/-- the words below k that are reached within m -/
theorem selL_step (p : Nat → Bool) (k : Nat) : selL p (k + 1) = selL p k ++ (if p k = true then [(k : Int)] else []) := by
  unfold selL
  rw [List.range_succ, List.filter_append, List.map_append]
  congr 1
  cases h : p k <;> simp [h]
theorem selL_le (p : Nat → Bool) (k : Nat) : (selL p k).length ≤ k := by
  induction k with
  | zero => simp [selL]
  | succ k ih => rw [selL_step, List.length_append]; split <;> simp <;> omega
theorem vWr_len (S C T : List Int) (m : Int) : (vWr S C T m).length ≤ 1024 := by
  unfold vWr
  split
  · rename_i h
    have := nW_bd (eCs_zero h).1.sp
    have := selL_le (wrB S C T m) (nW S).toNat
    omega
  · simp

end Cv
end Go.Proofs.Ytamebfbddoeflaa

namespace Go.Proofs.Ytamebfbddoeflaa
set_option linter.unusedVariables false
set_option linter.unusedSimpArgs false
namespace Cv

/-- a column added d times -/
def itW (S : List Int) (c u : Int) : Nat → Int
  | 0 => u
  | d + 1 => sumW S (itW S c u d) c
theorem itW_wd {S : List Int} (hS : Sp S) (c : Int) {u : Int} (hu : Wd S u) (d : Nat) : Wd S (itW S c u d) := by
  cases d with
  | zero => exact hu
  | succ d => exact wd_sum hS _ _
/-- the sum of the first k columns, each as often as a digit tells -/
def csF (S T : List Int) (q : Int) : Nat → Int → Int
  | 0, _ => 0
  | k + 1, v => itW S (gi T k) (csF S T q k (v / q)) (v % q).toNat
theorem csF_wd {S : List Int} (hS : Sp S) (T : List Int) (q : Int) (k : Nat) (v : Int) : Wd S (csF S T q k v) := by
  induction k generalizing v with
  | zero => exact wd_0 hS
  | succ k ih => exact itW_wd hS _ (ih _) _
def csL (S T : List Int) (q : Int) (k n : Nat) : List Int := (List.range n).map fun (v : Nat) => csF S T q k (v : Int)
theorem csL_len (S T : List Int) (q : Int) (k n : Nat) : (csL S T q k n).length = n := by simp [csL]
theorem gi_csL (S T : List Int) (q : Int) (k n i : Nat) (h : i < n) : gi (csL S T q k n) i = csF S T q k (i : Int) := by
  rw [gi_lt _ _ (by rw [csL_len]; exact h)]; simp [csL]
theorem csL_one (S T : List Int) (q : Int) : csL S T q 0 1 = [0] := by simp [csL, csF]
theorem csL_zero (S T : List Int) (q : Int) (k : Nat) : csL S T q k 0 = [] := rfl
theorem csL_step (S T : List Int) (Q k i d : Nat) (hd : d < Q) : csL S T (Q : Int) (k + 1) (i * Q + d) ++ [itW S (gi T k) (csF S T (Q : Int) k (i : Int)) d] = csL S T (Q : Int) (k + 1) (i * Q + (d + 1)) := by
  unfold csL
  rw [show i * Q + (d + 1) = (i * Q + d) + 1 from by omega, List.range_succ, List.map_append]
  congr 1
  simp only [List.map_cons, List.map_nil]
  congr 1
  show _ = itW S (gi T k) (csF S T (Q : Int) k (((i * Q + d : Nat) : Int) / (Q : Int))) (((i * Q + d : Nat) : Int) % (Q : Int)).toNat
  have e1 : ((i * Q + d : Nat) : Int) / (Q : Int) = (i : Int) := by
    have : (i * Q + d) / Q = i := by
      rw [Nat.mul_comm, Nat.mul_add_div (by omega)]
      rw [Nat.div_eq_of_lt hd]; rfl
    exact_mod_cast this
  have e2 : ((i * Q + d : Nat) : Int) % (Q : Int) = (d : Int) := by
    have : (i * Q + d) % Q = d := by
      rw [Nat.mul_comm, Nat.mul_add_mod]; exact Nat.mod_eq_of_lt hd
    exact_mod_cast this
  rw [e1, e2, Int.toNat_natCast]
/-- the plain space with n places -/
def plS (n : Nat) (q : Int) : List Int := List.replicate n q
theorem plS_len (n : Nat) (q : Int) : (plS n q).length = n := by simp [plS]
theorem gi_plS (n : Nat) (q : Int) (i : Nat) (h : i < n) : gi (plS n q) i = q := by
  rw [gi_lt _ _ (by rw [plS_len]; exact h)]; simp [plS]
theorem plS_prod (n : Nat) (Q k : Nat) (hk : k ≤ n) : prodTo (plS n (Q : Int)) k = ((Q ^ k : Nat) : Int) := by
  induction k with
  | zero => rfl
  | succ k ih => rw [prodTo, ih (by omega), gi_plS _ _ _ (by omega), Nat.pow_succ]; simp
theorem plS_nW (n Q : Nat) : nW (plS n (Q : Int)) = ((Q ^ n : Nat) : Int) := by
  unfold nW; rw [plS_len]; exact plS_prod n Q n (Nat.le_refl _)
/-- digit by digit -/
theorem cs_dig (S T : List Int) (n : Nat) (Q : Nat) (w : Int) (k : Nat) (hk : k < n) :
    csF S T (Q : Int) (k + 1) (quo (plS n (Q : Int)) w (k + 1)) = itW S (gi T k) (csF S T (Q : Int) k (quo (plS n (Q : Int)) w k)) (dig (plS n (Q : Int)) w k).toNat := by
  have h1 := quo_step (plS n (Q : Int)) w k (by rw [plS_len]; exact hk)
  have h2 := dig_quo (plS n (Q : Int)) w k (by rw [plS_len]; exact hk)
  rw [gi_plS _ _ _ hk] at h1 h2
  rw [csF, h2, ← h1]
theorem cs_all (S T : List Int) (n : Nat) (q w : Int) : csF S T q n (quo (plS n q) w n) = csF S T q n w := by
  have := quo_all (plS n q) w
  rw [plS_len] at this
  rw [this]

def eCc (S C T : List Int) : Int := if eCs S C T 0 = 0 then (if ldB S T = true then (if isSp (plS T.length (gi S 0)) = true then 0 else 3) else 5) else eCs S C T 0
def ccB (S C T : List Int) (u : Nat) : Bool := inL C (csF S T (gi S 0) T.length (u : Int)).toNat
def vCcS (S C T : List Int) : List Int := if eCc S C T = 0 then plS T.length (gi S 0) else []
def vCcC (S C T : List Int) : List Int := if eCc S C T = 0 then selL (ccB S C T) (nW (plS T.length (gi S 0))).toNat else []
theorem eCc_zero {S C T : List Int} (h : eCc S C T = 0) : eCs S C T 0 = 0 ∧ ldB S T = true ∧ Sp (plS T.length (gi S 0)) := by
  unfold eCc at h
  split at h
  · split at h
    · split at h
      · exact ⟨‹_›, ‹_›, (isSp_iff _).1 ‹_›⟩
      · omega
    · omega
  · exact absurd h ‹_›
theorem eCc_1 {S C T : List Int} (h : eCs S C T 0 ≠ 0) : eCc S C T = eCs S C T 0 ∧ vCcS S C T = [] ∧ vCcC S C T = [] := by
  have e : eCc S C T = eCs S C T 0 := by unfold eCc; rw [if_neg h]
  exact ⟨e, by unfold vCcS; rw [if_neg (by rw [e]; exact h)], by unfold vCcC; rw [if_neg (by rw [e]; exact h)]⟩
theorem eCc_2 {S C T : List Int} (h : eCs S C T 0 = 0) (hl : ldB S T = false) : eCc S C T = 5 ∧ vCcS S C T = [] ∧ vCcC S C T = [] := by
  have e : eCc S C T = 5 := by unfold eCc; rw [if_pos h, if_neg (by rw [hl]; decide)]
  exact ⟨e, by unfold vCcS; rw [if_neg (by rw [e]; decide)], by unfold vCcC; rw [if_neg (by rw [e]; decide)]⟩
theorem eCc_3 {S C T : List Int} (h : eCs S C T 0 = 0) (hl : ldB S T = true) (hs : isSp (plS T.length (gi S 0)) = false) : eCc S C T = 3 ∧ vCcS S C T = [] ∧ vCcC S C T = [] := by
  have e : eCc S C T = 3 := by unfold eCc; rw [if_pos h, if_pos hl, if_neg (by rw [hs]; decide)]
  exact ⟨e, by unfold vCcS; rw [if_neg (by rw [e]; decide)], by unfold vCcC; rw [if_neg (by rw [e]; decide)]⟩
theorem eCc_ok {S C T : List Int} (h : eCs S C T 0 = 0) (hl : ldB S T = true) (hs : isSp (plS T.length (gi S 0)) = true) : eCc S C T = 0 ∧ vCcS S C T = plS T.length (gi S 0) ∧ vCcC S C T = selL (ccB S C T) (nW (plS T.length (gi S 0))).toNat := by
  have e : eCc S C T = 0 := by unfold eCc; rw [if_pos h, if_pos hl, if_pos hs]
  exact ⟨e, by unfold vCcS; rw [if_pos e], by unfold vCcC; rw [if_pos e]⟩
theorem vCcS_len (S C T : List Int) : (vCcS S C T).length ≤ 8 := by
  unfold vCcS
  split
  · rename_i h; rw [plS_len]; exact (eCs_zero (eCc_zero h).1).2.2.2.1
  · simp
theorem vCcC_len (S C T : List Int) : (vCcC S C T).length ≤ 1024 := by
  unfold vCcC
  split
  · rename_i h
    have := nW_bd (eCc_zero h).2.2
    have := selL_le (ccB S C T) (nW (plS T.length (gi S 0))).toNat
    omega
  · simp

end Cv
end Go.Proofs.Ytamebfbddoeflaa
