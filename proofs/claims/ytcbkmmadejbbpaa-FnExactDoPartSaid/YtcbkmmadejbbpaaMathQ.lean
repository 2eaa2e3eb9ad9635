/-
  Plain facts on shifted codes that part a space. By an AI agent.
-/
import Derived.Test.YtcbkmmadejbbpaaMathP
namespace Go.Proofs.Ytcbkmmadejbbpaa
open Cv
set_option linter.unusedVariables false
set_option linter.unusedSimpArgs false

/-- the model's shifted code -/
def shW (S C : List Int) (x : Int) : List Int := putTo [] (fun i => sumW S (gi C i) x) C.length
theorem shW_sorted {S C : List Int} (h : eCode S C = 0) (x : Int) : shW S C x = sorted (sumsL S C x) := (sums_put h x).symm
theorem shW_len {S C : List Int} (h : eCode S C = 0) (x : Int) : (shW S C x).length = C.length := by
  rw [shW_sorted h, sorted_len]; simp [sumsL]
theorem shW_le (S C : List Int) (x : Int) : (shW S C x).length ≤ C.length := by
  have := putTo_len [] (fun i => sumW S (gi C i) x) C.length
  unfold shW; simpa using this
theorem shW_asc (S C : List Int) (x : Int) : Asc (shW S C x) := asc_putTo asc_nil _ _
theorem shW_mem (S C : List Int) (x y : Int) : y ∈ shW S C x ↔ ∃ i, i < C.length ∧ y = sumW S (gi C i) x := by
  unfold shW
  rw [mem_putTo]
  simp
theorem sumW_lt {S : List Int} (hS : Sp S) (u x : Int) : 0 ≤ sumW S u x ∧ sumW S u x < nW S := by
  unfold sumW nW
  refine wordTo_bd S _ S.length (fun i hi => hS.bd i hi) fun i hi => ?_
  have e : gi (sumD S (digs S u) (digs S x)) i = (gi (digs S u) i + gi (digs S x) i) % gi S i := by simp [sumD, gi, hi]
  have hb := hS.bd i hi
  rw [e]
  exact ⟨Int.emod_nonneg _ (by omega), Int.emod_lt_of_pos _ (by omega)⟩
theorem shW_bd {S : List Int} (hS : Sp S) (C : List Int) (x : Int) {i : Nat} (hi : i < (shW S C x).length) : 0 ≤ gi (shW S C x) i ∧ gi (shW S C x) i < nW S := by
  obtain ⟨j, _, e⟩ := (shW_mem S C x _).1 (gi_mem hi)
  rw [e]; exact sumW_lt hS _ _
theorem selTo_in {L : List Int} {n : Nat} (hL : Asc L) (hb : ∀ y, y ∈ L → 0 ≤ y ∧ y < (n : Int)) : selTo (inL L) n = L := by
  have e : selTo (inL L) n = selL (inL L) n := by rw [selTo_eq]; rfl
  rw [e]
  refine asc_ext (asc_selL _ _) hL fun y => ?_
  rw [mem_selL]
  constructor
  · rintro ⟨i, hi, hp, rfl⟩
    simpa [inL] using hp
  · intro h
    have := hb y h
    exact ⟨y.toNat, by omega, by unfold inL; rw [show ((y.toNat : Nat) : Int) = y by omega]; simpa using h, by omega⟩

/-- how many of the first k shifted codes have a word -/
def shC (S C T : List Int) (k u : Nat) : Int := cnt (fun j => inL (shW S C (gi T j)) u) k
def mkT (S C T : List Int) (k : Nat) : Nat → Bool := fun u => decide (1 ≤ shC S C T k u)
def clrB (f : Nat → Bool) (L : List Int) : Bool := decide (∀ i, i < L.length → f (gi L i).toNat = false)
def orL (f : Nat → Bool) (L : List Int) : Nat → Bool := fun u => f u || inL L u
theorem mkT_0 (S C T : List Int) : mkT S C T 0 = fun _ => false := by funext u; simp [mkT, shC, cnt]
theorem shC_step (S C T : List Int) (k u : Nat) : shC S C T (k + 1) u = shC S C T k u + if inL (shW S C (gi T k)) u = true then 1 else 0 := rfl
theorem mkT_step (S C T : List Int) (k : Nat) : mkT S C T (k + 1) = orL (mkT S C T k) (shW S C (gi T k)) := by
  funext u
  unfold mkT orL
  rw [shC_step]
  have hb := (cnt_bd (fun j => inL (shW S C (gi T j)) u) k).1
  change 0 ≤ shC S C T k u at hb
  cases h : inL (shW S C (gi T k)) u with
  | true => rw [if_pos rfl, Bool.or_true, decide_eq_true (by omega)]
  | false => simp
def onceP (S C T : List Int) (k : Nat) : Prop := ∀ u : Nat, u < (nW S).toNat → shC S C T k u ≤ 1
theorem once_0 (S C T : List Int) : onceP S C T 0 := fun u _ => by simp [shC, cnt]
theorem shC_mono (S C T : List Int) (u k m : Nat) (h : k ≤ m) : shC S C T k u ≤ shC S C T m u := by
  induction m with
  | zero => have : k = 0 := by omega
            subst this; exact Int.le_refl _
  | succ m ih =>
    by_cases e : k = m + 1
    · subst e; exact Int.le_refl _
    · have := ih (by omega)
      rw [shC_step]; split <;> omega
theorem once_step {S C T : List Int} {k : Nat} (h : onceP S C T k) (hc : clrB (mkT S C T k) (shW S C (gi T k)) = true) : onceP S C T (k + 1) := by
  intro u hu
  have h1 := h u hu
  rw [shC_step]
  cases e : inL (shW S C (gi T k)) u with
  | false => simp; exact h1
  | true =>
    obtain ⟨i, hi, hy⟩ := mem_gi (show (u : Int) ∈ shW S C (gi T k) by simpa [inL] using e)
    unfold clrB at hc
    rw [decide_eq_true_eq] at hc
    have h2 := hc i hi
    rw [hy] at h2
    have h3 : ¬ 1 ≤ shC S C T k u := by simpa [mkT] using h2
    rw [if_pos rfl]; omega
theorem once_not {S C T : List Int} (hS : Sp S) {k : Nat} (hk : k < T.length) (hc : clrB (mkT S C T k) (shW S C (gi T k)) = false) : ¬ onceP S C T T.length := by
  intro h
  unfold clrB at hc
  rw [decide_eq_false_iff_not] at hc
  apply hc
  intro i hi
  obtain ⟨b1, b2⟩ := shW_bd hS C (gi T k) hi
  have h1 := h (gi (shW S C (gi T k)) i).toNat (by omega)
  have h2 := shC_mono S C T (gi (shW S C (gi T k)) i).toNat (k + 1) T.length (by omega)
  rw [shC_step, if_pos (by unfold inL; rw [show (((gi (shW S C (gi T k)) i).toNat : Nat) : Int) = gi (shW S C (gi T k)) i by omega]; simpa using gi_mem hi)] at h2
  unfold mkT
  rw [decide_eq_false_iff_not]; omega
/-- whether words part the space for a code -/
def doB (S C T : List Int) : Bool := ((T.length : Int) * (C.length : Int) == nW S) && decide (∀ u : Nat, u < (nW S).toNat → ∃ j, j < T.length ∧ inL (shW S C (gi T j)) u = true)
theorem do_iff {S C : List Int} (h : eCode S C = 0) (T : List Int) : doB S C T = true ↔ onceP S C T T.length ∧ (T.length : Int) * (C.length : Int) = nW S := by
  have hS := (eCode_zero h).1
  have hN := nW_bd hS
  have hz : ∀ k, k < T.length → ((selTo (inL (shW S C (gi T k))) (nW S).toNat).length : Int) = (C.length : Int) := fun k _ => by
    rw [selTo_in (shW_asc S C _) (fun y hy => by
      obtain ⟨i, hi, e⟩ := mem_gi hy
      have := shW_bd hS C (gi T k) hi
      rw [e] at this; omega), shW_len h]
  have := parts_iff2 (F := fun k u => inL (shW S C (gi T k)) u) (n := (nW S).toNat) (K := T.length) (z := (C.length : Int)) hz
  rw [show (((nW S).toNat : Nat) : Int) = nW S by omega] at this
  unfold doB
  rw [Bool.and_eq_true, beq_iff_eq, decide_eq_true_eq]
  exact this.symm
def vDo (S C T : List Int) : Bool := if eSome S C T = 0 then doB S C T else false
theorem eSome_zero {S C T : List Int} (h : eSome S C T = 0) : eCode S C = 0 ∧ eWords S T = 0 ∧ 0 < C.length := by
  unfold eSome at h
  split at h
  · omega
  · rename_i h1
    obtain ⟨a, b⟩ := eCW_zero h
    exact ⟨a, b, by omega⟩
theorem eSome_ok {S C T : List Int} (h : eCode S C = 0) (hT : ∀ j, j < T.length → 0 ≤ gi T j ∧ gi T j < nW S) : eSome S C T = eFull S C := by
  have h1 : eWords S T = 0 := eWords_ok ((isSp_iff S).2 (eCode_zero h).1) hT
  unfold eSome eFull eCW orI
  simp [h, h1]
theorem eSome_w {S C T : List Int} (h : eCode S C = 0) {k : Nat} (hk : k < T.length) (hT : ¬ (0 ≤ gi T k ∧ gi T k < nW S)) : eSome S C T = 2 := by
  have h1 : eWords S T = 2 := eWords_bad ((isSp_iff S).2 (eCode_zero h).1) hk hT
  unfold eSome eCW orI
  simp [h, h1]
theorem eSome_c {S C T : List Int} (h : eCode S C ≠ 0) : eSome S C T = eCode S C := by
  unfold eSome eCW orI
  simp [h]
theorem eFull_c {S C : List Int} (h : eCode S C ≠ 0) : eFull S C = eCode S C := by
  unfold eFull
  simp [h]
theorem eFull_or {S C : List Int} (h : eCode S C = 0) : eFull S C = 0 ∨ eFull S C = 5 := by
  unfold eFull
  split
  · exact .inr rfl
  · exact .inl h
/-- the error that the model keeps over the first k words -/
def doE (S C T : List Int) (k : Nat) : Int := if ∀ j, j < k → 0 ≤ gi T j ∧ gi T j < nW S then eFull S C else 2
theorem doE_0 (S C T : List Int) : doE S C T 0 = eFull S C := by unfold doE; rw [if_pos (by intro j hj; omega)]
theorem doE_yes {S C T : List Int} {k : Nat} (h : 0 ≤ gi T k ∧ gi T k < nW S) : doE S C T (k + 1) = doE S C T k := by
  unfold doE
  by_cases g : ∀ j, j < k → 0 ≤ gi T j ∧ gi T j < nW S
  · rw [if_pos g, if_pos]
    intro j hj
    by_cases e : j = k
    · subst e; exact h
    · exact g j (by omega)
  · rw [if_neg g, if_neg]
    exact fun g2 => g fun j hj => g2 j (by omega)
theorem doE_no {S C T : List Int} {k : Nat} (h : ¬ (0 ≤ gi T k ∧ gi T k < nW S)) : doE S C T (k + 1) = 2 := by
  unfold doE
  rw [if_neg]
  exact fun g => h (g k (by omega))
theorem doE_all {S C T : List Int} (h : eCode S C = 0) : doE S C T T.length = eSome S C T := by
  unfold doE
  by_cases g : ∀ j, j < T.length → 0 ≤ gi T j ∧ gi T j < nW S
  · rw [if_pos g, eSome_ok h g]
  · rw [if_neg g]
    obtain ⟨j, hj⟩ := Classical.not_forall.1 g
    obtain ⟨hj1, hj2⟩ := Classical.not_imp.1 hj
    rw [eSome_w h hj1 hj2]
end Go.Proofs.Ytcbkmmadejbbpaa
