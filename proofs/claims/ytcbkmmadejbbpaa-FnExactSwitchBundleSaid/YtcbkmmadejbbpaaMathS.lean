/-
  Plain facts on switched codes. By an AI agent.
-/
import Derived.Test.YtcbkmmadejbbpaaMathR
namespace Go.Proofs.Ytcbkmmadejbbpaa
open Cv
set_option linter.unusedVariables false
set_option linter.unusedSimpArgs false

/-- a word with the other digit at a place -/
def flpD (S : List Int) (i : Nat) (c : Int) : List Int := (digs S c).set i (1 - dig S c i)
def flpW (S : List Int) (i : Nat) (c : Int) : Int := wordTo S (flpD S i c) S.length
theorem flpD_len (S : List Int) (i : Nat) (c : Int) : (flpD S i c).length = S.length := by unfold flpD; rw [List.length_set, digs_length]
theorem gi_flpD {S : List Int} {i : Nat} (hi : i < S.length) (c : Int) (j : Nat) (hj : j < S.length) : gi (flpD S i c) j = if j = i then 1 - dig S c i else dig S c j := by
  unfold flpD
  rw [gi_set _ _ _ _ (by rw [digs_length]; exact hi)]
  split
  · rfl
  · rw [gi_digs _ _ _ hj]
theorem flpD_dg {S : List Int} (h2 : ∀ k, k < S.length → gi S k = 2) (hS : Sp S) {i : Nat} (hi : i < S.length) (c : Int) : (flpD S i c).length = S.length ∧ ∀ j, j < S.length → 0 ≤ gi (flpD S i c) j ∧ gi (flpD S i c) j < gi S j := by
  refine ⟨flpD_len S i c, fun j hj => ?_⟩
  have hb := dig_bd S c hS.bd j hj
  have hbi := dig_bd S c hS.bd i hi
  rw [h2 j hj] at hb ⊢
  rw [h2 i hi] at hbi
  rw [gi_flpD hi c j hj]
  split <;> omega
theorem flp_bd {S : List Int} (h2 : ∀ k, k < S.length → gi S k = 2) (hS : Sp S) {i : Nat} (hi : i < S.length) (c : Int) : 0 ≤ flpW S i c ∧ flpW S i c < nW S :=
  wordTo_bd S _ S.length (fun j hj => hS.bd j hj) (flpD_dg h2 hS hi c).2
/-- the word with the digit 1 at one place -/
def stpW (S : List Int) (i : Nat) : Int := chgW S 0 i 1
theorem gi_stpD {S : List Int} {i : Nat} (hi : i < S.length) (j : Nat) (hj : j < S.length) : gi ((digs S 0).set i 1) j = if j = i then 1 else 0 := by
  rw [gi_set _ _ _ _ (by rw [digs_length]; exact hi)]
  split
  · rfl
  · rw [gi_digs _ _ _ hj, dig_0]
theorem stp_dg {S : List Int} (h2 : ∀ k, k < S.length → gi S k = 2) {i : Nat} (hi : i < S.length) : ∀ j, j < S.length → 0 ≤ gi ((digs S 0).set i 1) j ∧ gi ((digs S 0).set i 1) j < gi S j := fun j hj => by
  rw [gi_stpD hi j hj, h2 j hj]; split <;> omega
theorem stp_bd {S : List Int} (h2 : ∀ k, k < S.length → gi S k = 2) (hS : Sp S) {i : Nat} (hi : i < S.length) : 0 ≤ stpW S i ∧ stpW S i < nW S :=
  wordTo_bd S _ S.length (fun j hj => hS.bd j hj) (stp_dg h2 hi)
theorem dig_stp {S : List Int} (h2 : ∀ k, k < S.length → gi S k = 2) (hS : Sp S) {i : Nat} (hi : i < S.length) (j : Nat) (hj : j < S.length) : dig S (stpW S i) j = if j = i then 1 else 0 := by
  have h := digs_word hS (D := (digs S 0).set i 1) (by rw [List.length_set, digs_length]) (stp_dg h2 hi)
  rw [← gi_digs S _ j hj]
  unfold stpW chgW
  rw [h, gi_stpD hi j hj]
/-- a shift by that word is a step at the place -/
theorem sum_flp {S : List Int} (h2 : ∀ k, k < S.length → gi S k = 2) (hS : Sp S) {i : Nat} (hi : i < S.length) (c : Int) : sumW S c (stpW S i) = flpW S i c := by
  unfold sumW flpW
  congr 1
  refine ext_gi (by rw [sumD_length, flpD_len]) fun j hj => ?_
  rw [sumD_length] at hj
  rw [gi_sumD _ _ _ _ hj, gi_flpD hi c j hj, gi_digs _ _ _ hj, gi_digs _ _ _ hj, dig_stp h2 hS hi j hj, h2 j hj]
  have hb := dig_bd S c hS.bd j hj
  rw [h2 j hj] at hb
  by_cases e : j = i
  · subst e; rw [if_pos rfl, if_pos rfl]; omega
  · rw [if_neg e, if_neg e]; omega

/-- the switched code -/
def swF (S C B : List Int) (i k : Nat) : Int := if gi C k ∈ B then flpW S i (gi C k) else gi C k
def swiL (S C B : List Int) (i : Nat) : List Int := putTo [] (swF S C B i) C.length
def vSwi (S C : List Int) (x i : Int) : List Int := if eBun S C x i = 0 then swiL S C (bunL S C i.toNat x) i.toNat else []
theorem swiL_len (S C B : List Int) (i : Nat) : (swiL S C B i).length ≤ C.length := by
  have := putTo_len [] (swF S C B i) C.length
  unfold swiL; simpa using this
theorem vSwi_len (S C : List Int) (x i : Int) : (vSwi S C x i).length ≤ 1024 := by
  unfold vSwi
  split
  · rename_i h
    have := swiL_len S C (bunL S C i.toNat x) i.toNat
    have := code_len0 (eBuA_zero (eBun_zero h).1).1
    omega
  · simp
theorem code_of {S L : List Int} (hS : Sp S) (ha : Asc L) (hb : ∀ y, y ∈ L → 0 ≤ y ∧ y < nW S) : eCode S L = 0 := by
  have h1 : codeB S L = true := by
    unfold codeB
    rw [Bool.and_eq_true, okW_iff, ascB_iff]
    exact ⟨fun i hi => hb _ (gi_mem hi), fun i h0 hi => asc_lt ha (by omega) hi⟩
  unfold eCode
  rw [if_pos ((isSp_iff S).2 hS), if_pos h1]
theorem asc_filter {L : List Int} (p : Int → Bool) (h : Asc L) : Asc (L.filter p) := List.Pairwise.filter p h
/-- the words that are kept and the shifted bundle, together -/
theorem swi_tog {S C B : List Int} (h : eCode S C = 0) (h2 : ∀ k, k < S.length → gi S k = 2) {i : Nat} (hi : i < S.length) (hB : Sub C B) (p : Int → Bool) (hp : ∀ y, y ∈ C → p y = decide (y ∈ B)) :
    eCode S (sorted B) = 0 ∧ eShift S (sorted B) (stpW S i) = 0 ∧ eTwo S (C.filter fun y => !p y) (vShift S (sorted B) (stpW S i)) = 0 ∧ vTog S (C.filter fun y => !p y) (vShift S (sorted B) (stpW S i)) = swiL S C B i := by
  obtain ⟨hS, hc1, hc2⟩ := eCode_zero h
  have hN := nW_bd hS
  have hCb : ∀ y, y ∈ C → 0 ≤ y ∧ y < nW S := fun y hy => by obtain ⟨t, ht, rfl⟩ := mem_gi hy; exact hc1 t ht
  have e1 : eCode S (sorted B) = 0 := code_of hS (asc_sorted hB.nd) fun y hy => hCb y (hB.sub y ((mem_sorted B y).1 hy))
  have hst := stp_bd h2 hS hi
  have ew : eWords S [stpW S i] = 0 := eWords_ok ((isSp_iff S).2 hS) fun t ht => by match t, ht with | 0, _ => rw [gi1]; exact hst
  have e2 : eShift S (sorted B) (stpW S i) = 0 := by rw [eShift_w ew, e1]
  have hv : vShift S (sorted B) (stpW S i) = sorted (sumsL S (sorted B) (stpW S i)) := by unfold vShift; rw [if_pos e2]
  have hmem : ∀ y, y ∈ vShift S (sorted B) (stpW S i) ↔ ∃ c, c ∈ B ∧ y = flpW S i c := fun y => by
    rw [hv, mem_sorted]
    unfold sumsL
    rw [List.mem_map]
    constructor
    · rintro ⟨c, hc, e⟩; exact ⟨c, (mem_sorted B c).1 hc, by rw [← e, sum_flp h2 hS hi]⟩
    · rintro ⟨c, hc, e⟩; exact ⟨c, (mem_sorted B c).2 hc, by rw [sum_flp h2 hS hi, e]⟩
  have hasc : Asc (vShift S (sorted B) (stpW S i)) := by rw [hv, sums_put e1]; exact asc_putTo asc_nil _ _
  have e3 : eCode S (vShift S (sorted B) (stpW S i)) = 0 := code_of hS hasc fun y hy => by
    obtain ⟨c, _, e⟩ := (hmem y).1 hy
    rw [e]; exact flp_bd h2 hS hi c
  have e4 : eCode S (C.filter fun y => !p y) = 0 := code_of hS (asc_filter _ (asc_code h)) fun y hy => hCb y (List.mem_filter.1 hy).1
  have e5 : eTwo S (C.filter fun y => !p y) (vShift S (sorted B) (stpW S i)) = 0 := by rw [eTwo_ok e4, e3]
  refine ⟨e1, e2, e5, ?_⟩
  unfold vTog
  rw [if_pos e5]
  unfold togL swiL
  refine asc_ext (asc_selL _ _) (asc_putTo asc_nil _ _) fun y => ?_
  rw [mem_selL, mem_putTo]
  constructor
  · rintro ⟨u, hu, hh, rfl⟩
    rw [Bool.or_eq_true] at hh
    refine .inr ?_
    rcases hh with hh | hh
    · have hm : (u : Int) ∈ C.filter fun y => !p y := by simpa [inL] using hh
      obtain ⟨hm1, hm2⟩ := List.mem_filter.1 hm
      obtain ⟨k, hk, e⟩ := mem_gi hm1
      have hnb : ¬ gi C k ∈ B := by
        rw [hp _ hm1] at hm2
        rw [e]; simpa using hm2
      exact ⟨k, hk, by unfold swF; rw [if_neg hnb, e]⟩
    · have hm : (u : Int) ∈ vShift S (sorted B) (stpW S i) := by simpa [inL] using hh
      obtain ⟨c, hc, e⟩ := (hmem _).1 hm
      obtain ⟨k, hk, ek⟩ := mem_gi (hB.sub c hc)
      exact ⟨k, hk, by unfold swF; rw [if_pos (by rw [ek]; exact hc), ek, e]⟩
  · rintro (hh | ⟨k, hk, e⟩)
    · simp at hh
    · have hkC := gi_mem (L := C) hk
      have hy : 0 ≤ y ∧ y < nW S := by
        rw [e]; unfold swF; split
        · exact flp_bd h2 hS hi _
        · exact hCb _ hkC
      refine ⟨y.toNat, by omega, ?_, by omega⟩
      have hyt : ((y.toNat : Nat) : Int) = y := by omega
      rw [Bool.or_eq_true]
      unfold inL
      rw [decide_eq_true_eq, decide_eq_true_eq, hyt]
      by_cases hb : gi C k ∈ B
      · exact .inr ((hmem y).2 ⟨gi C k, hb, by rw [e]; unfold swF; rw [if_pos hb]⟩)
      · refine .inl (List.mem_filter.2 ?_)
        have : y = gi C k := by rw [e]; unfold swF; rw [if_neg hb]
        rw [this]
        exact ⟨hkC, by rw [hp _ hkC]; simpa using hb⟩
end Go.Proofs.Ytcbkmmadejbbpaa
