/-
  Plain facts on first shifts. By an AI agent.
-/
import Derived.Test.YtgcmkjbahikpiaaMathQ
namespace Go.Proofs.Ytgcmkjbahikpiaa
open Cv
set_option linter.unusedVariables false
set_option linter.unusedSimpArgs false

/-- what the first shifts found leave: the words that are taken, the shifts, whether one was found at each step -/
structure FsSt where
  f : Nat → Bool
  o : List Int
  ok : Bool
/-- whether a shift serves at w -/
def fsG (S C : List Int) (f : Nat → Bool) (w v : Nat) : Bool := inL (shW S C (v : Int)) w && clrB f (shW S C (v : Int))
def fsV (S C : List Int) (f : Nat → Bool) (w : Nat) : Nat := fstI (fsG S C f w) (nW S).toNat
def fsStep (S C : List Int) (s : FsSt) (w : Nat) : FsSt :=
  if s.ok = false then s else if s.f w = true then s else
    if fsV S C s.f w < (nW S).toNat then ⟨orL s.f (shW S C ((fsV S C s.f w : Nat) : Int)), s.o ++ [((fsV S C s.f w : Nat) : Int)], true⟩ else ⟨s.f, s.o, false⟩
def fsTo (S C : List Int) : Nat → FsSt
  | 0 => ⟨fun _ => false, [], true⟩
  | w + 1 => fsStep S C (fsTo S C w) w
theorem fs_bad {S C : List Int} {w : Nat} (h : (fsTo S C w).ok = false) (m : Nat) (hm : w ≤ m) : (fsTo S C m).ok = false := by
  induction m with
  | zero => have : w = 0 := by omega
            subst this; exact h
  | succ m ih =>
    by_cases e : w = m + 1
    · subst e; exact h
    · have h1 := ih (by omega)
      rw [fsTo, fsStep, if_pos h1]; exact h1
theorem fs_had {S C : List Int} {w : Nat} (hk : (fsTo S C w).ok = true) (h : (fsTo S C w).f w = true) : fsTo S C (w + 1) = fsTo S C w := by
  rw [fsTo, fsStep, if_neg (by rw [hk]; simp), if_pos h]
theorem fs_none {S C : List Int} {w : Nat} (hk : (fsTo S C w).ok = true) (h : (fsTo S C w).f w = false) (hv : ¬ fsV S C (fsTo S C w).f w < (nW S).toNat) : (fsTo S C (w + 1)).ok = false := by
  rw [fsTo, fsStep, if_neg (by rw [hk]; simp), if_neg (by rw [h]; simp), if_neg hv]
theorem fs_new {S C : List Int} {w v : Nat} (hk : (fsTo S C w).ok = true) (h : (fsTo S C w).f w = false) (hv : v < (nW S).toNat) (hg : fsG S C (fsTo S C w).f w v = true) (h0 : ∀ j, j < v → fsG S C (fsTo S C w).f w j = false) :
    fsTo S C (w + 1) = ⟨orL (fsTo S C w).f (shW S C (v : Int)), (fsTo S C w).o ++ [(v : Int)], true⟩ := by
  have e : fsV S C (fsTo S C w).f w = v := fstI_at hv hg h0
  rw [fsTo, fsStep, if_neg (by rw [hk]; simp), if_neg (by rw [h]; simp), e, if_pos hv]
theorem fs_len (S C : List Int) (w : Nat) : (fsTo S C w).o.length ≤ w := by
  induction w with
  | zero => simp [fsTo]
  | succ w ih =>
    rw [fsTo, fsStep]
    repeat' split
    all_goals first | (simp only [List.length_append, List.length_cons, List.length_nil]; omega) | omega | (show (fsTo S C w).o.length ≤ w + 1; omega)
def eFsh (S C : List Int) : Int := if eFull S C = 0 then (if (fsTo S C (nW S).toNat).ok = true then 0 else 4) else eFull S C
def vFsh (S C : List Int) : List Int := if eFsh S C = 0 then (fsTo S C (nW S).toNat).o else []
theorem vFsh_len (S C : List Int) : (vFsh S C).length ≤ 1024 := by
  unfold vFsh
  split
  · rename_i h
    have h1 : eFull S C = 0 := by
      unfold eFsh at h
      split at h
      · assumption
      · rename_i g; exact absurd h g
    have := nW_bd (eCode_zero (eFull_zero h1).1).1
    have := fs_len S C (nW S).toNat
    omega
  · simp
/-- the shifts by which a code has a word -/
def stL (S C : List Int) (w : Int) : List Int := sorted (C.map fun u => sumW S w (oppW S u))
theorem st_mem {S C : List Int} (h : eCode S C = 0) {w : Nat} (hw : w < (nW S).toNat) {v : Nat} (hv : v < (nW S).toNat) : (v : Int) ∈ stL S C (w : Int) ↔ inL (shW S C (v : Int)) w = true := by
  obtain ⟨hS, c1, _⟩ := eCode_zero h
  have wv : Wd S (v : Int) := ⟨by omega, by omega⟩
  have ww : Wd S (w : Int) := ⟨by omega, by omega⟩
  unfold stL inL
  rw [mem_sorted, List.mem_map, decide_eq_true_eq, shW_mem]
  constructor
  · rintro ⟨u, hu, e⟩
    obtain ⟨i, hi, rfl⟩ := mem_gi hu
    refine ⟨i, hi, ?_⟩
    rw [← e, sum_comm hS, sum_assoc hS, sum_comm hS (oppW S (gi C i)), sum_opp hS, sum_0 hS ww]
  · rintro ⟨i, hi, e⟩
    refine ⟨gi C i, gi_mem hi, ?_⟩
    rw [e, sum_comm hS (gi C i), sum_assoc hS, sum_opp hS, sum_0 hS wv]
theorem st_len (S C : List Int) (w : Int) : (stL S C w).length = C.length := by unfold stL; rw [sorted_len, List.length_map]
theorem st_bd {S C : List Int} (hS : Sp S) (w : Int) {i : Nat} (hi : i < (stL S C w).length) : 0 ≤ gi (stL S C w) i ∧ gi (stL S C w) i < nW S := by
  have h := gi_mem hi
  unfold stL at h
  rw [mem_sorted, List.mem_map] at h
  obtain ⟨u, _, e⟩ := h
  unfold stL
  rw [← e]; exact sumW_lt hS _ _
theorem st_le {S C : List Int} (w : Int) {i j : Nat} (hij : i ≤ j) (hj : j < (stL S C w).length) : gi (stL S C w) i ≤ gi (stL S C w) j := by
  by_cases e : i = j
  · subst e; exact Int.le_refl _
  · have h := List.pairwise_iff_getElem.1 (sorted_le (C.map fun u => sumW S w (oppW S u))) i j (by unfold stL at hj; omega) (by unfold stL at hj; exact hj) (by omega)
    rw [gi_lt _ _ (show i < (stL S C w).length by omega), gi_lt _ _ hj]
    exact h
/-- the first one in the list that takes no word twice is the least one -/
theorem st_first {S C : List Int} (h : eCode S C = 0) {f : Nat → Bool} {w : Nat} (hw : w < (nW S).toNat) {j : Nat} (hj : j < (stL S C (w : Int)).length) {v : Nat} (hv : gi (stL S C (w : Int)) j = (v : Int)) (hc : clrB f (shW S C (v : Int)) = true)
    (h0 : ∀ k, k < j → clrB f (shW S C (gi (stL S C (w : Int)) k)) = false) : v < (nW S).toNat ∧ fsG S C f w v = true ∧ ∀ u, u < v → fsG S C f w u = false := by
  have hS := (eCode_zero h).1
  have hb := st_bd (C := C) hS (w : Int) hj
  rw [hv] at hb
  have hvN : v < (nW S).toNat := by omega
  refine ⟨hvN, ?_, fun u hu => ?_⟩
  · unfold fsG
    rw [(st_mem h hw hvN).1 (by rw [← hv]; exact gi_mem hj), hc]; rfl
  · unfold fsG
    cases e : inL (shW S C (u : Int)) w with
    | false => rfl
    | true =>
      obtain ⟨k, hk, ek⟩ := mem_gi ((st_mem h hw (show u < (nW S).toNat by omega)).2 e)
      have hkj : k < j := by
        rcases Nat.lt_or_ge k j with g | g
        · exact g
        · have := st_le (S := S) (C := C) (w : Int) g hk
          rw [hv, ek] at this; omega
      have := h0 k hkj
      rw [ek] at this
      rw [this]; rfl
theorem st_none {S C : List Int} (h : eCode S C = 0) {f : Nat → Bool} {w : Nat} (hw : w < (nW S).toNat) (h0 : ∀ k, k < (stL S C (w : Int)).length → clrB f (shW S C (gi (stL S C (w : Int)) k)) = false) : ¬ fsV S C f w < (nW S).toNat := by
  intro g
  obtain ⟨a, b⟩ := fstI_lt g
  change fsG S C f w (fsV S C f w) = true at a
  unfold fsG at a
  rw [Bool.and_eq_true] at a
  obtain ⟨k, hk, ek⟩ := mem_gi ((st_mem h hw g).2 a.1)
  have := h0 k hk
  rw [ek, a.2] at this; cases this
end Go.Proofs.Ytgcmkjbahikpiaa
