/-
  Plain facts on the model's greedy code: how many words each word's set would cover, kept up word by word. By an AI agent.
-/
import Derived.Test.YtgaelpcghljihaaGrI
import Derived.Test.YtgaelpcghljihaaMathB
namespace Go.Proofs.Ytgaelpcghljihaa
open Cv
set_option linter.unusedVariables false
set_option linter.unusedSimpArgs false

/-- a table of numbers, a table of Bools -/
def tbI (g : Nat → Int) (N : Nat) : List Int := (List.range N).map g
def tbB (f : Nat → Bool) (N : Nat) : List Bool := (List.range N).map f
theorem tbI_len (g : Nat → Int) (N : Nat) : (tbI g N).length = N := by simp [tbI]
theorem tbB_len (f : Nat → Bool) (N : Nat) : (tbB f N).length = N := by simp [tbB]
theorem gi_tbI (g : Nat → Int) {N k : Nat} (h : k < N) : gi (tbI g N) k = g k := by simp [gi, tbI, h]
theorem tbB_at (f : Nat → Bool) {N k : Nat} (h : k < (tbB f N).length) : (tbB f N)[k] = f k := by simp [tbB]
theorem tbI_set (g : Nat → Int) (N k : Nat) (x : Int) : (tbI g N).set k x = tbI (fun u => if u = k then x else g u) N := by
  apply List.ext_getElem (by simp [tbI])
  intro i h1 h2
  simp only [tbI, List.getElem_set, List.getElem_map, List.getElem_range]
  by_cases e : k = i
  · subst e; simp
  · rw [if_neg e, if_neg (fun h => e h.symm)]
theorem tbB_set (f : Nat → Bool) (N k : Nat) (x : Bool) : (tbB f N).set k x = tbB (fun u => if u = k then x else f u) N := by
  apply List.ext_getElem (by simp [tbB])
  intro i h1 h2
  simp only [tbB, List.getElem_set, List.getElem_map, List.getElem_range]
  by_cases e : k = i
  · subst e; simp
  · rw [if_neg e, if_neg (fun h => e h.symm)]
theorem tbI_congr {g g' : Nat → Int} {N : Nat} (h : ∀ u, u < N → g u = g' u) : tbI g N = tbI g' N := by
  unfold tbI
  exact List.map_congr_left (fun u hu => h u (List.mem_range.1 hu))
theorem tbB_congr {g g' : Nat → Bool} {N : Nat} (h : ∀ u, u < N → g u = g' u) : tbB g N = tbB g' N := by
  unfold tbB
  exact List.map_congr_left (fun u hu => h u (List.mem_range.1 hu))
theorem tbI_0 (N : Nat) : List.replicate N (0 : Int) = tbI (fun _ => 0) N := by
  simp [tbI, List.map_const']
theorem tbB_0 (N : Nat) : List.replicate N false = tbB (fun _ => false) N := by
  simp [tbB, List.map_const']

/-- how many -/
theorem cntTo_sel (p : Nat → Bool) (n : Nat) : cntTo p n = (selTo p n).length := by
  induction n with
  | zero => rfl
  | succ n ih => rw [cntTo, selTo, List.length_append, ih]; split <;> rfl
theorem cntTo_congr {p q : Nat → Bool} {n : Nat} (h : ∀ u, u < n → p u = q u) : cntTo p n = cntTo q n := by
  induction n with
  | zero => rfl
  | succ n ih => rw [cntTo, cntTo, ih (fun u hu => h u (by omega)), h n (by omega)]
theorem cntTo_over {p : Nat → Bool} {n : Nat} (h : ∀ u, p u = true → u < n) (m : Nat) (hm : n ≤ m) : cntTo p m = cntTo p n := by
  induction m with
  | zero => obtain rfl : n = 0 := by omega
            rfl
  | succ m ih =>
    by_cases e : n = m + 1
    · rw [e]
    · rw [cntTo, ih (by omega), if_neg (fun g => by have := h m g; omega)]; rfl
theorem cntTo_less1 {p : Nat → Bool} {n x : Nat} (hx : x < n) (h : p x = true) : cntTo (fun u => p u && !decide (u = x)) n + 1 = cntTo p n := by
  induction n with
  | zero => omega
  | succ n ih =>
    rw [cntTo, cntTo]
    by_cases e : x = n
    · subst e
      rw [cntTo_congr (p := fun u => p u && !decide (u = x)) (q := p) (fun u hu => by simp [show u ≠ x by omega]), if_pos h, if_neg (by simp)]
    · have := ih (by omega)
      have e2 : (p n && !decide (n = x)) = p n := by simp [show n ≠ x by omega]
      simp only [e2]
      omega
theorem bF_in (S : List Int) (r : Int) (x u : Nat) : bF S r x u = decide (u < (nW S).toNat ∧ dist S u (x : Int) ≤ r) := ballN_in S r x u
/-- a ball's size is the same for each word -/
theorem bF_size {S : List Int} (hS : Sp S) {r : Int} (hr : 0 ≤ r) (x : Nat) : (cntTo (bF S r x) 1024 : Int) = sizeN S r := by
  have hN := nW_bd hS
  rw [cntTo_over (fun u h => (bF_arnd hS hr).wd x u h) 1024 (by omega)]
  have e := ball_count S hS.bd (x : Int) r.toNat
  rw [Int.toNat_of_nonneg hr] at e
  rw [show sizeN S r = sumF (coef S S.length) r.toNat from rfl, ← e, ← List.length_map (f := Prod.fst), ballW_P, ballW, ← cntTo_sel]
  congr 1
  exact cntTo_congr fun u hu => by rw [bF_in]; simp [ballB, hu]
theorem bF_comm {S : List Int} {r : Int} {x u : Nat} (hx : x < (nW S).toNat) (hu : u < (nW S).toNat) : bF S r x u = bF S r u x := by
  rw [bF_in, bF_in, dist_comm]; simp [hx, hu]
/-- one word more is covered -/
def add1 (c : Nat → Bool) (x : Nat) : Nat → Bool := fun u => c u || decide (u = x)
theorem gF_add (F : Nat → Nat → Bool) (c : Nat → Bool) {x : Nat} (hx : x < 1024) (h : c x = false) (v : Nat) : (gF F (add1 c x) v : Int) = (gF F c v : Int) - (if F v x = true then 1 else 0) := by
  unfold gF
  by_cases e : F v x = true
  · have := cntTo_less1 (p := byd (F v) c) hx (by simp [byd, e, h])
    rw [if_pos e, cntTo_congr (p := byd (F v) (add1 c x)) (q := fun u => byd (F v) c u && !decide (u = x)) (fun u _ => by simp only [byd, add1]; cases F v u <;> cases c u <;> rfl)]
    omega
  · rw [if_neg e, cntTo_congr (p := byd (F v) (add1 c x)) (q := byd (F v) c) (fun u _ => by
      simp only [byd, add1]
      by_cases eu : u = x
      · subst eu; simp [Bool.eq_false_iff.2 e]
      · simp [eu])]
    omega
theorem gF_bd (F : Nat → Nat → Bool) (c : Nat → Bool) (v : Nat) : gF F c v ≤ 1024 := cntTo_le _ _
theorem gF_0 (F : Nat → Nat → Bool) (v : Nat) : gF F (fun _ => false) v = cntTo (F v) 1024 := cntTo_congr fun u _ => by simp [byd]

/-! ### the first numbers of a list -/
theorem take_more (L : List Int) (j : Nat) (hj : j < L.length) : L.take (j + 1) = L.take j ++ [gi L j] := by
  rw [List.take_succ_eq_append_getElem hj, gi_lt L j hj]
theorem inL_more (L : List Int) (j : Nat) (hj : j < L.length) (v : Nat) : inL (L.take (j + 1)) v = (inL (L.take j) v || decide ((v : Int) = gi L j)) := by
  unfold inL
  rw [take_more L j hj]
  rw [Bool.eq_iff_iff]; simp
theorem nd_more {L : List Int} (h : L.Nodup) (j : Nat) (hj : j < L.length) : gi L j ∉ L.take j := by
  have e := take_more L j hj
  have h2 : (L.take (j + 1)).Nodup := h.sublist (List.take_sublist _ _)
  rw [e, List.nodup_append] at h2
  intro hm
  exact h2.2.2 _ hm _ (by simp) rfl
/-- what is covered behind the first k words of a ball -/
def cuT (c : Nat → Bool) (L : List Int) (k : Nat) : Nat → Bool := fun u => c u || inL (L.take k) u
theorem cuT_0 (c : Nat → Bool) (L : List Int) : cuT c L 0 = c := by funext u; simp [cuT, inL]
theorem cuT_all (S : List Int) (r : Int) (c : Nat → Bool) (x : Nat) : cuT c (ballW S (x : Int) r) (ballW S (x : Int) r).length = fun u => c u || bF S r x u := by
  funext u; unfold cuT; rw [List.take_length]; rfl
theorem cuT_more (c : Nat → Bool) (L : List Int) (k x : Nat) (hk : k < L.length) (hx : gi L k = x) : cuT c L (k + 1) = add1 (cuT c L k) x := by
  funext u
  unfold cuT add1
  rw [inL_more L k hk, hx, Bool.or_assoc]
  congr 2
  rw [decide_eq_decide]; omega
theorem cuT_had (c : Nat → Bool) (L : List Int) (k x : Nat) (hk : k < L.length) (hx : gi L k = x) (h : cuT c L k x = true) : cuT c L (k + 1) = cuT c L k := by
  rw [cuT_more c L k x hk hx]
  funext u
  unfold add1
  by_cases e : u = x
  · subst e; simp [h]
  · simp [e]
/-- the numbers while a word's ball is gone through -/
def gT (F : Nat → Nat → Bool) (c : Nat → Bool) (L : List Int) (j v : Nat) : Int := (gF F c v : Int) - (if inL (L.take j) v = true then 1 else 0)
theorem gT_0 (F : Nat → Nat → Bool) (c : Nat → Bool) (L : List Int) (v : Nat) : gT F c L 0 v = (gF F c v : Int) := by simp [gT, inL]
theorem gT_more (F : Nat → Nat → Bool) (c : Nat → Bool) (L : List Int) (hL : L.Nodup) (j x : Nat) (hj : j < L.length) (hx : gi L j = x) (v : Nat) : gT F c L (j + 1) v = if v = x then gT F c L j x - 1 else gT F c L j v := by
  have hn := nd_more hL j hj
  unfold gT
  rw [inL_more L j hj, hx]
  by_cases e : v = x
  · subst e
    rw [if_pos rfl, if_pos (by simp), if_neg (by unfold inL; rw [← hx]; simpa using hn)]
    omega
  · rw [if_neg e]
    have : ¬ ((v : Int) = (x : Int)) := by omega
    simp [this]
theorem gT_bd (F : Nat → Nat → Bool) (c : Nat → Bool) (L : List Int) (j v : Nat) : -1 ≤ gT F c L j v ∧ gT F c L j v ≤ 1024 := by
  have := gF_bd F c v
  unfold gT
  split <;> omega
theorem gT_all {S : List Int} {r : Int} {c : Nat → Bool} {x v : Nat} (hS : Sp S) (hx : x < (nW S).toNat) (hv : v < (nW S).toNat) (h : c x = false) : gT (bF S r) c (ballW S (x : Int) r) (ballW S (x : Int) r).length v = (gF (bF S r) (add1 c x) v : Int) := by
  have hN := nW_bd hS
  rw [gF_add (bF S r) c (by omega) h, bF_comm hv hx]
  unfold gT
  rw [List.take_length]; rfl
theorem ballW_asc (S : List Int) (x r : Int) : Asc (ballW S x r) := by
  unfold ballW
  generalize (nW S).toNat = n
  induction n with
  | zero => exact asc_nil
  | succ n ih =>
    rw [selTo]
    unfold Asc at ih ⊢
    rw [List.pairwise_append]
    refine ⟨ih, by split <;> simp, fun a ha b hb => ?_⟩
    obtain ⟨i, hi, rfl⟩ := mem_gi ha
    have := selTo_bd _ n i hi
    split at hb
    · simp at hb; omega
    · simp at hb
theorem ballW_bd {S : List Int} (hS : Sp S) (x r : Int) (k : Nat) (hk : k < (ballW S x r).length) : ∃ y : Nat, gi (ballW S x r) k = (y : Int) ∧ y < (nW S).toNat := by
  have := selTo_bd _ _ k hk
  exact ⟨(gi (ballW S x r) k).toNat, by unfold ballW at *; omega, by unfold ballW at *; omega⟩

/-! ### which word comes next -/
theorem mb_at1 (f : Nat → Nat) (k : Nat) : f (mbI f (k + 1)) = mbV f (k + 1) := by
  induction k with
  | zero => 
    have h1 : mbI f (0 + 1) = 0 := by simp [mbI]
    have h0 : mbV f 0 = 0 := rfl
    rw [h1, mbV]
    split <;> omega
  | succ k ih =>
    rw [mbV, mbI]
    split
    · rfl
    · exact ih
theorem mbI_1 (f : Nat → Nat) : mbI f 1 = 0 := by simp [mbI]
theorem mbI_more (f : Nat → Nat) (k : Nat) (hk : 1 ≤ k) : mbI f (k + 1) = if f (mbI f k) < f k then k else mbI f k := by
  obtain ⟨j, rfl⟩ : ∃ j, k = j + 1 := ⟨k - 1, by omega⟩
  rw [mb_at1 f j, mbI]
/-- no word is left iff the best covers nothing -/
theorem gr_zero {F : Nat → Nat → Bool} {N : Nat} (hF : Arnd F N) {c : Nat → Bool} (hN : 1 ≤ N) : gF F c (grW F N c) = 0 ↔ grDone c N = true := by
  constructor
  · intro h
    cases e : grDone c N with
    | true => rfl
    | false => have := (gr_pick hF e).2.1; omega
  · intro h
    unfold grDone at h
    rw [decide_eq_true_eq] at h
    apply Classical.byContradiction
    intro g
    obtain ⟨u, _, hb⟩ := cntTo_ex (p := byd (F (grW F N c)) c) (n := 1024) (by unfold gF at g; omega)
    simp only [byd, Bool.and_eq_true, Bool.not_eq_true'] at hb
    rw [h u (hF.wd _ _ hb.1)] at hb; cases hb.2
theorem put_sorted {L : List Int} (h : L.Nodup) {x : Int} (hx : x ∉ L) : putL (sorted L) x = sorted (L ++ [x]) := by
  refine asc_ext (asc_putL (asc_sorted h) x) (asc_sorted (by rw [List.nodup_append]; exact ⟨h, by simp, fun a ha b hb e => by rw [List.mem_singleton] at hb; subst hb; subst e; exact hx ha⟩)) (fun y => ?_)
  rw [mem_putL, Cv.mem_sorted, Cv.mem_sorted, List.mem_append, List.mem_singleton]
theorem sorted_0 : sorted [] = [] := List.eq_nil_of_length_eq_zero (by rw [sorted_len]; rfl)

end Go.Proofs.Ytgaelpcghljihaa
