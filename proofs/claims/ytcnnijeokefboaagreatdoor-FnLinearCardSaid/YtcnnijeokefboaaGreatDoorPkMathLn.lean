/-
  Plain facts of the law FnLinear: a dual code has as many words as are left, the dual code of the dual code is the code, the basis spans the code. By an AI agent.
-/
import Derived.Test.YtcnnijeokefboaaGreatDoorMacW
import Derived.Test.YtcnnijeokefboaaGreatDoorPk3
namespace Go.Proofs.YtcnnijeokefboaaGreatDoor
open Cv
set_option linter.unusedVariables false
set_option linter.unusedSimpArgs false

/-- all words -/
def allL (S : List Int) : List Int := selL (fun _ => true) (nW S).toNat
theorem mem_allL {S : List Int} (x : Int) : x ∈ allL S ↔ Wd S x := by
  unfold allL Wd
  rw [mem_selL]
  constructor
  · rintro ⟨i, hi, _, rfl⟩; omega
  · rintro ⟨a, b⟩; exact ⟨x.toNat, by omega, rfl, by omega⟩
theorem allL_len {S : List Int} (hS : Sp S) : ((allL S).length : Int) = nW S := by
  have N := nW_bd hS
  unfold allL selL
  rw [List.length_map, List.filter_eq_self.2 (fun _ _ => rfl), List.length_range]
  omega
theorem gp_all {S : List Int} (hS : Sp S) : Gp S (allL S) :=
  ⟨fun u hu => (mem_allL u).1 hu, (mem_allL 0).2 (wd_0 hS), fun u x _ _ => (mem_allL _).2 (wd_sum hS u x), asc_nd (asc_selL _ _)⟩
/-- the word with 1 at one place -/
def unD (S : List Int) (i : Nat) : List Int := (List.range S.length).map fun j => if j = i then 1 else 0
theorem unD_len (S : List Int) (i : Nat) : (unD S i).length = S.length := by simp [unD]
theorem gi_unD (S : List Int) (i j : Nat) (hj : j < S.length) : gi (unD S i) j = if j = i then 1 else 0 := by simp [unD, gi, hj]
def unW (S : List Int) (i : Nat) : Int := wordTo S (unD S i) S.length
theorem un_bd {S : List Int} (hS : Sp S) (i : Nat) : ∀ j, j < S.length → 0 ≤ gi (unD S i) j ∧ gi (unD S i) j < gi S j := fun j hj => by
  rw [gi_unD _ _ _ hj]
  have := hS.bd j hj
  split <;> omega
theorem un_wd {S : List Int} (hS : Sp S) (i : Nat) : Wd S (unW S i) := wordTo_bd S _ S.length hS.bd (un_bd hS i)
theorem dig_un {S : List Int} (hS : Sp S) (i j : Nat) (hj : j < S.length) : dig S (unW S i) j = if j = i then 1 else 0 := by
  rw [← gi_digs _ _ _ hj, unW, digs_word hS (unD_len S i) (un_bd hS i), gi_unD _ _ _ hj]
theorem prTo_un {S : List Int} (hS : Sp S) (i : Nat) (c : Int) (k : Nat) (hk : k ≤ S.length) : prTo S (unW S i) c k = if i < k then dig S c i else 0 := by
  induction k with
  | zero => rfl
  | succ k ih =>
    rw [prTo, ih (by omega), dig_un hS i k (by omega)]
    by_cases e : k = i
    · subst e; rw [if_neg (by omega), if_pos rfl, if_pos (by omega)]; simp
    · rw [if_neg e]
      by_cases g : i < k
      · rw [if_pos g, if_pos (by omega)]; simp
      · rw [if_neg g, if_neg (by omega)]; simp
theorem all_up {S : List Int} (hP : Pl S) {c : Int} (hc : Wd S c) : upB S (allL S) c (allL S).length = true ↔ c = 0 := by
  rw [upB_all]
  constructor
  · intro h
    refine word_ext hP.sp hc (wd_0 hP.sp) fun i hi => ?_
    have h1 := h _ ((mem_allL _).2 (un_wd hP.sp i))
    unfold prW at h1
    rw [prTo_un hP.sp i c _ (Nat.le_refl _), if_pos hi] at h1
    have b := dig_bd S c hP.sp.bd i hi
    rw [hP.same i hi] at b
    rw [Int.emod_eq_of_lt b.1 b.2] at h1
    rw [h1, dig_0]
  · rintro rfl u _
    rw [prW_comm]; exact prW_0 S u
theorem ls_zero : ∀ (L : List Int), L.Nodup → ls (fun c => if c = 0 then 1 else 0) L = if (0 : Int) ∈ L then 1 else 0
  | [], _ => rfl
  | x :: L, h => by
    rw [List.nodup_cons] at h
    rw [ls, ls_zero L h.2]
    by_cases e : x = 0
    · subst e; rw [if_pos rfl, if_neg h.1, if_pos (by simp)]; rfl
    · have e' : ¬ (0 : Int) = x := fun g => e g.symm
      rw [if_neg e]
      by_cases g : (0 : Int) ∈ L
      · rw [if_pos g, if_pos (List.mem_cons_of_mem _ g)]; rfl
      · rw [if_neg g, if_neg (by rw [List.mem_cons]; rintro (h | h); exact e' h; exact g h)]; rfl
theorem dual_size {S C : List Int} (hP : Pl S) (g : Gp S C) : (C.length : Int) * (duL S C).length = nW S := by
  have hq2 := q_bd hP
  obtain ⟨q, hq⟩ : ∃ q : Nat, gi S 0 = (q : Int) := ⟨(gi S 0).toNat, by omega⟩
  have h1 : ls (fun c => sm (fun w => psi q (prW S c (w : Int))) (nW S).toNat) C = ((q : Int) - 1) * (C.length * (duL S C).length) := by
    rw [ls_sm]
    have e : sm (fun w => ls (fun c => psi q (prW S c (w : Int))) C) (nW S).toNat = sm (fun w => (((q : Int) - 1) * C.length) * (if upB S C (w : Int) C.length = true then 1 else 0)) (nW S).toNat :=
      sm_congr fun w _ => by rw [ls_psi hP g hq]; split <;> simp
    have e2 : ((duL S C).length : Int) = sm (fun w => if upB S C (w : Int) C.length = true then 1 else 0) (nW S).toNat := by
      rw [← ls_sel (fun _ => 1) (fun w => upB S C (w : Int) C.length)]
      show _ = ls (fun _ => 1) (duL S C)
      rw [ls_const]; simp
    rw [e, sm_c, ← e2, Int.mul_assoc]
  have h2 : ls (fun c => sm (fun w => psi q (prW S c (w : Int))) (nW S).toNat) C = ((q : Int) - 1) * nW S := by
    have e : ls (fun c => sm (fun w => psi q (prW S c (w : Int))) (nW S).toNat) C = ls (fun c => (((q : Int) - 1) * nW S) * (if c = 0 then 1 else 0)) C :=
      ls_congr fun c hc => by
        have e3 : sm (fun w => psi q (prW S c (w : Int))) (nW S).toNat = ls (fun x => psi q (prW S x c)) (allL S) := by
          unfold allL
          rw [ls_sel (fun x => psi q (prW S x c))]
          exact sm_congr fun w _ => by rw [if_pos rfl, prW_comm]
        rw [e3, ls_psi hP (gp_all hP.sp) hq, allL_len hP.sp]
        by_cases h0 : c = 0
        · rw [if_pos ((all_up hP (g.wd c hc)).2 h0), if_pos h0]; simp
        · rw [if_neg (fun h => h0 ((all_up hP (g.wd c hc)).1 h)), if_neg h0]; simp
    rw [e, ls_c, ls_zero C g.nd, if_pos g.zero]; simp
  rw [h1] at h2
  exact Int.eq_of_mul_eq_mul_left (by omega) h2
theorem mem_duL {S C : List Int} (x : Int) : x ∈ duL S C ↔ Wd S x ∧ ∀ u, u ∈ C → prW S u x = 0 := by
  unfold duL Wd
  rw [mem_selL]
  constructor
  · rintro ⟨i, hi, h, rfl⟩; exact ⟨by omega, (upB_all S C _).1 h⟩
  · rintro ⟨a, b⟩; exact ⟨x.toNat, by omega, (upB_all S C _).2 (by rw [Int.toNat_of_nonneg a.1]; exact b), by omega⟩
theorem gp_du {S C : List Int} (hP : Pl S) : Gp S (duL S C) := by
  refine ⟨fun u hu => ((mem_duL u).1 hu).1, (mem_duL 0).2 ⟨wd_0 hP.sp, fun u _ => by rw [prW_comm]; exact prW_0 S u⟩, fun u x hu hx => ?_, asc_nd (asc_selL _ _)⟩
  obtain ⟨a, b⟩ := (mem_duL u).1 hu
  obtain ⟨c, d⟩ := (mem_duL x).1 hx
  refine (mem_duL _).2 ⟨wd_sum hP.sp u x, fun y hy => ?_⟩
  rw [prW_comm]
  exact prW_sum0 hP (by rw [prW_comm]; exact b y hy) (by rw [prW_comm]; exact d y hy)
theorem du_du {S C : List Int} (hP : Pl S) (g : Gp S C) (hA : Asc C) : duL S (duL S C) = C := by
  have s1 := dual_size hP g
  have s2 := dual_size hP (gp_du (C := C) hP)
  have hp : 0 < (duL S C).length := List.length_pos_of_mem (gp_du (C := C) hP).zero
  have el : ((duL S (duL S C)).length : Int) = C.length := by
    rw [← s1, Int.mul_comm (C.length : Int)] at s2
    exact Int.eq_of_mul_eq_mul_left (by omega) s2
  have sub : ∀ x, x ∈ C → x ∈ duL S (duL S C) := fun x hx =>
    (mem_duL x).2 ⟨g.wd x hx, fun u hu => by rw [prW_comm]; exact ((mem_duL u).1 hu).2 x hx⟩
  refine asc_ext (asc_selL _ _) hA fun x => ⟨fun hx => ?_, sub x⟩
  exact nd_full (asc_nd hA) (asc_nd (asc_selL _ _)) sub (by unfold duL at el; unfold duL; omega) x hx
theorem gp_of_mem {S L M : List Int} (g : Gp S L) (hM : M.Nodup) (h : ∀ x, x ∈ M ↔ x ∈ L) : Gp S M :=
  ⟨fun u hu => g.wd u ((h u).1 hu), (h 0).2 g.zero, fun u x hu hx => (h _).2 (g.sum u x ((h u).1 hu) ((h x).1 hx)), hM⟩
theorem two_mem {S L : List Int} (g : Gp S L) {b : Int} (hb : b ∈ L) : two S b ∈ L := g.sum b b hb hb
/-- the basis spans the code -/
theorem bas_span {S C : List Int} (hP : Pl S) (g : Gp S C) : ∀ u, u ∈ spTo S (basUp S C S.length) (basUp S C S.length).length ↔ u ∈ C := by
  have hB : ∀ i, i < (basUp S C S.length).length → gi (basUp S C S.length) i ∈ C := fun i hi => basUp_mem S C _ _ (gi_mem hi)
  have hw : ∀ i, i < (basUp S C S.length).length → Wd S (gi (basUp S C S.length) i) := fun i hi => g.wd _ (hB i hi)
  have gs := gp_to hP hw (basUp S C S.length).length (Nat.le_refl _)
  have hin : ∀ b, b ∈ basUp S C S.length → b ∈ spTo S (basUp S C S.length) (basUp S C S.length).length := fun b hb => by
    obtain ⟨j, hj, rfl⟩ := mem_gi hb
    exact w_spTo hP hw hj (Nat.le_refl _)
  have key : ∀ k, k ≤ S.length → (∀ b, b ∈ basUp S C k → b ∈ spTo S (basUp S C S.length) (basUp S C S.length).length) → ∀ u, u ∈ subL S C k → u ∈ spTo S (basUp S C S.length) (basUp S C S.length).length := by
    intro k
    induction k with
    | zero =>
      intro _ _ u hu
      obtain ⟨_, h0⟩ := (mem_subL _ _ _ _).1 hu
      have : u = 0 := h0
      rw [this]; exact gs.zero
    | succ k ih =>
      intro hk h
      have ih' := ih (by omega) fun b hb => h b (by rw [basUp]; exact List.mem_append_right _ hb)
      intro u hu
      cases e : basAt S C k with
      | none => exact ih' u ((subL_no hP g (by omega) (basAt_none e) u).1 hu)
      | some b =>
        obtain ⟨hbC, hb⟩ := basAt_some e
        have hb0 := h b (by rw [basUp, e]; simp)
        have hm := (subL_step hP g (by omega) hbC hb u).1 hu
        have sh : ∀ y, y ∈ spTo S (basUp S C S.length) (basUp S C S.length).length → ∀ z, z ∈ shL S (subL S C k) y → z ∈ spTo S (basUp S C S.length) (basUp S C S.length).length := fun y hy z hz => by
          obtain ⟨v, hv, rfl⟩ := (mem_shL _ _ _ _).1 hz
          exact gs.sum v y (ih' v hv) hy
        unfold spW at hm
        split at hm
        · rcases List.mem_append.1 hm with hm | hm
          · rcases List.mem_append.1 hm with hm | hm
            · exact ih' u hm
            · exact sh b hb0 u hm
          · exact sh _ (two_mem gs hb0) u hm
        · rcases List.mem_append.1 hm with hm | hm
          · exact ih' u hm
          · exact sh b hb0 u hm
  intro u
  constructor
  · exact spTo_sub hP g.zero g.sum _ hB u
  · intro hu
    exact key S.length (Nat.le_refl _) hin u (by rw [sub_all hP g]; exact hu)
/-- all that the law asks of a span -/
theorem ln_span {S W : List Int} (h : eSpan S W = 0) : Pl S ∧ eCode S (vSpan S W) = 0 ∧ linB S (vSpan S W) = true ∧ Gp S (vSpan S W) ∧ vIsPl S = true ∧ (∀ i, i < W.length → gi W i ∈ vSpan S W) := by
  obtain ⟨h1, h2, h3⟩ := eSpan_zero h
  obtain ⟨hs, hw⟩ := eWords_zero h1
  have hP := pl_of hs h3
  have g := gp_to hP hw W.length (Nat.le_refl _)
  have hv : vSpan S W = sorted (spTo S W W.length) := by unfold vSpan; rw [if_pos h]
  have hA : Asc (vSpan S W) := by rw [hv]; exact asc_sorted g.nd
  have hm : ∀ x, x ∈ vSpan S W ↔ x ∈ spTo S W W.length := fun x => by rw [hv, mem_sorted]
  have gv := gp_of_mem g (asc_nd hA) hm
  have hc := code_of hs hA fun y hy => gv.wd y hy
  refine ⟨hP, hc, lin_of_gp hc h3 gv.zero gv.sum, gv, ?_, fun i hi => (hm _).2 (w_spTo hP hw hi (Nat.le_refl _))⟩
  unfold vIsPl
  rw [if_pos ((isSp_iff S).2 hs), h3]
theorem du_code {S C : List Int} (hP : Pl S) : eCode S (duL S C) = 0 := code_of hP.sp (asc_selL _ _) fun y hy => ((mem_duL y).1 hy).1
theorem pl_is {S : List Int} (hP : Pl S) : isPl S = true := (isPl_iff S).2 fun i hi => ⟨hP.same i hi, by rw [hP.same i hi]; rcases hP.q with h | h <;> omega⟩
theorem eLin_ok {S C : List Int} (h : eCode S C = 0) (hl : linB S C = true) : eLin S C = 0 := by unfold eLin; rw [if_pos h, if_pos hl]
theorem eWords_ok {S T : List Int} (hS : Sp S) (h : ∀ i, i < T.length → Wd S (gi T i)) : eWords S T = 0 := by
  unfold eWords
  rw [if_pos ((isSp_iff S).2 hS), if_pos ((okW_iff _ _ _).2 fun i hi => h i hi)]
theorem ln_all {S C : List Int} (hP : Pl S) (hc : eCode S C = 0) (hl : linB S C = true) (g : Gp S C) : eLin S C = 0 ∧ vLin S C = true ∧ vDual S C = duL S C ∧ eLin S (duL S C) = 0 ∧ vDual S (duL S C) = C ∧ vBas S C = basUp S C S.length ∧ eSpan S (basUp S C S.length) = 0 ∧ vSpan S (basUp S C S.length) = C ∧ vDim S C = (basUp S C S.length).length ∧ vDc S C = vWc S (duL S C) ∧ eCode S (duL S C) = 0 ∧ eSp S = 0 ∧ vCount S = (C.length : Int) * (duL S C).length := by
  have hd := du_code (C := C) hP
  have gd := gp_du (C := C) hP
  have ld := lin_of_gp hd (pl_is hP) gd.zero gd.sum
  have e1 := eLin_ok hc hl
  have e2 := eLin_ok hd ld
  have hw : ∀ i, i < (basUp S C S.length).length → Wd S (gi (basUp S C S.length) i) := fun i hi => g.wd _ (basUp_mem S C _ _ (gi_mem hi))
  have hb := basUp_len S C S.length
  have h8 := hP.sp.hi
  have e3 : eSpan S (basUp S C S.length) = 0 := eSpan_ok (eWords_ok hP.sp hw) (by omega) (pl_is hP)
  have gs := gp_to hP hw (basUp S C S.length).length (Nat.le_refl _)
  have e4 : vSpan S (basUp S C S.length) = C := by
    unfold vSpan
    rw [if_pos e3]
    exact asc_ext (asc_sorted gs.nd) (asc_code hc) fun x => by rw [mem_sorted]; exact bas_span hP g x
  have isS := (isSp_iff S).2 hP.sp
  refine ⟨e1, ?_, ?_, e2, ?_, ?_, e3, e4, ?_, ?_, hd, ?_, ?_⟩
  · unfold vLin; rw [if_pos hc, hl]
  · unfold vDual; rw [if_pos e1]
  · unfold vDual; rw [if_pos e2, du_du hP g (asc_code hc)]
  · unfold vBas; rw [if_pos e1]
  · unfold vDim; rw [if_pos e1]
  · unfold vDc vWc dcL; rw [if_pos e1, if_pos hd]
  · simp [eSp, isS]
  · simp only [vCount]; rw [if_pos isS, dual_size hP g]
theorem wsT_zero (g : Nat → Int) (L : List Int) (n : Nat) (h : ∀ i, i < n → gi L i = 0) : wsT g L n = 0 := by
  induction n with
  | zero => rfl
  | succ n ih => rw [wsT, ih fun i hi => h i (by omega), h n (by omega)]; simp
/-- the syndromes of words of the code, by at most 20 words of the dual code -/
theorem ln_syn {S C : List Int} (hP : Pl S) {x : Int} (hx : Wd S x) (hm : x ∈ C) (m : Nat) (h20 : m ≤ 20) : eSyn S ((duL S C).take m) x = 0 ∧ ∀ j, gi (vSyn S ((duL S C).take m) x) j = 0 := by
  have hsub : ∀ u, u ∈ (duL S C).take m → u ∈ duL S C := fun u hu => List.mem_of_mem_take hu
  have e1 : eWords S ((duL S C).take m) = 0 := eWords_ok hP.sp fun i hi => ((mem_duL _).1 (hsub _ (gi_mem hi))).1
  have e2 : eWords S [x] = 0 := eWords_ok hP.sp fun i hi => by
    have : i = 0 := by simpa using hi
    subst this; exact hx
  have e0 : orI (eWords S ((duL S C).take m)) (eWords S [x]) = 0 := by rw [e1, e2]; rfl
  have hl : ((duL S C).take m).length ≤ 20 := by rw [List.length_take]; omega
  have e : eSyn S ((duL S C).take m) x = 0 := by unfold eSyn; rw [if_pos e0, if_neg (by omega), if_pos (pl_is hP)]
  refine ⟨e, fun j => ?_⟩
  unfold vSyn
  rw [if_pos e]
  by_cases hj : j < (syL S ((duL S C).take m) x).length
  · have hmem := gi_mem hj
    unfold syL at hmem hj ⊢
    obtain ⟨u, hu, e⟩ := List.mem_map.1 hmem
    rw [← e, prW_comm]
    exact ((mem_duL u).1 (hsub u hu)).2 x hm
  · exact gi_out _ _ (by omega)
end Go.Proofs.YtcnnijeokefboaaGreatDoor
