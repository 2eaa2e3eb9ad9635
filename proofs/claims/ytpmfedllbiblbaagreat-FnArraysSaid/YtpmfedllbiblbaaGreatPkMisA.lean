/-
  Merged texts: All10, Mss10, Msn10. Never import this beside one of them. By an AI agent.
-/
import Derived.Test.YtpmfedllbiblbaaGreatPkPlaA
import Derived.Test.YtpmfedllbiblbaaGreatPkDigits
import Derived.Test.YtpmfedllbiblbaaGreatPkSpace
import Derived.Deep.Cut
import Derived.Deep.CutRange
namespace Go.Proofs.YtpmfedllbiblbaaGreat
open Go.RowKit Cv
set_option linter.unusedVariables false
set_option linter.unusedSimpArgs false
set_option maxRecDepth 100000

/-- the choices of the first j lists of places -/
def alJ (S : List Int) (t j : Nat) : List (List Int) := ((plM S.length 0 t).take j).flatMap fun P => (dgTo (szP S P) t).map fun D => P ++ D
theorem alJ_succ (S : List Int) (t j : Nat) (h : j < (plM S.length 0 t).length) : alJ S t (j + 1) = alJ S t j ++ (dgTo (szP S (rr (plM S.length 0 t) j)) t).map fun D => rr (plM S.length 0 t) j ++ D := by
  unfold alJ; rw [take_rr _ j h, List.flatMap_append]; simp
theorem alJ_all (S : List Int) (t : Nat) : alJ S t (plM S.length 0 t).length = allC S t := by unfold alJ; rw [List.take_length]; rfl
theorem alJ_len (S : List Int) (t j : Nat) : (alJ S t j).length ≤ (allC S t).length := by
  have e : allC S t = alJ S t j ++ ((plM S.length 0 t).drop j).flatMap fun P => (dgTo (szP S P) t).map fun D => P ++ D := by
    unfold alJ allC
    rw [← List.flatMap_append, List.take_append_drop]
  rw [e, List.length_append]; omega

set_option maxHeartbeats 4000000 in
theorem l10All_any (ao : Option Addr) (S : List Int) (cap : Nat) (hSp : Sp S) (t : Nat) (ht1 : 0 < t) (ht3 : t ≤ 3) (w : World) (hS : Ints w ao S) :
    Calls Tryz.prog 43 #[.agg #[.slice ao S.length cap], .int .i64 (t : Int)] w fun e w' => ∃ g c, e = .returned (.slice (some ⟨g, 0, none⟩) (allC S t).length c) ∧ LsAt w' w.heap.size (.slice (some ⟨g, 0, none⟩) (allC S t).length c) (allC S t) ∧ Below w.heap.size w w' := by
  have HSp := Lib.hid hSp
  have HPM : Hid (∀ j, j < (plM S.length 0 t).length → rr (plM S.length 0 t) j ∈ plM S.length 0 t) := Lib.hid fun j hj => rr_mem hj
  have HPL : Hid (∀ j, j < (plM S.length 0 t).length → (rr (plM S.length 0 t) j).length = t) := Lib.hid fun j hj => (plM_len _ _ _ _ (rr_mem hj)).1
  have HAS := Lib.hid fun j => alJ_succ S t j
  have HAL := Lib.hid fun j => Nat.le_trans (alJ_len S t j) (allC_le hSp ht1 ht3)
  have HAA := Lib.hid (alJ_all S t)
  have hP512 := plM_512 S.length hSp.hi t ht3 0
  have hpl := l10Places_any ao S cap hSp.hi t ht3 0 (by omega)
  obtain ⟨PL, hPL⟩ : ∃ PL, PL = plM S.length 0 t := ⟨_, rfl⟩
  rw [← hPL] at HPM HPL HAS HAA hP512 hpl
  have HPLe := Lib.hid hPL
  clear hPL
  have B0 : Below w.heap.size w (w.alloc (.cells #[.slice ao S.length cap] 26)) := by go_grown
  have c0 := cell_new w (.slice ao S.length cap) 26
  have l0 := lt_alloc w (.cells #[.slice ao S.length cap] 26)
  have hc := hpl _ (hS.below B0)
  go_enter Tryz.func43, Tryz.ntmps43
  go_wp2_with fail
  refine hc.mono ?_
  rintro e w1 ⟨gp, cp, rfl, lsP, hb1⟩
  have c1 := kept_cell hb1 c0 l0
  have l1 := lt_of_below hb1 l0
  have B1 := B0.trans (hb1.mono B0.size)
  replace lsP := lsP.rebase (lo' := w.heap.size + 1) (by simp)
  have lsE := LsAt.empty w1 (w.heap.size + 1) l1 (n := w1.heap.size) rfl
  have lsP2 := lsP.alloc (.cells #[] 24)
  have hgp := (lsP.lo_le gp rfl).2
  have hgq : gp ≠ w1.heap.size := by omega
  have c2 := kept_cell ((Below.refl _ w1).alloc (Nat.le_refl _) (.cells #[] 24)) c1 l1
  have l2 : w.heap.size < (w1.alloc (.cells #[] 24)).heap.size := by simp; try omega
  have B2 := B1.alloc B1.size (.cells #[] 24)
  clear hc hpl c0 l0 B0 hb1 c1 l1 B1 lsP hgp
  go_wp2_with fail
  go_loopw [6, 7] (fun o x wr => ∃ i g' c' : Nat, i ≤ PL.length ∧ x = .int .i64 (i : Int) ∧ o = .slice (some ⟨g', 0, none⟩) (alJ S t i).length c' ∧ LsAt wr (w.heap.size + 1) (.slice (some ⟨g', 0, none⟩) (alJ S t i).length c') (alJ S t i) ∧ LsAt wr (w.heap.size + 1) (.slice (some ⟨gp, 0, none⟩) PL.length cp) PL ∧ gp ≠ g' ∧ wr.cell? ⟨w.heap.size, 0, none⟩ = some (.slice ao S.length cap) ∧ w.heap.size < wr.heap.size ∧ Below w.heap.size w wr) (fun _ x _ => PL.length - (intOf x).toNat)
  case atStart => exact ⟨0, _, 0, Nat.zero_le _, rfl, rfl, lsE, lsP2, hgq, c2, l2, B2⟩
  case round =>
    clear lsE lsP2 hgq c2 l2 B2
    obtain ⟨i, g', c', hi, rfl, rfl, lsO, lsP, hgp, c1, l1, B⟩ := hrel
    have hOl := HAL.out i
    have HOs := Lib.hid (HAS.out i)
    obtain ⟨O, hO⟩ : ∃ O, O = alJ S t i := ⟨_, rfl⟩
    rw [← hO] at hOl HOs lsO ⊢
    have HO := Lib.hid hO
    clear hO
    by_cases hlt : i < PL.length
    · have hlI : (i : Int) < (PL.length : Int) := by omega
      obtain ⟨gp', gr, cr, hgp', hlq, hcq, hoq⟩ := lsP.at hlt
      obtain rfl : gp = gp' := by simpa using hgp'
      have HOn := Lib.hid (HOs.out hlt)
      have HPm := Lib.hid (HPM.out i hlt)
      have hPl := HPL.out i hlt
      obtain ⟨P, hP⟩ : ∃ P, P = rr PL i := ⟨_, rfl⟩
      rw [← hP] at HOn HPm hPl hcq hoq
      rw [HPLe.out] at HPm
      rw [hPl] at hcq hoq
      have HPl := Lib.hid hPl
      have HP := Lib.hid hP
      clear hgp' hP hPl
      go_wp2_with fail
      refine wp_region_held_drew (S := fun w' => w'.cell? ⟨w.heap.size, 0, none⟩ = some (.slice ao S.length cap) ∧ w'.cell? ⟨gp, i, none⟩ = some (.slice (some ⟨gr, 0, none⟩) t cr)) (by kernel_rfl) (⟨c1, hcq⟩) (fun hHeld => ?_)
      refine wpAnyH_take (i := 0) (v := ?_) rfl (by kernel_rfl) (by kernel_rfl) (by kernel_rfl) (fun _ _ _ h => h) (Or.inl ⟨by rfl, ?_⟩) (by assumption) ?_
      rotate_left
      · (intro w hSw; obtain ⟨hSw0, hSw1⟩ := hSw; (try dsimp only at hSw0 hSw1); go_simp; try (with_reducible rfl))
      (try simp only [Act.put, List.setIfInBounds_toArray, List.set_cons_zero, List.set_cons_succ, List.getElem_toArray, List.getElem_cons_succ, List.getElem_cons_zero])
      refine wpAnyH_take (i := 1) (v := ?_) rfl (by kernel_rfl) (by kernel_rfl) (by kernel_rfl) (fun _ _ _ h => h) (Or.inl ⟨by rfl, ?_⟩) (by assumption) ?_
      rotate_left
      · (intro w hSw; obtain ⟨hSw0, hSw1⟩ := hSw; (try dsimp only at hSw0 hSw1); go_simp; try (with_reducible rfl))
      (try simp only [Act.put, List.setIfInBounds_toArray, List.set_cons_zero, List.set_cons_succ, List.getElem_toArray, List.getElem_cons_succ, List.getElem_cons_zero])
      refine wpAnyH_take (i := 2) (v := ?_) rfl (by kernel_rfl) (by kernel_rfl) (by kernel_rfl) (fun _ _ _ h => h) (Or.inl ⟨by rfl, ?_⟩) (by assumption) ?_
      rotate_left
      · (intro w hSw; obtain ⟨hSw0, hSw1⟩ := hSw; (try dsimp only at hSw0 hSw1); go_simp; try (with_reducible rfl))
      (try simp only [Act.put, List.setIfInBounds_toArray, List.set_cons_zero, List.set_cons_succ, List.getElem_toArray, List.getElem_cons_succ, List.getElem_cons_zero])
      refine wpAnyH_take (i := 3) (v := ?_) rfl (by kernel_rfl) (by kernel_rfl) (by kernel_rfl) (fun _ _ _ h => h) (Or.inl ⟨by rfl, ?_⟩) (by assumption) ?_
      rotate_left
      · (intro w hSw; obtain ⟨hSw0, hSw1⟩ := hSw; (try dsimp only at hSw0 hSw1); go_simp; try (with_reducible rfl))
      (try simp only [Act.put, List.setIfInBounds_toArray, List.set_cons_zero, List.set_cons_succ, List.getElem_toArray, List.getElem_cons_succ, List.getElem_cons_zero])
      refine wpAnyH_take (i := 4) (v := ?_) rfl (by kernel_rfl) (by kernel_rfl) (by kernel_rfl) (fun _ _ _ h => h) (Or.inl ⟨by rfl, ?_⟩) (by assumption) ?_
      rotate_left
      · (intro w hSw; obtain ⟨hSw0, hSw1⟩ := hSw; (try dsimp only at hSw0 hSw1); go_simp; try (with_reducible rfl))
      (try simp only [Act.put, List.setIfInBounds_toArray, List.set_cons_zero, List.set_cons_succ, List.getElem_toArray, List.getElem_cons_succ, List.getElem_cons_zero])
      refine wpAnyH_ready (rs := [5]) (by kernel_rfl) (by simp) ?_
      refine AllReadyH.cons rfl (fun K hK => ?_) AllReadyH.nil
      go_simp
      (go_at_call 86; refine (l10Digits_any ao S cap HSp.out gr t cr P HPm.out ht3 _ ((hS.below B).below (Below.refl wr.heap.size wr).drew) ((own_ints hoq).below (Below.refl wr.heap.size wr).drew)).mono ?_)
      rintro e x1 ⟨gd, cd, rfl, lsD, hb1⟩
      have H1 : Below wr.heap.size wr x1 := Below.trans (Below.refl wr.heap.size wr).drew (hb1.mono (Below.size (Below.refl wr.heap.size wr).drew))
      refine hK.out _ _ (⟨kept_cell H1 c1 l1, kept_cell H1 hcq hlq⟩) (fun hHeld => ?_)
      clear hK K
      (try simp only [Act.put, List.setIfInBounds_toArray, List.set_cons_zero, List.set_cons_succ, List.getElem_toArray, List.getElem_cons_succ, List.getElem_cons_zero])
      refine wpAnyH_take (i := 6) (v := ?_) rfl (by kernel_rfl) (by kernel_rfl) (by kernel_rfl) (fun _ _ _ h => h) (Or.inl ⟨by rfl, ?_⟩) (by assumption) ?_
      rotate_left
      · (intro w hSw; obtain ⟨hSw0, hSw1⟩ := hSw; (try dsimp only at hSw0 hSw1); go_simp; try (with_reducible rfl))
      (try simp only [Act.put, List.setIfInBounds_toArray, List.set_cons_zero, List.set_cons_succ, List.getElem_toArray, List.getElem_cons_succ, List.getElem_cons_zero])
      refine wpAnyH_done (by kernel_rfl) ?_ _
      (try simp only [Act.put, List.setIfInBounds_toArray, List.set_cons_zero, List.set_cons_succ, List.getElem_toArray, List.getElem_cons_succ, List.getElem_cons_zero])
      have Hn : Below wr.heap.size wr x1 := H1
      obtain ⟨w5, hw5⟩ : ∃ z, z = x1 := ⟨_, rfl⟩
      rw [← hw5] at Hn lsD ⊢
      clear hw5 hHeld
      have lsO5 := lsO.below Hn
      have lsP5 := lsP.below Hn
      have c5 := kept_cell Hn c1 l1
      have l5 := lt_of_below Hn l1
      have B5 := B.trans (Hn.mono B.size)
      have hcp5 := kept_cell Hn hcq hlq
      have hlp5 := lt_of_below Hn hlq
      have hop5 := hoq.below Hn
      have hgdg : gd ≠ g' := by have h1 := (lsD.lo_le gd rfl).1; have h2 := (lsO.lo_le g' rfl).2; have h3 : wr.heap.size ≤ gd := h1; omega
      replace lsD := lsD.rebase (lo' := w.heap.size + 1) l1
      have hDl : (dgTo (szP S P) t).length ≤ 64 := by
        obtain ⟨q1, q2⟩ := szP_bd HSp.out HPm.out
        have := dgTo_num (szP S P) q2 t (by omega)
        have : t = 0 ∨ t = 1 ∨ t = 2 ∨ t = 3 := by omega
        rcases this with rfl | rfl | rfl | rfl <;> omega
      have HDE : Hid (∀ k, k < (dgTo (szP S P) t).length → (rr (dgTo (szP S P) t) k).length = t) := Lib.hid fun k hk => dgTo_len _ _ _ (rr_mem hk)
      obtain ⟨D, hD⟩ : ∃ D, D = dgTo (szP S P) t := ⟨_, rfl⟩
      rw [← hD] at hDl HDE HOn lsD ⊢
      have HTl : Hid (∀ k, k ≤ D.length → (O ++ (D.take k).map fun E => P ++ E).length = O.length + k) := Lib.hid fun k hk => by simp; omega
      have hOD : O.length ≤ 832 := hOl
      clear hD lsO lsP c1 l1 B hcq hlq hoq Hn
      go_wp2_with fail
      go_loopw [6, 9] (fun o x wk => ∃ k g' c' : Nat, k ≤ D.length ∧ x = .int .i64 (k : Int) ∧ o = .slice (some ⟨g', 0, none⟩) (O ++ (D.take k).map fun E => P ++ E).length c' ∧ LsAt wk (w.heap.size + 1) (.slice (some ⟨g', 0, none⟩) (O ++ (D.take k).map fun E => P ++ E).length c') (O ++ (D.take k).map fun E => P ++ E) ∧ LsAt wk (w.heap.size + 1) (.slice (some ⟨gp, 0, none⟩) PL.length cp) PL ∧ LsAt wk (w.heap.size + 1) (.slice (some ⟨gd, 0, none⟩) D.length cd) D ∧ gp ≠ g' ∧ gd ≠ g' ∧ wk.cell? ⟨w.heap.size, 0, none⟩ = some (.slice ao S.length cap) ∧ w.heap.size < wk.heap.size ∧ Below w.heap.size w wk) (fun _ x _ => D.length - (intOf x).toNat)
      case atStart => exact ⟨0, g', c', Nat.zero_le _, rfl, by simp, by simpa using lsO5, lsP5, lsD, hgp, hgdg, c5, l5, B5⟩
      case round =>
        clear lsO5 lsP5 lsD hgp hgdg c5 l5 B5 hcp5 hlp5 hop5
        obtain ⟨k, g', c', hk, rfl, rfl, lsO, lsP, lsD, hgp, hgd, c1, l1, B⟩ := hrel
        have hTl := HTl.out k hk
        have HTs : Hid (k < D.length → (O ++ (D.take k).map fun E => P ++ E) ++ [P ++ rr D k] = O ++ (D.take (k + 1)).map fun E => P ++ E) := Lib.hid fun h => by rw [take_rr D k h]; simp
        have HTa : Hid (k = D.length → (O ++ (D.take k).map fun E => P ++ E) = alJ S t (i + 1)) := Lib.hid fun h => by rw [h, List.take_length, HOn.out]
        obtain ⟨T, hT⟩ : ∃ T, T = O ++ (D.take k).map fun E => P ++ E := ⟨_, rfl⟩
        rw [← hT] at hTl HTs HTa lsO ⊢
        have hT9 : T.length ≤ 896 := by omega
        clear hT hTl
        by_cases hlk : k < D.length
        · have hkI : (k : Int) < (D.length : Int) := by omega
          obtain ⟨gp', gr, cr, hgp', hlp, hcp, hop⟩ := lsP.at hlt
          obtain rfl : gp = gp' := by simpa using hgp'
          obtain ⟨gd', ge, ce, hgd', hld, hcd, hoe⟩ := lsD.at hlk
          obtain rfl : gd = gd' := by simpa using hgd'
          rw [← HP.out, HPl.out] at hcp hop
          have HTn := Lib.hid (HTs.out hlk)
          have hEl := HDE.out k hlk
          obtain ⟨E, hE⟩ : ∃ E, E = rr D k := ⟨_, rfl⟩
          rw [← hE] at hcd hoe HTn hEl
          rw [hEl] at hcd hoe
          have HEl := Lib.hid hEl.symm
          have hlo0 : w.heap.size + 1 ≤ wr.heap.size := l1
          clear hgp' hgd' hE hEl HTs HTa
          go_wp2_with fail
          refine wp_region_held_drew (S := fun w' => w'.cell? ⟨gp, i, none⟩ = some (.slice (some ⟨gr, 0, none⟩) t cr) ∧ w'.cell? ⟨gd, k, none⟩ = some (.slice (some ⟨ge, 0, none⟩) t ce)) (by kernel_rfl) (⟨hcp, hcd⟩) (fun hHeld => ?_)
          refine wpAnyH_take (i := 0) (v := ?_) rfl (by kernel_rfl) (by kernel_rfl) (by kernel_rfl) (fun _ _ _ h => h) (Or.inl ⟨by rfl, ?_⟩) (by assumption) ?_
          rotate_left
          · (intro w hSw; obtain ⟨hSw0, hSw1⟩ := hSw; (try dsimp only at hSw0 hSw1); go_simp; try (with_reducible rfl))
          (try simp only [Act.put, List.setIfInBounds_toArray, List.set_cons_zero, List.set_cons_succ, List.getElem_toArray, List.getElem_cons_succ, List.getElem_cons_zero])
          refine wpAnyH_take (i := 1) (v := ?_) rfl (by kernel_rfl) (by kernel_rfl) (by kernel_rfl) (fun _ _ _ h => h) (Or.inl ⟨by rfl, ?_⟩) (by assumption) ?_
          rotate_left
          · (intro w hSw; obtain ⟨hSw0, hSw1⟩ := hSw; (try dsimp only at hSw0 hSw1); go_simp; try (with_reducible rfl))
          (try simp only [Act.put, List.setIfInBounds_toArray, List.set_cons_zero, List.set_cons_succ, List.getElem_toArray, List.getElem_cons_succ, List.getElem_cons_zero])
          refine wpAnyH_take (i := 2) (v := ?_) rfl (by kernel_rfl) (by kernel_rfl) (by kernel_rfl) (fun _ _ _ h => h) (Or.inl ⟨by rfl, ?_⟩) (by assumption) ?_
          rotate_left
          · (intro w hSw; obtain ⟨hSw0, hSw1⟩ := hSw; (try dsimp only at hSw0 hSw1); go_simp; try (with_reducible rfl))
          (try simp only [Act.put, List.setIfInBounds_toArray, List.set_cons_zero, List.set_cons_succ, List.getElem_toArray, List.getElem_cons_succ, List.getElem_cons_zero])
          refine wpAnyH_take (i := 3) (v := ?_) rfl (by kernel_rfl) (by kernel_rfl) (by kernel_rfl) (fun _ _ _ h => h) (Or.inl ⟨by rfl, ?_⟩) (by assumption) ?_
          rotate_left
          · (intro w hSw; obtain ⟨hSw0, hSw1⟩ := hSw; (try dsimp only at hSw0 hSw1); go_simp; try (with_reducible rfl))
          (try simp only [Act.put, List.setIfInBounds_toArray, List.set_cons_zero, List.set_cons_succ, List.getElem_toArray, List.getElem_cons_succ, List.getElem_cons_zero])
          refine wpAnyH_take (i := 4) (v := ?_) rfl (by kernel_rfl) (by kernel_rfl) (by kernel_rfl) (fun _ _ _ h => h) (Or.inl ⟨by rfl, ?_⟩) (by assumption) ?_
          rotate_left
          · (intro w hSw; obtain ⟨hSw0, hSw1⟩ := hSw; (try dsimp only at hSw0 hSw1); go_simp; try (with_reducible rfl))
          (try simp only [Act.put, List.setIfInBounds_toArray, List.set_cons_zero, List.set_cons_succ, List.getElem_toArray, List.getElem_cons_succ, List.getElem_cons_zero])
          refine wpAnyH_take (i := 6) (v := ?_) rfl (by kernel_rfl) (by kernel_rfl) (by kernel_rfl) (fun _ _ _ h => h) (Or.inl ⟨by rfl, ?_⟩) (by assumption) ?_
          rotate_left
          · (intro w hSw; obtain ⟨hSw0, hSw1⟩ := hSw; (try dsimp only at hSw0 hSw1); go_simp; try (with_reducible rfl))
          (try simp only [Act.put, List.setIfInBounds_toArray, List.set_cons_zero, List.set_cons_succ, List.getElem_toArray, List.getElem_cons_succ, List.getElem_cons_zero])
          refine wpAnyH_take (i := 7) (v := ?_) rfl (by kernel_rfl) (by kernel_rfl) (by kernel_rfl) (fun _ _ _ h => h) (Or.inl ⟨by rfl, ?_⟩) (by assumption) ?_
          rotate_left
          · (intro w hSw; obtain ⟨hSw0, hSw1⟩ := hSw; (try dsimp only at hSw0 hSw1); go_simp; try (with_reducible rfl))
          (try simp only [Act.put, List.setIfInBounds_toArray, List.set_cons_zero, List.set_cons_succ, List.getElem_toArray, List.getElem_cons_succ, List.getElem_cons_zero])
          refine wpAnyH_take (i := 8) (v := ?_) rfl (by kernel_rfl) (by kernel_rfl) (by kernel_rfl) (fun _ _ _ h => h) (Or.inl ⟨by rfl, ?_⟩) (by assumption) ?_
          rotate_left
          · (intro w hSw; obtain ⟨hSw0, hSw1⟩ := hSw; (try dsimp only at hSw0 hSw1); go_simp; try (with_reducible rfl))
          (try simp only [Act.put, List.setIfInBounds_toArray, List.set_cons_zero, List.set_cons_succ, List.getElem_toArray, List.getElem_cons_succ, List.getElem_cons_zero])
          refine wpAnyH_take (i := 9) (v := ?_) rfl (by kernel_rfl) (by kernel_rfl) (by kernel_rfl) (fun _ _ _ h => h) (Or.inl ⟨by rfl, ?_⟩) (by assumption) ?_
          rotate_left
          · (intro w hSw; obtain ⟨hSw0, hSw1⟩ := hSw; (try dsimp only at hSw0 hSw1); go_simp; try (with_reducible rfl))
          (try simp only [Act.put, List.setIfInBounds_toArray, List.set_cons_zero, List.set_cons_succ, List.getElem_toArray, List.getElem_cons_succ, List.getElem_cons_zero])
          refine wpAnyH_ready (rs := [5]) (by kernel_rfl) (by simp) ?_
          refine AllReadyH.cons rfl (fun K hK => ?_) AllReadyH.nil
          go_simp
          (go_at_call 44; refine (l01Own_any ⟨gr, 0, none⟩ P t cr HPl.out.symm (by omega) _ ((own_ints hop).below (Below.refl wr.heap.size wr).drew)).mono ?_)
          rintro e x1 ⟨gz1, cz1, rfl, own1, hb1⟩
          have H1 : Below wr.heap.size wr x1 := Below.trans (Below.refl wr.heap.size wr).drew (hb1.mono (Below.size (Below.refl wr.heap.size wr).drew))
          refine hK.out _ _ (⟨kept_cell H1 hcp hlp, kept_cell H1 hcd hld⟩) (fun hHeld => ?_)
          clear hK K
          (try simp only [Act.put, List.setIfInBounds_toArray, List.set_cons_zero, List.set_cons_succ, List.getElem_toArray, List.getElem_cons_succ, List.getElem_cons_zero])
          refine wpAnyH_ready (rs := [10]) (by kernel_rfl) (by simp) ?_
          refine AllReadyH.cons rfl (fun K hK => ?_) AllReadyH.nil
          rw [if_pos (by kernel_rfl)]
          refine wp_append_intsL (.tmp 37) (.tmp 41) (by kernel_rfl) wr.heap.size _ P (by rfl) own1 ⟨ge, 0, none⟩ E t ce (2 * t) HEl.out ht1 (by rfl) ((own_ints hoe).below H1) (by rw [HPl.out]; omega) (Below.size H1) (by rw [HPl.out]; omega) ?_
          intro g10 c10 x10 own10 hg10 _
          have H10 : Below wr.heap.size wr x10 := grown_below H1 (Below.size H1) hg10 own1 (Nat.le_refl _)
          refine hK.out _ _ (⟨kept_cell H10 hcp hlp, kept_cell H10 hcd hld⟩) (fun hHeld => ?_)
          clear hK K
          (try simp only [Act.put, List.setIfInBounds_toArray, List.set_cons_zero, List.set_cons_succ, List.getElem_toArray, List.getElem_cons_succ, List.getElem_cons_zero])
          refine wpAnyH_ready (rs := [11]) (by kernel_rfl) (by simp) ?_
          refine AllReadyH.cons rfl (fun K hK => ?_) AllReadyH.nil
          go_simp
          have H3 : Below wr.heap.size wr (x10.alloc (.cells #[.slice (some ⟨g10, 0, none⟩) (2 * t) c10] 24)) := Below.alloc H10 (Below.size H10) _
          refine hK.out _ _ (⟨kept_cell H3 hcp hlp, kept_cell H3 hcd hld⟩) (fun hHeld => ?_)
          clear hK K
          (try simp only [Act.put, List.setIfInBounds_toArray, List.set_cons_zero, List.set_cons_succ, List.getElem_toArray, List.getElem_cons_succ, List.getElem_cons_zero])
          refine wpAnyH_ready (rs := [12]) (by kernel_rfl) (by simp) ?_
          refine AllReadyH.cons rfl (fun K hK => ?_) AllReadyH.nil
          rw [if_pos (by kernel_rfl)]
          have lsX := lsO.below H3
          refine wp_append_lsL (.tmp 32) (.tmp 43) (by kernel_rfl) (w.heap.size + 1) _ T (by rfl) lsX x10.heap.size g10 c10 (2 * t) (P ++ E) (by rw [List.length_append, HPl.out, ← HEl.out]; omega) ((own10.rebase hlo0).alloc _) (by rfl) (cell_new _ _ _) (by omega) (Nat.le_trans hlo0 (Below.size H3)) (T.length + 1) rfl ?_
          intro g12 c12 x12 ls12 hg12 hat12
          have H12 : Below (w.heap.size + 1) wr x12 := ls_grown (Below.mono H3 hlo0) (Nat.le_trans hlo0 (Below.size H3)) hg12 lsX (Nat.le_refl _)
          have lsP12 := (lsP.below H3).kept2 lsX hg12 (.inr (by simp only [Value.ownBlock]; intro e; exact hgp (Option.some.inj e)))
          have lsD12 := (lsD.below H3).kept2 lsX hg12 (.inr (by simp only [Value.ownBlock]; intro e; exact hgd (Option.some.inj e)))
          refine hK.out _ _ (⟨hg12.cell (kept_cell H3 hcp hlp) (by simp only [Value.ownBlock]; intro e; exact hgp (Option.some.inj e)), hg12.cell (kept_cell H3 hcd hld) (by simp only [Value.ownBlock]; intro e; exact hgd (Option.some.inj e))⟩) (fun hHeld => ?_)
          clear hK K
          (try simp only [Act.put, List.setIfInBounds_toArray, List.set_cons_zero, List.set_cons_succ, List.getElem_toArray, List.getElem_cons_succ, List.getElem_cons_zero])
          refine wpAnyH_take (i := 13) (v := ?_) rfl (by kernel_rfl) (by kernel_rfl) (by kernel_rfl) (fun _ _ _ h => h) (Or.inl ⟨by rfl, ?_⟩) (by assumption) ?_
          rotate_left
          · (intro w hSw; obtain ⟨hSw0, hSw1⟩ := hSw; (try dsimp only at hSw0 hSw1); go_simp; try (with_reducible rfl))
          (try simp only [Act.put, List.setIfInBounds_toArray, List.set_cons_zero, List.set_cons_succ, List.getElem_toArray, List.getElem_cons_succ, List.getElem_cons_zero])
          refine wpAnyH_done (by kernel_rfl) ?_ _
          (try simp only [Act.put, List.setIfInBounds_toArray, List.set_cons_zero, List.set_cons_succ, List.getElem_toArray, List.getElem_cons_succ, List.getElem_cons_zero])
          have c12b := kept_cell H12 c1 (Nat.lt_succ_self _)
          have l12 := Nat.lt_of_lt_of_le l1 H12.size
          have B12 := B.trans (H12.mono (Nat.le_succ _))
          have hne12 : gp ≠ g12 := by
              rcases hat12 with e | e
              · have e' : g' = g12 := Option.some.inj e
                omega
              · have h1 := (lsP.lo_le gp rfl).2; have h2 := Below.size H3; have h3 : g12 = _ := e; omega
          have hned12 : gd ≠ g12 := by
              rcases hat12 with e | e
              · have e' : g' = g12 := Option.some.inj e
                omega
              · have h1 := (lsD.lo_le gd rfl).2; have h2 := Below.size H3; have h3 : g12 = _ := e; omega
          clear hHeld lsX lsO lsP lsD c1 l1 B hcp hcd hg12 hat12 hgp hgd hop hoe
          rw [HTn.out] at ls12
          have HTm : Hid (T.length + 1 = (O ++ (D.take (k + 1)).map fun E => P ++ E).length) := Lib.hid (by rw [← HTn.out]; simp)
          rw [HTm.out] at ls12 ⊢
          go_wp2_with fail
          go_roundw
          case rel => exact ⟨k + 1, g12, c12, by omega, by go_num, rfl, ls12, lsP12, lsD12, hne12, hned12, c12b, l12, B12⟩
          case measure => simp [intOf]; omega
        · have hkI : ¬ (k : Int) < (D.length : Int) := by omega
          have HTe := Lib.hid (HTa.out (by omega))
          rw [HTe.out] at lsO ⊢
          go_wp2_with fail
          go_roundw
          case rel => exact ⟨i + 1, g', c', by omega, by go_num, rfl, lsO, lsP, hgp, c1, l1, B⟩
          case measure => simp [intOf]; omega
    · have hlI : ¬ (i : Int) < (PL.length : Int) := by omega
      have HE : Hid (O = allC S t) := Lib.hid (by rw [HO.out, ← HAA.out, show i = PL.length by omega])
      rw [HE.out] at lsO
      go_wp2_with fail
      go_ret
      exact ⟨g', c', by rw [HE.out]; rfl, lsO.rebase (Nat.le_succ _), B⟩

end Go.Proofs.YtpmfedllbiblbaaGreat

namespace Go.Proofs.YtpmfedllbiblbaaGreat
open Go.RowKit Cv
set_option linter.unusedVariables false
set_option linter.unusedSimpArgs false
set_option maxRecDepth 100000

/-- the first k places of a choice of t places have their digits -/
def hcTo (D c : List Int) (t : Nat) : Nat → Bool
  | 0 => true
  | k + 1 => hcTo D c t k && (gi D (gi c k).toNat == gi c (t + k))
def hasC (D c : List Int) : Bool := hcTo D c (c.length / 2) (c.length / 2)
theorem hcTo_no {D c : List Int} {t k : Nat} (h : (gi D (gi c k).toNat == gi c (t + k)) = false) (n : Nat) (hk : k < n) : hcTo D c t n = false := by
  induction n with
  | zero => omega
  | succ n ih =>
    rw [hcTo]
    by_cases e : k = n
    · subst e; rw [h, Bool.and_false]
    · rw [ih (by omega), Bool.false_and]

set_option maxHeartbeats 1000000 in
theorem l10Has_any (gD n cD : Nat) (D : List Int) (gc m cc t : Nat) (c : List Int) (hDl : D.length = n) (hn8 : n ≤ 8) (hcl : c.length = m) (hm : m = 2 * t) (ht3 : t ≤ 3) (hcb : ∀ k, k < t → 0 ≤ gi c k ∧ gi c k < n) (w : World) (hD : Ints w (some ⟨gD, 0, none⟩) D) (hc : Ints w (some ⟨gc, 0, none⟩) c) :
    Calls Tryz.prog 56 #[.slice (some ⟨gD, 0, none⟩) n cD, .slice (some ⟨gc, 0, none⟩) m cc] w fun e w' => e = .returned (.bool (hasC D c)) ∧ Below w.heap.size w w' := by
  have HX : Hid (hasC D c = hcTo D c t t) := Lib.hid (by unfold hasC; rw [hcl, hm, Nat.mul_div_cancel_left _ (by omega)])
  have e2 : (m : Int).tdiv 2 = (t : Int) := by rw [Int.tdiv_eq_ediv_of_nonneg (by omega)]; omega
  have m6 : m ≤ 6 := by omega
  have HC : Hid (∀ k, k < t → ∃ p : Nat, gi c k = (p : Int) ∧ p < n ∧ gD < w.heap.size ∧ gc < w.heap.size ∧ w.cell? ⟨gc, k, none⟩ = some (.int .i64 (p : Int)) ∧ w.cell? ⟨gD, p, none⟩ = some (.int .i64 (gi D p)) ∧ w.cell? ⟨gc, t + k, none⟩ = some (.int .i64 (gi c (t + k)))) := Lib.hid fun k hk => by
    have h := hcb k hk
    obtain ⟨b, o, he, hb, hcc⟩ := hc.at (show k < c.length by omega)
    cases he
    obtain ⟨b, o, he, hbD, hDD⟩ := hD.at (show (gi c k).toNat < D.length by omega)
    cases he
    have h1 := hcc k (by omega)
    have h2 := hcc (t + k) (by omega)
    have h3 := hDD (gi c k).toNat (by omega)
    rw [Nat.zero_add] at h1 h2 h3
    exact ⟨(gi c k).toNat, by omega, by omega, hbD, hb, by rw [h1]; congr 2; omega, h3, h2⟩
  have HN := Lib.hid fun k => @hcTo_no D c t k
  have HmI := Lib.hid hm
  clear hcb hD hc hm
  go_enter Tryz.func56, Tryz.ntmps56
  go_wp2_with fail
  clear e2
  go_loopw [6] (fun x wr => ∃ k : Nat, k ≤ t ∧ x = .int .i64 (k : Int) ∧ Hid (hcTo D c t k = true) ∧ Below w.heap.size w wr) (fun x _ => t - (intOf x).toNat)
  case atStart => exact ⟨0, Nat.zero_le _, rfl, Lib.hid rfl, Below.refl _ _⟩
  case round =>
    obtain ⟨k, hk, rfl, HK, B⟩ := hrel
    by_cases hlt : k < t
    · have hkI : (k : Int) < (t : Int) := by omega
      obtain ⟨p, hp, hpn, l1, l2, k1, k2, k3⟩ := HC.out k hlt
      have hpI : (p : Int) < (n : Int) := by omega
      have hp0 : (0 : Int) ≤ (p : Int) := by omega
      have htm : t + k < m := by have := HmI.out; omega
      have HQ : Hid (gi D (gi c k).toNat = gi D p) := Lib.hid (by rw [hp, Int.toNat_natCast])
      have htk : (t : Int) + (k : Int) = ((t + k : Nat) : Int) := by push_cast; rfl
      obtain ⟨x, hx⟩ : ∃ x, x = gi D p := ⟨_, rfl⟩
      obtain ⟨y, hy⟩ : ∃ y, y = gi c (t + k) := ⟨_, rfl⟩
      rw [← hx] at k2 HQ
      rw [← hy] at k3
      have HY := Lib.hid hy
      clear hx hy hp
      replace k1 := kept_cell B k1 l2
      replace k2 := kept_cell B k2 l1
      replace k3 := kept_cell B k3 l2
      obtain ⟨u, hu⟩ : ∃ u, u = t + k := ⟨_, rfl⟩
      rw [← hu] at htk htm k3
      have HU := Lib.hid hu
      clear hu
      by_cases hxy : x = y
      · have HS : Hid (hcTo D c t (k + 1) = true) := Lib.hid (by rw [hcTo, HK.out, HQ.out, ← HY.out, hxy]; simp)
        subst hxy
        go_wp2_with fail
        go_quiet (fail)
        go_wp2_with fail
        go_roundw
        case rel => exact ⟨k + 1, by omega, by go_num, HS, below_drewN B _⟩
        case measure => simp [intOf]; omega
      · have hb : (x != y) = true := by simpa using hxy
        have HF : Hid (hasC D c = false) := Lib.hid (by rw [HX.out]; exact HN.out k (by rw [HQ.out, ← HY.out]; simpa using hxy) t hlt)
        clear hxy
        go_wp2_with fail
        go_quiet (fail)
        go_wp2_with fail
        go_ret
        exact ⟨ret_bool HF.out.symm, below_drewN B _⟩
    · have hkI : ¬ (k : Int) < (t : Int) := by omega
      have HF : Hid (hasC D c = true) := Lib.hid (by rw [HX.out, ← HK.out, show k = t by omega])
      go_wp2_with fail
      go_ret
      exact ⟨ret_bool HF.out.symm, B⟩

end Go.Proofs.YtpmfedllbiblbaaGreat

namespace Go.Proofs.YtpmfedllbiblbaaGreat
open Go.RowKit Cv
set_option linter.unusedVariables false
set_option linter.unusedSimpArgs false
set_option maxRecDepth 100000

/-- the choices of a list that a row lacks, that some rows lack -/
def msK (D : List Int) (L : List (List Int)) (k : Nat) : List (List Int) := (L.take k).filter fun c => !hasC D c
def msTo (S : List Int) (C : List (List Int)) (R : List Int) : Nat → List (List Int)
  | 0 => C
  | i + 1 => (msTo S C R i).filter fun c => !hasC (digs S (gi R i)) c
theorem msK_succ (D : List Int) (L : List (List Int)) (k : Nat) (h : k < L.length) : msK D L (k + 1) = msK D L k ++ if hasC D (rr L k) = true then [] else [rr L k] := by
  unfold msK
  rw [take_rr L k h, List.filter_append]
  by_cases e : hasC D (rr L k) = true <;> simp [e]
theorem msK_all (S : List Int) (C : List (List Int)) (R : List Int) (i : Nat) : msK (digs S (gi R i)) (msTo S C R i) (msTo S C R i).length = msTo S C R (i + 1) := by unfold msK; rw [List.take_length]; rfl
theorem msK_len (D : List Int) (L : List (List Int)) (k : Nat) : (msK D L k).length ≤ L.length := Nat.le_trans (List.length_filter_le _ _) (by rw [List.length_take]; omega)
theorem msTo_sub (S : List Int) (C : List (List Int)) (R : List Int) (i : Nat) : (msTo S C R i).length ≤ C.length ∧ ∀ c, c ∈ msTo S C R i → c ∈ C := by
  induction i with
  | zero => exact ⟨Nat.le_refl _, fun c h => h⟩
  | succ i ih =>
    exact ⟨Nat.le_trans (List.length_filter_le _ _) ih.1, fun c h => ih.2 c (List.mem_filter.1 h).1⟩
/-- a list of choices of t places of n -/
def IsCs (n t : Nat) (C : List (List Int)) : Prop := ∀ c, c ∈ C → c.length = 2 * t ∧ ∀ k, k < t → 0 ≤ gi c k ∧ gi c k < n
theorem allC_cs {S : List Int} (t : Nat) : IsCs S.length t (allC S t) := by
  intro c h
  refine ⟨allC_len2 S t c h, ?_⟩
  simp only [allC, List.mem_flatMap, List.mem_map] at h
  obtain ⟨P, hP, D, hD, rfl⟩ := h
  obtain ⟨h1, h2⟩ := plM_len _ _ _ _ hP
  intro k hk
  rw [gi_append_lt _ _ _ (by omega)]
  have := h2 (gi P k) (by rw [gi_lt _ _ (by omega)]; exact List.getElem_mem _)
  omega

set_option maxHeartbeats 4000000 in
theorem l10Missing_any (ao : Option Addr) (S : List Int) (cap : Nat) (hSp : Sp S) (lo gA cA t : Nat) (C : List (List Int)) (ht3 : t ≤ 3) (hCl : C.length ≤ 1048576) (hC : IsCs S.length t C) (ar : Option Addr) (R : List Int) (capr : Nat) (hRl : R.length ≤ 1048576) (hR : ∀ i, i < R.length → 0 ≤ gi R i ∧ gi R i < nW S) (w : World) (hlo : lo ≤ w.heap.size) (hS : Ints w ao S) (hA : LsAt w lo (.slice (some ⟨gA, 0, none⟩) C.length cA) C) (hRI : Ints w ar R) :
    Calls Tryz.prog 45 #[.agg #[.slice ao S.length cap], .slice (some ⟨gA, 0, none⟩) C.length cA, .slice ar R.length capr] w fun e w' => ∃ g c, e = .returned (.slice (some ⟨g, 0, none⟩) (msTo S C R R.length).length c) ∧ LsAt w' lo (.slice (some ⟨g, 0, none⟩) (msTo S C R R.length).length c) (msTo S C R R.length) ∧ Below w.heap.size w w' := by
  have HSp := Lib.hid hSp
  have HR := Lib.hid hR
  have HC := Lib.hid hC
  have HM := Lib.hid fun i => msTo_sub S C R i
  have HKA := Lib.hid fun i => msK_all S C R i
  have hn8 := hSp.hi
  obtain ⟨N1, N2⟩ := nW_bd hSp
  obtain ⟨N, hN⟩ : ∃ N, N = nW S := ⟨_, rfl⟩
  rw [← hN] at HR N1 N2
  clear hN hR hC hSp
  have B0 : Below w.heap.size w (w.alloc (.cells #[.slice ao S.length cap] 26)) := by go_grown
  have c0 := cell_new w (.slice ao S.length cap) 26
  have l0 := lt_alloc w (.cells #[.slice ao S.length cap] 26)
  have ls0 := hA.alloc (.cells #[.slice ao S.length cap] 26)
  go_enter Tryz.func45, Tryz.ntmps45
  go_wp2_with fail
  go_loopw [7, 8] (fun o x wr => ∃ i gl cl : Nat, i ≤ R.length ∧ x = .int .i64 (i : Int) ∧ o = .slice (some ⟨gl, 0, none⟩) (msTo S C R i).length cl ∧ LsAt wr lo (.slice (some ⟨gl, 0, none⟩) (msTo S C R i).length cl) (msTo S C R i) ∧ wr.cell? ⟨w.heap.size, 0, none⟩ = some (.slice ao S.length cap) ∧ w.heap.size < wr.heap.size ∧ Below w.heap.size w wr) (fun _ x _ => R.length - (intOf x).toNat)
  case atStart => exact ⟨0, gA, cA, Nat.zero_le _, rfl, rfl, ls0, c0, l0, B0⟩
  case round =>
    clear ls0 c0 l0 B0
    obtain ⟨i, gl, cl, hi, rfl, rfl, lsL, c1, l1, B⟩ := hrel
    obtain ⟨hMl, hMs⟩ := HM.out i
    have HKi := Lib.hid (HKA.out i)
    obtain ⟨L, hL⟩ : ∃ L, L = msTo S C R i := ⟨_, rfl⟩
    rw [← hL] at hMl hMs HKi lsL ⊢
    have HL := Lib.hid hL
    have HLC : Hid (∀ k, k < L.length → (rr L k).length = 2 * t ∧ ∀ j, j < t → 0 ≤ gi (rr L k) j ∧ gi (rr L k) j < S.length) := Lib.hid fun k hk => HC.out _ (hMs _ (rr_mem hk))
    clear hL hMs
    by_cases hlt : i < R.length
    · have hlI : (i : Int) < (R.length : Int) := by omega
      obtain ⟨x1, x2⟩ := HR.out i hlt
      obtain ⟨b, o, rfl, hbr, hcr⟩ := hRI.at hlt
      replace hcr := kept_cell B (hcr i hlt) hbr
      have hlr := lt_of_below B hbr
      obtain ⟨x, hx⟩ : ∃ x, x = gi R i := ⟨_, rfl⟩
      rw [← hx] at x1 x2 hcr HKi
      clear hx
      have hx0 := x1
      have hx9 : x ≤ 9223372036854775807 := by omega
      have hlo2 : lo ≤ wr.heap.size := Nat.le_trans hlo B.size
      have hiR : i < R.length := hlt
      go_upto_region 5 with fail
      go_cut [9, 10] from 19 to 26 (fun s9 s10 wx => ∃ gD gx : Nat, s9 = .slice (some ⟨gD, 0, none⟩) S.length S.length ∧ s10 = .slice (some ⟨gx, 0, none⟩) 0 0 ∧ OwnInts wx wr.heap.size (.slice (some ⟨gD, 0, none⟩) S.length S.length) (digs S x) ∧ LsAt wx lo (.slice (some ⟨gx, 0, none⟩) 0 0) [] ∧ wr.heap.size ≤ gx ∧ Below wr.heap.size wr wx)
      case first =>
        refine wp_region_held_drew (S := fun w' => w'.cell? ⟨w.heap.size, 0, none⟩ = some (.slice ao S.length cap) ∧ w'.cell? ⟨b, o + i, none⟩ = some (.int .i64 x)) (by kernel_rfl) (⟨c1, hcr⟩) (fun hHeld => ?_)
        refine wpAnyH_take (i := 0) (v := ?_) rfl (by kernel_rfl) (by kernel_rfl) (by kernel_rfl) (fun _ _ _ h => h) (Or.inl ⟨by rfl, ?_⟩) (by assumption) ?_
        rotate_left
        · (intro w hSw; obtain ⟨hSw0, hSw1⟩ := hSw; (try dsimp only at hSw0 hSw1); go_simp; try (with_reducible rfl))
        (try simp only [Act.put, List.setIfInBounds_toArray, List.set_cons_zero, List.set_cons_succ, List.getElem_toArray, List.getElem_cons_succ, List.getElem_cons_zero])
        refine wpAnyH_take (i := 1) (v := ?_) rfl (by kernel_rfl) (by kernel_rfl) (by kernel_rfl) (fun _ _ _ h => h) (Or.inl ⟨by rfl, ?_⟩) (by assumption) ?_
        rotate_left
        · (intro w hSw; obtain ⟨hSw0, hSw1⟩ := hSw; (try dsimp only at hSw0 hSw1); go_simp; try (with_reducible rfl))
        (try simp only [Act.put, List.setIfInBounds_toArray, List.set_cons_zero, List.set_cons_succ, List.getElem_toArray, List.getElem_cons_succ, List.getElem_cons_zero])
        refine wpAnyH_take (i := 2) (v := ?_) rfl (by kernel_rfl) (by kernel_rfl) (by kernel_rfl) (fun _ _ _ h => h) (Or.inl ⟨by rfl, ?_⟩) (by assumption) ?_
        rotate_left
        · (intro w hSw; obtain ⟨hSw0, hSw1⟩ := hSw; (try dsimp only at hSw0 hSw1); go_simp; try (with_reducible rfl))
        (try simp only [Act.put, List.setIfInBounds_toArray, List.set_cons_zero, List.set_cons_succ, List.getElem_toArray, List.getElem_cons_succ, List.getElem_cons_zero])
        refine wpAnyH_take (i := 3) (v := ?_) rfl (by kernel_rfl) (by kernel_rfl) (by kernel_rfl) (fun _ _ _ h => h) (Or.inl ⟨by rfl, ?_⟩) (by assumption) ?_
        rotate_left
        · (intro w hSw; obtain ⟨hSw0, hSw1⟩ := hSw; (try dsimp only at hSw0 hSw1); go_simp; try (with_reducible rfl))
        (try simp only [Act.put, List.setIfInBounds_toArray, List.set_cons_zero, List.set_cons_succ, List.getElem_toArray, List.getElem_cons_succ, List.getElem_cons_zero])
        refine wpAnyH_take (i := 4) (v := ?_) rfl (by kernel_rfl) (by kernel_rfl) (by kernel_rfl) (fun _ _ _ h => h) (Or.inl ⟨by rfl, ?_⟩) (by assumption) ?_
        rotate_left
        · (intro w hSw; obtain ⟨hSw0, hSw1⟩ := hSw; (try dsimp only at hSw0 hSw1); go_simp; try (with_reducible rfl))
        (try simp only [Act.put, List.setIfInBounds_toArray, List.set_cons_zero, List.set_cons_succ, List.getElem_toArray, List.getElem_cons_succ, List.getElem_cons_zero])
        refine wpAnyH_ready (rs := [5, 6]) (by kernel_rfl) (by simp) ?_
        refine AllReadyH.cons rfl (fun K hK => ?_) ?_
        · go_simp
          (go_at_call 55; refine (l01Digits_any ao S cap HSp.out.hi HSp.out.bd x hx0 hx9 _ ((hS.below B).below (Below.refl wr.heap.size wr).drew)).mono ?_)
          rintro e x1 ⟨gD1, rfl, own1, hb1⟩
          have H1 : Below wr.heap.size wr x1 := Below.trans (Below.refl wr.heap.size wr).drew (hb1.mono (Below.size (Below.refl wr.heap.size wr).drew))
          replace own1 := own1.rebase (base' := wr.heap.size) (Below.size (Below.refl wr.heap.size wr).drew)
          refine hK.out _ _ (⟨kept_cell H1 c1 l1, kept_cell H1 hcr hlr⟩) (fun hHeld => ?_)
          clear hK K
          (try simp only [Act.put, List.setIfInBounds_toArray, List.set_cons_zero, List.set_cons_succ, List.getElem_toArray, List.getElem_cons_succ, List.getElem_cons_zero])
          refine wpAnyH_take (i := 7) (v := ?_) rfl (by kernel_rfl) (by kernel_rfl) (by kernel_rfl) (fun _ _ _ h => h) (Or.inl ⟨by rfl, ?_⟩) (by assumption) ?_
          rotate_left
          · (intro w hSw; obtain ⟨hSw0, hSw1⟩ := hSw; (try dsimp only at hSw0 hSw1); go_simp; try (with_reducible rfl))
          (try simp only [Act.put, List.setIfInBounds_toArray, List.set_cons_zero, List.set_cons_succ, List.getElem_toArray, List.getElem_cons_succ, List.getElem_cons_zero])
          refine wpAnyH_ready (rs := [6]) (by kernel_rfl) (by simp) ?_
          refine AllReadyH.cons rfl (fun K hK => ?_) AllReadyH.nil
          go_simp
          have H2 : Below wr.heap.size wr (x1.alloc (.cells #[] 24)) := Below.alloc H1 (Below.size H1) _
          replace own1 := own1.below ((Below.refl _ x1).alloc (Nat.le_refl _) (.cells #[] 24))
          have lsx2 := LsAt.empty x1 lo (Nat.le_trans hlo2 (Below.size H1)) (n := x1.heap.size) rfl
          have hgx2 : wr.heap.size ≤ x1.heap.size := Below.size H1
          refine hK.out _ _ (⟨kept_cell H2 c1 l1, kept_cell H2 hcr hlr⟩) (fun hHeld => ?_)
          clear hK K
          (try simp only [Act.put, List.setIfInBounds_toArray, List.set_cons_zero, List.set_cons_succ, List.getElem_toArray, List.getElem_cons_succ, List.getElem_cons_zero])
          refine wpAnyH_take (i := 8) (v := ?_) rfl (by kernel_rfl) (by kernel_rfl) (by kernel_rfl) (fun _ _ _ h => h) (Or.inl ⟨by rfl, ?_⟩) (by assumption) ?_
          rotate_left
          · (intro w hSw; obtain ⟨hSw0, hSw1⟩ := hSw; (try dsimp only at hSw0 hSw1); go_simp; try (with_reducible rfl))
          (try simp only [Act.put, List.setIfInBounds_toArray, List.set_cons_zero, List.set_cons_succ, List.getElem_toArray, List.getElem_cons_succ, List.getElem_cons_zero])
          refine wpAnyH_done (by kernel_rfl) ?_ _
          (try simp only [Act.put, List.setIfInBounds_toArray, List.set_cons_zero, List.set_cons_succ, List.getElem_toArray, List.getElem_cons_succ, List.getElem_cons_zero])
          go_wp2_with fail
          go_meet
          exact ⟨_, _, rfl, rfl, own1, lsx2, hgx2, H2⟩
        refine AllReadyH.cons rfl (fun K hK => ?_) AllReadyH.nil
        go_simp
        have H1 : Below wr.heap.size wr (wr.drew.alloc (.cells #[] 24)) := Below.alloc (Below.refl wr.heap.size wr).drew (Below.size (Below.refl wr.heap.size wr).drew) _
        have lsx1 := LsAt.empty wr.drew lo (Nat.le_trans hlo2 (Below.size (Below.refl wr.heap.size wr).drew)) (n := wr.drew.heap.size) rfl
        have hgx1 : wr.heap.size ≤ wr.drew.heap.size := Below.size (Below.refl wr.heap.size wr).drew
        refine hK.out _ _ (⟨kept_cell H1 c1 l1, kept_cell H1 hcr hlr⟩) (fun hHeld => ?_)
        clear hK K
        (try simp only [Act.put, List.setIfInBounds_toArray, List.set_cons_zero, List.set_cons_succ, List.getElem_toArray, List.getElem_cons_succ, List.getElem_cons_zero])
        refine wpAnyH_ready (rs := [5]) (by kernel_rfl) (by simp) ?_
        refine AllReadyH.cons rfl (fun K hK => ?_) AllReadyH.nil
        go_simp
        (go_at_call 55; refine (l01Digits_any ao S cap HSp.out.hi HSp.out.bd x hx0 hx9 _ ((hS.below B).below H1)).mono ?_)
        rintro e x2 ⟨gD2, rfl, own2, hb2⟩
        have H2 : Below wr.heap.size wr x2 := Below.trans H1 (hb2.mono (Below.size H1))
        replace lsx1 := lsx1.below hb2
        replace own2 := own2.rebase (base' := wr.heap.size) (Below.size H1)
        refine hK.out _ _ (⟨kept_cell H2 c1 l1, kept_cell H2 hcr hlr⟩) (fun hHeld => ?_)
        clear hK K
        (try simp only [Act.put, List.setIfInBounds_toArray, List.set_cons_zero, List.set_cons_succ, List.getElem_toArray, List.getElem_cons_succ, List.getElem_cons_zero])
        refine wpAnyH_take (i := 7) (v := ?_) rfl (by kernel_rfl) (by kernel_rfl) (by kernel_rfl) (fun _ _ _ h => h) (Or.inl ⟨by rfl, ?_⟩) (by assumption) ?_
        rotate_left
        · (intro w hSw; obtain ⟨hSw0, hSw1⟩ := hSw; (try dsimp only at hSw0 hSw1); go_simp; try (with_reducible rfl))
        (try simp only [Act.put, List.setIfInBounds_toArray, List.set_cons_zero, List.set_cons_succ, List.getElem_toArray, List.getElem_cons_succ, List.getElem_cons_zero])
        refine wpAnyH_take (i := 8) (v := ?_) rfl (by kernel_rfl) (by kernel_rfl) (by kernel_rfl) (fun _ _ _ h => h) (Or.inl ⟨by rfl, ?_⟩) (by assumption) ?_
        rotate_left
        · (intro w hSw; obtain ⟨hSw0, hSw1⟩ := hSw; (try dsimp only at hSw0 hSw1); go_simp; try (with_reducible rfl))
        (try simp only [Act.put, List.setIfInBounds_toArray, List.set_cons_zero, List.set_cons_succ, List.getElem_toArray, List.getElem_cons_succ, List.getElem_cons_zero])
        refine wpAnyH_done (by kernel_rfl) ?_ _
        (try simp only [Act.put, List.setIfInBounds_toArray, List.set_cons_zero, List.set_cons_succ, List.getElem_toArray, List.getElem_cons_succ, List.getElem_cons_zero])
        go_wp2_with fail
        go_meet
        exact ⟨_, _, rfl, rfl, own2, lsx1, hgx1, H2⟩
      case rest =>
      obtain ⟨gD, gx, rfl, rfl, ownD, lsN, hgx, Hn⟩ := hcut
      obtain ⟨w0, rfl⟩ : ∃ w0, w0 = wr := ⟨_, rfl⟩
      have hgl := lsL.lo_le gl rfl
      have hgg : gl ≠ gx := by omega
      have hgx1 : w.heap.size + 1 ≤ gx := Nat.le_trans l1 hgx
      have lsL5 := lsL.below Hn
      have c5 := kept_cell Hn c1 l1
      have l5 := lt_of_below Hn l1
      have B5 := B.trans (Hn.mono B.size)
      have HDl := digs_length S x
      obtain ⟨D, hD⟩ : ∃ D, D = digs S x := ⟨_, rfl⟩
      rw [← hD] at ownD HKi HDl
      have HDL := Lib.hid HDl
      have HKs := Lib.hid fun k (h : k < L.length) => msK_succ D L k h
      have HKl := Lib.hid fun k => msK_len D L k
      have h0g : lo ≤ w0.heap.size := hlo2
      clear hD HDl lsL c1 l1 B hcr hlr hgl hgx Hn x1 x2
      go_wp2_with fail
      go_loopw [10, 11] (fun o x wk => ∃ k g5 c5 : Nat, k ≤ L.length ∧ x = .int .i64 (k : Int) ∧ o = .slice (some ⟨g5, 0, none⟩) (msK D L k).length c5 ∧ LsAt wk lo (.slice (some ⟨g5, 0, none⟩) (msK D L k).length c5) (msK D L k) ∧ LsAt wk lo (.slice (some ⟨gl, 0, none⟩) L.length cl) L ∧ OwnInts wk w0.heap.size (.slice (some ⟨gD, 0, none⟩) S.length S.length) D ∧ gl ≠ g5 ∧ w.heap.size + 1 ≤ g5 ∧ wk.cell? ⟨w.heap.size, 0, none⟩ = some (.slice ao S.length cap) ∧ w.heap.size < wk.heap.size ∧ Below w.heap.size w wk) (fun _ x _ => L.length - (intOf x).toNat)
      case atStart => exact ⟨0, gx, 0, Nat.zero_le _, rfl, rfl, lsN, lsL5, ownD, hgg, hgx1, c5, l5, B5⟩
      case round =>
        clear lsN lsL5 ownD hgg c5 l5 B5
        obtain ⟨k, g5, c5, hk, rfl, rfl, lsN, lsL, ownD, hgg, hg5, c1, l1, B⟩ := hrel
        have HNs := Lib.hid (HKs.out k)
        have hNl := HKl.out k
        have HNa : Hid (k = L.length → msK D L k = msTo S C R (i + 1)) := Lib.hid fun h => by rw [h, HKi.out]
        obtain ⟨T, hT⟩ : ∃ T, T = msK D L k := ⟨_, rfl⟩
        rw [← hT] at HNs hNl HNa lsN ⊢
        clear hT
        by_cases hlk : k < L.length
        · have hkI : (k : Int) < (L.length : Int) := by omega
          obtain ⟨gl', gr, cr, hgl', hlp, hcp, hop⟩ := lsL.at hlk
          obtain rfl : gl = gl' := by simpa using hgl'
          obtain ⟨hEl, hEb⟩ := HLC.out k hlk
          have HNn := Lib.hid (HNs.out hlk)
          obtain ⟨E, hE⟩ : ∃ E, E = rr L k := ⟨_, rfl⟩
          rw [← hE] at hEl hEb HNn hcp hop
          obtain ⟨m, hm⟩ : ∃ m, m = E.length := ⟨_, rfl⟩
          rw [← hm] at hEl hcp hop
          have HEm := Lib.hid hm
          have HmI := Lib.hid hEl
          have HEb := Lib.hid hEb
          have hm6 : m ≤ 6 := by omega
          clear hgl' hE hm HNs HNa hEb hEl
          cases hh : hasC D E with
          | true =>
            have HT2 : Hid (msK D L (k + 1) = T) := Lib.hid (by rw [HNn.out, if_pos hh, List.append_nil])
            have HH := Lib.hid hh
            clear hh
            go_wp2_with fail
            refine (l10Has_any gD S.length S.length D gr m cr t E HDL.out hn8 HEm.out.symm HmI.out ht3 HEb.out wr (own_ints ownD) (own_ints hop)).mono ?_
            rw [HH.out]
            rintro e w5 ⟨rfl, hb5⟩
            have lsN5 := lsN.below hb5
            have lsL5 := lsL.below hb5
            have ownD5 := ownD.below hb5
            have c5b := kept_cell hb5 c1 l1
            have l5 := lt_of_below hb5 l1
            have B5 := B.trans (hb5.mono B.size)
            clear lsN lsL ownD c1 l1 B hcp hop hlp hb5
            go_wp2_with fail
            go_roundw
            case rel => exact ⟨k + 1, g5, c5, by omega, by go_num, by rw [HT2.out], by rw [HT2.out]; exact lsN5, lsL5, ownD5, hgg, hg5, c5b, l5, B5⟩
            case measure => simp [intOf]; omega
          | false =>
            have HT2 : Hid (msK D L (k + 1) = T ++ [E]) := Lib.hid (by rw [HNn.out, if_neg (by rw [hh]; decide)])
            have HH := Lib.hid hh
            clear hh
            go_wp2_with fail
            refine (l10Has_any gD S.length S.length D gr m cr t E HDL.out hn8 HEm.out.symm HmI.out ht3 HEb.out wr (own_ints ownD) (own_ints hop)).mono ?_
            rw [HH.out]
            rintro e w5 ⟨rfl, hb5⟩
            have lsN5 := lsN.below hb5
            have lsL5 := lsL.below hb5
            have ownD5 := ownD.below hb5
            have c5b := kept_cell hb5 c1 l1
            have l5 := lt_of_below hb5 l1
            have B5 := B.trans (hb5.mono B.size)
            have hcp5 := kept_cell hb5 hcp hlp
            have hlp5 := lt_of_below hb5 hlp
            have hop5 := hop.below hb5
            have hlo5 : lo ≤ w5.heap.size := Nat.le_trans (Nat.le_trans hlo (Nat.le_of_lt l1)) hb5.size
            clear lsN lsL ownD c1 l1 B hcp hop hlp hb5
            go_wp2_with (first
              | (at_builtin; refine wpList_append_ls rfl _ _ rfl lo _ T rfl (lsN5.alloc _) w5.heap.size gr cr m E HEm.out (hop5.alloc _) rfl (cell_new _ _ _) (by omega) (by simp; omega) ?_; intro g9 c9 w9 ls9 hg9 hat9)
              | fail)
            have lsN6 := lsN5.alloc (.cells #[.slice (some ⟨gr, 0, none⟩) m cr] 24)
            have lsL9 := (lsL5.alloc (.cells #[.slice (some ⟨gr, 0, none⟩) m cr] 24)).kept2 lsN6 hg9 (.inr (by simp only [Value.ownBlock]; intro e; exact hgg (Option.some.inj e)))
            have ownD9 : OwnInts w9 w0.heap.size (.slice (some ⟨gD, 0, none⟩) S.length S.length) D := by
              obtain ⟨hs, _, e2, _⟩ := lsN6
              exact (ownD5.alloc (.cells #[.slice (some ⟨gr, 0, none⟩) m cr] 24)).kept hg9 (ls_apart e2 (ownD5.alloc _))
            have B8 : Below (w.heap.size + 1) w5 (w5.alloc (.cells #[.slice (some ⟨gr, 0, none⟩) m cr] 24)) := ((Below.refl _ w5).mono l5).alloc l5 _
            have B9 : Below (w.heap.size + 1) w5 w9 := B8.grown hg9 (Nat.le_trans l5 B8.size) (fun z hz => by cases hz; exact hg5)
            have c9b := kept_cell B9 c5b (Nat.lt_succ_self _)
            have l9 := Nat.lt_of_lt_of_le l5 B9.size
            have BB := B5.trans (B9.mono (Nat.le_succ _))
            have hne9 : gl ≠ g9 ∧ w.heap.size + 1 ≤ g9 := by
              rcases hat9 with e | e
              · have e' : g5 = g9 := Option.some.inj e
                omega
              · have h1 := (lsL5.lo_le gl rfl).2; rw [World.size_alloc] at e; omega
            have HTl : Hid (T.length + 1 = (msK D L (k + 1)).length) := Lib.hid (by rw [HT2.out]; simp)
            rw [← HT2.out, HTl.out] at ls9
            rw [HTl.out]
            clear lsN5 lsL5 ownD5 c5b l5 B5 lsN6 B8 B9 hg9 hat9 hcp5 hlp5 hop5 hgg
            go_wp2_with fail
            go_roundw
            case rel => exact ⟨k + 1, g9, c9, by omega, by go_num, rfl, ls9, lsL9, ownD9, hne9.1, hne9.2, c9b, l9, BB⟩
            case measure => simp [intOf]; omega
        · have hkI : ¬ (k : Int) < (L.length : Int) := by omega
          have HTe := Lib.hid (HNa.out (by omega))
          rw [HTe.out] at lsN ⊢
          go_wp2_with fail
          go_roundw
          case rel => exact ⟨i + 1, g5, c5, by omega, by go_num, rfl, lsN, c1, l1, B⟩
          case measure => simp [intOf]; omega
    · have hlI : ¬ (i : Int) < (R.length : Int) := by omega
      have HE : Hid (L = msTo S C R R.length) := Lib.hid (by rw [HL.out, show i = R.length by omega])
      rw [HE.out] at lsL
      go_wp2_with fail
      go_ret
      exact ⟨gl, cl, by rw [HE.out]; rfl, lsL, B⟩

end Go.Proofs.YtpmfedllbiblbaaGreat
