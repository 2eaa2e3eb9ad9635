/-
  Errors of the model for rows and numbers of places. By an AI agent.
-/
import Derived.Test.YtpmfedllbiblbaaGreatPkMisA
import Derived.Test.YtpmfedllbiblbaaGreatPkWords
namespace Go.Proofs.YtpmfedllbiblbaaGreat
open Go.RowKit Cv
set_option linter.unusedVariables false
set_option linter.unusedSimpArgs false
set_option maxRecDepth 100000

/-- the error for a space and a number of places -/
def eC10 (S : List Int) (t : Int) : Int := if isSp S = true then (if 1 ≤ t ∧ t ≤ 3 ∧ t ≤ S.length then 0 else 2) else 1
theorem eC10_inv {S : List Int} {t : Int} (h : isSp S = false) : eC10 S t = 1 := by unfold eC10; rw [h]; rfl
theorem eC10_bad {S : List Int} {t : Int} (h : isSp S = true) (g : ¬ (1 ≤ t ∧ t ≤ 3 ∧ t ≤ S.length)) : eC10 S t = 2 := by unfold eC10; rw [if_pos h, if_neg g]
theorem eC10_ok {S : List Int} {t : Int} (h : isSp S = true) (g : 1 ≤ t ∧ t ≤ 3 ∧ t ≤ S.length) : eC10 S t = 0 := by unfold eC10; rw [if_pos h, if_pos g]
theorem eC10_zero {S : List Int} {t : Int} (h : eC10 S t = 0) : Sp S ∧ 1 ≤ t ∧ t ≤ 3 ∧ t ≤ S.length := by
  unfold eC10 at h
  by_cases h1 : isSp S = true
  · rw [if_pos h1] at h
    by_cases h2 : 1 ≤ t ∧ t ≤ 3 ∧ t ≤ S.length
    · exact ⟨(isSp_iff S).1 h1, h2⟩
    · rw [if_neg h2] at h; omega
  · rw [if_neg h1] at h; omega

set_option maxHeartbeats 1000000 in
theorem l10Code_any (ao : Option Addr) (S : List Int) (cap : Nat) (hn : S.length ≤ 4294967296) (t : Int) (w : World) (hS : Ints w ao S) :
    Calls Tryz.prog 53 #[.agg #[.slice ao S.length cap], .int .i64 t] w fun e w' => e = .returned (.int .i64 (eC10 S t)) ∧ Below w.heap.size w w' := by
  have B0 : Below w.heap.size w (w.alloc (.cells #[.slice ao S.length cap] 26)) := by go_grown
  have c0 := cell_new w (.slice ao S.length cap) 26
  have l0 := lt_alloc w (.cells #[.slice ao S.length cap] 26)
  have hc := l01Is_any ao S cap _ hn (hS.below B0)
  cases h : isSp S with
  | false =>
    rw [h] at hc
    have HE := Lib.hid (eC10_inv (t := t) h)
    clear h
    go_enter Tryz.func53, Tryz.ntmps53
    go_wp2_with fail
    refine hc.mono ?_
    rintro e w1 ⟨rfl, hb1⟩
    have B1 := B0.trans (hb1.mono B0.size)
    go_wp2_with fail
    go_ret
    exact ⟨ret_int HE.out.symm, B1⟩
  | true =>
    rw [h] at hc
    have hn8 := ((isSp_iff S).1 h).hi
    have HE2 : Hid (inB t 1 (min 3 (S.length : Int)) = false → eC10 S t = 2) := Lib.hid fun g => eC10_bad h (by unfold inB at g; simp at g; omega)
    have HE0 : Hid (inB t 1 (min 3 (S.length : Int)) = true → eC10 S t = 0) := Lib.hid fun g => eC10_ok h (by unfold inB at g; simp at g; omega)
    clear h
    obtain ⟨M, hM⟩ : ∃ M : Int, M = min 3 (S.length : Int) := ⟨_, rfl⟩
    rw [← hM] at HE2 HE0
    cases hb : inB t 1 M with
    | false =>
      have HE := Lib.hid (HE2.out hb)
      by_cases h3 : 3 ≤ S.length
      · have hM3 : M = 3 := by omega
        have i3 : (3 : Int) ≤ (S.length : Int) := by omega
        subst hM3
        clear hM
        go_enter Tryz.func53, Tryz.ntmps53
        go_wp2_with fail
        refine hc.mono ?_
        rintro e w1 ⟨rfl, hb1⟩
        have c1 := kept_cell hb1 c0 l0
        have B1 := B0.trans (hb1.mono B0.size)
        go_wp2_with fail
        refine (l01In_any t 1 _ _).mono ?_
        rintro e w2 ⟨rfl, rfl⟩
        rw [hb]
        go_wp2_with fail
        go_ret
        exact ⟨ret_int HE.out.symm, B1⟩
      · have hM3 : M = (S.length : Int) := by omega
        have i3 : ¬ (3 : Int) ≤ (S.length : Int) := by omega
        have i4 : (S.length : Int) ≤ 3 := by omega
        subst hM3
        clear hM
        go_enter Tryz.func53, Tryz.ntmps53
        go_wp2_with fail
        refine hc.mono ?_
        rintro e w1 ⟨rfl, hb1⟩
        have c1 := kept_cell hb1 c0 l0
        have B1 := B0.trans (hb1.mono B0.size)
        go_wp2_with fail
        refine (l01In_any t 1 _ _).mono ?_
        rintro e w2 ⟨rfl, rfl⟩
        rw [hb]
        go_wp2_with fail
        go_ret
        exact ⟨ret_int HE.out.symm, B1⟩
    | true =>
      have HE := Lib.hid (HE0.out hb)
      by_cases h3 : 3 ≤ S.length
      · have hM3 : M = 3 := by omega
        have i3 : (3 : Int) ≤ (S.length : Int) := by omega
        subst hM3
        clear hM
        go_enter Tryz.func53, Tryz.ntmps53
        go_wp2_with fail
        refine hc.mono ?_
        rintro e w1 ⟨rfl, hb1⟩
        have c1 := kept_cell hb1 c0 l0
        have B1 := B0.trans (hb1.mono B0.size)
        go_wp2_with fail
        refine (l01In_any t 1 _ _).mono ?_
        rintro e w2 ⟨rfl, rfl⟩
        rw [hb]
        go_wp2_with fail
        go_ret
        exact ⟨ret_int HE.out.symm, B1⟩
      · have hM3 : M = (S.length : Int) := by omega
        have i3 : ¬ (3 : Int) ≤ (S.length : Int) := by omega
        have i4 : (S.length : Int) ≤ 3 := by omega
        subst hM3
        clear hM
        go_enter Tryz.func53, Tryz.ntmps53
        go_wp2_with fail
        refine hc.mono ?_
        rintro e w1 ⟨rfl, hb1⟩
        have c1 := kept_cell hb1 c0 l0
        have B1 := B0.trans (hb1.mono B0.size)
        go_wp2_with fail
        refine (l01In_any t 1 _ _).mono ?_
        rintro e w2 ⟨rfl, rfl⟩
        rw [hb]
        go_wp2_with fail
        go_ret
        exact ⟨ret_int HE.out.symm, B1⟩

/-- the error for a space, rows and a number of places -/
def eR10 (S R : List Int) (t : Int) : Int := if isSp S = true then (if okW S R R.length = true ∧ R.length ≤ 200 then eC10 S t else 2) else 1
theorem eR10_inv {S R : List Int} {t : Int} (h : isSp S = false) : eR10 S R t = 1 := by unfold eR10; rw [h]; rfl
theorem eR10_bad {S R : List Int} {t : Int} (h : isSp S = true) (g : ¬ (okW S R R.length = true ∧ R.length ≤ 200)) : eR10 S R t = 2 := by unfold eR10; rw [if_pos h, if_neg g]
theorem eR10_ok {S R : List Int} {t : Int} (h : isSp S = true) (g : okW S R R.length = true ∧ R.length ≤ 200) : eR10 S R t = eC10 S t := by unfold eR10; rw [if_pos h, if_pos g]
theorem eR10_zero {S R : List Int} {t : Int} (h : eR10 S R t = 0) : Sp S ∧ (∀ i, i < R.length → 0 ≤ gi R i ∧ gi R i < nW S) ∧ R.length ≤ 200 ∧ 1 ≤ t ∧ t ≤ 3 ∧ t ≤ S.length := by
  unfold eR10 at h
  by_cases h1 : isSp S = true
  · rw [if_pos h1] at h
    by_cases h2 : okW S R R.length = true ∧ R.length ≤ 200
    · rw [if_pos h2] at h
      exact ⟨(isSp_iff S).1 h1, (okW_iff S R _).1 h2.1, h2.2, (eC10_zero h).2⟩
    · rw [if_neg h2] at h; omega
  · rw [if_neg h1] at h; omega
theorem okW_no {S R : List Int} {i n : Nat} (hi : i < n) (h : ¬ (0 ≤ gi R i ∧ gi R i < nW S)) : okW S R n = false := by
  cases e : okW S R n with
  | false => rfl
  | true => exact absurd ((okW_iff S R n).1 e i hi) h

set_option maxHeartbeats 2000000 in
theorem l10Rows_any (ao : Option Addr) (S : List Int) (cap : Nat) (hn : S.length ≤ 4294967296) (ar : Option Addr) (R : List Int) (capr : Nat) (hnr : R.length ≤ 4294967296) (t : Int) (w : World) (hS : Ints w ao S) (hRI : Ints w ar R) :
    Calls Tryz.prog 42 #[.agg #[.slice ao S.length cap], .slice ar R.length capr, .int .i64 t] w fun e w' => e = .returned (.int .i64 (eR10 S R t)) ∧ Below w.heap.size w w' := by
  have B0 : Below w.heap.size w (w.alloc (.cells #[.slice ao S.length cap] 26)) := by go_grown
  have c0 := cell_new w (.slice ao S.length cap) 26
  have l0 := lt_alloc w (.cells #[.slice ao S.length cap] 26)
  have hc := l10Code_any ao S cap hn t _ (hS.below B0)
  cases h : isSp S with
  | false =>
    rw [eC10_inv h] at hc
    have HE := Lib.hid (eR10_inv (R := R) (t := t) h)
    clear h
    go_enter Tryz.func42, Tryz.ntmps42
    go_wp2_with fail
    refine hc.mono ?_
    rintro e w1 ⟨rfl, hb1⟩
    have B1 := B0.trans (hb1.mono B0.size)
    go_wp2_with fail
    go_ret
    exact ⟨ret_int HE.out.symm, B1⟩
  | true =>
    have HSp := Lib.hid ((isSp_iff S).1 h)
    obtain ⟨N1, N2⟩ := nW_bd HSp.out
    have HNC : Hid (∀ w', Ints w' ao S → Calls Tryz.prog 54 #[.agg #[.slice ao S.length cap]] w' fun e w'' => e = .returned (.int .i64 (nW S)) ∧ Below w'.heap.size w' w'') := Lib.hid fun w' h => l01N_sp ao S cap w' HSp.out h
    have HB : Hid (∀ i, i < R.length → ¬ (0 ≤ gi R i ∧ gi R i < nW S) → eR10 S R t = 2) := Lib.hid fun i hi g => eR10_bad h (fun g2 => by rw [okW_no hi g] at g2; exact absurd g2.1 (by decide))
    have HL : Hid (200 < R.length → eR10 S R t = 2) := Lib.hid fun g => eR10_bad h (by omega)
    have HO : Hid (okW S R R.length = true → R.length ≤ 200 → eR10 S R t = eC10 S t) := Lib.hid fun g1 g2 => eR10_ok h ⟨g1, g2⟩
    obtain ⟨N, hN⟩ : ∃ N, N = nW S := ⟨_, rfl⟩
    rw [← hN] at N1 N2 HNC HB
    have HNe := Lib.hid hN.symm
    have ew1 : IntKind.i64.wrap (N - 1) = N - 1 := IntWalk.i64_in _ ⟨by omega, by omega⟩
    have ew2 : wrap64 (N - 1) = N - 1 := IntWalk.wrap64_in _ ⟨by omega, by omega⟩
    clear hN
    obtain ⟨E, hE⟩ : ∃ E, E = eC10 S t := ⟨_, rfl⟩
    have hE1 : (E == 1) = false := by
      have : E ≠ 1 := by rw [hE]; unfold eC10; rw [if_pos h]; split <;> omega
      simpa using this
    rw [← hE] at hc HO
    clear h hE
    go_enter Tryz.func42, Tryz.ntmps42
    go_wp2_with fail
    refine hc.mono ?_
    rintro e w1 ⟨rfl, hb1⟩
    have c2 := kept_cell hb1 c0 l0
    have l2 := lt_of_below hb1 l0
    have B2 := B0.trans (hb1.mono B0.size)
    clear hc c0 l0 B0 hb1
    go_wp2_with fail
    clear hE1
    go_loopw [8] (fun x wr => ∃ i : Nat, i ≤ R.length ∧ x = .int .i64 (i : Int) ∧ Hid (okW S R i = true) ∧ wr.cell? ⟨w.heap.size, 0, none⟩ = some (.slice ao S.length cap) ∧ w.heap.size < wr.heap.size ∧ Below w.heap.size w wr) (fun x _ => R.length - (intOf x).toNat)
    case atStart => exact ⟨0, Nat.zero_le _, rfl, Lib.hid rfl, c2, l2, B2⟩
    case round =>
      clear c2 l2 B2
      obtain ⟨i, hi, rfl, HK, c1, l1, B⟩ := hrel
      by_cases hlt : i < R.length
      · have hlI : (i : Int) < (R.length : Int) := by omega
        obtain ⟨b, o, rfl, hbr, hcr⟩ := hRI.at hlt
        replace hcr := kept_cell B (hcr i hlt) hbr
        have hlr := lt_of_below B hbr
        have HBi := Lib.hid (HB.out i hlt)
        have HKS : Hid (0 ≤ gi R i ∧ gi R i < N → okW S R (i + 1) = true) := Lib.hid fun g => (okW_iff S R (i + 1)).2 fun j hj => by
          by_cases e : j = i
          · subst e; rw [HNe.out]; exact g
          · exact (okW_iff S R i).1 HK.out j (by omega)
        obtain ⟨x, hx⟩ : ∃ x, x = gi R i := ⟨_, rfl⟩
        rw [← hx] at hcr HBi HKS
        clear hx
        by_cases hb : 0 ≤ x ∧ x < N
        · have HIN : Hid (inB x 0 (N - 1) = true) := Lib.hid (inB_true hb.1 (by omega))
          have HK2 := Lib.hid (HKS.out hb)
          clear hb HKS HBi
          go_wp2_with fail
          refine wp_region_held_drew (S := fun w' => w'.cell? ⟨w.heap.size, 0, none⟩ = some (.slice ao S.length cap) ∧ w'.cell? ⟨b, o + i, none⟩ = some (.int .i64 x)) (by kernel_rfl) (⟨c1, hcr⟩) (fun hHeld => ?_)
          refine wpAnyH_take (i := 0) (v := ?_) rfl (by kernel_rfl) (by kernel_rfl) (by kernel_rfl) (fun _ _ _ h => h) (Or.inl ⟨by rfl, ?_⟩) (by assumption) ?_
          rotate_left
          · (intro w hSw; obtain ⟨hSw0, hSw1⟩ := hSw; (try dsimp only at hSw0 hSw1); go_simp; try (with_reducible rfl))
          (try simp only [Act.put, List.setIfInBounds_toArray, List.set_cons_zero, List.set_cons_succ, List.getElem_toArray, List.getElem_cons_succ, List.getElem_cons_zero])
          refine wpAnyH_take (i := 1) (v := ?_) rfl (by kernel_rfl) (by kernel_rfl) (by kernel_rfl) (fun _ _ _ h => h) (Or.inl ⟨by rfl, ?_⟩) (by assumption) ?_
          rotate_left
          · (intro w hSw; obtain ⟨hSw0, hSw1⟩ := hSw; (try dsimp only at hSw0 hSw1); go_simp; try (with_reducible rfl))
          (try simp only [Act.put, List.setIfInBounds_toArray, List.set_cons_zero, List.set_cons_succ, List.getElem_toArray, List.getElem_cons_succ, List.getElem_cons_zero])
          refine wpAnyH_take (i := 2) (v := ?_) rfl (by kernel_rfl) (by kernel_rfl) (by kernel_rfl) (fun _ _ _ h => h) (Or.inl ⟨by rfl, ?_⟩) (by assumption) ?_
          rotate_left
          · (intro w hSw; obtain ⟨hSw0, hSw1⟩ := hSw; (try dsimp only at hSw0 hSw1); go_simp; try (with_reducible rfl))
          (try simp only [Act.put, List.setIfInBounds_toArray, List.set_cons_zero, List.set_cons_succ, List.getElem_toArray, List.getElem_cons_succ, List.getElem_cons_zero])
          refine wpAnyH_take (i := 3) (v := ?_) rfl (by kernel_rfl) (by kernel_rfl) (by kernel_rfl) (fun _ _ _ h => h) (Or.inl ⟨by rfl, ?_⟩) (by assumption) ?_
          rotate_left
          · (intro w hSw; obtain ⟨hSw0, hSw1⟩ := hSw; (try dsimp only at hSw0 hSw1); go_simp; try (with_reducible rfl))
          (try simp only [Act.put, List.setIfInBounds_toArray, List.set_cons_zero, List.set_cons_succ, List.getElem_toArray, List.getElem_cons_succ, List.getElem_cons_zero])
          refine wpAnyH_take (i := 4) (v := ?_) rfl (by kernel_rfl) (by kernel_rfl) (by kernel_rfl) (fun _ _ _ h => h) (Or.inl ⟨by rfl, ?_⟩) (by assumption) ?_
          rotate_left
          · (intro w hSw; obtain ⟨hSw0, hSw1⟩ := hSw; (try dsimp only at hSw0 hSw1); go_simp; try (with_reducible rfl))
          (try simp only [Act.put, List.setIfInBounds_toArray, List.set_cons_zero, List.set_cons_succ, List.getElem_toArray, List.getElem_cons_succ, List.getElem_cons_zero])
          refine wpAnyH_ready (rs := [5]) (by kernel_rfl) (by simp) ?_
          refine AllReadyH.cons rfl (fun K hK => ?_) AllReadyH.nil
          go_simp
          (go_at_call 54; refine (HNC.out _ ((hS.below B).below (Below.refl wr.heap.size wr).drew)).mono ?_)
          rintro e x1 ⟨rfl, hb1⟩
          have H1 : Below wr.heap.size wr x1 := Below.trans (Below.refl wr.heap.size wr).drew (hb1.mono (Below.size (Below.refl wr.heap.size wr).drew))
          refine hK.out _ _ (⟨kept_cell H1 c1 l1, kept_cell H1 hcr hlr⟩) (fun hHeld => ?_)
          clear hK K
          (try simp only [Act.put, List.setIfInBounds_toArray, List.set_cons_zero, List.set_cons_succ, List.getElem_toArray, List.getElem_cons_succ, List.getElem_cons_zero])
          refine wpAnyH_take (i := 6) (v := ?_) rfl (by kernel_rfl) (by kernel_rfl) (by kernel_rfl) (fun _ _ _ h => h) (Or.inl ⟨by rfl, ?_⟩) (by assumption) ?_
          rotate_left
          · (intro w hSw; obtain ⟨hSw0, hSw1⟩ := hSw; (try dsimp only at hSw0 hSw1); go_simp; try (with_reducible rfl))
          (try simp only [Act.put, List.setIfInBounds_toArray, List.set_cons_zero, List.set_cons_succ, List.getElem_toArray, List.getElem_cons_succ, List.getElem_cons_zero])
          refine wpAnyH_ready (rs := [7]) (by kernel_rfl) (by simp) ?_
          refine AllReadyH.cons rfl (fun K hK => ?_) AllReadyH.nil
          go_simp
          (go_at_call 60; refine (l01In_any x 0 (N - 1) _).mono ?_)
          rintro e x2 ⟨rfl, rfl⟩
          rw [HIN.out]
          refine hK.out _ _ (⟨kept_cell H1 c1 l1, kept_cell H1 hcr hlr⟩) (fun hHeld => ?_)
          clear hK K
          (try simp only [Act.put, List.setIfInBounds_toArray, List.set_cons_zero, List.set_cons_succ, List.getElem_toArray, List.getElem_cons_succ, List.getElem_cons_zero])
          refine wpAnyH_take (i := 8) (v := ?_) rfl (by kernel_rfl) (by kernel_rfl) (by kernel_rfl) (fun _ _ _ h => h) (Or.inl ⟨by rfl, ?_⟩) (by assumption) ?_
          rotate_left
          · (intro w hSw; obtain ⟨hSw0, hSw1⟩ := hSw; (try dsimp only at hSw0 hSw1); go_simp; try (with_reducible rfl))
          (try simp only [Act.put, List.setIfInBounds_toArray, List.set_cons_zero, List.set_cons_succ, List.getElem_toArray, List.getElem_cons_succ, List.getElem_cons_zero])
          refine wpAnyH_done (by kernel_rfl) ?_ _
          (try simp only [Act.put, List.setIfInBounds_toArray, List.set_cons_zero, List.set_cons_succ, List.getElem_toArray, List.getElem_cons_succ, List.getElem_cons_zero])
          have Hn : Below wr.heap.size wr x1 := H1
          obtain ⟨w5, hw5⟩ : ∃ z, z = x1 := ⟨_, rfl⟩
          rw [← hw5] at Hn ⊢
          clear hw5 hHeld
          have c5 := kept_cell Hn c1 l1
          have l5 := lt_of_below Hn l1
          have B5 := B.trans (Hn.mono B.size)
          clear c1 l1 B hcr hlr hbr Hn
          go_wp2_with fail
          go_roundw
          case rel => exact ⟨i + 1, by omega, by go_num, HK2, c5, l5, B5⟩
          case measure => simp [intOf]; omega
        · have HIN : Hid (inB x 0 (N - 1) = false) := Lib.hid (inB_false (by omega))
          have HE := Lib.hid (HBi.out hb)
          clear hb HKS HBi
          go_wp2_with fail
          refine wp_region_held_drew (S := fun w' => w'.cell? ⟨w.heap.size, 0, none⟩ = some (.slice ao S.length cap) ∧ w'.cell? ⟨b, o + i, none⟩ = some (.int .i64 x)) (by kernel_rfl) (⟨c1, hcr⟩) (fun hHeld => ?_)
          refine wpAnyH_take (i := 0) (v := ?_) rfl (by kernel_rfl) (by kernel_rfl) (by kernel_rfl) (fun _ _ _ h => h) (Or.inl ⟨by rfl, ?_⟩) (by assumption) ?_
          rotate_left
          · (intro w hSw; obtain ⟨hSw0, hSw1⟩ := hSw; (try dsimp only at hSw0 hSw1); go_simp; try (with_reducible rfl))
          (try simp only [Act.put, List.setIfInBounds_toArray, List.set_cons_zero, List.set_cons_succ, List.getElem_toArray, List.getElem_cons_succ, List.getElem_cons_zero])
          refine wpAnyH_take (i := 1) (v := ?_) rfl (by kernel_rfl) (by kernel_rfl) (by kernel_rfl) (fun _ _ _ h => h) (Or.inl ⟨by rfl, ?_⟩) (by assumption) ?_
          rotate_left
          · (intro w hSw; obtain ⟨hSw0, hSw1⟩ := hSw; (try dsimp only at hSw0 hSw1); go_simp; try (with_reducible rfl))
          (try simp only [Act.put, List.setIfInBounds_toArray, List.set_cons_zero, List.set_cons_succ, List.getElem_toArray, List.getElem_cons_succ, List.getElem_cons_zero])
          refine wpAnyH_take (i := 2) (v := ?_) rfl (by kernel_rfl) (by kernel_rfl) (by kernel_rfl) (fun _ _ _ h => h) (Or.inl ⟨by rfl, ?_⟩) (by assumption) ?_
          rotate_left
          · (intro w hSw; obtain ⟨hSw0, hSw1⟩ := hSw; (try dsimp only at hSw0 hSw1); go_simp; try (with_reducible rfl))
          (try simp only [Act.put, List.setIfInBounds_toArray, List.set_cons_zero, List.set_cons_succ, List.getElem_toArray, List.getElem_cons_succ, List.getElem_cons_zero])
          refine wpAnyH_take (i := 3) (v := ?_) rfl (by kernel_rfl) (by kernel_rfl) (by kernel_rfl) (fun _ _ _ h => h) (Or.inl ⟨by rfl, ?_⟩) (by assumption) ?_
          rotate_left
          · (intro w hSw; obtain ⟨hSw0, hSw1⟩ := hSw; (try dsimp only at hSw0 hSw1); go_simp; try (with_reducible rfl))
          (try simp only [Act.put, List.setIfInBounds_toArray, List.set_cons_zero, List.set_cons_succ, List.getElem_toArray, List.getElem_cons_succ, List.getElem_cons_zero])
          refine wpAnyH_take (i := 4) (v := ?_) rfl (by kernel_rfl) (by kernel_rfl) (by kernel_rfl) (fun _ _ _ h => h) (Or.inl ⟨by rfl, ?_⟩) (by assumption) ?_
          rotate_left
          · (intro w hSw; obtain ⟨hSw0, hSw1⟩ := hSw; (try dsimp only at hSw0 hSw1); go_simp; try (with_reducible rfl))
          (try simp only [Act.put, List.setIfInBounds_toArray, List.set_cons_zero, List.set_cons_succ, List.getElem_toArray, List.getElem_cons_succ, List.getElem_cons_zero])
          refine wpAnyH_ready (rs := [5]) (by kernel_rfl) (by simp) ?_
          refine AllReadyH.cons rfl (fun K hK => ?_) AllReadyH.nil
          go_simp
          (go_at_call 54; refine (HNC.out _ ((hS.below B).below (Below.refl wr.heap.size wr).drew)).mono ?_)
          rintro e x1 ⟨rfl, hb1⟩
          have H1 : Below wr.heap.size wr x1 := Below.trans (Below.refl wr.heap.size wr).drew (hb1.mono (Below.size (Below.refl wr.heap.size wr).drew))
          refine hK.out _ _ (⟨kept_cell H1 c1 l1, kept_cell H1 hcr hlr⟩) (fun hHeld => ?_)
          clear hK K
          (try simp only [Act.put, List.setIfInBounds_toArray, List.set_cons_zero, List.set_cons_succ, List.getElem_toArray, List.getElem_cons_succ, List.getElem_cons_zero])
          refine wpAnyH_take (i := 6) (v := ?_) rfl (by kernel_rfl) (by kernel_rfl) (by kernel_rfl) (fun _ _ _ h => h) (Or.inl ⟨by rfl, ?_⟩) (by assumption) ?_
          rotate_left
          · (intro w hSw; obtain ⟨hSw0, hSw1⟩ := hSw; (try dsimp only at hSw0 hSw1); go_simp; try (with_reducible rfl))
          (try simp only [Act.put, List.setIfInBounds_toArray, List.set_cons_zero, List.set_cons_succ, List.getElem_toArray, List.getElem_cons_succ, List.getElem_cons_zero])
          refine wpAnyH_ready (rs := [7]) (by kernel_rfl) (by simp) ?_
          refine AllReadyH.cons rfl (fun K hK => ?_) AllReadyH.nil
          go_simp
          (go_at_call 60; refine (l01In_any x 0 (N - 1) _).mono ?_)
          rintro e x2 ⟨rfl, rfl⟩
          rw [HIN.out]
          refine hK.out _ _ (⟨kept_cell H1 c1 l1, kept_cell H1 hcr hlr⟩) (fun hHeld => ?_)
          clear hK K
          (try simp only [Act.put, List.setIfInBounds_toArray, List.set_cons_zero, List.set_cons_succ, List.getElem_toArray, List.getElem_cons_succ, List.getElem_cons_zero])
          refine wpAnyH_take (i := 8) (v := ?_) rfl (by kernel_rfl) (by kernel_rfl) (by kernel_rfl) (fun _ _ _ h => h) (Or.inl ⟨by rfl, ?_⟩) (by assumption) ?_
          rotate_left
          · (intro w hSw; obtain ⟨hSw0, hSw1⟩ := hSw; (try dsimp only at hSw0 hSw1); go_simp; try (with_reducible rfl))
          (try simp only [Act.put, List.setIfInBounds_toArray, List.set_cons_zero, List.set_cons_succ, List.getElem_toArray, List.getElem_cons_succ, List.getElem_cons_zero])
          refine wpAnyH_done (by kernel_rfl) ?_ _
          (try simp only [Act.put, List.setIfInBounds_toArray, List.set_cons_zero, List.set_cons_succ, List.getElem_toArray, List.getElem_cons_succ, List.getElem_cons_zero])
          have Hn : Below wr.heap.size wr x1 := H1
          obtain ⟨w5, hw5⟩ : ∃ z, z = x1 := ⟨_, rfl⟩
          rw [← hw5] at Hn ⊢
          clear hw5 hHeld
          have B5 := B.trans (Hn.mono B.size)
          clear c1 l1 B hcr hlr hbr Hn
          go_wp2_with fail
          go_ret
          exact ⟨ret_int HE.out.symm, B5⟩
      · have hlI : ¬ (i : Int) < (R.length : Int) := by omega
        have HOK : Hid (okW S R R.length = true) := Lib.hid (by rw [show R.length = i by omega]; exact HK.out)
        by_cases h200 : 200 < R.length
        · have HE := Lib.hid (HL.out h200)
          have i2 : (200 : Int) < (R.length : Int) := by omega
          go_wp2_with fail
          go_ret
          exact ⟨ret_int HE.out.symm, B⟩
        · have HE := Lib.hid (HO.out HOK.out (by omega))
          have i2 : ¬ (200 : Int) < (R.length : Int) := by omega
          go_wp2_with fail
          go_ret
          exact ⟨ret_int HE.out.symm, B⟩

end Go.Proofs.YtpmfedllbiblbaaGreat
