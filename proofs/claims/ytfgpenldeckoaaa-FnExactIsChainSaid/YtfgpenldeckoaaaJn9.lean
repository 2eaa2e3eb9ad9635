/-
  The contracts of joined words and of the errors of two spaces and codes, in the program. By an AI agent.
-/
import Derived.Test.YtfgpenldeckoaaaMjn9
import Derived.Test.YtfgpenldeckoaaaAppend
import Derived.Test.YtfgpenldeckoaaaMark
import Derived.Test.YtfgpenldeckoaaaErr
import Derived.Deep.RegionHeld3
namespace Go.Proofs.Ytfgpenldeckoaaa
open Go.RowKit Cv
set_option linter.unusedVariables false
set_option linter.unusedSimpArgs false
set_option maxRecDepth 100000

set_option maxHeartbeats 2000000 in
theorem joinedWords_any (ac : Option Addr) (C : List Int) (capc : Nat) (lC : C.length ≤ 1024) (hC : ∀ i, i < C.length → 0 ≤ gi C i ∧ gi C i < 1024) (ad : Option Addr) (D : List Int) (capd : Nat) (lD : D.length ≤ 1024) (hD : ∀ i, i < D.length → 0 ≤ gi D i ∧ gi D i < 1024) (q r : Int) (hq : 1 ≤ q ∧ q ≤ 4) (hr : 1 ≤ r ∧ r ≤ 1024) (w : World) (hCi : Ints w ac C) (hDi : Ints w ad D) :
    Calls Try.prog 64 #[.slice ac C.length capc, .slice ad D.length capd, .int .i64 q, .int .i64 r] w fun e w' => ∃ v, e = .returned v ∧ OwnInts w' w.heap.size v (jnW q r C D C.length) ∧ Below w.heap.size w w' := by
  have HC := Lib.hid hC
  have HD := Lib.hid hD
  obtain ⟨q1, q4⟩ := hq
  obtain ⟨r1, r2⟩ := hr
  have hqz : ¬ q = 0 := by omega
  have hqb : (q == 0) = false := by simpa using hqz
  have hrz : ¬ r = 0 := by omega
  have hrb : (r == 0) = false := by simpa using hrz
  clear hC hD
  go_enter Try.func64, Try.ntmps64
  go_wp2_with fail
  go_loopw [9, 17] (fun v i wr => ∃ k : Nat, k ≤ C.length ∧ i = .int .i64 k ∧ OwnInts wr w.heap.size v (jnW q r C D k) ∧ Below w.heap.size w wr) (fun _ i _ => C.length - (intOf i).toNat)
  case atStart => exact ⟨0, Nat.zero_le _, rfl, own_empty w _ (Nat.le_refl _) rfl, (Below.refl _ w).alloc (Nat.le_refl _) _⟩
  case round =>
    obtain ⟨k, hk, rfl, own, B⟩ := hrel
    by_cases hlt : k < C.length
    · obtain ⟨b, o, rfl, hbl, hc⟩ := hCi.at hlt
      have hck := kept_cell B (hc k hlt) hbl
      obtain ⟨u1, u2⟩ := HC.out k hlt
      have HY : Hid (∀ i, gi C k % q = gi D i / r → jnI q r C D k i ++ [gi C k * r + gi D i % r] = jnI q r C D k (i + 1)) := Lib.hid fun i h => jnI_yes q r C D k i h
      have HN : Hid (∀ i, ¬ gi C k % q = gi D i / r → jnI q r C D k i = jnI q r C D k (i + 1)) := Lib.hid fun i h => jnI_no q r C D k i h
      have HL : Hid (∀ i, i ≤ D.length → (jnI q r C D k i).length ≤ 1049600) := Lib.hid fun i h => jnI_len q r C D k i lD h (by omega)
      have HA := Lib.hid (jnI_all q r C D k)
      rw [← jnI_0] at own
      obtain ⟨G, hG⟩ : ∃ G : Nat → List Int, G = jnI q r C D k := ⟨_, rfl⟩
      rw [← hG] at own HY HN HL HA
      obtain ⟨u, hu⟩ : ∃ u, u = gi C k := ⟨_, rfl⟩
      rw [← hu] at hck u1 u2 HY HN
      have p1 : 0 ≤ u * r := Int.mul_nonneg u1 (by omega)
      have p2 : u * r ≤ 1024 * 1024 := Int.mul_le_mul (by omega) r2 (by omega) (by omega)
      have E1 : u.tmod q = u % q := Int.tmod_eq_emod_of_nonneg u1
      have m1 : 0 ≤ u % q := Int.emod_nonneg _ hqz
      have m2 : u % q < q := Int.emod_lt_of_pos _ (by omega)
      clear hc hG hu
      go_wp2_with fail
      go_loopw [9, 23] (fun v i wi => ∃ a : Nat, a ≤ D.length ∧ i = .int .i64 a ∧ OwnInts wi w.heap.size v (G a) ∧ Below w.heap.size w wi) (fun _ i _ => D.length - (intOf i).toNat)
      case atStart => exact ⟨0, Nat.zero_le _, rfl, own, B⟩
      case round =>
        clear own B hck
        obtain ⟨a, ha, rfl, own, B⟩ := hrel
        by_cases hla : a < D.length
        · obtain ⟨db, d0, rfl, hdl, hdc⟩ := hDi.at hla
          have hdk := kept_cell B (hdc a hla) hdl
          obtain ⟨x1, x2⟩ := HD.out a hla
          have hy := HY.out a
          have hnn := HN.out a
          have hl := HL.out a ha
          obtain ⟨x, hx⟩ : ∃ x, x = gi D a := ⟨_, rfl⟩
          rw [← hx] at hdk x1 x2 hy hnn
          have E2 : x.tdiv r = x / r := Int.tdiv_eq_ediv_of_nonneg x1
          have E3 : x.tmod r = x % r := Int.tmod_eq_emod_of_nonneg x1
          have d1 : 0 ≤ x / r := Int.ediv_nonneg x1 (by omega)
          have d2 : x / r ≤ x := Int.ediv_le_self _ x1
          have n1 : 0 ≤ x % r := Int.emod_nonneg _ hrz
          have n2 : x % r < r := Int.emod_lt_of_pos _ (by omega)
          have Bs := B.size
          obtain ⟨L, hL⟩ : ∃ L, L = G a := ⟨_, rfl⟩
          rw [← hL] at own hy hnn hl
          clear hdc hx hL
          by_cases heq : u % q = x / r
          · have hb : (u % q == x / r) = true := by simpa using heq
            have HY2 := Lib.hid (hy heq)
            clear hy hnn heq
            go_wp2_with fail
            go_quiet (fail)
            have own2 := own.below (below_drewN (Below.refl wr.heap.size wr) nq)
            have B2 := below_drewN B nq
            have Bs2 := B2.size
            clear own B E1 E2 hb
            go_wp2_with (at_builtin; refine wpList_append_int rfl _ _ rfl w.heap.size _ L rfl (own2.alloc _) wr.heap.size _ rfl (cell_new _ _ _) (by omega) (by simp; omega) ?_; intro v' w4 hown' hgrow)
            have B4 : Below w.heap.size w w4 := grown_below (B2.alloc Bs2 _) (by simp; omega) hgrow (own2.alloc _) (Nat.le_refl _)
            go_roundw
            case rel => exact ⟨a + 1, by omega, by go_num, by rw [← HY2.out]; exact hown', B4⟩
            case measure => simp [intOf]; omega
          · have hb : (u % q == x / r) = false := by simpa using heq
            have HN2 := Lib.hid (hnn heq)
            clear hy hnn heq
            go_wp2_with fail
            go_quiet (fail)
            clear E1 E2 hb
            go_wp2_with fail
            go_roundw
            case rel => exact ⟨a + 1, by omega, by go_num, by rw [← HN2.out]; exact own.below (below_drewN (Below.refl wr.heap.size wr) nq), below_drewN B nq⟩
            case measure => simp [intOf]; omega
        · have haD : Hid (a = D.length) := Lib.hid (by omega)
          rw [haD.out, HA.out] at own
          go_wp2_with fail
          go_roundw
          case rel => exact ⟨k + 1, by omega, by go_num, own, B⟩
          case measure => simp [intOf]; omega
    · have hkC : Hid (k = C.length) := Lib.hid (by omega)
      rw [hkC.out] at own
      go_wp2_with fail
      go_ret
      exact ⟨_, rfl, own, B⟩
-- the errors
set_option maxHeartbeats 2000000 in
theorem bothError_any (ao : Option Addr) (S : List Int) (cap : Nat) (hn : S.length ≤ 4294967296) (ac : Option Addr) (C : List Int) (capc : Nat) (hnc : C.length ≤ 4294967296) (ax : Option Addr) (X : List Int) (capx : Nat) (hnx : X.length ≤ 4294967296) (ad : Option Addr) (D : List Int) (capd : Nat) (hnd : D.length ≤ 4294967296) (w : World) (hS : Ints w ao S) (hC : Ints w ac C) (hX : Ints w ax X) (hD : Ints w ad D) :
    Calls Try.prog 61 #[.agg #[.slice ao S.length cap], .slice ac C.length capc, .agg #[.slice ax X.length capx], .slice ad D.length capd] w fun e w' => e = .returned (.int .i64 (eBo S C X D)) ∧ Below w.heap.size w w' := by
  obtain ⟨W0, hW0⟩ : ∃ W0, W0 = (w.alloc (.cells #[.slice ao S.length cap] 28)).alloc (.cells #[.slice ax X.length capx] 28) := ⟨_, rfl⟩
  have B0 : Below w.heap.size w W0 := by rw [hW0]; go_grown
  have cS : W0.cell? ⟨w.heap.size, 0, none⟩ = some (.slice ao S.length cap) := by rw [hW0]; exact kept_cell ((Below.refl _ (w.alloc (.cells #[.slice ao S.length cap] 28))).alloc (Nat.le_refl _) _) (cell_new _ _ _) (lt_alloc _ _)
  have cX : W0.cell? ⟨w.heap.size + 1, 0, none⟩ = some (.slice ax X.length capx) := by
    have h := cell_new (w.alloc (.cells #[.slice ao S.length cap] 28)) (.slice ax X.length capx) 28
    rw [World.size_alloc] at h; rw [hW0]; exact h
  have l0 : w.heap.size + 2 ≤ W0.heap.size := by rw [hW0]; simp
  have HW0 := Lib.hid hW0
  cases h1 : isSp S with
  | false =>
    have HE : Hid (eBo S C X D = 1) := Lib.hid (by unfold eBo; rw [if_neg (by rw [h1]; simp)])
    have hs := IsSpace_any ao S cap W0 hn (hS.below B0)
    rw [h1] at hs
    have HS := Lib.hid hs
    clear hW0 hs h1
    go_enter Try.func61, Try.ntmps61
    go_wp2_with fail
    rw [← HW0.out]
    refine HS.out.mono ?_
    rintro e w1 ⟨rfl, hb1⟩
    go_wp2_with fail
    go_ret
    exact ⟨ret_int HE.out.symm, B0.trans (hb1.mono B0.size)⟩
  | true =>
    have hs := IsSpace_any ao S cap W0 hn (hS.below B0)
    rw [h1] at hs
    have HS := Lib.hid hs
    have H1 := Lib.hid h1
    clear hW0 hs h1
    cases h2 : isSp X with
    | false =>
      have HE : Hid (eBo S C X D = 1) := Lib.hid (by unfold eBo; rw [if_neg (by rw [h2]; simp)])
      have H2 := Lib.hid h2
      clear h2
      go_enter Try.func61, Try.ntmps61
      go_wp2_with fail
      rw [← HW0.out]
      refine HS.out.mono ?_
      rintro e w1 ⟨rfl, hb1⟩
      have B1 := B0.trans (hb1.mono B0.size)
      have cX1 := kept_cell hb1 cX (by omega)
      have cS1 := kept_cell hb1 cS (by omega)
      go_wp2_with fail
      refine (IsSpace_any ax X capx _ hnx (hX.below B1)).mono ?_
      rw [H2.out]
      rintro e w2 ⟨rfl, hb2⟩
      go_wp2_with fail
      go_ret
      exact ⟨ret_int HE.out.symm, B1.trans (hb2.mono B1.size)⟩
    | true =>
      have HE : Hid (eBo S C X D = orI (eCode S C) (eCode X D)) := Lib.hid (eBo_or H1.out h2)
      have H2 := Lib.hid h2
      clear h2
      go_enter Try.func61, Try.ntmps61
      go_wp2_with fail
      rw [← HW0.out]
      refine HS.out.mono ?_
      rintro e w1 ⟨rfl, hb1⟩
      have B1 := B0.trans (hb1.mono B0.size)
      have cX1 := kept_cell hb1 cX (by omega)
      have cS1 := kept_cell hb1 cS (by omega)
      have l1 : w.heap.size + 2 ≤ w1.heap.size := Nat.le_trans l0 hb1.size
      clear hb1 cX cS B0 HS
      go_wp2_with fail
      refine (IsSpace_any ax X capx _ hnx (hX.below B1)).mono ?_
      rw [H2.out]
      rintro e w2 ⟨rfl, hb2⟩
      have B2 := B1.trans (hb2.mono B1.size)
      have cX2 := kept_cell hb2 cX1 (by omega)
      have cS2 := kept_cell hb2 cS1 (by omega)
      have l2 : w.heap.size + 2 ≤ w2.heap.size := Nat.le_trans l1 hb2.size
      clear hb2 cX1 cS1 B1
      go_wp2_with fail
      refine wp_region_held_drew (S := fun w' => w'.cell? ⟨w.heap.size, 0, none⟩ = some (.slice ao S.length cap) ∧ w'.cell? ⟨w.heap.size + 1, 0, none⟩ = some (.slice ax X.length capx)) (by kernel_rfl) (⟨cS2, cX2⟩) (fun hHeld => ?_)
      refine wpAnyH_take (i := 0) (v := ?_) rfl (by kernel_rfl) (by kernel_rfl) (by kernel_rfl) (fun _ _ _ h => h) (Or.inl ⟨by rfl, ?_⟩) (by assumption) ?_
      rotate_left
      · (intro w hSw; obtain ⟨hSw0, hSw1⟩ := hSw; (try dsimp only at hSw0 hSw1); go_simp; try (with_reducible rfl))
      (try simp only [Act.put, List.setIfInBounds_toArray, List.set_cons_zero, List.set_cons_succ, List.getElem_toArray, List.getElem_cons_succ, List.getElem_cons_zero])
      refine wpAnyH_take (i := 1) (v := ?_) rfl (by kernel_rfl) (by kernel_rfl) (by kernel_rfl) (fun _ _ _ h => h) (Or.inl ⟨by rfl, ?_⟩) (by assumption) ?_
      rotate_left
      · (intro w hSw; obtain ⟨hSw0, hSw1⟩ := hSw; (try dsimp only at hSw0 hSw1); go_simp; try (with_reducible rfl))
      (try simp only [Act.put, List.setIfInBounds_toArray, List.set_cons_zero, List.set_cons_succ, List.getElem_toArray, List.getElem_cons_succ, List.getElem_cons_zero])
      refine wpAnyH_take (i := 3) (v := ?_) rfl (by kernel_rfl) (by kernel_rfl) (by kernel_rfl) (fun _ _ _ h => h) (Or.inl ⟨by rfl, ?_⟩) (by assumption) ?_
      rotate_left
      · (intro w hSw; obtain ⟨hSw0, hSw1⟩ := hSw; (try dsimp only at hSw0 hSw1); go_simp; try (with_reducible rfl))
      (try simp only [Act.put, List.setIfInBounds_toArray, List.set_cons_zero, List.set_cons_succ, List.getElem_toArray, List.getElem_cons_succ, List.getElem_cons_zero])
      refine wpAnyH_take (i := 4) (v := ?_) rfl (by kernel_rfl) (by kernel_rfl) (by kernel_rfl) (fun _ _ _ h => h) (Or.inl ⟨by rfl, ?_⟩) (by assumption) ?_
      rotate_left
      · (intro w hSw; obtain ⟨hSw0, hSw1⟩ := hSw; (try dsimp only at hSw0 hSw1); go_simp; try (with_reducible rfl))
      (try simp only [Act.put, List.setIfInBounds_toArray, List.set_cons_zero, List.set_cons_succ, List.getElem_toArray, List.getElem_cons_succ, List.getElem_cons_zero])
      refine wpAnyH_ready (rs := [2]) (by kernel_rfl) (by simp) ?_
      refine AllReadyH.cons rfl (fun K hK => ?_) AllReadyH.nil
      go_simp
      (go_at_call 90; refine (codeError_any ao S cap hn ac C capc hnc _ (hS.below (B2.trans (Below.mono (Below.refl w2.heap.size w2).drew B2.size))) (hC.below (B2.trans (Below.mono (Below.refl w2.heap.size w2).drew B2.size)))).mono ?_)
      rintro e x1 ⟨rfl, hb1⟩
      have H1 : Below w2.heap.size w2 x1 := Below.trans (Below.refl w2.heap.size w2).drew (hb1.mono (Below.size (Below.refl w2.heap.size w2).drew))
      refine hK.out _ _ (⟨kept_cell H1 cS2 (by omega), kept_cell H1 cX2 (by omega)⟩) (fun hHeld => ?_)
      clear hK K
      (try simp only [Act.put, List.setIfInBounds_toArray, List.set_cons_zero, List.set_cons_succ, List.getElem_toArray, List.getElem_cons_succ, List.getElem_cons_zero])
      refine wpAnyH_ready (rs := [5]) (by kernel_rfl) (by simp) ?_
      refine AllReadyH.cons rfl (fun K hK => ?_) AllReadyH.nil
      go_simp
      (go_at_call 90; refine (codeError_any ax X capx hnx ad D capd hnd _ (hX.below (B2.trans (Below.mono H1 B2.size))) (hD.below (B2.trans (Below.mono H1 B2.size)))).mono ?_)
      rintro e x2 ⟨rfl, hb2⟩
      have H2 : Below w2.heap.size w2 x2 := Below.trans H1 (hb2.mono (Below.size H1))
      refine hK.out _ _ (⟨kept_cell H2 cS2 (by omega), kept_cell H2 cX2 (by omega)⟩) (fun hHeld => ?_)
      clear hK K
      (try simp only [Act.put, List.setIfInBounds_toArray, List.set_cons_zero, List.set_cons_succ, List.getElem_toArray, List.getElem_cons_succ, List.getElem_cons_zero])
      refine wpAnyH_ready (rs := [6]) (by kernel_rfl) (by simp) ?_
      refine AllReadyH.cons rfl (fun K hK => ?_) AllReadyH.nil
      go_simp
      have H3 : Below w2.heap.size w2 (x2.alloc (.cells #[.int .i64 (eCode S C), .int .i64 (eCode X D)] 2)) := Below.alloc H2 (Below.size H2) _
      have he3 : Ints (x2.alloc (.cells #[.int .i64 (eCode S C), .int .i64 (eCode X D)] 2)) (some ⟨x2.heap.size, 0, none⟩) [eCode S C, eCode X D] := ints_new2 _ _ _ _ rfl
      refine hK.out _ _ (⟨kept_cell H3 cS2 (by omega), kept_cell H3 cX2 (by omega)⟩) (fun hHeld => ?_)
      clear hK K
      (try simp only [Act.put, List.setIfInBounds_toArray, List.set_cons_zero, List.set_cons_succ, List.getElem_toArray, List.getElem_cons_succ, List.getElem_cons_zero])
      refine wpAnyH_ready (rs := [7]) (by kernel_rfl) (by simp) ?_
      refine AllReadyH.cons rfl (fun K hK => ?_) AllReadyH.nil
      go_simp
      (go_at_call 46; refine (cmpOr2 _ _ _ _ _ he3).mono ?_)
      rintro e x4 ⟨rfl, rfl⟩
      refine hK.out _ _ (⟨kept_cell H3 cS2 (by omega), kept_cell H3 cX2 (by omega)⟩) (fun hHeld => ?_)
      clear hK K
      (try simp only [Act.put, List.setIfInBounds_toArray, List.set_cons_zero, List.set_cons_succ, List.getElem_toArray, List.getElem_cons_succ, List.getElem_cons_zero])
      refine wpAnyH_take (i := 8) (v := ?_) rfl (by kernel_rfl) (by kernel_rfl) (by kernel_rfl) (fun _ _ _ h => h) (Or.inl ⟨by rfl, ?_⟩) (by assumption) ?_
      rotate_left
      · (intro w hSw; obtain ⟨hSw0, hSw1⟩ := hSw; (try dsimp only at hSw0 hSw1); go_simp; try (with_reducible rfl))
      (try simp only [Act.put, List.setIfInBounds_toArray, List.set_cons_zero, List.set_cons_succ, List.getElem_toArray, List.getElem_cons_succ, List.getElem_cons_zero])
      refine wpAnyH_done (by kernel_rfl) ?_ _
      (try simp only [Act.put, List.setIfInBounds_toArray, List.set_cons_zero, List.set_cons_succ, List.getElem_toArray, List.getElem_cons_succ, List.getElem_cons_zero])
      go_wp2_with fail
      go_ret
      exact ⟨ret_int HE.out.symm, (B2.trans (Below.mono H3 B2.size))⟩

end Go.Proofs.Ytfgpenldeckoaaa
