/-
  The model's PairRows. By an AI agent.
-/
import Derived.Test.YtgaelpcghljihaaPri10
import Derived.Test.YtgaelpcghljihaaOr8
import Derived.Test.YtgaelpcghljihaaHamRow
namespace Go.Proofs.Ytgaelpcghljihaa
open Go.RowKit Cv
set_option linter.unusedVariables false
set_option linter.unusedSimpArgs false
set_option maxRecDepth 100000

set_option maxHeartbeats 4000000 in
theorem pairRows_spec (c : Nat) (h1 : 1 ≤ c) (h8 : c ≤ 8) (w : World) :
    Calls Try.prog 36 #[.int .i64 (c : Int)] w fun e w' => ∃ m vs v, e = .returned (.tuple #[.agg #[vs], v, .int .i64 0]) ∧ w.heap.size ≤ m ∧ RowIn vs w.heap.size m ∧ OwnInts w' w.heap.size vs (List.replicate c 2) ∧ OwnInts w' m v (prR (setsL (pn c - 1) ((pn c + 1) / 2)) c (pn c - 1)) ∧ m ≤ w'.heap.size ∧ Below w.heap.size w w' := by
  obtain ⟨f1, f2, f3, f4⟩ := pn_facts c (by omega) h1
  have hp := fun W => l10Pairs_any c h1 h8 W
  obtain ⟨m, hm⟩ : ∃ m, pn c = m + 1 := ⟨pn c - 1, by omega⟩
  rw [hm] at f1 f2 f3 f4 hp ⊢
  have hXl : c ≤ (setsL m ((m + 1 + 1) / 2)).length := by rw [setsL_len (by omega) (by omega)]; simpa using f2
  obtain ⟨H, hH⟩ : ∃ H, H = (m + 1 + 1) / 2 := ⟨_, rfl⟩
  have hHi : ((m : Int) + 1 + 1).tdiv 2 = (H : Int) := by rw [hH]; exact half_c (m + 1)
  have hHb : H ≤ 4 := by omega
  rw [show m + 1 - 1 = m from rfl, ← hH]
  rw [← hH] at hXl
  have HOR : Hid (∀ i, i < c → ∃ M : Nat, M < 4096 ∧ gi (setsL m H) i = (M : Int) ∧ ∀ W, Calls Try.prog 81 #[.int .i64 (H : Int), .int .i64 (i : Int)] W fun e w' => e = .returned (.int .i64 (M : Int)) ∧ w' = W) := Lib.hid fun i hi => by
    obtain ⟨M, k1, k2, k3, k4⟩ := sel_at (isK H) (n := 2 ^ m) (r := i) (by unfold setsL at hXl; omega)
    have hM : M < 4096 := by have : 2 ^ m ≤ 2 ^ 12 := Nat.pow_le_pow_right (by omega) (by omega); omega
    have hpc : pc M = H := by simpa [isK] using k2
    have hcb : cb (pc M) M = i := by rw [hpc, ← selK_len]; exact k4
    refine ⟨M, hM, k3, fun W => ?_⟩
    have := l08OfRank_any M hM W
    rw [hcb, hpc] at this
    exact this
  have HX0 : Hid (∀ i, 0 ≤ gi (setsL m H) i ∧ gi (setsL m H) i < 4096) := Lib.hid (setsL_bd m (by omega) _)
  obtain ⟨X, hX⟩ : ∃ X, X = setsL m H := ⟨_, rfl⟩
  rw [← hX] at hXl HX0 HOR ⊢
  have hm5 : m ≤ 5 := by omega
  clear hX hm f1 f2 f4 hH
  have e1 : IntKind.i64.wrap (m : Int) = (m : Int) := IntWalk.i64_in _ ⟨by omega, by omega⟩
  have hb : inB (c : Int) 1 8 = true := inB_true (by omega) (by omega)
  have hWW : ∀ (gS cS gD cD : Nat) (j : Nat) (W : World), Ints W (some ⟨gS, 0, none⟩) (List.replicate c 2) → Ints W (some ⟨gD, 0, none⟩) (prD X c j) → Calls Try.prog 82 #[.agg #[.slice (some ⟨gS, 0, none⟩) c cS], .slice (some ⟨gD, 0, none⟩) c cD] W fun e w' => e = .returned (.int .i64 (wordTo (List.replicate c 2) (prD X c j) c)) ∧ Below W.heap.size W w' := fun gS cS gD cD j W h1' h2' => by
    have h := l01Word_any (some ⟨gS, 0, none⟩) (List.replicate c 2) cS (by simpa using h8) (fun i hi => by rw [List.length_replicate] at hi; simp [gi, hi]) (some ⟨gD, 0, none⟩) (prD X c j) c cD (by simp) (dg_prD X c j) W h1' h2'
    rw [List.length_replicate] at h; exact h
  obtain ⟨W3, hW3⟩ : ∃ W3, W3 = ((w.alloc (.cells #[.slice none 0 0] 24)).alloc (.cells #[] 2)).alloc (.cells #[.slice (some ⟨w.heap.size + 1, 0, none⟩) 0 0] 24) := ⟨_, rfl⟩
  have b3 : Below w.heap.size w W3 := by rw [hW3]; go_grown
  have oS : OwnInts W3 (w.heap.size + 1) (.slice (some ⟨w.heap.size + 1, 0, none⟩) 0 0) [] := by
    rw [hW3]; exact (own_empty (w.alloc (.cells #[.slice none 0 0] 24)) (w.heap.size + 1) (by simp) (by simp)).alloc _
  have hXr : W3.heap[w.heap.size + 2]? = some (.cells #[.slice (some ⟨w.heap.size + 1, 0, none⟩) 0 0] 24 (0, 0)) := by
    have e : ((w.alloc (.cells #[.slice none 0 0] 24)).alloc (.cells #[] 2)).heap.size = w.heap.size + 2 := by simp
    rw [hW3, ← e]; exact heap_alloc_new _ _
  have hRr : W3.heap[w.heap.size]? = some (.cells #[.slice none 0 0] 24 (0, 0)) := by
    have bR : Below (w.alloc (.cells #[.slice none 0 0] 24)).heap.size (w.alloc (.cells #[.slice none 0 0] 24)) W3 := by rw [hW3]; go_grown
    exact (bR.block _ (by simp)).trans (heap_alloc_new w _)
  have hW3s : W3.heap.size = w.heap.size + 3 := by rw [hW3]; simp
  have HW3 := Lib.hid hW3
  clear hW3
  go_enter Try.func36, Try.ntmps36
  go_wp2_with fail
  refine (l01In_any _ _ _ _).mono ?_
  rw [hb]
  rintro e w0 ⟨rfl, rfl⟩
  go_wp2_with fail
  refine (hp _).mono ?_
  rintro e w0 ⟨rfl, rfl⟩
  go_wp2_with fail
  rw [← HW3.out]
  have hY0 : w.heap.size + 3 ≤ W3.heap.size := by omega
  clear hW3s
  go_loopw [7] (fun x wr => ∃ (i : Nat) (vS : Value), i ≤ c ∧ x = .int .i64 i ∧ OwnInts wr (w.heap.size + 1) vS (List.replicate i 2) ∧ (∀ k, vS.ownBlock = some k → k = w.heap.size + 1 ∨ w.heap.size + 3 ≤ k) ∧ wr.heap[w.heap.size + 2]? = some (.cells #[vS] 24 (0, 0)) ∧ wr.heap[w.heap.size]? = some (.cells #[.slice none 0 0] 24 (0, 0)) ∧ w.heap.size + 3 ≤ wr.heap.size ∧ Below w.heap.size w wr) (fun x _ => c - (intOf x).toNat)
  case atStart => exact ⟨0, _, Nat.zero_le _, rfl, oS, fun k hk => .inl (by simp [Value.ownBlock] at hk; omega), hXr, hRr, hY0, b3⟩
  case round =>
    clear oS hXr hRr hY0 b3
    obtain ⟨i, vS, hi, rfl, oS, hvS, hXr, hRr, hY, B⟩ := hrel
    by_cases hlt : i < c
    · have hiI : (i : Int) < (c : Int) := by omega
      have hXc : wr.cell? ⟨w.heap.size + 2, 0, none⟩ = some vS := by rw [cell_of_row wr (w.heap.size + 2) 0 _ _ _ hXr]; rfl
      have HSl := Lib.hid (List.length_replicate (n := i) (a := (2 : Int)))
      have HSS : Hid (List.replicate i (2 : Int) ++ [2] = List.replicate (i + 1) 2) := Lib.hid (by rw [List.replicate_succ'])
      obtain ⟨L, hL⟩ : ∃ L, L = List.replicate i (2 : Int) := ⟨_, rfl⟩
      rw [← hL] at oS HSl HSS
      have hLl : L.length ≤ 8 := by rw [HSl.out]; omega
      obtain ⟨aS, cS, hvs⟩ : ∃ a c, vS = .slice a L.length c := by obtain ⟨x, y, z, _⟩ := oS.ints; exact ⟨x, y, z⟩
      have HVS := Lib.hid hvs
      clear hvs hL
      go_wp2_with (at_builtin; refine wpList_append_int_at rfl _ _ rfl (w.heap.size + 1) vS L rfl (oS.alloc _) wr.heap.size 2 rfl (cell_new _ _ _) (by omega) (by simp; omega) ?_; intro v' w4 own' hgrow hnew; obtain ⟨a5, c5, hv5⟩ := own_shp own'; rw [List.length_append, List.length_singleton] at hv5; subst hv5; have hXr4 := row_grow3 hXr (World.grownBy_alloc wr (.cells #[.int .i64 2] 2) _) hgrow (fun e => by rcases hvS _ e.symm with h | h <;> omega); have hXc4 := cell_of1 hXr4; have hXf4 := frozen_of_row w4 (w.heap.size + 2) 0 _ _ hXr4)
      have hRr4 := row_grow3 hRr (World.grownBy_alloc wr (.cells #[.int .i64 2] 2) _) hgrow (fun e => by rcases hvS _ e.symm with h | h <;> omega)
      have B4 := (B.alloc (Nat.le_trans (Nat.le_add_right _ _) hY) (.cells #[.int .i64 2] 2)).grown hgrow (by simp; omega) (fun k hk => by rcases hvS k hk with h | h <;> omega)
      have hY4 : w.heap.size + 3 ≤ w4.heap.size := Nat.le_trans (Nat.le_trans hY (by simp)) hgrow.size
      have hv4 : ∀ k, (Value.slice a5 (L.length + 1) c5).ownBlock = some k → k = w.heap.size + 1 ∨ w.heap.size + 3 ≤ k := fun k hk => by
        rcases hnew with e | e
        · exact hvS k (e.symm.trans hk)
        · rw [e] at hk
          have := Option.some.inj hk
          simp at this
          omega
      have hXr5 := row_store1 (.slice a5 (L.length + 1) c5) hXr4
      have gst := grown_setCell (World.grownBy.refl w4 (some (w.heap.size + 2))) 0 (.slice a5 (L.length + 1) c5)
      have hRr5 : (w4.setCell ⟨w.heap.size + 2, 0, none⟩ (.slice a5 (L.length + 1) c5)).heap[w.heap.size]? = some (.cells #[.slice none 0 0] 24 (0, 0)) := (gst.block _ (by omega) (fun e => by have e' : w.heap.size = w.heap.size + 2 := Option.some.inj e; omega)).trans hRr4
      have own5 := World.ownsRow.kept own' gst (.inr (fun e => by rcases hv4 _ e with h | h <;> omega))
      have B5 := B4.setCell (p := ⟨w.heap.size + 2, 0, none⟩) (by simp) (.slice a5 (L.length + 1) c5)
      clear hgrow hnew own' hXr4 hXc4 hXf4 B4 hXr hXc oS B hRr hRr4 gst
      go_wp2_with fail
      go_roundw
      case rel => exact ⟨i + 1, _, by omega, by go_num, by rw [← HSS.out]; exact own5, hv4, hXr5, hRr5, by simpa using hY4, B5⟩
      case measure => simp [intOf]; omega
    · have hiI : ¬ (i : Int) < (c : Int) := by omega
      have hic : i = c := by omega
      rw [hic] at oS
      have HIC := Lib.hid hic
      clear hic
      obtain ⟨gS, cS', hvs, hgSe⟩ := own_some oS (fun e => by have := congrArg List.length e; simp at this; omega)
      rw [List.length_replicate] at hvs
      subst hvs
      have hgS : gS = w.heap.size + 1 ∨ w.heap.size + 3 ≤ gS := hvS gS rfl
      have hgl := oS.base_le
      have hXc := cell_of1 hXr
      obtain ⟨wY, hwY⟩ : ∃ wY, wY = wr := ⟨_, rfl⟩
      subst hwY
      have lX : w.heap.size + 2 < wY.heap.size := by omega
      have oR0 : OwnInts (wY.alloc (.cells #[.int .i64 0] 2)) wY.heap.size (.slice (some ⟨wY.heap.size, 0, none⟩) 1 1) [0] := World.ownsRow_lit wY (base := wY.heap.size) (e := 2) (size := 1) #[.int .i64 0] 1 (Nat.le_refl _) (by simp [maxLen]) (by simp)
      have BR0 : Below wY.heap.size wY (wY.alloc (.cells #[.int .i64 0] 2)) := (Below.refl _ wY).alloc (Nat.le_refl _) _
      have hR0 : Hid (prR X c 0 = [0]) := Lib.hid rfl
      clear hvS hgSe hlt
      go_wp2_with fail
      go_loopw [8, 9] (fun o y wr => ∃ k gr cr : Nat, k ≤ m ∧ y = .int .i64 (k : Int) ∧ o = .slice (some ⟨gr, 0, none⟩) (k + 1) cr ∧ OwnInts wr wY.heap.size (.slice (some ⟨gr, 0, none⟩) (k + 1) cr) (prR X c k) ∧ Below wY.heap.size wY wr) (fun _ y _ => m - (intOf y).toNat)
      case atStart => exact ⟨0, _, 1, Nat.zero_le _, rfl, rfl, by rw [hR0.out]; exact oR0, BR0⟩
      case round =>
        clear oR0 BR0
        obtain ⟨k, gr, cr, hk, rfl, rfl, oR, BR⟩ := hrel
        obtain ⟨Wo, hWo⟩ : ∃ Wo, Wo = wr := ⟨_, rfl⟩
        subst hWo
        by_cases hlk : k < m
        · have hkI : (k : Int) < (m : Int) := by omega
          have oD0 := own_empty Wo Wo.heap.size (Nat.le_refl _) rfl
          have BD0 : Below Wo.heap.size Wo (Wo.alloc (.cells #[] 2)) := (Below.refl _ Wo).alloc (Nat.le_refl _) _
          go_wp2_with fail
          go_loopw [10, 11] (fun vd y wi => ∃ (i gd cd : Nat), i ≤ c ∧ y = .int .i64 (i : Int) ∧ vd = .slice (some ⟨gd, 0, none⟩) i cd ∧ OwnInts wi Wo.heap.size (.slice (some ⟨gd, 0, none⟩) i cd) ((prD X c k).take i) ∧ Below Wo.heap.size Wo wi) (fun _ y _ => c - (intOf y).toNat)
          case atStart => exact ⟨0, _, 0, Nat.zero_le _, rfl, rfl, oD0, BD0⟩
          case round =>
            clear oD0 BD0
            obtain ⟨i, gd, cd, hi, rfl, rfl, oD, BD⟩ := hrel
            by_cases hic : i < c
            · have hiI : (i : Int) < (c : Int) := by omega
              obtain ⟨M, hM, hxM, hor⟩ := HOR.out i hic
              have HOr := Lib.hid hor
              have u1 : IntKind.u64.wrap (k : Int) = (k : Int) := wrap_nat k (by omega)
              go_wp2_with fail
              refine (HOr.out _).mono ?_
              rintro e w5 ⟨rfl, rfl⟩
              obtain ⟨x1, x2⟩ := HX0.out i
              obtain ⟨xv, hxv⟩ : ∃ xv, xv = gi X i := ⟨_, rfl⟩
              have HZ : Hid (bits BinOp.and IntKind.i64 ((M : Int) / 2 ^ k) 1 = gi (prD X c k) i) := Lib.hid (by rw [gi_prD _ _ _ _ hic, ← hxM]; exact shr_bit x1 x2 k)
              have HTk : Hid ((prD X c k).take (i + 1) = (prD X c k).take i ++ [gi (prD X c k) i]) := Lib.hid (take_snoc _ _ (by rw [prD_len]; exact hic))
              have HLn : Hid (((prD X c k).take i).length = i) := Lib.hid (by rw [List.length_take, prD_len]; omega)
              obtain ⟨L, hL⟩ : ∃ L, L = (prD X c k).take i := ⟨_, rfl⟩
              rw [← hL] at oD HTk HLn
              have hLl : L.length ≤ 8 := by rw [HLn.out]; omega
              have hsD := BD.size
              have k0 : ¬ (k : Int) < 0 := by omega
              have k1 : (0 : Int) ≤ (k : Int) := by omega
              clear hxv hxM x1 x2 hL
              go_wp2_with (at_builtin; refine wpList_append_int rfl _ _ rfl Wo.heap.size (.slice (some ⟨gd, 0, none⟩) i cd) L rfl (oD.alloc _) w5.heap.size (bits BinOp.and IntKind.i64 ((M : Int) / 2 ^ k) 1) rfl (cell_new _ _ _) (by omega) (by simp; omega) ?_; intro v8 w8 own8 hgrow8; obtain ⟨g8, c8, hv8, _⟩ := own_some own8 (by simp); rw [List.length_append, HLn.out, List.length_singleton] at hv8; subst hv8)
              have B8 : Below Wo.heap.size Wo w8 := (BD.alloc BD.size (.cells #[.int .i64 (bits BinOp.and IntKind.i64 ((M : Int) / 2 ^ k) 1)] 2)).grown hgrow8 (by simp; omega) (fun z hz => by have h1 := oD.base_le.1; have e' : gd = z := Option.some.inj hz; omega)
              rw [HZ.out, ← HTk.out] at own8
              clear oD BD hgrow8
              go_wp2_with fail
              go_roundw
              case rel => exact ⟨i + 1, g8, c8, by omega, by go_num, rfl, own8, B8⟩
              case measure => simp [intOf]; omega
            · have hiI : ¬ (i : Int) < (c : Int) := by omega
              have HTe : Hid ((prD X c k).take i = prD X c k) := Lib.hid (List.take_of_length_le (by rw [prD_len]; omega))
              have hiC : i = c := by omega
              rw [HTe.out] at oD
              subst hiC
              have BW := BR.trans (BD.mono BR.size)
              have cS := kept_cell BW hXc lX
              have oSW := oS.below BW
              have oRW := oR.below BD
              have hww := hWW gS cS' gd cd k _ (own_ints oSW) (own_ints oD)
              obtain ⟨V, hV⟩ : ∃ V, V = wordTo (List.replicate i 2) (prD X i k) i := ⟨_, rfl⟩
              rw [← hV] at hww
              have HV := Lib.hid hV
              clear HTe oD BD hV oR BR oSW
              go_wp2_with fail
              refine hww.mono ?_
              rintro e w7 ⟨rfl, hb7⟩
              have oR7 := oRW.below hb7
              have B7 := BW.trans (hb7.mono BW.size)
              have hs7 := B7.size
              have HPl : Hid ((prR X i k).length = k + 1) := Lib.hid (prR_len X i k)
              clear oRW BW hb7 cS
              go_wp2_with (at_builtin; refine wpList_append_int rfl _ _ rfl wY.heap.size _ (prR X i k) rfl (oR7.alloc _) w7.heap.size V rfl (cell_new _ _ _) (by rw [HPl.out]; omega) (by simp; omega) ?_; intro v8 w8 own8 hgrow8; obtain ⟨g8, c8, hv8, _⟩ := own_some own8 (by simp); rw [List.length_append, HPl.out, show ([V] : List Int).length = 1 from rfl] at hv8; subst hv8)
              have B8 : Below wY.heap.size wY w8 := (B7.alloc B7.size (.cells #[.int .i64 V] 2)).grown hgrow8 (by simp; omega) (fun z hz => by have h1 := oR7.base_le.1; have e' : gr = z := Option.some.inj hz; omega)
              rw [HV.out, ← prR_succ] at own8
              clear oR7 B7 hgrow8
              go_wp2_with fail
              go_roundw
              case rel => exact ⟨k + 1, g8, c8, by omega, by go_num, rfl, own8, B8⟩
              case measure => simp [intOf]; omega
        · have hkI : ¬ (k : Int) < (m : Int) := by omega
          have hkm : Hid (prR X c k = prR X c m) := Lib.hid (by rw [show k = m by omega])
          rw [hkm.out] at oR
          have cS := kept_cell BR hXc lX
          have oSW := oS.below BR
          have BW := B.trans (BR.mono B.size)
          have qW := (BR.block _ (show w.heap.size < wY.heap.size by omega)).trans hRr
          have dS := cell_of1 qW
          have rf := frozen_of_row Wo w.heap.size 0 _ _ qW
          have rs : (Wo.setCell ⟨w.heap.size, 0, none⟩ (.slice (some ⟨gS, 0, none⟩) c cS')).cell? ⟨w.heap.size, 0, none⟩ = some (.slice (some ⟨gS, 0, none⟩) c cS') := World.cell?_setCell_same' _ _ _ (by rw [dS]; rfl)
          have oS9 := oSW.setBelow (a := ⟨w.heap.size, 0, none⟩) (Nat.lt_succ_self _) (.slice (some ⟨gS, 0, none⟩) c cS')
          have oR9 := oR.setBelow (a := ⟨w.heap.size, 0, none⟩) (show w.heap.size < wY.heap.size by omega) (.slice (some ⟨gS, 0, none⟩) c cS')
          have B9 := BW.setCell (p := ⟨w.heap.size, 0, none⟩) (Nat.le_refl _) (.slice (some ⟨gS, 0, none⟩) c cS')
          have hM3 : wY.heap.size ≤ (Wo.setCell ⟨w.heap.size, 0, none⟩ (.slice (some ⟨gS, 0, none⟩) c cS')).heap.size := by simp; exact BR.size
          have hRI : RowIn (.slice (some ⟨gS, 0, none⟩) c cS') w.heap.size wY.heap.size := fun b hb => by simp [Value.ownBlock] at hb; omega
          clear oSW oR BW qW
          go_wp2_with fail
          refine bodyPost_ret (by rw [results_cell_tmp2p (fn := Try.f36) (p := 2) (u1 := 3) (u2 := 4) (ty := 24) (by kernel_rfl)]; go_simp; try rfl) rfl ?_
          exact ⟨wY.heap.size, _, _, rfl, by omega, hRI, oS9.rebase (Nat.le_succ _), oR9, hM3, B9⟩

set_option maxHeartbeats 1000000 in
theorem spec_PairRows (x : Int) (hx : -9223372036854775808 ≤ x ∧ x ≤ 9223372036854775807) (w : World) :
    Calls Try.prog 36 #[.int .i64 x] w fun e w' => ∃ m vs v, e = .returned (.tuple #[.agg #[vs], v, .int .i64 (ePn x)]) ∧ w.heap.size ≤ m ∧ RowIn vs w.heap.size m ∧ OwnInts w' w.heap.size vs (vPrS x) ∧ OwnInts w' m v (vPrC x) ∧ m ≤ w'.heap.size ∧ Below w.heap.size w w' := by
  by_cases h : 1 ≤ x ∧ x ≤ 8
  · obtain ⟨c, rfl⟩ : ∃ c : Nat, x = c := ⟨x.toNat, by omega⟩
    have hk := pairRows_spec c (by omega) (by omega) w
    have e1 : vPrS (c : Int) = List.replicate c 2 := by unfold vPrS; rw [if_pos h, Int.toNat_natCast]
    have e2 : vPrC (c : Int) = prR (setsL (pn c - 1) ((pn c + 1) / 2)) c (pn c - 1) := by unfold vPrC; rw [if_pos h, Int.toNat_natCast]
    rw [e1, e2, (ePn_ok (n := c) ⟨by omega, by omega⟩).1]
    exact hk
  · obtain ⟨E1, E2⟩ := ePn_bad h
    have e1 : vPrS x = [] := by unfold vPrS; rw [if_neg h]
    have e2 : vPrC x = [] := by unfold vPrC; rw [if_neg h]
    have hb : inB x 1 8 = false := inB_false h
    rw [E1, e1, e2]
    clear E1 E2 e1 e2
    have B1 : Below w.heap.size w (w.alloc (.cells #[.slice none 0 0] 24)) := by go_grown
    have B9 := B1.setCell (p := ⟨w.heap.size, 0, none⟩) (Nat.le_refl _) (.slice none 0 0)
    go_enter Try.func36, Try.ntmps36
    go_wp2_with fail
    refine (l01In_any _ _ _ _).mono ?_
    rw [hb]
    rintro e w0 ⟨rfl, rfl⟩
    go_wp2_with fail
    refine bodyPost_ret (by rw [results_cell_tmp2p (fn := Try.f36) (p := 2) (u1 := 3) (u2 := 4) (ty := 24) (by kernel_rfl)]; go_simp; try rfl) rfl ?_
    exact ⟨w.heap.size, _, _, rfl, Nat.le_refl _, fun b hb => by simp [Value.ownBlock] at hb, World.ownsRow_nil _ _ _ _, World.ownsRow_nil _ _ _ _, by simp, by go_grown⟩

end Go.Proofs.Ytgaelpcghljihaa
