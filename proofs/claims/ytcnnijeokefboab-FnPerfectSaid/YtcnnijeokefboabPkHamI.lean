/-
  The program's Hamming code. By an AI agent.
-/
import Derived.Test.YtcnnijeokefboabPkHamT
import Derived.Test.YtcnnijeokefboabPkSoC
import Derived.Test.YtcnnijeokefboabPk47
import Derived.Laws.StructEq
import Derived.Deep.RegionHeld3
namespace Go.Proofs.Ytcnnijeokefboab
open Go.RowKit Cv
set_option linter.unusedVariables false
set_option linter.unusedSimpArgs false
set_option maxRecDepth 100000

theorem run_eqCol (a b c : Int) (w : World) : (Op.equalIn 10000 67 (.agg #[.int .i64 a, .int .i64 b, .int .i64 c]) (.agg #[.int .i64 0, .int .i64 0, .int .i64 0])).run Try.prog w = .ok ((a == 0) && ((b == 0) && (c == 0))) w := by
  have he := Try.underlying2
  have hsz := Try.sizeOf2
  have ha := Try.isAgg2
  have hu : Try.prog.underlying 67 = some (.array 3 2) := by kernel_rfl
  rw [show (10000 : Nat) = 9998 + 1 + 1 from rfl, Op.equalIn]
  simp only [Sem.run_bind, run_underlying hu, Result.andThen_ok, hsz, Std.Legacy.Range.forIn_eq_forIn_range', Std.Legacy.Range.size, Nat.sub_zero, Nat.add_sub_cancel, Nat.div_one]
  have p0 : ∀ (x y z : Int), (part 2 #[.int .i64 x, .int .i64 y, .int .i64 z] (0 * 1)).run Try.prog w = .ok (.int .i64 x) w := fun x y z => by simp [part, ha]
  have p1 : ∀ (x y z : Int), (part 2 #[.int .i64 x, .int .i64 y, .int .i64 z] ((0 + 1) * 1)).run Try.prog w = .ok (.int .i64 y) w := fun x y z => by simp [part, ha]
  have p2 : ∀ (x y z : Int), (part 2 #[.int .i64 x, .int .i64 y, .int .i64 z] ((0 + 1 + 1) * 1)).run Try.prog w = .ok (.int .i64 z) w := fun x y z => by simp [part, ha]
  have pe : ∀ x : Int, _ := fun x => run_equalIn_int (P := Try.prog) (w := w) 9998 2 .i64 .i64 x 0 he
  simp only [List.range', List.forIn_cons, List.forIn_nil, Sem.run_bind, p0, p1, p2, pe, Result.andThen_ok]
  by_cases h1 : a = 0 <;> by_cases h2 : b = 0 <;> by_cases h3 : c = 0 <;> simp [p0, p1, p2, pe, h1, h2, h3]
theorem guard3 : Try.prog.eqGuardType Try.prog.depth 67 = false := by kernel_rfl

/-- the program's test of a word -/
def hamQ (q : Int) (m u : Nat) : Bool := (smR q (wcl q m) (digs (hS q (colL q m).length) (u : Int)) 0 (wcl q m).length == 0) && ((smR q (wcl q m) (digs (hS q (colL q m).length) (u : Int)) 1 (wcl q m).length == 0) && (smR q (wcl q m) (digs (hS q (colL q m).length) (u : Int)) 2 (wcl q m).length == 0))
theorem ham_eq {q : Int} {m : Nat} (h : goodQM q m) : ∀ u, u < (nW (hS q (colL q m).length)).toNat → hamQ q m u = hamP q m u := by
  rcases h with ⟨rfl, rfl⟩ | ⟨rfl, rfl⟩ | ⟨rfl, rfl⟩ <;> decide +kernel

theorem own_heapH {w w' : World} {base : Nat} {v : Value} {T : List Int} (h : OwnInts w base v T) (hk : ∀ b, v.ownBlock = some b → w'.heap[b]? = w.heap[b]?) : OwnInts w' base v T := by
  obtain ⟨h1, h2⟩ := h
  refine ⟨h1, ?_⟩
  rcases h2 with h2 | ⟨g, cap, cur, hv, hg, hh, r⟩
  · exact .inl h2
  · exact .inr ⟨g, cap, cur, hv, hg, by rw [hk g (by rw [hv]; rfl)]; exact hh, r⟩
theorem cell_heap {w w' : World} {b : Nat} (h : w'.heap[b]? = w.heap[b]?) (o : Nat) : w'.cell? ⟨b, o, none⟩ = w.cell? ⟨b, o, none⟩ := by
  simp only [World.cell?, h]
theorem ints_heap {w w' : World} {b o : Nat} {T : List Int} (h : Ints w (some ⟨b, o, none⟩) T) (hk : w'.heap[b]? = w.heap[b]?) (hl : b < w'.heap.size) : Ints w' (some ⟨b, o, none⟩) T := by
  rcases h with h | ⟨b', o', he, hlt, hc⟩
  · exact .inl h
  · simp only [Option.some.injEq, Addr.mk.injEq, and_true] at he
    obtain ⟨rfl, rfl⟩ := he
    exact .inr ⟨_, _, rfl, hl, fun i hi => (cell_heap hk _).trans (hc i hi)⟩

theorem ham_err (q m : Int) (w w2 : World) (he : eCol 2 q m ≠ 0) (hb : Below w.heap.size w w2) :
    ∃ M vs v, (Ending.returned (.tuple #[.agg #[.slice none 0 0], .slice none 0 0, .int .i64 (eCol 2 q m)]) : Ending) = .returned (.tuple #[.agg #[vs], v, .int .i64 (eCol 2 q m)]) ∧ w.heap.size ≤ M ∧ RowIn vs w.heap.size M ∧ OwnInts w2 w.heap.size vs (vHamS q m) ∧ OwnInts w2 M v (vHamC q m) ∧ M ≤ w2.heap.size ∧ Below w.heap.size w w2 := by
  obtain ⟨v1, v2⟩ := vHam_no he
  exact ⟨w.heap.size, _, _, rfl, Nat.le_refl _, fun k hk => (by cases hk), by rw [v1]; exact own_nilh _ _, by rw [v2]; exact own_nilh _ _, hb.size, hb⟩

set_option maxHeartbeats 2000000 in
theorem impl_HammingCode (q : Int) (hq : -9223372036854775808 ≤ q ∧ q ≤ 9223372036854775807) (m : Int) (hm : -9223372036854775808 ≤ m ∧ m ≤ 9223372036854775807) (w : World) :
    Calls Try.prog 14 #[.int .i64 q, .int .i64 m] w fun e w' => ∃ M vs v, e = .returned (.tuple #[.agg #[vs], v, .int .i64 (eCol 2 q m)]) ∧ w.heap.size ≤ M ∧ RowIn vs w.heap.size M ∧ OwnInts w' w.heap.size vs (vHamS q m) ∧ OwnInts w' M v (vHamC q m) ∧ M ≤ w'.heap.size ∧ Below w.heap.size w w' := by
  obtain ⟨W, hW⟩ : ∃ W, W = w.alloc (.cells #[.slice none 0 0] 26) := ⟨_, rfl⟩
  have hWs : W.heap.size = w.heap.size + 1 := by rw [hW]; simp
  have B0 : Below w.heap.size w W := by rw [hW]; go_grown
  have rR : W.heap[w.heap.size]? = some (.cells #[.slice none 0 0] 26 (0, 0)) := by rw [hW]; exact heap_alloc_new _ _
  have HW := Lib.hid hW
  clear hW
  by_cases h : (2 ≤ q ∧ q ≤ 3) ∧ 2 ≤ m ∧ m ≤ 3
  case neg =>
    have HE := Lib.hid (fun w2 hb => ham_err q m w w2 (by rw [(eCol_no h).1]; omega) hb)
    rw [(eCol_no h).1] at HE ⊢
    have HC := Lib.hid (columnsFor_out q m 2 h)
    clear h
    go_enter Try.func14, Try.ntmps14
    go_wp2_with fail
    rw [← HW.out]
    refine (HC.out _).mono ?_
    rintro e w1 ⟨rfl, hb⟩
    have rR1 := (hb.block _ (by rw [hWs]; omega)).trans rR
    have rc := cell_of1 rR1
    have rf := frozen_of_row w1 w.heap.size 0 _ _ rR1
    have rs := cell_set1 (.slice none 0 0) rR1
    have B1 := (B0.trans (hb.mono B0.size)).setCell (p := ⟨w.heap.size, 0, none⟩) (Nat.le_refl _) (.slice none 0 0)
    clear hb rR rR1
    go_wp2_with fail
    refine bodyPost_ret (by rw [results_cell_tmp2h rfl]; go_simp; try rfl) rfl ?_
    exact HE.out _ B1
  obtain ⟨k, rfl⟩ := Int.eq_ofNat_of_zero_le (show 0 ≤ m by omega)
  have hq' : q = 2 ∨ q = 3 := by omega
  have hM : k = 1 ∨ k = 2 ∨ k = 3 := by omega
  have HBg := Lib.hid (eCol_big h)
  have HO := Lib.hid (eCol_ok h)
  have HPC := Lib.hid (pc_all hq' hM)
  have HC := Lib.hid (columnsFor_in q hq' k hM 2 ⟨by omega, by omega⟩)
  have HGD := Lib.hid (good_of h)
  rw [show ((k : Int)).toNat = k by simp] at HBg HO HGD
  clear h hM hq hm
  have HER := Lib.hid fun w2 he hb => ham_err q (k : Int) w w2 he hb
  go_enter Try.func14, Try.ntmps14
  go_wp2_with fail
  rw [← HW.out]
  refine (HC.out _).mono ?_
  rintro e w1 ⟨hres, hb⟩
  have rR1 := (hb.block _ (by rw [hWs]; omega)).trans rR
  have B1 := B0.trans (hb.mono B0.size)
  have s1 := hb.size
  clear hb rR
  rcases hres with ⟨h8, rfl⟩ | ⟨h8, v, rfl, o3⟩
  · have E := HBg.out (by rw [← HPC.out.1]; exact h8)
    have E1 := Lib.hid E.1
    have rc := cell_of1 rR1
    have rf := frozen_of_row w1 w.heap.size 0 _ _ rR1
    have rs := cell_set1 (.slice none 0 0) rR1
    have B2 := B1.setCell (p := ⟨w.heap.size, 0, none⟩) (Nat.le_refl _) (.slice none 0 0)
    clear rR1 E h8
    go_wp2_with fail
    refine bodyPost_ret (by rw [results_cell_tmp2h rfl]; go_simp; try rfl) rfl ?_
    have h9 := HER.out _ (by rw [E1.out]; omega) B2
    rw [E1.out] at h9 ⊢
    exact h9
  · have hgd := HGD.out (by rw [← HPC.out.1]; exact h8)
    have E := HO.out (by rw [← HPC.out.1]; exact h8)
    have E1 := Lib.hid E.1
    have hv := vHam_ok (q := q) (m := (k : Int)) E.1
    rw [show ((k : Int)).toNat = k by simp] at hv
    have hSp := good_sp hgd
    obtain ⟨n1, n7⟩ := good_len hgd
    have hHE := ham_eq hgd
    unfold hamQ at hHE
    have hRl := HPC.out.1
    obtain ⟨R, hR⟩ : ∃ R, R = wcl q k := ⟨_, rfl⟩
    obtain ⟨T, hT⟩ : ∃ T, T = hS q (colL q k).length := ⟨_, rfl⟩
    rw [← hR] at o3 hRl hHE
    rw [← hT] at hSp hv hHE
    have hTl : T.length = R.length := by rw [hT, hS_len, hRl]
    obtain ⟨N, hN⟩ : ∃ N : Nat, nW T = (N : Int) := ⟨(nW T).toNat, by have := nW_bd hSp; omega⟩
    rw [hN, Int.toNat_natCast] at hv hHE
    have hN4 : N ≤ 1024 := by have := nW_bd hSp; omega
    have HV := Lib.hid hv
    have HHE := Lib.hid hHE
    have HSp := Lib.hid hSp
    have HNn := Lib.hid hN
    have R1 : 1 ≤ R.length := by omega
    have R7 : R.length ≤ 7 := by omega
    have HTr : Hid (T = List.replicate R.length q) := Lib.hid (by rw [hT, hRl]; rfl)
    obtain ⟨av, cv, hav⟩ := own3_shape o3
    subst hav
    obtain ⟨gc, hav, hgc, hcell⟩ := own3_cells o3 (by omega)
    subst hav
    have HCE := Lib.hid hcell
    have HTl := Lib.hid hTl
    have HQ := Lib.hid hq'
    have HDB : Hid (∀ u : Nat, u < N → ∀ i, i < (digs T (u : Int)).length → 0 ≤ gi (digs T (u : Int)) i ∧ gi (digs T (u : Int)) i < q) := Lib.hid fun u hu i hi => by
      rw [digs_length] at hi
      rw [gi_digs _ _ _ hi]
      have h1 := dig_bd T (u : Int) hSp.bd i hi
      have h2 : gi T i = q := by rw [HTr.out]; simp [gi]; rw [hTl] at hi; simp [hi]
      rw [h2] at h1; exact h1
    have HDL : Hid (∀ u : Nat, (digs T (u : Int)).length = R.length) := Lib.hid fun u => by rw [digs_length, hTl]
    clear E h8 hgd hSp hv hHE hcell o3 hR hT hTl hN n1 n7 hRl hq'
    go_wp2_with fail
    refine (plainSpaceOf_any q R.length (by omega) _).mono ?_
    rintro e w2 ⟨gS, rfl, oS, hb⟩
    have rR2 := (hb.block _ (by omega)).trans rR1
    have B2 := B1.trans (hb.mono B1.size)
    have H12 := Lib.hid hb
    have s2 := hb.size
    rw [← HTr.out] at oS
    have hgSb := oS.base_le
    clear hb rR1
    have c3 := cell_new w2 (.slice (some ⟨gS, 0, none⟩) R.length R.length) 26
    go_wp2_with fail
    obtain ⟨Mx, hMx⟩ : ∃ Mx, Mx = w2.heap.size + 1 := ⟨_, rfl⟩
    obtain ⟨w4, hw4⟩ : ∃ w4, w4 = (w2.alloc (.cells #[.slice (some ⟨gS, 0, none⟩) R.length R.length] 26)).alloc (.cells #[] 2) := ⟨_, rfl⟩
    have hAB : Below w2.heap.size w2 (w2.alloc (.cells #[.slice (some ⟨gS, 0, none⟩) R.length R.length] 26)) := (Below.refl _ _).alloc (Nat.le_refl _) _
    have h24 : Below w2.heap.size w2 w4 := by rw [hw4]; exact hAB.alloc hAB.size _
    have c4 : w4.cell? ⟨w2.heap.size, 0, none⟩ = some (.slice (some ⟨gS, 0, none⟩) R.length R.length) := by rw [hw4]; exact kept_cell ((Below.refl _ _).alloc (Nat.le_refl _) _) c3 (lt_alloc _ _)
    have z4 : w4.heap.size = Mx + 1 := by rw [hw4, hMx]; simp
    have l4 : w2.heap.size < w4.heap.size := by omega
    have oC4 : OwnInts w4 Mx (.slice (some ⟨Mx, 0, none⟩) 0 0) [] := by rw [hw4]; exact own_empty _ _ (by rw [hMx]; simp) (by rw [hMx]; simp)
    have oS4 := oS.below h24
    have rR4 := (h24.block _ (by omega)).trans rR2
    have B4 := B2.trans (h24.mono B2.size)
    have H14 := Lib.hid (H12.out.trans (h24.mono s2))
    have HMx := Lib.hid hMx
    have hMw : w2.heap.size < Mx := by omega
    have hM4 : Mx < w4.heap.size := by omega
    have hww : w.heap.size < w2.heap.size := by omega
    rw [← hw4, ← hMx]
    have HAW : Hid (∀ w', Ints w' (some ⟨gS, 0, none⟩) T → Calls Try.prog 43 #[.agg #[.slice (some ⟨gS, 0, none⟩) R.length R.length]] w' fun e w'' => ∃ qa, e = .returned (.slice (some ⟨qa, 0, none⟩) N N) ∧ OwnInts w'' w'.heap.size (.slice (some ⟨qa, 0, none⟩) N N) (upto N) ∧ Below w'.heap.size w' w'') := Lib.hid fun w' h => by
      have := allWords_any (some ⟨gS, 0, none⟩) T R.length HSp.out N HNn w' h
      rwa [HTl.out] at this
    have HDP : Hid (∀ w' qa, Ints w' (some ⟨gS, 0, none⟩) T → Ints w' (some ⟨qa, 0, none⟩) (upto N) → Calls Try.prog 42 #[.agg #[.slice (some ⟨gS, 0, none⟩) R.length R.length], .slice (some ⟨qa, 0, none⟩) N N] w' fun e w'' => ∃ P g U, e = .returned (.slice (some ⟨P, 0, none⟩) N N) ∧ PartsAt w'' w'.heap.size P g T (upto N) U ∧ Below w'.heap.size w' w'') := Lib.hid fun w' qa h1 h2 => by
      have := digitParts_n (some ⟨gS, 0, none⟩) T R.length HSp.out.lo HSp.out.hi HSp.out.bd (some ⟨qa, 0, none⟩) (upto N) N N (upto_len N).symm (by omega) (fun i h => by rw [upto_len] at h; rw [gi_upto _ _ h]; omega) w' h1 h2
      rwa [HTl.out] at this
    have I4 := own_ints oS4
    clear c3 hAB h24 hw4 oS rR2 B2 hMx z4
    go_region_held3 (fun w' => w'.cell? ⟨w2.heap.size, 0, none⟩ = some (.slice (some ⟨gS, 0, none⟩) R.length R.length)) (first | exact c4 | exact kept_cell hb2 c4 l4 | exact kept_cell hb3 (kept_cell hb2 c4 l4) (lt_of_below hb2 l4)) (first | (go_at_call 43; refine (HAW.out _ (I4.below (Below.refl _ w4).drew)).mono ?_; rintro e w5 ⟨qa, rfl, oq, hb2'⟩; have hb2 := (Below.refl _ w4).drew.trans hb2'; have B5 := B4.trans (hb2.mono B4.size)) | (go_at_call 42; refine (HDP.out _ qa (I4.below hb2) (own_ints oq)).mono ?_; rintro e w6 ⟨P, g, U, rfl, hp, hb3⟩))
    have hb46 := hb2.trans (hb3.mono hb2.size)
    have s5 := hb2.size
    have s46 := hb46.size
    have B6 := B4.trans (hb46.mono B4.size)
    have oC6 := oC4.below hb46
    have oS6 := oS4.below hb46
    have rR6 := (hb46.block w.heap.size (Nat.lt_trans hww (Nat.lt_trans hMw hM4))).trans rR4
    have c6 := kept_cell hb46 c4 l4
    have H16 := Lib.hid (H14.out.trans (hb46.mono H14.out.size))
    have hPb := hp.bp
    have hPl := hp.pl
    have hgb := hp.own.base_le
    obtain ⟨Z, hZ⟩ : ∃ Z, Z = w6.heap.size := ⟨_, rfl⟩
    rw [← hZ] at hPl hgb s46
    have HP6 := Lib.hid hp
    have HZ := Lib.hid hZ
    have HR6 := Lib.hid rR6
    have HC6 := Lib.hid c6
    have HS6 := Lib.hid oS6
    clear hb46 hb2 hb2' hb3 oq B5 B4 oC4 oS4 rR4 c4 I4 rR6 c6 hp oS6 hZ
    go_wp2_with fail
    go_loopw [10, 33] (fun xo xi wr => ∃ u : Nat, u ≤ N ∧ xi = .int .i64 u ∧ OwnInts wr Mx xo (selL (hamP q k) u) ∧ (∀ b, xo.ownBlock = some b → b = Mx ∨ Z ≤ b) ∧ Hid (∀ b, b ≠ Mx → b < Z → wr.heap[b]? = w6.heap[b]?) ∧ Z ≤ wr.heap.size ∧ Below w.heap.size w wr) (fun _ xi _ => N - (intOf xi).toNat)
    case atStart => exact ⟨0, Nat.zero_le _, rfl, oC6, fun b hb => .inl (by simp [Value.ownBlock] at hb; omega), Lib.hid fun _ _ _ => rfl, Nat.le_of_eq HZ.out, B6⟩
    case round =>
      clear oC6 B6
      obtain ⟨u, hu, rfl, oC, hvO, HK, hY, B⟩ := hrel
      by_cases hlt : u < N
      · have hku : u < (upto N).length := by rw [upto_len]; exact hlt
        have hrk : wr.cell? ⟨P, u, none⟩ = some (.slice (some ⟨g, u * R.length, none⟩) R.length R.length) := (cell_heap (HK.out P (by omega) hPl) u).trans (by have := HP6.out.row u hku; rwa [HTl.out] at this)
        have hik := HP6.out.ints hku
        rw [gi_upto _ _ hlt, HTl.out] at hik
        have hikr := ints_heap hik (HK.out g (by omega) hgb.2) (by omega)
        have hcr : ∀ kk j, kk < R.length → j < 3 → wr.cell? ⟨gc, kk * 3 + j, none⟩ = some (.int .i64 (gi (c3 q (gi R kk)) j)) := fun kk j h1 h2 => (cell_heap (HK.out gc (by omega) (by omega)) _).trans (kept_cell H16.out (HCE.out kk j h1 h2) hgc)
        have hsum := sumOfColumns_any q HQ.out gc cv R (by omega) _ (digs T u) R.length R.length (HDL.out u).symm (HDL.out u) (HDB.out u hlt) wr (by omega) hcr hikr
        have hQ := HHE.out u hlt
        obtain ⟨s0, hs0⟩ : ∃ s, s = smR q R (digs T u) 0 R.length := ⟨_, rfl⟩
        obtain ⟨s1', hs1⟩ : ∃ s, s = smR q R (digs T u) 1 R.length := ⟨_, rfl⟩
        obtain ⟨s2', hs2⟩ : ∃ s, s = smR q R (digs T u) 2 R.length := ⟨_, rfl⟩
        rw [← hs0, ← hs1, ← hs2] at hsum hQ
        have HSM := Lib.hid hsum
        have kI : (u : Int) < (N : Int) := by omega
        have k0 : (0 : Int) ≤ (u : Int) := by omega
        have hg3 := guard3
        have hpl := selL_len (hamP q k) u
        clear hs0 hs1 hs2 hik hikr hcr hku hsum
        cases hd : hamP q k u with
        | true =>
          have heq : ∀ w', (Op.equalIn 10000 67 (.agg #[.int .i64 s0, .int .i64 s1', .int .i64 s2']) (.agg #[.int .i64 0, .int .i64 0, .int .i64 0])).run Try.prog w' = .ok true w' := fun w' => by rw [run_eqCol, hQ, hd]
          have H2 : Hid (selL (hamP q k) (u + 1) = selL (hamP q k) u ++ [(u : Int)]) := Lib.hid (by rw [selL_succ, if_pos hd])
          have E0 : IntKind.i64.wrap (u : Int) = (u : Int) := IntWalk.i64_in _ ⟨by omega, by omega⟩
          clear hQ hd
          go_wp2_with fail
          refine HSM.out.mono ?_
          rintro e w7 ⟨rfl, hb⟩
          have s7 := hb.size
          have oC7 := oC.below hb
          have HK7 : Hid (∀ b, b ≠ Mx → b < Z → w7.heap[b]? = w6.heap[b]?) := Lib.hid fun b h1 h2 => (hb.block b (by omega)).trans (HK.out b h1 h2)
          have hY7 : Z ≤ w7.heap.size := by omega
          have hZ7 : Mx < w7.heap.size := by omega
          have hw7 : w.heap.size ≤ w7.heap.size := by omega
          have B7 := B.trans (hb.mono B.size)
          clear hb oC HK B s7 hrk
          go_wp2_with (at_builtin; refine wpList_append_int_at rfl _ _ rfl Mx _ _ rfl (oC7.alloc _) w7.heap.size _ rfl (cell_new _ _ _) (by omega) (by rw [World.size_alloc]; omega) ?_; intro v' w8 own' hgrow hnew)
          have HK8 : Hid (∀ b, b ≠ Mx → b < Z → w8.heap[b]? = w6.heap[b]?) := Lib.hid fun b h1 h2 => by
            have e1 := hgrow.block b (by rw [World.size_alloc]; omega) (fun e => by rcases hvO b e.symm with h | h <;> omega)
            have e2 := ((Below.refl w7.heap.size w7).alloc (Nat.le_refl _) (.cells #[.int .i64 (u : Int)] 2)).block b (by omega)
            exact e1.trans (e2.trans (HK7.out b h1 h2))
          have B8 := (B7.alloc hw7 (.cells #[.int .i64 (u : Int)] 2)).grown hgrow (by rw [World.size_alloc]; omega) (fun b hb => by rcases hvO b hb with h | h <;> omega)
          have hY8 : Z ≤ w8.heap.size := Nat.le_trans (Nat.le_trans hY7 (by simp)) hgrow.size
          have hv8 : ∀ b, v'.ownBlock = some b → b = Mx ∨ Z ≤ b := fun b hb => by
            rcases hnew with e | e
            · exact hvO b (e.symm.trans hb)
            · rw [e] at hb
              have := Option.some.inj hb
              simp at this
              omega
          clear hgrow hnew oC7 HK7 B7 hvO
          go_wp2_with fail
          go_roundw
          case rel => exact ⟨u + 1, by omega, by go_num, by rw [H2.out]; exact own', hv8, HK8, hY8, B8⟩
          case measure => simp [intOf]; omega
        | false =>
          have heq : ∀ w', (Op.equalIn 10000 67 (.agg #[.int .i64 s0, .int .i64 s1', .int .i64 s2']) (.agg #[.int .i64 0, .int .i64 0, .int .i64 0])).run Try.prog w' = .ok false w' := fun w' => by rw [run_eqCol, hQ, hd]
          have H2 : Hid (selL (hamP q k) (u + 1) = selL (hamP q k) u) := Lib.hid (by rw [selL_succ, if_neg (by rw [hd]; simp), List.append_nil])
          clear hQ hd
          go_wp2_with fail
          refine HSM.out.mono ?_
          rintro e w7 ⟨rfl, hb⟩
          have s7 := hb.size
          have oC7 := oC.below hb
          have HK7 : Hid (∀ b, b ≠ Mx → b < Z → w7.heap[b]? = w6.heap[b]?) := Lib.hid fun b h1 h2 => (hb.block b (by omega)).trans (HK.out b h1 h2)
          have hY7 : Z ≤ w7.heap.size := by omega
          have B7 := B.trans (hb.mono B.size)
          clear hb oC HK B s7 hrk
          go_wp2_with fail
          go_roundw
          case rel => exact ⟨u + 1, by omega, by go_num, by rw [H2.out]; exact oC7, hvO, HK7, hY7, B7⟩
          case measure => simp [intOf]; omega
      · have eu : u = N := by omega
        have kI : ¬ (u : Int) < (N : Int) := by omega
        have hRr := (HK.out w.heap.size (by omega) (by omega)).trans HR6.out
        have hcS := (cell_heap (HK.out w2.heap.size (by omega) (by omega)) 0).trans HC6.out
        have oSr := own_heapH HS6.out (fun b hb => HK.out b (by simp [Value.ownBlock] at hb; omega) (by simp [Value.ownBlock] at hb; omega))
        have oC1 : OwnInts wr Mx u10 (selL (hamP q k) N) := by rw [← eu]; exact oC
        have rc := cell_of1 hRr
        have rf := frozen_of_row wr w.heap.size 0 _ _ hRr
        have rs := cell_set1 (.slice (some ⟨gS, 0, none⟩) R.length R.length) hRr
        have hgSR : RowIn (.slice (some ⟨gS, 0, none⟩) R.length R.length) w.heap.size Mx := fun b hb => by simp [Value.ownBlock] at hb; omega
        have oS7 := (oSr.rebase (base' := w.heap.size + 1) (by omega)).setBelow (a := ⟨w.heap.size, 0, none⟩) (Nat.lt_succ_self _) (.slice (some ⟨gS, 0, none⟩) R.length R.length)
        have oC7 := oC1.setBelow (a := ⟨w.heap.size, 0, none⟩) (show w.heap.size < Mx by omega) (.slice (some ⟨gS, 0, none⟩) R.length R.length)
        have B7 := B.setCell (p := ⟨w.heap.size, 0, none⟩) (Nat.le_refl _) (.slice (some ⟨gS, 0, none⟩) R.length R.length)
        have hMr : Mx ≤ (wr.setCell ⟨w.heap.size, 0, none⟩ (.slice (some ⟨gS, 0, none⟩) R.length R.length)).heap.size := by simp; omega
        clear hRr oSr oC1 oC HK B eu
        go_wp2_with fail
        refine bodyPost_ret (by rw [results_cell_tmp2h rfl]; go_simp; try rfl) rfl ?_
        exact ⟨Mx, _, _, by rw [E1.out], by omega, hgSR, by rw [HV.out.1]; exact oS7.rebase (Nat.le_succ _), by rw [HV.out.2]; exact oC7, hMr, B7⟩

end Go.Proofs.Ytcnnijeokefboab
