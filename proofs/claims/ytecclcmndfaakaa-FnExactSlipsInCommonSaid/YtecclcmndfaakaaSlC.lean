/-
  The contracts of SlipsInCommon. By an AI agent.
-/
import Derived.Test.YtecclcmndfaakaaSlE
import Derived.Test.YtecclcmndfaakaaSlF
import Derived.Test.YtecclcmndfaakaaMark
namespace Go.Proofs.Ytecclcmndfaakaa
open Go.RowKit Cv
set_option linter.unusedVariables false
set_option linter.unusedSimpArgs false
set_option maxRecDepth 100000

theorem and_all : ∀ (a b : Fin 16), bits .and .i64 ((a : Nat) : Int) ((b : Nat) : Int) = andI ((a : Nat) : Int) ((b : Nat) : Int) := by decide
theorem bits_andI {a b : Int} (a0 : 0 ≤ a) (a1 : a < 16) (b0 : 0 ≤ b) (b1 : b < 16) : bits .and .i64 a b = andI a b := by
  obtain ⟨m, rfl⟩ := Int.eq_ofNat_of_zero_le a0
  obtain ⟨n, rfl⟩ := Int.eq_ofNat_of_zero_le b0
  exact and_all ⟨m, by omega⟩ ⟨n, by omega⟩
theorem sl_bdl {S T : List Int} (h : Sl S T) {k : Nat} (hk : k < T.length) : 0 ≤ gi T k ∧ gi T k < 16 := by
  have := h.bd k (by have := h.len; omega)
  omega
theorem cmL_of (T U R : List Int) (hR : R.length = T.length) (h : ∀ j, j < T.length → gi R j = andI (gi T j) (gi U j)) : R = cmL T U :=
  ext_gi (by rw [hR, cmL_len]) fun i hi => by rw [h i (by omega), cmL, gi_map_range _ _ _ (by omega)]
theorem cm_set (T U R : List Int) (k : Nat) (hk : k < T.length) (hR : R.length = T.length) (h : ∀ j, j < k → gi R j = andI (gi T j) (gi U j)) : ∀ j, j < k + 1 → gi (R.set k (andI (gi T k) (gi U k))) j = andI (gi T j) (gi U j) := fun j hj => by
  rw [gi_set _ _ _ _ (by rw [hR]; exact hk)]
  by_cases e : j = k
  · rw [if_pos e, e]
  · rw [if_neg e]; exact h j (by omega)
theorem cm_app (T U R : List Int) (k : Nat) (hR : R.length = k) (h : ∀ j, j < k → gi R j = andI (gi T j) (gi U j)) : ∀ j, j < k + 1 → gi (R ++ [andI (gi T k) (gi U k)]) j = andI (gi T j) (gi U j) := fun j hj => by
  by_cases e : j = k
  · subst e; rw [← hR]; simp [gi]
  · have := h j (by omega)
    rw [← this]; simp only [gi, List.getD]
    rw [List.getElem?_append_left (by rw [hR]; omega)]

set_option maxHeartbeats 2000000 in
theorem impl_SlipsInCommon (ao : Option Addr) (S : List Int) (cap : Nat) (hn : S.length ≤ 4294967296) (at' : Option Addr) (T : List Int) (capt : Nat) (hnt : T.length ≤ 4294967296) (au : Option Addr) (U : List Int) (capu : Nat) (hnu : U.length ≤ 4294967296) (w : World) (hS : Ints w ao S) (hT : Ints w at' T) (hU : Ints w au U) :
    Calls Try.prog 34 #[.agg #[.slice ao S.length cap], .slice at' T.length capt, .slice au U.length capu] w fun e w' => ∃ v, e = .returned (.tuple #[v, .int .i64 (eCm S T U)]) ∧ OwnInts w' w.heap.size v (vCm S T U) ∧ Below w.heap.size w w' := by
  obtain ⟨i0, hi, hz0, hz1, hz2⟩ := info_parts infoI64
  obtain ⟨W, hW⟩ : ∃ W, W = w.alloc (.cells #[.slice ao S.length cap] 28) := ⟨_, rfl⟩
  have hWs : W.heap.size = w.heap.size + 1 := by rw [hW]; simp
  have B0 : Below w.heap.size w W := by rw [hW]; go_grown
  have c0 : W.cell? ⟨w.heap.size, 0, none⟩ = some (.slice ao S.length cap) := by rw [hW]; exact cell_new _ _ _
  have l0 : w.heap.size < W.heap.size := by omega
  have HW := Lib.hid hW
  clear hW
  have hsl := slips_two (c := capt) (c' := capu) hnt hnu (hT.below B0) (hU.below B0) 30 hWs.symm
  have B1 := B0.alloc B0.size (.cells #[.slice at' T.length capt, .slice au U.length capu] 30)
  have c1 := kept_cell ((Below.refl _ W).alloc (Nat.le_refl _) (.cells #[.slice at' T.length capt, .slice au U.length capu] 30)) c0 l0
  have l1 := lt_of_below ((Below.refl _ W).alloc (Nat.le_refl _) (.cells #[.slice at' T.length capt, .slice au U.length capu] 30)) l0
  by_cases hz : eSls S [T, U] = 0
  case neg =>
    have HE : Hid (eCm S T U = eSls S [T, U]) := Lib.hid (by unfold eCm; rw [if_neg hz])
    have HV : Hid (vCm S T U = []) := Lib.hid (by unfold vCm; rw [if_neg (by rw [HE.out]; exact hz)])
    have hzn : (eSls S [T, U] != 0) = true := by simpa using hz
    clear hz hi hz0 hz1 hz2
    go_enter Try.func34, Try.ntmps34
    go_wp2_with fail
    rw [← HW.out]
    refine (slipsError_any ao S cap hn _ [T, U] 2 2 rfl (by simp) _ (hS.below B1) hsl).mono ?_
    rintro e w1 ⟨rfl, hb⟩
    go_wp2_with fail
    go_ret2
    exact ⟨_, by rw [HE.out]; rfl, by rw [HV.out]; exact own_nils _ _, B1.trans (hb.mono B1.size)⟩
  obtain ⟨hSp, hSl, hSu⟩ := eSls2 hz
  have hTn := hSl.len
  have hUn := hSu.len
  have hhi := hSp.hi
  have hT8 : T.length ≤ 8 := by omega
  have HUT := Lib.hid (show U.length = T.length by omega)
  have HSp := Lib.hid hSp
  have HSl := Lib.hid hSl
  have HSu := Lib.hid hSu
  have HZ := Lib.hid hz
  have hzn : (eSls S [T, U] != 0) = false := by simp [hz]
  clear hz hSp hSl hSu hTn hUn
  go_enter Try.func34, Try.ntmps34
  go_wp2_with fail
  rw [← HW.out]
  refine (slipsError_any ao S cap hn _ [T, U] 2 2 rfl (by simp) _ (hS.below B1) hsl).mono ?_
  rintro e w1 ⟨rfl, hb⟩
  replace c1 := kept_cell hb c1 l1
  replace l1 := lt_of_below hb l1
  replace B1 := B1.trans (hb.mono B1.size)
  clear hb hsl B0 c0 l0 hWs
  go_wp2_with (at_make; refine wpList_make_full _ rfl _ _ 30 rfl w1.heap.size 2 i0 (.int .i64 0) 1 Try.underlying30 hi hz0 hz1 .i64 .i64 _ _ T.length rfl rfl rfl rfl (by rw [hz2]; omega) (by unfold maxLen; omega) (Nat.le_refl _) ?_; intro w2 hown hgrow; have c2 := kept_cell (below_grown0 hgrow) c1 l1)
  have l2 : w.heap.size < w2.heap.size := Nat.lt_of_lt_of_le l1 hgrow.size
  have B2 : Below w.heap.size w w2 := B1.trans ((below_grown0 hgrow).mono B1.size)
  replace hown := own_made hown
  clear hgrow c1
  obtain ⟨G, hG⟩ : ∃ G, G = w1.heap.size := ⟨_, rfl⟩
  rw [← hG] at l1 hown ⊢
  clear hi hz0 hz1 hz2 B1 hG hzn
  go_loopw [25] (fun i wr => ∃ (k : Nat) (R : List Int), k ≤ T.length ∧ i = .int .i64 k ∧ OwnInts wr G (.slice (some ⟨G, 0, none⟩) T.length T.length) R ∧ Hid (R.length = T.length ∧ ∀ j, j < k → gi R j = andI (gi T j) (gi U j)) ∧ wr.cell? ⟨w.heap.size, 0, none⟩ = some (.slice ao S.length cap) ∧ w.heap.size < wr.heap.size ∧ Below w.heap.size w wr)
    (fun i _ => T.length - (intOf i).toNat)
  case atStart => exact ⟨0, _, Nat.zero_le _, rfl, hown, Lib.hid ⟨by simp, fun j h => by omega⟩, c2, l2, B2⟩
  case round =>
    clear c2 l2 B2 hown
    obtain ⟨k, R, hk, rfl, own, HR, c, l, B⟩ := hrel
    by_cases hlt : k < T.length
    · have hltu : k < U.length := by have := HUT.out; omega
      obtain ⟨b, o, rfl, hbl, hc⟩ := hT.at hlt
      obtain ⟨b', o', rfl, hbl', hc'⟩ := hU.at hltu
      have hck := kept_cell B (hc k hlt) hbl
      have hck' := kept_cell B (hc' k hltu) hbl'
      obtain ⟨t0, t1⟩ := sl_bdl HSl.out hlt
      obtain ⟨u0, u1⟩ := sl_bdl HSu.out hltu
      have hfree := own.free k
      have hcell := own.cell (k := k) (by rw [HR.out.1]; exact hlt)
      have s1 := bits_andI t0 t1 u0 u1
      clear hc hc'
      go_wp2_with fail
      clear s1
      go_roundw
      case rel => exact ⟨k + 1, _, by omega, by go_num, own.stored k _, Lib.hid ⟨by rw [List.length_set]; exact HR.out.1, cm_set T U R k hlt HR.out.1 HR.out.2⟩, cell_set_other c (by simp; omega), by simpa using l, B.setCell (by simp; omega) _⟩
      case measure => simp [intOf]; omega
    · have HF := Lib.hid (cmL_of T U R HR.out.1 fun j hj => HR.out.2 j (by omega))
      have HRl := Lib.hid (show T.length = R.length from HR.out.1.symm)
      go_wp2_with fail
      rw [HRl.out] at own ⊢
      refine (isSlip_any ao S cap HSp.out _ R R.length (by have := HR.out.1; omega) _ (hS.below B) (own_ints own)).mono ?_
      rintro e w3 ⟨rfl, hb⟩
      replace B := B.trans (hb.mono B.size)
      replace own := own.below hb
      clear hb
      cases hs : slB S R with
      | false =>
        have HE : Hid (eCm S T U = 4) := Lib.hid (by unfold eCm; rw [if_pos HZ.out, ← HF.out, hs]; rfl)
        have HV : Hid (vCm S T U = []) := Lib.hid (by unfold vCm; rw [if_neg (by rw [HE.out]; decide)])
        go_wp2_with fail
        go_ret2
        exact ⟨_, by rw [HE.out]; rfl, by rw [HV.out]; exact own_nils _ _, B⟩
      | true =>
        have HE : Hid (eCm S T U = 0) := Lib.hid (by unfold eCm; rw [if_pos HZ.out, ← HF.out, hs]; rfl)
        have HV : Hid (vCm S T U = R) := Lib.hid (by unfold vCm; rw [if_pos HE.out, HF.out])
        go_wp2_with fail
        go_ret2
        exact ⟨_, by rw [HE.out]; rfl, by rw [HV.out]; exact own.rebase (by omega), B⟩

theorem wp_append_slip {w : World} {o : Oper} {a : Act} {K : Act → World → Prop} {Q : Exit → Act → World → Prop} (s x : Operand)
    (ho : o.op = .call { callee := .builtin .append, args := #[s, x], argTypes := #[30, 30] })
    (base : Nat) (v : Value) (L : List Int) (hs : a.eval s = v) (hown : OwnInts w base v L) (b : Nat) (y : Int) (hx : a.eval x = .slice (some ⟨b, 0, none⟩) 1 1) (hc : w.cell? ⟨b, 0, none⟩ = some (.int .i64 y))
    (hlen : L.length ≤ 1073741824) (hbase : base ≤ w.heap.size)
    (h : ∀ v' w', OwnInts w' base v' (L ++ [y]) → w.grownBy w' v.ownBlock → K (a.put o.dst v') w') : o.wp Try.prog a w K Q := by
  obtain ⟨i0, hi, hz0, hz1, hz2⟩ := info_parts infoI64
  refine wp_append_own w s x 30 ho base 2 i0 (.int .i64 0) 1 8 Try.underlying30 hi hz0 hz1 hz2 rfl (by decide) v L.length (L.map (Value.int .i64)) hs hown ⟨b, 0, none⟩ 1 1 [.int .i64 y] hx rfl ?_ ?_ (by unfold maxLen; omega) (by omega) hbase ?_
  · intro j u hj
    match j, hj with
    | 0, hj => simp at hj; subst hj; simpa [Addr.add] using hc
  · intro u hu; simp at hu; subst hu; rfl
  · intro v' w' h1 h2 _
    refine h v' w' ?_ h2
    unfold OwnInts
    rw [List.length_append, List.map_append]
    exact h1

set_option maxHeartbeats 2000000 in
theorem spec_SlipsInCommon (ao : Option Addr) (S : List Int) (cap : Nat) (hn : S.length ≤ 4294967296) (at' : Option Addr) (T : List Int) (capt : Nat) (hnt : T.length ≤ 4294967296) (au : Option Addr) (U : List Int) (capu : Nat) (hnu : U.length ≤ 4294967296) (w : World) (hS : Ints w ao S) (hT : Ints w at' T) (hU : Ints w au U) :
    Calls Try.prog 33 #[.agg #[.slice ao S.length cap], .slice at' T.length capt, .slice au U.length capu] w fun e w' => ∃ v, e = .returned (.tuple #[v, .int .i64 (eCm S T U)]) ∧ OwnInts w' w.heap.size v (vCm S T U) ∧ Below w.heap.size w w' := by
  obtain ⟨W, hW⟩ : ∃ W, W = w.alloc (.cells #[.slice ao S.length cap] 28) := ⟨_, rfl⟩
  have hWs : W.heap.size = w.heap.size + 1 := by rw [hW]; simp
  have B0 : Below w.heap.size w W := by rw [hW]; go_grown
  have c0 : W.cell? ⟨w.heap.size, 0, none⟩ = some (.slice ao S.length cap) := by rw [hW]; exact cell_new _ _ _
  have l0 : w.heap.size < W.heap.size := by omega
  have HW := Lib.hid hW
  clear hW
  have hsl := slips_two (c := capt) (c' := capu) hnt hnu (hT.below B0) (hU.below B0) 30 hWs.symm
  have B1 := B0.alloc B0.size (.cells #[.slice at' T.length capt, .slice au U.length capu] 30)
  have c1 := kept_cell ((Below.refl _ W).alloc (Nat.le_refl _) (.cells #[.slice at' T.length capt, .slice au U.length capu] 30)) c0 l0
  have l1 := lt_of_below ((Below.refl _ W).alloc (Nat.le_refl _) (.cells #[.slice at' T.length capt, .slice au U.length capu] 30)) l0
  by_cases hz : eSls S [T, U] = 0
  case neg =>
    have HE : Hid (eCm S T U = eSls S [T, U]) := Lib.hid (by unfold eCm; rw [if_neg hz])
    have HV : Hid (vCm S T U = []) := Lib.hid (by unfold vCm; rw [if_neg (by rw [HE.out]; exact hz)])
    have hzn : (eSls S [T, U] != 0) = true := by simpa using hz
    clear hz
    go_enter Try.func33, Try.ntmps33
    go_wp2_with fail
    rw [← HW.out]
    refine (l07Code_any ao S cap hn _ [T, U] 2 2 rfl (by simp) _ (hS.below B1) hsl).mono ?_
    rintro e w1 ⟨rfl, hb⟩
    go_wp2_with fail
    go_ret2
    exact ⟨_, by rw [HE.out]; rfl, by rw [HV.out]; exact own_nils _ _, B1.trans (hb.mono B1.size)⟩
  obtain ⟨hSp, hSl, hSu⟩ := eSls2 hz
  have hTn := hSl.len
  have hUn := hSu.len
  have hhi := hSp.hi
  have hT8 : T.length ≤ 8 := by omega
  have HUT := Lib.hid (show U.length = T.length by omega)
  have HSp := Lib.hid hSp
  have HSl := Lib.hid hSl
  have HSu := Lib.hid hSu
  have HZ := Lib.hid hz
  have hzn : (eSls S [T, U] != 0) = false := by simp [hz]
  clear hz hSp hSl hSu hTn hUn
  go_enter Try.func33, Try.ntmps33
  go_wp2_with fail
  rw [← HW.out]
  refine (l07Code_any ao S cap hn _ [T, U] 2 2 rfl (by simp) _ (hS.below B1) hsl).mono ?_
  rintro e w1 ⟨rfl, hb⟩
  replace c1 := kept_cell hb c1 l1
  replace l1 := lt_of_below hb l1
  replace B1 := B1.trans (hb.mono B1.size)
  clear hb hsl B0 c0 l0 hWs
  go_wp2_with fail
  go_loopw [9, 22] (fun v i wr => ∃ (k : Nat) (R : List Int), k ≤ T.length ∧ i = .int .i64 k ∧ OwnInts wr (w.heap.size + 1) v R ∧ Hid (R.length = k ∧ ∀ j, j < k → gi R j = andI (gi T j) (gi U j)) ∧ wr.cell? ⟨w.heap.size, 0, none⟩ = some (.slice ao S.length cap) ∧ w.heap.size < wr.heap.size ∧ Below w.heap.size w wr)
    (fun _ i _ => T.length - (intOf i).toNat)
  case atStart => exact ⟨0, _, Nat.zero_le _, rfl, own_empty w1 (w.heap.size + 1) (by omega) rfl, Lib.hid ⟨rfl, fun j h => by omega⟩, kept_cell ((Below.refl w1.heap.size w1).alloc (Nat.le_refl _) _) c1 l1, lt_of_below ((Below.refl w1.heap.size w1).alloc (Nat.le_refl _) _) l1, B1.alloc B1.size _⟩
  case round =>
    clear c1 l1 B1 hzn
    obtain ⟨k, R, hk, rfl, own, HR, c, l, B⟩ := hrel
    by_cases hlt : k < T.length
    · have hltu : k < U.length := by have := HUT.out; omega
      obtain ⟨b, o, rfl, hbl, hc⟩ := hT.at hlt
      obtain ⟨b', o', rfl, hbl', hc'⟩ := hU.at hltu
      have hck0 := hc k hlt
      have hck0' := hc' k hltu
      have hck := kept_cell B hck0 hbl
      have hck' := kept_cell B hck0' hbl'
      obtain ⟨t0, t1⟩ := sl_bdl HSl.out hlt
      obtain ⟨u0, u1⟩ := sl_bdl HSu.out hltu
      have s1 := bits_andI t0 t1 u0 u1
      have hRl : R.length ≤ 8 := by have := HR.out.1; omega
      have hs := B.size
      have hs1 : w.heap.size + 1 ≤ wr.heap.size := l
      have own2 : OwnInts (wr.alloc (.cells #[.int .i64 (andI (gi T k) (gi U k))] 2)).drew (w.heap.size + 1) _ R := (own.alloc _).drew
      have B3 : Below w.heap.size w (wr.alloc (.cells #[.int .i64 (andI (gi T k) (gi U k))] 2)).drew := (B.alloc B.size _).drew
      have i1 : (0 : Int) ≤ (k : Int) := by omega
      have i2 : (k : Int) < (T.length : Int) := by omega
      have i3 : (k : Int) < (U.length : Int) := by omega
      clear hc hc'
      go_wp2_with fail
      refine wp_region_held_drew (S := fun w' => w'.cell? ⟨b, o + k, none⟩ = some (.int .i64 (gi T k)) ∧ w'.cell? ⟨b', o' + k, none⟩ = some (.int .i64 (gi U k))) (by kernel_rfl) ⟨hck, hck'⟩ (fun hHeld => ?_)
      refine wpAnyH_take (i := 0) (v := ?_) rfl (by kernel_rfl) (by kernel_rfl) (by kernel_rfl) (fun _ _ _ h => h) (Or.inl ⟨by rfl, ?_⟩) (by assumption) ?_
      rotate_left
      · (intro w hSw; obtain ⟨hSa, hSb⟩ := hSw; (try dsimp only at hSa hSb); go_simp; try (with_reducible rfl))
      (try simp only [Act.put, List.setIfInBounds_toArray, List.set_cons_zero, List.set_cons_succ, List.getElem_toArray, List.getElem_cons_succ, List.getElem_cons_zero])
      refine wpAnyH_take (i := 1) (v := ?_) rfl (by kernel_rfl) (by kernel_rfl) (by kernel_rfl) (fun _ _ _ h => h) (Or.inl ⟨by rfl, ?_⟩) (by assumption) ?_
      rotate_left
      · (intro w hSw; obtain ⟨hSa, hSb⟩ := hSw; (try dsimp only at hSa hSb); go_simp; try (with_reducible rfl))
      (try simp only [Act.put, List.setIfInBounds_toArray, List.set_cons_zero, List.set_cons_succ, List.getElem_toArray, List.getElem_cons_succ, List.getElem_cons_zero])
      refine wpAnyH_take (i := 2) (v := ?_) rfl (by kernel_rfl) (by kernel_rfl) (by kernel_rfl) (fun _ _ _ h => h) (Or.inl ⟨by rfl, ?_⟩) (by assumption) ?_
      rotate_left
      · (intro w hSw; obtain ⟨hSa, hSb⟩ := hSw; (try dsimp only at hSa hSb); go_simp; try (with_reducible rfl))
      (try simp only [Act.put, List.setIfInBounds_toArray, List.set_cons_zero, List.set_cons_succ, List.getElem_toArray, List.getElem_cons_succ, List.getElem_cons_zero])
      refine wpAnyH_take (i := 3) (v := ?_) rfl (by kernel_rfl) (by kernel_rfl) (by kernel_rfl) (fun _ _ _ h => h) (Or.inl ⟨by rfl, ?_⟩) (by assumption) ?_
      rotate_left
      · (intro w hSw; obtain ⟨hSa, hSb⟩ := hSw; (try dsimp only at hSa hSb); go_simp; try (with_reducible rfl))
      (try simp only [Act.put, List.setIfInBounds_toArray, List.set_cons_zero, List.set_cons_succ, List.getElem_toArray, List.getElem_cons_succ, List.getElem_cons_zero])
      refine wpAnyH_take (i := 4) (v := ?_) rfl (by kernel_rfl) (by kernel_rfl) (by kernel_rfl) (fun _ _ _ h => h) (Or.inl ⟨by rfl, ?_⟩) (by assumption) ?_
      rotate_left
      · (intro w hSw; obtain ⟨hSa, hSb⟩ := hSw; (try dsimp only at hSa hSb); go_simp; try (with_reducible rfl))
      (try simp only [Act.put, List.setIfInBounds_toArray, List.set_cons_zero, List.set_cons_succ, List.getElem_toArray, List.getElem_cons_succ, List.getElem_cons_zero])
      refine wpAnyH_take (i := 5) (v := ?_) rfl (by kernel_rfl) (by kernel_rfl) (by kernel_rfl) (fun _ _ _ h => h) (Or.inl ⟨by rfl, ?_⟩) (by assumption) ?_
      rotate_left
      · (intro w hSw; obtain ⟨hSa, hSb⟩ := hSw; (try dsimp only at hSa hSb); go_simp; try (with_reducible rfl))
      (try simp only [Act.put, List.setIfInBounds_toArray, List.set_cons_zero, List.set_cons_succ, List.getElem_toArray, List.getElem_cons_succ, List.getElem_cons_zero])
      refine wpAnyH_take (i := 6) (v := ?_) rfl (by kernel_rfl) (by kernel_rfl) (by kernel_rfl) (fun _ _ _ h => h) (Or.inl ⟨by rfl, ?_⟩) (by assumption) ?_
      rotate_left
      · (intro w hSw; obtain ⟨hSa, hSb⟩ := hSw; (try dsimp only at hSa hSb); go_simp; try (with_reducible rfl))
      (try simp only [Act.put, List.setIfInBounds_toArray, List.set_cons_zero, List.set_cons_succ, List.getElem_toArray, List.getElem_cons_succ, List.getElem_cons_zero])
      refine wpAnyH_take (i := 7) (v := ?_) rfl (by kernel_rfl) (by kernel_rfl) (by kernel_rfl) (fun _ _ _ h => h) (Or.inl ⟨by rfl, ?_⟩) (by assumption) ?_
      rotate_left
      · (intro w hSw; obtain ⟨hSa, hSb⟩ := hSw; (try dsimp only at hSa hSb); go_simp; try (with_reducible rfl))
      (try simp only [Act.put, List.setIfInBounds_toArray, List.set_cons_zero, List.set_cons_succ, List.getElem_toArray, List.getElem_cons_succ, List.getElem_cons_zero])
      refine wpAnyH_take (i := 8) (v := ?_) rfl (by kernel_rfl) (by kernel_rfl) (by kernel_rfl) (fun _ _ _ h => h) (Or.inl ⟨by rfl, ?_⟩) (by assumption) ?_
      rotate_left
      · (intro w hSw; obtain ⟨hSa, hSb⟩ := hSw; (try dsimp only at hSa hSb); go_simp; try (with_reducible rfl))
      (try simp only [Act.put, List.setIfInBounds_toArray, List.set_cons_zero, List.set_cons_succ, List.getElem_toArray, List.getElem_cons_succ, List.getElem_cons_zero])
      refine wpAnyH_take (i := 9) (v := ?_) rfl (by kernel_rfl) (by kernel_rfl) (by kernel_rfl) (fun _ _ _ h => h) (Or.inl ⟨by rfl, ?_⟩) (by assumption) ?_
      rotate_left
      · (intro w hSw; obtain ⟨hSa, hSb⟩ := hSw; (try dsimp only at hSa hSb); go_simp; try (with_reducible rfl))
      (try simp only [Act.put, List.setIfInBounds_toArray, List.set_cons_zero, List.set_cons_succ, List.getElem_toArray, List.getElem_cons_succ, List.getElem_cons_zero])
      have B2 : Below wr.drew.heap.size wr.drew (wr.drew.alloc (.cells #[.int .i64 (andI (gi T k) (gi U k))] 2)) := (Below.refl _ _).alloc (Nat.le_refl _) _
      refine wpAnyH_ready (rs := [10]) (by kernel_rfl) (by simp) ?_
      refine AllReadyH.cons rfl (fun K hK => ?_) AllReadyH.nil
      go_simp
      refine hK.out _ _ (⟨kept_cell B2 hck (Nat.lt_of_lt_of_le hbl hs), kept_cell B2 hck' (Nat.lt_of_lt_of_le hbl' hs)⟩) (fun hHeld => ?_)
      clear hK K
      (try simp only [Act.put, List.setIfInBounds_toArray, List.set_cons_zero, List.set_cons_succ, List.getElem_toArray, List.getElem_cons_succ, List.getElem_cons_zero])
      refine wpAnyH_ready (rs := [11]) (by kernel_rfl) (by simp) ?_
      refine AllReadyH.cons rfl (fun K hK => ?_) AllReadyH.nil
      rw [if_pos (by kernel_rfl)]
      refine wp_append_slip (.tmp 25) (.tmp 35) (by kernel_rfl) (w.heap.size + 1) _ R (by rfl) own2 wr.heap.size (andI (gi T k) (gi U k)) (by rfl) (cell_new wr _ _) (by omega) (Nat.le_trans hs1 (by simp)) ?_
      intro v' w4 hown' hgrow
      have hgb := grown_below B3 (Nat.le_trans hs (by simp)) hgrow own2 (Nat.le_succ _)
      have hcS := hgrow.cell (a := ⟨w.heap.size, 0, none⟩) (kept_cell ((Below.refl wr.drew.heap.size wr.drew).alloc (Nat.le_refl _) _) c l) (fun e => by have := World.ownsRow.lt own _ e.symm; simp at this; omega)
      have hlS : w.heap.size < w4.heap.size := by have := hgrow.size; simp at this; omega
      refine hK.out _ _ (⟨kept_cell hgb hck0 hbl, kept_cell hgb hck0' hbl'⟩) (fun hHeld => ?_)
      clear hK K own own2 hgrow s1 B2 B3 hck hck'
      (try simp only [Act.put, List.setIfInBounds_toArray, List.set_cons_zero, List.set_cons_succ, List.getElem_toArray, List.getElem_cons_succ, List.getElem_cons_zero])
      refine wpAnyH_take (i := 12) (v := ?_) rfl (by kernel_rfl) (by kernel_rfl) (by kernel_rfl) (fun _ _ _ h => h) (Or.inl ⟨by rfl, ?_⟩) (by assumption) ?_
      rotate_left
      · (intro w hSw; obtain ⟨hSa, hSb⟩ := hSw; (try dsimp only at hSa hSb); go_simp; try (with_reducible rfl))
      refine wpAnyH_done (by kernel_rfl) ?_ _
      (try simp only [Act.put, List.setIfInBounds_toArray, List.set_cons_zero, List.set_cons_succ, List.getElem_toArray, List.getElem_cons_succ, List.getElem_cons_zero])
      go_wp2_with fail
      go_roundw
      case rel => exact ⟨k + 1, _, by omega, by go_num, hown', Lib.hid ⟨by rw [List.length_append, HR.out.1]; rfl, cm_app T U R k HR.out.1 HR.out.2⟩, hcS, hlS, hgb⟩
      case measure => simp [intOf]; omega
    · have HF := Lib.hid (cmL_of T U R (by have := HR.out.1; omega) fun j hj => HR.out.2 j (by omega))
      obtain ⟨a5, c5, hv⟩ := own.shape
      subst hv
      have hRl : R.length ≤ 8 := by have := HR.out.1; omega
      go_wp2_with fail
      refine (l07Is_any ao S cap HSp.out _ R _ (by omega) _ (hS.below B) (own_ints own)).mono ?_
      rintro e w3 ⟨rfl, hb⟩
      replace B := B.trans (hb.mono B.size)
      replace own := own.below hb
      clear hb
      cases hs : slB S R with
      | false =>
        have HE : Hid (eCm S T U = 4) := Lib.hid (by unfold eCm; rw [if_pos HZ.out, ← HF.out, hs]; rfl)
        have HV : Hid (vCm S T U = []) := Lib.hid (by unfold vCm; rw [if_neg (by rw [HE.out]; decide)])
        go_wp2_with fail
        go_ret2
        exact ⟨_, by rw [HE.out]; rfl, by rw [HV.out]; exact own_nils _ _, B⟩
      | true =>
        have HE : Hid (eCm S T U = 0) := Lib.hid (by unfold eCm; rw [if_pos HZ.out, ← HF.out, hs]; rfl)
        have HV : Hid (vCm S T U = R) := Lib.hid (by unfold vCm; rw [if_pos HE.out, HF.out])
        go_wp2_with fail
        go_ret2
        exact ⟨_, by rw [HE.out]; rfl, by rw [HV.out]; exact own.rebase (by omega), B⟩

end Go.Proofs.Ytecclcmndfaakaa
