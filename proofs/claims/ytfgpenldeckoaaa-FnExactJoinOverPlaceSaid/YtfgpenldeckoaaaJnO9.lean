/-
  The contract of the program's JoinOverPlace, its ways without an error. By an AI agent.
-/
import Derived.Test.YtfgpenldeckoaaaJnI9
namespace Go.Proofs.Ytfgpenldeckoaaa
open Go.RowKit Cv
set_option linter.unusedVariables false
set_option linter.unusedSimpArgs false
set_option maxRecDepth 100000

set_option maxHeartbeats 8000000 in
theorem impl_JoinOverPlace_oka (as0 : Addr) (S : List Int) (cap : Nat) (hn : S.length ≤ 4294967296) (ac : Option Addr) (C : List Int) (capc : Nat) (hnc : C.length ≤ 4294967296) (ax : Addr) (X : List Int) (capx : Nat) (hnx : X.length ≤ 4294967296) (hcx : X.length ≤ capx) (ad : Option Addr) (D : List Int) (capd : Nat) (hnd : D.length ≤ 4294967296) (w : World) (hS : Ints w (some as0) S) (hC : Ints w ac C) (hX : Ints w (some ax) X) (hD : Ints w ad D) (hz : eBo S C X D = 0) (hl : jnB S X = true) (hs : isSp (jnS S X) = true) (hcp : ¬ capx = 1) :
    Calls Try.prog 29 #[.agg #[.slice (some as0) S.length cap], .slice ac C.length capc, .agg #[.slice (some ax) X.length capx], .slice ad D.length capd] w fun e w' => ∃ m vs v, e = .returned (.tuple #[.agg #[vs], v, .int .i64 (eJn S C X D)]) ∧ w.heap.size ≤ m ∧ RowIn vs w.heap.size m ∧ OwnInts w' w.heap.size vs (vJnS S C X D) ∧ OwnInts w' m v (vJnC S C X D) ∧ m ≤ w'.heap.size ∧ Below w.heap.size w w' := by
  obtain ⟨W0, hW0, cS, cX, rR, z0, B0⟩ := box3_9 w (.slice (some as0) S.length cap) (.slice (some ax) X.length capx) (.slice none 0 0) 28
  have HW0 := Lib.hid hW0
  have z0a : w.heap.size + 3 ≤ W0.heap.size := by omega
  have hbe := bothError_any (some as0) S cap hn ac C capc hnc (some ax) X capx hnx ad D capd hnd W0 (hS.below B0) (hC.below B0) (hX.below B0) (hD.below B0)
  obtain ⟨x1, x2, x3⟩ := eJn_ok hz hl hs
  have HE := Lib.hid x1
  have HS0 := Lib.hid x2
  have HC0 := Lib.hid x3
  obtain ⟨hcs, hcx0⟩ := eBo_zero hz
  have HSS := Lib.hid (eCode_zero hcs).1
  have HXX := Lib.hid (eCode_zero hcx0).1
  have hlo := (eCode_zero hcs).1.lo
  have hhi := (eCode_zero hcs).1.hi
  have hxlo := (eCode_zero hcx0).1.lo
  have hxhi := (eCode_zero hcx0).1.hi
  obtain ⟨sb, so, hso, hsbl, hsc⟩ := hS.at (i := S.length - 1) (by omega)
  obtain rfl := Option.some.inj hso
  obtain ⟨xb, xo, hxo, hxbl, hxc⟩ := hX.at (i := 0) (by omega)
  obtain rfl := Option.some.inj hxo
  have hsl := hsc (S.length - 1) (by omega)
  have hx0 := hxc 0 (by omega)
  rw [Nat.add_zero] at hx0
  obtain ⟨ls, hls⟩ : ∃ ls, ls = gi S (S.length - 1) := ⟨_, rfl⟩
  obtain ⟨q, hq⟩ : ∃ q, q = gi X 0 := ⟨_, rfl⟩
  have hq4 := (eCode_zero hcx0).1.bd 0 (by omega)
  rw [← hq] at hq4
  rw [← hls] at hsl
  rw [← hq] at hx0
  obtain ⟨q2, q4⟩ := hq4
  have HQ := Lib.hid hq
  have i1 : (0 : Int) ≤ (S.length : Int) - 1 := by omega
  have i2 : (S.length : Int) - 1 < (S.length : Int) := by omega
  have HI : Hid (((S.length : Int) - 1).toNat = S.length - 1) := Lib.hid (by omega)
  have e3 : ((S.length : Int) - 1).toNat = S.length - 1 := HI.out
  have i3 : 0 < X.length := by omega
  have hnb : (ls != q) = false := by have h := hl; unfold jnB at h; rw [← hls, ← hq] at h; simpa using h
  obtain ⟨n, hnl⟩ : ∃ n, n = (jnS S X).length := ⟨_, rfl⟩
  have HNl := Lib.hid hnl
  have hn16 : n ≤ 16 := by rw [hnl]; unfold jnS; simp; omega
  have i4 : (1 : Int) ≤ (X.length : Int) := by omega
  have hcx1 : ¬ capx = 1 := hcp
  have lC := code_len0 hcs
  have lD := code_len0 hcx0
  have hNS := nW_bd HSS.out
  have hNX := nW_bd HXX.out
  have HCb : Hid (∀ i, i < C.length → 0 ≤ gi C i ∧ gi C i < 1024) := Lib.hid fun i hi => by have := (eCode_zero hcs).2.1 i hi; omega
  have HDb : Hid (∀ i, i < D.length → 0 ≤ gi D i ∧ gi D i < 1024) := Lib.hid fun i hi => by have := (eCode_zero hcx0).2.1 i hi; omega
  obtain ⟨NX, hNXe⟩ : ∃ NX : Nat, nW X = (NX : Int) := ⟨(nW X).toNat, by omega⟩
  have HNX := Lib.hid (Lib.hid hNXe)
  have HJQ : Hid (jnW (gi X 0) (jnQ X) C D C.length = jnW q ((NX : Int) / q) C D C.length) := Lib.hid (by unfold jnQ; rw [hNXe, ← hq])
  have hqd : gi X 0 ≤ nW X := by
    have h := prodTo_mono X X.length 1 HXX.out.bd HXX.out.lo
    simp only [prodTo, Int.one_mul] at h
    exact h
  rw [hNXe, ← hq] at hqd
  have hNX2 : NX ≤ 1024 := by omega
  have r1 : 1 ≤ (NX : Int) / q := by
    have := Int.ediv_le_ediv (show 0 < q by omega) hqd
    rwa [Int.ediv_self (by omega)] at this
  have r2 : (NX : Int) / q ≤ 1024 := Int.le_trans (Int.ediv_le_self _ (by omega)) (by omega)
  have EWQ : IntKind.i64.wrap ((NX : Int) / q) = (NX : Int) / q := IntWalk.i64_in _ ⟨by omega, by omega⟩
  have hqz : ¬ q = 0 := by omega
  have hqb : (q == 0) = false := by simpa using hqz
  have E9 : (NX : Int).tdiv q = (NX : Int) / q := Int.tdiv_eq_ediv_of_nonneg (by omega)
  have HIS := Lib.hid hs
  rw [hz] at hbe
  have HBE := Lib.hid hbe
  clear hW0 z0 hbe hz x1 x2 x3 hl hcs hcx0 hso hxo hsc hxc hls hq hs hnl hNXe hqd hNS hNX
  go_enter Try.func29, Try.ntmps29
  go_wp2_with fail
  rw [← HW0.out]
  refine HBE.out.mono ?_
  rintro e w1 ⟨rfl, hb1⟩
  have s1 : w.heap.size + 3 ≤ w1.heap.size := by have := hb1.size; omega
  have cS1 := kept_cell hb1 cS (by omega)
  have cX1 := kept_cell hb1 cX (by omega)
  have rR1 := row_below9 rR hb1 (by omega)
  have B1 := B0.trans (hb1.mono (by omega))
  clear HBE hb1
  have hsl1 := kept_cell B1 hsl hsbl
  have hx01 := kept_cell B1 hx0 hxbl
  go_upto_region 7 with fail
  go_cut [13] from 38 to 45 (fun sx wx => ∃ (qb g cg : Nat), sx = .pointer (some ⟨qb, 0, none⟩) ∧ wx.cell? ⟨qb, 0, none⟩ = some (.slice (some ⟨g, 0, none⟩) n cg) ∧ w1.heap.size ≤ qb ∧ qb < wx.heap.size ∧ OwnInts wx w1.heap.size (.slice (some ⟨g, 0, none⟩) n cg) (jnS S X) ∧ g ≠ qb ∧ Below w1.heap.size w1 wx)
  case first =>
    clear rR1
    refine wp_region_held_drew (S := fun w' => w'.cell? ⟨w.heap.size, 0, none⟩ = some (.slice (some ⟨sb, so, none⟩) S.length cap) ∧ w'.cell? ⟨w.heap.size + 1, 0, none⟩ = some (.slice (some ⟨xb, xo, none⟩) X.length capx)) (by kernel_rfl) (⟨cS1, cX1⟩) (fun hHeld => ?_)
    refine wpAnyH_take (i := 0) (v := ?_) rfl (by kernel_rfl) (by kernel_rfl) (by kernel_rfl) (fun _ _ _ h => h) (Or.inl ⟨by rfl, ?_⟩) (by assumption) ?_
    rotate_left
    · (intro w hSw; obtain ⟨hSw0, hSw1⟩ := hSw; (try dsimp only at hSw0 hSw1); go_simp; try (with_reducible rfl))
    (try simp only [Act.put, List.setIfInBounds_toArray, List.set_cons_zero, List.set_cons_succ, List.getElem_toArray, List.getElem_cons_succ, List.getElem_cons_zero])
    refine wpAnyH_take (i := 1) (v := ?_) rfl (by kernel_rfl) (by kernel_rfl) (by kernel_rfl) (fun _ _ _ h => h) (Or.inl ⟨by rfl, ?_⟩) (by assumption) ?_
    rotate_left
    · (intro w hSw; obtain ⟨hSw0, hSw1⟩ := hSw; (try dsimp only at hSw0 hSw1); go_simp; try (with_reducible rfl))
    (try simp only [Act.put, List.setIfInBounds_toArray, List.set_cons_zero, List.set_cons_succ, List.getElem_toArray, List.getElem_cons_succ, List.getElem_cons_zero])
    refine wpAnyH_take (i := 2) (v := ?_) rfl (by kernel_rfl) (by kernel_rfl) (by kernel_rfl) (fun _ _ _ h => h) (Or.inl ⟨by rfl, ?_⟩) (by assumption) ?_
    rotate_left
    · (intro w hSw; obtain ⟨hSw0, hSw1⟩ := hSw; (try dsimp only at hSw0 hSw1); go_simp; try (with_reducible rfl))
    (try simp only [Act.put, List.setIfInBounds_toArray, List.set_cons_zero, List.set_cons_succ, List.getElem_toArray, List.getElem_cons_succ, List.getElem_cons_zero])
    refine wpAnyH_take (i := 3) (v := ?_) rfl (by kernel_rfl) (by kernel_rfl) (by kernel_rfl) (fun _ _ _ h => h) (Or.inl ⟨by rfl, ?_⟩) (by assumption) ?_
    rotate_left
    · (intro w hSw; obtain ⟨hSw0, hSw1⟩ := hSw; (try dsimp only at hSw0 hSw1); go_simp; try (with_reducible rfl))
    (try simp only [Act.put, List.setIfInBounds_toArray, List.set_cons_zero, List.set_cons_succ, List.getElem_toArray, List.getElem_cons_succ, List.getElem_cons_zero])
    refine wpAnyH_take (i := 4) (v := ?_) rfl (by kernel_rfl) (by kernel_rfl) (by kernel_rfl) (fun _ _ _ h => h) (Or.inl ⟨by rfl, ?_⟩) (by assumption) ?_
    rotate_left
    · (intro w hSw; obtain ⟨hSw0, hSw1⟩ := hSw; (try dsimp only at hSw0 hSw1); go_simp; try (with_reducible rfl))
    (try simp only [Act.put, List.setIfInBounds_toArray, List.set_cons_zero, List.set_cons_succ, List.getElem_toArray, List.getElem_cons_succ, List.getElem_cons_zero])
    refine wpAnyH_ready (rs := [5, 8]) (by kernel_rfl) (by simp) ?_
    refine AllReadyH.cons rfl (fun K hK => ?_) ?_
    · go_simp
      have H1 : Below w1.heap.size w1 (w1.drew.alloc (.cells #[.slice (some ⟨sb, so, none⟩) S.length cap, .slice (some ⟨xb, xo + 1, none⟩) (X.length - 1) (capx - 1)] 22)) := Below.alloc (Below.refl w1.heap.size w1).drew (Below.size (Below.refl w1.heap.size w1).drew) _
      have r5 : RowC (w1.drew.alloc (.cells #[.slice (some ⟨sb, so, none⟩) S.length cap, .slice (some ⟨xb, xo + 1, none⟩) (X.length - 1) (capx - 1)] 22)) (w1.heap.size) (.cells #[.slice (some ⟨sb, so, none⟩) S.length cap, .slice (some ⟨xb, xo + 1, none⟩) (X.length - 1) (capx - 1)] 22 (0, 0)) := rowC_new _ _ _ (by simp)
      refine hK.out _ _ (⟨kept_cell H1 cS1 (by omega), kept_cell H1 cX1 (by omega)⟩) (fun hHeld => ?_)
      clear hK K
      (try simp only [Act.put, List.setIfInBounds_toArray, List.set_cons_zero, List.set_cons_succ, List.getElem_toArray, List.getElem_cons_succ, List.getElem_cons_zero])
      refine wpAnyH_ready (rs := [6, 8]) (by kernel_rfl) (by simp) ?_
      refine AllReadyH.cons rfl (fun K hK => ?_) ?_
      · go_simp
        (go_at_call 62; refine (concat2J (w1.heap.size) sb so xb xo (xo + 1) (X.length - 1) (capx - 1) S X cap (Or.inr rfl) rfl n HNl.out hlo hhi hxhi hxlo _ r5 (hS.below (B1.trans (Below.mono H1 B1.size))) (hX.below (B1.trans (Below.mono H1 B1.size)))).mono ?_)
        rintro e x2 ⟨g2, c2, rfl, ow2, hb2⟩
        have H2 : Below w1.heap.size w1 x2 := Below.trans H1 (hb2.mono (Below.size H1))
        replace r5 := r5.below hb2
        have hgg2 : w1.heap.size ≤ g2 := by have h1 := ow2.base_le.1; have h2 := Below.size H1; omega
        replace ow2 := ow2.rebase (base' := w1.heap.size) (Below.size H1)
        refine hK.out _ _ (⟨kept_cell H2 cS1 (by omega), kept_cell H2 cX1 (by omega)⟩) (fun hHeld => ?_)
        clear hK K
        (try simp only [Act.put, List.setIfInBounds_toArray, List.set_cons_zero, List.set_cons_succ, List.getElem_toArray, List.getElem_cons_succ, List.getElem_cons_zero])
        refine wpAnyH_take (i := 7) (v := ?_) rfl (by kernel_rfl) (by kernel_rfl) (by kernel_rfl) (fun _ _ _ h => h) (Or.inl ⟨by rfl, ?_⟩) (by assumption) ?_
        rotate_left
        · (intro w hSw; obtain ⟨hSw0, hSw1⟩ := hSw; (try dsimp only at hSw0 hSw1); go_simp; try (with_reducible rfl))
        (try simp only [Act.put, List.setIfInBounds_toArray, List.set_cons_zero, List.set_cons_succ, List.getElem_toArray, List.getElem_cons_succ, List.getElem_cons_zero])
        refine wpAnyH_ready (rs := [8]) (by kernel_rfl) (by simp) ?_
        refine AllReadyH.cons rfl (fun K hK => ?_) AllReadyH.nil
        go_simp
        have owq := ow2
        have H3 : Below w1.heap.size w1 (x2.alloc (.cells #[.slice none 0 0] 28)) := Below.alloc H2 (Below.size H2) _
        replace r5 := r5.below ((Below.refl _ x2).alloc (Nat.le_refl _) (.cells #[.slice none 0 0] 28))
        replace ow2 := ow2.below ((Below.refl _ x2).alloc (Nat.le_refl _) (.cells #[.slice none 0 0] 28))
        have r8 : RowC (x2.alloc (.cells #[.slice none 0 0] 28)) (x2.heap.size) (.cells #[.slice none 0 0] 28 (0, 0)) := rowC_new _ _ _ (by simp)
        refine hK.out _ _ (⟨kept_cell H3 cS1 (by omega), kept_cell H3 cX1 (by omega)⟩) (fun hHeld => ?_)
        clear hK K
        (try simp only [Act.put, List.setIfInBounds_toArray, List.set_cons_zero, List.set_cons_succ, List.getElem_toArray, List.getElem_cons_succ, List.getElem_cons_zero])
        refine wpAnyH_ready (rs := [9]) (by kernel_rfl) (by simp) ?_
        refine AllReadyH.cons rfl (fun K hK => ?_) AllReadyH.nil
        go_simp
        have rc : (x2.alloc (.cells #[.slice none 0 0] 28)).cell? ⟨x2.heap.size, 0, none⟩ = some (.slice none 0 0) := cell_of19j r8.1
        have rf : (x2.alloc (.cells #[.slice none 0 0] 28)).frozen? ⟨x2.heap.size, 0, none⟩ = false := frozen_of_row _ _ 0 _ _ r8.1
        go_simp
        have hqb : w1.heap.size ≤ x2.heap.size := by have := Below.size H2; omega
        have Hs : Below w1.heap.size w1 (x2.alloc (.cells #[.slice (some ⟨g2, 0, none⟩) n c2] 28)) := Below.alloc H2 (Below.size H2) _
        refine hK.out _ _ (⟨kept_cell Hs cS1 (by omega), kept_cell Hs cX1 (by omega)⟩) (fun hHeld => ?_)
        clear hK K
        (try simp only [Act.put, List.setIfInBounds_toArray, List.set_cons_zero, List.set_cons_succ, List.getElem_toArray, List.getElem_cons_succ, List.getElem_cons_zero])
        refine wpAnyH_done (by kernel_rfl) ?_ _
        (try simp only [Act.put, List.setIfInBounds_toArray, List.set_cons_zero, List.set_cons_succ, List.getElem_toArray, List.getElem_cons_succ, List.getElem_cons_zero])
        have hne : g2 ≠ x2.heap.size := fun e => by rw [e] at ow2; exact own_not_sp9 ow2 r8.1
        have ow9 := OwnInts.alloc owq (.cells #[.slice (some ⟨g2, 0, none⟩) n c2] 28)
        go_wp2_with fail
        go_meet
        exact ⟨_, g2, c2, rfl, cell_new _ _ _, hqb, lt_alloc _ _, ow9, hne, Hs⟩
      refine AllReadyH.cons rfl (fun K hK => ?_) AllReadyH.nil
      go_simp
      have H2 : Below w1.heap.size w1 ((w1.drew.alloc (.cells #[.slice (some ⟨sb, so, none⟩) S.length cap, .slice (some ⟨xb, xo + 1, none⟩) (X.length - 1) (capx - 1)] 22)).alloc (.cells #[.slice none 0 0] 28)) := Below.alloc H1 (Below.size H1) _
      replace r5 := r5.below ((Below.refl _ (w1.drew.alloc (.cells #[.slice (some ⟨sb, so, none⟩) S.length cap, .slice (some ⟨xb, xo + 1, none⟩) (X.length - 1) (capx - 1)] 22))).alloc (Nat.le_refl _) (.cells #[.slice none 0 0] 28))
      have r8 : RowC ((w1.drew.alloc (.cells #[.slice (some ⟨sb, so, none⟩) S.length cap, .slice (some ⟨xb, xo + 1, none⟩) (X.length - 1) (capx - 1)] 22)).alloc (.cells #[.slice none 0 0] 28)) (w1.heap.size + 1) (.cells #[.slice none 0 0] 28 (0, 0)) := rowC_new _ _ _ (by simp)
      refine hK.out _ _ (⟨kept_cell H2 cS1 (by omega), kept_cell H2 cX1 (by omega)⟩) (fun hHeld => ?_)
      clear hK K
      (try simp only [Act.put, List.setIfInBounds_toArray, List.set_cons_zero, List.set_cons_succ, List.getElem_toArray, List.getElem_cons_succ, List.getElem_cons_zero])
      refine wpAnyH_ready (rs := [6]) (by kernel_rfl) (by simp) ?_
      refine AllReadyH.cons rfl (fun K hK => ?_) AllReadyH.nil
      go_simp
      (go_at_call 62; refine (concat2J (w1.heap.size) sb so xb xo (xo + 1) (X.length - 1) (capx - 1) S X cap (Or.inr rfl) rfl n HNl.out hlo hhi hxhi hxlo _ r5 (hS.below (B1.trans (Below.mono H2 B1.size))) (hX.below (B1.trans (Below.mono H2 B1.size)))).mono ?_)
      rintro e x3 ⟨g3, c3, rfl, ow3, hb3⟩
      have H3 : Below w1.heap.size w1 x3 := Below.trans H2 (hb3.mono (Below.size H2))
      replace r5 := r5.below hb3
      replace r8 := r8.below hb3
      have hgg3 : w1.heap.size ≤ g3 := by have h1 := ow3.base_le.1; have h2 := Below.size H2; omega
      replace ow3 := ow3.rebase (base' := w1.heap.size) (Below.size H2)
      refine hK.out _ _ (⟨kept_cell H3 cS1 (by omega), kept_cell H3 cX1 (by omega)⟩) (fun hHeld => ?_)
      clear hK K
      (try simp only [Act.put, List.setIfInBounds_toArray, List.set_cons_zero, List.set_cons_succ, List.getElem_toArray, List.getElem_cons_succ, List.getElem_cons_zero])
      refine wpAnyH_take (i := 7) (v := ?_) rfl (by kernel_rfl) (by kernel_rfl) (by kernel_rfl) (fun _ _ _ h => h) (Or.inl ⟨by rfl, ?_⟩) (by assumption) ?_
      rotate_left
      · (intro w hSw; obtain ⟨hSw0, hSw1⟩ := hSw; (try dsimp only at hSw0 hSw1); go_simp; try (with_reducible rfl))
      (try simp only [Act.put, List.setIfInBounds_toArray, List.set_cons_zero, List.set_cons_succ, List.getElem_toArray, List.getElem_cons_succ, List.getElem_cons_zero])
      refine wpAnyH_ready (rs := [9]) (by kernel_rfl) (by simp) ?_
      refine AllReadyH.cons rfl (fun K hK => ?_) AllReadyH.nil
      go_simp
      have rc : x3.cell? ⟨w1.heap.size + 1, 0, none⟩ = some (.slice none 0 0) := cell_of19j r8.1
      have rf : x3.frozen? ⟨w1.heap.size + 1, 0, none⟩ = false := frozen_of_row _ _ 0 _ _ r8.1
      go_simp
      have hqb : w1.heap.size ≤ w1.heap.size + 1 := by omega
      have Hs : Below w1.heap.size w1 (x3.setCell ⟨w1.heap.size + 1, 0, none⟩ (.slice (some ⟨g3, 0, none⟩) n c3)) := Below.setCell H3 hqb _
      refine hK.out _ _ (⟨kept_cell Hs cS1 (by omega), kept_cell Hs cX1 (by omega)⟩) (fun hHeld => ?_)
      clear hK K
      (try simp only [Act.put, List.setIfInBounds_toArray, List.set_cons_zero, List.set_cons_succ, List.getElem_toArray, List.getElem_cons_succ, List.getElem_cons_zero])
      refine wpAnyH_done (by kernel_rfl) ?_ _
      (try simp only [Act.put, List.setIfInBounds_toArray, List.set_cons_zero, List.set_cons_succ, List.getElem_toArray, List.getElem_cons_succ, List.getElem_cons_zero])
      have hne : g3 ≠ w1.heap.size + 1 := fun e => by rw [e] at ow3; exact own_not_sp9 ow3 r8.1
      go_wp2_with fail
      go_meet
      exact ⟨_, g3, c3, rfl, cell_of19j (row_store9j _ r8.1), hqb, by simpa using r8.2, own_stored_oj9 ow3 (.inr (by simp [Value.ownBlock]; exact hne)) 0 _, hne, Hs⟩
    refine AllReadyH.cons rfl (fun K hK => ?_) AllReadyH.nil
    go_simp
    have H1 : Below w1.heap.size w1 (w1.drew.alloc (.cells #[.slice none 0 0] 28)) := Below.alloc (Below.refl w1.heap.size w1).drew (Below.size (Below.refl w1.heap.size w1).drew) _
    have r8 : RowC (w1.drew.alloc (.cells #[.slice none 0 0] 28)) (w1.heap.size) (.cells #[.slice none 0 0] 28 (0, 0)) := rowC_new _ _ _ (by simp)
    refine hK.out _ _ (⟨kept_cell H1 cS1 (by omega), kept_cell H1 cX1 (by omega)⟩) (fun hHeld => ?_)
    clear hK K
    (try simp only [Act.put, List.setIfInBounds_toArray, List.set_cons_zero, List.set_cons_succ, List.getElem_toArray, List.getElem_cons_succ, List.getElem_cons_zero])
    refine wpAnyH_ready (rs := [5]) (by kernel_rfl) (by simp) ?_
    refine AllReadyH.cons rfl (fun K hK => ?_) AllReadyH.nil
    go_simp
    have H2 : Below w1.heap.size w1 ((w1.drew.alloc (.cells #[.slice none 0 0] 28)).alloc (.cells #[.slice (some ⟨sb, so, none⟩) S.length cap, .slice (some ⟨xb, xo + 1, none⟩) (X.length - 1) (capx - 1)] 22)) := Below.alloc H1 (Below.size H1) _
    replace r8 := r8.below ((Below.refl _ (w1.drew.alloc (.cells #[.slice none 0 0] 28))).alloc (Nat.le_refl _) (.cells #[.slice (some ⟨sb, so, none⟩) S.length cap, .slice (some ⟨xb, xo + 1, none⟩) (X.length - 1) (capx - 1)] 22))
    have r5 : RowC ((w1.drew.alloc (.cells #[.slice none 0 0] 28)).alloc (.cells #[.slice (some ⟨sb, so, none⟩) S.length cap, .slice (some ⟨xb, xo + 1, none⟩) (X.length - 1) (capx - 1)] 22)) (w1.heap.size + 1) (.cells #[.slice (some ⟨sb, so, none⟩) S.length cap, .slice (some ⟨xb, xo + 1, none⟩) (X.length - 1) (capx - 1)] 22 (0, 0)) := rowC_new _ _ _ (by simp)
    refine hK.out _ _ (⟨kept_cell H2 cS1 (by omega), kept_cell H2 cX1 (by omega)⟩) (fun hHeld => ?_)
    clear hK K
    (try simp only [Act.put, List.setIfInBounds_toArray, List.set_cons_zero, List.set_cons_succ, List.getElem_toArray, List.getElem_cons_succ, List.getElem_cons_zero])
    refine wpAnyH_ready (rs := [6]) (by kernel_rfl) (by simp) ?_
    refine AllReadyH.cons rfl (fun K hK => ?_) AllReadyH.nil
    go_simp
    (go_at_call 62; refine (concat2J (w1.heap.size + 1) sb so xb xo (xo + 1) (X.length - 1) (capx - 1) S X cap (Or.inr rfl) rfl n HNl.out hlo hhi hxhi hxlo _ r5 (hS.below (B1.trans (Below.mono H2 B1.size))) (hX.below (B1.trans (Below.mono H2 B1.size)))).mono ?_)
    rintro e x3 ⟨g3, c3, rfl, ow3, hb3⟩
    have H3 : Below w1.heap.size w1 x3 := Below.trans H2 (hb3.mono (Below.size H2))
    replace r8 := r8.below hb3
    replace r5 := r5.below hb3
    have hgg3 : w1.heap.size ≤ g3 := by have h1 := ow3.base_le.1; have h2 := Below.size H2; omega
    replace ow3 := ow3.rebase (base' := w1.heap.size) (Below.size H2)
    refine hK.out _ _ (⟨kept_cell H3 cS1 (by omega), kept_cell H3 cX1 (by omega)⟩) (fun hHeld => ?_)
    clear hK K
    (try simp only [Act.put, List.setIfInBounds_toArray, List.set_cons_zero, List.set_cons_succ, List.getElem_toArray, List.getElem_cons_succ, List.getElem_cons_zero])
    refine wpAnyH_take (i := 7) (v := ?_) rfl (by kernel_rfl) (by kernel_rfl) (by kernel_rfl) (fun _ _ _ h => h) (Or.inl ⟨by rfl, ?_⟩) (by assumption) ?_
    rotate_left
    · (intro w hSw; obtain ⟨hSw0, hSw1⟩ := hSw; (try dsimp only at hSw0 hSw1); go_simp; try (with_reducible rfl))
    (try simp only [Act.put, List.setIfInBounds_toArray, List.set_cons_zero, List.set_cons_succ, List.getElem_toArray, List.getElem_cons_succ, List.getElem_cons_zero])
    refine wpAnyH_ready (rs := [9]) (by kernel_rfl) (by simp) ?_
    refine AllReadyH.cons rfl (fun K hK => ?_) AllReadyH.nil
    go_simp
    have rc : x3.cell? ⟨w1.heap.size, 0, none⟩ = some (.slice none 0 0) := cell_of19j r8.1
    have rf : x3.frozen? ⟨w1.heap.size, 0, none⟩ = false := frozen_of_row _ _ 0 _ _ r8.1
    go_simp
    have hqb : w1.heap.size ≤ w1.heap.size := by omega
    have Hs : Below w1.heap.size w1 (x3.setCell ⟨w1.heap.size, 0, none⟩ (.slice (some ⟨g3, 0, none⟩) n c3)) := Below.setCell H3 hqb _
    refine hK.out _ _ (⟨kept_cell Hs cS1 (by omega), kept_cell Hs cX1 (by omega)⟩) (fun hHeld => ?_)
    clear hK K
    (try simp only [Act.put, List.setIfInBounds_toArray, List.set_cons_zero, List.set_cons_succ, List.getElem_toArray, List.getElem_cons_succ, List.getElem_cons_zero])
    refine wpAnyH_done (by kernel_rfl) ?_ _
    (try simp only [Act.put, List.setIfInBounds_toArray, List.set_cons_zero, List.set_cons_succ, List.getElem_toArray, List.getElem_cons_succ, List.getElem_cons_zero])
    have hne : g3 ≠ w1.heap.size := fun e => by rw [e] at ow3; exact own_not_sp9 ow3 r8.1
    go_wp2_with fail
    go_meet
    exact ⟨_, g3, c3, rfl, cell_of19j (row_store9j _ r8.1), hqb, by simpa using r8.2, own_stored_oj9 ow3 (.inr (by simp [Value.ownBlock]; exact hne)) 0 _, hne, Hs⟩
  case rest =>
  obtain ⟨qb, g, cg, rfl, cY, hqb1, hqb2, oY, hgq, hb3⟩ := hcut
  replace hb3 : Below w1.heap.size w1 wc := hb3
  have cX3 := kept_cell hb3 cX1 (by omega)
  have rR3 := row_below9 rR1 hb3 (by omega)
  have B3 := B1.trans (hb3.mono (by omega))
  have s3 : w.heap.size + 3 ≤ wc.heap.size := Nat.le_trans s1 hb3.size
  have hs31 : w1.heap.size ≤ wc.heap.size := hb3.size
  clear hb3 cX1 rR1 cS1
  go_wp2_with fail
  refine (IsSpace_n9 _ (jnS S X) n cg HNl.out wc (by omega) (own_ints oY)).mono ?_
  rw [HIS.out]
  rintro e w5 ⟨rfl, hb5⟩
  have s5 : w.heap.size + 3 ≤ w5.heap.size := Nat.le_trans s3 hb5.size
  have cX5 := kept_cell hb5 cX3 (by omega)
  have rR5 := row_below9 rR3 hb5 (by omega)
  have cY5 := kept_cell hb5 cY hqb2
  have lY5 := lt_of_below hb5 hqb2
  have oY5 := oY.below hb5
  have B5 := B3.trans (hb5.mono B3.size)
  have hs51 : w1.heap.size ≤ w5.heap.size := Nat.le_trans hs31 hb5.size
  clear hb5 cX3 rR3 cY hqb2 oY B3
  go_wp2_with fail
  refine wp_region_held_drew (S := fun w' => w'.cell? ⟨w.heap.size + 1, 0, none⟩ = some (.slice (some ⟨xb, xo, none⟩) X.length capx) ∧ w'.cell? ⟨qb, 0, none⟩ = some (.slice (some ⟨g, 0, none⟩) n cg)) (by kernel_rfl) (⟨cX5, cY5⟩) (fun hHeld => ?_)
  refine wpAnyH_take (i := 0) (v := ?_) rfl (by kernel_rfl) (by kernel_rfl) (by kernel_rfl) (fun _ _ _ h => h) (Or.inl ⟨by rfl, ?_⟩) (by assumption) ?_
  rotate_left
  · (intro w hSw; obtain ⟨hSw0, hSw1⟩ := hSw; (try dsimp only at hSw0 hSw1); go_simp; try (with_reducible rfl))
  (try simp only [Act.put, List.setIfInBounds_toArray, List.set_cons_zero, List.set_cons_succ, List.getElem_toArray, List.getElem_cons_succ, List.getElem_cons_zero])
  refine wpAnyH_take (i := 1) (v := ?_) rfl (by kernel_rfl) (by kernel_rfl) (by kernel_rfl) (fun _ _ _ h => h) (Or.inl ⟨by rfl, ?_⟩) (by assumption) ?_
  rotate_left
  · (intro w hSw; obtain ⟨hSw0, hSw1⟩ := hSw; (try dsimp only at hSw0 hSw1); go_simp; try (with_reducible rfl))
  (try simp only [Act.put, List.setIfInBounds_toArray, List.set_cons_zero, List.set_cons_succ, List.getElem_toArray, List.getElem_cons_succ, List.getElem_cons_zero])
  refine wpAnyH_take (i := 2) (v := ?_) rfl (by kernel_rfl) (by kernel_rfl) (by kernel_rfl) (fun _ _ _ h => h) (Or.inl ⟨by rfl, ?_⟩) (by assumption) ?_
  rotate_left
  · (intro w hSw; obtain ⟨hSw0, hSw1⟩ := hSw; (try dsimp only at hSw0 hSw1); go_simp; try (with_reducible rfl))
  (try simp only [Act.put, List.setIfInBounds_toArray, List.set_cons_zero, List.set_cons_succ, List.getElem_toArray, List.getElem_cons_succ, List.getElem_cons_zero])
  refine wpAnyH_take (i := 3) (v := ?_) rfl (by kernel_rfl) (by kernel_rfl) (by kernel_rfl) (fun _ _ _ h => h) (Or.inl ⟨by rfl, ?_⟩) (by assumption) ?_
  rotate_left
  · (intro w hSw; obtain ⟨hSw0, hSw1⟩ := hSw; (try dsimp only at hSw0 hSw1); go_simp; try (with_reducible rfl))
  (try simp only [Act.put, List.setIfInBounds_toArray, List.set_cons_zero, List.set_cons_succ, List.getElem_toArray, List.getElem_cons_succ, List.getElem_cons_zero])
  refine wpAnyH_take (i := 4) (v := ?_) rfl (by kernel_rfl) (by kernel_rfl) (by kernel_rfl) (fun _ _ _ h => h) (Or.inl ⟨by rfl, ?_⟩) (by assumption) ?_
  rotate_left
  · (intro w hSw; obtain ⟨hSw0, hSw1⟩ := hSw; (try dsimp only at hSw0 hSw1); go_simp; try (with_reducible rfl))
  (try simp only [Act.put, List.setIfInBounds_toArray, List.set_cons_zero, List.set_cons_succ, List.getElem_toArray, List.getElem_cons_succ, List.getElem_cons_zero])
  refine wpAnyH_take (i := 6) (v := ?_) rfl (by kernel_rfl) (by kernel_rfl) (by kernel_rfl) (fun _ _ _ h => h) (Or.inl ⟨by rfl, ?_⟩) (by assumption) ?_
  rotate_left
  · (intro w hSw; obtain ⟨hSw0, hSw1⟩ := hSw; (try dsimp only at hSw0 hSw1); go_simp; try (with_reducible rfl))
  (try simp only [Act.put, List.setIfInBounds_toArray, List.set_cons_zero, List.set_cons_succ, List.getElem_toArray, List.getElem_cons_succ, List.getElem_cons_zero])
  refine wpAnyH_ready (rs := [5]) (by kernel_rfl) (by simp) ?_
  refine AllReadyH.cons rfl (fun K hK => ?_) AllReadyH.nil
  go_simp
  (go_at_call 65; refine (wordCount_nat _ X capx NX HNX.out _ HXX.out (hX.below (B5.trans (Below.mono (Below.refl w5.heap.size w5).drew B5.size)))).mono ?_)
  rintro e x1 ⟨rfl, hb1⟩
  have H1 : Below w5.heap.size w5 x1 := Below.trans (Below.refl w5.heap.size w5).drew (hb1.mono (Below.size (Below.refl w5.heap.size w5).drew))
  refine hK.out _ _ (⟨kept_cell H1 cX5 (by omega), kept_cell H1 cY5 lY5⟩) (fun hHeld => ?_)
  clear hK K
  (try simp only [Act.put, List.setIfInBounds_toArray, List.set_cons_zero, List.set_cons_succ, List.getElem_toArray, List.getElem_cons_succ, List.getElem_cons_zero])
  refine wpAnyH_take (i := 7) (v := ?_) rfl (by kernel_rfl) (by kernel_rfl) (by kernel_rfl) (fun _ _ _ h => h) (Or.inl ⟨by rfl, ?_⟩) (by assumption) ?_
  rotate_left
  · (intro w hSw; obtain ⟨hSw0, hSw1⟩ := hSw; (try dsimp only at hSw0 hSw1); go_simp; try (with_reducible rfl))
  (try simp only [Act.put, List.setIfInBounds_toArray, List.set_cons_zero, List.set_cons_succ, List.getElem_toArray, List.getElem_cons_succ, List.getElem_cons_zero])
  refine wpAnyH_ready (rs := [8]) (by kernel_rfl) (by simp) ?_
  refine AllReadyH.cons rfl (fun K hK => ?_) AllReadyH.nil
  go_simp
  (go_at_call 64; refine (joinedWords_any ac C capc lC HCb.out ad D capd lD HDb.out q ((NX : Int) / q) ⟨by omega, q4⟩ ⟨r1, r2⟩ _ (hC.below (B5.trans (Below.mono H1 B5.size))) (hD.below (B5.trans (Below.mono H1 B5.size)))).mono ?_)
  rintro e x2 ⟨v2, rfl, ow2, hb2⟩
  have H2 : Below w5.heap.size w5 x2 := Below.trans H1 (hb2.mono (Below.size H1))
  refine hK.out _ _ (⟨kept_cell H2 cX5 (by omega), kept_cell H2 cY5 lY5⟩) (fun hHeld => ?_)
  clear hK K
  (try simp only [Act.put, List.setIfInBounds_toArray, List.set_cons_zero, List.set_cons_succ, List.getElem_toArray, List.getElem_cons_succ, List.getElem_cons_zero])
  refine wpAnyH_ready (rs := [9]) (by kernel_rfl) (by simp) ?_
  refine AllReadyH.cons rfl (fun K hK => ?_) AllReadyH.nil
  go_simp
  have rRx := row_below9 rR5 H2 (by omega)
  have rc : x2.cell? ⟨w.heap.size + 1 + 1, 0, none⟩ = some (.slice none 0 0) := by rw [cell_of_row x2 (w.heap.size + 2) 0 _ _ _ rRx]; rfl
  have rf : x2.frozen? ⟨w.heap.size + 1 + 1, 0, none⟩ = false := by have h' := rRx; simp [World.frozen?, h']
  go_simp
  have rs : (x2.setCell ⟨w.heap.size + 1 + 1, 0, none⟩ (.slice (some ⟨g, 0, none⟩) n cg)).cell? ⟨w.heap.size + 1 + 1, 0, none⟩ = some (.slice (some ⟨g, 0, none⟩) n cg) := World.cell?_setCell_same' _ _ _ (by rw [rc]; rfl)
  refine hK.out _ _ (⟨cell_set_other (kept_cell H2 cX5 (by omega)) (by simp), cell_set_other (kept_cell H2 cY5 lY5) (by simp; omega)⟩) (fun hHeld => ?_)
  clear hK K
  (try simp only [Act.put, List.setIfInBounds_toArray, List.set_cons_zero, List.set_cons_succ, List.getElem_toArray, List.getElem_cons_succ, List.getElem_cons_zero])
  refine wpAnyH_take (i := 10) (v := ?_) rfl (by kernel_rfl) (by kernel_rfl) (by kernel_rfl) (fun _ _ _ h => h) (Or.inl ⟨by rfl, ?_⟩) (by assumption) ?_
  rotate_left
  · (intro w hSw; obtain ⟨hSw0, hSw1⟩ := hSw; (try dsimp only at hSw0 hSw1); go_simp; try (with_reducible rfl))
  (try simp only [Act.put, List.setIfInBounds_toArray, List.set_cons_zero, List.set_cons_succ, List.getElem_toArray, List.getElem_cons_succ, List.getElem_cons_zero])
  refine wpAnyH_take (i := 11) (v := ?_) rfl (by kernel_rfl) (by kernel_rfl) (by kernel_rfl) (fun _ _ _ h => h) (Or.inl ⟨by rfl, ?_⟩) (by assumption) ?_
  rotate_left
  · (intro w hSw; obtain ⟨hSw0, hSw1⟩ := hSw; (try dsimp only at hSw0 hSw1); go_simp; try (with_reducible rfl))
  (try simp only [Act.put, List.setIfInBounds_toArray, List.set_cons_zero, List.set_cons_succ, List.getElem_toArray, List.getElem_cons_succ, List.getElem_cons_zero])
  refine wpAnyH_done (by kernel_rfl) ?_ _
  (try simp only [Act.put, List.setIfInBounds_toArray, List.set_cons_zero, List.set_cons_succ, List.getElem_toArray, List.getElem_cons_succ, List.getElem_cons_zero])
  have B9 : Below w.heap.size w (x2.setCell ⟨w.heap.size + 1 + 1, 0, none⟩ (.slice (some ⟨g, 0, none⟩) n cg)) := (B5.trans (Below.mono H2 B5.size)).setCell (show w.heap.size ≤ w.heap.size + 1 + 1 by omega) _
  have oYf := oY5.below H2
  have hgb := oY5.base_le
  have hsz := Below.size H2
  have owf := OwnInts.rebase ow2 (base' := w5.heap.size) (Below.size H1)
  go_wp2_with fail
  refine bodyPost_ret (by rw [results_sp9 rfl]; go_simp; try rfl) rfl ?_
  refine ⟨w5.heap.size, .slice (some ⟨g, 0, none⟩) n cg, _, by rw [HE.out], by omega, fun z hz => by simp [Value.ownBlock] at hz; omega, ?_, ?_, by simp; omega, B9⟩
  · rw [HS0.out]; exact (own_stored_oj9 oYf (.inr (by simp [Value.ownBlock]; omega)) 0 _).rebase (by omega)
  · rw [HC0.out, HJQ.out]; exact owf.setBelow (show w.heap.size + 1 + 1 < w5.heap.size by omega) _

set_option maxHeartbeats 8000000 in
theorem impl_JoinOverPlace_okb (as0 : Addr) (S : List Int) (cap : Nat) (hn : S.length ≤ 4294967296) (ac : Option Addr) (C : List Int) (capc : Nat) (hnc : C.length ≤ 4294967296) (ax : Addr) (X : List Int) (hnx : X.length ≤ 4294967296) (hcx : X.length ≤ 1) (ad : Option Addr) (D : List Int) (capd : Nat) (hnd : D.length ≤ 4294967296) (w : World) (hS : Ints w (some as0) S) (hC : Ints w ac C) (hX : Ints w (some ax) X) (hD : Ints w ad D) (hz : eBo S C X D = 0) (hl : jnB S X = true) (hs : isSp (jnS S X) = true)  :
    Calls Try.prog 29 #[.agg #[.slice (some as0) S.length cap], .slice ac C.length capc, .agg #[.slice (some ax) X.length 1], .slice ad D.length capd] w fun e w' => ∃ m vs v, e = .returned (.tuple #[.agg #[vs], v, .int .i64 (eJn S C X D)]) ∧ w.heap.size ≤ m ∧ RowIn vs w.heap.size m ∧ OwnInts w' w.heap.size vs (vJnS S C X D) ∧ OwnInts w' m v (vJnC S C X D) ∧ m ≤ w'.heap.size ∧ Below w.heap.size w w' := by
  obtain ⟨W0, hW0, cS, cX, rR, z0, B0⟩ := box3_9 w (.slice (some as0) S.length cap) (.slice (some ax) X.length 1) (.slice none 0 0) 28
  have HW0 := Lib.hid hW0
  have z0a : w.heap.size + 3 ≤ W0.heap.size := by omega
  have hbe := bothError_any (some as0) S cap hn ac C capc hnc (some ax) X 1 hnx ad D capd hnd W0 (hS.below B0) (hC.below B0) (hX.below B0) (hD.below B0)
  obtain ⟨x1, x2, x3⟩ := eJn_ok hz hl hs
  have HE := Lib.hid x1
  have HS0 := Lib.hid x2
  have HC0 := Lib.hid x3
  obtain ⟨hcs, hcx0⟩ := eBo_zero hz
  have HSS := Lib.hid (eCode_zero hcs).1
  have HXX := Lib.hid (eCode_zero hcx0).1
  have hlo := (eCode_zero hcs).1.lo
  have hhi := (eCode_zero hcs).1.hi
  have hxlo := (eCode_zero hcx0).1.lo
  have hxhi := (eCode_zero hcx0).1.hi
  obtain ⟨sb, so, hso, hsbl, hsc⟩ := hS.at (i := S.length - 1) (by omega)
  obtain rfl := Option.some.inj hso
  obtain ⟨xb, xo, hxo, hxbl, hxc⟩ := hX.at (i := 0) (by omega)
  obtain rfl := Option.some.inj hxo
  have hsl := hsc (S.length - 1) (by omega)
  have hx0 := hxc 0 (by omega)
  rw [Nat.add_zero] at hx0
  obtain ⟨ls, hls⟩ : ∃ ls, ls = gi S (S.length - 1) := ⟨_, rfl⟩
  obtain ⟨q, hq⟩ : ∃ q, q = gi X 0 := ⟨_, rfl⟩
  have hq4 := (eCode_zero hcx0).1.bd 0 (by omega)
  rw [← hq] at hq4
  rw [← hls] at hsl
  rw [← hq] at hx0
  obtain ⟨q2, q4⟩ := hq4
  have HQ := Lib.hid hq
  have i1 : (0 : Int) ≤ (S.length : Int) - 1 := by omega
  have i2 : (S.length : Int) - 1 < (S.length : Int) := by omega
  have HI : Hid (((S.length : Int) - 1).toNat = S.length - 1) := Lib.hid (by omega)
  have e3 : ((S.length : Int) - 1).toNat = S.length - 1 := HI.out
  have i3 : 0 < X.length := by omega
  have hnb : (ls != q) = false := by have h := hl; unfold jnB at h; rw [← hls, ← hq] at h; simpa using h
  obtain ⟨n, hnl⟩ : ∃ n, n = (jnS S X).length := ⟨_, rfl⟩
  have HNl := Lib.hid hnl
  have hn16 : n ≤ 16 := by rw [hnl]; unfold jnS; simp; omega
  have i4 : (1 : Int) ≤ (X.length : Int) := by omega
  have HX1 : Hid (X.length = 1) := Lib.hid (by omega)
  have lC := code_len0 hcs
  have lD := code_len0 hcx0
  have hNS := nW_bd HSS.out
  have hNX := nW_bd HXX.out
  have HCb : Hid (∀ i, i < C.length → 0 ≤ gi C i ∧ gi C i < 1024) := Lib.hid fun i hi => by have := (eCode_zero hcs).2.1 i hi; omega
  have HDb : Hid (∀ i, i < D.length → 0 ≤ gi D i ∧ gi D i < 1024) := Lib.hid fun i hi => by have := (eCode_zero hcx0).2.1 i hi; omega
  obtain ⟨NX, hNXe⟩ : ∃ NX : Nat, nW X = (NX : Int) := ⟨(nW X).toNat, by omega⟩
  have HNX := Lib.hid (Lib.hid hNXe)
  have HJQ : Hid (jnW (gi X 0) (jnQ X) C D C.length = jnW q ((NX : Int) / q) C D C.length) := Lib.hid (by unfold jnQ; rw [hNXe, ← hq])
  have hqd : gi X 0 ≤ nW X := by
    have h := prodTo_mono X X.length 1 HXX.out.bd HXX.out.lo
    simp only [prodTo, Int.one_mul] at h
    exact h
  rw [hNXe, ← hq] at hqd
  have hNX2 : NX ≤ 1024 := by omega
  have r1 : 1 ≤ (NX : Int) / q := by
    have := Int.ediv_le_ediv (show 0 < q by omega) hqd
    rwa [Int.ediv_self (by omega)] at this
  have r2 : (NX : Int) / q ≤ 1024 := Int.le_trans (Int.ediv_le_self _ (by omega)) (by omega)
  have EWQ : IntKind.i64.wrap ((NX : Int) / q) = (NX : Int) / q := IntWalk.i64_in _ ⟨by omega, by omega⟩
  have hqz : ¬ q = 0 := by omega
  have hqb : (q == 0) = false := by simpa using hqz
  have E9 : (NX : Int).tdiv q = (NX : Int) / q := Int.tdiv_eq_ediv_of_nonneg (by omega)
  have HIS := Lib.hid hs
  rw [hz] at hbe
  have HBE := Lib.hid hbe
  clear hW0 z0 hbe hz x1 x2 x3 hl hcs hcx0 hso hxo hsc hxc hls hq hs hnl hNXe hqd hNS hNX
  go_enter Try.func29, Try.ntmps29
  go_wp2_with fail
  rw [← HW0.out]
  refine HBE.out.mono ?_
  rintro e w1 ⟨rfl, hb1⟩
  have s1 : w.heap.size + 3 ≤ w1.heap.size := by have := hb1.size; omega
  have cS1 := kept_cell hb1 cS (by omega)
  have cX1 := kept_cell hb1 cX (by omega)
  have rR1 := row_below9 rR hb1 (by omega)
  have B1 := B0.trans (hb1.mono (by omega))
  clear HBE hb1
  have hsl1 := kept_cell B1 hsl hsbl
  have hx01 := kept_cell B1 hx0 hxbl
  go_upto_region 7 with fail
  go_cut [13] from 38 to 45 (fun sx wx => ∃ (qb g cg : Nat), sx = .pointer (some ⟨qb, 0, none⟩) ∧ wx.cell? ⟨qb, 0, none⟩ = some (.slice (some ⟨g, 0, none⟩) n cg) ∧ w1.heap.size ≤ qb ∧ qb < wx.heap.size ∧ OwnInts wx w1.heap.size (.slice (some ⟨g, 0, none⟩) n cg) (jnS S X) ∧ g ≠ qb ∧ Below w1.heap.size w1 wx)
  case first =>
    clear rR1
    refine wp_region_held_drew (S := fun w' => w'.cell? ⟨w.heap.size, 0, none⟩ = some (.slice (some ⟨sb, so, none⟩) S.length cap) ∧ w'.cell? ⟨w.heap.size + 1, 0, none⟩ = some (.slice (some ⟨xb, xo, none⟩) X.length 1)) (by kernel_rfl) (⟨cS1, cX1⟩) (fun hHeld => ?_)
    refine wpAnyH_take (i := 0) (v := ?_) rfl (by kernel_rfl) (by kernel_rfl) (by kernel_rfl) (fun _ _ _ h => h) (Or.inl ⟨by rfl, ?_⟩) (by assumption) ?_
    rotate_left
    · (intro w hSw; obtain ⟨hSw0, hSw1⟩ := hSw; (try dsimp only at hSw0 hSw1); go_simp; try (with_reducible rfl))
    (try simp only [Act.put, List.setIfInBounds_toArray, List.set_cons_zero, List.set_cons_succ, List.getElem_toArray, List.getElem_cons_succ, List.getElem_cons_zero])
    refine wpAnyH_take (i := 1) (v := ?_) rfl (by kernel_rfl) (by kernel_rfl) (by kernel_rfl) (fun _ _ _ h => h) (Or.inl ⟨by rfl, ?_⟩) (by assumption) ?_
    rotate_left
    · (intro w hSw; obtain ⟨hSw0, hSw1⟩ := hSw; (try dsimp only at hSw0 hSw1); go_simp; try (with_reducible rfl))
    (try simp only [Act.put, List.setIfInBounds_toArray, List.set_cons_zero, List.set_cons_succ, List.getElem_toArray, List.getElem_cons_succ, List.getElem_cons_zero])
    refine wpAnyH_take (i := 2) (v := ?_) rfl (by kernel_rfl) (by kernel_rfl) (by kernel_rfl) (fun _ _ _ h => h) (Or.inl ⟨by rfl, ?_⟩) (by assumption) ?_
    rotate_left
    · (intro w hSw; obtain ⟨hSw0, hSw1⟩ := hSw; (try dsimp only at hSw0 hSw1); go_simp; try (with_reducible rfl))
    (try simp only [Act.put, List.setIfInBounds_toArray, List.set_cons_zero, List.set_cons_succ, List.getElem_toArray, List.getElem_cons_succ, List.getElem_cons_zero])
    refine wpAnyH_take (i := 3) (v := ?_) rfl (by kernel_rfl) (by kernel_rfl) (by kernel_rfl) (fun _ _ _ h => h) (Or.inl ⟨by rfl, ?_⟩) (by assumption) ?_
    rotate_left
    · (intro w hSw; obtain ⟨hSw0, hSw1⟩ := hSw; (try dsimp only at hSw0 hSw1); go_simp; try (with_reducible rfl))
    (try simp only [Act.put, List.setIfInBounds_toArray, List.set_cons_zero, List.set_cons_succ, List.getElem_toArray, List.getElem_cons_succ, List.getElem_cons_zero])
    refine wpAnyH_take (i := 4) (v := ?_) rfl (by kernel_rfl) (by kernel_rfl) (by kernel_rfl) (fun _ _ _ h => h) (Or.inl ⟨by rfl, ?_⟩) (by assumption) ?_
    rotate_left
    · (intro w hSw; obtain ⟨hSw0, hSw1⟩ := hSw; (try dsimp only at hSw0 hSw1); go_simp; try (with_reducible rfl))
    (try simp only [Act.put, List.setIfInBounds_toArray, List.set_cons_zero, List.set_cons_succ, List.getElem_toArray, List.getElem_cons_succ, List.getElem_cons_zero])
    refine wpAnyH_ready (rs := [5, 8]) (by kernel_rfl) (by simp) ?_
    refine AllReadyH.cons rfl (fun K hK => ?_) ?_
    · go_simp
      have H1 : Below w1.heap.size w1 (w1.drew.alloc (.cells #[.slice (some ⟨sb, so, none⟩) S.length cap, .slice (some ⟨xb, xo, none⟩) 0 0] 22)) := Below.alloc (Below.refl w1.heap.size w1).drew (Below.size (Below.refl w1.heap.size w1).drew) _
      have r5 : RowC (w1.drew.alloc (.cells #[.slice (some ⟨sb, so, none⟩) S.length cap, .slice (some ⟨xb, xo, none⟩) 0 0] 22)) (w1.heap.size) (.cells #[.slice (some ⟨sb, so, none⟩) S.length cap, .slice (some ⟨xb, xo, none⟩) 0 0] 22 (0, 0)) := rowC_new _ _ _ (by simp)
      refine hK.out _ _ (⟨kept_cell H1 cS1 (by omega), kept_cell H1 cX1 (by omega)⟩) (fun hHeld => ?_)
      clear hK K
      (try simp only [Act.put, List.setIfInBounds_toArray, List.set_cons_zero, List.set_cons_succ, List.getElem_toArray, List.getElem_cons_succ, List.getElem_cons_zero])
      refine wpAnyH_ready (rs := [6, 8]) (by kernel_rfl) (by simp) ?_
      refine AllReadyH.cons rfl (fun K hK => ?_) ?_
      · go_simp
        (go_at_call 62; refine (concat2J (w1.heap.size) sb so xb xo (xo) 0 0 S X cap (Or.inl HX1.out) (by have := HX1.out; omega) n HNl.out hlo hhi hxhi hxlo _ r5 (hS.below (B1.trans (Below.mono H1 B1.size))) (hX.below (B1.trans (Below.mono H1 B1.size)))).mono ?_)
        rintro e x2 ⟨g2, c2, rfl, ow2, hb2⟩
        have H2 : Below w1.heap.size w1 x2 := Below.trans H1 (hb2.mono (Below.size H1))
        replace r5 := r5.below hb2
        have hgg2 : w1.heap.size ≤ g2 := by have h1 := ow2.base_le.1; have h2 := Below.size H1; omega
        replace ow2 := ow2.rebase (base' := w1.heap.size) (Below.size H1)
        refine hK.out _ _ (⟨kept_cell H2 cS1 (by omega), kept_cell H2 cX1 (by omega)⟩) (fun hHeld => ?_)
        clear hK K
        (try simp only [Act.put, List.setIfInBounds_toArray, List.set_cons_zero, List.set_cons_succ, List.getElem_toArray, List.getElem_cons_succ, List.getElem_cons_zero])
        refine wpAnyH_take (i := 7) (v := ?_) rfl (by kernel_rfl) (by kernel_rfl) (by kernel_rfl) (fun _ _ _ h => h) (Or.inl ⟨by rfl, ?_⟩) (by assumption) ?_
        rotate_left
        · (intro w hSw; obtain ⟨hSw0, hSw1⟩ := hSw; (try dsimp only at hSw0 hSw1); go_simp; try (with_reducible rfl))
        (try simp only [Act.put, List.setIfInBounds_toArray, List.set_cons_zero, List.set_cons_succ, List.getElem_toArray, List.getElem_cons_succ, List.getElem_cons_zero])
        refine wpAnyH_ready (rs := [8]) (by kernel_rfl) (by simp) ?_
        refine AllReadyH.cons rfl (fun K hK => ?_) AllReadyH.nil
        go_simp
        have owq := ow2
        have H3 : Below w1.heap.size w1 (x2.alloc (.cells #[.slice none 0 0] 28)) := Below.alloc H2 (Below.size H2) _
        replace r5 := r5.below ((Below.refl _ x2).alloc (Nat.le_refl _) (.cells #[.slice none 0 0] 28))
        replace ow2 := ow2.below ((Below.refl _ x2).alloc (Nat.le_refl _) (.cells #[.slice none 0 0] 28))
        have r8 : RowC (x2.alloc (.cells #[.slice none 0 0] 28)) (x2.heap.size) (.cells #[.slice none 0 0] 28 (0, 0)) := rowC_new _ _ _ (by simp)
        refine hK.out _ _ (⟨kept_cell H3 cS1 (by omega), kept_cell H3 cX1 (by omega)⟩) (fun hHeld => ?_)
        clear hK K
        (try simp only [Act.put, List.setIfInBounds_toArray, List.set_cons_zero, List.set_cons_succ, List.getElem_toArray, List.getElem_cons_succ, List.getElem_cons_zero])
        refine wpAnyH_ready (rs := [9]) (by kernel_rfl) (by simp) ?_
        refine AllReadyH.cons rfl (fun K hK => ?_) AllReadyH.nil
        go_simp
        have rc : (x2.alloc (.cells #[.slice none 0 0] 28)).cell? ⟨x2.heap.size, 0, none⟩ = some (.slice none 0 0) := cell_of19j r8.1
        have rf : (x2.alloc (.cells #[.slice none 0 0] 28)).frozen? ⟨x2.heap.size, 0, none⟩ = false := frozen_of_row _ _ 0 _ _ r8.1
        go_simp
        have hqb : w1.heap.size ≤ x2.heap.size := by have := Below.size H2; omega
        have Hs : Below w1.heap.size w1 (x2.alloc (.cells #[.slice (some ⟨g2, 0, none⟩) n c2] 28)) := Below.alloc H2 (Below.size H2) _
        refine hK.out _ _ (⟨kept_cell Hs cS1 (by omega), kept_cell Hs cX1 (by omega)⟩) (fun hHeld => ?_)
        clear hK K
        (try simp only [Act.put, List.setIfInBounds_toArray, List.set_cons_zero, List.set_cons_succ, List.getElem_toArray, List.getElem_cons_succ, List.getElem_cons_zero])
        refine wpAnyH_done (by kernel_rfl) ?_ _
        (try simp only [Act.put, List.setIfInBounds_toArray, List.set_cons_zero, List.set_cons_succ, List.getElem_toArray, List.getElem_cons_succ, List.getElem_cons_zero])
        have hne : g2 ≠ x2.heap.size := fun e => by rw [e] at ow2; exact own_not_sp9 ow2 r8.1
        have ow9 := OwnInts.alloc owq (.cells #[.slice (some ⟨g2, 0, none⟩) n c2] 28)
        go_wp2_with fail
        go_meet
        exact ⟨_, g2, c2, rfl, cell_new _ _ _, hqb, lt_alloc _ _, ow9, hne, Hs⟩
      refine AllReadyH.cons rfl (fun K hK => ?_) AllReadyH.nil
      go_simp
      have H2 : Below w1.heap.size w1 ((w1.drew.alloc (.cells #[.slice (some ⟨sb, so, none⟩) S.length cap, .slice (some ⟨xb, xo, none⟩) 0 0] 22)).alloc (.cells #[.slice none 0 0] 28)) := Below.alloc H1 (Below.size H1) _
      replace r5 := r5.below ((Below.refl _ (w1.drew.alloc (.cells #[.slice (some ⟨sb, so, none⟩) S.length cap, .slice (some ⟨xb, xo, none⟩) 0 0] 22))).alloc (Nat.le_refl _) (.cells #[.slice none 0 0] 28))
      have r8 : RowC ((w1.drew.alloc (.cells #[.slice (some ⟨sb, so, none⟩) S.length cap, .slice (some ⟨xb, xo, none⟩) 0 0] 22)).alloc (.cells #[.slice none 0 0] 28)) (w1.heap.size + 1) (.cells #[.slice none 0 0] 28 (0, 0)) := rowC_new _ _ _ (by simp)
      refine hK.out _ _ (⟨kept_cell H2 cS1 (by omega), kept_cell H2 cX1 (by omega)⟩) (fun hHeld => ?_)
      clear hK K
      (try simp only [Act.put, List.setIfInBounds_toArray, List.set_cons_zero, List.set_cons_succ, List.getElem_toArray, List.getElem_cons_succ, List.getElem_cons_zero])
      refine wpAnyH_ready (rs := [6]) (by kernel_rfl) (by simp) ?_
      refine AllReadyH.cons rfl (fun K hK => ?_) AllReadyH.nil
      go_simp
      (go_at_call 62; refine (concat2J (w1.heap.size) sb so xb xo (xo) 0 0 S X cap (Or.inl HX1.out) (by have := HX1.out; omega) n HNl.out hlo hhi hxhi hxlo _ r5 (hS.below (B1.trans (Below.mono H2 B1.size))) (hX.below (B1.trans (Below.mono H2 B1.size)))).mono ?_)
      rintro e x3 ⟨g3, c3, rfl, ow3, hb3⟩
      have H3 : Below w1.heap.size w1 x3 := Below.trans H2 (hb3.mono (Below.size H2))
      replace r5 := r5.below hb3
      replace r8 := r8.below hb3
      have hgg3 : w1.heap.size ≤ g3 := by have h1 := ow3.base_le.1; have h2 := Below.size H2; omega
      replace ow3 := ow3.rebase (base' := w1.heap.size) (Below.size H2)
      refine hK.out _ _ (⟨kept_cell H3 cS1 (by omega), kept_cell H3 cX1 (by omega)⟩) (fun hHeld => ?_)
      clear hK K
      (try simp only [Act.put, List.setIfInBounds_toArray, List.set_cons_zero, List.set_cons_succ, List.getElem_toArray, List.getElem_cons_succ, List.getElem_cons_zero])
      refine wpAnyH_take (i := 7) (v := ?_) rfl (by kernel_rfl) (by kernel_rfl) (by kernel_rfl) (fun _ _ _ h => h) (Or.inl ⟨by rfl, ?_⟩) (by assumption) ?_
      rotate_left
      · (intro w hSw; obtain ⟨hSw0, hSw1⟩ := hSw; (try dsimp only at hSw0 hSw1); go_simp; try (with_reducible rfl))
      (try simp only [Act.put, List.setIfInBounds_toArray, List.set_cons_zero, List.set_cons_succ, List.getElem_toArray, List.getElem_cons_succ, List.getElem_cons_zero])
      refine wpAnyH_ready (rs := [9]) (by kernel_rfl) (by simp) ?_
      refine AllReadyH.cons rfl (fun K hK => ?_) AllReadyH.nil
      go_simp
      have rc : x3.cell? ⟨w1.heap.size + 1, 0, none⟩ = some (.slice none 0 0) := cell_of19j r8.1
      have rf : x3.frozen? ⟨w1.heap.size + 1, 0, none⟩ = false := frozen_of_row _ _ 0 _ _ r8.1
      go_simp
      have hqb : w1.heap.size ≤ w1.heap.size + 1 := by omega
      have Hs : Below w1.heap.size w1 (x3.setCell ⟨w1.heap.size + 1, 0, none⟩ (.slice (some ⟨g3, 0, none⟩) n c3)) := Below.setCell H3 hqb _
      refine hK.out _ _ (⟨kept_cell Hs cS1 (by omega), kept_cell Hs cX1 (by omega)⟩) (fun hHeld => ?_)
      clear hK K
      (try simp only [Act.put, List.setIfInBounds_toArray, List.set_cons_zero, List.set_cons_succ, List.getElem_toArray, List.getElem_cons_succ, List.getElem_cons_zero])
      refine wpAnyH_done (by kernel_rfl) ?_ _
      (try simp only [Act.put, List.setIfInBounds_toArray, List.set_cons_zero, List.set_cons_succ, List.getElem_toArray, List.getElem_cons_succ, List.getElem_cons_zero])
      have hne : g3 ≠ w1.heap.size + 1 := fun e => by rw [e] at ow3; exact own_not_sp9 ow3 r8.1
      go_wp2_with fail
      go_meet
      exact ⟨_, g3, c3, rfl, cell_of19j (row_store9j _ r8.1), hqb, by simpa using r8.2, own_stored_oj9 ow3 (.inr (by simp [Value.ownBlock]; exact hne)) 0 _, hne, Hs⟩
    refine AllReadyH.cons rfl (fun K hK => ?_) AllReadyH.nil
    go_simp
    have H1 : Below w1.heap.size w1 (w1.drew.alloc (.cells #[.slice none 0 0] 28)) := Below.alloc (Below.refl w1.heap.size w1).drew (Below.size (Below.refl w1.heap.size w1).drew) _
    have r8 : RowC (w1.drew.alloc (.cells #[.slice none 0 0] 28)) (w1.heap.size) (.cells #[.slice none 0 0] 28 (0, 0)) := rowC_new _ _ _ (by simp)
    refine hK.out _ _ (⟨kept_cell H1 cS1 (by omega), kept_cell H1 cX1 (by omega)⟩) (fun hHeld => ?_)
    clear hK K
    (try simp only [Act.put, List.setIfInBounds_toArray, List.set_cons_zero, List.set_cons_succ, List.getElem_toArray, List.getElem_cons_succ, List.getElem_cons_zero])
    refine wpAnyH_ready (rs := [5]) (by kernel_rfl) (by simp) ?_
    refine AllReadyH.cons rfl (fun K hK => ?_) AllReadyH.nil
    go_simp
    have H2 : Below w1.heap.size w1 ((w1.drew.alloc (.cells #[.slice none 0 0] 28)).alloc (.cells #[.slice (some ⟨sb, so, none⟩) S.length cap, .slice (some ⟨xb, xo, none⟩) 0 0] 22)) := Below.alloc H1 (Below.size H1) _
    replace r8 := r8.below ((Below.refl _ (w1.drew.alloc (.cells #[.slice none 0 0] 28))).alloc (Nat.le_refl _) (.cells #[.slice (some ⟨sb, so, none⟩) S.length cap, .slice (some ⟨xb, xo, none⟩) 0 0] 22))
    have r5 : RowC ((w1.drew.alloc (.cells #[.slice none 0 0] 28)).alloc (.cells #[.slice (some ⟨sb, so, none⟩) S.length cap, .slice (some ⟨xb, xo, none⟩) 0 0] 22)) (w1.heap.size + 1) (.cells #[.slice (some ⟨sb, so, none⟩) S.length cap, .slice (some ⟨xb, xo, none⟩) 0 0] 22 (0, 0)) := rowC_new _ _ _ (by simp)
    refine hK.out _ _ (⟨kept_cell H2 cS1 (by omega), kept_cell H2 cX1 (by omega)⟩) (fun hHeld => ?_)
    clear hK K
    (try simp only [Act.put, List.setIfInBounds_toArray, List.set_cons_zero, List.set_cons_succ, List.getElem_toArray, List.getElem_cons_succ, List.getElem_cons_zero])
    refine wpAnyH_ready (rs := [6]) (by kernel_rfl) (by simp) ?_
    refine AllReadyH.cons rfl (fun K hK => ?_) AllReadyH.nil
    go_simp
    (go_at_call 62; refine (concat2J (w1.heap.size + 1) sb so xb xo (xo) 0 0 S X cap (Or.inl HX1.out) (by have := HX1.out; omega) n HNl.out hlo hhi hxhi hxlo _ r5 (hS.below (B1.trans (Below.mono H2 B1.size))) (hX.below (B1.trans (Below.mono H2 B1.size)))).mono ?_)
    rintro e x3 ⟨g3, c3, rfl, ow3, hb3⟩
    have H3 : Below w1.heap.size w1 x3 := Below.trans H2 (hb3.mono (Below.size H2))
    replace r8 := r8.below hb3
    replace r5 := r5.below hb3
    have hgg3 : w1.heap.size ≤ g3 := by have h1 := ow3.base_le.1; have h2 := Below.size H2; omega
    replace ow3 := ow3.rebase (base' := w1.heap.size) (Below.size H2)
    refine hK.out _ _ (⟨kept_cell H3 cS1 (by omega), kept_cell H3 cX1 (by omega)⟩) (fun hHeld => ?_)
    clear hK K
    (try simp only [Act.put, List.setIfInBounds_toArray, List.set_cons_zero, List.set_cons_succ, List.getElem_toArray, List.getElem_cons_succ, List.getElem_cons_zero])
    refine wpAnyH_take (i := 7) (v := ?_) rfl (by kernel_rfl) (by kernel_rfl) (by kernel_rfl) (fun _ _ _ h => h) (Or.inl ⟨by rfl, ?_⟩) (by assumption) ?_
    rotate_left
    · (intro w hSw; obtain ⟨hSw0, hSw1⟩ := hSw; (try dsimp only at hSw0 hSw1); go_simp; try (with_reducible rfl))
    (try simp only [Act.put, List.setIfInBounds_toArray, List.set_cons_zero, List.set_cons_succ, List.getElem_toArray, List.getElem_cons_succ, List.getElem_cons_zero])
    refine wpAnyH_ready (rs := [9]) (by kernel_rfl) (by simp) ?_
    refine AllReadyH.cons rfl (fun K hK => ?_) AllReadyH.nil
    go_simp
    have rc : x3.cell? ⟨w1.heap.size, 0, none⟩ = some (.slice none 0 0) := cell_of19j r8.1
    have rf : x3.frozen? ⟨w1.heap.size, 0, none⟩ = false := frozen_of_row _ _ 0 _ _ r8.1
    go_simp
    have hqb : w1.heap.size ≤ w1.heap.size := by omega
    have Hs : Below w1.heap.size w1 (x3.setCell ⟨w1.heap.size, 0, none⟩ (.slice (some ⟨g3, 0, none⟩) n c3)) := Below.setCell H3 hqb _
    refine hK.out _ _ (⟨kept_cell Hs cS1 (by omega), kept_cell Hs cX1 (by omega)⟩) (fun hHeld => ?_)
    clear hK K
    (try simp only [Act.put, List.setIfInBounds_toArray, List.set_cons_zero, List.set_cons_succ, List.getElem_toArray, List.getElem_cons_succ, List.getElem_cons_zero])
    refine wpAnyH_done (by kernel_rfl) ?_ _
    (try simp only [Act.put, List.setIfInBounds_toArray, List.set_cons_zero, List.set_cons_succ, List.getElem_toArray, List.getElem_cons_succ, List.getElem_cons_zero])
    have hne : g3 ≠ w1.heap.size := fun e => by rw [e] at ow3; exact own_not_sp9 ow3 r8.1
    go_wp2_with fail
    go_meet
    exact ⟨_, g3, c3, rfl, cell_of19j (row_store9j _ r8.1), hqb, by simpa using r8.2, own_stored_oj9 ow3 (.inr (by simp [Value.ownBlock]; exact hne)) 0 _, hne, Hs⟩
  case rest =>
  obtain ⟨qb, g, cg, rfl, cY, hqb1, hqb2, oY, hgq, hb3⟩ := hcut
  replace hb3 : Below w1.heap.size w1 wc := hb3
  have cX3 := kept_cell hb3 cX1 (by omega)
  have rR3 := row_below9 rR1 hb3 (by omega)
  have B3 := B1.trans (hb3.mono (by omega))
  have s3 : w.heap.size + 3 ≤ wc.heap.size := Nat.le_trans s1 hb3.size
  have hs31 : w1.heap.size ≤ wc.heap.size := hb3.size
  clear hb3 cX1 rR1 cS1
  go_wp2_with fail
  refine (IsSpace_n9 _ (jnS S X) n cg HNl.out wc (by omega) (own_ints oY)).mono ?_
  rw [HIS.out]
  rintro e w5 ⟨rfl, hb5⟩
  have s5 : w.heap.size + 3 ≤ w5.heap.size := Nat.le_trans s3 hb5.size
  have cX5 := kept_cell hb5 cX3 (by omega)
  have rR5 := row_below9 rR3 hb5 (by omega)
  have cY5 := kept_cell hb5 cY hqb2
  have lY5 := lt_of_below hb5 hqb2
  have oY5 := oY.below hb5
  have B5 := B3.trans (hb5.mono B3.size)
  have hs51 : w1.heap.size ≤ w5.heap.size := Nat.le_trans hs31 hb5.size
  clear hb5 cX3 rR3 cY hqb2 oY B3
  go_wp2_with fail
  refine wp_region_held_drew (S := fun w' => w'.cell? ⟨w.heap.size + 1, 0, none⟩ = some (.slice (some ⟨xb, xo, none⟩) X.length 1) ∧ w'.cell? ⟨qb, 0, none⟩ = some (.slice (some ⟨g, 0, none⟩) n cg)) (by kernel_rfl) (⟨cX5, cY5⟩) (fun hHeld => ?_)
  refine wpAnyH_take (i := 0) (v := ?_) rfl (by kernel_rfl) (by kernel_rfl) (by kernel_rfl) (fun _ _ _ h => h) (Or.inl ⟨by rfl, ?_⟩) (by assumption) ?_
  rotate_left
  · (intro w hSw; obtain ⟨hSw0, hSw1⟩ := hSw; (try dsimp only at hSw0 hSw1); go_simp; try (with_reducible rfl))
  (try simp only [Act.put, List.setIfInBounds_toArray, List.set_cons_zero, List.set_cons_succ, List.getElem_toArray, List.getElem_cons_succ, List.getElem_cons_zero])
  refine wpAnyH_take (i := 1) (v := ?_) rfl (by kernel_rfl) (by kernel_rfl) (by kernel_rfl) (fun _ _ _ h => h) (Or.inl ⟨by rfl, ?_⟩) (by assumption) ?_
  rotate_left
  · (intro w hSw; obtain ⟨hSw0, hSw1⟩ := hSw; (try dsimp only at hSw0 hSw1); go_simp; try (with_reducible rfl))
  (try simp only [Act.put, List.setIfInBounds_toArray, List.set_cons_zero, List.set_cons_succ, List.getElem_toArray, List.getElem_cons_succ, List.getElem_cons_zero])
  refine wpAnyH_take (i := 2) (v := ?_) rfl (by kernel_rfl) (by kernel_rfl) (by kernel_rfl) (fun _ _ _ h => h) (Or.inl ⟨by rfl, ?_⟩) (by assumption) ?_
  rotate_left
  · (intro w hSw; obtain ⟨hSw0, hSw1⟩ := hSw; (try dsimp only at hSw0 hSw1); go_simp; try (with_reducible rfl))
  (try simp only [Act.put, List.setIfInBounds_toArray, List.set_cons_zero, List.set_cons_succ, List.getElem_toArray, List.getElem_cons_succ, List.getElem_cons_zero])
  refine wpAnyH_take (i := 3) (v := ?_) rfl (by kernel_rfl) (by kernel_rfl) (by kernel_rfl) (fun _ _ _ h => h) (Or.inl ⟨by rfl, ?_⟩) (by assumption) ?_
  rotate_left
  · (intro w hSw; obtain ⟨hSw0, hSw1⟩ := hSw; (try dsimp only at hSw0 hSw1); go_simp; try (with_reducible rfl))
  (try simp only [Act.put, List.setIfInBounds_toArray, List.set_cons_zero, List.set_cons_succ, List.getElem_toArray, List.getElem_cons_succ, List.getElem_cons_zero])
  refine wpAnyH_take (i := 4) (v := ?_) rfl (by kernel_rfl) (by kernel_rfl) (by kernel_rfl) (fun _ _ _ h => h) (Or.inl ⟨by rfl, ?_⟩) (by assumption) ?_
  rotate_left
  · (intro w hSw; obtain ⟨hSw0, hSw1⟩ := hSw; (try dsimp only at hSw0 hSw1); go_simp; try (with_reducible rfl))
  (try simp only [Act.put, List.setIfInBounds_toArray, List.set_cons_zero, List.set_cons_succ, List.getElem_toArray, List.getElem_cons_succ, List.getElem_cons_zero])
  refine wpAnyH_take (i := 6) (v := ?_) rfl (by kernel_rfl) (by kernel_rfl) (by kernel_rfl) (fun _ _ _ h => h) (Or.inl ⟨by rfl, ?_⟩) (by assumption) ?_
  rotate_left
  · (intro w hSw; obtain ⟨hSw0, hSw1⟩ := hSw; (try dsimp only at hSw0 hSw1); go_simp; try (with_reducible rfl))
  (try simp only [Act.put, List.setIfInBounds_toArray, List.set_cons_zero, List.set_cons_succ, List.getElem_toArray, List.getElem_cons_succ, List.getElem_cons_zero])
  refine wpAnyH_ready (rs := [5]) (by kernel_rfl) (by simp) ?_
  refine AllReadyH.cons rfl (fun K hK => ?_) AllReadyH.nil
  go_simp
  (go_at_call 65; refine (wordCount_nat _ X 1 NX HNX.out _ HXX.out (hX.below (B5.trans (Below.mono (Below.refl w5.heap.size w5).drew B5.size)))).mono ?_)
  rintro e x1 ⟨rfl, hb1⟩
  have H1 : Below w5.heap.size w5 x1 := Below.trans (Below.refl w5.heap.size w5).drew (hb1.mono (Below.size (Below.refl w5.heap.size w5).drew))
  refine hK.out _ _ (⟨kept_cell H1 cX5 (by omega), kept_cell H1 cY5 lY5⟩) (fun hHeld => ?_)
  clear hK K
  (try simp only [Act.put, List.setIfInBounds_toArray, List.set_cons_zero, List.set_cons_succ, List.getElem_toArray, List.getElem_cons_succ, List.getElem_cons_zero])
  refine wpAnyH_take (i := 7) (v := ?_) rfl (by kernel_rfl) (by kernel_rfl) (by kernel_rfl) (fun _ _ _ h => h) (Or.inl ⟨by rfl, ?_⟩) (by assumption) ?_
  rotate_left
  · (intro w hSw; obtain ⟨hSw0, hSw1⟩ := hSw; (try dsimp only at hSw0 hSw1); go_simp; try (with_reducible rfl))
  (try simp only [Act.put, List.setIfInBounds_toArray, List.set_cons_zero, List.set_cons_succ, List.getElem_toArray, List.getElem_cons_succ, List.getElem_cons_zero])
  refine wpAnyH_ready (rs := [8]) (by kernel_rfl) (by simp) ?_
  refine AllReadyH.cons rfl (fun K hK => ?_) AllReadyH.nil
  go_simp
  (go_at_call 64; refine (joinedWords_any ac C capc lC HCb.out ad D capd lD HDb.out q ((NX : Int) / q) ⟨by omega, q4⟩ ⟨r1, r2⟩ _ (hC.below (B5.trans (Below.mono H1 B5.size))) (hD.below (B5.trans (Below.mono H1 B5.size)))).mono ?_)
  rintro e x2 ⟨v2, rfl, ow2, hb2⟩
  have H2 : Below w5.heap.size w5 x2 := Below.trans H1 (hb2.mono (Below.size H1))
  refine hK.out _ _ (⟨kept_cell H2 cX5 (by omega), kept_cell H2 cY5 lY5⟩) (fun hHeld => ?_)
  clear hK K
  (try simp only [Act.put, List.setIfInBounds_toArray, List.set_cons_zero, List.set_cons_succ, List.getElem_toArray, List.getElem_cons_succ, List.getElem_cons_zero])
  refine wpAnyH_ready (rs := [9]) (by kernel_rfl) (by simp) ?_
  refine AllReadyH.cons rfl (fun K hK => ?_) AllReadyH.nil
  go_simp
  have rRx := row_below9 rR5 H2 (by omega)
  have rc : x2.cell? ⟨w.heap.size + 1 + 1, 0, none⟩ = some (.slice none 0 0) := by rw [cell_of_row x2 (w.heap.size + 2) 0 _ _ _ rRx]; rfl
  have rf : x2.frozen? ⟨w.heap.size + 1 + 1, 0, none⟩ = false := by have h' := rRx; simp [World.frozen?, h']
  go_simp
  have rs : (x2.setCell ⟨w.heap.size + 1 + 1, 0, none⟩ (.slice (some ⟨g, 0, none⟩) n cg)).cell? ⟨w.heap.size + 1 + 1, 0, none⟩ = some (.slice (some ⟨g, 0, none⟩) n cg) := World.cell?_setCell_same' _ _ _ (by rw [rc]; rfl)
  refine hK.out _ _ (⟨cell_set_other (kept_cell H2 cX5 (by omega)) (by simp), cell_set_other (kept_cell H2 cY5 lY5) (by simp; omega)⟩) (fun hHeld => ?_)
  clear hK K
  (try simp only [Act.put, List.setIfInBounds_toArray, List.set_cons_zero, List.set_cons_succ, List.getElem_toArray, List.getElem_cons_succ, List.getElem_cons_zero])
  refine wpAnyH_take (i := 10) (v := ?_) rfl (by kernel_rfl) (by kernel_rfl) (by kernel_rfl) (fun _ _ _ h => h) (Or.inl ⟨by rfl, ?_⟩) (by assumption) ?_
  rotate_left
  · (intro w hSw; obtain ⟨hSw0, hSw1⟩ := hSw; (try dsimp only at hSw0 hSw1); go_simp; try (with_reducible rfl))
  (try simp only [Act.put, List.setIfInBounds_toArray, List.set_cons_zero, List.set_cons_succ, List.getElem_toArray, List.getElem_cons_succ, List.getElem_cons_zero])
  refine wpAnyH_take (i := 11) (v := ?_) rfl (by kernel_rfl) (by kernel_rfl) (by kernel_rfl) (fun _ _ _ h => h) (Or.inl ⟨by rfl, ?_⟩) (by assumption) ?_
  rotate_left
  · (intro w hSw; obtain ⟨hSw0, hSw1⟩ := hSw; (try dsimp only at hSw0 hSw1); go_simp; try (with_reducible rfl))
  (try simp only [Act.put, List.setIfInBounds_toArray, List.set_cons_zero, List.set_cons_succ, List.getElem_toArray, List.getElem_cons_succ, List.getElem_cons_zero])
  refine wpAnyH_done (by kernel_rfl) ?_ _
  (try simp only [Act.put, List.setIfInBounds_toArray, List.set_cons_zero, List.set_cons_succ, List.getElem_toArray, List.getElem_cons_succ, List.getElem_cons_zero])
  have B9 : Below w.heap.size w (x2.setCell ⟨w.heap.size + 1 + 1, 0, none⟩ (.slice (some ⟨g, 0, none⟩) n cg)) := (B5.trans (Below.mono H2 B5.size)).setCell (show w.heap.size ≤ w.heap.size + 1 + 1 by omega) _
  have oYf := oY5.below H2
  have hgb := oY5.base_le
  have hsz := Below.size H2
  have owf := OwnInts.rebase ow2 (base' := w5.heap.size) (Below.size H1)
  go_wp2_with fail
  refine bodyPost_ret (by rw [results_sp9 rfl]; go_simp; try rfl) rfl ?_
  refine ⟨w5.heap.size, .slice (some ⟨g, 0, none⟩) n cg, _, by rw [HE.out], by omega, fun z hz => by simp [Value.ownBlock] at hz; omega, ?_, ?_, by simp; omega, B9⟩
  · rw [HS0.out]; exact (own_stored_oj9 oYf (.inr (by simp [Value.ownBlock]; omega)) 0 _).rebase (by omega)
  · rw [HC0.out, HJQ.out]; exact owf.setBelow (show w.heap.size + 1 + 1 < w5.heap.size by omega) _

theorem impl_JoinOverPlace (as0 : Addr) (S : List Int) (cap : Nat) (hn : S.length ≤ 4294967296) (ac : Option Addr) (C : List Int) (capc : Nat) (hnc : C.length ≤ 4294967296) (ax : Addr) (X : List Int) (capx : Nat) (hnx : X.length ≤ 4294967296) (hcx : X.length ≤ capx) (ad : Option Addr) (D : List Int) (capd : Nat) (hnd : D.length ≤ 4294967296) (w : World) (hS : Ints w (some as0) S) (hC : Ints w ac C) (hX : Ints w (some ax) X) (hD : Ints w ad D) :
    Calls Try.prog 29 #[.agg #[.slice (some as0) S.length cap], .slice ac C.length capc, .agg #[.slice (some ax) X.length capx], .slice ad D.length capd] w fun e w' => ∃ m vs v, e = .returned (.tuple #[.agg #[vs], v, .int .i64 (eJn S C X D)]) ∧ w.heap.size ≤ m ∧ RowIn vs w.heap.size m ∧ OwnInts w' w.heap.size vs (vJnS S C X D) ∧ OwnInts w' m v (vJnC S C X D) ∧ m ≤ w'.heap.size ∧ Below w.heap.size w w' := by
  by_cases h1 : eBo S C X D = 0
  · cases h2 : jnB S X with
    | true =>
      by_cases hc : capx = 1
      · subst hc
        cases h3 : isSp (jnS S X) with
        | true => exact impl_JoinOverPlace_okb as0 S cap hn ac C capc hnc ax X hnx hcx ad D capd hnd w hS hC hX hD h1 h2 h3
        | false => exact impl_JoinOverPlace_e3b as0 S cap hn ac C capc hnc ax X hnx hcx ad D capd hnd w hS hC hX hD h1 h2 h3
      · cases h3 : isSp (jnS S X) with
        | true => exact impl_JoinOverPlace_oka as0 S cap hn ac C capc hnc ax X capx hnx hcx ad D capd hnd w hS hC hX hD h1 h2 h3 hc
        | false => exact impl_JoinOverPlace_e3a as0 S cap hn ac C capc hnc ax X capx hnx hcx ad D capd hnd w hS hC hX hD h1 h2 h3 hc
    | false => exact impl_JoinOverPlace_e2 as0 S cap hn ac C capc hnc ax X capx hnx hcx ad D capd hnd w hS hC hX hD h1 h2
  · exact impl_JoinOverPlace_e1 as0 S cap hn ac C capc hnc ax X capx hnx hcx ad D capd hnd w hS hC hX hD h1

end Go.Proofs.Ytfgpenldeckoaaa
