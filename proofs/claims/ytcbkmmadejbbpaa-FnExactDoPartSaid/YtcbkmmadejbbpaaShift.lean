/-
  The contract of the program's ShiftCode. By an AI agent.
-/
import Derived.Test.YtcbkmmadejbbpaaShA
namespace Go.Proofs.Ytcbkmmadejbbpaa
open Go.RowKit Cv
set_option linter.unusedVariables false
set_option linter.unusedSimpArgs false
set_option maxRecDepth 100000

set_option maxHeartbeats 4000000 in
theorem impl_ShiftCode (ao : Option Addr) (S : List Int) (cap : Nat) (hn : S.length ≤ 4294967296) (ac : Addr) (C : List Int) (capc : Nat) (hnc : C.length ≤ 4294967296) (x : Int) (hx : -9223372036854775808 ≤ x ∧ x ≤ 9223372036854775807) (w : World) (hS : Ints w ao S) (hC : Ints w (some ac) C) :
    Calls Try.prog 81 #[.agg #[.slice ao S.length cap], .slice (some ac) C.length capc, .int .i64 x] w fun e w' => ∃ v, e = .returned (.tuple #[v, .int .i64 (eShift S C x)]) ∧ OwnInts w' w.heap.size v (vShift S C x) ∧ Below w.heap.size w w' := by
  have c0 := cell_new w (.slice ao S.length cap) 26
  have l0 := lt_alloc w (.cells #[.slice ao S.length cap] 26)
  obtain ⟨i0, hi, hz0, hz1, hz2⟩ := info_parts infoI64
  by_cases hz : eShift S C x = 0
  · have hzn : (eShift S C x != 0) = false := by simp [hz]
    have HZ := Lib.hid hz
    obtain ⟨z1, z2⟩ := eShift_zero hz
    obtain ⟨hs, c1, c2⟩ := eCode_zero z1
    obtain ⟨_, x1, x2⟩ := eWords1 z2
    have lc := code_len0 z1
    have HSp := Lib.hid hs
    have N1 := nW_bd hs
    have HC : Hid (∀ i, i < C.length → 0 ≤ gi C i ∧ gi C i ≤ 9223372036854775807) := Lib.hid fun i hi => by have := c1 i hi; omega
    have HV : Hid (vShift S C x = sorted (sumsL S C x)) := Lib.hid (by unfold vShift; rw [if_pos hz])
    have hx9 : 0 ≤ x ∧ x ≤ 9223372036854775807 := by omega
    obtain ⟨E, hE⟩ : ∃ E, E = eShift S C x := ⟨_, rfl⟩
    have HE : Hid (orI (eCode S C) (eWords S [x]) = E) := Lib.hid (by rw [hE]; rfl)
    rw [← hE] at hzn HZ ⊢
    clear hz z1 z2 hs c1 c2 x1 x2 N1 hE
    go_enter Try.func81, Try.ntmps81
    go_wp2_with fail
    refine wp_region_held_drew (S := fun w' => w'.cell? ⟨w.heap.size, 0, none⟩ = some (.slice ao S.length cap)) (by kernel_rfl) c0 (fun hHeld => ?_)
    refine wpAnyH_take (i := 0) (v := ?_) rfl (by kernel_rfl) (by kernel_rfl) (by kernel_rfl) (fun _ _ _ h => h) (Or.inl ⟨by rfl, ?_⟩) (by assumption) ?_
    rotate_left
    · (intro w hSw; (try dsimp only at hSw); go_simp; try (with_reducible rfl))
    (try simp only [Act.put, List.setIfInBounds_toArray, List.set_cons_zero, List.set_cons_succ])
    refine wpAnyH_take (i := 1) (v := ?_) rfl (by kernel_rfl) (by kernel_rfl) (by kernel_rfl) (fun _ _ _ h => h) (Or.inl ⟨by rfl, ?_⟩) (by assumption) ?_
    rotate_left
    · (intro w hSw; (try dsimp only at hSw); go_simp; try (with_reducible rfl))
    (try simp only [Act.put, List.setIfInBounds_toArray, List.set_cons_zero, List.set_cons_succ])
    refine wpAnyH_take (i := 3) (v := ?_) rfl (by kernel_rfl) (by kernel_rfl) (by kernel_rfl) (fun _ _ _ h => h) (Or.inl ⟨by rfl, ?_⟩) (by assumption) ?_
    rotate_left
    · (intro w hSw; (try dsimp only at hSw); go_simp; try (with_reducible rfl))
    (try simp only [Act.put, List.setIfInBounds_toArray, List.set_cons_zero, List.set_cons_succ])
    refine wpAnyH_take (i := 4) (v := ?_) rfl (by kernel_rfl) (by kernel_rfl) (by kernel_rfl) (fun _ _ _ h => h) (Or.inl ⟨by rfl, ?_⟩) (by assumption) ?_
    rotate_left
    · (intro w hSw; (try dsimp only at hSw); go_simp; try (with_reducible rfl))
    (try simp only [Act.put, List.setIfInBounds_toArray, List.set_cons_zero, List.set_cons_succ])
    refine wpAnyH_ready (rs := [2, 5]) (by kernel_rfl) (by simp) ?_
    refine AllReadyH.cons rfl (fun K hK => ?_) ?_
    · go_simp
      (go_at_call 60; refine (codeError_any ao S cap hn (some ac) C capc hnc _ (hS.below (by go_grown)) (hC.below (by go_grown))).mono ?_)
      rintro e w1 ⟨rfl, hb1⟩
      have B1 : Below w.heap.size w w1 := Below.trans (by go_grown) (hb1.mono (by simp; try omega))
      have k1 : w1.cell? ⟨w.heap.size, 0, none⟩ = some (.slice ao S.length cap) := kept_cell hb1 (by simp) (by simp; try omega)
      have l1 : w.heap.size < w1.heap.size := lt_of_below hb1 (by simp; try omega)
      refine hK.out _ _ (k1) (fun hHeld => ?_)
      clear hK K
      (try simp only [Act.put, List.setIfInBounds_toArray, List.set_cons_zero, List.set_cons_succ])
      refine wpAnyH_ready (rs := [5]) (by kernel_rfl) (by simp) ?_
      refine AllReadyH.cons rfl (fun K hK => ?_) AllReadyH.nil
      go_simp
      refine hK.out _ _ (kept_cell ((Below.refl w1.heap.size w1).alloc (Nat.le_refl _) _) k1 l1) (fun hHeld => ?_)
      clear hK K
      (try simp only [Act.put, List.setIfInBounds_toArray, List.set_cons_zero, List.set_cons_succ])
      refine wpAnyH_ready (rs := [6]) (by kernel_rfl) (by simp) ?_
      refine AllReadyH.cons rfl (fun K hK => ?_) AllReadyH.nil
      go_simp
      (go_at_call 105; refine (wordsError_n ao S cap hn _ [x] 1 _ rfl (by omega) _ (hS.below (B1.alloc B1.size _)) (ints_new1 _ x _ rfl)).mono ?_)
      rintro e w2 ⟨rfl, hb2⟩
      have hq : Below w1.heap.size w1 w2 := Below.trans ((Below.refl _ w1).alloc (Nat.le_refl _) _) (hb2.mono (by simp))
      have k2 := kept_cell hq k1 l1
      have l2 := lt_of_below hq l1
      have B2 := B1.trans (hq.mono B1.size)
      refine hK.out _ _ (k2) (fun hHeld => ?_)
      clear hK K
      (try simp only [Act.put, List.setIfInBounds_toArray, List.set_cons_zero, List.set_cons_succ])
      refine wpAnyH_ready (rs := [7]) (by kernel_rfl) (by simp) ?_
      refine AllReadyH.cons rfl (fun K hK => ?_) AllReadyH.nil
      go_simp
      refine hK.out _ _ (kept_cell ((Below.refl w2.heap.size w2).alloc (Nat.le_refl _) _) k2 l2) (fun hHeld => ?_)
      clear hK K
      (try simp only [Act.put, List.setIfInBounds_toArray, List.set_cons_zero, List.set_cons_succ])
      refine wpAnyH_ready (rs := [8]) (by kernel_rfl) (by simp) ?_
      refine AllReadyH.cons rfl (fun K hK => ?_) AllReadyH.nil
      go_simp
      (go_at_call 89; refine (cmpOr2 _ (eCode S C) (eWords S [x]) _ _ (ints_new2 _ _ _ _ rfl)).mono ?_)
      rintro e w3 ⟨rfl, rfl⟩
      rw [HE.out]
      refine hK.out _ _ (kept_cell ((Below.refl w2.heap.size w2).alloc (Nat.le_refl _) _) k2 l2) (fun hHeld => ?_)
      clear hK K
      (try simp only [Act.put, List.setIfInBounds_toArray, List.set_cons_zero, List.set_cons_succ])
      refine wpAnyH_take (i := 9) (v := ?_) rfl (by kernel_rfl) (by kernel_rfl) (by kernel_rfl) (fun _ _ _ h => h) (Or.inl ⟨by rfl, ?_⟩) (by assumption) ?_
      rotate_left
      · (intro w hSw; (try dsimp only at hSw); go_simp; try (with_reducible rfl))
      (try simp only [Act.put, List.setIfInBounds_toArray, List.set_cons_zero, List.set_cons_succ])
      refine wpAnyH_done (by kernel_rfl) ?_ _
      simp only [List.getElem_toArray, List.getElem_cons_succ, List.getElem_cons_zero, Act.put, List.setIfInBounds_toArray, List.set_cons_zero, List.set_cons_succ]
      have B3 := B2.alloc B2.size (.cells #[.int .i64 (eCode S C), .int .i64 (eWords S [x])] 2)
      have k3 := kept_cell ((Below.refl w2.heap.size w2).alloc (Nat.le_refl _) (.cells #[.int .i64 (eCode S C), .int .i64 (eWords S [x])] 2)) k2 l2
      have l3 : w.heap.size < (w2.alloc (.cells #[.int .i64 (eCode S C), .int .i64 (eWords S [x])] 2)).heap.size := by simp; omega
      obtain ⟨W3, hW3⟩ : ∃ W3, W3 = w2.alloc (.cells #[.int .i64 (eCode S C), .int .i64 (eWords S [x])] 2) := ⟨_, rfl⟩
      rw [← hW3] at B3 k3 l3 ⊢
      clear hW3 hb1 hb2 hq k1 k2 l1 l2 B1 B2
      go_wp2_with (at_make; refine wpList_make_full _ rfl _ _ 22 rfl w.heap.size 2 i0 (.int .i64 0) 1 Try.underlying22 hi hz0 hz1 .i64 .i64 _ _ C.length rfl rfl rfl rfl (by rw [hz2]; omega) (by unfold maxLen; omega) (by omega) ?_; intro w4 hown hgrow)
      have hb34 := below_grown0 hgrow
      have B4 := B3.trans (hb34.mono (by omega))
      replace k3 := kept_cell hb34 k3 l3
      have l4 := lt_of_below hb34 l3
      replace hown := own_made hown
      have g1 : w.heap.size ≠ W3.heap.size := by omega
      clear hgrow hb34 B3 l3
      go_loopw [29] (fun i wr => ∃ (k : Nat) (D : List Int), k ≤ C.length ∧ i = .int .i64 k ∧ OwnInts wr w.heap.size (.slice (some ⟨W3.heap.size, 0, none⟩) C.length C.length) D ∧ Hid (D.length = C.length ∧ ∀ j, j < k → gi D j = sumW S (gi C j) x) ∧ wr.cell? ⟨w.heap.size, 0, none⟩ = some (.slice ao S.length cap) ∧ w.heap.size < wr.heap.size ∧ Below w.heap.size w wr) (fun i _ => C.length - (intOf i).toNat)
      case atStart => exact ⟨0, _, Nat.zero_le _, rfl, hown, Lib.hid ⟨by simp, fun j h => by omega⟩, k3, l4, B4⟩
      case round =>
        clear hown k3 l4 B4
        obtain ⟨k, D, hk, rfl, own, HD, c, l, B⟩ := hrel
        by_cases hlt : k < C.length
        · obtain ⟨b, o, he, hbl, hc⟩ := hC.at hlt
          obtain rfl : ac = ⟨b, o, none⟩ := by simpa using he
          have hck := kept_cell B (hc k hlt) hbl
          obtain ⟨u1, u2⟩ := HC.out k hlt
          have hs := B.size
          clear hc he
          go_wp2_with fail
          refine (sumOfWords_any ao S cap HSp.out (gi C k) x u1 u2 hx9.1 hx9.2 _ (hS.below B)).mono ?_
          rintro e w5 ⟨rfl, hb5⟩
          replace c := kept_cell hb5 c l
          replace l := lt_of_below hb5 l
          replace own := own.below hb5
          replace B := B.trans (hb5.mono hs)
          have hcs := own.cell (k := k) (by rw [HD.out.1]; exact hlt)
          have hfs := own.free k
          have hb3 := own.base_le
          clear hb5 hck hs
          go_wp2_with fail
          go_roundw
          case rel =>
            refine ⟨k + 1, D.set k (sumW S (gi C k) x), by omega, by go_num, own.stored k _, Lib.hid ⟨by rw [List.length_set]; exact HD.out.1, fun j hj => ?_⟩, cell_set_other c (by simpa using g1), by simpa using l, B.setCell (by simp; omega) _⟩
            rw [gi_set _ _ _ _ (by rw [HD.out.1]; exact hlt)]
            by_cases e : j = k
            · rw [if_pos e, e]
            · rw [if_neg e]; exact HD.out.2 j (by omega)
          case measure => simp [intOf]; omega
        · have ek : Hid (k = C.length) := Lib.hid (by omega)
          have HL : Hid (D = sumsL S C x) := Lib.hid (by
            refine ext_gi (by rw [HD.out.1]; simp [sumsL]) fun j hj => ?_
            rw [HD.out.1] at hj
            rw [HD.out.2 j (by rw [ek.out]; exact hj)]
            simp [sumsL, gi, hj])
          have hlen : C.length = D.length := HD.out.1.symm
          have hst := sort_any w.heap.size W3.heap.size C.length D wr (by omega) (by rw [← hlen]; exact own)
          rw [← hlen] at hst
          have hs := B.size
          clear hlen
          go_wp2_with fail
          refine hst.mono ?_
          rintro e w5 ⟨rfl, own5, hg5⟩
          go_wp2_with fail
          go_ret2
          exact ⟨_, by rw [HZ.out]; rfl, by rw [HV.out, ← HL.out]; exact own5, B.trans (below_of_grown hg5 own5.base_le.1 hs)⟩
    refine AllReadyH.cons rfl (fun K hK => ?_) AllReadyH.nil
    go_simp
    refine hK.out _ _ (by first | (simp; done) | exact kept_cell (by go_grown) c0 l0) (fun hHeld => ?_)
    clear hK K
    (try simp only [Act.put, List.setIfInBounds_toArray, List.set_cons_zero, List.set_cons_succ])
    have hxi := ints_new1 (w.alloc (.cells #[.slice ao S.length cap] 26)) x 2 (n := w.heap.size + 1) (by simp)
    refine wpAnyH_ready (rs := [2]) (by kernel_rfl) (by simp) ?_
    refine AllReadyH.cons rfl (fun K hK => ?_) AllReadyH.nil
    go_simp
    (go_at_call 60; refine (codeError_any ao S cap hn (some ac) C capc hnc _ (hS.below (by go_grown)) (hC.below (by go_grown))).mono ?_)
    rintro e w1 ⟨rfl, hb1⟩
    have B1 : Below w.heap.size w w1 := Below.trans (by go_grown) (hb1.mono (by simp; try omega))
    have k1 : w1.cell? ⟨w.heap.size, 0, none⟩ = some (.slice ao S.length cap) := kept_cell hb1 (by simp) (by simp; try omega)
    have l1 : w.heap.size < w1.heap.size := lt_of_below hb1 (by simp; try omega)
    refine hK.out _ _ (k1) (fun hHeld => ?_)
    clear hK K
    (try simp only [Act.put, List.setIfInBounds_toArray, List.set_cons_zero, List.set_cons_succ])
    refine wpAnyH_ready (rs := [6]) (by kernel_rfl) (by simp) ?_
    refine AllReadyH.cons rfl (fun K hK => ?_) AllReadyH.nil
    go_simp
    (go_at_call 105; refine (wordsError_n ao S cap hn _ [x] 1 _ rfl (by omega) _ (hS.below B1) ((hxi.below (Below.refl _ _).drew).below hb1)).mono ?_)
    rintro e w2 ⟨rfl, hb2⟩
    have hq : Below w1.heap.size w1 w2 := hb2
    have k2 := kept_cell hq k1 l1
    have l2 := lt_of_below hq l1
    have B2 := B1.trans (hq.mono B1.size)
    refine hK.out _ _ (k2) (fun hHeld => ?_)
    clear hK K
    (try simp only [Act.put, List.setIfInBounds_toArray, List.set_cons_zero, List.set_cons_succ])
    refine wpAnyH_ready (rs := [7]) (by kernel_rfl) (by simp) ?_
    refine AllReadyH.cons rfl (fun K hK => ?_) AllReadyH.nil
    go_simp
    refine hK.out _ _ (kept_cell ((Below.refl w2.heap.size w2).alloc (Nat.le_refl _) _) k2 l2) (fun hHeld => ?_)
    clear hK K
    (try simp only [Act.put, List.setIfInBounds_toArray, List.set_cons_zero, List.set_cons_succ])
    refine wpAnyH_ready (rs := [8]) (by kernel_rfl) (by simp) ?_
    refine AllReadyH.cons rfl (fun K hK => ?_) AllReadyH.nil
    go_simp
    (go_at_call 89; refine (cmpOr2 _ (eCode S C) (eWords S [x]) _ _ (ints_new2 _ _ _ _ rfl)).mono ?_)
    rintro e w3 ⟨rfl, rfl⟩
    rw [HE.out]
    refine hK.out _ _ (kept_cell ((Below.refl w2.heap.size w2).alloc (Nat.le_refl _) _) k2 l2) (fun hHeld => ?_)
    clear hK K
    (try simp only [Act.put, List.setIfInBounds_toArray, List.set_cons_zero, List.set_cons_succ])
    refine wpAnyH_take (i := 9) (v := ?_) rfl (by kernel_rfl) (by kernel_rfl) (by kernel_rfl) (fun _ _ _ h => h) (Or.inl ⟨by rfl, ?_⟩) (by assumption) ?_
    rotate_left
    · (intro w hSw; (try dsimp only at hSw); go_simp; try (with_reducible rfl))
    (try simp only [Act.put, List.setIfInBounds_toArray, List.set_cons_zero, List.set_cons_succ])
    refine wpAnyH_done (by kernel_rfl) ?_ _
    simp only [List.getElem_toArray, List.getElem_cons_succ, List.getElem_cons_zero, Act.put, List.setIfInBounds_toArray, List.set_cons_zero, List.set_cons_succ]
    have B3 := B2.alloc B2.size (.cells #[.int .i64 (eCode S C), .int .i64 (eWords S [x])] 2)
    have k3 := kept_cell ((Below.refl w2.heap.size w2).alloc (Nat.le_refl _) (.cells #[.int .i64 (eCode S C), .int .i64 (eWords S [x])] 2)) k2 l2
    have l3 : w.heap.size < (w2.alloc (.cells #[.int .i64 (eCode S C), .int .i64 (eWords S [x])] 2)).heap.size := by simp; omega
    obtain ⟨W3, hW3⟩ : ∃ W3, W3 = w2.alloc (.cells #[.int .i64 (eCode S C), .int .i64 (eWords S [x])] 2) := ⟨_, rfl⟩
    rw [← hW3] at B3 k3 l3 ⊢
    clear hW3 hb1 hb2 hq k1 k2 l1 l2 B1 B2
    go_wp2_with (at_make; refine wpList_make_full _ rfl _ _ 22 rfl w.heap.size 2 i0 (.int .i64 0) 1 Try.underlying22 hi hz0 hz1 .i64 .i64 _ _ C.length rfl rfl rfl rfl (by rw [hz2]; omega) (by unfold maxLen; omega) (by omega) ?_; intro w4 hown hgrow)
    have hb34 := below_grown0 hgrow
    have B4 := B3.trans (hb34.mono (by omega))
    replace k3 := kept_cell hb34 k3 l3
    have l4 := lt_of_below hb34 l3
    replace hown := own_made hown
    have g1 : w.heap.size ≠ W3.heap.size := by omega
    clear hgrow hb34 B3 l3
    go_loopw [29] (fun i wr => ∃ (k : Nat) (D : List Int), k ≤ C.length ∧ i = .int .i64 k ∧ OwnInts wr w.heap.size (.slice (some ⟨W3.heap.size, 0, none⟩) C.length C.length) D ∧ Hid (D.length = C.length ∧ ∀ j, j < k → gi D j = sumW S (gi C j) x) ∧ wr.cell? ⟨w.heap.size, 0, none⟩ = some (.slice ao S.length cap) ∧ w.heap.size < wr.heap.size ∧ Below w.heap.size w wr) (fun i _ => C.length - (intOf i).toNat)
    case atStart => exact ⟨0, _, Nat.zero_le _, rfl, hown, Lib.hid ⟨by simp, fun j h => by omega⟩, k3, l4, B4⟩
    case round =>
      clear hown k3 l4 B4
      obtain ⟨k, D, hk, rfl, own, HD, c, l, B⟩ := hrel
      by_cases hlt : k < C.length
      · obtain ⟨b, o, he, hbl, hc⟩ := hC.at hlt
        obtain rfl : ac = ⟨b, o, none⟩ := by simpa using he
        have hck := kept_cell B (hc k hlt) hbl
        obtain ⟨u1, u2⟩ := HC.out k hlt
        have hs := B.size
        clear hc he
        go_wp2_with fail
        refine (sumOfWords_any ao S cap HSp.out (gi C k) x u1 u2 hx9.1 hx9.2 _ (hS.below B)).mono ?_
        rintro e w5 ⟨rfl, hb5⟩
        replace c := kept_cell hb5 c l
        replace l := lt_of_below hb5 l
        replace own := own.below hb5
        replace B := B.trans (hb5.mono hs)
        have hcs := own.cell (k := k) (by rw [HD.out.1]; exact hlt)
        have hfs := own.free k
        have hb3 := own.base_le
        clear hb5 hck hs
        go_wp2_with fail
        go_roundw
        case rel =>
          refine ⟨k + 1, D.set k (sumW S (gi C k) x), by omega, by go_num, own.stored k _, Lib.hid ⟨by rw [List.length_set]; exact HD.out.1, fun j hj => ?_⟩, cell_set_other c (by simpa using g1), by simpa using l, B.setCell (by simp; omega) _⟩
          rw [gi_set _ _ _ _ (by rw [HD.out.1]; exact hlt)]
          by_cases e : j = k
          · rw [if_pos e, e]
          · rw [if_neg e]; exact HD.out.2 j (by omega)
        case measure => simp [intOf]; omega
      · have ek : Hid (k = C.length) := Lib.hid (by omega)
        have HL : Hid (D = sumsL S C x) := Lib.hid (by
          refine ext_gi (by rw [HD.out.1]; simp [sumsL]) fun j hj => ?_
          rw [HD.out.1] at hj
          rw [HD.out.2 j (by rw [ek.out]; exact hj)]
          simp [sumsL, gi, hj])
        have hlen : C.length = D.length := HD.out.1.symm
        have hst := sort_any w.heap.size W3.heap.size C.length D wr (by omega) (by rw [← hlen]; exact own)
        rw [← hlen] at hst
        have hs := B.size
        clear hlen
        go_wp2_with fail
        refine hst.mono ?_
        rintro e w5 ⟨rfl, own5, hg5⟩
        go_wp2_with fail
        go_ret2
        exact ⟨_, by rw [HZ.out]; rfl, by rw [HV.out, ← HL.out]; exact own5, B.trans (below_of_grown hg5 own5.base_le.1 hs)⟩
  · have hzn : (eShift S C x != 0) = true := by simpa using hz
    have HV : Hid (vShift S C x = []) := Lib.hid (by unfold vShift; rw [if_neg hz])
    obtain ⟨E, hE⟩ : ∃ E, E = eShift S C x := ⟨_, rfl⟩
    have HE : Hid (orI (eCode S C) (eWords S [x]) = E) := Lib.hid (by rw [hE]; rfl)
    rw [← hE] at hzn ⊢
    clear hz hE
    go_enter Try.func81, Try.ntmps81
    go_wp2_with fail
    refine wp_region_held_drew (S := fun w' => w'.cell? ⟨w.heap.size, 0, none⟩ = some (.slice ao S.length cap)) (by kernel_rfl) c0 (fun hHeld => ?_)
    refine wpAnyH_take (i := 0) (v := ?_) rfl (by kernel_rfl) (by kernel_rfl) (by kernel_rfl) (fun _ _ _ h => h) (Or.inl ⟨by rfl, ?_⟩) (by assumption) ?_
    rotate_left
    · (intro w hSw; (try dsimp only at hSw); go_simp; try (with_reducible rfl))
    (try simp only [Act.put, List.setIfInBounds_toArray, List.set_cons_zero, List.set_cons_succ])
    refine wpAnyH_take (i := 1) (v := ?_) rfl (by kernel_rfl) (by kernel_rfl) (by kernel_rfl) (fun _ _ _ h => h) (Or.inl ⟨by rfl, ?_⟩) (by assumption) ?_
    rotate_left
    · (intro w hSw; (try dsimp only at hSw); go_simp; try (with_reducible rfl))
    (try simp only [Act.put, List.setIfInBounds_toArray, List.set_cons_zero, List.set_cons_succ])
    refine wpAnyH_take (i := 3) (v := ?_) rfl (by kernel_rfl) (by kernel_rfl) (by kernel_rfl) (fun _ _ _ h => h) (Or.inl ⟨by rfl, ?_⟩) (by assumption) ?_
    rotate_left
    · (intro w hSw; (try dsimp only at hSw); go_simp; try (with_reducible rfl))
    (try simp only [Act.put, List.setIfInBounds_toArray, List.set_cons_zero, List.set_cons_succ])
    refine wpAnyH_take (i := 4) (v := ?_) rfl (by kernel_rfl) (by kernel_rfl) (by kernel_rfl) (fun _ _ _ h => h) (Or.inl ⟨by rfl, ?_⟩) (by assumption) ?_
    rotate_left
    · (intro w hSw; (try dsimp only at hSw); go_simp; try (with_reducible rfl))
    (try simp only [Act.put, List.setIfInBounds_toArray, List.set_cons_zero, List.set_cons_succ])
    refine wpAnyH_ready (rs := [2, 5]) (by kernel_rfl) (by simp) ?_
    refine AllReadyH.cons rfl (fun K hK => ?_) ?_
    · go_simp
      (go_at_call 60; refine (codeError_any ao S cap hn (some ac) C capc hnc _ (hS.below (by go_grown)) (hC.below (by go_grown))).mono ?_)
      rintro e w1 ⟨rfl, hb1⟩
      have B1 : Below w.heap.size w w1 := Below.trans (by go_grown) (hb1.mono (by simp; try omega))
      have k1 : w1.cell? ⟨w.heap.size, 0, none⟩ = some (.slice ao S.length cap) := kept_cell hb1 (by simp) (by simp; try omega)
      have l1 : w.heap.size < w1.heap.size := lt_of_below hb1 (by simp; try omega)
      refine hK.out _ _ (k1) (fun hHeld => ?_)
      clear hK K
      (try simp only [Act.put, List.setIfInBounds_toArray, List.set_cons_zero, List.set_cons_succ])
      refine wpAnyH_ready (rs := [5]) (by kernel_rfl) (by simp) ?_
      refine AllReadyH.cons rfl (fun K hK => ?_) AllReadyH.nil
      go_simp
      refine hK.out _ _ (kept_cell ((Below.refl w1.heap.size w1).alloc (Nat.le_refl _) _) k1 l1) (fun hHeld => ?_)
      clear hK K
      (try simp only [Act.put, List.setIfInBounds_toArray, List.set_cons_zero, List.set_cons_succ])
      refine wpAnyH_ready (rs := [6]) (by kernel_rfl) (by simp) ?_
      refine AllReadyH.cons rfl (fun K hK => ?_) AllReadyH.nil
      go_simp
      (go_at_call 105; refine (wordsError_n ao S cap hn _ [x] 1 _ rfl (by omega) _ (hS.below (B1.alloc B1.size _)) (ints_new1 _ x _ rfl)).mono ?_)
      rintro e w2 ⟨rfl, hb2⟩
      have hq : Below w1.heap.size w1 w2 := Below.trans ((Below.refl _ w1).alloc (Nat.le_refl _) _) (hb2.mono (by simp))
      have k2 := kept_cell hq k1 l1
      have l2 := lt_of_below hq l1
      have B2 := B1.trans (hq.mono B1.size)
      refine hK.out _ _ (k2) (fun hHeld => ?_)
      clear hK K
      (try simp only [Act.put, List.setIfInBounds_toArray, List.set_cons_zero, List.set_cons_succ])
      refine wpAnyH_ready (rs := [7]) (by kernel_rfl) (by simp) ?_
      refine AllReadyH.cons rfl (fun K hK => ?_) AllReadyH.nil
      go_simp
      refine hK.out _ _ (kept_cell ((Below.refl w2.heap.size w2).alloc (Nat.le_refl _) _) k2 l2) (fun hHeld => ?_)
      clear hK K
      (try simp only [Act.put, List.setIfInBounds_toArray, List.set_cons_zero, List.set_cons_succ])
      refine wpAnyH_ready (rs := [8]) (by kernel_rfl) (by simp) ?_
      refine AllReadyH.cons rfl (fun K hK => ?_) AllReadyH.nil
      go_simp
      (go_at_call 89; refine (cmpOr2 _ (eCode S C) (eWords S [x]) _ _ (ints_new2 _ _ _ _ rfl)).mono ?_)
      rintro e w3 ⟨rfl, rfl⟩
      rw [HE.out]
      refine hK.out _ _ (kept_cell ((Below.refl w2.heap.size w2).alloc (Nat.le_refl _) _) k2 l2) (fun hHeld => ?_)
      clear hK K
      (try simp only [Act.put, List.setIfInBounds_toArray, List.set_cons_zero, List.set_cons_succ])
      refine wpAnyH_take (i := 9) (v := ?_) rfl (by kernel_rfl) (by kernel_rfl) (by kernel_rfl) (fun _ _ _ h => h) (Or.inl ⟨by rfl, ?_⟩) (by assumption) ?_
      rotate_left
      · (intro w hSw; (try dsimp only at hSw); go_simp; try (with_reducible rfl))
      (try simp only [Act.put, List.setIfInBounds_toArray, List.set_cons_zero, List.set_cons_succ])
      refine wpAnyH_done (by kernel_rfl) ?_ _
      simp only [List.getElem_toArray, List.getElem_cons_succ, List.getElem_cons_zero, Act.put, List.setIfInBounds_toArray, List.set_cons_zero, List.set_cons_succ]
      go_wp2_with fail
      go_ret2
      exact ⟨_, rfl, by rw [HV.out]; exact own_nil _ _, B2.alloc B2.size _⟩
    refine AllReadyH.cons rfl (fun K hK => ?_) AllReadyH.nil
    go_simp
    refine hK.out _ _ (by first | (simp; done) | exact kept_cell (by go_grown) c0 l0) (fun hHeld => ?_)
    clear hK K
    (try simp only [Act.put, List.setIfInBounds_toArray, List.set_cons_zero, List.set_cons_succ])
    have hxi := ints_new1 (w.alloc (.cells #[.slice ao S.length cap] 26)) x 2 (n := w.heap.size + 1) (by simp)
    refine wpAnyH_ready (rs := [2]) (by kernel_rfl) (by simp) ?_
    refine AllReadyH.cons rfl (fun K hK => ?_) AllReadyH.nil
    go_simp
    (go_at_call 60; refine (codeError_any ao S cap hn (some ac) C capc hnc _ (hS.below (by go_grown)) (hC.below (by go_grown))).mono ?_)
    rintro e w1 ⟨rfl, hb1⟩
    have B1 : Below w.heap.size w w1 := Below.trans (by go_grown) (hb1.mono (by simp; try omega))
    have k1 : w1.cell? ⟨w.heap.size, 0, none⟩ = some (.slice ao S.length cap) := kept_cell hb1 (by simp) (by simp; try omega)
    have l1 : w.heap.size < w1.heap.size := lt_of_below hb1 (by simp; try omega)
    refine hK.out _ _ (k1) (fun hHeld => ?_)
    clear hK K
    (try simp only [Act.put, List.setIfInBounds_toArray, List.set_cons_zero, List.set_cons_succ])
    refine wpAnyH_ready (rs := [6]) (by kernel_rfl) (by simp) ?_
    refine AllReadyH.cons rfl (fun K hK => ?_) AllReadyH.nil
    go_simp
    (go_at_call 105; refine (wordsError_n ao S cap hn _ [x] 1 _ rfl (by omega) _ (hS.below B1) ((hxi.below (Below.refl _ _).drew).below hb1)).mono ?_)
    rintro e w2 ⟨rfl, hb2⟩
    have hq : Below w1.heap.size w1 w2 := hb2
    have k2 := kept_cell hq k1 l1
    have l2 := lt_of_below hq l1
    have B2 := B1.trans (hq.mono B1.size)
    refine hK.out _ _ (k2) (fun hHeld => ?_)
    clear hK K
    (try simp only [Act.put, List.setIfInBounds_toArray, List.set_cons_zero, List.set_cons_succ])
    refine wpAnyH_ready (rs := [7]) (by kernel_rfl) (by simp) ?_
    refine AllReadyH.cons rfl (fun K hK => ?_) AllReadyH.nil
    go_simp
    refine hK.out _ _ (kept_cell ((Below.refl w2.heap.size w2).alloc (Nat.le_refl _) _) k2 l2) (fun hHeld => ?_)
    clear hK K
    (try simp only [Act.put, List.setIfInBounds_toArray, List.set_cons_zero, List.set_cons_succ])
    refine wpAnyH_ready (rs := [8]) (by kernel_rfl) (by simp) ?_
    refine AllReadyH.cons rfl (fun K hK => ?_) AllReadyH.nil
    go_simp
    (go_at_call 89; refine (cmpOr2 _ (eCode S C) (eWords S [x]) _ _ (ints_new2 _ _ _ _ rfl)).mono ?_)
    rintro e w3 ⟨rfl, rfl⟩
    rw [HE.out]
    refine hK.out _ _ (kept_cell ((Below.refl w2.heap.size w2).alloc (Nat.le_refl _) _) k2 l2) (fun hHeld => ?_)
    clear hK K
    (try simp only [Act.put, List.setIfInBounds_toArray, List.set_cons_zero, List.set_cons_succ])
    refine wpAnyH_take (i := 9) (v := ?_) rfl (by kernel_rfl) (by kernel_rfl) (by kernel_rfl) (fun _ _ _ h => h) (Or.inl ⟨by rfl, ?_⟩) (by assumption) ?_
    rotate_left
    · (intro w hSw; (try dsimp only at hSw); go_simp; try (with_reducible rfl))
    (try simp only [Act.put, List.setIfInBounds_toArray, List.set_cons_zero, List.set_cons_succ])
    refine wpAnyH_done (by kernel_rfl) ?_ _
    simp only [List.getElem_toArray, List.getElem_cons_succ, List.getElem_cons_zero, Act.put, List.setIfInBounds_toArray, List.set_cons_zero, List.set_cons_succ]
    go_wp2_with fail
    go_ret2
    exact ⟨_, rfl, by rw [HV.out]; exact own_nil _ _, B2.alloc B2.size _⟩

end Go.Proofs.Ytcbkmmadejbbpaa
