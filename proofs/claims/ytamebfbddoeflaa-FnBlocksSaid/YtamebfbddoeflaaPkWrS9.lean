/-
  The contracts of the words that columns reach, in the model. By an AI agent.
-/
import Derived.Test.YtamebfbddoeflaaPk31
import Derived.Test.YtamebfbddoeflaaPkLed9
import Derived.Test.YtamebfbddoeflaaPkPut
import Derived.Test.YtamebfbddoeflaaPkSums
import Derived.Test.YtamebfbddoeflaaPkWords
namespace Go.Proofs.Ytamebfbddoeflaa
open Go.RowKit Cv
set_option linter.unusedVariables false
set_option linter.unusedSimpArgs false
set_option maxRecDepth 100000

theorem own_stored_other {w : World} {base : Nat} {v : Value} {T : List Int} (h : OwnInts w base v T) {g : Nat} (hne : v.ownBlock = none ∨ v.ownBlock ≠ some g) (k : Nat) (u : Value) : OwnInts (w.setCell ⟨g, k, none⟩ u) base v T :=
  h.kept (grown_setCell (World.grownBy.refl w (some g)) k u) hne

set_option maxHeartbeats 4000000 in
theorem l09Reached_any (ao : Option Addr) (S : List Int) (cap : Nat) (hP : Pl S) (ac : Option Addr) (C : List Int) (capc : Nat) (hz : eCode S C = 0) (at' : Option Addr) (T : List Int) (capt : Nat) (hnt : T.length ≤ 8) (hT : ∀ i, i < T.length → Wd S (gi T i)) (N : Nat) (hN : Hid (nW S = (N : Int))) (w : World) (hS : Ints w ao S) (hC : Ints w ac C) (hTi : Ints w at' T) :
    Calls Try.prog 32 #[.agg #[.slice ao S.length cap], .slice ac C.length capc, .slice at' T.length capt] w fun e w' => ∃ v, e = .returned v ∧ OwnInts w' w.heap.size v (tbZ (rdC S C T T.length) N) ∧ Below w.heap.size w w' := by
  obtain ⟨i0, hi', hz0, hz1, hz2⟩ := info_parts infoI64
  have HP := Lib.hid hP
  have HSp := Lib.hid hP.sp
  have HT := Lib.hid hT
  have hNb := nW_bd hP.sp
  rw [hN.out] at hNb
  have N1 : 1 ≤ N := by omega
  have N2 : N ≤ 1024 := by omega
  obtain ⟨_, hc1, _⟩ := eCode_zero hz
  have hcl := code_len0 hz
  rw [hN.out] at hc1
  have HC1 := Lib.hid hc1
  have HNt : Hid ((nW S).toNat = N) := Lib.hid (by rw [hN.out]; rfl)
  obtain ⟨Q, hQ⟩ : ∃ Q : Nat, gi S 0 = (Q : Int) := ⟨(gi S 0).toNat, by have := hP.q; omega⟩
  have hQ2 : 2 ≤ Q ∧ Q ≤ 3 := by have := hP.q; omega
  obtain ⟨Q1, Q3⟩ := hQ2
  have HQn : Hid (qN S + 1 = Q) := Lib.hid (by unfold qN; rw [hQ]; omega)
  have hlo := hP.sp.lo
  have hhi := hP.sp.hi
  have HQ := Lib.hid hQ
  have B0 : Below w.heap.size w (w.alloc (.cells #[.slice ao S.length cap] 26)) := by go_grown
  have c0 := cell_new w (.slice ao S.length cap) 26
  have l0 := lt_alloc w (.cells #[.slice ao S.length cap] 26)
  clear hP hT hNb hc1 hz hQ
  go_enter Try.func32, Try.ntmps32
  go_wp2_with fail
  refine (l01N_natz ao S cap N hN _ HSp.out (hS.below B0)).mono ?_
  rintro e w1 ⟨rfl, hb⟩
  have c1 := kept_cell hb c0 l0
  have l1 := lt_of_below hb l0
  have B1 := B0.trans (hb.mono B0.size)
  clear hb c0 l0 B0
  go_wp2_with (at_make; refine wpList_make_full _ rfl _ _ 24 rfl w1.heap.size 2 i0 (.int .i64 0) 1 Try.underlying24 hi' hz0 hz1 .i64 .i64 _ _ N rfl rfl rfl rfl (by rw [hz2]; omega) (by unfold maxLen; omega) (Nat.le_refl _) ?_; intro w2 hown hgrow)
  have hb2 := below_grown0 hgrow
  have c2 := kept_cell hb2 c1 l1
  have l2 := lt_of_below hb2 l1
  have B2 : Below w.heap.size w w2 := B1.trans (hb2.mono B1.size)
  replace hown := (own_made hown).rebase (base' := w.heap.size + 1) (by omega)
  have g1 : w.heap.size < w1.heap.size := l1
  clear hgrow hb2 B1 c1 l1
  go_loopw [20] (fun i wr => ∃ (k : Nat) (L : List Int), k ≤ N ∧ i = .int .i64 k ∧ OwnInts wr (w.heap.size + 1) (.slice (some ⟨w1.heap.size, 0, none⟩) N N) L ∧ Hid (L.length = N ∧ ∀ m, m < k → gi L m = -1) ∧ wr.cell? ⟨w.heap.size, 0, none⟩ = some (.slice ao S.length cap) ∧ w.heap.size < wr.heap.size ∧ Below w.heap.size w wr) (fun i _ => N - (intOf i).toNat)
  case atStart => exact ⟨0, List.replicate N 0, Nat.zero_le _, rfl, hown, Lib.hid ⟨by simp, fun m h => by omega⟩, c2, l2, B2⟩
  case round =>
    clear hown c2 l2 B2
    obtain ⟨k, L, hk, rfl, hown, HL, c, l, B⟩ := hrel
    by_cases hlt : k < N
    · have hcell := hown.cell (k := k) (by rw [HL.out.1]; exact hlt)
      have hfree := hown.free k
      have hgb := hown.base_le
      go_wp2_with fail
      go_roundw
      case rel =>
        refine ⟨k + 1, _, by omega, by go_num, hown.stored k _, Lib.hid ⟨by rw [List.length_set]; exact HL.out.1, fun m hm => ?_⟩, cell_set_other c (by simp; omega), by simpa using l, B.setCell (by simp; omega) _⟩
        rw [gi_set _ _ _ _ (by rw [HL.out.1]; exact hlt)]
        by_cases e : m = k
        · rw [if_pos e]
        · rw [if_neg e]; exact HL.out.2 m (by omega)
      case measure => simp [intOf]; omega
    · have hL0 : L = tbZ (st0F C 0) N := by
        refine tbZ_eq HL.out.1 fun u hu => ?_
        rw [st0F_0, HL.out.2 u (by omega)]
      rw [hL0] at hown
      clear hL0
      go_wp2_with fail
      go_loopw [29] (fun i wr => ∃ k : Nat, k ≤ C.length ∧ i = .int .i64 k ∧ OwnInts wr (w.heap.size + 1) (.slice (some ⟨w1.heap.size, 0, none⟩) N N) (tbZ (st0F C k) N) ∧ wr.cell? ⟨w.heap.size, 0, none⟩ = some (.slice ao S.length cap) ∧ w.heap.size < wr.heap.size ∧ Below w.heap.size w wr) (fun i _ => C.length - (intOf i).toNat)
      case atStart => exact ⟨0, Nat.zero_le _, rfl, hown, c, l, B⟩
      case round =>
        clear hown c l B HL
        obtain ⟨k, hk, rfl, hown, c, l, B⟩ := hrel
        by_cases hlc : k < C.length
        · obtain ⟨b, o, rfl, hbl, hc⟩ := hC.at hlc
          have hck := kept_cell B (hc k hlc) hbl
          obtain ⟨t1, t2⟩ := HC1.out k hlc
          obtain ⟨t, ht⟩ : ∃ t : Nat, gi C k = (t : Int) := ⟨_, (Int.toNat_of_nonneg t1).symm⟩
          rw [ht] at hck t1 t2
          have ht2 : t < N := by omega
          have hcell := hown.cell (k := t) (by rw [tbZ_len]; exact ht2)
          have hfree := hown.free t
          have HS := Lib.hid (st0F_set C N k t hlc ht2 ht)
          have hgb := hown.base_le
          clear hc ht
          go_wp2_with fail
          go_roundw
          case rel => exact ⟨k + 1, by omega, by go_num, by rw [← HS.out]; exact hown.stored t _, cell_set_other c (by simp; omega), by simpa using l, B.setCell (by simp; omega) _⟩
          case measure => simp [intOf]; omega
        · have hk1 : k = C.length := by omega
          rw [hk1, st0F_all C T S] at hown
          clear hk1
          go_wp2_with fail
          go_loopw [7, 41] (fun v i wr => ∃ (k g kv : Nat), k ≤ T.length ∧ i = .int .i64 k ∧ v = .slice (some ⟨g, 0, none⟩) N kv ∧ OwnInts wr (w.heap.size + 1) (.slice (some ⟨g, 0, none⟩) N kv) (tbZ (rdC S C T k) N) ∧ wr.cell? ⟨w.heap.size, 0, none⟩ = some (.slice ao S.length cap) ∧ w.heap.size < wr.heap.size ∧ Below w.heap.size w wr) (fun _ i _ => T.length - (intOf i).toNat)
          case atStart => exact ⟨0, _, _, Nat.zero_le _, rfl, rfl, hown, c, l, B⟩
          case round =>
            clear hown c l B
            obtain ⟨kc, g, kv, hkc, rfl, rfl, hown, c, l, B⟩ := hrel
            by_cases hltc : kc < T.length
            · obtain ⟨cb, co, rfl, hcbl, hcc⟩ := hTi.at hltc
              have hcx0 := hcc kc hltc
              have hxw := HT.out kc hltc
              have HBD := Lib.hid (rdC_bd S C T kc)
              have HNX : Hid (rdK S (gi T kc) (rdC S C T kc) N = rdC S C T (kc + 1)) := Lib.hid (by rw [rdC, HNt.out])
              obtain ⟨x, hx⟩ : ∃ x, x = gi T kc := ⟨_, rfl⟩
              rw [← hx] at hcx0 hxw HNX
              obtain ⟨L, hL⟩ : ∃ L, L = rdC S C T kc := ⟨_, rfl⟩
              rw [← hL] at hown HBD HNX
              have hxw2 := hxw
              unfold Wd at hxw2
              rw [hN.out] at hxw2
              obtain ⟨x1, x2⟩ := hxw2
              have hlen := tbZ_len L N
              have hg0 := hown.base_le
              clear hcc hx hL
              go_wp2_with fail
              refine (l01Own_any _ (tbZ L N) N kv hlen.symm (by omega) _ (own_ints hown)).mono ?_
              rintro e w3 ⟨g2, c2, rfl, own2, hb3⟩
              have own1 := hown.below hb3
              have cB := kept_cell hb3 c l
              have lB := lt_of_below hb3 l
              have B3 := B.trans (hb3.mono B.size)
              have hg2 := own2.base_le
              have n1 : g < g2 := by omega
              have n2 : w.heap.size < g2 := by omega
              replace own2 := own2.rebase (base' := w.heap.size + 1) (by omega)
              have HLn := Lib.hid hlen
              clear hb3 hown c l B hg0 hg2 hlen
              go_wp2_with fail
              go_loopw [48] (fun i wr => ∃ k : Nat, k ≤ N ∧ i = .int .i64 k ∧ OwnInts wr (w.heap.size + 1) (.slice (some ⟨g, 0, none⟩) N kv) (tbZ L N) ∧ OwnInts wr (w.heap.size + 1) (.slice (some ⟨g2, 0, none⟩) N c2) (tbZ (rdK S x L k) N) ∧ wr.cell? ⟨w.heap.size, 0, none⟩ = some (.slice ao S.length cap) ∧ w.heap.size < wr.heap.size ∧ Below w.heap.size w wr) (fun i _ => N - (intOf i).toNat)
              case atStart => exact ⟨0, Nat.zero_le _, rfl, own1, own2, cB, lB, B3⟩
              case round =>
                clear own1 own2 cB lB B3
                obtain ⟨k, hk, rfl, own1, own2, cB, lB, B⟩ := hrel
                by_cases hltk : k < N
                · have hck := own1.cell (k := k) (by rw [tbZ_len]; exact hltk)
                  rw [gi_tbZ _ _ _ hltk] at hck
                  have hbk := HBD.out k
                  have hkb2 : (k : Int) ≤ 1024 := by omega
                  obtain ⟨a, ha⟩ : ∃ a, a = L k := ⟨_, rfl⟩
                  rw [← ha] at hck hbk
                  obtain ⟨a1, a2⟩ := hbk
                  by_cases hneg : a < 0
                  · have HE : Hid (rdK S x L k = rdK S x L (k + 1)) := Lib.hid (rdK_neg S x L k (by rw [← ha]; exact hneg))
                    clear ha
                    go_wp2_with fail
                    go_roundw
                    case rel => exact ⟨k + 1, by omega, by go_num, own1, by rw [← HE.out]; exact own2, cB, lB, B⟩
                    case measure => simp [intOf]; omega
                  · have HE : Hid (rdJ S x a k (rdK S x L k) (qN S) = rdK S x L (k + 1)) := Lib.hid (by rw [ha]; exact rdK_all S x L k (by rw [← ha]; exact hneg))
                    have HFB := Lib.hid (fun J => rdJ_bd (S := S) (c := x) (a := a) (w := k) (rdK_bd (S := S) (c := x) HBD.out k) (by omega) J)
                    have HKW : Hid (Wd S (k : Int)) := Lib.hid ⟨by omega, by rw [hN.out]; omega⟩
                    have HAK := Lib.hid ha
                    have hJ0 : tbZ (rdK S x L k) N = tbZ (rdJ S x a k (rdK S x L k) 0) N := rfl
                    rw [hJ0] at own2
                    clear ha hJ0
                    go_wp2_with fail
                    go_loopw [13, 14] (fun to mm wr => ∃ j : Nat, j + 1 ≤ Q ∧ mm = .int .i64 ((j : Int) + 1) ∧ to = .int .i64 (rtW S (k : Int) x j) ∧ OwnInts wr (w.heap.size + 1) (.slice (some ⟨g, 0, none⟩) N kv) (tbZ L N) ∧ OwnInts wr (w.heap.size + 1) (.slice (some ⟨g2, 0, none⟩) N c2) (tbZ (rdJ S x a k (rdK S x L k) j) N) ∧ wr.cell? ⟨w.heap.size, 0, none⟩ = some (.slice ao S.length cap) ∧ w.heap.size < wr.heap.size ∧ Below w.heap.size w wr) (fun _ mm _ => Q - (intOf mm).toNat)
                    case atStart => exact ⟨0, by omega, rfl, rfl, own1, own2, cB, lB, B⟩
                    case round =>
                      clear own1 own2 cB lB B hck
                      obtain ⟨j, hj, rfl, rfl, own1, own2, cB, lB, B⟩ := hrel
                      obtain ⟨sb, so, rfl, hsbl, hsc⟩ := hS.at (i := 0) (by omega)
                      have hs0 := kept_cell B (hsc 0 (by omega)) hsbl
                      rw [Nat.add_zero, HQ.out] at hs0
                      clear hsc
                      by_cases hjq : j + 1 < Q
                      · have hyw := rtW_wd HSp.out HKW.out x j
                        unfold Wd at hyw
                        rw [hN.out] at hyw
                        obtain ⟨y1, y2⟩ := hyw
                        have hnx := rtW_step HSp.out (k : Int) x j
                        have hnw := rtW_wd HSp.out HKW.out x (j + 1)
                        unfold Wd at hnw
                        rw [hN.out] at hnw
                        obtain ⟨t, ht⟩ : ∃ t : Nat, rtW S (k : Int) x (j + 1) = (t : Int) := ⟨_, (Int.toNat_of_nonneg hnw.1).symm⟩
                        have HRT := Lib.hid ht
                        rw [ht] at hnw hnx
                        have t2 : t < N := by omega
                        have HTS : Hid ((sumW S (k : Int) (mulW S x j)).toNat = t) := Lib.hid (by have e : sumW S (k : Int) (mulW S x j) = (t : Int) := ht; rw [e]; rfl)
                        have HUP : Hid (rdJ S x a k (rdK S x L k) (j + 1) = updF (rdJ S x a k (rdK S x L k) j) t (a + 1)) := Lib.hid (by rw [rdJ, HTS.out])
                        have hfb := HFB.out j t
                        obtain ⟨y, hy⟩ : ∃ y, y = rtW S (k : Int) x j := ⟨_, rfl⟩
                        rw [← hy] at y1 y2 hnx ⊢
                        have HY := Lib.hid hnx
                        obtain ⟨f, hf⟩ : ∃ f, f = rdJ S x a k (rdK S x L k) j := ⟨_, rfl⟩
                        rw [← hf] at own2 HUP hfb
                        obtain ⟨z, hzz⟩ : ∃ z, z = f t := ⟨_, rfl⟩
                        rw [← hzz] at hfb
                        have HZZ := Lib.hid hzz
                        obtain ⟨z1, z2⟩ := hfb
                        have i1 : (j : Int) + 1 < (Q : Int) := by omega
                        have i2 : (0 : Int) ≤ (t : Int) := by omega
                        have i3 : (t : Int) < (N : Int) := by omega
                        have i4 : (0 : Int) ≤ (k : Int) := by omega
                        have i5 : (k : Int) < (N : Int) := by omega
                        have i6 : (0 : Int) ≤ (kc : Int) := by omega
                        have i7 : (kc : Int) < (T.length : Int) := by omega
                        have hcx := kept_cell B hcx0 hcbl
                        have hcl2 := lt_of_below B hcbl
                        have hcl := hcl2
                        clear hy hf hzz hnx ht hnw
                        go_wp2_with fail
                        refine wp_region_held_drew (S := fun w' => w'.cell? ⟨w.heap.size, 0, none⟩ = some (.slice (some ⟨sb, so, none⟩) S.length cap) ∧ w'.cell? ⟨cb, co + kc, none⟩ = some (.int .i64 x)) (by kernel_rfl) (⟨cB, hcx⟩) (fun hHeld => ?_)
                        refine wpAnyH_take (i := 0) (v := ?_) rfl (by kernel_rfl) (by kernel_rfl) (by kernel_rfl) (fun _ _ _ h => h) (Or.inl ⟨by rfl, ?_⟩) (by assumption) ?_
                        rotate_left
                        · (intro w hSw; obtain ⟨hSw0, hSw1⟩ := hSw; (try dsimp only at hSw0 hSw1); go_simp; try (with_reducible rfl))
                        (try simp only [Act.put, List.setIfInBounds_toArray, List.set_cons_zero, List.set_cons_succ, List.getElem_toArray, List.getElem_cons_succ, List.getElem_cons_zero])
                        refine wpAnyH_take (i := 1) (v := ?_) rfl (by kernel_rfl) (by kernel_rfl) (by kernel_rfl) (fun _ _ _ h => h) (Or.inl ⟨by rfl, ?_⟩) (by assumption) ?_
                        rotate_left
                        · (intro w hSw; obtain ⟨hSw0, hSw1⟩ := hSw; (try dsimp only at hSw0 hSw1); go_simp; try (with_reducible rfl))
                        (try simp only [Act.put, List.setIfInBounds_toArray, List.set_cons_zero, List.set_cons_succ, List.getElem_toArray, List.getElem_cons_succ, List.getElem_cons_zero])
                        refine wpAnyH_take (i := 2) (v := ?_) rfl (by kernel_rfl) (by kernel_rfl) (by kernel_rfl) (fun _ _ _ h => h) (Or.inl ⟨by rfl, ?_⟩) (by assumption) ?_
                        rotate_left
                        · (intro w hSw; obtain ⟨hSw0, hSw1⟩ := hSw; (try dsimp only at hSw0 hSw1); go_simp; try (with_reducible rfl))
                        (try simp only [Act.put, List.setIfInBounds_toArray, List.set_cons_zero, List.set_cons_succ, List.getElem_toArray, List.getElem_cons_succ, List.getElem_cons_zero])
                        refine wpAnyH_take (i := 3) (v := ?_) rfl (by kernel_rfl) (by kernel_rfl) (by kernel_rfl) (fun _ _ _ h => h) (Or.inl ⟨by rfl, ?_⟩) (by assumption) ?_
                        rotate_left
                        · (intro w hSw; obtain ⟨hSw0, hSw1⟩ := hSw; (try dsimp only at hSw0 hSw1); go_simp; try (with_reducible rfl))
                        (try simp only [Act.put, List.setIfInBounds_toArray, List.set_cons_zero, List.set_cons_succ, List.getElem_toArray, List.getElem_cons_succ, List.getElem_cons_zero])
                        refine wpAnyH_take (i := 4) (v := ?_) rfl (by kernel_rfl) (by kernel_rfl) (by kernel_rfl) (fun _ _ _ h => h) (Or.inl ⟨by rfl, ?_⟩) (by assumption) ?_
                        rotate_left
                        · (intro w hSw; obtain ⟨hSw0, hSw1⟩ := hSw; (try dsimp only at hSw0 hSw1); go_simp; try (with_reducible rfl))
                        (try simp only [Act.put, List.setIfInBounds_toArray, List.set_cons_zero, List.set_cons_succ, List.getElem_toArray, List.getElem_cons_succ, List.getElem_cons_zero])
                        refine wpAnyH_take (i := 5) (v := ?_) rfl (by kernel_rfl) (by kernel_rfl) (by kernel_rfl) (fun _ _ _ h => h) (Or.inl ⟨by rfl, ?_⟩) (by assumption) ?_
                        rotate_left
                        · (intro w hSw; obtain ⟨hSw0, hSw1⟩ := hSw; (try dsimp only at hSw0 hSw1); go_simp; try (with_reducible rfl))
                        (try simp only [Act.put, List.setIfInBounds_toArray, List.set_cons_zero, List.set_cons_succ, List.getElem_toArray, List.getElem_cons_succ, List.getElem_cons_zero])
                        refine wpAnyH_ready (rs := [6]) (by kernel_rfl) (by simp) ?_
                        refine AllReadyH.cons rfl (fun K hK => ?_) AllReadyH.nil
                        go_simp
                        (go_at_call 44; refine (l01Sum_any _ S cap HSp.out y x y1 (by omega) x1 (by omega) _ (hS.below (B.trans (Below.mono (Below.refl wr.heap.size wr).drew B.size)))).mono ?_)
                        rintro e x1 ⟨rfl, hb1⟩
                        have H1 : Below wr.heap.size wr x1 := Below.trans (Below.refl wr.heap.size wr).drew (hb1.mono (Below.size (Below.refl wr.heap.size wr).drew))
                        refine hK.out _ _ (⟨kept_cell H1 cB lB, kept_cell H1 hcx hcl⟩) (fun hHeld => ?_)
                        clear hK K
                        (try simp only [Act.put, List.setIfInBounds_toArray, List.set_cons_zero, List.set_cons_succ, List.getElem_toArray, List.getElem_cons_succ, List.getElem_cons_zero])
                        refine wpAnyH_take (i := 7) (v := ?_) rfl (by kernel_rfl) (by kernel_rfl) (by kernel_rfl) (fun _ _ _ h => h) (Or.inl ⟨by rfl, ?_⟩) (by assumption) ?_
                        rotate_left
                        · (intro w hSw; obtain ⟨hSw0, hSw1⟩ := hSw; (try dsimp only at hSw0 hSw1); go_simp; try (with_reducible rfl))
                        (try simp only [Act.put, List.setIfInBounds_toArray, List.set_cons_zero, List.set_cons_succ, List.getElem_toArray, List.getElem_cons_succ, List.getElem_cons_zero])
                        refine wpAnyH_done (by kernel_rfl) ?_ _
                        (try simp only [Act.put, List.setIfInBounds_toArray, List.set_cons_zero, List.set_cons_succ, List.getElem_toArray, List.getElem_cons_succ, List.getElem_cons_zero])
                        rw [HY.out]
                        have own1' := own1.below H1
                        have own2' := own2.below H1
                        have cB' := kept_cell H1 cB lB
                        have lB' := lt_of_below H1 lB
                        have B' := B.trans (Below.mono H1 B.size)
                        obtain ⟨wz, hwz⟩ : ∃ z, z = x1 := ⟨_, rfl⟩
                        rw [← hwz] at own1' own2' cB' lB' B' ⊢
                        clear hwz own1 own2 cB lB B hcx
                        go_wp2_with fail
                        have hcz := own2'.cell (k := t) (by rw [tbZ_len]; exact t2)
                        rw [gi_tbZ _ _ _ t2, ← HZZ.out] at hcz
                        have hca := own1'.cell (k := k) (by rw [tbZ_len]; exact hltk)
                        rw [gi_tbZ _ _ _ hltk, ← HAK.out] at hca
                        have hfree := own2'.free t
                        have hgb := own2'.base_le
                        have EW : IntKind.i64.wrap (a + 1) = a + 1 := IntWalk.i64_in _ ⟨by omega, by omega⟩
                        by_cases hzn : z < 0
                        · have hd1 : decide (z < 0) = true := by simpa using hzn
                          have HST := Lib.hid (tbZ_set f N t (a + 1) t2 (.inl (by rw [← HZZ.out]; exact hzn)))
                          clear hzn
                          go_wp2_with fail
                          go_quiet (fail)
                          go_wp2_with fail
                          go_roundw
                          case rel => exact ⟨j + 1, by omega, by go_num, by rw [HRT.out], own_stored_other (own1'.below (below_drewN (Below.refl _ _) _)) (.inr (by simp [Value.ownBlock]; omega)) t _, by rw [HUP.out, ← HST.out]; exact (own2'.below (below_drewN (Below.refl _ _) _)).stored t _, cell_set_other (kept_cell (below_drewN (Below.refl _ _) _) cB' lB') (by simp; omega), by simpa using lB', (below_drewN B' _).setCell (by simp; omega) _⟩
                          case measure => simp [intOf]; omega
                        · have hd1 : decide (z < 0) = false := by simpa using hzn
                          by_cases hlt2 : a + 1 < z
                          · have hd2 : decide (a + 1 < z) = true := by simpa using hlt2
                            have HST := Lib.hid (tbZ_set f N t (a + 1) t2 (.inr (by rw [← HZZ.out]; exact hlt2)))
                            clear hzn hlt2
                            go_wp2_with fail
                            go_quiet (fail)
                            go_wp2_with fail
                            go_roundw
                            case rel => exact ⟨j + 1, by omega, by go_num, by rw [HRT.out], own_stored_other (own1'.below (below_drewN (Below.refl _ _) _)) (.inr (by simp [Value.ownBlock]; omega)) t _, by rw [HUP.out, ← HST.out]; exact (own2'.below (below_drewN (Below.refl _ _) _)).stored t _, cell_set_other (kept_cell (below_drewN (Below.refl _ _) _) cB' lB') (by simp; omega), by simpa using lB', (below_drewN B' _).setCell (by simp; omega) _⟩
                            case measure => simp [intOf]; omega
                          · have hd2 : decide (a + 1 < z) = false := by simpa using hlt2
                            have HST := Lib.hid (tbZ_same f N t (a + 1) (by rw [← HZZ.out]; omega))
                            clear hzn hlt2
                            go_wp2_with fail
                            go_quiet (fail)
                            go_wp2_with fail
                            go_roundw
                            case rel => exact ⟨j + 1, by omega, by go_num, by rw [HRT.out], own1'.below (below_drewN (Below.refl _ _) _), by rw [HUP.out, ← HST.out]; exact own2'.below (below_drewN (Below.refl _ _) _), kept_cell (below_drewN (Below.refl _ _) _) cB' lB', lt_of_below (below_drewN (Below.refl wz.heap.size wz) _) lB', below_drewN B' _⟩
                            case measure => simp [intOf]; omega
                      · have hjn : Hid (j = qN S) := Lib.hid (by have := HQn.out; omega)
                        have i1 : ¬ (j : Int) + 1 < (Q : Int) := by omega
                        rw [hjn.out, HE.out] at own2
                        go_wp2_with fail
                        go_roundw
                        case rel => exact ⟨k + 1, by omega, by go_num, own1, own2, cB, lB, B⟩
                        case measure => simp [intOf]; omega
                · have hkn : Hid (k = N) := Lib.hid (by omega)
                  rw [hkn.out, HNX.out] at own2
                  go_wp2_with fail
                  go_roundw
                  case rel => exact ⟨kc + 1, g2, c2, by omega, by go_num, rfl, own2, cB, lB, B⟩
                  case measure => simp [intOf]; omega
            · have hk2 : Hid (kc = T.length) := Lib.hid (by omega)
              rw [hk2.out] at hown
              go_wp2_with fail
              go_ret
              exact ⟨_, rfl, hown.rebase (by omega), B⟩

end Go.Proofs.Ytamebfbddoeflaa
