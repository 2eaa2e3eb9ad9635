/-
  The contract of the model of LeanCode. By an AI agent.
-/
import Derived.Test.YtgaelpcghljihaaNedS
namespace Go.Proofs.Ytgaelpcghljihaa
open Go.RowKit Cv
set_option linter.unusedVariables false
set_option linter.unusedSimpArgs false
set_option maxRecDepth 100000

set_option maxHeartbeats 4000000 in
theorem spec_LeanCode (ao : Option Addr) (S : List Int) (cap : Nat) (hn : S.length ≤ 4294967296) (ac : Option Addr) (C : List Int) (capc : Nat) (hnc : C.length ≤ 4294967296) (r : Int) (hr : -9223372036854775808 ≤ r ∧ r ≤ 9223372036854775807) (w : World) (hS : Ints w ao S) (hC : Ints w ac C) :
    Calls Try.prog 45 #[.agg #[.slice ao S.length cap], .slice ac C.length capc, .int .i64 r] w fun e w' => ∃ v, e = .returned (.tuple #[v, .int .i64 (eCov S C r)]) ∧ OwnInts w' w.heap.size v (vLean S C r) ∧ Below w.heap.size w w' := by
  have B0 : Below w.heap.size w (w.alloc (.cells #[.slice ao S.length cap] 24)) := by go_grown
  have c0 := cell_new w (.slice ao S.length cap) 24
  have l0 := lt_alloc w (.cells #[.slice ao S.length cap] 24)
  by_cases hq : eCov S C r = 0
  · obtain ⟨hz, r1, r2⟩ := eCov_zero hq
    have hqn : (eCov S C r != 0) = false := by simp [hq]
    obtain ⟨hSp, hc1, hc2⟩ := eCode_zero hz
    obtain ⟨N1, N2⟩ := nW_bd hSp
    have hlen := code_len hSp hc1 hc2
    have HSp := Lib.hid hSp
    have HC1 : Hid (∀ i, i < C.length → 0 ≤ gi C i ∧ gi C i ≤ 9223372036854775807) := Lib.hid fun i h => by have := hc1 i h; omega
    obtain ⟨N, hN⟩ : ∃ N : Nat, nW S = (N : Int) := ⟨(nW S).toNat, by omega⟩
    have HN := Lib.hid hN
    have HQ0 := Lib.hid hq
    have HV : Hid (vLean S C r = lnTo S C r C.length) := Lib.hid (by unfold vLean; rw [if_pos hq])
    have HT : ∀ k, Hid ((lnT S C r k).length = N) := fun k => Lib.hid (by rw [lnT_len, hN]; rfl)
    have HNN : Hid ((nW S).toNat = N) := Lib.hid (by omega)
    have N3 : N ≤ 1024 := by omega
    clear hq hz hN hc1 hc2 hSp
    go_enter Try.func45, Try.ntmps45
    go_wp2_with fail
    refine (l02Code_any ao S cap hn ac C capc hnc r _ (hS.below B0) (hC.below B0)).mono ?_
    rintro e w1 ⟨rfl, hb⟩
    replace c0 := kept_cell hb c0 l0
    replace l0 := lt_of_below hb l0
    have B1 : Below w.heap.size w w1 := B0.trans (hb.mono B0.size)
    have hs1 := B1.size
    have l1 := l0
    clear hb B0
    go_wp2_with fail
    refine (l02Times_any ao S cap HSp.out ac C capc (by omega) HC1.out r N HN _ (hS.below B1) (hC.below B1)).mono ?_
    rintro e w2 ⟨q, rfl, oq, hb⟩
    replace c0 := kept_cell hb c0 l0
    replace l0 := lt_of_below hb l0
    have B2 : Below w.heap.size w w2 := B1.trans (hb.mono B1.size)
    have hs2 := B2.size
    have hq1 := oq.base_le
    replace oq := (oq.alloc (.cells #[] 2)).rebase (base' := w.heap.size) (by omega)
    have oo := own_empty w2 (q + 1) (by omega) rfl
    have B3 := B2.alloc hs2 (.cells #[] 2)
    replace c0 := kept_cell ((Below.refl w2.heap.size w2).alloc (Nat.le_refl _) (.cells #[] 2)) c0 l0
    have g0 : w.heap.size < q := by omega
    clear hb B1 B2 hs1
    go_wp2_with fail
    go_loopw [10, 11] (fun v i wr => ∃ k : Nat, k ≤ C.length ∧ i = .int .i64 k ∧ OwnInts wr (q + 1) v (lnTo S C r k) ∧ OwnInts wr w.heap.size (.slice (some ⟨q, 0, none⟩) N N) (lnT S C r k) ∧ wr.cell? ⟨w.heap.size, 0, none⟩ = some (.slice ao S.length cap) ∧ q < wr.heap.size ∧ Below w.heap.size w wr) (fun _ i _ => C.length - (intOf i).toNat)
    case atStart => exact ⟨0, Nat.zero_le _, rfl, oo, oq, c0, by simp; omega, B3⟩
    case round =>
      clear oo oq B3 hs2 hq1 c0
      obtain ⟨k, hk, rfl, oo, oq, c, lq, B⟩ := hrel
      by_cases hlt : k < C.length
      · obtain ⟨b, o, rfl, hbl, hc⟩ := hC.at hlt
        have hck : wr.cell? ⟨b, o + k, none⟩ = some (.int .i64 (gi C k)) := kept_cell B (hc k hlt) hbl
        obtain ⟨x1, x2⟩ := HC1.out k hlt
        have hbw : b < wr.heap.size := lt_of_below B hbl
        have hpl := lnTo_len S C r k
        have lS : w.heap.size < wr.heap.size := by omega
        clear hc
        go_wp2_with fail
        go_region_held3 (fun w' => w'.cell? ⟨w.heap.size, 0, none⟩ = some (.slice ao S.length cap) ∧ w'.cell? ⟨b, o + k, none⟩ = some (.int .i64 (gi C k))) (first | exact ⟨c, hck⟩ | exact ⟨kept_cell hb3 c lS, kept_cell hb3 hck hbw⟩) (first | (go_at_call 95; refine (l02Needed_any ao S cap HSp.out (some ⟨q, 0, none⟩) (lnT S C r k) N _ (HT k) (gi C k) x1 x2 r HN _ (hS.below B.drew) (own_ints oq.drew)).mono ?_; rintro e w3 ⟨rfl, hb3'⟩; have hb3 : Below wr.heap.size wr w3 := (Below.refl _ wr).drew.trans hb3'))
        replace c := kept_cell hb3 c lS
        replace hck := kept_cell hb3 hck hbw
        replace oq := oq.below hb3
        replace oo := oo.below hb3
        replace lq := lt_of_below hb3 lq
        have sB := B.size
        have lq' : q < w3.heap.size := lq
        replace B := B.trans (hb3.mono B.size)
        replace lS := lt_of_below hb3 lS
        clear hb3 hb3' hbw
        cases hb : needB (lnT S C r k) S (gi C k) r with
        | true =>
          have H2 : Hid (lnTo S C r (k + 1) = lnTo S C r k ++ [gi C k]) := Lib.hid (by rw [lnTo, if_pos hb])
          have H3 : Hid (lnT S C r (k + 1) = lnT S C r k) := Lib.hid (by rw [lnT, if_pos hb])
          clear hb
          go_wp2_with (at_builtin; refine wpList_append_int rfl _ _ rfl (q + 1) _ _ rfl (oo.alloc _) w3.heap.size _ rfl (cell_new _ _ _) (by omega) (by rw [World.size_alloc]; omega) ?_; intro v' w4 hown' hgrow)
          have hgb := grown_below (B.alloc B.size _) (by rw [World.size_alloc]; omega) hgrow (oo.alloc _) (by omega)
          have oq4 := (oq.alloc _).kept hgrow (.inr (fun e => by have := World.ownsRow.lt oo _ e.symm; simp at this; omega))
          have hg4 : q < w4.heap.size := by have := hgrow.size; simp at this; omega
          have c4 : w4.cell? ⟨w.heap.size, 0, none⟩ = some (.slice ao S.length cap) := hgrow.cell (a := ⟨w.heap.size, 0, none⟩) (kept_cell ((Below.refl w3.heap.size w3).alloc (Nat.le_refl _) (.cells #[.int .i64 (gi C k)] 2)) c lS) (fun e => by have := World.ownsRow.lt oo _ e.symm; simp at this; omega)
          clear oo oq hgrow c
          go_wp2_with fail
          go_roundw
          case rel => exact ⟨k + 1, by omega, by go_num, by rw [H2.out]; exact hown', by rw [H3.out]; exact oq4, c4, hg4, hgb⟩
          case measure => simp [intOf]; omega
        | false =>
          have H2 : Hid (lnTo S C r (k + 1) = lnTo S C r k) := Lib.hid (by rw [lnTo, if_neg (by rw [hb]; simp)])
          have H3 : Hid (lnT S C r (k + 1) = decL (lnT S C r k) (ballW S (gi C k) r)) := Lib.hid (by rw [lnT, if_neg (by rw [hb]; simp)])
          clear hb
          have hbw3 : b < w3.heap.size := lt_of_below B hbl
          go_wp2_with fail
          go_region_held3 (fun w' => w'.cell? ⟨w.heap.size, 0, none⟩ = some (.slice ao S.length cap) ∧ w'.cell? ⟨b, o + k, none⟩ = some (.int .i64 (gi C k))) (first | exact ⟨c, hck⟩ | exact ⟨kept_cell hb5 c lS, kept_cell hb5 hck hbw3⟩) (first | (go_at_call 99; refine (l01Ball_any ao S cap HSp.out (gi C k) x1 x2 r _ (hS.below B.drew)).mono ?_; rintro e w5 ⟨v, rfl, ob, hb5'⟩; have hb5 : Below w3.heap.size w3 w5 := (Below.refl _ w3).drew.trans hb5'))
          replace c := kept_cell hb5 c lS
          replace oq := oq.below hb5
          replace oo := oo.below hb5
          replace lq := lt_of_below hb5 lq
          have hq3 := oq.base_le
          have lq3 : q < w3.heap.size := by have := lq'; omega
          replace B := B.trans (hb5.mono B.size)
          obtain ⟨a_, k_, hv⟩ := ob.shape
          subst hv
          have HB : Hid (∀ t, t < (ballW S (gi C k) r).length → 0 ≤ gi (ballW S (gi C k) r) t ∧ gi (ballW S (gi C k) r) t < N) := Lib.hid fun t ht => by
            have h1 : 0 ≤ gi (ballW S (gi C k) r) t ∧ gi (ballW S (gi C k) r) t < ((nW S).toNat : Nat) := selTo_bd _ _ t ht
            have h2 := HNN.out
            exact ⟨h1.1, by omega⟩
          have hlb := ballW_len HSp.out (gi C k) r
          obtain ⟨T0, hT0⟩ : ∃ T0, T0 = lnT S C r k := ⟨_, rfl⟩
          rw [← hT0] at oq
          have HT0 := Lib.hid hT0
          have HTb : Hid (∀ u, u < N → -1048576 ≤ gi T0 u ∧ gi T0 u ≤ 1048576) := Lib.hid fun u hu => by
            have h1 := lnT_bd S C r k u (by rw [HNN.out]; exact hu)
            rw [hT0]; omega
          have HTl : Hid (T0.length = N) := Lib.hid (by rw [hT0]; exact (HT k).out)
          clear hT0 hb5 hb5' hck
          go_wp2_with fail
          go_loopw [13] (fun i wi => ∃ (j : Nat) (U : List Int), j ≤ (ballW S (gi C k) r).length ∧ i = .int .i64 j ∧ OwnInts wi w.heap.size (.slice (some ⟨q, 0, none⟩) N N) U ∧ Hid (U.length = N ∧ ∀ u : Nat, u < N → gi U u = gi T0 u - cntIn (ballW S (gi C k) r) u j) ∧ OwnInts wi w3.heap.size (.slice a_ (ballW S (gi C k) r).length k_) (ballW S (gi C k) r) ∧ OwnInts wi (q + 1) u10 (lnTo S C r k) ∧ wi.cell? ⟨w.heap.size, 0, none⟩ = some (.slice ao S.length cap) ∧ q < wi.heap.size ∧ Below w.heap.size w wi)
            (fun i _ => (ballW S (gi C k) r).length - (intOf i).toNat)
          case atStart => exact ⟨0, T0, Nat.zero_le _, rfl, oq, Lib.hid ⟨HTl.out, fun u h => by simp [cntIn, cnt]⟩, ob, oo, c, lq, B⟩
          case round =>
            clear oq ob c lq B oo
            obtain ⟨j, U, hj, rfl, oq, HU, ob, oo, c, lq, B⟩ := hrel
            by_cases hlj : j < (ballW S (gi C k) r).length
            · obtain ⟨bb, bo, rfl, hbb, hcb⟩ := (own_ints ob).at hlj
              obtain ⟨y1, y2⟩ := HB.out j hlj
              obtain ⟨u, hu⟩ : ∃ u : Nat, gi (ballW S (gi C k) r) j = (u : Int) := ⟨(gi (ballW S (gi C k) r) j).toNat, by omega⟩
              have hcj := hcb j hlj
              rw [hu] at hcj
              have hun : u < N := by omega
              have hcell := oq.cell (k := u) (by rw [HU.out.1]; exact hun)
              have hfree := oq.free u
              obtain ⟨t1, t2⟩ := HTb.out u hun
              obtain ⟨t3, t4⟩ := cntIn_bd (ballW S (gi C k) r) u j
              have hgu := HU.out.2 u hun
              rw [hgu] at hcell
              have HY := Lib.hid hu
              clear hcb hu hgu y1 y2
              go_wp2
              go_roundw
              case rel =>
                refine ⟨j + 1, _, by omega, by go_num, oq.stored u (gi T0 u - cntIn (ballW S (gi C k) r) u j - 1), Lib.hid ⟨by rw [List.length_set]; exact HU.out.1, ?_⟩, ob.setBelow (by simp; omega) _, oo.setBelow (by simp) _, cell_set_other c (by simp; omega), by simpa using lq, B.setCell (by simp; omega) _⟩
                intro z hz
                rw [gi_set _ _ _ _ (by rw [HU.out.1]; exact hun)]
                by_cases e : z = u
                · subst e
                  rw [if_pos rfl, cntIn_yes HY.out]; omega
                · rw [if_neg e, HU.out.2 z hz, cntIn_no (by rw [HY.out]; omega)]
              case measure => simp [intOf]; omega
            · have ej : j = (ballW S (gi C k) r).length := by omega
              have e : U = decL T0 (ballW S (gi C k) r) := ext_gi (by rw [HU.out.1, decL_len, HTl.out]) fun i hi => by rw [HU.out.1] at hi; rw [HU.out.2 i hi, gi_decL _ _ _ (by rw [HTl.out]; exact hi), ej]
              rw [e, HT0.out] at oq
              clear ej e HU
              go_wp2
              go_roundw
              case rel => exact ⟨k + 1, by omega, by go_num, by rw [H2.out]; exact oo, by rw [H3.out]; exact oq, c, lq, B⟩
              case measure => simp [intOf]; omega
      · have ek : Hid (k = C.length) := Lib.hid (by omega)
        go_wp2_with fail
        go_ret2
        exact ⟨_, by rw [HQ0.out]; rfl, by rw [HV.out, ← ek.out]; exact oo.rebase (by omega), B⟩
  · have hqn : (eCov S C r != 0) = true := by simpa using hq
    have HV : Hid (vLean S C r = []) := Lib.hid (by unfold vLean; rw [if_neg hq])
    clear hq
    go_enter Try.func45, Try.ntmps45
    go_wp2_with fail
    refine (l02Code_any ao S cap hn ac C capc hnc r _ (hS.below B0) (hC.below B0)).mono ?_
    rintro e w1 ⟨rfl, hb⟩
    go_wp2_with fail
    go_ret2
    exact ⟨_, rfl, by rw [HV.out]; exact own_nil _ _, B0.trans (hb.mono B0.size)⟩

end Go.Proofs.Ytgaelpcghljihaa
