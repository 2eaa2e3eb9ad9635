/-
  Merged texts: Times, NedS, LeanS, Ned10, NedM, LeanM, Unc, Unc2, Num, CovI. Never import this beside one of them. By an AI agent.
-/
import Derived.Test.YtjjcpbhmpjedoaaMath
import Derived.Test.YtjjcpbhmpjedoaaBall2
import Derived.Test.YtjjcpbhmpjedoaaSums2
import Derived.Deep.RegionHeld3
import Derived.Test.YtjjcpbhmpjedoaaMark
import Derived.Test.YtjjcpbhmpjedoaaErr2
import Derived.Test.YtjjcpbhmpjedoaaMathB
import Derived.Test.YtjjcpbhmpjedoaaAppend
import Derived.Test.YtjjcpbhmpjedoaaFcB
import Derived.Test.YtjjcpbhmpjedoaaErr
namespace Go.Proofs.Ytjjcpbhmpjedoaa
open Go.RowKit Cv
set_option linter.unusedVariables false
set_option linter.unusedSimpArgs false
set_option maxRecDepth 100000

set_option maxHeartbeats 2000000 in
theorem l02Times_any (ao : Option Addr) (S : List Int) (cap : Nat) (hSp : Sp S) (ac : Option Addr) (C : List Int) (capc : Nat) (hlen : C.length ≤ 1048576) (hC0 : ∀ i, i < C.length → 0 ≤ gi C i ∧ gi C i ≤ 9223372036854775807) (r : Int) (N : Nat) (hN : Hid (nW S = (N : Int))) (w : World) (hS : Ints w ao S) (hC : Ints w ac C) :
    Calls Try.prog 80 #[.agg #[.slice ao S.length cap], .slice ac C.length capc, .int .i64 r] w fun e w' =>
      ∃ q, e = .returned (.slice (some ⟨q, 0, none⟩) N N) ∧ OwnInts w' w.heap.size (.slice (some ⟨q, 0, none⟩) N N) (timesL S C r) ∧ Below w.heap.size w w' := by
  obtain ⟨i0, hi, hz0, hz1, hz2⟩ := info_parts infoI64
  have N2 : N ≤ 1024 := by have := (nW_bd hSp).2; have := hN.out; omega
  have HNN : Hid ((nW S).toNat = N) := Lib.hid (by have := hN.out; omega)
  have HSp := Lib.hid hSp
  have HC0 := Lib.hid hC0
  clear hSp hC0
  go_enter Try.func80, Try.ntmps80
  go_wp2_with fail
  have B0 : Below w.heap.size w (w.alloc (.cells #[.slice ao S.length cap] 26)) := by go_grown
  have c0 := cell_new w (.slice ao S.length cap) 26
  have l0 := lt_alloc w (.cells #[.slice ao S.length cap] 26)
  refine (l01N_nat ao S cap N hN _ HSp.out (hS.below B0)).mono ?_
  rintro e w1 ⟨rfl, hb1⟩
  have B1 := B0.trans (hb1.mono B0.size)
  have c1 := kept_cell hb1 c0 l0
  have l1 := lt_of_below hb1 l0
  clear hb1 B0 c0 l0
  go_wp2_with (at_make; refine wpList_make_full _ rfl _ _ 24 rfl w.heap.size 2 i0 (.int .i64 0) 1 Try.underlying24 hi hz0 hz1 .i64 .i64 _ _ N rfl rfl rfl rfl (by rw [hz2]; omega) (by unfold maxLen; omega) (by omega) ?_; intro w2 hown hgrow)
  have hb2 : Below w1.heap.size w1 w2 := below_grown0 hgrow
  have B2 : Below w.heap.size w w2 := B1.trans (hb2.mono B1.size)
  have c2 := kept_cell hb2 c1 l1
  have l2 := lt_of_below hb2 l1
  replace hown := own_made hown
  have g1 : w.heap.size < w1.heap.size := l1
  clear hgrow hb2 B1 c1 l1
  go_loopw [8] (fun i wr => ∃ (k : Nat) (T : List Int), k ≤ C.length ∧ i = .int .i64 k ∧ OwnInts wr w.heap.size (.slice (some ⟨w1.heap.size, 0, none⟩) N N) T ∧ Hid (T.length = N ∧ ∀ u, u < N → gi T u = tcov S C r u k) ∧ wr.cell? ⟨w.heap.size, 0, none⟩ = some (.slice ao S.length cap) ∧ w.heap.size < wr.heap.size ∧ Below w.heap.size w wr)
    (fun i _ => C.length - (intOf i).toNat)
  case atStart => exact ⟨0, _, Nat.zero_le _, rfl, hown, Lib.hid ⟨by simp, fun u h => by rw [gi_rep0]; rfl⟩, c2, l2, B2⟩
  case round =>
    clear hown B2 c2 l2
    obtain ⟨k, T, hk, rfl, own, HT, c, l, B⟩ := hrel
    by_cases hlt : k < C.length
    · obtain ⟨b, o, rfl, hbl, hc⟩ := hC.at hlt
      have hck : wr.cell? ⟨b, o + k, none⟩ = some (.int .i64 (gi C k)) := kept_cell B (hc k hlt) hbl
      obtain ⟨x1, x2⟩ := HC0.out k hlt
      have hbw : b < wr.heap.size := lt_of_below B hbl
      clear hc
      go_wp2_with fail
      go_region_held3 (fun w' => w'.cell? ⟨w.heap.size, 0, none⟩ = some (.slice ao S.length cap) ∧ w'.cell? ⟨b, o + k, none⟩ = some (.int .i64 (gi C k))) (first | exact ⟨c, hck⟩ | exact ⟨kept_cell hb3 c l, kept_cell hb3 hck hbw⟩) (first | (go_at_call 64; refine (l01Ball_any ao S cap HSp.out (gi C k) x1 x2 r _ (hS.below B.drew)).mono ?_; rintro e w3 ⟨v, rfl, ob, hb3'⟩; have hb3 : Below wr.heap.size wr w3 := (Below.refl _ wr).drew.trans hb3'))
      replace c := kept_cell hb3 c l
      have hgr := own.base_le.2
      replace own := own.below hb3
      have sB := B.size
      replace B := B.trans (hb3.mono B.size)
      have glo : w1.heap.size < wr.heap.size := by
        exact hgr
      replace l := lt_of_below hb3 l
      obtain ⟨a_, k_, hv⟩ := ob.shape
      subst hv
      have HB : Hid (∀ t, t < (ballW S (gi C k) r).length → 0 ≤ gi (ballW S (gi C k) r) t ∧ gi (ballW S (gi C k) r) t < N) := Lib.hid fun t ht => by
        have h1 : 0 ≤ gi (ballW S (gi C k) r) t ∧ gi (ballW S (gi C k) r) t < ((nW S).toNat : Nat) := selTo_bd _ _ t ht
        have h2 := HNN.out
        exact ⟨h1.1, by omega⟩
      have hlb := ballW_len HSp.out (gi C k) r
      clear hb3 hb3' hck
      go_wp2_with fail
      go_loopw [10] (fun i wi => ∃ (j : Nat) (U : List Int), j ≤ (ballW S (gi C k) r).length ∧ i = .int .i64 j ∧ OwnInts wi w.heap.size (.slice (some ⟨w1.heap.size, 0, none⟩) N N) U ∧ Hid (U.length = N ∧ ∀ u : Nat, u < N → gi U u = tcov S C r u k + cntIn (ballW S (gi C k) r) u j) ∧ OwnInts wi wr.heap.size (.slice a_ (ballW S (gi C k) r).length k_) (ballW S (gi C k) r) ∧ wi.cell? ⟨w.heap.size, 0, none⟩ = some (.slice ao S.length cap) ∧ w.heap.size < wi.heap.size ∧ Below w.heap.size w wi)
        (fun i _ => (ballW S (gi C k) r).length - (intOf i).toNat)
      case atStart => exact ⟨0, T, Nat.zero_le _, rfl, own, Lib.hid ⟨HT.out.1, fun u h => by rw [HT.out.2 u h]; simp [cntIn, cnt]⟩, ob, c, l, B⟩
      case round =>
        clear own ob c l B
        obtain ⟨j, U, hj, rfl, own, HU, ob, c, l, B⟩ := hrel
        by_cases hlj : j < (ballW S (gi C k) r).length
        · obtain ⟨bb, bo, rfl, hbb, hcb⟩ := (own_ints ob).at hlj
          obtain ⟨y1, y2⟩ := HB.out j hlj
          obtain ⟨u, hu⟩ : ∃ u : Nat, gi (ballW S (gi C k) r) j = (u : Int) := ⟨(gi (ballW S (gi C k) r) j).toNat, by omega⟩
          have hcj := hcb j hlj
          rw [hu] at hcj
          have hun : u < N := by omega
          have hcell := own.cell (k := u) (by rw [HU.out.1]; exact hun)
          have hfree := own.free u
          obtain ⟨t1, t2⟩ := tcov_bd S C r u k
          obtain ⟨t3, t4⟩ := cntIn_bd (ballW S (gi C k) r) u j
          have hgu := HU.out.2 u hun
          rw [hgu] at hcell
          have HY := Lib.hid hu
          clear hcb hu hgu y1 y2
          go_wp2
          go_roundw
          case rel =>
            refine ⟨j + 1, _, by omega, by go_num, own.stored u (tcov S C r u k + cntIn (ballW S (gi C k) r) u j + 1), Lib.hid ⟨by rw [List.length_set]; exact HU.out.1, ?_⟩, ob.setBelow (by simp; omega) _, cell_set_other c (by simp; omega), by simpa using l, B.setCell (by simp; omega) _⟩
            intro z hz
            rw [gi_set _ _ _ _ (by rw [HU.out.1]; exact hun)]
            by_cases e : z = u
            · subst e
              rw [if_pos rfl, cntIn_yes HY.out]; omega
            · rw [if_neg e, HU.out.2 z hz, cntIn_no (by rw [HY.out]; omega)]
          case measure => simp [intOf]; omega
        · have ej : j = (ballW S (gi C k) r).length := by omega
          go_wp2
          go_roundw
          case rel =>
            refine ⟨k + 1, U, by omega, by go_num, own, Lib.hid ⟨HU.out.1, fun u h => ?_⟩, c, l, B⟩
            rw [HU.out.2 u h, ej, ← tcov_ball S C r u k (by rw [HNN.out]; exact h)]
          case measure => simp [intOf]; omega
    · have ek : k = C.length := by omega
      go_wp2
      go_ret
      have e : T = timesL S C r := ext_gi (by rw [HT.out.1, timesL_len, HNN.out]) fun i hi => by rw [HT.out.1] at hi; rw [HT.out.2 i hi, gi_timesL _ _ _ _ (by rw [HNN.out]; exact hi), ek]
      rw [e] at own
      exact ⟨_, rfl, own, B⟩

end Go.Proofs.Ytjjcpbhmpjedoaa

namespace Go.Proofs.Ytjjcpbhmpjedoaa
open Go.RowKit Cv
set_option linter.unusedVariables false
set_option linter.unusedSimpArgs false
set_option maxRecDepth 100000

set_option maxHeartbeats 2000000 in
theorem l02Needed_any (ao : Option Addr) (S : List Int) (cap : Nat) (hSp : Sp S) (aT : Option Addr) (T : List Int) (N capT : Nat) (hT : Hid (T.length = N)) (x : Int) (hx : 0 ≤ x) (hx2 : x ≤ 9223372036854775807) (r : Int) (hN : Hid (nW S = (N : Int))) (w : World) (hS : Ints w ao S) (hTm : Ints w aT T) :
    Calls Try.prog 81 #[.agg #[.slice ao S.length cap], .slice aT N capT, .int .i64 x, .int .i64 r] w fun e w' => e = .returned (.bool (needB T S x r)) ∧ Below w.heap.size w w' := by
  have HSp := Lib.hid hSp
  have N2 : N ≤ 1024 := by have := (nW_bd hSp).2; have := hN.out; omega
  have hlb := ballW_len hSp x r
  have HB : Hid (∀ t, t < (ballW S x r).length → 0 ≤ gi (ballW S x r) t ∧ gi (ballW S x r) t < N) := Lib.hid fun t ht => by
    have h1 : 0 ≤ gi (ballW S x r) t ∧ gi (ballW S x r) t < ((nW S).toNat : Nat) := selTo_bd _ _ t ht
    have h2 := hN.out
    exact ⟨h1.1, by omega⟩
  clear hSp
  have B0 : Below w.heap.size w (w.alloc (.cells #[.slice ao S.length cap] 26)) := by go_grown
  go_enter Try.func81, Try.ntmps81
  go_wp2_with fail
  refine (l01Ball_any ao S cap HSp.out x hx hx2 r _ (hS.below B0)).mono ?_
  rintro e w1 ⟨v, rfl, ob, hb1⟩
  have B1 := B0.trans (hb1.mono B0.size)
  have s1 := B1.size
  obtain ⟨a_, k_, hv⟩ := ob.shape
  subst hv
  clear hb1 B0
  go_wp2_with fail
  go_loopw [10] (fun i wi => ∃ j : Nat, j ≤ (ballW S x r).length ∧ i = .int .i64 j ∧ Hid (oneTo T (ballW S x r) j = false) ∧ wi = w1) (fun i _ => (ballW S x r).length - (intOf i).toNat)
  case atStart => exact ⟨0, Nat.zero_le _, rfl, Lib.hid rfl, rfl⟩
  case round =>
    obtain ⟨j, hj, rfl, HO, rfl⟩ := hrel
    by_cases hlj : j < (ballW S x r).length
    · obtain ⟨bb, bo, rfl, hbb, hcb⟩ := (own_ints ob).at hlj
      obtain ⟨y1, y2⟩ := HB.out j hlj
      obtain ⟨u, hu⟩ : ∃ u : Nat, gi (ballW S x r) j = (u : Int) := ⟨(gi (ballW S x r) j).toNat, by omega⟩
      have hcj := hcb j hlj
      rw [hu] at hcj
      have hun : u < N := by omega
      obtain ⟨tb, to, rfl, htb, htc⟩ := (hTm.below B1).at (i := u) (by rw [hT.out]; exact hun)
      have hcu := htc u (by rw [hT.out]; exact hun)
      have HU := Lib.hid hu
      obtain ⟨t, ht⟩ : ∃ t, t = gi T u := ⟨_, rfl⟩
      rw [← ht] at hcu
      clear hcb htc hu y1 y2
      by_cases h1 : t = 1
      · have hd : (t == 1) = true := by simpa using h1
        have HR : Hid (needB T S x r = true) := Lib.hid (oneTo_mono (k := j + 1) (by omega) (by rw [oneTo, HU.out]; simp [← ht, h1]))
        clear h1 ht
        go_wp2_with fail
        go_ret
        exact ⟨by rw [HR.out]; rfl, B1⟩
      · have hd : (t == 1) = false := by simpa using h1
        have HO2 : Hid (oneTo T (ballW S x r) (j + 1) = false) := Lib.hid (by rw [oneTo, HO.out, HU.out]; simp [← ht, h1])
        clear h1 ht
        go_wp2_with fail
        go_roundw
        case rel => exact ⟨j + 1, by omega, by go_num, HO2, trivial⟩
        case measure => simp [intOf]; omega
    · have HR : Hid (needB T S x r = false) := Lib.hid (by unfold needB; rw [show (ballW S x r).length = j by omega]; exact HO.out)
      go_wp2_with fail
      go_ret
      exact ⟨by rw [HR.out]; rfl, B1⟩

set_option maxHeartbeats 4000000 in
theorem spec_NeededWords (ao : Option Addr) (S : List Int) (cap : Nat) (hn : S.length ≤ 4294967296) (ac : Option Addr) (C : List Int) (capc : Nat) (hnc : C.length ≤ 4294967296) (r : Int) (hr : -9223372036854775808 ≤ r ∧ r ≤ 9223372036854775807) (w : World) (hS : Ints w ao S) (hC : Ints w ac C) :
    Calls Try.prog 40 #[.agg #[.slice ao S.length cap], .slice ac C.length capc, .int .i64 r] w fun e w' => ∃ v, e = .returned (.tuple #[v, .int .i64 (eCov S C r)]) ∧ OwnInts w' w.heap.size v (vNeed S C r) ∧ Below w.heap.size w w' := by
  have B0 : Below w.heap.size w (w.alloc (.cells #[.slice ao S.length cap] 26)) := by go_grown
  have c0 := cell_new w (.slice ao S.length cap) 26
  have l0 := lt_alloc w (.cells #[.slice ao S.length cap] 26)
  by_cases hq : eCov S C r = 0
  · obtain ⟨hz, r1, r2⟩ := eCov_zero hq
    have hqn : (eCov S C r != 0) = false := by simp [hq]
    obtain ⟨hSp, hc1, hc2⟩ := eCode_zero hz
    obtain ⟨N1, N2⟩ := nW_bd hSp
    have hlen := code_len hSp hc1 hc2
    have HSp := Lib.hid hSp
    have HC1 : Hid (∀ i, i < C.length → 0 ≤ gi C i ∧ gi C i ≤ 9223372036854775807) := Lib.hid fun i h => by have := hc1 i h; omega
    obtain ⟨N, hN⟩ : ∃ N : Nat, nW S = (N : Int) := ⟨(nW S).toNat, by omega⟩
    have HN := Lib.hid hN
    have HQ0 := Lib.hid hq
    have HV : Hid (vNeed S C r = needTo S C r C.length) := Lib.hid (by unfold vNeed; rw [if_pos hq])
    have HT : Hid ((timesL S C r).length = N) := Lib.hid (by rw [timesL_len, hN]; rfl)
    clear hq hz hN hc1 hc2 hSp
    go_enter Try.func40, Try.ntmps40
    go_wp2_with fail
    refine (l02Code_any ao S cap hn ac C capc hnc r _ (hS.below B0) (hC.below B0)).mono ?_
    rintro e w1 ⟨rfl, hb⟩
    replace c0 := kept_cell hb c0 l0
    replace l0 := lt_of_below hb l0
    have B1 : Below w.heap.size w w1 := B0.trans (hb.mono B0.size)
    have hs1 := B1.size
    have l1 := l0
    clear hb B0
    go_wp2_with fail
    refine (l02Times_any ao S cap HSp.out ac C capc (by omega) HC1.out r N HN _ (hS.below B1) (hC.below B1)).mono ?_
    rintro e w2 ⟨q, rfl, oq, hb⟩
    replace c0 := kept_cell hb c0 l0
    replace l0 := lt_of_below hb l0
    have B2 : Below w.heap.size w w2 := B1.trans (hb.mono B1.size)
    have hs2 := B2.size
    have hq1 := oq.base_le
    replace oq := (oq.alloc (.cells #[] 2)).rebase (base' := w.heap.size) (by omega)
    have oo := own_empty w2 (q + 1) (by omega) rfl
    have B3 := B2.alloc hs2 (.cells #[] 2)
    replace c0 := kept_cell ((Below.refl w2.heap.size w2).alloc (Nat.le_refl _) (.cells #[] 2)) c0 l0
    have g0 : w.heap.size < q := by omega
    clear hb B1 B2 hs1
    go_wp2_with fail
    go_loopw [10, 11] (fun v i wr => ∃ k : Nat, k ≤ C.length ∧ i = .int .i64 k ∧ OwnInts wr (q + 1) v (needTo S C r k) ∧ OwnInts wr w.heap.size (.slice (some ⟨q, 0, none⟩) N N) (timesL S C r) ∧ wr.cell? ⟨w.heap.size, 0, none⟩ = some (.slice ao S.length cap) ∧ q < wr.heap.size ∧ Below w.heap.size w wr) (fun _ i _ => C.length - (intOf i).toNat)
    case atStart => exact ⟨0, Nat.zero_le _, rfl, oo, oq, c0, by simp; omega, B3⟩
    case round =>
      clear oo oq B3 hs2 hq1 c0
      obtain ⟨k, hk, rfl, oo, oq, c, lq, B⟩ := hrel
      by_cases hlt : k < C.length
      · obtain ⟨b, o, rfl, hbl, hc⟩ := hC.at hlt
        have hck : wr.cell? ⟨b, o + k, none⟩ = some (.int .i64 (gi C k)) := kept_cell B (hc k hlt) hbl
        obtain ⟨x1, x2⟩ := HC1.out k hlt
        have hbw : b < wr.heap.size := lt_of_below B hbl
        have hpl := needTo_len S C r k
        have lS : w.heap.size < wr.heap.size := by omega
        clear hc
        go_wp2_with fail
        go_region_held3 (fun w' => w'.cell? ⟨w.heap.size, 0, none⟩ = some (.slice ao S.length cap) ∧ w'.cell? ⟨b, o + k, none⟩ = some (.int .i64 (gi C k))) (first | exact ⟨c, hck⟩ | exact ⟨kept_cell hb3 c lS, kept_cell hb3 hck hbw⟩) (first | (go_at_call 81; refine (l02Needed_any ao S cap HSp.out (some ⟨q, 0, none⟩) (timesL S C r) N _ HT (gi C k) x1 x2 r HN _ (hS.below B.drew) (own_ints oq.drew)).mono ?_; rintro e w3 ⟨rfl, hb3'⟩; have hb3 : Below wr.heap.size wr w3 := (Below.refl _ wr).drew.trans hb3'))
        replace c := kept_cell hb3 c lS
        replace hck := kept_cell hb3 hck hbw
        replace oq := oq.below hb3
        replace oo := oo.below hb3
        replace lq := lt_of_below hb3 lq
        have sB := B.size
        replace B := B.trans (hb3.mono B.size)
        replace lS := lt_of_below hb3 lS
        clear hb3 hb3' hbw
        cases hb : needB (timesL S C r) S (gi C k) r with
        | true =>
          have H2 : Hid (needTo S C r (k + 1) = needTo S C r k ++ [gi C k]) := Lib.hid (by rw [needTo, if_pos hb])
          clear hb
          go_wp2_with (at_builtin; refine wpList_append_int rfl _ _ rfl (q + 1) _ _ rfl (oo.alloc _) w3.heap.size _ rfl (cell_new _ _ _) (by omega) (by rw [World.size_alloc]; omega) ?_; intro v' w4 hown' hgrow)
          have hgb := grown_below (B.alloc B.size _) (by rw [World.size_alloc]; omega) hgrow (oo.alloc _) (by omega)
          have oq4 := (oq.alloc _).kept hgrow (.inr (fun e => by have := World.ownsRow.lt oo _ e.symm; simp at this; omega))
          have hg4 : q < w4.heap.size := by have := hgrow.size; simp at this; omega
          have c4 : w4.cell? ⟨w.heap.size, 0, none⟩ = some (.slice ao S.length cap) := hgrow.cell (a := ⟨w.heap.size, 0, none⟩) (kept_cell ((Below.refl w3.heap.size w3).alloc (Nat.le_refl _) (.cells #[.int .i64 (gi C k)] 2)) c lS) (fun e => by have := World.ownsRow.lt oo _ e.symm; simp at this; omega)
          clear oo oq hgrow c
          go_wp2_with fail
          go_roundw
          case rel => exact ⟨k + 1, by omega, by go_num, by rw [H2.out]; exact hown', oq4, c4, hg4, hgb⟩
          case measure => simp [intOf]; omega
        | false =>
          have H2 : Hid (needTo S C r (k + 1) = needTo S C r k) := Lib.hid (by rw [needTo, if_neg (by rw [hb]; simp)])
          clear hb
          go_wp2_with fail
          go_roundw
          case rel => exact ⟨k + 1, by omega, by go_num, by rw [H2.out]; exact oo, oq, c, lq, B⟩
          case measure => simp [intOf]; omega
      · have ek : Hid (k = C.length) := Lib.hid (by omega)
        go_wp2_with fail
        go_ret2
        exact ⟨_, by rw [HQ0.out]; rfl, by rw [HV.out, ← ek.out]; exact oo.rebase (by omega), B⟩
  · have hqn : (eCov S C r != 0) = true := by simpa using hq
    have HV : Hid (vNeed S C r = []) := Lib.hid (by unfold vNeed; rw [if_neg hq])
    clear hq
    go_enter Try.func40, Try.ntmps40
    go_wp2_with fail
    refine (l02Code_any ao S cap hn ac C capc hnc r _ (hS.below B0) (hC.below B0)).mono ?_
    rintro e w1 ⟨rfl, hb⟩
    go_wp2_with fail
    go_ret2
    exact ⟨_, rfl, by rw [HV.out]; exact own_nil _ _, B0.trans (hb.mono B0.size)⟩

end Go.Proofs.Ytjjcpbhmpjedoaa

namespace Go.Proofs.Ytjjcpbhmpjedoaa
open Go.RowKit Cv
set_option linter.unusedVariables false
set_option linter.unusedSimpArgs false
set_option maxRecDepth 100000

set_option maxHeartbeats 4000000 in
theorem spec_LeanCode (ao : Option Addr) (S : List Int) (cap : Nat) (hn : S.length ≤ 4294967296) (ac : Option Addr) (C : List Int) (capc : Nat) (hnc : C.length ≤ 4294967296) (r : Int) (hr : -9223372036854775808 ≤ r ∧ r ≤ 9223372036854775807) (w : World) (hS : Ints w ao S) (hC : Ints w ac C) :
    Calls Try.prog 36 #[.agg #[.slice ao S.length cap], .slice ac C.length capc, .int .i64 r] w fun e w' => ∃ v, e = .returned (.tuple #[v, .int .i64 (eCov S C r)]) ∧ OwnInts w' w.heap.size v (vLean S C r) ∧ Below w.heap.size w w' := by
  have B0 : Below w.heap.size w (w.alloc (.cells #[.slice ao S.length cap] 26)) := by go_grown
  have c0 := cell_new w (.slice ao S.length cap) 26
  have l0 := lt_alloc w (.cells #[.slice ao S.length cap] 26)
  by_cases hq : eCov S C r = 0
  · obtain ⟨hz, r1, r2⟩ := eCov_zero hq
    have hqn : (eCov S C r != 0) = false := by simp [hq]
    obtain ⟨hSp, hc1, hc2⟩ := eCode_zero hz
    obtain ⟨N1, N2⟩ := nW_bd hSp
    have hlen := code_len hSp hc1 hc2
    have HSp := Lib.hid hSp
    have HC1 : Hid (∀ i, i < C.length → 0 ≤ gi C i ∧ gi C i ≤ 9223372036854775807) := Lib.hid fun i h => by have := hc1 i h; omega
    obtain ⟨N, hN⟩ : ∃ N : Nat, nW S = (N : Int) := ⟨(nW S).toNat, by omega⟩
    have HN := Lib.hid hN
    have HQ0 := Lib.hid hq
    have HV : Hid (vLean S C r = lnTo S C r C.length) := Lib.hid (by unfold vLean; rw [if_pos hq])
    have HT : ∀ k, Hid ((lnT S C r k).length = N) := fun k => Lib.hid (by rw [lnT_len, hN]; rfl)
    have HNN : Hid ((nW S).toNat = N) := Lib.hid (by omega)
    have N3 : N ≤ 1024 := by omega
    clear hq hz hN hc1 hc2 hSp
    go_enter Try.func36, Try.ntmps36
    go_wp2_with fail
    refine (l02Code_any ao S cap hn ac C capc hnc r _ (hS.below B0) (hC.below B0)).mono ?_
    rintro e w1 ⟨rfl, hb⟩
    replace c0 := kept_cell hb c0 l0
    replace l0 := lt_of_below hb l0
    have B1 : Below w.heap.size w w1 := B0.trans (hb.mono B0.size)
    have hs1 := B1.size
    have l1 := l0
    clear hb B0
    go_wp2_with fail
    refine (l02Times_any ao S cap HSp.out ac C capc (by omega) HC1.out r N HN _ (hS.below B1) (hC.below B1)).mono ?_
    rintro e w2 ⟨q, rfl, oq, hb⟩
    replace c0 := kept_cell hb c0 l0
    replace l0 := lt_of_below hb l0
    have B2 : Below w.heap.size w w2 := B1.trans (hb.mono B1.size)
    have hs2 := B2.size
    have hq1 := oq.base_le
    replace oq := (oq.alloc (.cells #[] 2)).rebase (base' := w.heap.size) (by omega)
    have oo := own_empty w2 (q + 1) (by omega) rfl
    have B3 := B2.alloc hs2 (.cells #[] 2)
    replace c0 := kept_cell ((Below.refl w2.heap.size w2).alloc (Nat.le_refl _) (.cells #[] 2)) c0 l0
    have g0 : w.heap.size < q := by omega
    clear hb B1 B2 hs1
    go_wp2_with fail
    go_loopw [10, 11] (fun v i wr => ∃ k : Nat, k ≤ C.length ∧ i = .int .i64 k ∧ OwnInts wr (q + 1) v (lnTo S C r k) ∧ OwnInts wr w.heap.size (.slice (some ⟨q, 0, none⟩) N N) (lnT S C r k) ∧ wr.cell? ⟨w.heap.size, 0, none⟩ = some (.slice ao S.length cap) ∧ q < wr.heap.size ∧ Below w.heap.size w wr) (fun _ i _ => C.length - (intOf i).toNat)
    case atStart => exact ⟨0, Nat.zero_le _, rfl, oo, oq, c0, by simp; omega, B3⟩
    case round =>
      clear oo oq B3 hs2 hq1 c0
      obtain ⟨k, hk, rfl, oo, oq, c, lq, B⟩ := hrel
      by_cases hlt : k < C.length
      · obtain ⟨b, o, rfl, hbl, hc⟩ := hC.at hlt
        have hck : wr.cell? ⟨b, o + k, none⟩ = some (.int .i64 (gi C k)) := kept_cell B (hc k hlt) hbl
        obtain ⟨x1, x2⟩ := HC1.out k hlt
        have hbw : b < wr.heap.size := lt_of_below B hbl
        have hpl := lnTo_len S C r k
        have lS : w.heap.size < wr.heap.size := by omega
        clear hc
        go_wp2_with fail
        go_region_held3 (fun w' => w'.cell? ⟨w.heap.size, 0, none⟩ = some (.slice ao S.length cap) ∧ w'.cell? ⟨b, o + k, none⟩ = some (.int .i64 (gi C k))) (first | exact ⟨c, hck⟩ | exact ⟨kept_cell hb3 c lS, kept_cell hb3 hck hbw⟩) (first | (go_at_call 81; refine (l02Needed_any ao S cap HSp.out (some ⟨q, 0, none⟩) (lnT S C r k) N _ (HT k) (gi C k) x1 x2 r HN _ (hS.below B.drew) (own_ints oq.drew)).mono ?_; rintro e w3 ⟨rfl, hb3'⟩; have hb3 : Below wr.heap.size wr w3 := (Below.refl _ wr).drew.trans hb3'))
        replace c := kept_cell hb3 c lS
        replace hck := kept_cell hb3 hck hbw
        replace oq := oq.below hb3
        replace oo := oo.below hb3
        replace lq := lt_of_below hb3 lq
        have sB := B.size
        have lq' : q < w3.heap.size := lq
        replace B := B.trans (hb3.mono B.size)
        replace lS := lt_of_below hb3 lS
        clear hb3 hb3' hbw
        cases hb : needB (lnT S C r k) S (gi C k) r with
        | true =>
          have H2 : Hid (lnTo S C r (k + 1) = lnTo S C r k ++ [gi C k]) := Lib.hid (by rw [lnTo, if_pos hb])
          have H3 : Hid (lnT S C r (k + 1) = lnT S C r k) := Lib.hid (by rw [lnT, if_pos hb])
          clear hb
          go_wp2_with (at_builtin; refine wpList_append_int rfl _ _ rfl (q + 1) _ _ rfl (oo.alloc _) w3.heap.size _ rfl (cell_new _ _ _) (by omega) (by rw [World.size_alloc]; omega) ?_; intro v' w4 hown' hgrow)
          have hgb := grown_below (B.alloc B.size _) (by rw [World.size_alloc]; omega) hgrow (oo.alloc _) (by omega)
          have oq4 := (oq.alloc _).kept hgrow (.inr (fun e => by have := World.ownsRow.lt oo _ e.symm; simp at this; omega))
          have hg4 : q < w4.heap.size := by have := hgrow.size; simp at this; omega
          have c4 : w4.cell? ⟨w.heap.size, 0, none⟩ = some (.slice ao S.length cap) := hgrow.cell (a := ⟨w.heap.size, 0, none⟩) (kept_cell ((Below.refl w3.heap.size w3).alloc (Nat.le_refl _) (.cells #[.int .i64 (gi C k)] 2)) c lS) (fun e => by have := World.ownsRow.lt oo _ e.symm; simp at this; omega)
          clear oo oq hgrow c
          go_wp2_with fail
          go_roundw
          case rel => exact ⟨k + 1, by omega, by go_num, by rw [H2.out]; exact hown', by rw [H3.out]; exact oq4, c4, hg4, hgb⟩
          case measure => simp [intOf]; omega
        | false =>
          have H2 : Hid (lnTo S C r (k + 1) = lnTo S C r k) := Lib.hid (by rw [lnTo, if_neg (by rw [hb]; simp)])
          have H3 : Hid (lnT S C r (k + 1) = decL (lnT S C r k) (ballW S (gi C k) r)) := Lib.hid (by rw [lnT, if_neg (by rw [hb]; simp)])
          clear hb
          have hbw3 : b < w3.heap.size := lt_of_below B hbl
          go_wp2_with fail
          go_region_held3 (fun w' => w'.cell? ⟨w.heap.size, 0, none⟩ = some (.slice ao S.length cap) ∧ w'.cell? ⟨b, o + k, none⟩ = some (.int .i64 (gi C k))) (first | exact ⟨c, hck⟩ | exact ⟨kept_cell hb5 c lS, kept_cell hb5 hck hbw3⟩) (first | (go_at_call 64; refine (l01Ball_any ao S cap HSp.out (gi C k) x1 x2 r _ (hS.below B.drew)).mono ?_; rintro e w5 ⟨v, rfl, ob, hb5'⟩; have hb5 : Below w3.heap.size w3 w5 := (Below.refl _ w3).drew.trans hb5'))
          replace c := kept_cell hb5 c lS
          replace oq := oq.below hb5
          replace oo := oo.below hb5
          replace lq := lt_of_below hb5 lq
          have hq3 := oq.base_le
          have lq3 : q < w3.heap.size := by have := lq'; omega
          replace B := B.trans (hb5.mono B.size)
          obtain ⟨a_, k_, hv⟩ := ob.shape
          subst hv
          have HB : Hid (∀ t, t < (ballW S (gi C k) r).length → 0 ≤ gi (ballW S (gi C k) r) t ∧ gi (ballW S (gi C k) r) t < N) := Lib.hid fun t ht => by
            have h1 : 0 ≤ gi (ballW S (gi C k) r) t ∧ gi (ballW S (gi C k) r) t < ((nW S).toNat : Nat) := selTo_bd _ _ t ht
            have h2 := HNN.out
            exact ⟨h1.1, by omega⟩
          have hlb := ballW_len HSp.out (gi C k) r
          obtain ⟨T0, hT0⟩ : ∃ T0, T0 = lnT S C r k := ⟨_, rfl⟩
          rw [← hT0] at oq
          have HT0 := Lib.hid hT0
          have HTb : Hid (∀ u, u < N → -1048576 ≤ gi T0 u ∧ gi T0 u ≤ 1048576) := Lib.hid fun u hu => by
            have h1 := lnT_bd S C r k u (by rw [HNN.out]; exact hu)
            rw [hT0]; omega
          have HTl : Hid (T0.length = N) := Lib.hid (by rw [hT0]; exact (HT k).out)
          clear hT0 hb5 hb5' hck
          go_wp2_with fail
          go_loopw [13] (fun i wi => ∃ (j : Nat) (U : List Int), j ≤ (ballW S (gi C k) r).length ∧ i = .int .i64 j ∧ OwnInts wi w.heap.size (.slice (some ⟨q, 0, none⟩) N N) U ∧ Hid (U.length = N ∧ ∀ u : Nat, u < N → gi U u = gi T0 u - cntIn (ballW S (gi C k) r) u j) ∧ OwnInts wi w3.heap.size (.slice a_ (ballW S (gi C k) r).length k_) (ballW S (gi C k) r) ∧ OwnInts wi (q + 1) u10 (lnTo S C r k) ∧ wi.cell? ⟨w.heap.size, 0, none⟩ = some (.slice ao S.length cap) ∧ q < wi.heap.size ∧ Below w.heap.size w wi)
            (fun i _ => (ballW S (gi C k) r).length - (intOf i).toNat)
          case atStart => exact ⟨0, T0, Nat.zero_le _, rfl, oq, Lib.hid ⟨HTl.out, fun u h => by simp [cntIn, cnt]⟩, ob, oo, c, lq, B⟩
          case round =>
            clear oq ob c lq B oo
            obtain ⟨j, U, hj, rfl, oq, HU, ob, oo, c, lq, B⟩ := hrel
            by_cases hlj : j < (ballW S (gi C k) r).length
            · obtain ⟨bb, bo, rfl, hbb, hcb⟩ := (own_ints ob).at hlj
              obtain ⟨y1, y2⟩ := HB.out j hlj
              obtain ⟨u, hu⟩ : ∃ u : Nat, gi (ballW S (gi C k) r) j = (u : Int) := ⟨(gi (ballW S (gi C k) r) j).toNat, by omega⟩
              have hcj := hcb j hlj
              rw [hu] at hcj
              have hun : u < N := by omega
              have hcell := oq.cell (k := u) (by rw [HU.out.1]; exact hun)
              have hfree := oq.free u
              obtain ⟨t1, t2⟩ := HTb.out u hun
              obtain ⟨t3, t4⟩ := cntIn_bd (ballW S (gi C k) r) u j
              have hgu := HU.out.2 u hun
              rw [hgu] at hcell
              have HY := Lib.hid hu
              clear hcb hu hgu y1 y2
              go_wp2
              go_roundw
              case rel =>
                refine ⟨j + 1, _, by omega, by go_num, oq.stored u (gi T0 u - cntIn (ballW S (gi C k) r) u j - 1), Lib.hid ⟨by rw [List.length_set]; exact HU.out.1, ?_⟩, ob.setBelow (by simp; omega) _, oo.setBelow (by simp) _, cell_set_other c (by simp; omega), by simpa using lq, B.setCell (by simp; omega) _⟩
                intro z hz
                rw [gi_set _ _ _ _ (by rw [HU.out.1]; exact hun)]
                by_cases e : z = u
                · subst e
                  rw [if_pos rfl, cntIn_yes HY.out]; omega
                · rw [if_neg e, HU.out.2 z hz, cntIn_no (by rw [HY.out]; omega)]
              case measure => simp [intOf]; omega
            · have ej : j = (ballW S (gi C k) r).length := by omega
              have e : U = decL T0 (ballW S (gi C k) r) := ext_gi (by rw [HU.out.1, decL_len, HTl.out]) fun i hi => by rw [HU.out.1] at hi; rw [HU.out.2 i hi, gi_decL _ _ _ (by rw [HTl.out]; exact hi), ej]
              rw [e, HT0.out] at oq
              clear ej e HU
              go_wp2
              go_roundw
              case rel => exact ⟨k + 1, by omega, by go_num, by rw [H2.out]; exact oo, by rw [H3.out]; exact oq, c, lq, B⟩
              case measure => simp [intOf]; omega
      · have ek : Hid (k = C.length) := Lib.hid (by omega)
        go_wp2_with fail
        go_ret2
        exact ⟨_, by rw [HQ0.out]; rfl, by rw [HV.out, ← ek.out]; exact oo.rebase (by omega), B⟩
  · have hqn : (eCov S C r != 0) = true := by simpa using hq
    have HV : Hid (vLean S C r = []) := Lib.hid (by unfold vLean; rw [if_neg hq])
    clear hq
    go_enter Try.func36, Try.ntmps36
    go_wp2_with fail
    refine (l02Code_any ao S cap hn ac C capc hnc r _ (hS.below B0) (hC.below B0)).mono ?_
    rintro e w1 ⟨rfl, hb⟩
    go_wp2_with fail
    go_ret2
    exact ⟨_, rfl, by rw [HV.out]; exact own_nil _ _, B0.trans (hb.mono B0.size)⟩

end Go.Proofs.Ytjjcpbhmpjedoaa

namespace Go.Proofs.Ytjjcpbhmpjedoaa
open Go.RowKit Cv
set_option linter.unusedVariables false
set_option linter.unusedSimpArgs false
set_option maxRecDepth 100000

def needS (PS : List (Nat → Bool)) (bf : Nat → Bool) (k : Nat) : Bool := !eqS (fun u => (bf u || behU PS k u) || pAt PS k u) (fun u => bf u || behU PS k u)
def befT (PS : List (Nat → Bool)) (lo : Bool) : Nat → Nat → Bool
  | 0 => fun _ => false
  | k + 1 => if (needS PS (befT PS lo k) k || !lo) = true then fun u => befT PS lo k u || pAt PS k u else befT PS lo k
def outT (PS : List (Nat → Bool)) (C : List Int) (lo : Bool) : Nat → List Int
  | 0 => []
  | k + 1 => if needS PS (befT PS lo k) k = true then outT PS C lo k ++ [gi C k] else outT PS C lo k
theorem outT_len (PS : List (Nat → Bool)) (C : List Int) (lo : Bool) (k : Nat) : (outT PS C lo k).length ≤ k := by
  induction k with
  | zero => simp [outT]
  | succ k ih =>
    rw [outT]
    split
    · rw [List.length_append]; simp; omega
    · omega
theorem OwnSets.kept {w w' : World} {base : Nat} {v : Value} {ps : List (Nat → Bool)} {row : Option Nat} (h : OwnSets w base v ps) (hg : w.grownBy w' row) (hne : v.ownBlock = none ∨ v.ownBlock ≠ row) : OwnSets w' base v ps := World.ownsRow.kept h hg hne
/-- a list of numbers lies in no list of sets -/
theorem own_ne_sets {w : World} {base bs g n c : Nat} {v : Value} {L : List Int} {ps : List (Nat → Bool)} (h : OwnInts w base v L) (hs : OwnSets w bs (.slice (some ⟨g, 0, none⟩) n c) ps) : v.ownBlock ≠ some g := by
  rcases hs.2 with ⟨hv, _⟩ | ⟨g', c', cur, hv, hb, hh, _⟩
  · simp at hv
  · simp only [Value.slice.injEq, Option.some.injEq, Addr.mk.injEq, and_true, true_and] at hv
    obtain ⟨rfl, rfl, rfl⟩ := hv
    rcases h.2 with ⟨rfl, _⟩ | ⟨g2, c2, cur2, rfl, _, hh2, _⟩
    · simp [Value.ownBlock]
    · intro e
      simp only [Value.ownBlock, Option.some.injEq] at e
      subst e
      rw [hh] at hh2
      simp at hh2
theorem sets_shape {w : World} {base : Nat} {v : Value} {ps : List (Nat → Bool)} (h : OwnSets w base v ps) : ∃ a c, v = .slice a ps.length c := by
  rcases h.2 with ⟨rfl, hn⟩ | ⟨g, cap, cur, rfl, _⟩
  · exact ⟨none, 0, by rw [hn]⟩
  · exact ⟨_, _, rfl⟩
theorem setsBehind_n (bs : Nat) (av : Option Addr) (K cap : Nat) (PS : List (Nat → Bool)) (hK : K = PS.length) (hl : K ≤ 1048576) (w : World) (hbs : bs ≤ w.heap.size) (hS : OwnSets w bs (.slice av K cap) PS) :
    Calls Try.prog 104 #[.slice av K cap] w fun e w' => ∃ g L, e = .returned (.slice (some ⟨g, 0, none⟩) K K) ∧ OwnSets w' w.heap.size (.slice (some ⟨g, 0, none⟩) K K) L ∧ L.length = K ∧ (∀ j, j < K → pAt L j = behU PS j) ∧ Below w.heap.size w w' := by
  subst hK; exact setsBehind_any bs av cap PS hl w hbs hS

theorem OwnSets.rebase11 {w : World} {base base' : Nat} {v : Value} {ps : List (Nat → Bool)} (h : OwnSets w base v ps) (hb : base' ≤ base) : OwnSets w base' v ps := by
  obtain ⟨h1, h2⟩ := h
  refine ⟨h1, ?_⟩
  rcases h2 with h2 | ⟨g, cap, cur, hv, hg, r⟩
  · exact Or.inl h2
  · exact Or.inr ⟨g, cap, cur, hv, by omega, r⟩

set_option maxHeartbeats 4000000 in
theorem neededOf_any (ac : Option Addr) (C : List Int) (capc : Nat) (hlen : C.length ≤ 1048576) (bs : Nat) (av : Option Addr) (cs : Nat) (PS : List (Nat → Bool)) (hKP0 : PS.length = C.length) (lo : Bool) (w : World) (hbs : bs ≤ w.heap.size) (hC : Ints w ac C) (oS0 : OwnSets w bs (.slice av C.length cs) PS) :
    Calls Try.prog 76 #[.slice ac C.length capc, .slice av C.length cs, .bool lo] w fun e w' => ∃ v, e = .returned v ∧ OwnInts w' w.heap.size v (outT PS C lo C.length) ∧ Below w.heap.size w w' := by
  have hKP : Hid (PS.length = C.length) := Lib.hid hKP0
  clear hKP0
  have hls : RowIn (.slice av C.length cs) bs w.heap.size := World.ownsRow.lt oS0
  have B0 : Below w.heap.size w (w.alloc (.cells #[] 2)) := by go_grown
  have oo := own_empty w w.heap.size (by simp) (n := w.heap.size) (by simp)
  have oS := oS0.below B0
  have hq1 : w.heap.size < (w.alloc (.cells #[] 2)).heap.size := by simp
  obtain ⟨w3, hw3⟩ : ∃ w3, w3 = w.alloc (.cells #[] 2) := ⟨_, rfl⟩
  have HW3 := Lib.hid hw3
  go_enter Try.func76, Try.ntmps76
  go_wp2_with fail
  refine (setsBehind_n bs av C.length cs PS hKP.out.symm hlen _ (by simp; omega) oS).mono ?_
  rintro e w4 ⟨gb, LB, rfl, oB, hLl, hLB, hb4⟩
  have HL := Lib.hid (And.intro hLl hLB)
  have B4 := B0.trans (hb4.mono B0.size)
  replace oo := oo.below hb4
  replace oS := oS.below hb4
  have lgb := oB.base_le
  have hz := rowz_new w4 rfl
  clear hLl hLB hb4 B0 hq1 hw3 HW3 w3
  go_wp2_with (first | (refine wpList_st16 rfl _ _ rfl hz (fun _ => false) rfl (by rw [setA_none]; rfl) ?_))
  obtain ⟨W5, bq, hW5⟩ : ∃ W5 bq, W5 = (w4.alloc (.cells #[.int .u64 0, .int .u64 0, .int .u64 0, .int .u64 0, .int .u64 0, .int .u64 0, .int .u64 0, .int .u64 0, .int .u64 0, .int .u64 0, .int .u64 0, .int .u64 0, .int .u64 0, .int .u64 0, .int .u64 0, .int .u64 0] 75)).setRow w4.heap.size (setA fun _ => false) ∧ bq = w4.heap.size := ⟨_, _, rfl, rfl⟩
  have r5 : RowAt W5 bq (fun _ => false) := by rw [hW5.1, hW5.2]; exact row_set hz
  have h45 : Below w4.heap.size w4 W5 := by rw [hW5.1]; exact ((Below.refl _ w4).alloc (Nat.le_refl _) _).grown (grown_setRow _) (by simp) (fun j e => by cases e; exact Nat.le_refl _)
  rw [← hW5.1, ← hW5.2]
  have hlb : gb < bq := by omega
  have hwb : w.heap.size ≤ bq := by have := B4.size; omega
  have hgw : w.heap.size ≤ gb := by have := lgb.1; simp at this; omega
  clear hW5 hz
  replace oo := oo.below h45
  replace oS := oS.below h45
  replace oB := (oB.below h45).rebase11 (base' := w.heap.size) (by simp)
  have B5 := B4.trans (h45.mono B4.size)
  clear B4 h45 lgb oS0
  go_loopw [7, 20] (fun v i wr => ∃ k : Nat, k ≤ C.length ∧ i = .int .i64 k ∧ OwnInts wr w.heap.size v (outT PS C lo k) ∧ RowAt wr bq (befT PS lo k) ∧ OwnSets wr bs (.slice av C.length cs) PS ∧ OwnSets wr w.heap.size (.slice (some ⟨gb, 0, none⟩) C.length C.length) LB ∧ Below w.heap.size w wr) (fun _ i _ => C.length - (intOf i).toNat)
  case atStart => exact ⟨0, Nat.zero_le _, rfl, oo, r5, oS, oB, B5⟩
  case round =>
    clear oo r5 oS oB B5
    obtain ⟨k, hk, rfl, oo, rb, oS, oB, B⟩ := hrel
    by_cases hlt : k < C.length
    · obtain ⟨b, o, rfl, hbl, hc⟩ := hC.at hlt
      have hck : wr.cell? ⟨b, o + k, none⟩ = some (.int .i64 (gi C k)) := kept_cell B (hc k hlt) hbl
      obtain ⟨gs, cs', hv⟩ := sets_some oS (by intro h; rw [h] at hKP; have := hKP.out; simp at this; omega)
      simp only [Value.slice.injEq] at hv
      obtain ⟨rfl, hv2, rfl⟩ := hv
      clear hv2
      have lgs := hls gs rfl
      have cS := oS.cells k (by rw [hKP.out]; exact hlt)
      have cB := oB.cells k (by rw [HL.out.1]; exact hlt)
      rw [HL.out.2 k hlt] at cB
      have b1 : (k : Int) < (C.length : Int) := by omega
      have b2 : (0 : Int) ≤ (k : Int) := by omega
      have hpl := outT_len PS C lo k
      obtain ⟨bf, hbf⟩ : ∃ bf, bf = befT PS lo k := ⟨_, rfl⟩
      obtain ⟨BU, hBU⟩ : ∃ BU, BU = behU PS k := ⟨_, rfl⟩
      obtain ⟨PK, hPK⟩ : ∃ PK, PK = pAt PS k := ⟨_, rfl⟩
      rw [← hbf] at rb
      rw [← hBU] at cB
      rw [← hPK] at cS
      have Hbf := Lib.hid hbf
      have HBU := Lib.hid hBU
      have HPK := Lib.hid hPK
      have sB := B.size
      clear hbf hBU hPK hc
      go_wp2_with fail
      refine wp_region_held_drew (S := fun w' => RowAt w' bq bf ∧ (∀ j, j < 16 → w'.cell? ⟨gb, k * 16 + j, none⟩ = some (.int .u64 (partN BU j)))) (by kernel_rfl) ⟨rb, cB⟩ (fun hHeld => ?_)
      refine wpAnyH_take (i := 0) (v := .agg (setA bf)) rfl (by kernel_rfl) (by kernel_rfl) (by kernel_rfl) (fun _ _ _ h => h) (Or.inl ⟨by rfl, ?_⟩) (by assumption) ?_
      · (intro W hSw; exact exec_ldRow hSw.1 _ (.tmp 9) (by kernel_rfl) (by kernel_rfl))
      (try simp only [Act.put, List.setIfInBounds_toArray, List.set_cons_zero, List.set_cons_succ])
      refine wpAnyH_take (i := 1) (v := ?_) rfl (by kernel_rfl) (by kernel_rfl) (by kernel_rfl) (fun _ _ _ h => h) (Or.inl ⟨by rfl, ?_⟩) (by assumption) ?_
      rotate_left
      · (intro W hSw; go_simp; try (with_reducible rfl))
      (try simp only [Act.put, List.setIfInBounds_toArray, List.set_cons_zero, List.set_cons_succ])
      refine wpAnyH_take (i := 2) (v := ?_) rfl (by kernel_rfl) (by kernel_rfl) (by kernel_rfl) (fun _ _ _ h => h) (Or.inl ⟨by rfl, ?_⟩) (by assumption) ?_
      rotate_left
      · (intro W hSw; go_simp; try (with_reducible rfl))
      (try simp only [Act.put, List.setIfInBounds_toArray, List.set_cons_zero, List.set_cons_succ])
      refine wpAnyH_take (i := 3) (v := .pointer (some ⟨gb, k * 16, none⟩)) rfl (by kernel_rfl) (by kernel_rfl) (by kernel_rfl) (fun _ _ _ h => h) (Or.inl ⟨by rfl, ?_⟩) (by assumption) ?_
      · (intro W hSw; go_simp)
      (try simp only [Act.put, List.setIfInBounds_toArray, List.set_cons_zero, List.set_cons_succ])
      refine wpAnyH_take (i := 4) (v := .agg (setA BU)) rfl (by kernel_rfl) (by kernel_rfl) (by kernel_rfl) (fun _ _ _ h => h) (Or.inl ⟨by rfl, ?_⟩) (by assumption) ?_
      · (intro W hSw; exact exec_ldAt hSw.2 _ (.tmp 28) (by kernel_rfl) (by kernel_rfl))
      (try simp only [Act.put, List.setIfInBounds_toArray, List.set_cons_zero, List.set_cons_succ])
      refine wpAnyH_ready (rs := [5, 6]) (by kernel_rfl) (by simp) ?_
      refine AllReadyH.cons rfl (fun K hK => ?_) ?_
      · go_simp
        (go_at_call 105; refine (with_any bf BU _).mono ?_)
        rintro e x1 ⟨rfl, h1'⟩
        have h1 : Below wr.heap.size wr x1 := (Below.refl _ wr).drew.trans h1'
        clear h1'
        refine hK.out _ _ (⟨rb.below h1 rb.lt, fun j hj => (h1.cell (p := ⟨gb, k * 16 + j, none⟩) oB.base_le.2).trans (cB j hj)⟩) (fun hHeld => ?_)
        clear hK K
        (try simp only [Act.put, List.setIfInBounds_toArray, List.set_cons_zero, List.set_cons_succ])
        have z1 := rowz_new x1 rfl
        have h2 : Below wr.heap.size wr (x1.alloc (.cells #[.int .u64 0, .int .u64 0, .int .u64 0, .int .u64 0, .int .u64 0, .int .u64 0, .int .u64 0, .int .u64 0, .int .u64 0, .int .u64 0, .int .u64 0, .int .u64 0, .int .u64 0, .int .u64 0, .int .u64 0, .int .u64 0] 75)) := h1.alloc h1.size _
        refine wpAnyH_ready (rs := [6]) (by kernel_rfl) (by simp) ?_
        refine AllReadyH.cons rfl (fun K hK => ?_) AllReadyH.nil
        go_simp
        refine hK.out _ _ (⟨rb.below h2 rb.lt, fun j hj => (h2.cell (p := ⟨gb, k * 16 + j, none⟩) oB.base_le.2).trans (cB j hj)⟩) (fun hHeld => ?_)
        clear hK K
        (try simp only [Act.put, List.setIfInBounds_toArray, List.set_cons_zero, List.set_cons_succ])
        refine wpAnyH_ready (rs := [7]) (by kernel_rfl) (by simp) ?_
        refine AllReadyH.cons rfl (fun K hK => ?_) AllReadyH.nil
        rw [if_pos (by kernel_rfl)]
        refine wp_st16 (.tmp 12) (.tmp 30) (by kernel_rfl) z1 (fun u => bf u || BU u) (by kernel_rfl) (by kernel_rfl) ?_
        have h3 : Below wr.heap.size wr ((x1.alloc (.cells #[.int .u64 0, .int .u64 0, .int .u64 0, .int .u64 0, .int .u64 0, .int .u64 0, .int .u64 0, .int .u64 0, .int .u64 0, .int .u64 0, .int .u64 0, .int .u64 0, .int .u64 0, .int .u64 0, .int .u64 0, .int .u64 0] 75)).setRow x1.heap.size (setA fun u => bf u || BU u)) := h2.grown (grown_setRow _) h2.size (fun j e => by cases e; exact h1.size)
        have r3 := row_set (q := fun u => bf u || BU u) z1
        refine hK.out _ _ (⟨rb.below h3 rb.lt, fun j hj => (h3.cell (p := ⟨gb, k * 16 + j, none⟩) oB.base_le.2).trans (cB j hj)⟩) (fun hHeld => ?_)
        clear hK K
        (try simp only [Act.put, List.setIfInBounds_toArray, List.set_cons_zero, List.set_cons_succ])
        refine wpAnyH_done (by kernel_rfl) ?_ _
        obtain ⟨W4, q, hW4⟩ : ∃ W4 q, W4 = (x1.alloc (.cells #[.int .u64 0, .int .u64 0, .int .u64 0, .int .u64 0, .int .u64 0, .int .u64 0, .int .u64 0, .int .u64 0, .int .u64 0, .int .u64 0, .int .u64 0, .int .u64 0, .int .u64 0, .int .u64 0, .int .u64 0, .int .u64 0] 75)).setRow x1.heap.size (setA fun u => bf u || BU u) ∧ q = x1.heap.size := ⟨_, _, rfl, rfl⟩
        rw [← hW4.1] at h3 r3 ⊢
        rw [← hW4.2] at r3 ⊢
        clear z1 h1 h2 hW4 hHeld
        have hgsW := oS.base_le.2
        replace cS : ∀ j, j < 16 → W4.cell? ⟨gs, k * 16 + j, none⟩ = some (.int .u64 (partN PK j)) := fun j hj => (h3.cell (p := ⟨gs, k * 16 + j, none⟩) hgsW).trans (cS j hj)
        replace hck := kept_cell h3 hck (lt_of_below B hbl)
        replace oo := oo.below h3
        replace rb := rb.below h3 rb.lt
        replace oS := oS.below h3
        replace oB := oB.below h3
        replace B := B.trans (h3.mono B.size)
        clear h3 cB sB hgsW
        have sB := B.size
        obtain ⟨nd, hnd⟩ : ∃ nd, nd = !eqS (fun u => (bf u || BU u) || PK u) (fun u => bf u || BU u) := ⟨_, rfl⟩
        have HND : Hid (nd = needS PS (befT PS lo k) k) := Lib.hid (by rw [hnd, Hbf.out, HBU.out, HPK.out]; rfl)
        have Hnd := Lib.hid hnd
        clear hnd
        go_wp2_with fail
        refine wp_region_held_drew (S := fun w' => RowAt w' q (fun u => bf u || BU u) ∧ (∀ j, j < 16 → w'.cell? ⟨gs, k * 16 + j, none⟩ = some (.int .u64 (partN PK j)))) (by kernel_rfl) ⟨r3, cS⟩ (fun hHeld => ?_)
        refine wpAnyH_take (i := 0) (v := .agg (setA (fun u => bf u || BU u))) rfl (by kernel_rfl) (by kernel_rfl) (by kernel_rfl) (fun _ _ _ h => h) (Or.inl ⟨by rfl, ?_⟩) (by assumption) ?_
        · (intro W hSw; exact exec_ldRow hSw.1 _ (.tmp 12) (by kernel_rfl) (by kernel_rfl))
        (try simp only [Act.put, List.setIfInBounds_toArray, List.set_cons_zero, List.set_cons_succ])
        refine wpAnyH_take (i := 1) (v := ?_) rfl (by kernel_rfl) (by kernel_rfl) (by kernel_rfl) (fun _ _ _ h => h) (Or.inl ⟨by rfl, ?_⟩) (by assumption) ?_
        rotate_left
        · (intro W hSw; go_simp; try (with_reducible rfl))
        (try simp only [Act.put, List.setIfInBounds_toArray, List.set_cons_zero, List.set_cons_succ])
        refine wpAnyH_take (i := 2) (v := ?_) rfl (by kernel_rfl) (by kernel_rfl) (by kernel_rfl) (fun _ _ _ h => h) (Or.inl ⟨by rfl, ?_⟩) (by assumption) ?_
        rotate_left
        · (intro W hSw; go_simp; try (with_reducible rfl))
        (try simp only [Act.put, List.setIfInBounds_toArray, List.set_cons_zero, List.set_cons_succ])
        refine wpAnyH_take (i := 3) (v := .pointer (some ⟨gs, k * 16, none⟩)) rfl (by kernel_rfl) (by kernel_rfl) (by kernel_rfl) (fun _ _ _ h => h) (Or.inl ⟨by rfl, ?_⟩) (by assumption) ?_
        · (intro W hSw; go_simp)
        (try simp only [Act.put, List.setIfInBounds_toArray, List.set_cons_zero, List.set_cons_succ])
        refine wpAnyH_take (i := 4) (v := .agg (setA PK)) rfl (by kernel_rfl) (by kernel_rfl) (by kernel_rfl) (fun _ _ _ h => h) (Or.inl ⟨by rfl, ?_⟩) (by assumption) ?_
        · (intro W hSw; exact exec_ldAt hSw.2 _ (.tmp 34) (by kernel_rfl) (by kernel_rfl))
        (try simp only [Act.put, List.setIfInBounds_toArray, List.set_cons_zero, List.set_cons_succ])
        refine wpAnyH_take (i := 6) (v := .agg (setA (fun u => bf u || BU u))) rfl (by kernel_rfl) (by kernel_rfl) (by kernel_rfl) (fun _ _ _ h => h) (Or.inl ⟨by rfl, ?_⟩) (by assumption) ?_
        · (intro W hSw; exact exec_ldRow hSw.1 _ (.tmp 12) (by kernel_rfl) (by kernel_rfl))
        (try simp only [Act.put, List.setIfInBounds_toArray, List.set_cons_zero, List.set_cons_succ])
        refine wpAnyH_ready (rs := [5]) (by kernel_rfl) (by simp) ?_
        refine AllReadyH.cons rfl (fun K hK => ?_) AllReadyH.nil
        go_simp
        (go_at_call 105; refine (with_any (fun u => bf u || BU u) PK _).mono ?_)
        rintro e x2 ⟨rfl, h4'⟩
        have h4 : Below W4.heap.size W4 x2 := (Below.refl _ W4).drew.trans h4'
        clear h4'
        have hgsW := oS.base_le.2
        replace cS : ∀ j, j < 16 → x2.cell? ⟨gs, k * 16 + j, none⟩ = some (.int .u64 (partN PK j)) := fun j hj => (h4.cell (p := ⟨gs, k * 16 + j, none⟩) hgsW).trans (cS j hj)
        refine hK.out _ _ (⟨r3.below h4 r3.lt, cS⟩) (fun hHeld => ?_)
        clear hK K
        (try simp only [Act.put, List.setIfInBounds_toArray, List.set_cons_zero, List.set_cons_succ])
        refine wpAnyH_take (i := 7) (v := .bool nd) rfl (by kernel_rfl) (by kernel_rfl) (by kernel_rfl) (fun _ _ _ h => h) (Or.inl ⟨by rfl, ?_⟩) (by assumption) ?_
        · (intro W hSw; rw [Hnd.out]; exact exec_neSet (t := 75) (p := (fun u => (bf u || BU u) || PK u)) (q := (fun u => bf u || BU u)) _ (.tmp 36) (.tmp 37) (by kernel_rfl) (by kernel_rfl) (by kernel_rfl))
        (try simp only [Act.put, List.setIfInBounds_toArray, List.set_cons_zero, List.set_cons_succ])
        refine wpAnyH_take (i := 8) (v := ?_) rfl (by kernel_rfl) (by kernel_rfl) (by kernel_rfl) (fun _ _ _ h => h) (Or.inl ⟨by rfl, ?_⟩) (by assumption) ?_
        rotate_left
        · (intro W hSw; go_simp; try (with_reducible rfl))
        (try simp only [Act.put, List.setIfInBounds_toArray, List.set_cons_zero, List.set_cons_succ])
        refine wpAnyH_done (by kernel_rfl) ?_ _
        (try simp only [List.getElem_toArray, List.getElem_cons_succ, List.getElem_cons_zero, Act.put, List.setIfInBounds_toArray, List.set_cons_zero, List.set_cons_succ])
        replace hck := kept_cell h4 hck (lt_of_below B hbl)
        replace oo := oo.below h4
        replace rb := rb.below h4 rb.lt
        replace oS := oS.below h4
        replace oB := oB.below h4
        replace B := B.trans (h4.mono B.size)
        clear h4 hgsW r3 hHeld Hnd
        replace sB := B.size
        cases nd with
        | true =>
          have H2 : Hid (outT PS C lo (k + 1) = outT PS C lo k ++ [gi C k]) := Lib.hid (by rw [outT, ← HND.out]; rfl)
          have H3 : Hid (befT PS lo (k + 1) = fun u => bf u || PK u) := Lib.hid (by rw [befT, ← HND.out, Hbf.out, HPK.out]; rfl)
          clear HND
          go_wp2_with (at_builtin; refine wpList_append_int rfl _ _ rfl w.heap.size _ _ rfl (oo.alloc _) x2.heap.size _ rfl (cell_new _ _ _) (by omega) (by rw [World.size_alloc]; omega) ?_; intro v' x3 hown' hgrow)
          replace B := grown_below (B.alloc B.size _) (by rw [World.size_alloc]; omega) hgrow (oo.alloc _) (by omega)
          replace rb : RowAt x3 bq bf := (hgrow.block bq (rb.alloc _).lt (fun e => own_not_set oo rb e.symm)).trans (rb.alloc _)
          have nS := own_ne_sets oo oS
          have nB := own_ne_sets oo oB
          replace oS := (oS.alloc _).kept hgrow (.inr (fun e => nS e.symm))
          replace oB := (oB.alloc _).kept hgrow (.inr (fun e => nB e.symm))
          replace oo := hown'
          replace cS := oS.cells k (by rw [hKP.out]; exact hlt)
          rw [← HPK.out] at cS
          clear hown' hgrow nS nB hck sB
          go_wp2_with fail
          refine wp_region_held_drew (S := fun w' => ∀ j, j < 16 → w'.cell? ⟨gs, k * 16 + j, none⟩ = some (.int .u64 (partN PK j))) (by kernel_rfl) cS (fun hHeld => ?_)
          refine wpAnyH_take (i := 1) (v := ?_) rfl (by kernel_rfl) (by kernel_rfl) (by kernel_rfl) (fun _ _ _ h => h) (Or.inl ⟨by rfl, ?_⟩) (by assumption) ?_
          rotate_left
          · (intro W hSw; go_simp; try (with_reducible rfl))
          (try simp only [Act.put, List.setIfInBounds_toArray, List.set_cons_zero, List.set_cons_succ])
          refine wpAnyH_take (i := 2) (v := ?_) rfl (by kernel_rfl) (by kernel_rfl) (by kernel_rfl) (fun _ _ _ h => h) (Or.inl ⟨by rfl, ?_⟩) (by assumption) ?_
          rotate_left
          · (intro W hSw; go_simp; try (with_reducible rfl))
          (try simp only [Act.put, List.setIfInBounds_toArray, List.set_cons_zero, List.set_cons_succ])
          refine wpAnyH_take (i := 3) (v := .pointer (some ⟨gs, k * 16, none⟩)) rfl (by kernel_rfl) (by kernel_rfl) (by kernel_rfl) (fun _ _ _ h => h) (Or.inl ⟨by rfl, ?_⟩) (by assumption) ?_
          · (intro W hSw; go_simp)
          (try simp only [Act.put, List.setIfInBounds_toArray, List.set_cons_zero, List.set_cons_succ])
          refine wpAnyH_take (i := 4) (v := .agg (setA PK)) rfl (by kernel_rfl) (by kernel_rfl) (by kernel_rfl) (fun _ _ _ h => h) (Or.inl ⟨by rfl, ?_⟩) (by assumption) ?_
          · (intro W hSw; exact exec_ldAt hSw _ (.tmp 52) (by kernel_rfl) (by kernel_rfl))
          (try simp only [Act.put, List.setIfInBounds_toArray, List.set_cons_zero, List.set_cons_succ])
          refine wpAnyH_ready (rs := [0]) (by kernel_rfl) (by simp) ?_
          refine AllReadyH.cons rfl (fun K hK => ?_) AllReadyH.nil
          have rbd : RowAt x3.drew bq bf := rb
          (first | (rw [if_pos (by kernel_rfl)]; refine wp_ld16 (.tmp 9) (by kernel_rfl) rbd (by kernel_rfl) ?_) | (refine wp_ld16 (.tmp 9) (by kernel_rfl) rbd (by kernel_rfl) ?_))
          clear rbd
          refine hK.out _ _ (cS) (fun hHeld => ?_)
          clear hK K
          (try simp only [Act.put, List.setIfInBounds_toArray, List.set_cons_zero, List.set_cons_succ])
          refine wpAnyH_ready (rs := [5]) (by kernel_rfl) (by simp) ?_
          refine AllReadyH.cons rfl (fun K hK => ?_) AllReadyH.nil
          go_simp
          (go_at_call 105; refine (with_any bf PK _).mono ?_)
          rintro e x5 ⟨rfl, h5'⟩
          have h5 : Below x3.heap.size x3 x5 := (Below.refl _ x3).drew.trans h5'
          clear h5'
          have hgsW := oS.base_le.2
          replace cS : ∀ j, j < 16 → x5.cell? ⟨gs, k * 16 + j, none⟩ = some (.int .u64 (partN PK j)) := fun j hj => (h5.cell (p := ⟨gs, k * 16 + j, none⟩) hgsW).trans (cS j hj)
          replace oo := oo.below h5
          replace rb := rb.below h5 rb.lt
          replace oS := oS.below h5
          replace oB := oB.below h5
          replace B := B.trans (h5.mono B.size)
          clear h5 hgsW
          refine hK.out _ _ (cS) (fun hHeld => ?_)
          clear hK K
          (try simp only [Act.put, List.setIfInBounds_toArray, List.set_cons_zero, List.set_cons_succ])
          refine wpAnyH_ready (rs := [6]) (by kernel_rfl) (by simp) ?_
          refine AllReadyH.cons rfl (fun K hK => ?_) AllReadyH.nil
          rw [if_pos (by kernel_rfl)]
          refine wp_st16 (.tmp 9) (.tmp 54) (by kernel_rfl) rb (fun u => bf u || PK u) (by kernel_rfl) (by kernel_rfl) ?_
          have g6 := grown_setRow (w := x5) (b := bq) (setA (fun u => bf u || PK u))
          have hne1 : gs ≠ bq := by omega
          have hne2 : gb ≠ bq := by omega
          replace cS : ∀ j, j < 16 → (x5.setRow bq (setA (fun u => bf u || PK u))).cell? ⟨gs, k * 16 + j, none⟩ = some (.int .u64 (partN PK j)) := fun j hj => g6.cell (a := ⟨gs, k * 16 + j, none⟩) (cS j hj) (fun e => hne1 (Option.some.inj e))
          replace oo := oo.kept g6 (.inr (own_not_set oo rb))
          replace oS := oS.kept g6 (.inr (fun e => hne1 (Option.some.inj e)))
          replace oB := oB.kept g6 (.inr (fun e => hne2 (Option.some.inj e)))
          replace B := B.grown g6 B.size (fun j e => by cases e; omega)
          replace rb := row_set (q := (fun u => bf u || PK u)) rb
          clear g6
          refine hK.out _ _ cS (fun hHeld => ?_)
          clear hK K
          (try simp only [Act.put, List.setIfInBounds_toArray, List.set_cons_zero, List.set_cons_succ])
          refine wpAnyH_done (by kernel_rfl) ?_ _
          go_wp2_with fail
          go_roundw
          case rel => exact ⟨k + 1, by omega, by go_num, by rw [H2.out]; exact oo, by rw [H3.out]; exact rb, oS, oB, B⟩
          case measure => simp [intOf]; omega
        | false =>
          have H2 : Hid (outT PS C lo (k + 1) = outT PS C lo k) := Lib.hid (by rw [outT, ← HND.out]; rfl)
          cases lo with
          | false =>
            have H3 : Hid (befT PS false (k + 1) = fun u => bf u || PK u) := Lib.hid (by rw [befT, ← HND.out, Hbf.out, HPK.out]; rfl)
            clear HND
            go_wp2_with fail
            refine wp_region_held_drew (S := fun w' => ∀ j, j < 16 → w'.cell? ⟨gs, k * 16 + j, none⟩ = some (.int .u64 (partN PK j))) (by kernel_rfl) cS (fun hHeld => ?_)
            refine wpAnyH_take (i := 1) (v := ?_) rfl (by kernel_rfl) (by kernel_rfl) (by kernel_rfl) (fun _ _ _ h => h) (Or.inl ⟨by rfl, ?_⟩) (by assumption) ?_
            rotate_left
            · (intro W hSw; go_simp; try (with_reducible rfl))
            (try simp only [Act.put, List.setIfInBounds_toArray, List.set_cons_zero, List.set_cons_succ])
            refine wpAnyH_take (i := 2) (v := ?_) rfl (by kernel_rfl) (by kernel_rfl) (by kernel_rfl) (fun _ _ _ h => h) (Or.inl ⟨by rfl, ?_⟩) (by assumption) ?_
            rotate_left
            · (intro W hSw; go_simp; try (with_reducible rfl))
            (try simp only [Act.put, List.setIfInBounds_toArray, List.set_cons_zero, List.set_cons_succ])
            refine wpAnyH_take (i := 3) (v := .pointer (some ⟨gs, k * 16, none⟩)) rfl (by kernel_rfl) (by kernel_rfl) (by kernel_rfl) (fun _ _ _ h => h) (Or.inl ⟨by rfl, ?_⟩) (by assumption) ?_
            · (intro W hSw; go_simp)
            (try simp only [Act.put, List.setIfInBounds_toArray, List.set_cons_zero, List.set_cons_succ])
            refine wpAnyH_take (i := 4) (v := .agg (setA PK)) rfl (by kernel_rfl) (by kernel_rfl) (by kernel_rfl) (fun _ _ _ h => h) (Or.inl ⟨by rfl, ?_⟩) (by assumption) ?_
            · (intro W hSw; exact exec_ldAt hSw _ (.tmp 52) (by kernel_rfl) (by kernel_rfl))
            (try simp only [Act.put, List.setIfInBounds_toArray, List.set_cons_zero, List.set_cons_succ])
            refine wpAnyH_ready (rs := [0]) (by kernel_rfl) (by simp) ?_
            refine AllReadyH.cons rfl (fun K hK => ?_) AllReadyH.nil
            have rbd : RowAt x2.drew bq bf := rb
            (first | (rw [if_pos (by kernel_rfl)]; refine wp_ld16 (.tmp 9) (by kernel_rfl) rbd (by kernel_rfl) ?_) | (refine wp_ld16 (.tmp 9) (by kernel_rfl) rbd (by kernel_rfl) ?_))
            clear rbd
            refine hK.out _ _ (cS) (fun hHeld => ?_)
            clear hK K
            (try simp only [Act.put, List.setIfInBounds_toArray, List.set_cons_zero, List.set_cons_succ])
            refine wpAnyH_ready (rs := [5]) (by kernel_rfl) (by simp) ?_
            refine AllReadyH.cons rfl (fun K hK => ?_) AllReadyH.nil
            go_simp
            (go_at_call 105; refine (with_any bf PK _).mono ?_)
            rintro e x5 ⟨rfl, h5'⟩
            have h5 : Below x2.heap.size x2 x5 := (Below.refl _ x2).drew.trans h5'
            clear h5'
            have hgsW := oS.base_le.2
            replace cS : ∀ j, j < 16 → x5.cell? ⟨gs, k * 16 + j, none⟩ = some (.int .u64 (partN PK j)) := fun j hj => (h5.cell (p := ⟨gs, k * 16 + j, none⟩) hgsW).trans (cS j hj)
            replace oo := oo.below h5
            replace rb := rb.below h5 rb.lt
            replace oS := oS.below h5
            replace oB := oB.below h5
            replace B := B.trans (h5.mono B.size)
            clear h5 hgsW
            refine hK.out _ _ (cS) (fun hHeld => ?_)
            clear hK K
            (try simp only [Act.put, List.setIfInBounds_toArray, List.set_cons_zero, List.set_cons_succ])
            refine wpAnyH_ready (rs := [6]) (by kernel_rfl) (by simp) ?_
            refine AllReadyH.cons rfl (fun K hK => ?_) AllReadyH.nil
            rw [if_pos (by kernel_rfl)]
            refine wp_st16 (.tmp 9) (.tmp 54) (by kernel_rfl) rb (fun u => bf u || PK u) (by kernel_rfl) (by kernel_rfl) ?_
            have g6 := grown_setRow (w := x5) (b := bq) (setA (fun u => bf u || PK u))
            have hne1 : gs ≠ bq := by omega
            have hne2 : gb ≠ bq := by omega
            replace cS : ∀ j, j < 16 → (x5.setRow bq (setA (fun u => bf u || PK u))).cell? ⟨gs, k * 16 + j, none⟩ = some (.int .u64 (partN PK j)) := fun j hj => g6.cell (a := ⟨gs, k * 16 + j, none⟩) (cS j hj) (fun e => hne1 (Option.some.inj e))
            replace oo := oo.kept g6 (.inr (own_not_set oo rb))
            replace oS := oS.kept g6 (.inr (fun e => hne1 (Option.some.inj e)))
            replace oB := oB.kept g6 (.inr (fun e => hne2 (Option.some.inj e)))
            replace B := B.grown g6 B.size (fun j e => by cases e; omega)
            replace rb := row_set (q := (fun u => bf u || PK u)) rb
            clear g6
            refine hK.out _ _ cS (fun hHeld => ?_)
            clear hK K
            (try simp only [Act.put, List.setIfInBounds_toArray, List.set_cons_zero, List.set_cons_succ])
            refine wpAnyH_done (by kernel_rfl) ?_ _
            go_wp2_with fail
            go_roundw
            case rel => exact ⟨k + 1, by omega, by go_num, by rw [H2.out]; exact oo, by rw [H3.out]; exact rb, oS, oB, B⟩
            case measure => simp [intOf]; omega
          | true =>
            have H3 : Hid (befT PS true (k + 1) = bf) := Lib.hid (by rw [befT, ← HND.out, Hbf.out]; rfl)
            clear HND
            go_wp2_with fail
            go_roundw
            case rel => exact ⟨k + 1, by omega, by go_num, by rw [H2.out]; exact oo, by rw [H3.out]; exact rb, oS, oB, B⟩
            case measure => simp [intOf]; omega
      refine AllReadyH.cons rfl (fun K hK => ?_) AllReadyH.nil
      have z0 := rowz_new wr rfl
      have h0 : Below wr.heap.size wr (wr.alloc (.cells #[.int .u64 0, .int .u64 0, .int .u64 0, .int .u64 0, .int .u64 0, .int .u64 0, .int .u64 0, .int .u64 0, .int .u64 0, .int .u64 0, .int .u64 0, .int .u64 0, .int .u64 0, .int .u64 0, .int .u64 0, .int .u64 0] 75)) := (Below.refl _ wr).alloc (Nat.le_refl _) _
      go_simp
      refine hK.out _ _ (⟨rb.below h0.drew rb.lt, fun j hj => (h0.drew.cell (p := ⟨gb, k * 16 + j, none⟩) oB.base_le.2).trans (cB j hj)⟩) (fun hHeld => ?_)
      clear hK K
      (try simp only [Act.put, List.setIfInBounds_toArray, List.set_cons_zero, List.set_cons_succ])
      refine wpAnyH_ready (rs := [5]) (by kernel_rfl) (by simp) ?_
      refine AllReadyH.cons rfl (fun K hK => ?_) AllReadyH.nil
      go_simp
      (go_at_call 105; refine (with_any bf BU _).mono ?_)
      rintro e x1 ⟨rfl, h1'⟩
      have h1 : Below (wr.alloc (.cells #[.int .u64 0, .int .u64 0, .int .u64 0, .int .u64 0, .int .u64 0, .int .u64 0, .int .u64 0, .int .u64 0, .int .u64 0, .int .u64 0, .int .u64 0, .int .u64 0, .int .u64 0, .int .u64 0, .int .u64 0, .int .u64 0] 75)).heap.size (wr.alloc (.cells #[.int .u64 0, .int .u64 0, .int .u64 0, .int .u64 0, .int .u64 0, .int .u64 0, .int .u64 0, .int .u64 0, .int .u64 0, .int .u64 0, .int .u64 0, .int .u64 0, .int .u64 0, .int .u64 0, .int .u64 0, .int .u64 0] 75)) x1 := (Below.refl _ (wr.alloc (.cells #[.int .u64 0, .int .u64 0, .int .u64 0, .int .u64 0, .int .u64 0, .int .u64 0, .int .u64 0, .int .u64 0, .int .u64 0, .int .u64 0, .int .u64 0, .int .u64 0, .int .u64 0, .int .u64 0, .int .u64 0, .int .u64 0] 75))).drew.trans h1'
      have h2 : Below wr.heap.size wr x1 := h0.trans (h1.mono h0.size)
      have z1 : RowAt x1 wr.heap.size (fun _ => false) := z0.below h1 z0.lt
      clear h1' h0 h1 z0
      refine hK.out _ _ (⟨rb.below h2 rb.lt, fun j hj => (h2.cell (p := ⟨gb, k * 16 + j, none⟩) oB.base_le.2).trans (cB j hj)⟩) (fun hHeld => ?_)
      clear hK K
      (try simp only [Act.put, List.setIfInBounds_toArray, List.set_cons_zero, List.set_cons_succ])
      refine wpAnyH_ready (rs := [7]) (by kernel_rfl) (by simp) ?_
      refine AllReadyH.cons rfl (fun K hK => ?_) AllReadyH.nil
      rw [if_pos (by kernel_rfl)]
      refine wp_st16 (.tmp 12) (.tmp 30) (by kernel_rfl) z1 (fun u => bf u || BU u) (by kernel_rfl) (by kernel_rfl) ?_
      have h3 : Below wr.heap.size wr (x1.setRow wr.heap.size (setA fun u => bf u || BU u)) := h2.grown (grown_setRow _) h2.size (fun j e => by cases e; exact Nat.le_refl _)
      have r3 := row_set (q := fun u => bf u || BU u) z1
      refine hK.out _ _ (⟨rb.below h3 rb.lt, fun j hj => (h3.cell (p := ⟨gb, k * 16 + j, none⟩) oB.base_le.2).trans (cB j hj)⟩) (fun hHeld => ?_)
      clear hK K
      (try simp only [Act.put, List.setIfInBounds_toArray, List.set_cons_zero, List.set_cons_succ])
      refine wpAnyH_done (by kernel_rfl) ?_ _
      obtain ⟨W4, q, hW4⟩ : ∃ W4 q, W4 = x1.setRow wr.heap.size (setA fun u => bf u || BU u) ∧ q = wr.heap.size := ⟨_, _, rfl, rfl⟩
      rw [← hW4.1] at h3 r3 ⊢
      rw [← hW4.2] at r3 ⊢
      clear z1 h2 hW4 hHeld
      have hgsW := oS.base_le.2
      replace cS : ∀ j, j < 16 → W4.cell? ⟨gs, k * 16 + j, none⟩ = some (.int .u64 (partN PK j)) := fun j hj => (h3.cell (p := ⟨gs, k * 16 + j, none⟩) hgsW).trans (cS j hj)
      replace hck := kept_cell h3 hck (lt_of_below B hbl)
      replace oo := oo.below h3
      replace rb := rb.below h3 rb.lt
      replace oS := oS.below h3
      replace oB := oB.below h3
      replace B := B.trans (h3.mono B.size)
      clear h3 cB sB hgsW
      have sB := B.size
      obtain ⟨nd, hnd⟩ : ∃ nd, nd = !eqS (fun u => (bf u || BU u) || PK u) (fun u => bf u || BU u) := ⟨_, rfl⟩
      have HND : Hid (nd = needS PS (befT PS lo k) k) := Lib.hid (by rw [hnd, Hbf.out, HBU.out, HPK.out]; rfl)
      have Hnd := Lib.hid hnd
      clear hnd
      go_wp2_with fail
      refine wp_region_held_drew (S := fun w' => RowAt w' q (fun u => bf u || BU u) ∧ (∀ j, j < 16 → w'.cell? ⟨gs, k * 16 + j, none⟩ = some (.int .u64 (partN PK j)))) (by kernel_rfl) ⟨r3, cS⟩ (fun hHeld => ?_)
      refine wpAnyH_take (i := 0) (v := .agg (setA (fun u => bf u || BU u))) rfl (by kernel_rfl) (by kernel_rfl) (by kernel_rfl) (fun _ _ _ h => h) (Or.inl ⟨by rfl, ?_⟩) (by assumption) ?_
      · (intro W hSw; exact exec_ldRow hSw.1 _ (.tmp 12) (by kernel_rfl) (by kernel_rfl))
      (try simp only [Act.put, List.setIfInBounds_toArray, List.set_cons_zero, List.set_cons_succ])
      refine wpAnyH_take (i := 1) (v := ?_) rfl (by kernel_rfl) (by kernel_rfl) (by kernel_rfl) (fun _ _ _ h => h) (Or.inl ⟨by rfl, ?_⟩) (by assumption) ?_
      rotate_left
      · (intro W hSw; go_simp; try (with_reducible rfl))
      (try simp only [Act.put, List.setIfInBounds_toArray, List.set_cons_zero, List.set_cons_succ])
      refine wpAnyH_take (i := 2) (v := ?_) rfl (by kernel_rfl) (by kernel_rfl) (by kernel_rfl) (fun _ _ _ h => h) (Or.inl ⟨by rfl, ?_⟩) (by assumption) ?_
      rotate_left
      · (intro W hSw; go_simp; try (with_reducible rfl))
      (try simp only [Act.put, List.setIfInBounds_toArray, List.set_cons_zero, List.set_cons_succ])
      refine wpAnyH_take (i := 3) (v := .pointer (some ⟨gs, k * 16, none⟩)) rfl (by kernel_rfl) (by kernel_rfl) (by kernel_rfl) (fun _ _ _ h => h) (Or.inl ⟨by rfl, ?_⟩) (by assumption) ?_
      · (intro W hSw; go_simp)
      (try simp only [Act.put, List.setIfInBounds_toArray, List.set_cons_zero, List.set_cons_succ])
      refine wpAnyH_take (i := 4) (v := .agg (setA PK)) rfl (by kernel_rfl) (by kernel_rfl) (by kernel_rfl) (fun _ _ _ h => h) (Or.inl ⟨by rfl, ?_⟩) (by assumption) ?_
      · (intro W hSw; exact exec_ldAt hSw.2 _ (.tmp 34) (by kernel_rfl) (by kernel_rfl))
      (try simp only [Act.put, List.setIfInBounds_toArray, List.set_cons_zero, List.set_cons_succ])
      refine wpAnyH_take (i := 6) (v := .agg (setA (fun u => bf u || BU u))) rfl (by kernel_rfl) (by kernel_rfl) (by kernel_rfl) (fun _ _ _ h => h) (Or.inl ⟨by rfl, ?_⟩) (by assumption) ?_
      · (intro W hSw; exact exec_ldRow hSw.1 _ (.tmp 12) (by kernel_rfl) (by kernel_rfl))
      (try simp only [Act.put, List.setIfInBounds_toArray, List.set_cons_zero, List.set_cons_succ])
      refine wpAnyH_ready (rs := [5]) (by kernel_rfl) (by simp) ?_
      refine AllReadyH.cons rfl (fun K hK => ?_) AllReadyH.nil
      go_simp
      (go_at_call 105; refine (with_any (fun u => bf u || BU u) PK _).mono ?_)
      rintro e x2 ⟨rfl, h4'⟩
      have h4 : Below W4.heap.size W4 x2 := (Below.refl _ W4).drew.trans h4'
      clear h4'
      have hgsW := oS.base_le.2
      replace cS : ∀ j, j < 16 → x2.cell? ⟨gs, k * 16 + j, none⟩ = some (.int .u64 (partN PK j)) := fun j hj => (h4.cell (p := ⟨gs, k * 16 + j, none⟩) hgsW).trans (cS j hj)
      refine hK.out _ _ (⟨r3.below h4 r3.lt, cS⟩) (fun hHeld => ?_)
      clear hK K
      (try simp only [Act.put, List.setIfInBounds_toArray, List.set_cons_zero, List.set_cons_succ])
      refine wpAnyH_take (i := 7) (v := .bool nd) rfl (by kernel_rfl) (by kernel_rfl) (by kernel_rfl) (fun _ _ _ h => h) (Or.inl ⟨by rfl, ?_⟩) (by assumption) ?_
      · (intro W hSw; rw [Hnd.out]; exact exec_neSet (t := 75) (p := (fun u => (bf u || BU u) || PK u)) (q := (fun u => bf u || BU u)) _ (.tmp 36) (.tmp 37) (by kernel_rfl) (by kernel_rfl) (by kernel_rfl))
      (try simp only [Act.put, List.setIfInBounds_toArray, List.set_cons_zero, List.set_cons_succ])
      refine wpAnyH_take (i := 8) (v := ?_) rfl (by kernel_rfl) (by kernel_rfl) (by kernel_rfl) (fun _ _ _ h => h) (Or.inl ⟨by rfl, ?_⟩) (by assumption) ?_
      rotate_left
      · (intro W hSw; go_simp; try (with_reducible rfl))
      (try simp only [Act.put, List.setIfInBounds_toArray, List.set_cons_zero, List.set_cons_succ])
      refine wpAnyH_done (by kernel_rfl) ?_ _
      (try simp only [List.getElem_toArray, List.getElem_cons_succ, List.getElem_cons_zero, Act.put, List.setIfInBounds_toArray, List.set_cons_zero, List.set_cons_succ])
      replace hck := kept_cell h4 hck (lt_of_below B hbl)
      replace oo := oo.below h4
      replace rb := rb.below h4 rb.lt
      replace oS := oS.below h4
      replace oB := oB.below h4
      replace B := B.trans (h4.mono B.size)
      clear h4 hgsW r3 hHeld Hnd
      replace sB := B.size
      cases nd with
      | true =>
        have H2 : Hid (outT PS C lo (k + 1) = outT PS C lo k ++ [gi C k]) := Lib.hid (by rw [outT, ← HND.out]; rfl)
        have H3 : Hid (befT PS lo (k + 1) = fun u => bf u || PK u) := Lib.hid (by rw [befT, ← HND.out, Hbf.out, HPK.out]; rfl)
        clear HND
        go_wp2_with (at_builtin; refine wpList_append_int rfl _ _ rfl w.heap.size _ _ rfl (oo.alloc _) x2.heap.size _ rfl (cell_new _ _ _) (by omega) (by rw [World.size_alloc]; omega) ?_; intro v' x3 hown' hgrow)
        replace B := grown_below (B.alloc B.size _) (by rw [World.size_alloc]; omega) hgrow (oo.alloc _) (by omega)
        replace rb : RowAt x3 bq bf := (hgrow.block bq (rb.alloc _).lt (fun e => own_not_set oo rb e.symm)).trans (rb.alloc _)
        have nS := own_ne_sets oo oS
        have nB := own_ne_sets oo oB
        replace oS := (oS.alloc _).kept hgrow (.inr (fun e => nS e.symm))
        replace oB := (oB.alloc _).kept hgrow (.inr (fun e => nB e.symm))
        replace oo := hown'
        replace cS := oS.cells k (by rw [hKP.out]; exact hlt)
        rw [← HPK.out] at cS
        clear hown' hgrow nS nB hck sB
        go_wp2_with fail
        refine wp_region_held_drew (S := fun w' => ∀ j, j < 16 → w'.cell? ⟨gs, k * 16 + j, none⟩ = some (.int .u64 (partN PK j))) (by kernel_rfl) cS (fun hHeld => ?_)
        refine wpAnyH_take (i := 1) (v := ?_) rfl (by kernel_rfl) (by kernel_rfl) (by kernel_rfl) (fun _ _ _ h => h) (Or.inl ⟨by rfl, ?_⟩) (by assumption) ?_
        rotate_left
        · (intro W hSw; go_simp; try (with_reducible rfl))
        (try simp only [Act.put, List.setIfInBounds_toArray, List.set_cons_zero, List.set_cons_succ])
        refine wpAnyH_take (i := 2) (v := ?_) rfl (by kernel_rfl) (by kernel_rfl) (by kernel_rfl) (fun _ _ _ h => h) (Or.inl ⟨by rfl, ?_⟩) (by assumption) ?_
        rotate_left
        · (intro W hSw; go_simp; try (with_reducible rfl))
        (try simp only [Act.put, List.setIfInBounds_toArray, List.set_cons_zero, List.set_cons_succ])
        refine wpAnyH_take (i := 3) (v := .pointer (some ⟨gs, k * 16, none⟩)) rfl (by kernel_rfl) (by kernel_rfl) (by kernel_rfl) (fun _ _ _ h => h) (Or.inl ⟨by rfl, ?_⟩) (by assumption) ?_
        · (intro W hSw; go_simp)
        (try simp only [Act.put, List.setIfInBounds_toArray, List.set_cons_zero, List.set_cons_succ])
        refine wpAnyH_take (i := 4) (v := .agg (setA PK)) rfl (by kernel_rfl) (by kernel_rfl) (by kernel_rfl) (fun _ _ _ h => h) (Or.inl ⟨by rfl, ?_⟩) (by assumption) ?_
        · (intro W hSw; exact exec_ldAt hSw _ (.tmp 52) (by kernel_rfl) (by kernel_rfl))
        (try simp only [Act.put, List.setIfInBounds_toArray, List.set_cons_zero, List.set_cons_succ])
        refine wpAnyH_ready (rs := [0]) (by kernel_rfl) (by simp) ?_
        refine AllReadyH.cons rfl (fun K hK => ?_) AllReadyH.nil
        have rbd : RowAt x3.drew bq bf := rb
        (first | (rw [if_pos (by kernel_rfl)]; refine wp_ld16 (.tmp 9) (by kernel_rfl) rbd (by kernel_rfl) ?_) | (refine wp_ld16 (.tmp 9) (by kernel_rfl) rbd (by kernel_rfl) ?_))
        clear rbd
        refine hK.out _ _ (cS) (fun hHeld => ?_)
        clear hK K
        (try simp only [Act.put, List.setIfInBounds_toArray, List.set_cons_zero, List.set_cons_succ])
        refine wpAnyH_ready (rs := [5]) (by kernel_rfl) (by simp) ?_
        refine AllReadyH.cons rfl (fun K hK => ?_) AllReadyH.nil
        go_simp
        (go_at_call 105; refine (with_any bf PK _).mono ?_)
        rintro e x5 ⟨rfl, h5'⟩
        have h5 : Below x3.heap.size x3 x5 := (Below.refl _ x3).drew.trans h5'
        clear h5'
        have hgsW := oS.base_le.2
        replace cS : ∀ j, j < 16 → x5.cell? ⟨gs, k * 16 + j, none⟩ = some (.int .u64 (partN PK j)) := fun j hj => (h5.cell (p := ⟨gs, k * 16 + j, none⟩) hgsW).trans (cS j hj)
        replace oo := oo.below h5
        replace rb := rb.below h5 rb.lt
        replace oS := oS.below h5
        replace oB := oB.below h5
        replace B := B.trans (h5.mono B.size)
        clear h5 hgsW
        refine hK.out _ _ (cS) (fun hHeld => ?_)
        clear hK K
        (try simp only [Act.put, List.setIfInBounds_toArray, List.set_cons_zero, List.set_cons_succ])
        refine wpAnyH_ready (rs := [6]) (by kernel_rfl) (by simp) ?_
        refine AllReadyH.cons rfl (fun K hK => ?_) AllReadyH.nil
        rw [if_pos (by kernel_rfl)]
        refine wp_st16 (.tmp 9) (.tmp 54) (by kernel_rfl) rb (fun u => bf u || PK u) (by kernel_rfl) (by kernel_rfl) ?_
        have g6 := grown_setRow (w := x5) (b := bq) (setA (fun u => bf u || PK u))
        have hne1 : gs ≠ bq := by omega
        have hne2 : gb ≠ bq := by omega
        replace cS : ∀ j, j < 16 → (x5.setRow bq (setA (fun u => bf u || PK u))).cell? ⟨gs, k * 16 + j, none⟩ = some (.int .u64 (partN PK j)) := fun j hj => g6.cell (a := ⟨gs, k * 16 + j, none⟩) (cS j hj) (fun e => hne1 (Option.some.inj e))
        replace oo := oo.kept g6 (.inr (own_not_set oo rb))
        replace oS := oS.kept g6 (.inr (fun e => hne1 (Option.some.inj e)))
        replace oB := oB.kept g6 (.inr (fun e => hne2 (Option.some.inj e)))
        replace B := B.grown g6 B.size (fun j e => by cases e; omega)
        replace rb := row_set (q := (fun u => bf u || PK u)) rb
        clear g6
        refine hK.out _ _ cS (fun hHeld => ?_)
        clear hK K
        (try simp only [Act.put, List.setIfInBounds_toArray, List.set_cons_zero, List.set_cons_succ])
        refine wpAnyH_done (by kernel_rfl) ?_ _
        go_wp2_with fail
        go_roundw
        case rel => exact ⟨k + 1, by omega, by go_num, by rw [H2.out]; exact oo, by rw [H3.out]; exact rb, oS, oB, B⟩
        case measure => simp [intOf]; omega
      | false =>
        have H2 : Hid (outT PS C lo (k + 1) = outT PS C lo k) := Lib.hid (by rw [outT, ← HND.out]; rfl)
        cases lo with
        | false =>
          have H3 : Hid (befT PS false (k + 1) = fun u => bf u || PK u) := Lib.hid (by rw [befT, ← HND.out, Hbf.out, HPK.out]; rfl)
          clear HND
          go_wp2_with fail
          refine wp_region_held_drew (S := fun w' => ∀ j, j < 16 → w'.cell? ⟨gs, k * 16 + j, none⟩ = some (.int .u64 (partN PK j))) (by kernel_rfl) cS (fun hHeld => ?_)
          refine wpAnyH_take (i := 1) (v := ?_) rfl (by kernel_rfl) (by kernel_rfl) (by kernel_rfl) (fun _ _ _ h => h) (Or.inl ⟨by rfl, ?_⟩) (by assumption) ?_
          rotate_left
          · (intro W hSw; go_simp; try (with_reducible rfl))
          (try simp only [Act.put, List.setIfInBounds_toArray, List.set_cons_zero, List.set_cons_succ])
          refine wpAnyH_take (i := 2) (v := ?_) rfl (by kernel_rfl) (by kernel_rfl) (by kernel_rfl) (fun _ _ _ h => h) (Or.inl ⟨by rfl, ?_⟩) (by assumption) ?_
          rotate_left
          · (intro W hSw; go_simp; try (with_reducible rfl))
          (try simp only [Act.put, List.setIfInBounds_toArray, List.set_cons_zero, List.set_cons_succ])
          refine wpAnyH_take (i := 3) (v := .pointer (some ⟨gs, k * 16, none⟩)) rfl (by kernel_rfl) (by kernel_rfl) (by kernel_rfl) (fun _ _ _ h => h) (Or.inl ⟨by rfl, ?_⟩) (by assumption) ?_
          · (intro W hSw; go_simp)
          (try simp only [Act.put, List.setIfInBounds_toArray, List.set_cons_zero, List.set_cons_succ])
          refine wpAnyH_take (i := 4) (v := .agg (setA PK)) rfl (by kernel_rfl) (by kernel_rfl) (by kernel_rfl) (fun _ _ _ h => h) (Or.inl ⟨by rfl, ?_⟩) (by assumption) ?_
          · (intro W hSw; exact exec_ldAt hSw _ (.tmp 52) (by kernel_rfl) (by kernel_rfl))
          (try simp only [Act.put, List.setIfInBounds_toArray, List.set_cons_zero, List.set_cons_succ])
          refine wpAnyH_ready (rs := [0]) (by kernel_rfl) (by simp) ?_
          refine AllReadyH.cons rfl (fun K hK => ?_) AllReadyH.nil
          have rbd : RowAt x2.drew bq bf := rb
          (first | (rw [if_pos (by kernel_rfl)]; refine wp_ld16 (.tmp 9) (by kernel_rfl) rbd (by kernel_rfl) ?_) | (refine wp_ld16 (.tmp 9) (by kernel_rfl) rbd (by kernel_rfl) ?_))
          clear rbd
          refine hK.out _ _ (cS) (fun hHeld => ?_)
          clear hK K
          (try simp only [Act.put, List.setIfInBounds_toArray, List.set_cons_zero, List.set_cons_succ])
          refine wpAnyH_ready (rs := [5]) (by kernel_rfl) (by simp) ?_
          refine AllReadyH.cons rfl (fun K hK => ?_) AllReadyH.nil
          go_simp
          (go_at_call 105; refine (with_any bf PK _).mono ?_)
          rintro e x5 ⟨rfl, h5'⟩
          have h5 : Below x2.heap.size x2 x5 := (Below.refl _ x2).drew.trans h5'
          clear h5'
          have hgsW := oS.base_le.2
          replace cS : ∀ j, j < 16 → x5.cell? ⟨gs, k * 16 + j, none⟩ = some (.int .u64 (partN PK j)) := fun j hj => (h5.cell (p := ⟨gs, k * 16 + j, none⟩) hgsW).trans (cS j hj)
          replace oo := oo.below h5
          replace rb := rb.below h5 rb.lt
          replace oS := oS.below h5
          replace oB := oB.below h5
          replace B := B.trans (h5.mono B.size)
          clear h5 hgsW
          refine hK.out _ _ (cS) (fun hHeld => ?_)
          clear hK K
          (try simp only [Act.put, List.setIfInBounds_toArray, List.set_cons_zero, List.set_cons_succ])
          refine wpAnyH_ready (rs := [6]) (by kernel_rfl) (by simp) ?_
          refine AllReadyH.cons rfl (fun K hK => ?_) AllReadyH.nil
          rw [if_pos (by kernel_rfl)]
          refine wp_st16 (.tmp 9) (.tmp 54) (by kernel_rfl) rb (fun u => bf u || PK u) (by kernel_rfl) (by kernel_rfl) ?_
          have g6 := grown_setRow (w := x5) (b := bq) (setA (fun u => bf u || PK u))
          have hne1 : gs ≠ bq := by omega
          have hne2 : gb ≠ bq := by omega
          replace cS : ∀ j, j < 16 → (x5.setRow bq (setA (fun u => bf u || PK u))).cell? ⟨gs, k * 16 + j, none⟩ = some (.int .u64 (partN PK j)) := fun j hj => g6.cell (a := ⟨gs, k * 16 + j, none⟩) (cS j hj) (fun e => hne1 (Option.some.inj e))
          replace oo := oo.kept g6 (.inr (own_not_set oo rb))
          replace oS := oS.kept g6 (.inr (fun e => hne1 (Option.some.inj e)))
          replace oB := oB.kept g6 (.inr (fun e => hne2 (Option.some.inj e)))
          replace B := B.grown g6 B.size (fun j e => by cases e; omega)
          replace rb := row_set (q := (fun u => bf u || PK u)) rb
          clear g6
          refine hK.out _ _ cS (fun hHeld => ?_)
          clear hK K
          (try simp only [Act.put, List.setIfInBounds_toArray, List.set_cons_zero, List.set_cons_succ])
          refine wpAnyH_done (by kernel_rfl) ?_ _
          go_wp2_with fail
          go_roundw
          case rel => exact ⟨k + 1, by omega, by go_num, by rw [H2.out]; exact oo, by rw [H3.out]; exact rb, oS, oB, B⟩
          case measure => simp [intOf]; omega
        | true =>
          have H3 : Hid (befT PS true (k + 1) = bf) := Lib.hid (by rw [befT, ← HND.out, Hbf.out]; rfl)
          clear HND
          go_wp2_with fail
          go_roundw
          case rel => exact ⟨k + 1, by omega, by go_num, by rw [H2.out]; exact oo, by rw [H3.out]; exact rb, oS, oB, B⟩
          case measure => simp [intOf]; omega
    · have ek : Hid (k = C.length) := Lib.hid (by omega)
      go_wp2_with fail
      go_ret
      exact ⟨_, rfl, by rw [← ek.out]; exact oo, B⟩

end Go.Proofs.Ytjjcpbhmpjedoaa

namespace Go.Proofs.Ytjjcpbhmpjedoaa
open Go.RowKit Cv
set_option linter.unusedVariables false
set_option linter.unusedSimpArgs false
set_option maxRecDepth 100000

theorem cnt_one (p : Nat → Bool) (n k : Nat) (hk : k < n) (hp : p k = true) : cnt p n = 1 ↔ ∀ i, i < n → i ≠ k → p i = false := by
  induction n with
  | zero => omega
  | succ n ih =>
    rw [cnt_at]
    by_cases e : k = n
    · subst e
      rw [if_pos hp]
      constructor
      · intro h i hi hne
        exact (cnt_zero p k).1 (by omega) i (by omega)
      · intro h
        rw [(cnt_zero p k).2 fun j hj => h j (by omega) (by omega)]; rfl
    · have hb := cnt_bd p n
      have h0 : cnt p n ≠ 0 := fun h => by have := (cnt_zero p n).1 h k (by omega); rw [hp] at this; cases this
      constructor
      · intro h i hi hne
        by_cases e2 : p n = true
        · rw [if_pos e2] at h; omega
        · rw [if_neg e2] at h
          by_cases e3 : i = n
          · subst e3; simpa using e2
          · exact (ih (by omega)).1 (by omega) i (by omega) hne
      · intro h
        rw [if_neg (by rw [h n (by omega) (Ne.symm e)]; simp), (ih (by omega)).2 fun i hi hne => h i (by omega) hne]; rfl
theorem unionL_iff (L : List (Nat → Bool)) (u : Nat) : unionL L u = true ↔ ∃ i, i < L.length ∧ pAt L i u = true := by
  unfold unionL
  rw [List.any_eq_true]
  constructor
  · rintro ⟨p, hp, h⟩
    obtain ⟨i, hi, rfl⟩ := List.mem_iff_getElem.1 hp
    exact ⟨i, hi, by unfold pAt; rw [List.getD_eq_getElem?_getD, List.getElem?_eq_getElem hi]; exact h⟩
  · rintro ⟨i, hi, h⟩
    refine ⟨L[i], List.getElem_mem hi, ?_⟩
    unfold pAt at h; rw [List.getD_eq_getElem?_getD, List.getElem?_eq_getElem hi] at h; exact h
theorem pAt_map (S C : List Int) (r : Int) (i : Nat) (hi : i < C.length) : pAt (C.map (ballN S r)) i = ballN S r (gi C i) := by
  unfold pAt gi; simp [List.getD_eq_getElem?_getD, hi]
theorem pAt_take (L : List (Nat → Bool)) (k i : Nat) (hi : i < k) : pAt (L.take k) i = pAt L i := by
  unfold pAt; rw [List.getD_eq_getElem?_getD, List.getD_eq_getElem?_getD, List.getElem?_take_of_lt hi]
theorem pAt_drop (L : List (Nat → Bool)) (k i : Nat) : pAt (L.drop k) i = pAt L (k + i) := by
  unfold pAt; rw [List.getD_eq_getElem?_getD, List.getD_eq_getElem?_getD, List.getElem?_drop]
theorem bef_all (L : List (Nat → Bool)) (k : Nat) (hk : k ≤ L.length) : befT L false k = unionL (L.take k) := by
  induction k with
  | zero => rfl
  | succ k ih =>
    rw [befT, if_pos (by simp), ih (by omega), List.take_succ_eq_append_getElem (by omega), unionL_snoc]
    funext u
    congr 1
    unfold pAt; rw [List.getD_eq_getElem?_getD, List.getElem?_eq_getElem (by omega)]; rfl
/-- the other sets' words -/
theorem others_iff (S C : List Int) (r : Int) (k u : Nat) (hk : k < C.length) : (befT (C.map (ballN S r)) false k u || behU (C.map (ballN S r)) k u) = true ↔ ∃ i, i < C.length ∧ i ≠ k ∧ ballN S r (gi C i) u = true := by
  rw [bef_all _ _ (by simp; omega), Bool.or_eq_true, unionL_iff, behU, unionL_iff]
  constructor
  · rintro (⟨i, hi, h⟩ | ⟨i, hi, h⟩)
    · simp at hi
      rw [pAt_take _ _ _ (by omega), pAt_map _ _ _ _ (by omega)] at h
      exact ⟨i, by omega, by omega, h⟩
    · simp at hi
      rw [pAt_drop, pAt_map _ _ _ _ (by omega)] at h
      exact ⟨k + 1 + i, by omega, by omega, h⟩
  · rintro ⟨i, hi, hne, h⟩
    by_cases e : i < k
    · exact .inl ⟨i, by simp; omega, by rw [pAt_take _ _ _ e, pAt_map _ _ _ _ hi]; exact h⟩
    · exact .inr ⟨i - (k + 1), by simp; omega, by rw [pAt_drop, show k + 1 + (i - (k + 1)) = i by omega, pAt_map _ _ _ _ hi]; exact h⟩
theorem need_iff (S C : List Int) (r x : Int) : needB (timesL S C r) S x r = true ↔ ∃ u : Nat, u < (nW S).toNat ∧ dist S u x ≤ r ∧ tAt S C r u = 1 := by
  unfold needB
  rw [oneTo_iff]
  constructor
  · rintro ⟨j, hj, h⟩
    have hb : 0 ≤ gi (ballW S x r) j ∧ gi (ballW S x r) j < ((nW S).toNat : Nat) := selTo_bd _ _ j hj
    have hm : ballN S r x (gi (ballW S x r) j).toNat = true := by
      unfold ballN inL; rw [decide_eq_true_eq, Int.toNat_of_nonneg hb.1]; exact gi_mem hj
    rw [ballN_in, decide_eq_true_eq] at hm
    rw [gi_timesA _ _ _ _ hm.1] at h
    exact ⟨_, hm.1, hm.2, h⟩
  · rintro ⟨u, hu, hd, h⟩
    have hm : ballN S r x u = true := by rw [ballN_in, decide_eq_true_eq]; exact ⟨hu, hd⟩
    unfold ballN inL at hm
    rw [decide_eq_true_eq] at hm
    obtain ⟨j, hj, e⟩ := mem_gi hm
    exact ⟨j, hj, by rw [e]; simpa [gi_timesA _ _ _ _ hu] using h⟩
theorem need_eq (S C : List Int) (r : Int) (hN : nW S ≤ 1024) (k : Nat) (hk : k < C.length) : needS (C.map (ballN S r)) (befT (C.map (ballN S r)) false k) k = needB (timesL S C r) S (gi C k) r := by
  rw [Bool.eq_iff_iff, need_iff]
  unfold needS
  rw [Bool.not_eq_true', ← Bool.not_eq_true, eqS_iff]
  have one : ∀ u : Nat, dist S u (gi C k) ≤ r → (tAt S C r u = 1 ↔ ∀ i, i < C.length → i ≠ k → ¬ dist S u (gi C i) ≤ r) := fun u hd => by
    unfold tAt tcov
    rw [cnt_one _ _ k hk (by rw [decide_eq_true_eq, dist_comm]; exact hd)]
    constructor
    · intro h i hi hne g
      have := h i hi hne
      rw [decide_eq_false_iff_not, dist_comm] at this
      exact this g
    · intro h i hi hne
      rw [decide_eq_false_iff_not, dist_comm]; exact h i hi hne
  constructor
  · intro h
    have h' : ∃ u, u < 1024 ∧ ¬ (befT (C.map (ballN S r)) false k u || behU (C.map (ballN S r)) k u || pAt (C.map (ballN S r)) k u) = (befT (C.map (ballN S r)) false k u || behU (C.map (ballN S r)) k u) := by
      refine Classical.byContradiction fun g => h fun u hu => Classical.byContradiction fun g2 => g ⟨u, hu, g2⟩
    obtain ⟨u, hu, hne⟩ := h'
    cases ho : (befT (C.map (ballN S r)) false k u || behU (C.map (ballN S r)) k u) with
    | true => rw [ho] at hne; simp at hne
    | false =>
      rw [ho, Bool.false_or, pAt_map _ _ _ _ hk] at hne
      have hp : ballN S r (gi C k) u = true := by simpa using hne
      rw [ballN_in, decide_eq_true_eq] at hp
      refine ⟨u, hp.1, hp.2, (one u hp.2).2 fun i hi hik hd => ?_⟩
      have := (others_iff S C r k u hk).2 ⟨i, hi, hik, by rw [ballN_in, decide_eq_true_eq]; exact ⟨hp.1, hd⟩⟩
      rw [ho] at this; cases this
  · rintro ⟨u, hu, hd, ht⟩ h
    have h1 := h u (by omega)
    have hp : ballN S r (gi C k) u = true := by rw [ballN_in, decide_eq_true_eq]; exact ⟨hu, hd⟩
    rw [pAt_map _ _ _ _ hk, hp, Bool.or_true] at h1
    obtain ⟨i, hi, hne, g⟩ := (others_iff S C r k u hk).1 h1.symm
    rw [ballN_in, decide_eq_true_eq] at g
    exact (one u hd).1 ht i hi hne g.2
theorem out_need (S C : List Int) (r : Int) (hN : nW S ≤ 1024) (k : Nat) (hk : k ≤ C.length) : outT (C.map (ballN S r)) C false k = needTo S C r k := by
  induction k with
  | zero => rfl
  | succ k ih => rw [outT, needTo, need_eq S C r hN k (by omega), ih (by omega)]

set_option maxHeartbeats 1000000 in
theorem impl_NeededWords (ao : Option Addr) (S : List Int) (cap : Nat) (hn : S.length ≤ 4294967296) (ac : Option Addr) (C : List Int) (capc : Nat) (hnc : C.length ≤ 4294967296) (r : Int) (hr : -9223372036854775808 ≤ r ∧ r ≤ 9223372036854775807) (w : World) (hS : Ints w ao S) (hC : Ints w ac C) :
    Calls Try.prog 39 #[.agg #[.slice ao S.length cap], .slice ac C.length capc, .int .i64 r] w fun e w' => ∃ v, e = .returned (.tuple #[v, .int .i64 (eCov S C r)]) ∧ OwnInts w' w.heap.size v (vNeed S C r) ∧ Below w.heap.size w w' := by
  have B0 : Below w.heap.size w (w.alloc (.cells #[.slice ao S.length cap] 26)) := by go_grown
  have HQ := Lib.hid (eCov2_nil S C r)
  have cS := cell_new w (.slice ao S.length cap) 26
  have lS := lt_alloc w (.cells #[.slice ao S.length cap] 26)
  by_cases hq : eCov S C r = 0
  · obtain ⟨hz, r1, r2⟩ := eCov_zero hq
    obtain ⟨hSp, hc1, hc2⟩ := eCode_zero hz
    have N1 := nW_bd hSp
    have hlen := code_len hSp hc1 hc2
    have HSp := Lib.hid hSp
    have HC1 : Hid (∀ i, i < C.length → 0 ≤ gi C i ∧ gi C i ≤ 9223372036854775807) := Lib.hid fun i h => by have := hc1 i h; omega
    have HV : Hid (vNeed S C r = outT (C.map (ballN S r)) C false C.length) := Lib.hid (by unfold vNeed; rw [if_pos hq, out_need S C r (by omega) _ (Nat.le_refl _)])
    have hqn : (eCov2 S C [] r != 0) = false := by rw [HQ.out]; simp [hq]
    have HQ0 := Lib.hid hq
    clear hc1 hc2 hSp hq hz N1
    go_enter Try.func39, Try.ntmps39
    go_wp2_with fail
    refine (coverError_n ao S cap hn ac C capc hnc r none [] 0 0 rfl (by omega) _ (hS.below B0) (hC.below B0) (.inl rfl)).mono ?_
    rintro e w1 ⟨rfl, hb⟩
    replace cS := kept_cell hb cS lS
    replace lS := lt_of_below hb lS
    have B1 : Below w.heap.size w w1 := B0.trans (hb.mono B0.size)
    have hs1 := B1.size
    clear hb B0
    go_wp2_with fail
    refine (balls_any ao S cap ac C capc r _).mono ?_
    rintro e w2 ⟨wb, sb, rb, rfl, hbb, hwb, hsb, hrb, hb2⟩
    have B2 := B1.trans (hb2.mono B1.size)
    clear hb2 hbb
    go_wp2_with fail
    refine (collectBalls_any S HSp.out ao cap ac C capc (by omega) HC1.out r r1 r2 wb sb rb w w2 B2 hS hC hwb hsb hrb).mono ?_
    rintro e w3 ⟨vs, rfl, oS, hb3⟩
    obtain ⟨av, cs, hv⟩ := sets_shape oS
    rw [List.length_map] at hv
    subst hv
    have B3 := B2.trans (hb3.mono B2.size)
    have s3 := hb3.size
    clear hwb hsb hrb hb3
    go_wp2_with fail
    refine (neededOf_any ac C capc (by omega) w2.heap.size av cs (C.map (ballN S r)) (by simp) false _ s3 (hC.below B3) oS).mono ?_
    rintro e w4 ⟨v, rfl, own, hb4⟩
    have hs3 := B3.size
    go_wp2_with fail
    go_ret2
    exact ⟨_, by rw [HQ0.out]; rfl, by rw [HV.out]; exact own.rebase hs3, B3.trans (hb4.mono hs3)⟩
  · have hqn : (eCov2 S C [] r != 0) = true := by rw [HQ.out]; simpa using hq
    have HV : Hid (vNeed S C r = []) := Lib.hid (by unfold vNeed; rw [if_neg hq])
    clear hq
    go_enter Try.func39, Try.ntmps39
    go_wp2_with fail
    refine (coverError_n ao S cap hn ac C capc hnc r none [] 0 0 rfl (by omega) _ (hS.below B0) (hC.below B0) (.inl rfl)).mono ?_
    rintro e w1 ⟨rfl, hb⟩
    go_wp2_with fail
    go_ret2
    exact ⟨_, by rw [HQ.out]; rfl, by rw [HV.out]; exact own_nil _ _, B0.trans (hb.mono B0.size)⟩

end Go.Proofs.Ytjjcpbhmpjedoaa

namespace Go.Proofs.Ytjjcpbhmpjedoaa
open Go.RowKit Cv
set_option linter.unusedVariables false
set_option linter.unusedSimpArgs false
set_option maxRecDepth 100000

theorem cnt_off (p q : Nat → Bool) (n k : Nat) (hk : k < n) (h : ∀ j, j ≠ k → p j = q j) (hq : q k = false) : cnt p n = cnt q n + if p k = true then 1 else 0 := by
  induction n with
  | zero => omega
  | succ n ih =>
    rw [cnt_at, cnt_at]
    by_cases e : k = n
    · subst e
      rw [hq, cnt_congr p q k fun i hi => h i (by omega)]; simp
    · rw [ih (by omega), h n (Ne.symm e)]; omega
theorem need_iffT (T S : List Int) (r x : Int) : needB T S x r = true ↔ ∃ u : Nat, u < (nW S).toNat ∧ dist S u x ≤ r ∧ gi T u = 1 := by
  unfold needB
  rw [oneTo_iff]
  constructor
  · rintro ⟨j, hj, h⟩
    have hb : 0 ≤ gi (ballW S x r) j ∧ gi (ballW S x r) j < ((nW S).toNat : Nat) := selTo_bd _ _ j hj
    have hm : ballN S r x (gi (ballW S x r) j).toNat = true := by
      unfold ballN inL; rw [decide_eq_true_eq, Int.toNat_of_nonneg hb.1]; exact gi_mem hj
    rw [ballN_in, decide_eq_true_eq] at hm
    exact ⟨_, hm.1, hm.2, h⟩
  · rintro ⟨u, hu, hd, h⟩
    have hm : ballN S r x u = true := by rw [ballN_in, decide_eq_true_eq]; exact ⟨hu, hd⟩
    unfold ballN inL at hm
    rw [decide_eq_true_eq] at hm
    obtain ⟨j, hj, e⟩ := mem_gi hm
    exact ⟨j, hj, by rw [e]; simpa using h⟩
def kept (S C : List Int) (r : Int) (j : Nat) : Bool := needB (lnT S C r j) S (gi C j) r
theorem lnT_cnt (S C : List Int) (r : Int) (u : Nat) (hu : u < (nW S).toNat) (k : Nat) (hk : k ≤ C.length) : gi (lnT S C r k) u = cnt (fun j => decide (dist S u (gi C j) ≤ r) && (decide (k ≤ j) || kept S C r j)) C.length := by
  induction k with
  | zero =>
    rw [lnT, gi_timesA _ _ _ _ hu]
    unfold tAt tcov
    exact cnt_congr _ _ _ fun i hi => by rw [dist_comm]; simp
  | succ k ih =>
    rw [lnT]
    by_cases e : needB (lnT S C r k) S (gi C k) r = true
    · rw [if_pos e, ih (by omega)]
      refine cnt_congr _ _ _ fun i hi => ?_
      congr 1
      by_cases e2 : i = k
      · subst e2; rw [show kept S C r i = true from e]; simp
      · have : decide (k ≤ i) = decide (k + 1 ≤ i) := by rw [decide_eq_decide]; omega
        rw [this]
    · rw [if_neg e, gi_decL _ _ _ (by rw [lnT_len]; exact hu), ih (by omega)]
      have h2 : cntIn (ballW S (gi C k) r) u (ballW S (gi C k) r).length = if u < (nW S).toNat ∧ ballB S (gi C k) r u = true then 1 else 0 := cntIn_sel (ballB S (gi C k) r) (nW S).toNat u
      have e' : kept S C r k = false := by unfold kept; simpa using e
      rw [h2, cnt_off _ (fun j => decide (dist S u (gi C j) ≤ r) && (decide (k + 1 ≤ j) || kept S C r j)) C.length k (by omega) (fun j hj => by
        have : decide (k ≤ j) = decide (k + 1 ≤ j) := by rw [decide_eq_decide]; omega
        rw [this]) (by rw [e']; simp)]
      have h3 : (u < (nW S).toNat ∧ ballB S (gi C k) r u = true) ↔ (decide (dist S u (gi C k) ≤ r) && (decide (k ≤ k) || kept S C r k)) = true := by
        simp [hu, ballB]
      simp only [h3]
      omega
theorem lean_others (S C : List Int) (r : Int) (k u : Nat) (hk : k < C.length) (bf : Nat → Bool) (hbf : ∀ u, bf u = true ↔ ∃ j, j < k ∧ kept S C r j = true ∧ ballN S r (gi C j) u = true) :
    (bf u || behU (C.map (ballN S r)) k u) = true ↔ ∃ i, i < C.length ∧ i ≠ k ∧ (k ≤ i ∨ kept S C r i = true) ∧ ballN S r (gi C i) u = true := by
  rw [Bool.or_eq_true, hbf, behU, unionL_iff]
  constructor
  · rintro (⟨i, hi, h1, h2⟩ | ⟨i, hi, h⟩)
    · exact ⟨i, by omega, by omega, .inr h1, h2⟩
    · simp at hi
      rw [pAt_drop, pAt_map _ _ _ _ (by omega)] at h
      exact ⟨k + 1 + i, by omega, by omega, .inl (by omega), h⟩
  · rintro ⟨i, hi, hne, hkk, h⟩
    by_cases e : i < k
    · exact .inl ⟨i, e, by rcases hkk with g | g; omega; exact g, h⟩
    · exact .inr ⟨i - (k + 1), by simp; omega, by rw [pAt_drop, show k + 1 + (i - (k + 1)) = i by omega, pAt_map _ _ _ _ hi]; exact h⟩
theorem lean_eq (S C : List Int) (r : Int) (hN : nW S ≤ 1024) (k : Nat) (hk : k < C.length) (bf : Nat → Bool) (hbf : ∀ u, bf u = true ↔ ∃ j, j < k ∧ kept S C r j = true ∧ ballN S r (gi C j) u = true) :
    needS (C.map (ballN S r)) bf k = kept S C r k := by
  rw [Bool.eq_iff_iff, kept, need_iffT]
  unfold needS
  rw [Bool.not_eq_true', ← Bool.not_eq_true, eqS_iff]
  have one : ∀ u : Nat, u < (nW S).toNat → dist S u (gi C k) ≤ r → (gi (lnT S C r k) u = 1 ↔ ∀ i, i < C.length → i ≠ k → ¬ ((k ≤ i ∨ kept S C r i = true) ∧ dist S u (gi C i) ≤ r)) := fun u hu hd => by
    rw [lnT_cnt S C r u hu k (by omega), cnt_one _ _ k hk (by simp [hd])]
    constructor
    · intro h i hi hne g
      have := h i hi hne
      simp [g.2] at this
      rcases g.1 with g1 | g1
      · omega
      · rw [this.2] at g1; cases g1
    · intro h i hi hne
      have g := h i hi hne
      rw [Bool.and_eq_false_iff, decide_eq_false_iff_not]
      by_cases e : dist S u (gi C i) ≤ r
      · refine .inr ?_
        rw [Bool.or_eq_false_iff, decide_eq_false_iff_not]
        exact ⟨fun e2 => g ⟨.inl e2, e⟩, by cases h2 : kept S C r i with | true => exact absurd ⟨.inr h2, e⟩ g | false => rfl⟩
      · exact .inl e
  constructor
  · intro h
    have h' : ∃ u, u < 1024 ∧ ¬ (bf u || behU (C.map (ballN S r)) k u || pAt (C.map (ballN S r)) k u) = (bf u || behU (C.map (ballN S r)) k u) := by
      refine Classical.byContradiction fun g => h fun u hu => Classical.byContradiction fun g2 => g ⟨u, hu, g2⟩
    obtain ⟨u, hu, hne⟩ := h'
    cases ho : (bf u || behU (C.map (ballN S r)) k u) with
    | true => rw [ho] at hne; simp at hne
    | false =>
      rw [ho, Bool.false_or, pAt_map _ _ _ _ hk] at hne
      have hp : ballN S r (gi C k) u = true := by simpa using hne
      rw [ballN_in, decide_eq_true_eq] at hp
      refine ⟨u, hp.1, hp.2, (one u hp.1 hp.2).2 fun i hi hik hd => ?_⟩
      have := (lean_others S C r k u hk bf hbf).2 ⟨i, hi, hik, hd.1, by rw [ballN_in, decide_eq_true_eq]; exact ⟨hp.1, hd.2⟩⟩
      rw [ho] at this; cases this
  · rintro ⟨u, hu, hd, ht⟩ h
    have h1 := h u (by omega)
    have hp : ballN S r (gi C k) u = true := by rw [ballN_in, decide_eq_true_eq]; exact ⟨hu, hd⟩
    rw [pAt_map _ _ _ _ hk, hp, Bool.or_true] at h1
    obtain ⟨i, hi, hne, hkk, g⟩ := (lean_others S C r k u hk bf hbf).1 h1.symm
    rw [ballN_in, decide_eq_true_eq] at g
    exact (one u hu hd).1 ht i hi hne ⟨hkk, g.2⟩
theorem lean_all (S C : List Int) (r : Int) (hN : nW S ≤ 1024) (k : Nat) (hk : k ≤ C.length) :
    (∀ u, befT (C.map (ballN S r)) true k u = true ↔ ∃ j, j < k ∧ kept S C r j = true ∧ ballN S r (gi C j) u = true) ∧ outT (C.map (ballN S r)) C true k = lnTo S C r k := by
  induction k with
  | zero => exact ⟨fun u => by simp [befT], rfl⟩
  | succ k ih =>
    obtain ⟨h1, h2⟩ := ih (by omega)
    have he := lean_eq S C r hN k (by omega) _ h1
    refine ⟨fun u => ?_, ?_⟩
    · rw [befT, he]
      cases hkk : kept S C r k with
      | true =>
        rw [if_pos (by simp)]
        simp only [Bool.or_eq_true, h1, pAt_map S C r k (by omega)]
        constructor
        · rintro (⟨j, hj, a, b⟩ | h)
          · exact ⟨j, by omega, a, b⟩
          · exact ⟨k, by omega, hkk, h⟩
        · rintro ⟨j, hj, a, b⟩
          by_cases e : j = k
          · subst e; exact .inr b
          · exact .inl ⟨j, by omega, a, b⟩
      | false =>
        rw [if_neg (by simp), h1]
        constructor
        · rintro ⟨j, hj, a, b⟩; exact ⟨j, by omega, a, b⟩
        · rintro ⟨j, hj, a, b⟩
          refine ⟨j, ?_, a, b⟩
          by_cases e : j = k
          · subst e; rw [hkk] at a; cases a
          · omega
    · rw [outT, he, h2, lnTo]; rfl

set_option maxHeartbeats 1000000 in
theorem impl_LeanCode (ao : Option Addr) (S : List Int) (cap : Nat) (hn : S.length ≤ 4294967296) (ac : Option Addr) (C : List Int) (capc : Nat) (hnc : C.length ≤ 4294967296) (r : Int) (hr : -9223372036854775808 ≤ r ∧ r ≤ 9223372036854775807) (w : World) (hS : Ints w ao S) (hC : Ints w ac C) :
    Calls Try.prog 35 #[.agg #[.slice ao S.length cap], .slice ac C.length capc, .int .i64 r] w fun e w' => ∃ v, e = .returned (.tuple #[v, .int .i64 (eCov S C r)]) ∧ OwnInts w' w.heap.size v (vLean S C r) ∧ Below w.heap.size w w' := by
  have B0 : Below w.heap.size w (w.alloc (.cells #[.slice ao S.length cap] 26)) := by go_grown
  have HQ := Lib.hid (eCov2_nil S C r)
  have cS := cell_new w (.slice ao S.length cap) 26
  have lS := lt_alloc w (.cells #[.slice ao S.length cap] 26)
  by_cases hq : eCov S C r = 0
  · obtain ⟨hz, r1, r2⟩ := eCov_zero hq
    obtain ⟨hSp, hc1, hc2⟩ := eCode_zero hz
    have N1 := nW_bd hSp
    have hlen := code_len hSp hc1 hc2
    have HSp := Lib.hid hSp
    have HC1 : Hid (∀ i, i < C.length → 0 ≤ gi C i ∧ gi C i ≤ 9223372036854775807) := Lib.hid fun i h => by have := hc1 i h; omega
    have HV : Hid (vLean S C r = outT (C.map (ballN S r)) C true C.length) := Lib.hid (by unfold vLean; rw [if_pos hq, (lean_all S C r (by omega) _ (Nat.le_refl _)).2])
    have hqn : (eCov2 S C [] r != 0) = false := by rw [HQ.out]; simp [hq]
    have HQ0 := Lib.hid hq
    clear hc1 hc2 hSp hq hz N1
    go_enter Try.func35, Try.ntmps35
    go_wp2_with fail
    refine (coverError_n ao S cap hn ac C capc hnc r none [] 0 0 rfl (by omega) _ (hS.below B0) (hC.below B0) (.inl rfl)).mono ?_
    rintro e w1 ⟨rfl, hb⟩
    replace cS := kept_cell hb cS lS
    replace lS := lt_of_below hb lS
    have B1 : Below w.heap.size w w1 := B0.trans (hb.mono B0.size)
    have hs1 := B1.size
    clear hb B0
    go_wp2_with fail
    refine (balls_any ao S cap ac C capc r _).mono ?_
    rintro e w2 ⟨wb, sb, rb, rfl, hbb, hwb, hsb, hrb, hb2⟩
    have B2 := B1.trans (hb2.mono B1.size)
    clear hb2 hbb
    go_wp2_with fail
    refine (collectBalls_any S HSp.out ao cap ac C capc (by omega) HC1.out r r1 r2 wb sb rb w w2 B2 hS hC hwb hsb hrb).mono ?_
    rintro e w3 ⟨vs, rfl, oS, hb3⟩
    obtain ⟨av, cs, hv⟩ := sets_shape oS
    rw [List.length_map] at hv
    subst hv
    have B3 := B2.trans (hb3.mono B2.size)
    have s3 := hb3.size
    clear hwb hsb hrb hb3
    go_wp2_with fail
    refine (neededOf_any ac C capc (by omega) w2.heap.size av cs (C.map (ballN S r)) (by simp) true _ s3 (hC.below B3) oS).mono ?_
    rintro e w4 ⟨v, rfl, own, hb4⟩
    have hs3 := B3.size
    go_wp2_with fail
    go_ret2
    exact ⟨_, by rw [HQ0.out]; rfl, by rw [HV.out]; exact own.rebase hs3, B3.trans (hb4.mono hs3)⟩
  · have hqn : (eCov2 S C [] r != 0) = true := by rw [HQ.out]; simpa using hq
    have HV : Hid (vLean S C r = []) := Lib.hid (by unfold vLean; rw [if_neg hq])
    clear hq
    go_enter Try.func35, Try.ntmps35
    go_wp2_with fail
    refine (coverError_n ao S cap hn ac C capc hnc r none [] 0 0 rfl (by omega) _ (hS.below B0) (hC.below B0) (.inl rfl)).mono ?_
    rintro e w1 ⟨rfl, hb⟩
    go_wp2_with fail
    go_ret2
    exact ⟨_, by rw [HQ.out]; rfl, by rw [HV.out]; exact own_nil _ _, B0.trans (hb.mono B0.size)⟩

end Go.Proofs.Ytjjcpbhmpjedoaa

namespace Go.Proofs.Ytjjcpbhmpjedoaa
open Go.RowKit Cv
set_option linter.unusedVariables false
set_option linter.unusedSimpArgs false
set_option maxRecDepth 100000

set_option maxHeartbeats 4000000 in
theorem l02Uncovered_any (ao : Option Addr) (S : List Int) (cap : Nat) (hSp : Sp S) (ac : Option Addr) (C : List Int) (capc : Nat) (hlen : C.length ≤ 1048576) (hC0 : ∀ i, i < C.length → 0 ≤ gi C i ∧ gi C i ≤ 9223372036854775807) (r : Int) (N : Nat) (hN : Hid (nW S = (N : Int))) (w : World) (hS : Ints w ao S) (hC : Ints w ac C) :
    Calls Try.prog 86 #[.agg #[.slice ao S.length cap], .slice ac C.length capc, .int .i64 r] w fun e w' => ∃ v, e = .returned v ∧ OwnInts w' w.heap.size v (selL (uncP S C r) N) ∧ Below w.heap.size w w' := by
  have HSp := Lib.hid hSp
  have HC0 := Lib.hid hC0
  have N2 : N ≤ 1024 := by have := (nW_bd hSp).2; have := hN.out; omega
  have HNN : Hid ((nW S).toNat = N) := Lib.hid (by have := hN.out; omega)
  clear hSp hC0
  have B0 : Below w.heap.size w (w.alloc (.cells #[.slice ao S.length cap] 26)) := by go_grown
  go_enter Try.func86, Try.ntmps86
  go_wp2_with fail
  refine (l02Times_any ao S cap HSp.out ac C capc hlen HC0.out r N hN _ (hS.below B0) (hC.below B0)).mono ?_
  rintro e w1 ⟨q, rfl, oq, hb1⟩
  have B1 := B0.trans (hb1.mono B0.size)
  have hs1 := B1.size
  have hq1 := oq.base_le
  simp only [World.size_alloc] at hq1
  replace oq := (oq.alloc (.cells #[] 2)).rebase (base' := w.heap.size) (by simp)
  have oo := own_empty w1 (q + 1) (by omega) rfl
  have B2 := B1.alloc hs1 (.cells #[] 2)
  have hg1 : q < w1.heap.size := hq1.2
  clear hb1 B1 B0 hq1
  have HT := Lib.hid (timesL_len S C r)
  have g0 : w.heap.size ≤ q := oq.base_le.1
  go_wp2_with fail
  go_loopw [8, 17] (fun v i wr => ∃ k : Nat, k ≤ N ∧ i = .int .i64 k ∧ OwnInts wr (q + 1) v (selL (uncP S C r) k) ∧ OwnInts wr w.heap.size (.slice (some ⟨q, 0, none⟩) N N) (timesL S C r) ∧ q < wr.heap.size ∧ Below w.heap.size w wr) (fun _ i _ => N - (intOf i).toNat)
  case atStart => exact ⟨0, Nat.zero_le _, rfl, oo, oq, by simp; omega, B2⟩
  case round =>
    clear oo oq B2 hs1 hg1
    obtain ⟨k, hk, rfl, oo, oq, hg1, B⟩ := hrel
    by_cases hlt : k < N
    · have hck := oq.cell (k := k) (by rw [HT.out, HNN.out]; exact hlt)
      rw [gi_timesA S C r k (by rw [HNN.out]; exact hlt)] at hck
      have hpl := selL_len (uncP S C r) k
      obtain ⟨t, ht⟩ : ∃ t, t = tAt S C r k := ⟨_, rfl⟩
      rw [← ht] at hck
      have hs := B.size
      by_cases h0 : t = 0
      · have hd : (t == 0) = true := by simpa using h0
        have H2 : Hid (selL (uncP S C r) (k + 1) = selL (uncP S C r) k ++ [(k : Int)]) := Lib.hid (by rw [selL_succ, if_pos (by unfold uncP; rw [← ht]; exact hd)])
        have E0 : IntKind.i64.wrap (k : Int) = (k : Int) := IntWalk.i64_in _ ⟨by omega, by omega⟩
        clear ht h0
        go_wp2_with (at_builtin; refine wpList_append_int rfl _ _ rfl (q + 1) _ _ rfl (oo.alloc _) wr.heap.size _ rfl (cell_new _ _ _) (by omega) (by rw [World.size_alloc]; omega) ?_; intro v' w4 hown' hgrow)
        have hgb := grown_below (B.alloc B.size _) (by rw [World.size_alloc]; omega) hgrow (oo.alloc _) (by omega)
        have oq4 := (oq.alloc _).kept hgrow (.inr (fun e => by have := World.ownsRow.lt oo _ e.symm; simp at this; omega))
        have hg4 : q < w4.heap.size := by have := hgrow.size; simp at this; omega
        clear oo oq hgrow
        go_wp2_with fail
        go_roundw
        case rel => exact ⟨k + 1, by omega, by go_num, by rw [H2.out]; exact hown', oq4, hg4, hgb⟩
        case measure => simp [intOf]; omega
      · have hd : (t == 0) = false := by simpa using h0
        have H2 : Hid (selL (uncP S C r) (k + 1) = selL (uncP S C r) k) := Lib.hid (by rw [selL_succ, if_neg (by unfold uncP; rw [← ht, hd]; simp), List.append_nil])
        clear ht h0
        go_wp2_with fail
        go_roundw
        case rel => exact ⟨k + 1, by omega, by go_num, by rw [H2.out]; exact oo, oq, hg1, B⟩
        case measure => simp [intOf]; omega
    · have ek : Hid (k = N) := Lib.hid (by omega)
      go_wp2_with fail
      go_ret
      exact ⟨_, rfl, by rw [← ek.out]; exact oo.rebase (by omega), B⟩

set_option maxHeartbeats 1000000 in
theorem spec_UncoveredWords (ao : Option Addr) (S : List Int) (cap : Nat) (hn : S.length ≤ 4294967296) (ac : Option Addr) (C : List Int) (capc : Nat) (hnc : C.length ≤ 4294967296) (r : Int) (hr : -9223372036854775808 ≤ r ∧ r ≤ 9223372036854775807) (w : World) (hS : Ints w ao S) (hC : Ints w ac C) :
    Calls Try.prog 38 #[.agg #[.slice ao S.length cap], .slice ac C.length capc, .int .i64 r] w fun e w' => ∃ v, e = .returned (.tuple #[v, .int .i64 (eCov S C r)]) ∧ OwnInts w' w.heap.size v (vUnc S C r) ∧ Below w.heap.size w w' := by
  have B0 : Below w.heap.size w (w.alloc (.cells #[.slice ao S.length cap] 26)) := by go_grown
  have c0 := cell_new w (.slice ao S.length cap) 26
  have l0 := lt_alloc w (.cells #[.slice ao S.length cap] 26)
  by_cases hq : eCov S C r = 0
  · obtain ⟨hz, r1, r2⟩ := eCov_zero hq
    have hqn : (eCov S C r != 0) = false := by simp [hq]
    obtain ⟨hSp, hc1, hc2⟩ := eCode_zero hz
    obtain ⟨N1, N2⟩ := nW_bd hSp
    have hlen := code_len hSp hc1 hc2
    have HSp := Lib.hid hSp
    have HC1 : Hid (∀ i, i < C.length → 0 ≤ gi C i ∧ gi C i ≤ 9223372036854775807) := Lib.hid fun i h => by have := hc1 i h; omega
    obtain ⟨N, hN⟩ : ∃ N : Nat, nW S = (N : Int) := ⟨(nW S).toNat, by omega⟩
    have HN := Lib.hid hN
    have HQ0 := Lib.hid hq
    have HV : Hid (vUnc S C r = selL (uncP S C r) N) := Lib.hid (by unfold vUnc; rw [if_pos hq, hN]; rfl)
    clear hq hz hN hc1 hc2 hSp
    go_enter Try.func38, Try.ntmps38
    go_wp2_with fail
    refine (l02Code_any ao S cap hn ac C capc hnc r _ (hS.below B0) (hC.below B0)).mono ?_
    rintro e w1 ⟨rfl, hb⟩
    replace c0 := kept_cell hb c0 l0
    replace l0 := lt_of_below hb l0
    have B1 : Below w.heap.size w w1 := B0.trans (hb.mono B0.size)
    have hs1 := B1.size
    clear hb B0
    go_wp2_with fail
    refine (l02Uncovered_any ao S cap HSp.out ac C capc (by omega) HC1.out r N HN _ (hS.below B1) (hC.below B1)).mono ?_
    rintro e w2 ⟨v, rfl, own, hb⟩
    go_wp2_with fail
    go_ret2
    exact ⟨_, by rw [HQ0.out]; rfl, by rw [HV.out]; exact own.rebase hs1, B1.trans (hb.mono hs1)⟩
  · have hqn : (eCov S C r != 0) = true := by simpa using hq
    have HV : Hid (vUnc S C r = []) := Lib.hid (by unfold vUnc; rw [if_neg hq])
    clear hq
    go_enter Try.func38, Try.ntmps38
    go_wp2_with fail
    refine (l02Code_any ao S cap hn ac C capc hnc r _ (hS.below B0) (hC.below B0)).mono ?_
    rintro e w1 ⟨rfl, hb⟩
    go_wp2_with fail
    go_ret2
    exact ⟨_, rfl, by rw [HV.out]; exact own_nil _ _, B0.trans (hb.mono B0.size)⟩

end Go.Proofs.Ytjjcpbhmpjedoaa

namespace Go.Proofs.Ytjjcpbhmpjedoaa
open Go.RowKit Cv
set_option linter.unusedVariables false
set_option linter.unusedSimpArgs false
set_option maxRecDepth 100000

set_option maxHeartbeats 1000000 in
theorem spec_CoversSpace (ao : Option Addr) (S : List Int) (cap : Nat) (hn : S.length ≤ 4294967296) (ac : Option Addr) (C : List Int) (capc : Nat) (hnc : C.length ≤ 4294967296) (r : Int) (hr : -9223372036854775808 ≤ r ∧ r ≤ 9223372036854775807) (w : World) (hS : Ints w ao S) (hC : Ints w ac C) :
    Calls Try.prog 42 #[.agg #[.slice ao S.length cap], .slice ac C.length capc, .int .i64 r] w fun e w' => e = .returned (.tuple #[.bool (vCovS S C r), .int .i64 (eCov S C r)]) ∧ Below w.heap.size w w' := by
  have B0 : Below w.heap.size w (w.alloc (.cells #[.slice ao S.length cap] 26)) := by go_grown
  have c0 := cell_new w (.slice ao S.length cap) 26
  have l0 := lt_alloc w (.cells #[.slice ao S.length cap] 26)
  by_cases hq : eCov S C r = 0
  · obtain ⟨hz, r1, r2⟩ := eCov_zero hq
    have hqn : (eCov S C r != 0) = false := by simp [hq]
    obtain ⟨hSp, hc1, hc2⟩ := eCode_zero hz
    obtain ⟨N1, N2⟩ := nW_bd hSp
    have hlen := code_len hSp hc1 hc2
    have HSp := Lib.hid hSp
    have HC1 : Hid (∀ i, i < C.length → 0 ≤ gi C i ∧ gi C i ≤ 9223372036854775807) := Lib.hid fun i h => by have := hc1 i h; omega
    obtain ⟨N, hN⟩ : ∃ N : Nat, nW S = (N : Int) := ⟨(nW S).toNat, by omega⟩
    have HN := Lib.hid hN
    have HQ0 := Lib.hid hq
    obtain ⟨K, hK⟩ : ∃ K, K = (selL (uncP S C r) N).length := ⟨_, rfl⟩
    have HK := Lib.hid hK
    have HV : Hid (vCovS S C r = ((K : Int) == 0)) := Lib.hid (by
      unfold vCovS; rw [if_pos hq, hN]
      show decide ((selL (uncP S C r) N).length = 0) = _
      rw [← hK, Bool.eq_iff_iff]; simp)
    clear hq hz hN hc1 hc2 hSp hK
    go_enter Try.func42, Try.ntmps42
    go_wp2_with fail
    refine (l02Code_any ao S cap hn ac C capc hnc r _ (hS.below B0) (hC.below B0)).mono ?_
    rintro e w1 ⟨rfl, hb⟩
    replace c0 := kept_cell hb c0 l0
    replace l0 := lt_of_below hb l0
    have B1 : Below w.heap.size w w1 := B0.trans (hb.mono B0.size)
    have hs1 := B1.size
    clear hb B0
    go_wp2_with fail
    refine (l02Uncovered_any ao S cap HSp.out ac C capc (by omega) HC1.out r N HN _ (hS.below B1) (hC.below B1)).mono ?_
    rintro e w2 ⟨v, rfl, own, hb⟩
    obtain ⟨a1, k1, hv⟩ := own.shape
    subst hv
    rw [← HK.out] at own ⊢
    go_wp2_with fail
    go_ret2
    exact ⟨by rw [HV.out, HQ0.out]; rfl, B1.trans (hb.mono hs1)⟩
  · have hqn : (eCov S C r != 0) = true := by simpa using hq
    have HV : Hid (vCovS S C r = false) := Lib.hid (by unfold vCovS; rw [if_neg hq])
    clear hq
    go_enter Try.func42, Try.ntmps42
    go_wp2_with fail
    refine (l02Code_any ao S cap hn ac C capc hnc r _ (hS.below B0) (hC.below B0)).mono ?_
    rintro e w1 ⟨rfl, hb⟩
    go_wp2_with fail
    go_ret2
    exact ⟨by rw [HV.out]; rfl, B0.trans (hb.mono B0.size)⟩

end Go.Proofs.Ytjjcpbhmpjedoaa

namespace Go.Proofs.Ytjjcpbhmpjedoaa
open Go.RowKit Cv
set_option linter.unusedVariables false
set_option linter.unusedSimpArgs false
set_option maxRecDepth 100000

end Go.Proofs.Ytjjcpbhmpjedoaa

namespace Go.Proofs.Ytjjcpbhmpjedoaa
open Go.RowKit Cv
set_option linter.unusedVariables false
set_option linter.unusedSimpArgs false
set_option maxRecDepth 100000

/-- the words that are covered are all words just where none is uncovered -/
theorem covS_eq (S C : List Int) (r : Int) (hN : nW S ≤ 1024) : decide ((selL (uncP S C r) (nW S).toNat).length = 0) = eqS (covN S C r) (allN S) := by
  rw [Bool.eq_iff_iff, decide_eq_true_eq, selL_nil, eqS_iff]
  constructor
  · intro h u hu
    rw [covN_in, allN]
    by_cases hn : u < (nW S).toNat
    · have h1 := h u hn
      rw [uncP_in, decide_eq_false_iff_not, Classical.not_not] at h1
      simp [hn, h1]
    · simp [hn]
  · intro h u hu
    have h1 := h u (by omega)
    rw [covN_in, allN, Bool.eq_iff_iff, decide_eq_true_eq, decide_eq_true_eq] at h1
    rw [uncP_in, decide_eq_false_iff_not, Classical.not_not]
    exact (h1.2 hu).2
set_option maxHeartbeats 1000000 in
theorem impl_CoversSpace (ao : Option Addr) (S : List Int) (cap : Nat) (hn : S.length ≤ 4294967296) (ac : Option Addr) (C : List Int) (capc : Nat) (hnc : C.length ≤ 4294967296) (r : Int) (hr : -9223372036854775808 ≤ r ∧ r ≤ 9223372036854775807) (w : World) (hS : Ints w ao S) (hC : Ints w ac C) :
    Calls Try.prog 41 #[.agg #[.slice ao S.length cap], .slice ac C.length capc, .int .i64 r] w fun e w' => e = .returned (.tuple #[.bool (vCovS S C r), .int .i64 (eCov S C r)]) ∧ Below w.heap.size w w' := by
  have B0 : Below w.heap.size w (w.alloc (.cells #[.slice ao S.length cap] 26)) := by go_grown
  have HQ := Lib.hid (eCov2_nil S C r)
  by_cases hq : eCov S C r = 0
  · obtain ⟨hz, r1, r2⟩ := eCov_zero hq
    obtain ⟨hSp, hc1, hc2⟩ := eCode_zero hz
    obtain ⟨N1, N2⟩ := nW_bd hSp
    have hlen := code_len hSp hc1 hc2
    have HSp := Lib.hid hSp
    have HC1 : Hid (∀ i, i < C.length → 0 ≤ gi C i ∧ gi C i ≤ 9223372036854775807) := Lib.hid fun i h => by have := hc1 i h; omega
    clear hc1 hc2 hSp
    have hqn : (eCov2 S C [] r != 0) = false := by rw [HQ.out]; simp [hq]
    have HQ0 := Lib.hid hq
    have HV : Hid (vCovS S C r = eqS (covN S C r) (allN S)) := Lib.hid (by
      unfold vCovS; rw [if_pos hq, covS_eq S C r (by omega)])
    clear hq hz
    go_enter Try.func41, Try.ntmps41
    go_wp2_with fail
    refine (coverError_n ao S cap hn ac C capc hnc r none [] 0 0 rfl (by omega) _ (hS.below B0) (hC.below B0) (.inl rfl)).mono ?_
    rintro e w1 ⟨rfl, hb⟩
    have c1 := kept_cell hb (cell_new w (.slice ao S.length cap) 26) (lt_alloc _ _)
    have B1 : Below w.heap.size w w1 := B0.trans (hb.mono B0.size)
    clear hb B0
    go_wp2_with fail
    have fc := fam_cell c1
    refine wp_region_fam (by kernel_rfl) (by kernel_rfl) ?_
    repeat (go_big_quiet_step (first | (go_at_call 82; exact fam_calls (coveredWords_any ao S cap HSp.out ac C capc (by omega) HC1.out r r1 r2 _ (hS.below (B1.trans ((fam_below _).mono B1.size))) (hC.below (B1.trans ((fam_below _).mono B1.size))))) | (go_at_call 87; exact fam_calls (wholeSet_any ao S cap HSp.out _ (hS.below (B1.trans ((fam_below _).mono B1.size)))))))
    go_big_quiet_want
    refine quiet_exec _ (fun w _ => exec_eqSet (p := covN S C r) (q := allN S) _ (.tmp 19) (.tmp 21) rfl rfl rfl) ?_
    go_big_quiet_on
    simp only [Act.put, List.setIfInBounds_toArray, List.set_cons_zero, List.set_cons_succ]
    repeat (go_big_quiet_step (fail))
    refine wpQuiet_nil ?_
    rintro _ ⟨y, rfl⟩
    have hb2 := fam_below y
    generalize fam w1 y = w2 at hb2 ⊢
    clear fc
    go_wp2_with fail
    go_ret2
    exact ⟨by rw [HQ0.out, HV.out]; try rfl, B1.trans (hb2.mono B1.size)⟩
  · have HV : Hid (vCovS S C r = false) := Lib.hid (by unfold vCovS; rw [if_neg hq])
    have hqn : (eCov2 S C [] r != 0) = true := by rw [HQ.out]; simpa using hq
    clear hq
    go_enter Try.func41, Try.ntmps41
    go_wp2_with fail
    refine (coverError_n ao S cap hn ac C capc hnc r none [] 0 0 rfl (by omega) _ (hS.below B0) (hC.below B0) (.inl rfl)).mono ?_
    rintro e w1 ⟨rfl, hb⟩
    go_wp2_with fail
    go_ret2
    exact ⟨by rw [HV.out, HQ.out]; try rfl, B0.trans (hb.mono B0.size)⟩


end Go.Proofs.Ytjjcpbhmpjedoaa
