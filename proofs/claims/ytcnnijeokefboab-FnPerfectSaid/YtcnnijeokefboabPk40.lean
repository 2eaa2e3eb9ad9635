/-
  Texts put together: Ball2, Times. By an AI agent.
-/
import Derived.Test.YtcnnijeokefboabMath
import Derived.Test.YtcnnijeokefboabPk30
import Derived.Test.YtcnnijeokefboabPk4
import Derived.Test.YtcnnijeokefboabPk11
import Derived.Test.YtcnnijeokefboabPk18
import Derived.Deep.RegionHeld3
import Derived.Test.YtcnnijeokefboabPk6
namespace Go.Proofs.Ytcnnijeokefboab
open Go.RowKit Cv
set_option linter.unusedVariables false
set_option linter.unusedSimpArgs false
set_option maxRecDepth 100000

theorem l01N_nat (ao : Option Addr) (S : List Int) (cap : Nat) (N : Nat) (hN : Hid (nW S = (N : Int))) (w : World) (h : Sp S) (hS : Ints w ao S) :
    Calls Try.prog 26 #[.agg #[.slice ao S.length cap]] w fun e w' => e = .returned (.int .i64 (N : Int)) ∧ Below w.heap.size w w' := by
  rw [← hN.out]; exact l01N_sp ao S cap w h hS

set_option maxHeartbeats 1000000 in
theorem l01Ball_any (ao : Option Addr) (S : List Int) (cap : Nat) (hSp : Sp S) (x : Int) (hx : 0 ≤ x) (hx2 : x ≤ 9223372036854775807) (r : Int) (w : World) (hS : Ints w ao S) :
    Calls Try.prog 82 #[.agg #[.slice ao S.length cap], .int .i64 x, .int .i64 r] w fun e w' => ∃ v, e = .returned v ∧ OwnInts w' w.heap.size v (ballW S x r) ∧ Below w.heap.size w w' := by
  obtain ⟨N, hN⟩ : ∃ N : Nat, nW S = (N : Int) := ⟨(nW S).toNat, by have := (nW_bd hSp).1; omega⟩
  have N2 : N ≤ 1024 := by have := (nW_bd hSp).2; omega
  have HW : Hid (ballW S x r = selTo (ballB S x r) N) := Lib.hid (by unfold ballW; rw [hN]; rfl)
  have HN := Lib.hid hN
  have hhi := hSp.hi
  have HSp := Lib.hid hSp
  clear hSp hN
  go_enter Try.func82, Try.ntmps82
  go_wp2_with fail
  go_loopw [7, 8] (fun v i wr => ∃ k : Nat, k ≤ N ∧ i = .int .i64 k ∧ OwnInts wr (w.heap.size + 1) v (selTo (ballB S x r) k) ∧ wr.cell? ⟨w.heap.size, 0, none⟩ = some (.slice ao S.length cap) ∧ w.heap.size < wr.heap.size ∧ Below w.heap.size w wr) (fun _ i _ => N - (intOf i).toNat)
  case atStart => exact ⟨0, by omega, rfl, own_empty _ _ (by simp) (by simp), by simp, by simp; try omega, by go_grown⟩
  case round =>
    obtain ⟨k, hk, rfl, own, c, l, B⟩ := hrel
    by_cases hlt : k < N
    · have hlenk := selTo_len (ballB S x r) k
      by_cases hd : dist S (k : Int) x ≤ r
      · have HS2 := Lib.hid (selTo_yes (p := ballB S x r) (k := k) (by simpa [ballB] using hd))
        skip
        go_wp2_with fail
        refine (l01N_nat ao S cap N HN _ HSp.out (hS.below B)).mono ?_
        rintro e w2 ⟨rfl, hb2⟩
        replace c := kept_cell hb2 c l
        replace l := lt_of_below hb2 l
        replace own := own.below hb2
        replace B := B.trans (hb2.mono B.size)
        clear hb2
        go_wp2_with fail
        refine (l01Distance_any ao S cap hhi HSp.out.bd (k : Int) x (by omega) (by omega) hx hx2 _ (hS.below B)).mono ?_
        rintro e w3 ⟨rfl, hb3⟩
        replace c := kept_cell hb3 c l
        replace l := lt_of_below hb3 l
        replace own := own.below hb3
        replace B := B.trans (hb3.mono B.size)
        clear hb3
        go_wp2_with (at_builtin; refine wpList_append_int rfl _ _ rfl (w.heap.size + 1) _ _ rfl (own.alloc _) w3.heap.size _ rfl (cell_new _ _ _) (by omega) (by simp; omega) ?_; intro v' w4 hown' hgrow)
        have hgb := grown_below (B.alloc B.size _) (by simp; omega) hgrow (own.alloc _) (Nat.le_succ _)
        have hc4 := hgrow.cell (a := ⟨w.heap.size, 0, none⟩) (kept_cell ((Below.refl w3.heap.size w3).alloc (Nat.le_refl _) _) c l) (fun e => by have := World.ownsRow.lt own _ e.symm; simp at this; omega)
        have hl4 : w.heap.size < w4.heap.size := by have := hgrow.size; simp at this; omega
        clear own hgrow
        go_wp2_with fail
        go_roundw
        case rel => exact ⟨k + 1, by omega, by go_num, by rw [HS2.out]; exact hown', hc4, hl4, hgb⟩
        case measure => simp [intOf]; omega
      · have HS2 := Lib.hid (selTo_no (p := ballB S x r) (k := k) (by simpa [ballB] using hd))
        skip
        go_wp2_with fail
        refine (l01N_nat ao S cap N HN _ HSp.out (hS.below B)).mono ?_
        rintro e w2 ⟨rfl, hb2⟩
        replace c := kept_cell hb2 c l
        replace l := lt_of_below hb2 l
        replace own := own.below hb2
        replace B := B.trans (hb2.mono B.size)
        clear hb2
        go_wp2_with fail
        refine (l01Distance_any ao S cap hhi HSp.out.bd (k : Int) x (by omega) (by omega) hx hx2 _ (hS.below B)).mono ?_
        rintro e w3 ⟨rfl, hb3⟩
        go_wp2
        go_roundw
        case rel => exact ⟨k + 1, by omega, by go_num, by rw [HS2.out]; exact own.below hb3, kept_cell hb3 c l, lt_of_below hb3 l, B.trans (hb3.mono B.size)⟩
        case measure => simp [intOf]; omega
    · have ek : k = N := by omega
      go_wp2_with fail
      refine (l01N_nat ao S cap N HN _ HSp.out (hS.below B)).mono ?_
      rintro e w2 ⟨rfl, hb2⟩
      go_wp2
      go_ret
      exact ⟨_, rfl, by rw [HW.out, ← ek]; exact (own.below hb2).rebase (by omega), B.trans (hb2.mono B.size)⟩

end Go.Proofs.Ytcnnijeokefboab

namespace Go.Proofs.Ytcnnijeokefboab
open Go.RowKit Cv
set_option linter.unusedVariables false
set_option linter.unusedSimpArgs false
set_option maxRecDepth 100000

set_option maxHeartbeats 2000000 in
theorem l02Times_any (ao : Option Addr) (S : List Int) (cap : Nat) (hSp : Sp S) (ac : Option Addr) (C : List Int) (capc : Nat) (hlen : C.length ≤ 1048576) (hC0 : ∀ i, i < C.length → 0 ≤ gi C i ∧ gi C i ≤ 9223372036854775807) (r : Int) (N : Nat) (hN : Hid (nW S = (N : Int))) (w : World) (hS : Ints w ao S) (hC : Ints w ac C) :
    Calls Try.prog 67 #[.agg #[.slice ao S.length cap], .slice ac C.length capc, .int .i64 r] w fun e w' =>
      ∃ q, e = .returned (.slice (some ⟨q, 0, none⟩) N N) ∧ OwnInts w' w.heap.size (.slice (some ⟨q, 0, none⟩) N N) (timesL S C r) ∧ Below w.heap.size w w' := by
  obtain ⟨i0, hi, hz0, hz1, hz2⟩ := info_parts infoI64
  have N2 : N ≤ 1024 := by have := (nW_bd hSp).2; have := hN.out; omega
  have HNN : Hid ((nW S).toNat = N) := Lib.hid (by have := hN.out; omega)
  have HSp := Lib.hid hSp
  have HC0 := Lib.hid hC0
  clear hSp hC0
  go_enter Try.func67, Try.ntmps67
  go_wp2_with fail
  have B0 : Below w.heap.size w (w.alloc (.cells #[.slice ao S.length cap] 26)) := by go_grown
  have c0 := cell_new w (.slice ao S.length cap) 26
  have l0 := lt_alloc w (.cells #[.slice ao S.length cap] 26)
  refine (l01N_nat ao S cap N hN _ HSp.out (hS.below B0)).mono ?_
  rintro e w1 ⟨rfl, hb1⟩
  have B1 := B0.trans (hb1.mono B0.size)
  have c1 := kept_cell hb1 c0 l0
  have l1 := lt_of_below hb1 l0
  clear hb1 B0 c0 l0
  go_wp2_with (at_make; refine wpList_make_full _ rfl _ _ 24 rfl w.heap.size 2 i0 (.int .i64 0) 1 Try.underlying24 hi hz0 hz1 .i64 .i64 _ _ N rfl rfl rfl rfl (by rw [hz2]; omega) (by unfold maxLen; omega) (by omega) ?_; intro w2 hown hgrow)
  have hb2 : Below w1.heap.size w1 w2 := below_grown0 hgrow
  have B2 : Below w.heap.size w w2 := B1.trans (hb2.mono B1.size)
  have c2 := kept_cell hb2 c1 l1
  have l2 := lt_of_below hb2 l1
  replace hown := own_made hown
  have g1 : w.heap.size < w1.heap.size := l1
  clear hgrow hb2 B1 c1 l1
  go_loopw [8] (fun i wr => ∃ (k : Nat) (T : List Int), k ≤ C.length ∧ i = .int .i64 k ∧ OwnInts wr w.heap.size (.slice (some ⟨w1.heap.size, 0, none⟩) N N) T ∧ Hid (T.length = N ∧ ∀ u, u < N → gi T u = tcov S C r u k) ∧ wr.cell? ⟨w.heap.size, 0, none⟩ = some (.slice ao S.length cap) ∧ w.heap.size < wr.heap.size ∧ Below w.heap.size w wr)
    (fun i _ => C.length - (intOf i).toNat)
  case atStart => exact ⟨0, _, Nat.zero_le _, rfl, hown, Lib.hid ⟨by simp, fun u h => by rw [gi_rep0]; rfl⟩, c2, l2, B2⟩
  case round =>
    clear hown B2 c2 l2
    obtain ⟨k, T, hk, rfl, own, HT, c, l, B⟩ := hrel
    by_cases hlt : k < C.length
    · obtain ⟨b, o, rfl, hbl, hc⟩ := hC.at hlt
      have hck : wr.cell? ⟨b, o + k, none⟩ = some (.int .i64 (gi C k)) := kept_cell B (hc k hlt) hbl
      obtain ⟨x1, x2⟩ := HC0.out k hlt
      have hbw : b < wr.heap.size := lt_of_below B hbl
      clear hc
      go_wp2_with fail
      go_region_held3 (fun w' => w'.cell? ⟨w.heap.size, 0, none⟩ = some (.slice ao S.length cap) ∧ w'.cell? ⟨b, o + k, none⟩ = some (.int .i64 (gi C k))) (first | exact ⟨c, hck⟩ | exact ⟨kept_cell hb3 c l, kept_cell hb3 hck hbw⟩) (first | (go_at_call 82; refine (l01Ball_any ao S cap HSp.out (gi C k) x1 x2 r _ (hS.below B.drew)).mono ?_; rintro e w3 ⟨v, rfl, ob, hb3'⟩; have hb3 : Below wr.heap.size wr w3 := (Below.refl _ wr).drew.trans hb3'))
      replace c := kept_cell hb3 c l
      have hgr := own.base_le.2
      replace own := own.below hb3
      have sB := B.size
      replace B := B.trans (hb3.mono B.size)
      have glo : w1.heap.size < wr.heap.size := by
        exact hgr
      replace l := lt_of_below hb3 l
      obtain ⟨a_, k_, hv⟩ := ob.shape
      subst hv
      have HB : Hid (∀ t, t < (ballW S (gi C k) r).length → 0 ≤ gi (ballW S (gi C k) r) t ∧ gi (ballW S (gi C k) r) t < N) := Lib.hid fun t ht => by
        have h1 : 0 ≤ gi (ballW S (gi C k) r) t ∧ gi (ballW S (gi C k) r) t < ((nW S).toNat : Nat) := selTo_bd _ _ t ht
        have h2 := HNN.out
        exact ⟨h1.1, by omega⟩
      have hlb := ballW_len HSp.out (gi C k) r
      clear hb3 hb3' hck
      go_wp2_with fail
      go_loopw [10] (fun i wi => ∃ (j : Nat) (U : List Int), j ≤ (ballW S (gi C k) r).length ∧ i = .int .i64 j ∧ OwnInts wi w.heap.size (.slice (some ⟨w1.heap.size, 0, none⟩) N N) U ∧ Hid (U.length = N ∧ ∀ u : Nat, u < N → gi U u = tcov S C r u k + cntIn (ballW S (gi C k) r) u j) ∧ OwnInts wi wr.heap.size (.slice a_ (ballW S (gi C k) r).length k_) (ballW S (gi C k) r) ∧ wi.cell? ⟨w.heap.size, 0, none⟩ = some (.slice ao S.length cap) ∧ w.heap.size < wi.heap.size ∧ Below w.heap.size w wi)
        (fun i _ => (ballW S (gi C k) r).length - (intOf i).toNat)
      case atStart => exact ⟨0, T, Nat.zero_le _, rfl, own, Lib.hid ⟨HT.out.1, fun u h => by rw [HT.out.2 u h]; simp [cntIn, cnt]⟩, ob, c, l, B⟩
      case round =>
        clear own ob c l B
        obtain ⟨j, U, hj, rfl, own, HU, ob, c, l, B⟩ := hrel
        by_cases hlj : j < (ballW S (gi C k) r).length
        · obtain ⟨bb, bo, rfl, hbb, hcb⟩ := (own_ints ob).at hlj
          obtain ⟨y1, y2⟩ := HB.out j hlj
          obtain ⟨u, hu⟩ : ∃ u : Nat, gi (ballW S (gi C k) r) j = (u : Int) := ⟨(gi (ballW S (gi C k) r) j).toNat, by omega⟩
          have hcj := hcb j hlj
          rw [hu] at hcj
          have hun : u < N := by omega
          have hcell := own.cell (k := u) (by rw [HU.out.1]; exact hun)
          have hfree := own.free u
          obtain ⟨t1, t2⟩ := tcov_bd S C r u k
          obtain ⟨t3, t4⟩ := cntIn_bd (ballW S (gi C k) r) u j
          have hgu := HU.out.2 u hun
          rw [hgu] at hcell
          have HY := Lib.hid hu
          clear hcb hu hgu y1 y2
          go_wp2
          go_roundw
          case rel =>
            refine ⟨j + 1, _, by omega, by go_num, own.stored u (tcov S C r u k + cntIn (ballW S (gi C k) r) u j + 1), Lib.hid ⟨by rw [List.length_set]; exact HU.out.1, ?_⟩, ob.setBelow (by simp; omega) _, cell_set_other c (by simp; omega), by simpa using l, B.setCell (by simp; omega) _⟩
            intro z hz
            rw [gi_set _ _ _ _ (by rw [HU.out.1]; exact hun)]
            by_cases e : z = u
            · subst e
              rw [if_pos rfl, cntIn_yes HY.out]; omega
            · rw [if_neg e, HU.out.2 z hz, cntIn_no (by rw [HY.out]; omega)]
          case measure => simp [intOf]; omega
        · have ej : j = (ballW S (gi C k) r).length := by omega
          go_wp2
          go_roundw
          case rel =>
            refine ⟨k + 1, U, by omega, by go_num, own, Lib.hid ⟨HU.out.1, fun u h => ?_⟩, c, l, B⟩
            rw [HU.out.2 u h, ej, ← tcov_ball S C r u k (by rw [HNN.out]; exact h)]
          case measure => simp [intOf]; omega
    · have ek : k = C.length := by omega
      go_wp2
      go_ret
      have e : T = timesL S C r := ext_gi (by rw [HT.out.1, timesL_len, HNN.out]) fun i hi => by rw [HT.out.1] at hi; rw [HT.out.2 i hi, gi_timesL _ _ _ _ (by rw [HNN.out]; exact hi), ek]
      rw [e] at own
      exact ⟨_, rfl, own, B⟩

end Go.Proofs.Ytcnnijeokefboab
