/-
  The contract of the model of NeededWords. By an AI agent.
-/
import Derived.Test.YtgaelpcghljihaaTimes
import Derived.Test.YtgaelpcghljihaaErr2
import Derived.Test.YtgaelpcghljihaaMathB
import Derived.Test.YtgaelpcghljihaaAppend
import Derived.Deep.RegionHeld3
namespace Go.Proofs.Ytgaelpcghljihaa
open Go.RowKit Cv
set_option linter.unusedVariables false
set_option linter.unusedSimpArgs false
set_option maxRecDepth 100000

set_option maxHeartbeats 2000000 in
theorem l02Needed_any (ao : Option Addr) (S : List Int) (cap : Nat) (hSp : Sp S) (aT : Option Addr) (T : List Int) (N capT : Nat) (hT : Hid (T.length = N)) (x : Int) (hx : 0 ≤ x) (hx2 : x ≤ 9223372036854775807) (r : Int) (hN : Hid (nW S = (N : Int))) (w : World) (hS : Ints w ao S) (hTm : Ints w aT T) :
    Calls Try.prog 95 #[.agg #[.slice ao S.length cap], .slice aT N capT, .int .i64 x, .int .i64 r] w fun e w' => e = .returned (.bool (needB T S x r)) ∧ Below w.heap.size w w' := by
  have HSp := Lib.hid hSp
  have N2 : N ≤ 1024 := by have := (nW_bd hSp).2; have := hN.out; omega
  have hlb := ballW_len hSp x r
  have HB : Hid (∀ t, t < (ballW S x r).length → 0 ≤ gi (ballW S x r) t ∧ gi (ballW S x r) t < N) := Lib.hid fun t ht => by
    have h1 : 0 ≤ gi (ballW S x r) t ∧ gi (ballW S x r) t < ((nW S).toNat : Nat) := selTo_bd _ _ t ht
    have h2 := hN.out
    exact ⟨h1.1, by omega⟩
  clear hSp
  have B0 : Below w.heap.size w (w.alloc (.cells #[.slice ao S.length cap] 24)) := by go_grown
  go_enter Try.func95, Try.ntmps95
  go_wp2_with fail
  refine (l01Ball_any ao S cap HSp.out x hx hx2 r _ (hS.below B0)).mono ?_
  rintro e w1 ⟨v, rfl, ob, hb1⟩
  have B1 := B0.trans (hb1.mono B0.size)
  have s1 := B1.size
  obtain ⟨a_, k_, hv⟩ := ob.shape
  subst hv
  clear hb1 B0
  go_wp2_with fail
  go_loopw [10] (fun i wi => ∃ j : Nat, j ≤ (ballW S x r).length ∧ i = .int .i64 j ∧ Hid (oneTo T (ballW S x r) j = false) ∧ wi = w1) (fun i _ => (ballW S x r).length - (intOf i).toNat)
  case atStart => exact ⟨0, Nat.zero_le _, rfl, Lib.hid rfl, rfl⟩
  case round =>
    obtain ⟨j, hj, rfl, HO, rfl⟩ := hrel
    by_cases hlj : j < (ballW S x r).length
    · obtain ⟨bb, bo, rfl, hbb, hcb⟩ := (own_ints ob).at hlj
      obtain ⟨y1, y2⟩ := HB.out j hlj
      obtain ⟨u, hu⟩ : ∃ u : Nat, gi (ballW S x r) j = (u : Int) := ⟨(gi (ballW S x r) j).toNat, by omega⟩
      have hcj := hcb j hlj
      rw [hu] at hcj
      have hun : u < N := by omega
      obtain ⟨tb, to, rfl, htb, htc⟩ := (hTm.below B1).at (i := u) (by rw [hT.out]; exact hun)
      have hcu := htc u (by rw [hT.out]; exact hun)
      have HU := Lib.hid hu
      obtain ⟨t, ht⟩ : ∃ t, t = gi T u := ⟨_, rfl⟩
      rw [← ht] at hcu
      clear hcb htc hu y1 y2
      by_cases h1 : t = 1
      · have hd : (t == 1) = true := by simpa using h1
        have HR : Hid (needB T S x r = true) := Lib.hid (oneTo_mono (k := j + 1) (by omega) (by rw [oneTo, HU.out]; simp [← ht, h1]))
        clear h1 ht
        go_wp2_with fail
        go_ret
        exact ⟨by rw [HR.out]; rfl, B1⟩
      · have hd : (t == 1) = false := by simpa using h1
        have HO2 : Hid (oneTo T (ballW S x r) (j + 1) = false) := Lib.hid (by rw [oneTo, HO.out, HU.out]; simp [← ht, h1])
        clear h1 ht
        go_wp2_with fail
        go_roundw
        case rel => exact ⟨j + 1, by omega, by go_num, HO2, trivial⟩
        case measure => simp [intOf]; omega
    · have HR : Hid (needB T S x r = false) := Lib.hid (by unfold needB; rw [show (ballW S x r).length = j by omega]; exact HO.out)
      go_wp2_with fail
      go_ret
      exact ⟨by rw [HR.out]; rfl, B1⟩

set_option maxHeartbeats 4000000 in
theorem spec_NeededWords (ao : Option Addr) (S : List Int) (cap : Nat) (hn : S.length ≤ 4294967296) (ac : Option Addr) (C : List Int) (capc : Nat) (hnc : C.length ≤ 4294967296) (r : Int) (hr : -9223372036854775808 ≤ r ∧ r ≤ 9223372036854775807) (w : World) (hS : Ints w ao S) (hC : Ints w ac C) :
    Calls Try.prog 43 #[.agg #[.slice ao S.length cap], .slice ac C.length capc, .int .i64 r] w fun e w' => ∃ v, e = .returned (.tuple #[v, .int .i64 (eCov S C r)]) ∧ OwnInts w' w.heap.size v (vNeed S C r) ∧ Below w.heap.size w w' := by
  have B0 : Below w.heap.size w (w.alloc (.cells #[.slice ao S.length cap] 24)) := by go_grown
  have c0 := cell_new w (.slice ao S.length cap) 24
  have l0 := lt_alloc w (.cells #[.slice ao S.length cap] 24)
  by_cases hq : eCov S C r = 0
  · obtain ⟨hz, r1, r2⟩ := eCov_zero hq
    have hqn : (eCov S C r != 0) = false := by simp [hq]
    obtain ⟨hSp, hc1, hc2⟩ := eCode_zero hz
    obtain ⟨N1, N2⟩ := nW_bd hSp
    have hlen := code_len hSp hc1 hc2
    have HSp := Lib.hid hSp
    have HC1 : Hid (∀ i, i < C.length → 0 ≤ gi C i ∧ gi C i ≤ 9223372036854775807) := Lib.hid fun i h => by have := hc1 i h; omega
    obtain ⟨N, hN⟩ : ∃ N : Nat, nW S = (N : Int) := ⟨(nW S).toNat, by omega⟩
    have HN := Lib.hid hN
    have HQ0 := Lib.hid hq
    have HV : Hid (vNeed S C r = needTo S C r C.length) := Lib.hid (by unfold vNeed; rw [if_pos hq])
    have HT : Hid ((timesL S C r).length = N) := Lib.hid (by rw [timesL_len, hN]; rfl)
    clear hq hz hN hc1 hc2 hSp
    go_enter Try.func43, Try.ntmps43
    go_wp2_with fail
    refine (l02Code_any ao S cap hn ac C capc hnc r _ (hS.below B0) (hC.below B0)).mono ?_
    rintro e w1 ⟨rfl, hb⟩
    replace c0 := kept_cell hb c0 l0
    replace l0 := lt_of_below hb l0
    have B1 : Below w.heap.size w w1 := B0.trans (hb.mono B0.size)
    have hs1 := B1.size
    have l1 := l0
    clear hb B0
    go_wp2_with fail
    refine (l02Times_any ao S cap HSp.out ac C capc (by omega) HC1.out r N HN _ (hS.below B1) (hC.below B1)).mono ?_
    rintro e w2 ⟨q, rfl, oq, hb⟩
    replace c0 := kept_cell hb c0 l0
    replace l0 := lt_of_below hb l0
    have B2 : Below w.heap.size w w2 := B1.trans (hb.mono B1.size)
    have hs2 := B2.size
    have hq1 := oq.base_le
    replace oq := (oq.alloc (.cells #[] 2)).rebase (base' := w.heap.size) (by omega)
    have oo := own_empty w2 (q + 1) (by omega) rfl
    have B3 := B2.alloc hs2 (.cells #[] 2)
    replace c0 := kept_cell ((Below.refl w2.heap.size w2).alloc (Nat.le_refl _) (.cells #[] 2)) c0 l0
    have g0 : w.heap.size < q := by omega
    clear hb B1 B2 hs1
    go_wp2_with fail
    go_loopw [10, 11] (fun v i wr => ∃ k : Nat, k ≤ C.length ∧ i = .int .i64 k ∧ OwnInts wr (q + 1) v (needTo S C r k) ∧ OwnInts wr w.heap.size (.slice (some ⟨q, 0, none⟩) N N) (timesL S C r) ∧ wr.cell? ⟨w.heap.size, 0, none⟩ = some (.slice ao S.length cap) ∧ q < wr.heap.size ∧ Below w.heap.size w wr) (fun _ i _ => C.length - (intOf i).toNat)
    case atStart => exact ⟨0, Nat.zero_le _, rfl, oo, oq, c0, by simp; omega, B3⟩
    case round =>
      clear oo oq B3 hs2 hq1 c0
      obtain ⟨k, hk, rfl, oo, oq, c, lq, B⟩ := hrel
      by_cases hlt : k < C.length
      · obtain ⟨b, o, rfl, hbl, hc⟩ := hC.at hlt
        have hck : wr.cell? ⟨b, o + k, none⟩ = some (.int .i64 (gi C k)) := kept_cell B (hc k hlt) hbl
        obtain ⟨x1, x2⟩ := HC1.out k hlt
        have hbw : b < wr.heap.size := lt_of_below B hbl
        have hpl := needTo_len S C r k
        have lS : w.heap.size < wr.heap.size := by omega
        clear hc
        go_wp2_with fail
        go_region_held3 (fun w' => w'.cell? ⟨w.heap.size, 0, none⟩ = some (.slice ao S.length cap) ∧ w'.cell? ⟨b, o + k, none⟩ = some (.int .i64 (gi C k))) (first | exact ⟨c, hck⟩ | exact ⟨kept_cell hb3 c lS, kept_cell hb3 hck hbw⟩) (first | (go_at_call 95; refine (l02Needed_any ao S cap HSp.out (some ⟨q, 0, none⟩) (timesL S C r) N _ HT (gi C k) x1 x2 r HN _ (hS.below B.drew) (own_ints oq.drew)).mono ?_; rintro e w3 ⟨rfl, hb3'⟩; have hb3 : Below wr.heap.size wr w3 := (Below.refl _ wr).drew.trans hb3'))
        replace c := kept_cell hb3 c lS
        replace hck := kept_cell hb3 hck hbw
        replace oq := oq.below hb3
        replace oo := oo.below hb3
        replace lq := lt_of_below hb3 lq
        have sB := B.size
        replace B := B.trans (hb3.mono B.size)
        replace lS := lt_of_below hb3 lS
        clear hb3 hb3' hbw
        cases hb : needB (timesL S C r) S (gi C k) r with
        | true =>
          have H2 : Hid (needTo S C r (k + 1) = needTo S C r k ++ [gi C k]) := Lib.hid (by rw [needTo, if_pos hb])
          clear hb
          go_wp2_with (at_builtin; refine wpList_append_int rfl _ _ rfl (q + 1) _ _ rfl (oo.alloc _) w3.heap.size _ rfl (cell_new _ _ _) (by omega) (by rw [World.size_alloc]; omega) ?_; intro v' w4 hown' hgrow)
          have hgb := grown_below (B.alloc B.size _) (by rw [World.size_alloc]; omega) hgrow (oo.alloc _) (by omega)
          have oq4 := (oq.alloc _).kept hgrow (.inr (fun e => by have := World.ownsRow.lt oo _ e.symm; simp at this; omega))
          have hg4 : q < w4.heap.size := by have := hgrow.size; simp at this; omega
          have c4 : w4.cell? ⟨w.heap.size, 0, none⟩ = some (.slice ao S.length cap) := hgrow.cell (a := ⟨w.heap.size, 0, none⟩) (kept_cell ((Below.refl w3.heap.size w3).alloc (Nat.le_refl _) (.cells #[.int .i64 (gi C k)] 2)) c lS) (fun e => by have := World.ownsRow.lt oo _ e.symm; simp at this; omega)
          clear oo oq hgrow c
          go_wp2_with fail
          go_roundw
          case rel => exact ⟨k + 1, by omega, by go_num, by rw [H2.out]; exact hown', oq4, c4, hg4, hgb⟩
          case measure => simp [intOf]; omega
        | false =>
          have H2 : Hid (needTo S C r (k + 1) = needTo S C r k) := Lib.hid (by rw [needTo, if_neg (by rw [hb]; simp)])
          clear hb
          go_wp2_with fail
          go_roundw
          case rel => exact ⟨k + 1, by omega, by go_num, by rw [H2.out]; exact oo, oq, c, lq, B⟩
          case measure => simp [intOf]; omega
      · have ek : Hid (k = C.length) := Lib.hid (by omega)
        go_wp2_with fail
        go_ret2
        exact ⟨_, by rw [HQ0.out]; rfl, by rw [HV.out, ← ek.out]; exact oo.rebase (by omega), B⟩
  · have hqn : (eCov S C r != 0) = true := by simpa using hq
    have HV : Hid (vNeed S C r = []) := Lib.hid (by unfold vNeed; rw [if_neg hq])
    clear hq
    go_enter Try.func43, Try.ntmps43
    go_wp2_with fail
    refine (l02Code_any ao S cap hn ac C capc hnc r _ (hS.below B0) (hC.below B0)).mono ?_
    rintro e w1 ⟨rfl, hb⟩
    go_wp2_with fail
    go_ret2
    exact ⟨_, rfl, by rw [HV.out]; exact own_nil _ _, B0.trans (hb.mono B0.size)⟩

end Go.Proofs.Ytgaelpcghljihaa
