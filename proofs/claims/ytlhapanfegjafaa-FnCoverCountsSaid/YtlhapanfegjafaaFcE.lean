/-
  Merged texts: Times, NedS, LeanS, Ned10, NedM, LeanM, Unc, Unc2, Num, CovI. Never import this beside one of them. By an AI agent.
-/
import Derived.Test.YtlhapanfegjafaaMath
import Derived.Test.YtlhapanfegjafaaBall2
import Derived.Test.YtlhapanfegjafaaSums2
import Derived.Deep.RegionHeld3
import Derived.Test.YtlhapanfegjafaaMark
import Derived.Test.YtlhapanfegjafaaErr2
import Derived.Test.YtlhapanfegjafaaMathB
import Derived.Test.YtlhapanfegjafaaAppend
import Derived.Test.YtlhapanfegjafaaFcB
import Derived.Test.YtlhapanfegjafaaErr
namespace Go.Proofs.Ytlhapanfegjafaa
open Go.RowKit Cv
set_option linter.unusedVariables false
set_option linter.unusedSimpArgs false
set_option maxRecDepth 100000

set_option maxHeartbeats 2000000 in
theorem l02Times_any (ao : Option Addr) (S : List Int) (cap : Nat) (hSp : Sp S) (ac : Option Addr) (C : List Int) (capc : Nat) (hlen : C.length ≤ 1048576) (hC0 : ∀ i, i < C.length → 0 ≤ gi C i ∧ gi C i ≤ 9223372036854775807) (r : Int) (N : Nat) (hN : Hid (nW S = (N : Int))) (w : World) (hS : Ints w ao S) (hC : Ints w ac C) :
    Calls Try.prog 26 #[.agg #[.slice ao S.length cap], .slice ac C.length capc, .int .i64 r] w fun e w' =>
      ∃ q, e = .returned (.slice (some ⟨q, 0, none⟩) N N) ∧ OwnInts w' w.heap.size (.slice (some ⟨q, 0, none⟩) N N) (timesL S C r) ∧ Below w.heap.size w w' := by
  obtain ⟨i0, hi, hz0, hz1, hz2⟩ := info_parts infoI64
  have N2 : N ≤ 1024 := by have := (nW_bd hSp).2; have := hN.out; omega
  have HNN : Hid ((nW S).toNat = N) := Lib.hid (by have := hN.out; omega)
  have HSp := Lib.hid hSp
  have HC0 := Lib.hid hC0
  clear hSp hC0
  go_enter Try.func26, Try.ntmps26
  go_wp2_with fail
  have B0 : Below w.heap.size w (w.alloc (.cells #[.slice ao S.length cap] 26)) := by go_grown
  have c0 := cell_new w (.slice ao S.length cap) 26
  have l0 := lt_alloc w (.cells #[.slice ao S.length cap] 26)
  refine (l01N_nat ao S cap N hN _ HSp.out (hS.below B0)).mono ?_
  rintro e w1 ⟨rfl, hb1⟩
  have B1 := B0.trans (hb1.mono B0.size)
  have c1 := kept_cell hb1 c0 l0
  have l1 := lt_of_below hb1 l0
  clear hb1 B0 c0 l0
  go_wp2_with (at_make; refine wpList_make_full _ rfl _ _ 24 rfl w.heap.size 2 i0 (.int .i64 0) 1 Try.underlying24 hi hz0 hz1 .i64 .i64 _ _ N rfl rfl rfl rfl (by rw [hz2]; omega) (by unfold maxLen; omega) (by omega) ?_; intro w2 hown hgrow)
  have hb2 : Below w1.heap.size w1 w2 := below_grown0 hgrow
  have B2 : Below w.heap.size w w2 := B1.trans (hb2.mono B1.size)
  have c2 := kept_cell hb2 c1 l1
  have l2 := lt_of_below hb2 l1
  replace hown := own_made hown
  have g1 : w.heap.size < w1.heap.size := l1
  clear hgrow hb2 B1 c1 l1
  go_loopw [8] (fun i wr => ∃ (k : Nat) (T : List Int), k ≤ C.length ∧ i = .int .i64 k ∧ OwnInts wr w.heap.size (.slice (some ⟨w1.heap.size, 0, none⟩) N N) T ∧ Hid (T.length = N ∧ ∀ u, u < N → gi T u = tcov S C r u k) ∧ wr.cell? ⟨w.heap.size, 0, none⟩ = some (.slice ao S.length cap) ∧ w.heap.size < wr.heap.size ∧ Below w.heap.size w wr)
    (fun i _ => C.length - (intOf i).toNat)
  case atStart => exact ⟨0, _, Nat.zero_le _, rfl, hown, Lib.hid ⟨by simp, fun u h => by rw [gi_rep0]; rfl⟩, c2, l2, B2⟩
  case round =>
    clear hown B2 c2 l2
    obtain ⟨k, T, hk, rfl, own, HT, c, l, B⟩ := hrel
    by_cases hlt : k < C.length
    · obtain ⟨b, o, rfl, hbl, hc⟩ := hC.at hlt
      have hck : wr.cell? ⟨b, o + k, none⟩ = some (.int .i64 (gi C k)) := kept_cell B (hc k hlt) hbl
      obtain ⟨x1, x2⟩ := HC0.out k hlt
      have hbw : b < wr.heap.size := lt_of_below B hbl
      clear hc
      go_wp2_with fail
      go_region_held3 (fun w' => w'.cell? ⟨w.heap.size, 0, none⟩ = some (.slice ao S.length cap) ∧ w'.cell? ⟨b, o + k, none⟩ = some (.int .i64 (gi C k))) (first | exact ⟨c, hck⟩ | exact ⟨kept_cell hb3 c l, kept_cell hb3 hck hbw⟩) (first | (go_at_call 45; refine (l01Ball_any ao S cap HSp.out (gi C k) x1 x2 r _ (hS.below B.drew)).mono ?_; rintro e w3 ⟨v, rfl, ob, hb3'⟩; have hb3 : Below wr.heap.size wr w3 := (Below.refl _ wr).drew.trans hb3'))
      replace c := kept_cell hb3 c l
      have hgr := own.base_le.2
      replace own := own.below hb3
      have sB := B.size
      replace B := B.trans (hb3.mono B.size)
      have glo : w1.heap.size < wr.heap.size := by
        exact hgr
      replace l := lt_of_below hb3 l
      obtain ⟨a_, k_, hv⟩ := ob.shape
      subst hv
      have HB : Hid (∀ t, t < (ballW S (gi C k) r).length → 0 ≤ gi (ballW S (gi C k) r) t ∧ gi (ballW S (gi C k) r) t < N) := Lib.hid fun t ht => by
        have h1 : 0 ≤ gi (ballW S (gi C k) r) t ∧ gi (ballW S (gi C k) r) t < ((nW S).toNat : Nat) := selTo_bd _ _ t ht
        have h2 := HNN.out
        exact ⟨h1.1, by omega⟩
      have hlb := ballW_len HSp.out (gi C k) r
      clear hb3 hb3' hck
      go_wp2_with fail
      go_loopw [10] (fun i wi => ∃ (j : Nat) (U : List Int), j ≤ (ballW S (gi C k) r).length ∧ i = .int .i64 j ∧ OwnInts wi w.heap.size (.slice (some ⟨w1.heap.size, 0, none⟩) N N) U ∧ Hid (U.length = N ∧ ∀ u : Nat, u < N → gi U u = tcov S C r u k + cntIn (ballW S (gi C k) r) u j) ∧ OwnInts wi wr.heap.size (.slice a_ (ballW S (gi C k) r).length k_) (ballW S (gi C k) r) ∧ wi.cell? ⟨w.heap.size, 0, none⟩ = some (.slice ao S.length cap) ∧ w.heap.size < wi.heap.size ∧ Below w.heap.size w wi)
        (fun i _ => (ballW S (gi C k) r).length - (intOf i).toNat)
      case atStart => exact ⟨0, T, Nat.zero_le _, rfl, own, Lib.hid ⟨HT.out.1, fun u h => by rw [HT.out.2 u h]; simp [cntIn, cnt]⟩, ob, c, l, B⟩
      case round =>
        clear own ob c l B
        obtain ⟨j, U, hj, rfl, own, HU, ob, c, l, B⟩ := hrel
        by_cases hlj : j < (ballW S (gi C k) r).length
        · obtain ⟨bb, bo, rfl, hbb, hcb⟩ := (own_ints ob).at hlj
          obtain ⟨y1, y2⟩ := HB.out j hlj
          obtain ⟨u, hu⟩ : ∃ u : Nat, gi (ballW S (gi C k) r) j = (u : Int) := ⟨(gi (ballW S (gi C k) r) j).toNat, by omega⟩
          have hcj := hcb j hlj
          rw [hu] at hcj
          have hun : u < N := by omega
          have hcell := own.cell (k := u) (by rw [HU.out.1]; exact hun)
          have hfree := own.free u
          obtain ⟨t1, t2⟩ := tcov_bd S C r u k
          obtain ⟨t3, t4⟩ := cntIn_bd (ballW S (gi C k) r) u j
          have hgu := HU.out.2 u hun
          rw [hgu] at hcell
          have HY := Lib.hid hu
          clear hcb hu hgu y1 y2
          go_wp2
          go_roundw
          case rel =>
            refine ⟨j + 1, _, by omega, by go_num, own.stored u (tcov S C r u k + cntIn (ballW S (gi C k) r) u j + 1), Lib.hid ⟨by rw [List.length_set]; exact HU.out.1, ?_⟩, ob.setBelow (by simp; omega) _, cell_set_other c (by simp; omega), by simpa using l, B.setCell (by simp; omega) _⟩
            intro z hz
            rw [gi_set _ _ _ _ (by rw [HU.out.1]; exact hun)]
            by_cases e : z = u
            · subst e
              rw [if_pos rfl, cntIn_yes HY.out]; omega
            · rw [if_neg e, HU.out.2 z hz, cntIn_no (by rw [HY.out]; omega)]
          case measure => simp [intOf]; omega
        · have ej : j = (ballW S (gi C k) r).length := by omega
          go_wp2
          go_roundw
          case rel =>
            refine ⟨k + 1, U, by omega, by go_num, own, Lib.hid ⟨HU.out.1, fun u h => ?_⟩, c, l, B⟩
            rw [HU.out.2 u h, ej, ← tcov_ball S C r u k (by rw [HNN.out]; exact h)]
          case measure => simp [intOf]; omega
    · have ek : k = C.length := by omega
      go_wp2
      go_ret
      have e : T = timesL S C r := ext_gi (by rw [HT.out.1, timesL_len, HNN.out]) fun i hi => by rw [HT.out.1] at hi; rw [HT.out.2 i hi, gi_timesL _ _ _ _ (by rw [HNN.out]; exact hi), ek]
      rw [e] at own
      exact ⟨_, rfl, own, B⟩

set_option maxHeartbeats 2000000 in
theorem spec_TimesCovered (ao : Option Addr) (S : List Int) (cap : Nat) (hn : S.length ≤ 4294967296) (ac : Option Addr) (C : List Int) (capc : Nat) (hnc : C.length ≤ 4294967296) (x : Int) (hx : -9223372036854775808 ≤ x ∧ x ≤ 9223372036854775807) (r : Int) (hr : -9223372036854775808 ≤ r ∧ r ≤ 9223372036854775807) (w : World) (hS : Ints w ao S) (hC : Ints w ac C) :
    Calls Try.prog 13 #[.agg #[.slice ao S.length cap], .slice ac C.length capc, .int .i64 x, .int .i64 r] w fun e w' => e = .returned (.tuple #[.int .i64 (vTimes S C x r), .int .i64 (eTimes S C x r)]) ∧ Below w.heap.size w w' := by
  have B0 : Below w.heap.size w (w.alloc (.cells #[.slice ao S.length cap] 26)) := by go_grown
  by_cases hq : eCov S C r = 0
  · obtain ⟨hz, r1, r2⟩ := eCov_zero hq
    obtain ⟨hSp, hc1, hc2⟩ := eCode_zero hz
    obtain ⟨N1, N2⟩ := nW_bd hSp
    have hlen := code_len hSp hc1 hc2
    have HSp := Lib.hid hSp
    have HC1 : Hid (∀ i, i < C.length → 0 ≤ gi C i ∧ gi C i ≤ 9223372036854775807) := Lib.hid fun i h => by have := hc1 i h; omega
    clear hc1 hc2 hSp
    have hqb : (eCov S C r == 0) = true := by simp [hq]
    have hqn : (eCov S C r != 0) = false := by simp [hq]
    by_cases hxr : 0 ≤ x ∧ x < nW S
    · obtain ⟨x1, x2⟩ := hxr
      have BI := inB_true (n := x) (low := 0) (high := nW S - 1) x1 (by omega)
      have HE : Hid (eTimes S C x r = eCov S C r) := Lib.hid (by unfold eTimes; rw [if_pos hq, if_pos ⟨x1, x2⟩, hq])
      have HV : Hid (vTimes S C x r = tcov S C r x C.length) := Lib.hid (by unfold vTimes; rw [HE.out, if_pos hq])
      have HQ := Lib.hid hq
      obtain ⟨N, hN⟩ : ∃ N : Nat, nW S = (N : Int) := ⟨(nW S).toNat, by omega⟩
      have HNN : Hid ((nW S).toNat = N) := Lib.hid (by omega)
      obtain ⟨u, hu⟩ : ∃ u : Nat, x = (u : Int) := ⟨x.toNat, by omega⟩
      subst hu
      have hun : u < N := by omega
      have HN := Lib.hid hN
      have hun2 : (u : Int) < (N : Int) := by omega
      clear hq hz hN
      go_enter Try.func13, Try.ntmps13
      go_wp2_with fail
      refine (l02Code_any ao S cap hn ac C capc hnc r _ (hS.below B0) (hC.below B0)).mono ?_
      rintro e w1 ⟨rfl, hb⟩
      have c1 := kept_cell hb (cell_new w (.slice ao S.length cap) 26) (lt_alloc _ _)
      have l1 := lt_of_below hb (lt_alloc w (.cells #[.slice ao S.length cap] 26))
      have B1 : Below w.heap.size w w1 := B0.trans (hb.mono B0.size)
      clear hb B0
      go_wp2_with (first | (go_at_call 33; refine (l01N_sp ao S cap _ HSp.out (hS.below B1)).mono ?_; rintro e w2 ⟨rfl, hb2⟩; have c2 := kept_cell hb2 c1 l1; have B2 := B1.trans (hb2.mono B1.size); clear c1) | (go_at_call 32; refine (l01In_any _ _ _ _).mono ?_; rintro e w' ⟨rfl, rfl⟩) | fail)
      go_wp2_with fail
      refine (l02Times_any ao S cap HSp.out ac C capc (by omega) HC1.out r N HN _ (hS.below B2) (hC.below B2)).mono ?_
      rintro e w3 ⟨q, rfl, oq, hb3⟩
      have hck := oq.cell (k := u) (by rw [timesL_len, HNN.out]; exact hun)
      rw [gi_timesL _ _ _ _ (by rw [HNN.out]; exact hun)] at hck
      go_wp2_with fail
      go_ret2
      exact ⟨by rw [HE.out, HV.out, HQ.out]; try rfl, B2.trans (hb3.mono B2.size)⟩
    · have BI := inB_false (n := x) (low := 0) (high := nW S - 1) (by omega)
      have HE : Hid (eTimes S C x r = 2) := Lib.hid (by unfold eTimes; rw [if_pos hq, if_neg hxr])
      have HV : Hid (vTimes S C x r = 0) := Lib.hid (by unfold vTimes; rw [HE.out]; rfl)
      clear hq hz hxr
      go_enter Try.func13, Try.ntmps13
      go_wp2_with fail
      refine (l02Code_any ao S cap hn ac C capc hnc r _ (hS.below B0) (hC.below B0)).mono ?_
      rintro e w1 ⟨rfl, hb⟩
      have c1 := kept_cell hb (cell_new w (.slice ao S.length cap) 26) (lt_alloc _ _)
      have l1 := lt_of_below hb (lt_alloc w (.cells #[.slice ao S.length cap] 26))
      have B1 : Below w.heap.size w w1 := B0.trans (hb.mono B0.size)
      clear hb B0
      go_wp2_with (first | (go_at_call 33; refine (l01N_sp ao S cap _ HSp.out (hS.below B1)).mono ?_; rintro e w2 ⟨rfl, hb2⟩; have c2 := kept_cell hb2 c1 l1; have B2 := B1.trans (hb2.mono B1.size); clear c1) | (go_at_call 32; refine (l01In_any _ _ _ _).mono ?_; rintro e w' ⟨rfl, rfl⟩) | fail)
      go_wp2_with fail
      go_ret2
      exact ⟨by rw [HE.out, HV.out]; try rfl, B2⟩
  · have hqb : (eCov S C r == 0) = false := by simpa using hq
    have hqn : (eCov S C r != 0) = true := by simpa using hq
    have HE : Hid (eTimes S C x r = eCov S C r) := Lib.hid (by unfold eTimes; rw [if_neg hq])
    have HV : Hid (vTimes S C x r = 0) := Lib.hid (by unfold vTimes; rw [HE.out, if_neg hq])
    clear hq
    go_enter Try.func13, Try.ntmps13
    go_wp2_with fail
    refine (l02Code_any ao S cap hn ac C capc hnc r _ (hS.below B0) (hC.below B0)).mono ?_
    rintro e w1 ⟨rfl, hb⟩
    have c1 := kept_cell hb (cell_new w (.slice ao S.length cap) 26) (lt_alloc _ _)
    have l1 := lt_of_below hb (lt_alloc w (.cells #[.slice ao S.length cap] 26))
    have B1 : Below w.heap.size w w1 := B0.trans (hb.mono B0.size)
    clear hb B0
    go_wp2_with fail
    go_ret2
    exact ⟨by rw [HE.out, HV.out]; try rfl, B1⟩

end Go.Proofs.Ytlhapanfegjafaa

namespace Go.Proofs.Ytlhapanfegjafaa
open Go.RowKit Cv
set_option linter.unusedVariables false
set_option linter.unusedSimpArgs false
set_option maxRecDepth 100000

end Go.Proofs.Ytlhapanfegjafaa

namespace Go.Proofs.Ytlhapanfegjafaa
open Go.RowKit Cv
set_option linter.unusedVariables false
set_option linter.unusedSimpArgs false
set_option maxRecDepth 100000

end Go.Proofs.Ytlhapanfegjafaa

namespace Go.Proofs.Ytlhapanfegjafaa
open Go.RowKit Cv
set_option linter.unusedVariables false
set_option linter.unusedSimpArgs false
set_option maxRecDepth 100000

def needS (PS : List (Nat → Bool)) (bf : Nat → Bool) (k : Nat) : Bool := !eqS (fun u => (bf u || behU PS k u) || pAt PS k u) (fun u => bf u || behU PS k u)
def befT (PS : List (Nat → Bool)) (lo : Bool) : Nat → Nat → Bool
  | 0 => fun _ => false
  | k + 1 => if (needS PS (befT PS lo k) k || !lo) = true then fun u => befT PS lo k u || pAt PS k u else befT PS lo k
def outT (PS : List (Nat → Bool)) (C : List Int) (lo : Bool) : Nat → List Int
  | 0 => []
  | k + 1 => if needS PS (befT PS lo k) k = true then outT PS C lo k ++ [gi C k] else outT PS C lo k
theorem outT_len (PS : List (Nat → Bool)) (C : List Int) (lo : Bool) (k : Nat) : (outT PS C lo k).length ≤ k := by
  induction k with
  | zero => simp [outT]
  | succ k ih =>
    rw [outT]
    split
    · rw [List.length_append]; simp; omega
    · omega
theorem OwnSets.kept {w w' : World} {base : Nat} {v : Value} {ps : List (Nat → Bool)} {row : Option Nat} (h : OwnSets w base v ps) (hg : w.grownBy w' row) (hne : v.ownBlock = none ∨ v.ownBlock ≠ row) : OwnSets w' base v ps := World.ownsRow.kept h hg hne
/-- a list of numbers lies in no list of sets -/
theorem own_ne_sets {w : World} {base bs g n c : Nat} {v : Value} {L : List Int} {ps : List (Nat → Bool)} (h : OwnInts w base v L) (hs : OwnSets w bs (.slice (some ⟨g, 0, none⟩) n c) ps) : v.ownBlock ≠ some g := by
  rcases hs.2 with ⟨hv, _⟩ | ⟨g', c', cur, hv, hb, hh, _⟩
  · simp at hv
  · simp only [Value.slice.injEq, Option.some.injEq, Addr.mk.injEq, and_true, true_and] at hv
    obtain ⟨rfl, rfl, rfl⟩ := hv
    rcases h.2 with ⟨rfl, _⟩ | ⟨g2, c2, cur2, rfl, _, hh2, _⟩
    · simp [Value.ownBlock]
    · intro e
      simp only [Value.ownBlock, Option.some.injEq] at e
      subst e
      rw [hh] at hh2
      simp at hh2
theorem sets_shape {w : World} {base : Nat} {v : Value} {ps : List (Nat → Bool)} (h : OwnSets w base v ps) : ∃ a c, v = .slice a ps.length c := by
  rcases h.2 with ⟨rfl, hn⟩ | ⟨g, cap, cur, rfl, _⟩
  · exact ⟨none, 0, by rw [hn]⟩
  · exact ⟨_, _, rfl⟩
theorem OwnSets.rebase11 {w : World} {base base' : Nat} {v : Value} {ps : List (Nat → Bool)} (h : OwnSets w base v ps) (hb : base' ≤ base) : OwnSets w base' v ps := by
  obtain ⟨h1, h2⟩ := h
  refine ⟨h1, ?_⟩
  rcases h2 with h2 | ⟨g, cap, cur, hv, hg, r⟩
  · exact Or.inl h2
  · exact Or.inr ⟨g, cap, cur, hv, by omega, r⟩

end Go.Proofs.Ytlhapanfegjafaa

namespace Go.Proofs.Ytlhapanfegjafaa
open Go.RowKit Cv
set_option linter.unusedVariables false
set_option linter.unusedSimpArgs false
set_option maxRecDepth 100000

theorem cnt_one (p : Nat → Bool) (n k : Nat) (hk : k < n) (hp : p k = true) : cnt p n = 1 ↔ ∀ i, i < n → i ≠ k → p i = false := by
  induction n with
  | zero => omega
  | succ n ih =>
    rw [cnt_at]
    by_cases e : k = n
    · subst e
      rw [if_pos hp]
      constructor
      · intro h i hi hne
        exact (cnt_zero p k).1 (by omega) i (by omega)
      · intro h
        rw [(cnt_zero p k).2 fun j hj => h j (by omega) (by omega)]; rfl
    · have hb := cnt_bd p n
      have h0 : cnt p n ≠ 0 := fun h => by have := (cnt_zero p n).1 h k (by omega); rw [hp] at this; cases this
      constructor
      · intro h i hi hne
        by_cases e2 : p n = true
        · rw [if_pos e2] at h; omega
        · rw [if_neg e2] at h
          by_cases e3 : i = n
          · subst e3; simpa using e2
          · exact (ih (by omega)).1 (by omega) i (by omega) hne
      · intro h
        rw [if_neg (by rw [h n (by omega) (Ne.symm e)]; simp), (ih (by omega)).2 fun i hi hne => h i (by omega) hne]; rfl
theorem unionL_iff (L : List (Nat → Bool)) (u : Nat) : unionL L u = true ↔ ∃ i, i < L.length ∧ pAt L i u = true := by
  unfold unionL
  rw [List.any_eq_true]
  constructor
  · rintro ⟨p, hp, h⟩
    obtain ⟨i, hi, rfl⟩ := List.mem_iff_getElem.1 hp
    exact ⟨i, hi, by unfold pAt; rw [List.getD_eq_getElem?_getD, List.getElem?_eq_getElem hi]; exact h⟩
  · rintro ⟨i, hi, h⟩
    refine ⟨L[i], List.getElem_mem hi, ?_⟩
    unfold pAt at h; rw [List.getD_eq_getElem?_getD, List.getElem?_eq_getElem hi] at h; exact h
theorem pAt_map (S C : List Int) (r : Int) (i : Nat) (hi : i < C.length) : pAt (C.map (ballN S r)) i = ballN S r (gi C i) := by
  unfold pAt gi; simp [List.getD_eq_getElem?_getD, hi]
theorem pAt_take (L : List (Nat → Bool)) (k i : Nat) (hi : i < k) : pAt (L.take k) i = pAt L i := by
  unfold pAt; rw [List.getD_eq_getElem?_getD, List.getD_eq_getElem?_getD, List.getElem?_take_of_lt hi]
theorem pAt_drop (L : List (Nat → Bool)) (k i : Nat) : pAt (L.drop k) i = pAt L (k + i) := by
  unfold pAt; rw [List.getD_eq_getElem?_getD, List.getD_eq_getElem?_getD, List.getElem?_drop]
theorem bef_all (L : List (Nat → Bool)) (k : Nat) (hk : k ≤ L.length) : befT L false k = unionL (L.take k) := by
  induction k with
  | zero => rfl
  | succ k ih =>
    rw [befT, if_pos (by simp), ih (by omega), List.take_succ_eq_append_getElem (by omega), unionL_snoc]
    funext u
    congr 1
    unfold pAt; rw [List.getD_eq_getElem?_getD, List.getElem?_eq_getElem (by omega)]; rfl
/-- the other sets' words -/
theorem others_iff (S C : List Int) (r : Int) (k u : Nat) (hk : k < C.length) : (befT (C.map (ballN S r)) false k u || behU (C.map (ballN S r)) k u) = true ↔ ∃ i, i < C.length ∧ i ≠ k ∧ ballN S r (gi C i) u = true := by
  rw [bef_all _ _ (by simp; omega), Bool.or_eq_true, unionL_iff, behU, unionL_iff]
  constructor
  · rintro (⟨i, hi, h⟩ | ⟨i, hi, h⟩)
    · simp at hi
      rw [pAt_take _ _ _ (by omega), pAt_map _ _ _ _ (by omega)] at h
      exact ⟨i, by omega, by omega, h⟩
    · simp at hi
      rw [pAt_drop, pAt_map _ _ _ _ (by omega)] at h
      exact ⟨k + 1 + i, by omega, by omega, h⟩
  · rintro ⟨i, hi, hne, h⟩
    by_cases e : i < k
    · exact .inl ⟨i, by simp; omega, by rw [pAt_take _ _ _ e, pAt_map _ _ _ _ hi]; exact h⟩
    · exact .inr ⟨i - (k + 1), by simp; omega, by rw [pAt_drop, show k + 1 + (i - (k + 1)) = i by omega, pAt_map _ _ _ _ hi]; exact h⟩
theorem need_iff (S C : List Int) (r x : Int) : needB (timesL S C r) S x r = true ↔ ∃ u : Nat, u < (nW S).toNat ∧ dist S u x ≤ r ∧ tAt S C r u = 1 := by
  unfold needB
  rw [oneTo_iff]
  constructor
  · rintro ⟨j, hj, h⟩
    have hb : 0 ≤ gi (ballW S x r) j ∧ gi (ballW S x r) j < ((nW S).toNat : Nat) := selTo_bd _ _ j hj
    have hm : ballN S r x (gi (ballW S x r) j).toNat = true := by
      unfold ballN inL; rw [decide_eq_true_eq, Int.toNat_of_nonneg hb.1]; exact gi_mem hj
    rw [ballN_in, decide_eq_true_eq] at hm
    rw [gi_timesA _ _ _ _ hm.1] at h
    exact ⟨_, hm.1, hm.2, h⟩
  · rintro ⟨u, hu, hd, h⟩
    have hm : ballN S r x u = true := by rw [ballN_in, decide_eq_true_eq]; exact ⟨hu, hd⟩
    unfold ballN inL at hm
    rw [decide_eq_true_eq] at hm
    obtain ⟨j, hj, e⟩ := mem_gi hm
    exact ⟨j, hj, by rw [e]; simpa [gi_timesA _ _ _ _ hu] using h⟩
theorem need_eq (S C : List Int) (r : Int) (hN : nW S ≤ 1024) (k : Nat) (hk : k < C.length) : needS (C.map (ballN S r)) (befT (C.map (ballN S r)) false k) k = needB (timesL S C r) S (gi C k) r := by
  rw [Bool.eq_iff_iff, need_iff]
  unfold needS
  rw [Bool.not_eq_true', ← Bool.not_eq_true, eqS_iff]
  have one : ∀ u : Nat, dist S u (gi C k) ≤ r → (tAt S C r u = 1 ↔ ∀ i, i < C.length → i ≠ k → ¬ dist S u (gi C i) ≤ r) := fun u hd => by
    unfold tAt tcov
    rw [cnt_one _ _ k hk (by rw [decide_eq_true_eq, dist_comm]; exact hd)]
    constructor
    · intro h i hi hne g
      have := h i hi hne
      rw [decide_eq_false_iff_not, dist_comm] at this
      exact this g
    · intro h i hi hne
      rw [decide_eq_false_iff_not, dist_comm]; exact h i hi hne
  constructor
  · intro h
    have h' : ∃ u, u < 1024 ∧ ¬ (befT (C.map (ballN S r)) false k u || behU (C.map (ballN S r)) k u || pAt (C.map (ballN S r)) k u) = (befT (C.map (ballN S r)) false k u || behU (C.map (ballN S r)) k u) := by
      refine Classical.byContradiction fun g => h fun u hu => Classical.byContradiction fun g2 => g ⟨u, hu, g2⟩
    obtain ⟨u, hu, hne⟩ := h'
    cases ho : (befT (C.map (ballN S r)) false k u || behU (C.map (ballN S r)) k u) with
    | true => rw [ho] at hne; simp at hne
    | false =>
      rw [ho, Bool.false_or, pAt_map _ _ _ _ hk] at hne
      have hp : ballN S r (gi C k) u = true := by simpa using hne
      rw [ballN_in, decide_eq_true_eq] at hp
      refine ⟨u, hp.1, hp.2, (one u hp.2).2 fun i hi hik hd => ?_⟩
      have := (others_iff S C r k u hk).2 ⟨i, hi, hik, by rw [ballN_in, decide_eq_true_eq]; exact ⟨hp.1, hd⟩⟩
      rw [ho] at this; cases this
  · rintro ⟨u, hu, hd, ht⟩ h
    have h1 := h u (by omega)
    have hp : ballN S r (gi C k) u = true := by rw [ballN_in, decide_eq_true_eq]; exact ⟨hu, hd⟩
    rw [pAt_map _ _ _ _ hk, hp, Bool.or_true] at h1
    obtain ⟨i, hi, hne, g⟩ := (others_iff S C r k u hk).1 h1.symm
    rw [ballN_in, decide_eq_true_eq] at g
    exact (one u hd).1 ht i hi hne g.2
theorem out_need (S C : List Int) (r : Int) (hN : nW S ≤ 1024) (k : Nat) (hk : k ≤ C.length) : outT (C.map (ballN S r)) C false k = needTo S C r k := by
  induction k with
  | zero => rfl
  | succ k ih => rw [outT, needTo, need_eq S C r hN k (by omega), ih (by omega)]

end Go.Proofs.Ytlhapanfegjafaa

namespace Go.Proofs.Ytlhapanfegjafaa
open Go.RowKit Cv
set_option linter.unusedVariables false
set_option linter.unusedSimpArgs false
set_option maxRecDepth 100000

theorem cnt_off (p q : Nat → Bool) (n k : Nat) (hk : k < n) (h : ∀ j, j ≠ k → p j = q j) (hq : q k = false) : cnt p n = cnt q n + if p k = true then 1 else 0 := by
  induction n with
  | zero => omega
  | succ n ih =>
    rw [cnt_at, cnt_at]
    by_cases e : k = n
    · subst e
      rw [hq, cnt_congr p q k fun i hi => h i (by omega)]; simp
    · rw [ih (by omega), h n (Ne.symm e)]; omega
theorem need_iffT (T S : List Int) (r x : Int) : needB T S x r = true ↔ ∃ u : Nat, u < (nW S).toNat ∧ dist S u x ≤ r ∧ gi T u = 1 := by
  unfold needB
  rw [oneTo_iff]
  constructor
  · rintro ⟨j, hj, h⟩
    have hb : 0 ≤ gi (ballW S x r) j ∧ gi (ballW S x r) j < ((nW S).toNat : Nat) := selTo_bd _ _ j hj
    have hm : ballN S r x (gi (ballW S x r) j).toNat = true := by
      unfold ballN inL; rw [decide_eq_true_eq, Int.toNat_of_nonneg hb.1]; exact gi_mem hj
    rw [ballN_in, decide_eq_true_eq] at hm
    exact ⟨_, hm.1, hm.2, h⟩
  · rintro ⟨u, hu, hd, h⟩
    have hm : ballN S r x u = true := by rw [ballN_in, decide_eq_true_eq]; exact ⟨hu, hd⟩
    unfold ballN inL at hm
    rw [decide_eq_true_eq] at hm
    obtain ⟨j, hj, e⟩ := mem_gi hm
    exact ⟨j, hj, by rw [e]; simpa using h⟩
def kept (S C : List Int) (r : Int) (j : Nat) : Bool := needB (lnT S C r j) S (gi C j) r
theorem lnT_cnt (S C : List Int) (r : Int) (u : Nat) (hu : u < (nW S).toNat) (k : Nat) (hk : k ≤ C.length) : gi (lnT S C r k) u = cnt (fun j => decide (dist S u (gi C j) ≤ r) && (decide (k ≤ j) || kept S C r j)) C.length := by
  induction k with
  | zero =>
    rw [lnT, gi_timesA _ _ _ _ hu]
    unfold tAt tcov
    exact cnt_congr _ _ _ fun i hi => by rw [dist_comm]; simp
  | succ k ih =>
    rw [lnT]
    by_cases e : needB (lnT S C r k) S (gi C k) r = true
    · rw [if_pos e, ih (by omega)]
      refine cnt_congr _ _ _ fun i hi => ?_
      congr 1
      by_cases e2 : i = k
      · subst e2; rw [show kept S C r i = true from e]; simp
      · have : decide (k ≤ i) = decide (k + 1 ≤ i) := by rw [decide_eq_decide]; omega
        rw [this]
    · rw [if_neg e, gi_decL _ _ _ (by rw [lnT_len]; exact hu), ih (by omega)]
      have h2 : cntIn (ballW S (gi C k) r) u (ballW S (gi C k) r).length = if u < (nW S).toNat ∧ ballB S (gi C k) r u = true then 1 else 0 := cntIn_sel (ballB S (gi C k) r) (nW S).toNat u
      have e' : kept S C r k = false := by unfold kept; simpa using e
      rw [h2, cnt_off _ (fun j => decide (dist S u (gi C j) ≤ r) && (decide (k + 1 ≤ j) || kept S C r j)) C.length k (by omega) (fun j hj => by
        have : decide (k ≤ j) = decide (k + 1 ≤ j) := by rw [decide_eq_decide]; omega
        rw [this]) (by rw [e']; simp)]
      have h3 : (u < (nW S).toNat ∧ ballB S (gi C k) r u = true) ↔ (decide (dist S u (gi C k) ≤ r) && (decide (k ≤ k) || kept S C r k)) = true := by
        simp [hu, ballB]
      simp only [h3]
      omega
theorem lean_others (S C : List Int) (r : Int) (k u : Nat) (hk : k < C.length) (bf : Nat → Bool) (hbf : ∀ u, bf u = true ↔ ∃ j, j < k ∧ kept S C r j = true ∧ ballN S r (gi C j) u = true) :
    (bf u || behU (C.map (ballN S r)) k u) = true ↔ ∃ i, i < C.length ∧ i ≠ k ∧ (k ≤ i ∨ kept S C r i = true) ∧ ballN S r (gi C i) u = true := by
  rw [Bool.or_eq_true, hbf, behU, unionL_iff]
  constructor
  · rintro (⟨i, hi, h1, h2⟩ | ⟨i, hi, h⟩)
    · exact ⟨i, by omega, by omega, .inr h1, h2⟩
    · simp at hi
      rw [pAt_drop, pAt_map _ _ _ _ (by omega)] at h
      exact ⟨k + 1 + i, by omega, by omega, .inl (by omega), h⟩
  · rintro ⟨i, hi, hne, hkk, h⟩
    by_cases e : i < k
    · exact .inl ⟨i, e, by rcases hkk with g | g; omega; exact g, h⟩
    · exact .inr ⟨i - (k + 1), by simp; omega, by rw [pAt_drop, show k + 1 + (i - (k + 1)) = i by omega, pAt_map _ _ _ _ hi]; exact h⟩
theorem lean_eq (S C : List Int) (r : Int) (hN : nW S ≤ 1024) (k : Nat) (hk : k < C.length) (bf : Nat → Bool) (hbf : ∀ u, bf u = true ↔ ∃ j, j < k ∧ kept S C r j = true ∧ ballN S r (gi C j) u = true) :
    needS (C.map (ballN S r)) bf k = kept S C r k := by
  rw [Bool.eq_iff_iff, kept, need_iffT]
  unfold needS
  rw [Bool.not_eq_true', ← Bool.not_eq_true, eqS_iff]
  have one : ∀ u : Nat, u < (nW S).toNat → dist S u (gi C k) ≤ r → (gi (lnT S C r k) u = 1 ↔ ∀ i, i < C.length → i ≠ k → ¬ ((k ≤ i ∨ kept S C r i = true) ∧ dist S u (gi C i) ≤ r)) := fun u hu hd => by
    rw [lnT_cnt S C r u hu k (by omega), cnt_one _ _ k hk (by simp [hd])]
    constructor
    · intro h i hi hne g
      have := h i hi hne
      simp [g.2] at this
      rcases g.1 with g1 | g1
      · omega
      · rw [this.2] at g1; cases g1
    · intro h i hi hne
      have g := h i hi hne
      rw [Bool.and_eq_false_iff, decide_eq_false_iff_not]
      by_cases e : dist S u (gi C i) ≤ r
      · refine .inr ?_
        rw [Bool.or_eq_false_iff, decide_eq_false_iff_not]
        exact ⟨fun e2 => g ⟨.inl e2, e⟩, by cases h2 : kept S C r i with | true => exact absurd ⟨.inr h2, e⟩ g | false => rfl⟩
      · exact .inl e
  constructor
  · intro h
    have h' : ∃ u, u < 1024 ∧ ¬ (bf u || behU (C.map (ballN S r)) k u || pAt (C.map (ballN S r)) k u) = (bf u || behU (C.map (ballN S r)) k u) := by
      refine Classical.byContradiction fun g => h fun u hu => Classical.byContradiction fun g2 => g ⟨u, hu, g2⟩
    obtain ⟨u, hu, hne⟩ := h'
    cases ho : (bf u || behU (C.map (ballN S r)) k u) with
    | true => rw [ho] at hne; simp at hne
    | false =>
      rw [ho, Bool.false_or, pAt_map _ _ _ _ hk] at hne
      have hp : ballN S r (gi C k) u = true := by simpa using hne
      rw [ballN_in, decide_eq_true_eq] at hp
      refine ⟨u, hp.1, hp.2, (one u hp.1 hp.2).2 fun i hi hik hd => ?_⟩
      have := (lean_others S C r k u hk bf hbf).2 ⟨i, hi, hik, hd.1, by rw [ballN_in, decide_eq_true_eq]; exact ⟨hp.1, hd.2⟩⟩
      rw [ho] at this; cases this
  · rintro ⟨u, hu, hd, ht⟩ h
    have h1 := h u (by omega)
    have hp : ballN S r (gi C k) u = true := by rw [ballN_in, decide_eq_true_eq]; exact ⟨hu, hd⟩
    rw [pAt_map _ _ _ _ hk, hp, Bool.or_true] at h1
    obtain ⟨i, hi, hne, hkk, g⟩ := (lean_others S C r k u hk bf hbf).1 h1.symm
    rw [ballN_in, decide_eq_true_eq] at g
    exact (one u hu hd).1 ht i hi hne ⟨hkk, g.2⟩
theorem lean_all (S C : List Int) (r : Int) (hN : nW S ≤ 1024) (k : Nat) (hk : k ≤ C.length) :
    (∀ u, befT (C.map (ballN S r)) true k u = true ↔ ∃ j, j < k ∧ kept S C r j = true ∧ ballN S r (gi C j) u = true) ∧ outT (C.map (ballN S r)) C true k = lnTo S C r k := by
  induction k with
  | zero => exact ⟨fun u => by simp [befT], rfl⟩
  | succ k ih =>
    obtain ⟨h1, h2⟩ := ih (by omega)
    have he := lean_eq S C r hN k (by omega) _ h1
    refine ⟨fun u => ?_, ?_⟩
    · rw [befT, he]
      cases hkk : kept S C r k with
      | true =>
        rw [if_pos (by simp)]
        simp only [Bool.or_eq_true, h1, pAt_map S C r k (by omega)]
        constructor
        · rintro (⟨j, hj, a, b⟩ | h)
          · exact ⟨j, by omega, a, b⟩
          · exact ⟨k, by omega, hkk, h⟩
        · rintro ⟨j, hj, a, b⟩
          by_cases e : j = k
          · subst e; exact .inr b
          · exact .inl ⟨j, by omega, a, b⟩
      | false =>
        rw [if_neg (by simp), h1]
        constructor
        · rintro ⟨j, hj, a, b⟩; exact ⟨j, by omega, a, b⟩
        · rintro ⟨j, hj, a, b⟩
          refine ⟨j, ?_, a, b⟩
          by_cases e : j = k
          · subst e; rw [hkk] at a; cases a
          · omega
    · rw [outT, he, h2, lnTo]; rfl

end Go.Proofs.Ytlhapanfegjafaa

namespace Go.Proofs.Ytlhapanfegjafaa
open Go.RowKit Cv
set_option linter.unusedVariables false
set_option linter.unusedSimpArgs false
set_option maxRecDepth 100000

end Go.Proofs.Ytlhapanfegjafaa

namespace Go.Proofs.Ytlhapanfegjafaa
open Go.RowKit Cv
set_option linter.unusedVariables false
set_option linter.unusedSimpArgs false
set_option maxRecDepth 100000

end Go.Proofs.Ytlhapanfegjafaa

namespace Go.Proofs.Ytlhapanfegjafaa
open Go.RowKit Cv
set_option linter.unusedVariables false
set_option linter.unusedSimpArgs false
set_option maxRecDepth 100000

end Go.Proofs.Ytlhapanfegjafaa

namespace Go.Proofs.Ytlhapanfegjafaa
open Go.RowKit Cv
set_option linter.unusedVariables false
set_option linter.unusedSimpArgs false
set_option maxRecDepth 100000

/-- the words that are covered are all words just where none is uncovered -/
theorem covS_eq (S C : List Int) (r : Int) (hN : nW S ≤ 1024) : decide ((selL (uncP S C r) (nW S).toNat).length = 0) = eqS (covN S C r) (allN S) := by
  rw [Bool.eq_iff_iff, decide_eq_true_eq, selL_nil, eqS_iff]
  constructor
  · intro h u hu
    rw [covN_in, allN]
    by_cases hn : u < (nW S).toNat
    · have h1 := h u hn
      rw [uncP_in, decide_eq_false_iff_not, Classical.not_not] at h1
      simp [hn, h1]
    · simp [hn]
  · intro h u hu
    have h1 := h u (by omega)
    rw [covN_in, allN, Bool.eq_iff_iff, decide_eq_true_eq, decide_eq_true_eq] at h1
    rw [uncP_in, decide_eq_false_iff_not, Classical.not_not]
    exact (h1.2 hu).2
set_option maxHeartbeats 1000000 in
theorem impl_CoversSpace (ao : Option Addr) (S : List Int) (cap : Nat) (hn : S.length ≤ 4294967296) (ac : Option Addr) (C : List Int) (capc : Nat) (hnc : C.length ≤ 4294967296) (r : Int) (hr : -9223372036854775808 ≤ r ∧ r ≤ 9223372036854775807) (w : World) (hS : Ints w ao S) (hC : Ints w ac C) :
    Calls Try.prog 17 #[.agg #[.slice ao S.length cap], .slice ac C.length capc, .int .i64 r] w fun e w' => e = .returned (.tuple #[.bool (vCovS S C r), .int .i64 (eCov S C r)]) ∧ Below w.heap.size w w' := by
  have B0 : Below w.heap.size w (w.alloc (.cells #[.slice ao S.length cap] 26)) := by go_grown
  have HQ := Lib.hid (eCov2_nil S C r)
  by_cases hq : eCov S C r = 0
  · obtain ⟨hz, r1, r2⟩ := eCov_zero hq
    obtain ⟨hSp, hc1, hc2⟩ := eCode_zero hz
    obtain ⟨N1, N2⟩ := nW_bd hSp
    have hlen := code_len hSp hc1 hc2
    have HSp := Lib.hid hSp
    have HC1 : Hid (∀ i, i < C.length → 0 ≤ gi C i ∧ gi C i ≤ 9223372036854775807) := Lib.hid fun i h => by have := hc1 i h; omega
    clear hc1 hc2 hSp
    have hqn : (eCov2 S C [] r != 0) = false := by rw [HQ.out]; simp [hq]
    have HQ0 := Lib.hid hq
    have HV : Hid (vCovS S C r = eqS (covN S C r) (allN S)) := Lib.hid (by
      unfold vCovS; rw [if_pos hq, covS_eq S C r (by omega)])
    clear hq hz
    go_enter Try.func17, Try.ntmps17
    go_wp2_with fail
    refine (coverError_n ao S cap hn ac C capc hnc r none [] 0 0 rfl (by omega) _ (hS.below B0) (hC.below B0) (.inl rfl)).mono ?_
    rintro e w1 ⟨rfl, hb⟩
    have c1 := kept_cell hb (cell_new w (.slice ao S.length cap) 26) (lt_alloc _ _)
    have B1 : Below w.heap.size w w1 := B0.trans (hb.mono B0.size)
    clear hb B0
    go_wp2_with fail
    have fc := fam_cell c1
    refine wp_region_fam (by kernel_rfl) (by kernel_rfl) ?_
    repeat (go_big_quiet_step (first | (go_at_call 46; exact fam_calls (coveredWords_any ao S cap HSp.out ac C capc (by omega) HC1.out r r1 r2 _ (hS.below (B1.trans ((fam_below _).mono B1.size))) (hC.below (B1.trans ((fam_below _).mono B1.size))))) | (go_at_call 41; exact fam_calls (wholeSet_any ao S cap HSp.out _ (hS.below (B1.trans ((fam_below _).mono B1.size)))))))
    go_big_quiet_want
    refine quiet_exec _ (fun w _ => exec_eqSet (p := covN S C r) (q := allN S) _ (.tmp 19) (.tmp 21) rfl rfl rfl) ?_
    go_big_quiet_on
    simp only [Act.put, List.setIfInBounds_toArray, List.set_cons_zero, List.set_cons_succ]
    repeat (go_big_quiet_step (fail))
    refine wpQuiet_nil ?_
    rintro _ ⟨y, rfl⟩
    have hb2 := fam_below y
    generalize fam w1 y = w2 at hb2 ⊢
    clear fc
    go_wp2_with fail
    go_ret2
    exact ⟨by rw [HQ0.out, HV.out]; try rfl, B1.trans (hb2.mono B1.size)⟩
  · have HV : Hid (vCovS S C r = false) := Lib.hid (by unfold vCovS; rw [if_neg hq])
    have hqn : (eCov2 S C [] r != 0) = true := by rw [HQ.out]; simpa using hq
    clear hq
    go_enter Try.func17, Try.ntmps17
    go_wp2_with fail
    refine (coverError_n ao S cap hn ac C capc hnc r none [] 0 0 rfl (by omega) _ (hS.below B0) (hC.below B0) (.inl rfl)).mono ?_
    rintro e w1 ⟨rfl, hb⟩
    go_wp2_with fail
    go_ret2
    exact ⟨by rw [HV.out, HQ.out]; try rfl, B0.trans (hb.mono B0.size)⟩


end Go.Proofs.Ytlhapanfegjafaa
