/-
  Merged texts: FkT, TimesC, CovC, Exc, Size2, BB. Never import this beside one of them. By an AI agent.
-/
import Derived.Test.YtlhapanfegjafaaFar2
import Derived.Test.YtlhapanfegjafaaErr2
import Derived.Test.YtlhapanfegjafaaHelp
import Derived.Test.YtlhapanfegjafaaAppendAt
import Derived.Test.YtlhapanfegjafaaFcE
import Derived.Test.YtlhapanfegjafaaMarks
import Derived.Test.YtlhapanfegjafaaMath
import Derived.Test.YtlhapanfegjafaaSums2
import Derived.Test.YtlhapanfegjafaaFcC
import Derived.Deep.RegionHeld3
import Derived.IntWalk
import Derived.Test.YtlhapanfegjafaaBall
import Derived.Test.YtlhapanfegjafaaSize
namespace Go.Proofs.Ytlhapanfegjafaa
open Go.RowKit Cv
set_option linter.unusedVariables false
set_option linter.unusedSimpArgs false
set_option maxRecDepth 100000

set_option maxHeartbeats 2000000 in
theorem impl_TimesCovered (ao : Option Addr) (S : List Int) (cap : Nat) (hn : S.length ≤ 4294967296) (ac : Option Addr) (C : List Int) (capc : Nat) (hnc : C.length ≤ 4294967296) (x : Int) (hx : -9223372036854775808 ≤ x ∧ x ≤ 9223372036854775807) (r : Int) (hr : -9223372036854775808 ≤ r ∧ r ≤ 9223372036854775807) (w : World) (hS : Ints w ao S) (hC : Ints w ac C) :
    Calls Try.prog 12 #[.agg #[.slice ao S.length cap], .slice ac C.length capc, .int .i64 x, .int .i64 r] w fun e w' => e = .returned (.tuple #[.int .i64 (vTimes S C x r), .int .i64 (eTimes S C x r)]) ∧ Below w.heap.size w w' := by
  have B1 : Below w.heap.size w ((w.alloc (.cells #[.slice ao S.length cap] 26)).alloc (.cells #[.int .i64 x] 2)) := by go_grown
  have HQ := Lib.hid (eTimes_eq S C x r)
  by_cases he : eTimes S C x r = 0
  · obtain ⟨hz0, x1, x2⟩ := eTimes_zero he
    obtain ⟨hz, r1, r2⟩ := eCov_zero hz0
    have HE := Lib.hid he
    have HV : Hid (vTimes S C x r = tcov S C r x C.length) := Lib.hid (by unfold vTimes; rw [if_pos he])
    have hzn : (eCov2 S C [x] r != 0) = false := by simp [HQ.out, he]
    obtain ⟨hSp, hc1, hc2⟩ := eCode_zero hz
    obtain ⟨N1, N2⟩ := nW_bd hSp
    have hlen := code_len hSp hc1 hc2
    have HSp := Lib.hid hSp
    have HC1 : Hid (∀ i, i < C.length → 0 ≤ gi C i ∧ gi C i ≤ 9223372036854775807) := Lib.hid fun i h => by have := hc1 i h; omega
    clear hc1 hc2 hSp
    clear hz hz0 he
    go_enter Try.func12, Try.ntmps12
    go_wp2_with fail
    refine (coverError_n ao S cap hn ac C capc hnc r _ [x] 1 _ rfl (by omega) _ (hS.below B1) (hC.below B1) (ints_new1 _ x _ (by simp))).mono ?_
    rintro e w1 ⟨rfl, hb⟩
    have lw1 : w.heap.size < w1.heap.size := lt_of_below hb (by simp; try omega)
    have c1 := kept_cell hb (b := w.heap.size) (o := 0) (v := .slice ao S.length cap) (by simp) (by simp; try omega)
    have B2 : Below w.heap.size w w1 := B1.trans (hb.mono B1.size)
    clear hb B1
    go_wp2_with fail
    refine (codeDistances_any ao S cap HSp.out ac C capc (by omega) HC1.out x x1 (by omega) _ (hS.below B2) (hC.below B2)).mono ?_
    rintro e w2 ⟨q, rfl, oq, hb2⟩
    have B3 := B2.trans (hb2.mono B2.size)
    have HL := Lib.hid (dFrom_len S C x)
    clear hb2 B2 c1
    go_wp2_with fail
    go_loop [11, 28] (fun t i => ∃ k : Nat, k ≤ C.length ∧ i = .int .i64 k ∧ t = .int .i64 (tcov S C r x k)) (fun _ i => C.length - (intOf i).toNat)
    case atStart => exact ⟨0, Nat.zero_le _, rfl, rfl⟩
    case round =>
      obtain ⟨k, hk, rfl, rfl⟩ := hrel
      by_cases hlt : k < C.length
      · have hck := oq.cell (k := k) (by rw [HL.out]; exact hlt)
        rw [gi_dFrom _ _ _ _ hlt] at hck
        obtain ⟨t1, t2⟩ := tcov_bd S C r x k
        by_cases hd : dist S x (gi C k) ≤ r
        · have HT := Lib.hid (tcov_yes S C r x k hd)
          go_wp2
          go_round
          case rel => exact ⟨k + 1, by omega, by go_num, by rw [HT.out]; try rfl⟩
          case measure => simp [intOf]; omega
        · have HT := Lib.hid (tcov_no S C r x k hd)
          go_wp2
          go_round
          case rel => exact ⟨k + 1, by omega, by go_num, by rw [HT.out]; try rfl⟩
          case measure => simp [intOf]; omega
      · have ek : Hid (k = C.length) := Lib.hid (by omega)
        go_wp2
        go_ret2
        exact ⟨by rw [HE.out, HV.out, ← ek.out]; try rfl, B3⟩
  · have HE : Hid (eTimes S C x r = eCov2 S C [x] r) := Lib.hid HQ.out.symm
    have HV : Hid (vTimes S C x r = 0) := Lib.hid (by unfold vTimes; rw [if_neg he])
    have hzn : (eCov2 S C [x] r != 0) = true := by rw [HQ.out]; simpa using he
    clear he
    go_enter Try.func12, Try.ntmps12
    go_wp2_with fail
    refine (coverError_n ao S cap hn ac C capc hnc r _ [x] 1 _ rfl (by omega) _ (hS.below B1) (hC.below B1) (ints_new1 _ x _ (by simp))).mono ?_
    rintro e w1 ⟨rfl, hb⟩
    go_wp2_with fail
    go_ret2
    exact ⟨by rw [HE.out, HV.out]; try rfl, B1.trans (hb.mono B1.size)⟩

end Go.Proofs.Ytlhapanfegjafaa

namespace Go.Proofs.Ytlhapanfegjafaa
open Go.RowKit Go.Shelf Cv
set_option linter.unusedVariables false
set_option linter.unusedSimpArgs false
set_option maxRecDepth 100000

attribute [local go_sem] Oper.semAt_some

theorem wordCount_nat' (ao : Option Addr) (S : List Int) (cap : Nat) (N : Nat) (hN : Hid (nW S = (N : Int))) (w : World) (h : Sp S) (hS : Ints w ao S) :
    Calls Try.prog 47 #[.agg #[.slice ao S.length cap]] w fun e w' => e = .returned (.int .i64 (N : Int)) ∧ Below w.heap.size w w' := by
  rw [← hN.out]; exact wordCount_sp ao S cap w h hS

/-- 'make([]int64, n)' in a fence -/
theorem wpListIn_make_ints {F : Fence} {n : Nat} {w : World} {ops : Array Oper} {rest : List Oper} {o : Oper} {a : Act} {Q : Exit → Act → World → Prop} (hg : o.guard = none) (l : Operand) (ho : o.op = Op.makeSlice 24 l l)
    (base m : Nat) (hl : a.eval l = .int .i64 (m : Int)) (hm : m ≤ 16777216) (hb : base ≤ w.heap.size)
    (hK : ∀ w', OwnInts w' base (.slice (some ⟨w.heap.size, 0, none⟩) m m) (List.replicate m 0) → Below w.heap.size w w' → wpListIn F n Try.prog ops Q rest (a.put o.dst (.slice (some ⟨w.heap.size, 0, none⟩) m m)) w') : wpListIn F n Try.prog ops Q (o :: rest) a w := by
  obtain ⟨i0, hi, hz0, hz1, hz2⟩ := info_parts infoI64
  obtain ⟨w', hrun, r1, r2⟩ := run_make_full (P := Try.prog) w base 24 2 i0 (.int .i64 0) 1 Try.underlying24 hi hz0 hz1 .i64 .i64 m (by rw [hz2]; omega) (by unfold maxLen; omega) hb
  refine wpListIn_plain hg fun K hK' => ?_
  unfold Oper.wpIn
  refine ⟨by simp [Oper.about, ho], ?_⟩
  rw [Oper.semAt_plain F _ _ (by rw [ho]; intro c hc; cases hc)]
  simp only [execOp, ho, hl]
  simp [hrun, Result.andThen]
  exact hK' _ _ (hK w' (own_made r1) (below_grown0 r2))

theorem cntIn_snoc (L : List Int) (y u : Int) : cntIn (L ++ [y]) u (L.length + 1) = cntIn L u L.length + if y = u then 1 else 0 := by
  by_cases h : y = u
  · rw [cntIn_yes (by rw [gi_append_ge _ _ _ (Nat.le_refl _)]; simpa [gi] using h), cntIn_app _ _ _ _ (Nat.le_refl _), if_pos h]
  · rw [cntIn_no (by rw [gi_append_ge _ _ _ (Nat.le_refl _)]; simpa [gi] using h), cntIn_app _ _ _ _ (Nat.le_refl _), if_neg h, Int.add_zero]

theorem gi_seqB {S : List Int} {x r : Int} (pre : List (WP S x r)) (t : Nat) (h : t < pre.length) : gi (seqB pre) t = (pre[t]'h).1.1 := by
  unfold seqB
  rw [gi_lt _ _ (by simpa using h), List.getElem_map]
/-- each word of a list counted once more -/
def bumpAll (T L : List Int) : List Int := L.foldl bump T
theorem bumpAll_snoc (T L : List Int) (y : Int) : bumpAll T (L ++ [y]) = bump (bumpAll T L) y := by simp [bumpAll]
theorem bumpAll_len (T L : List Int) : (bumpAll T L).length = T.length := by
  induction L generalizing T with
  | nil => rfl
  | cons y L ih => show (bumpAll (bump T y) L).length = _; rw [ih, bump_len]
/-- of a list of words below N, cut at any place -/
theorem gi_bumpAll (T : List Int) (N : Nat) (hT : T.length = N) (L : List Int) (hL : ∀ t, t < L.length → 0 ≤ gi L t ∧ gi L t < N) (u : Nat) (hu : u < N) (j : Nat) (hj : j ≤ L.length) : gi (bumpAll T (L.take j)) u = gi T u + cntIn L u j := by
  induction j with
  | zero => simp [bumpAll, cntIn, cnt]
  | succ j ih =>
    rw [take_snoc _ _ (by omega), bumpAll_snoc]
    obtain ⟨y1, y2⟩ := hL j (by omega)
    have hlen : (bumpAll T (L.take j)).length = N := by rw [bumpAll_len, hT]
    unfold bump
    rw [gi_set _ _ _ _ (by rw [hlen]; omega)]
    by_cases e : u = (gi L j).toNat
    · rw [if_pos e, ← e, ih (by omega), cntIn_yes (by omega)]; omega
    · rw [if_neg e, ih (by omega), cntIn_no (by omega)]
theorem own_own {β : Type} (base : Nat) (v : Value) (L : β → List Int) : Own (fun (s : β) W => OwnInts W base v (L s)) := fun s A B row hs hg hr => by
  refine hs.kept hg ?_
  cases hv : v.ownBlock with
  | none => exact .inl rfl
  | some k =>
    refine .inr fun e => ?_
    obtain ⟨o, ho, hc⟩ := hr k e.symm
    rcases hs.2 with ⟨hn, _⟩ | ⟨g, cap, cur, hv2, hg2, hh, r⟩
    · rw [hn] at hv; cases hv
    · rw [hv2] at hv
      have e2 : g = k := by simpa [Value.ownBlock] using hv
      subst e2
      rw [hh] at ho
      injection ho with ho
      subst ho
      cases hc

/-- what holds between two rounds of the loop over the code's words -/
def TInv (S C : List Int) (r : Int) (N : Nat) (ao ac : Option Addr) (cap capc : Nat) (w W0 w1 w2 : World) (a : Act) (W : World) : Prop :=
  ∃ (k : Nat) (T : List Int) (ds : List Deferred) (u9 u17 u18 u19 u20 u21 u22 u23 u32 : Value), k ≤ C.length ∧ OwnInts W W0.heap.size (.slice (some ⟨w1.heap.size, 0, none⟩) N N) T ∧ Hid (T.length = N ∧ ∀ u : Nat, u < N → gi T u = tcov S C r u k) ∧
    Boxed W w2.heap.size 24 (.slice (some ⟨w1.heap.size, 0, none⟩) N N) ∧ Below W0.heap.size W0 W ∧ Marks W0.heap.size ds W ∧ w2.heap.size < W.heap.size ∧
    a = { tmps := #[.agg #[.slice ao S.length cap], .slice ac C.length capc, .int .i64 r, .pointer (some ⟨w.heap.size, 0, none⟩), undef, undef, .slice none 0 0, .pointer (some ⟨w2.heap.size, 0, none⟩), undef, u9, undef, .agg #[.slice ao S.length cap], .int .i64 (N : Int), .slice (some ⟨w1.heap.size, 0, none⟩) N N, .slice ac C.length capc, .int .i64 (C.length : Int), .int .i64 (k : Int), u17, u18, u19, u20, u21, u22, u23, undef, undef, undef, undef, undef, undef, undef, undef, u32, undef], defers := ds }
def TMes (C : List Int) (a : Act) (W : World) : Nat := C.length - (intOf (a.tmps.getD 16 undef)).toNat

set_option maxHeartbeats 4000000 in
theorem timesCovered_any (ao : Option Addr) (S : List Int) (cap : Nat) (hSp : Sp S) (ac : Option Addr) (C : List Int) (capc : Nat) (hlen : C.length ≤ 1048576) (hC0 : ∀ i, i < C.length → 0 ≤ gi C i ∧ gi C i ≤ 9223372036854775807) (r : Int) (hr0 : 0 ≤ r) (hr8 : r ≤ 8) (N : Nat) (hN : Hid (nW S = (N : Int))) (w : World) (hS : Ints w ao S) (hC : Ints w ac C) :
    Calls Try.prog 24 #[.agg #[.slice ao S.length cap], .slice ac C.length capc, .int .i64 r] w fun e w' =>
      ∃ q, e = .returned (.slice (some ⟨q, 0, none⟩) N N) ∧ OwnInts w' w.heap.size (.slice (some ⟨q, 0, none⟩) N N) (timesL S C r) ∧ Below w.heap.size w w' := by
  obtain ⟨i0, hi, hz0, hz1, hz2⟩ := info_parts infoI64
  have N2 : N ≤ 1024 := by have := (nW_bd hSp).2; have := hN.out; omega
  have HNN : Hid ((nW S).toNat = N) := Lib.hid (by have := hN.out; omega)
  have HSp := Lib.hid hSp
  have HC0 := Lib.hid hC0
  clear hSp hC0
  obtain ⟨W0, hW0⟩ : ∃ W0, W0 = w.alloc (.cells #[.slice ao S.length cap] 26) := ⟨_, rfl⟩
  have B0 : Below w.heap.size w W0 := by rw [hW0]; go_grown
  have hlt0 : w.heap.size < W0.heap.size := by rw [hW0]; simp
  have C0 : W0.cell? ⟨w.heap.size, 0, none⟩ = some (.slice ao S.length cap) := by rw [hW0]; exact cell_new _ _ _
  have HW0 := Lib.hid hW0
  clear hW0
  refine (callsIn_wide (n := 6)).1 ?_
  refine callsIn_of_wp_marks Try.func24 rfl trivial ?_ rfl
  simp only [Try.ntmps24, List.size_toArray, List.length_cons, List.length_nil, Nat.reduceAdd, Nat.reduceSub, Array.replicate_succ, Array.replicate_zero, List.push_toArray, List.append_toArray, List.nil_append, List.cons_append]
  gi_wp2_with fail
  rw [← HW0.out]
  gi_wp2_with (first
    | (refine ⟨trivial, ?_⟩; gi_at_call 47; refine (callsIn_wide.2 (wordCount_nat' ao S cap N hN _ HSp.out (hS.below B0))).mono ?_; rintro e w1 ⟨rfl, B1⟩)
    | (gi_at_make; refine wpListIn_make_ints rfl _ rfl W0.heap.size N rfl (by omega) B1.size ?_; intro w2 hown hb2)
    | fail)
  have s1 := B1.size
  have s2 := hb2.size
  have g1 := hown.base_le
  have bO := Boxed.new w2 24 (.slice (some ⟨w1.heap.size, 0, none⟩) N N)
  have B2 : Below W0.heap.size W0 (w2.alloc (.cells #[.slice (some ⟨w1.heap.size, 0, none⟩) N N] 24)) := (B1.trans (hb2.mono B1.size)).alloc (by omega) _
  refine wpIn_loop (TInv S C r N ao ac cap capc w W0 w1 w2) (TMes C) ?start ?round
  case start =>
    exact ⟨0, _, [], _, _, _, _, _, _, _, _, _, Nat.zero_le _, hown.alloc _, Lib.hid ⟨by simp, fun u h => by rw [gi_rep0]; rfl⟩, bO, B2, trivial, lt_alloc _ _, rfl⟩
  case round =>
    clear hown bO B2
    rintro a wr ⟨k, T, ds, u9, u17, u18, u19, u20, u21, u22, u23, u32, hk, own, HT, hv, B, hmk, hlw, rfl⟩
    have cs := kept_cell B C0 hlt0
    by_cases hlt : k < C.length
    · obtain ⟨b, o, rfl, hbl, hc⟩ := hC.at hlt
      have hck : wr.cell? ⟨b, o + k, none⟩ = some (.int .i64 (gi C k)) := kept_cell (B0.trans (B.mono B0.size)) (hc k hlt) hbl
      obtain ⟨x1, x2⟩ := HC0.out k hlt
      clear hc
      gi_wp2_with (first
        | (refine ⟨trivial, ?_⟩; gi_at_call 50; refine (callsIn_wide.2 (wordsWithin_any ao S cap HSp.out (gi C k) x1 x2 r _ (hS.below (B0.trans (B.mono B0.size))))).mono ?_; rintro e w3 ⟨Bb, g, rfl, lB, hB, hM, hBg, hBlo, hb3⟩)
        | fail)
      have s3 := hb3.size
      have g3 := hM.base_le
      have hv3 : Boxed w3 w2.heap.size 24 (.slice (some ⟨w1.heap.size, 0, none⟩) N N) := (hb3.block _ hv.lt).trans hv
      have own3 := own.below hb3
      have B3 : Below W0.heap.size W0 w3 := B.trans (hb3.mono B.size)
      have hmk3 : Marks W0.heap.size ds w3 := hmk.keep fun r _ hh _ => (hb3.block r (Array.getElem?_eq_some_iff.1 hh).1).trans hh
      have hmkb := hmk3.bound
      obtain ⟨D, hG, hD⟩ := own_heap hM
      have hD' : ∀ i, i < S.length → D[i]? = some (.int .i64 (dig S (gi C k) i)) := fun i hi => by rw [hD i (by rw [digs_length]; exact hi), gi_digs _ _ _ hi]
      have hNl : (ballP S (gi C k) r).length ≤ 1024 := by
        have := walkL_len S HSp.out.bd (gi C k) r S.length (Nat.le_refl _) 0 0 hr0
        rw [walk_ball S HSp.out.bd (gi C k) r hr0, restP_all, HNN.out] at this; omega
      have hwl := own.base_le
      have HTB : Hid (∀ (pre : List (WP S (gi C k) r)) (u : Nat), u < N → 0 ≤ gi (bumpAll T (seqB pre)) u ∧ gi (bumpAll T (seqB pre)) u ≤ 1048576 + pre.length) := Lib.hid fun pre u hu => by
        have h1 := gi_bumpAll T N HT.out.1 (seqB pre) (fun t ht => by
          have hlen : (seqB pre).length = pre.length := by simp [seqB]
          have htp : t < pre.length := by omega
          have e : gi (seqB pre) t = (pre[t]'htp).1.1 := gi_seqB pre t htp
          rw [e]
          have := (pre[t]'htp).2.1
          have hn := hN.out
          omega) u hu (seqB pre).length (Nat.le_refl _)
        rw [List.take_length] at h1
        have h2 := cntIn_bd (seqB pre) u (seqB pre).length
        have h3 := tcov_bd S C r u k
        have hlen : (seqB pre).length = pre.length := by simp [seqB]
        rw [h1, HT.out.2 u hu]; omega
      have HTl := Lib.hid HT.out.1
      clear hb3 hmk hv own B hck cs
      refine wpIn_rangeFunc_ownG rfl (by omega) (gf := 72) (lb := #[.pointer (some ⟨Bb, 0, none⟩)]) rfl trivial (enters_of Try.func72 (by kernel_rfl) rfl)
        (all_stops Fence.wide rfl trivial trivial rfl (6 - 1) S HSp.out (gi C k) r hr0 hr8 ao cap Bb g D W0 w3 B3 hB (hS.below B0) hG hD') kpB_t (kpB_b B3.size) (Below.refl _ _) (fun _ => rfl)
        (fun (pre : List (WP S (gi C k) r)) W => OwnInts W W0.heap.size (.slice (some ⟨w1.heap.size, 0, none⟩) N N) (bumpAll T (seqB pre)) ∧ Boxed W w2.heap.size 24 (.slice (some ⟨w1.heap.size, 0, none⟩) N N) ∧ (Below W0.heap.size W0 W ∧ w3.heap.size ≤ W.heap.size) ∧ Marks W0.heap.size ds W)
        (fun _ _ _ => False)
        (OwnFrom.and (Own.from (own_own W0.heap.size (.slice (some ⟨w1.heap.size, 0, none⟩) N N) (fun pre : List (WP S (gi C k) r) => bumpAll T (seqB pre))) _) (OwnFrom.and (Own.from (boxed_own w2.heap.size 24 (fun _ : List (WP S (gi C k) r) => .slice (some ⟨w1.heap.size, 0, none⟩) N N)) _) (OwnFrom.and (OwnFrom.and (ownFrom_below (Nat.le_refl _) B3.size) (fun _ _ _ _ hs hg _ => Nat.le_trans hs hg.size)) (fun _ _ _ _ hs hg hr => hs.old hmkb hg (fun r e => (hr r e).1)))))
        (fun _ _ _ _ _ hs _ _ => hs)
        ⟨own3, hv3, ⟨B3, Nat.le_refl _⟩, hmk3⟩
        (fun p => { tmps := #[.agg #[.slice ao S.length cap], .slice (some ⟨b, o, none⟩) C.length capc, .int .i64 r, .pointer (some ⟨w.heap.size, 0, none⟩), undef, undef, .slice none 0 0, .pointer (some ⟨w2.heap.size, 0, none⟩), undef, .int .i64 (gi C k), .int .i64 p.1.1, .agg #[.slice ao S.length cap], .int .i64 (N : Int), .slice (some ⟨w1.heap.size, 0, none⟩) N N, .slice (some ⟨b, o, none⟩) C.length capc, .int .i64 (C.length : Int), .int .i64 (k : Int), .bool true, .pointer (some ⟨b, o + k, none⟩), .int .i64 (gi C k), .agg #[.slice ao S.length cap], .int .i64 (gi C k), .int .i64 r, .func (.func 72) #[] #[.pointer (some ⟨Bb, 0, none⟩)], .int .i64 p.1.1, .int .i64 p.1.2, undef, undef, undef, undef, undef, undef, u32, undef], defers := [] }) ?assign ?body ?done ?stop
      case assign =>
        intro l p W K hK
        dsimp only [encW]
        gi_wp2
        exact hK
      case body =>
        rintro l pre p W ⟨own, hv, ⟨hB', hsz⟩, hmk⟩ hlt'
        have hc := hv.cell
        obtain ⟨u, hu⟩ : ∃ u : Nat, p.1.1 = (u : Int) := ⟨p.1.1.toNat, by have := p.2.1.1; omega⟩
        have hun : u < N := by have := p.2.1.2; have := hN.out; omega
        have hcell := own.cell (k := u) (by rw [bumpAll_len, HTl.out]; exact hun)
        have hfree := own.free u
        obtain ⟨t1, t2⟩ := HTB.out pre u hun
        obtain ⟨Dw, hGw, _⟩ := own_heap own
        have hgn : g ≠ w1.heap.size := by omega
        have HU := Lib.hid hu
        have HST := Lib.hid (own.stored u (gi (bumpAll T (seqB pre)) u + 1))
        have huI : (u : Int) < (N : Int) := by omega
        rw [hu]
        clear hu
        gi_wp2
        refine ⟨(KeepsOthers.setCell _ _ _).from _, ⟨(Below.refl _ W).setCell (by simp; omega) _, keepsT_set hGw (by decide), KeepsAt.set hgn⟩, ?_, (Below.heap_setCell _ _ _ _ (fun e => by have e' : w2.heap.size = w1.heap.size := e; omega)).trans hv, ⟨hB'.setCell (by simp; omega) _, by simpa using hsz⟩, hmk.others ((KeepsOthers.setCell _ _ _).from _)⟩
        rw [seqB_snoc, bumpAll_snoc, HU.out]
        exact HST.out
      case done =>
        rintro Dd ys W hDd HY ⟨own, hv, ⟨hB', hsz⟩, hmk⟩ hK
        have hmk' := hmk.cons (D := Dd) (by have := B3.size; omega) hK (fun d hd r hr => Nat.lt_of_lt_of_le (hmkb d hd r hr) hDd)
        have HTN : Hid ((bumpAll T (seqB ys)).length = N ∧ ∀ u : Nat, u < N → gi (bumpAll T (seqB ys)) u = tcov S C r u (k + 1)) := Lib.hid (by
          have hL : seqB ys = ballW S (gi C k) r := by unfold seqB; rw [← ballW_P, ← HY.out, List.map_map]; rfl
          refine ⟨by rw [bumpAll_len, HTl.out], fun u hu => ?_⟩
          have h1 := gi_bumpAll T N HTl.out (ballW S (gi C k) r) (fun t ht => by
            have h1 : 0 ≤ gi (ballW S (gi C k) r) t ∧ gi (ballW S (gi C k) r) t < ((nW S).toNat : Nat) := selTo_bd _ _ t ht
            have h2 := HNN.out
            omega) u hu (ballW S (gi C k) r).length (Nat.le_refl _)
          rw [List.take_length] at h1
          rw [hL, h1, HT.out.2 u hu, ← tcov_ball S C r u k (by rw [HNN.out]; exact hu)])
        gi_wp2
        refine ⟨⟨k + 1, _, _, _, _, _, _, _, _, _, _, _, by omega, own, HTN, hv, hB', hmk', by omega, rfl⟩, ?_⟩
        simp [TMes, intOf]; omega
      case stop =>
        rintro Dd c pre W _ _ h _
        exact h.elim
    · have ek : k = C.length := by omega
      have hc := hv.cell
      gi_wp2
      refine leaves_marks ds wr hmk (Taken.refl _ _) B.size fun W' ht => ⟨_, results_tmp rfl _ _ _, w1.heap.size, rfl, ?_, B0.trans ((B.trans ht.below).mono B0.size)⟩
      have e : T = timesL S C r := ext_gi (by rw [HT.out.1, timesL_len, HNN.out]) fun i hi => by rw [HT.out.1] at hi; rw [HT.out.2 i hi, gi_timesL _ _ _ _ (by rw [HNN.out]; exact hi), ek]
      rw [← e]
      exact (ht.own own).rebase B0.size

end Go.Proofs.Ytlhapanfegjafaa

namespace Go.Proofs.Ytlhapanfegjafaa
open Go.RowKit Cv
set_option linter.unusedVariables false
set_option linter.unusedSimpArgs false
set_option maxRecDepth 100000

theorem step_if {E : Prop} [Decidable E] {A B : Prop} (h : E) (ha : A) : if E then A else B := by rw [if_pos h]; exact ha
theorem step_make_ints {w : World} {o : Oper} {a : Act} {K : Act → World → Prop} {Q : Exit → Act → World → Prop} (l : Operand) (ho : o.op = Op.makeSlice 24 l l)
    (base m : Nat) (L : Int) (hl : a.eval l = .int .i64 L) (hL : L = (m : Int)) (hm : m ≤ 16777216) (hb : base ≤ w.heap.size)
    (hK : ∀ w', OwnInts w' base (.slice (some ⟨w.heap.size, 0, none⟩) m m) (List.replicate m 0) → Below w.heap.size w w' → K (a.put o.dst (.slice (some ⟨w.heap.size, 0, none⟩) m m)) w') : Oper.wp Try.prog o a w K Q := by
  obtain ⟨i0, hi, hz0, hz1, hz2⟩ := info_parts infoI64
  subst hL
  obtain ⟨w', hrun, r1, r2⟩ := run_make_full (P := Try.prog) w base 24 2 i0 (.int .i64 0) 1 Try.underlying24 hi hz0 hz1 .i64 .i64 m (by rw [hz2]; omega) (by unfold maxLen; omega) hb
  unfold Oper.wp
  simp only [execOp, ho, hl]
  simp [hrun, Result.andThen]
  exact hK w' (own_made r1) (below_grown0 r2)

set_option maxHeartbeats 2000000 in
theorem impl_CoverCounts (ao : Option Addr) (S : List Int) (cap : Nat) (hn : S.length ≤ 4294967296) (ac : Option Addr) (C : List Int) (capc : Nat) (hnc : C.length ≤ 4294967296) (r : Int) (hr : -9223372036854775808 ≤ r ∧ r ≤ 9223372036854775807) (w : World) (hS : Ints w ao S) (hC : Ints w ac C) :
    Calls Try.prog 6 #[.agg #[.slice ao S.length cap], .slice ac C.length capc, .int .i64 r] w fun e w' => ∃ v, e = .returned (.tuple #[v, .int .i64 (eCov S C r)]) ∧ OwnInts w' w.heap.size v (vCov S C r) ∧ Below w.heap.size w w' := by
  obtain ⟨i0, hi, hz0, hz1, hz2⟩ := info_parts infoI64
  have B0 : Below w.heap.size w (w.alloc (.cells #[.slice ao S.length cap] 26)) := by go_grown
  have HQ := Lib.hid (eCov2_nil S C r)
  by_cases hq : eCov S C r = 0
  · obtain ⟨hz, r1, r2⟩ := eCov_zero hq
    have hqn : (eCov2 S C [] r != 0) = false := by rw [HQ.out]; simp [hq]
    obtain ⟨hSp, hc1, hc2⟩ := eCode_zero hz
    obtain ⟨N1, N2⟩ := nW_bd hSp
    have hlen := code_len hSp hc1 hc2
    have HSp := Lib.hid hSp
    have HC1 : Hid (∀ i, i < C.length → 0 ≤ gi C i ∧ gi C i ≤ 9223372036854775807) := Lib.hid fun i h => by have := hc1 i h; omega
    clear hc1 hc2 hSp
    obtain ⟨N, hN⟩ : ∃ N : Nat, nW S = (N : Int) := ⟨(nW S).toNat, by omega⟩
    have HNN : Hid ((nW S).toNat = N) := Lib.hid (by omega)
    have HN := Lib.hid hN
    have hNle : N ≤ 1024 := by omega
    have HQ0 := Lib.hid hq
    have HV : Hid (vCov S C r = covTo (tAt S C r) (C.length + 1) N) := Lib.hid (by unfold vCov; rw [if_pos hq, HNN.out])
    clear hq hz hN
    go_enter Try.func6, Try.ntmps6
    go_wp2_with fail
    refine (coverError_n ao S cap hn ac C capc hnc r none [] 0 0 rfl (by omega) _ (hS.below B0) (hC.below B0) (.inl rfl)).mono ?_
    rintro e w1 ⟨rfl, hb⟩
    have c1 := kept_cell hb (cell_new w (.slice ao S.length cap) 26) (lt_alloc _ _)
    have l1 := lt_of_below hb (lt_alloc w (.cells #[.slice ao S.length cap] 26))
    have B1 : Below w.heap.size w w1 := B0.trans (hb.mono B0.size)
    clear hb B0
    go_wp2_with (at_make; refine wpList_make_full _ rfl _ _ 24 rfl w.heap.size 2 i0 (.int .i64 0) 1 Try.underlying24 hi hz0 hz1 .i64 .i64 ((C.length : Int) + 1) ((C.length : Int) + 1) (C.length + 1) rfl rfl (by simp) (by simp) (by rw [hz2]; omega) (by unfold maxLen; omega) B1.size ?_; intro w2 hown hgrow; have hb2 := below_grown0 hgrow; have c2 := kept_cell hb2 c1 l1; have B1' := B1.trans (hb2.mono B1.size); have oc := own_made hown; have gcl := oc.base_le.2; clear hgrow hown c1)
    have s1 := B1.size
    refine (timesCovered_any ao S cap HSp.out ac C capc (by omega) HC1.out r r1 r2 N HN _ (hS.below B1') (hC.below B1')).mono ?_
    rintro e w3 ⟨q, rfl, oq, hb3⟩
    have B2 := B1'.trans (hb3.mono B1'.size)
    replace oc := oc.below hb3
    have gne : w1.heap.size < q := by have h1 := oq.base_le.1; have h2 := lt_of_below hb2 l1; have h3 := hb2.size; have h4 := gcl; omega
    replace oq := oq.rebase (base' := w.heap.size) B1'.size
    clear hb3 hb2 c2
    go_wp2_with fail
    have HT := Lib.hid (timesL_len S C r)
    go_loopw [28] (fun i wr => ∃ k : Nat, k ≤ N ∧ i = .int .i64 k ∧ OwnInts wr w.heap.size (.slice (some ⟨w1.heap.size, 0, none⟩) (C.length + 1) (C.length + 1)) (covTo (tAt S C r) (C.length + 1) k) ∧ OwnInts wr w.heap.size (.slice (some ⟨q, 0, none⟩) N N) (timesL S C r) ∧ Below w.heap.size w wr) (fun i _ => N - (intOf i).toNat)
    case atStart => exact ⟨0, Nat.zero_le _, rfl, oc, oq, B2⟩
    case round =>
      clear oc oq B2
      obtain ⟨k, hk, rfl, oc, oq, B2⟩ := hrel
      by_cases hlt : k < N
      · have hck := oq.cell (k := k) (by rw [HT.out, HNN.out]; exact hlt)
        rw [gi_timesA _ _ _ _ (by rw [HNN.out]; exact hlt)] at hck
        obtain ⟨t1, t2⟩ := tAt_bd S C r k
        obtain ⟨u, hu⟩ : ∃ u : Nat, tAt S C r k = (u : Int) := ⟨(tAt S C r k).toNat, by omega⟩
        have huC : u < C.length + 1 := by omega
        have huI : (u : Int) < (C.length : Int) + 1 := by omega
        rw [hu] at hck
        have hcell := oc.cell (k := u) (by rw [covTo_len]; exact huC)
        have hfree := oc.free u
        obtain ⟨b1, b2⟩ := covTo_bd (tAt S C r) (C.length + 1) k u
        have HS1 : Hid (covTo (tAt S C r) (C.length + 1) (k + 1) = (covTo (tAt S C r) (C.length + 1) k).set u (gi (covTo (tAt S C r) (C.length + 1) k) u + 1)) := Lib.hid (by show bump _ (tAt S C r k) = _; unfold bump; rw [hu]; rfl)
        have gq1 := oq.base_le
        have gc1 := oc.base_le
        clear hu t1 t2
        go_wp2
        go_roundw
        case rel => exact ⟨k + 1, by omega, by go_num, by rw [HS1.out]; exact oc.stored u _, oq.kept (grown_setCell (World.grownBy.refl _ _) u _) (.inr (show some q ≠ some w1.heap.size from fun e => by injection e with e; omega)), B2.setCell (by simp; omega) _⟩
        case measure => simp [intOf]; omega
      · have ek : Hid (k = N) := Lib.hid (by omega)
        go_wp2
        go_ret2
        exact ⟨_, by rw [HQ0.out]; try rfl, by rw [HV.out, ← ek.out]; exact oc, B2⟩
  · have hqn : (eCov2 S C [] r != 0) = true := by rw [HQ.out]; simpa using hq
    have HV : Hid (vCov S C r = []) := Lib.hid (by unfold vCov; rw [if_neg hq])
    clear hq
    go_enter Try.func6, Try.ntmps6
    go_wp2_with fail
    refine (coverError_n ao S cap hn ac C capc hnc r none [] 0 0 rfl (by omega) _ (hS.below B0) (hC.below B0) (.inl rfl)).mono ?_
    rintro e w1 ⟨rfl, hb⟩
    go_wp2_with fail
    go_ret2
    exact ⟨_, by rw [← HQ.out]; try rfl, by rw [HV.out]; exact World.ownsRow_nil _ _ _ _, B0.trans (hb.mono B0.size)⟩

set_option maxHeartbeats 4000000 in
theorem spec_CoverCounts (ao : Option Addr) (S : List Int) (cap : Nat) (hn : S.length ≤ 4294967296) (ac : Option Addr) (C : List Int) (capc : Nat) (hnc : C.length ≤ 4294967296) (r : Int) (hr : -9223372036854775808 ≤ r ∧ r ≤ 9223372036854775807) (w : World) (hS : Ints w ao S) (hC : Ints w ac C) :
    Calls Try.prog 7 #[.agg #[.slice ao S.length cap], .slice ac C.length capc, .int .i64 r] w fun e w' => ∃ v, e = .returned (.tuple #[v, .int .i64 (eCov S C r)]) ∧ OwnInts w' w.heap.size v (vCov S C r) ∧ Below w.heap.size w w' := by
  have B0 : Below w.heap.size w (w.alloc (.cells #[.slice ao S.length cap] 26)) := by go_grown
  by_cases hq : eCov S C r = 0
  · obtain ⟨hz, r1, r2⟩ := eCov_zero hq
    have hqn : (eCov S C r != 0) = false := by simp [hq]
    obtain ⟨hSp, hc1, hc2⟩ := eCode_zero hz
    obtain ⟨N1, N2⟩ := nW_bd hSp
    have hlen := code_len hSp hc1 hc2
    have HSp := Lib.hid hSp
    have HC1 : Hid (∀ i, i < C.length → 0 ≤ gi C i ∧ gi C i ≤ 9223372036854775807) := Lib.hid fun i h => by have := hc1 i h; omega
    clear hc1 hc2 hSp
    obtain ⟨N, hN⟩ : ∃ N : Nat, nW S = (N : Int) := ⟨(nW S).toNat, by omega⟩
    have HNN : Hid ((nW S).toNat = N) := Lib.hid (by omega)
    have HN := Lib.hid hN
    have hNle : N ≤ 1024 := by omega
    have HQ0 := Lib.hid hq
    have HV : Hid (vCov S C r = covTo (tAt S C r) (C.length + 1) N) := Lib.hid (by unfold vCov; rw [if_pos hq, HNN.out])
    clear hq hz hN
    go_enter Try.func7, Try.ntmps7
    go_wp2_with fail
    refine (l02Code_any ao S cap hn ac C capc hnc r _ (hS.below B0) (hC.below B0)).mono ?_
    rintro e w1 ⟨rfl, hb⟩
    have c1 := kept_cell hb (cell_new w (.slice ao S.length cap) 26) (lt_alloc _ _)
    have l1 := lt_of_below hb (lt_alloc w (.cells #[.slice ao S.length cap] 26))
    have B1 : Below w.heap.size w w1 := B0.trans (hb.mono B0.size)
    clear hb B0
    go_wp2_with fail
    have E1 : IntKind.i64.wrap ((C.length : Int) + 1) = (C.length : Int) + 1 := IntWalk.i64_in _ ⟨by omega, by omega⟩
    refine wp_region_held_drew (S := fun w' => w'.cell? ⟨w.heap.size, 0, none⟩ = some (.slice ao S.length cap)) (by kernel_rfl) c1 (fun hHeld => ?_)
    refine wpAnyH_take (i := 0) (v := ?_) rfl (by kernel_rfl) (by kernel_rfl) (by kernel_rfl) (fun _ _ _ h => h) (Or.inl ⟨by rfl, ?_⟩) (by assumption) ?_
    rotate_left
    · (intro w hSw; (try dsimp only at hSw); go_simp; try (with_reducible rfl))
    (try simp only [Act.put, List.setIfInBounds_toArray, List.set_cons_zero, List.set_cons_succ])
    refine wpAnyH_take (i := 1) (v := ?_) rfl (by kernel_rfl) (by kernel_rfl) (by kernel_rfl) (fun _ _ _ h => h) (Or.inl ⟨by rfl, ?_⟩) (by assumption) ?_
    rotate_left
    · (intro w hSw; (try dsimp only at hSw); go_simp; try (with_reducible rfl))
    (try simp only [Act.put, List.setIfInBounds_toArray, List.set_cons_zero, List.set_cons_succ])
    refine wpAnyH_take (i := 2) (v := ?_) rfl (by kernel_rfl) (by kernel_rfl) (by kernel_rfl) (fun _ _ _ h => h) (Or.inl ⟨by rfl, ?_⟩) (by assumption) ?_
    rotate_left
    · (intro w hSw; (try dsimp only at hSw); go_simp; try (with_reducible rfl))
    (try simp only [Act.put, List.setIfInBounds_toArray, List.set_cons_zero, List.set_cons_succ])
    refine wpAnyH_take (i := 4) (v := ?_) rfl (by kernel_rfl) (by kernel_rfl) (by kernel_rfl) (fun _ _ _ h => h) (Or.inl ⟨by rfl, ?_⟩) (by assumption) ?_
    rotate_left
    · (intro w hSw; (try dsimp only at hSw); go_simp; try (with_reducible rfl))
    (try simp only [Act.put, List.setIfInBounds_toArray, List.set_cons_zero, List.set_cons_succ])
    refine wpAnyH_take (i := 5) (v := ?_) rfl (by kernel_rfl) (by kernel_rfl) (by kernel_rfl) (fun _ _ _ h => h) (Or.inl ⟨by rfl, ?_⟩) (by assumption) ?_
    rotate_left
    · (intro w hSw; (try dsimp only at hSw); go_simp; try (with_reducible rfl))
    (try simp only [Act.put, List.setIfInBounds_toArray, List.set_cons_zero, List.set_cons_succ])
    refine wpAnyH_take (i := 6) (v := ?_) rfl (by kernel_rfl) (by kernel_rfl) (by kernel_rfl) (fun _ _ _ h => h) (Or.inl ⟨by rfl, ?_⟩) (by assumption) ?_
    rotate_left
    · (intro w hSw; (try dsimp only at hSw); go_simp; try (with_reducible rfl))
    (try simp only [Act.put, List.setIfInBounds_toArray, List.set_cons_zero, List.set_cons_succ])
    refine wpAnyH_ready (rs := [3, 7]) (by kernel_rfl) (by simp) ?_
    refine AllReadyH.cons rfl (fun K hK => ?_) ?_
    · go_simp
      (go_at_call 26; refine (l02Times_any ao S cap HSp.out ac C capc (by omega) HC1.out r N HN _ (hS.below B1.drew) (hC.below B1.drew)).mono ?_)
      rintro e w3 ⟨q, rfl, oq, hb3⟩
      have hb3' : Below w1.heap.size w1 w3 := (Below.refl _ w1).drew.trans hb3
      have c3 := kept_cell hb3' c1 l1
      have l3 := lt_of_below hb3' l1
      have B3 := B1.trans (hb3'.mono B1.size)
      refine hK.out _ _ (c3) (fun hHeld => ?_)
      clear hK K
      (try simp only [Act.put, List.setIfInBounds_toArray, List.set_cons_zero, List.set_cons_succ])
      refine wpAnyH_take (i := 8) (v := ?_) rfl (by kernel_rfl) (by kernel_rfl) (by kernel_rfl) (fun _ _ _ h => h) (Or.inl ⟨by rfl, ?_⟩) (by assumption) ?_
      rotate_left
      · (intro w hSw; (try dsimp only at hSw); go_simp; try (with_reducible rfl))
      (try simp only [Act.put, List.setIfInBounds_toArray, List.set_cons_zero, List.set_cons_succ])
      refine wpAnyH_ready (rs := [7]) (by kernel_rfl) (by simp) ?_
      refine AllReadyH.cons rfl (fun K hK => ?_) AllReadyH.nil
      refine step_if (by kernel_rfl) ?_
      refine step_make_free _ rfl w.heap.size (C.length + 1) ((C.length : Int) + 1) rfl (by simp) (by omega) B3.size ?_
      intro w4 p hp oc hb4
      have c4 := kept_cell hb4 c3 l3
      refine hK.out _ _ (c4) (fun hHeld => ?_)
      clear hK K
      (try simp only [Act.put, List.setIfInBounds_toArray, List.set_cons_zero, List.set_cons_succ])
      refine wpAnyH_take (i := 9) (v := ?_) rfl (by kernel_rfl) (by kernel_rfl) (by kernel_rfl) (fun _ _ _ h => h) (Or.inl ⟨by rfl, ?_⟩) (by assumption) ?_
      rotate_left
      · (intro w hSw; (try dsimp only at hSw); go_simp; try (with_reducible rfl))
      (try simp only [Act.put, List.setIfInBounds_toArray, List.set_cons_zero, List.set_cons_succ])
      have gne := oq.base_le.2
      have B2 := B3.trans (hb4.mono B3.size)
      replace oq := (oq.below hb4).rebase (base' := w.heap.size) B1.size
      clear hb3 hb3' hb4 c3 c4 l3
      refine wpAnyH_done (by kernel_rfl) ?_ _
      clear E1
      go_wp2_with fail
      have HT := Lib.hid (timesL_len S C r)
      go_loopw [29] (fun i wr => ∃ k : Nat, k ≤ N ∧ i = .int .i64 k ∧ OwnInts wr w.heap.size (.slice (some ⟨p, 0, none⟩) (C.length + 1) (C.length + 1)) (covTo (tAt S C r) (C.length + 1) k) ∧ OwnInts wr w.heap.size (.slice (some ⟨q, 0, none⟩) N N) (timesL S C r) ∧ Below w.heap.size w wr) (fun i _ => N - (intOf i).toNat)
      case atStart => exact ⟨0, Nat.zero_le _, rfl, oc, oq, B2⟩
      case round =>
        clear oc oq B2
        obtain ⟨k, hk, rfl, oc, oq, B2⟩ := hrel
        by_cases hlt : k < N
        · have hck := oq.cell (k := k) (by rw [HT.out, HNN.out]; exact hlt)
          rw [gi_timesA _ _ _ _ (by rw [HNN.out]; exact hlt)] at hck
          obtain ⟨t1, t2⟩ := tAt_bd S C r k
          obtain ⟨u, hu⟩ : ∃ u : Nat, tAt S C r k = (u : Int) := ⟨(tAt S C r k).toNat, by omega⟩
          have huC : u < C.length + 1 := by omega
          have huI : (u : Int) < (C.length : Int) + 1 := by omega
          rw [hu] at hck
          have hcell := oc.cell (k := u) (by rw [covTo_len]; exact huC)
          have hfree := oc.free u
          obtain ⟨b1, b2⟩ := covTo_bd (tAt S C r) (C.length + 1) k u
          have HS1 : Hid (covTo (tAt S C r) (C.length + 1) (k + 1) = (covTo (tAt S C r) (C.length + 1) k).set u (gi (covTo (tAt S C r) (C.length + 1) k) u + 1)) := Lib.hid (by show bump _ (tAt S C r k) = _; unfold bump; rw [hu]; rfl)
          have gq1 := oq.base_le
          have gc1 := oc.base_le
          clear hu t1 t2
          go_wp2
          go_roundw
          case rel => exact ⟨k + 1, by omega, by go_num, by rw [HS1.out]; exact oc.stored u _, oq.kept (grown_setCell (World.grownBy.refl _ _) u _) (.inr (show some q ≠ some p from fun e => by injection e with e; omega)), B2.setCell (by simp; omega) _⟩
          case measure => simp [intOf]; omega
        · have ek : Hid (k = N) := Lib.hid (by omega)
          go_wp2
          go_ret2
          exact ⟨_, by rw [HQ0.out]; try rfl, by rw [HV.out, ← ek.out]; exact oc, B2⟩
    refine ready_make (i := 7) (o := { dst := some 26, op := Op.makeSlice 24 (Operand.tmp 25) (Operand.tmp 25), type := 24, pos := "l02_covers.go:104", after := #[{ on := 6, ground := Ground.data }, { on := 6, ground := Ground.data }], guard := none }) (Operand.tmp 25) rfl (by kernel_rfl) rfl w.heap.size (C.length + 1) ((C.length : Int) + 1) rfl (by simp) (by omega) B1.drew.size ?_
    intro w4 p hp oc hb4
    have hb4' : Below w1.heap.size w1 w4 := (Below.refl _ w1).drew.trans hb4
    have c4 := kept_cell hb4' c1 l1
    have l4 := lt_of_below hb4' l1
    have B4 := B1.trans (hb4'.mono B1.size)
    refine ⟨c4, fun hHeld => ?_⟩
    (try simp only [Act.put, List.setIfInBounds_toArray, List.set_cons_zero, List.set_cons_succ])
    refine wpAnyH_ready (rs := [3]) (by kernel_rfl) (by simp) ?_
    refine AllReadyH.cons rfl (fun K hK => ?_) AllReadyH.nil
    go_simp
    (go_at_call 26; refine (l02Times_any ao S cap HSp.out ac C capc (by omega) HC1.out r N HN _ (hS.below B4) (hC.below B4)).mono ?_)
    rintro e w3 ⟨q, rfl, oq, hb3⟩
    have c5 := kept_cell hb3 c4 l4
    refine hK.out _ _ (c5) (fun hHeld => ?_)
    clear hK K
    (try simp only [Act.put, List.setIfInBounds_toArray, List.set_cons_zero, List.set_cons_succ])
    refine wpAnyH_take (i := 8) (v := ?_) rfl (by kernel_rfl) (by kernel_rfl) (by kernel_rfl) (fun _ _ _ h => h) (Or.inl ⟨by rfl, ?_⟩) (by assumption) ?_
    rotate_left
    · (intro w hSw; (try dsimp only at hSw); go_simp; try (with_reducible rfl))
    (try simp only [Act.put, List.setIfInBounds_toArray, List.set_cons_zero, List.set_cons_succ])
    refine wpAnyH_take (i := 9) (v := ?_) rfl (by kernel_rfl) (by kernel_rfl) (by kernel_rfl) (fun _ _ _ h => h) (Or.inl ⟨by rfl, ?_⟩) (by assumption) ?_
    rotate_left
    · (intro w hSw; (try dsimp only at hSw); go_simp; try (with_reducible rfl))
    (try simp only [Act.put, List.setIfInBounds_toArray, List.set_cons_zero, List.set_cons_succ])
    have gne := oq.base_le.1
    have gcl := oc.base_le.2
    have B2 := B4.trans (hb3.mono B4.size)
    replace oc := oc.below hb3
    replace oq := oq.rebase (base' := w.heap.size) B4.size
    clear hb3 hb4 hb4' c4 c5 l4
    refine wpAnyH_done (by kernel_rfl) ?_ _
    clear E1
    go_wp2_with fail
    have HT := Lib.hid (timesL_len S C r)
    go_loopw [29] (fun i wr => ∃ k : Nat, k ≤ N ∧ i = .int .i64 k ∧ OwnInts wr w.heap.size (.slice (some ⟨p, 0, none⟩) (C.length + 1) (C.length + 1)) (covTo (tAt S C r) (C.length + 1) k) ∧ OwnInts wr w.heap.size (.slice (some ⟨q, 0, none⟩) N N) (timesL S C r) ∧ Below w.heap.size w wr) (fun i _ => N - (intOf i).toNat)
    case atStart => exact ⟨0, Nat.zero_le _, rfl, oc, oq, B2⟩
    case round =>
      clear oc oq B2
      obtain ⟨k, hk, rfl, oc, oq, B2⟩ := hrel
      by_cases hlt : k < N
      · have hck := oq.cell (k := k) (by rw [HT.out, HNN.out]; exact hlt)
        rw [gi_timesA _ _ _ _ (by rw [HNN.out]; exact hlt)] at hck
        obtain ⟨t1, t2⟩ := tAt_bd S C r k
        obtain ⟨u, hu⟩ : ∃ u : Nat, tAt S C r k = (u : Int) := ⟨(tAt S C r k).toNat, by omega⟩
        have huC : u < C.length + 1 := by omega
        have huI : (u : Int) < (C.length : Int) + 1 := by omega
        rw [hu] at hck
        have hcell := oc.cell (k := u) (by rw [covTo_len]; exact huC)
        have hfree := oc.free u
        obtain ⟨b1, b2⟩ := covTo_bd (tAt S C r) (C.length + 1) k u
        have HS1 : Hid (covTo (tAt S C r) (C.length + 1) (k + 1) = (covTo (tAt S C r) (C.length + 1) k).set u (gi (covTo (tAt S C r) (C.length + 1) k) u + 1)) := Lib.hid (by show bump _ (tAt S C r k) = _; unfold bump; rw [hu]; rfl)
        have gq1 := oq.base_le
        have gc1 := oc.base_le
        clear hu t1 t2
        go_wp2
        go_roundw
        case rel => exact ⟨k + 1, by omega, by go_num, by rw [HS1.out]; exact oc.stored u _, oq.kept (grown_setCell (World.grownBy.refl _ _) u _) (.inr (show some q ≠ some p from fun e => by injection e with e; omega)), B2.setCell (by simp; omega) _⟩
        case measure => simp [intOf]; omega
      · have ek : Hid (k = N) := Lib.hid (by omega)
        go_wp2
        go_ret2
        exact ⟨_, by rw [HQ0.out]; try rfl, by rw [HV.out, ← ek.out]; exact oc, B2⟩
  · have hqn : (eCov S C r != 0) = true := by simpa using hq
    have HV : Hid (vCov S C r = []) := Lib.hid (by unfold vCov; rw [if_neg hq])
    clear hq
    go_enter Try.func7, Try.ntmps7
    go_wp2_with fail
    refine (l02Code_any ao S cap hn ac C capc hnc r _ (hS.below B0) (hC.below B0)).mono ?_
    rintro e w1 ⟨rfl, hb⟩
    go_wp2_with fail
    go_ret2
    exact ⟨_, rfl, by rw [HV.out]; exact World.ownsRow_nil _ _ _ _, B0.trans (hb.mono B0.size)⟩

end Go.Proofs.Ytlhapanfegjafaa

namespace Go.Proofs.Ytlhapanfegjafaa
open Go.RowKit Cv
set_option linter.unusedVariables false
set_option linter.unusedSimpArgs false
set_option maxRecDepth 100000

set_option maxHeartbeats 2000000 in
theorem spec_ExcessOf (ao : Option Addr) (S : List Int) (cap : Nat) (hn : S.length ≤ 4294967296) (ac : Option Addr) (C : List Int) (capc : Nat) (hnc : C.length ≤ 4294967296) (r : Int) (hr : -9223372036854775808 ≤ r ∧ r ≤ 9223372036854775807) (w : World) (hS : Ints w ao S) (hC : Ints w ac C) :
    Calls Try.prog 10 #[.agg #[.slice ao S.length cap], .slice ac C.length capc, .int .i64 r] w fun e w' => e = .returned (.tuple #[.int .i64 (vExc S C r), .int .i64 (eExc S C r)]) ∧ Below w.heap.size w w' := by
  have B0 : Below w.heap.size w (w.alloc (.cells #[.slice ao S.length cap] 26)) := by go_grown
  have HQ := Lib.hid (eCov2_nil S C r)
  by_cases hq : eCov S C r = 0
  · obtain ⟨hz, r1, r2⟩ := eCov_zero hq
    obtain ⟨hSp, hc1, hc2⟩ := eCode_zero hz
    obtain ⟨N1, N2⟩ := nW_bd hSp
    have hlen := code_len hSp hc1 hc2
    have HSp := Lib.hid hSp
    have HC1 : Hid (∀ i, i < C.length → 0 ≤ gi C i ∧ gi C i ≤ 9223372036854775807) := Lib.hid fun i h => by have := hc1 i h; omega
    clear hc1 hc2 hSp
    have hqn : (eCov S C r != 0) = false := by simp [hq]
    obtain ⟨N, hN⟩ : ∃ N : Nat, nW S = (N : Int) := ⟨(nW S).toNat, by omega⟩
    have HNN : Hid ((nW S).toNat = N) := Lib.hid (by omega)
    have HN := Lib.hid hN
    have hNle : N ≤ 1024 := by omega
    have HQ0 := Lib.hid hq
    clear hq hz hN
    go_enter Try.func10, Try.ntmps10
    go_wp2_with fail
    refine (l02Code_any ao S cap hn ac C capc hnc r _ (hS.below B0) (hC.below B0)).mono ?_
    rintro e w1 ⟨rfl, hb⟩
    have c1 := kept_cell hb (cell_new w (.slice ao S.length cap) 26) (lt_alloc _ _)
    have B1 : Below w.heap.size w w1 := B0.trans (hb.mono B0.size)
    clear hb B0
    go_wp2_with fail
    refine (l02Times_any ao S cap HSp.out ac C capc (by omega) HC1.out r N HN _ (hS.below B1) (hC.below B1)).mono ?_
    rintro e w2 ⟨q, rfl, oq, hb2⟩
    have B2 := B1.trans (hb2.mono B1.size)
    have HT := Lib.hid (timesL_len S C r)
    clear hb2 B1 c1
    go_wp2_with fail
    go_loop [10, 25] (fun t i => ∃ k : Nat, k ≤ N ∧ i = .int .i64 k ∧ t = .int .i64 (exS (tAt S C r) k) ∧ Hid (∀ u : Nat, u < k → tAt S C r u ≠ 0)) (fun _ i => N - (intOf i).toNat)
    case atStart => exact ⟨0, Nat.zero_le _, rfl, rfl, Lib.hid fun u h => by omega⟩
    case round =>
      obtain ⟨k, hk, rfl, rfl, HZ⟩ := hrel
      by_cases hlt : k < N
      · have hck := oq.cell (k := k) (by rw [HT.out, HNN.out]; exact hlt)
        rw [gi_timesA _ _ _ _ (by rw [HNN.out]; exact hlt)] at hck
        obtain ⟨t1, t2⟩ := tAt_bd S C r k
        have hE := exS_bd (tAt S C r) C.length (by omega) (tAt_bd S C r) k
        have hkC : (k : Int) * (C.length : Int) ≤ 1024 * 1024 := Int.mul_le_mul (by omega) (by omega) (by omega) (by omega)
        obtain ⟨e1, e2⟩ := hE
        have e3 : exS (tAt S C r) k ≤ 1048576 := by omega
        clear e2 hkC
        by_cases hz : tAt S C r k = 0
        · have hzb : (tAt S C r k == 0) = true := by simp [hz]
          have HX := Lib.hid (exc_zero HQ0.out (by rw [HNN.out]; exact zTo_at hlt hz))
          clear hz
          go_wp2
          go_ret2
          exact ⟨by rw [HX.out.1, HX.out.2]; try rfl, B2⟩
        · have hzb : (tAt S C r k == 0) = false := by simpa using hz
          have HZk := Lib.hid hz
          have HS1 : Hid (exS (tAt S C r) (k + 1) = exS (tAt S C r) k + (tAt S C r k - 1)) := Lib.hid rfl
          clear hz
          go_wp2
          go_round
          case rel =>
            refine ⟨k + 1, by omega, by go_num, by rw [HS1.out]; go_num, Lib.hid fun u hu => ?_⟩
            by_cases e : u = k
            · subst e; exact HZk.out
            · exact HZ.out u (by omega)
          case measure => simp [intOf]; omega
      · have ek : Hid (k = N) := Lib.hid (by omega)
        have HX := Lib.hid (exc_ok HQ0.out (by rw [HNN.out]; exact zTo_none fun u hu => HZ.out u (by omega)))
        go_wp2
        go_ret2
        exact ⟨by rw [HX.out.1, HX.out.2, HNN.out, ← ek.out]; try rfl, B2⟩
  · have hqn : (eCov S C r != 0) = true := by simpa using hq
    have HX := Lib.hid (exc_bad hq)
    clear hq
    go_enter Try.func10, Try.ntmps10
    go_wp2_with fail
    refine (l02Code_any ao S cap hn ac C capc hnc r _ (hS.below B0) (hC.below B0)).mono ?_
    rintro e w1 ⟨rfl, hb⟩
    go_wp2_with fail
    go_ret2
    exact ⟨by rw [HX.out.1, HX.out.2]; try rfl, B0.trans (hb.mono B0.size)⟩

set_option maxHeartbeats 2000000 in
theorem impl_ExcessOf (ao : Option Addr) (S : List Int) (cap : Nat) (hn : S.length ≤ 4294967296) (ac : Option Addr) (C : List Int) (capc : Nat) (hnc : C.length ≤ 4294967296) (r : Int) (hr : -9223372036854775808 ≤ r ∧ r ≤ 9223372036854775807) (w : World) (hS : Ints w ao S) (hC : Ints w ac C) :
    Calls Try.prog 9 #[.agg #[.slice ao S.length cap], .slice ac C.length capc, .int .i64 r] w fun e w' => e = .returned (.tuple #[.int .i64 (vExc S C r), .int .i64 (eExc S C r)]) ∧ Below w.heap.size w w' := by
  have B0 : Below w.heap.size w (w.alloc (.cells #[.slice ao S.length cap] 26)) := by go_grown
  have HQ := Lib.hid (eCov2_nil S C r)
  by_cases hq : eCov S C r = 0
  · obtain ⟨hz, r1, r2⟩ := eCov_zero hq
    obtain ⟨hSp, hc1, hc2⟩ := eCode_zero hz
    obtain ⟨N1, N2⟩ := nW_bd hSp
    have hlen := code_len hSp hc1 hc2
    have HSp := Lib.hid hSp
    have HC1 : Hid (∀ i, i < C.length → 0 ≤ gi C i ∧ gi C i ≤ 9223372036854775807) := Lib.hid fun i h => by have := hc1 i h; omega
    clear hc1 hc2 hSp
    have hqn : (eCov2 S C [] r != 0) = false := by rw [HQ.out]; simp [hq]
    obtain ⟨N, hN⟩ : ∃ N : Nat, nW S = (N : Int) := ⟨(nW S).toNat, by omega⟩
    have HNN : Hid ((nW S).toNat = N) := Lib.hid (by omega)
    have HN := Lib.hid hN
    have hNle : N ≤ 1024 := by omega
    have HQ0 := Lib.hid hq
    clear hq hz hN
    go_enter Try.func9, Try.ntmps9
    go_wp2_with fail
    refine (coverError_n ao S cap hn ac C capc hnc r none [] 0 0 rfl (by omega) _ (hS.below B0) (hC.below B0) (.inl rfl)).mono ?_
    rintro e w1 ⟨rfl, hb⟩
    have c1 := kept_cell hb (cell_new w (.slice ao S.length cap) 26) (lt_alloc _ _)
    have B1 : Below w.heap.size w w1 := B0.trans (hb.mono B0.size)
    clear hb B0
    go_wp2_with fail
    refine (timesCovered_any ao S cap HSp.out ac C capc (by omega) HC1.out r r1 r2 N HN _ (hS.below B1) (hC.below B1)).mono ?_
    rintro e w2 ⟨q, rfl, oq, hb2⟩
    have B2 := B1.trans (hb2.mono B1.size)
    have HT := Lib.hid (timesL_len S C r)
    clear hb2 B1 c1
    go_wp2_with fail
    go_loop [9, 24] (fun t i => ∃ k : Nat, k ≤ N ∧ i = .int .i64 k ∧ t = .int .i64 (exS (tAt S C r) k) ∧ Hid (∀ u : Nat, u < k → tAt S C r u ≠ 0)) (fun _ i => N - (intOf i).toNat)
    case atStart => exact ⟨0, Nat.zero_le _, rfl, rfl, Lib.hid fun u h => by omega⟩
    case round =>
      obtain ⟨k, hk, rfl, rfl, HZ⟩ := hrel
      by_cases hlt : k < N
      · have hck := oq.cell (k := k) (by rw [HT.out, HNN.out]; exact hlt)
        rw [gi_timesA _ _ _ _ (by rw [HNN.out]; exact hlt)] at hck
        obtain ⟨t1, t2⟩ := tAt_bd S C r k
        have hE := exS_bd (tAt S C r) C.length (by omega) (tAt_bd S C r) k
        have hkC : (k : Int) * (C.length : Int) ≤ 1024 * 1024 := Int.mul_le_mul (by omega) (by omega) (by omega) (by omega)
        obtain ⟨e1, e2⟩ := hE
        have e3 : exS (tAt S C r) k ≤ 1048576 := by omega
        clear e2 hkC
        by_cases hz : tAt S C r k = 0
        · have hzb : (tAt S C r k == 0) = true := by simp [hz]
          have HX := Lib.hid (exc_zero HQ0.out (by rw [HNN.out]; exact zTo_at hlt hz))
          clear hz
          go_wp2
          go_ret2
          exact ⟨by rw [HX.out.1, HX.out.2]; try rfl, B2⟩
        · have hzb : (tAt S C r k == 0) = false := by simpa using hz
          have HZk := Lib.hid hz
          have HS1 : Hid (exS (tAt S C r) (k + 1) = exS (tAt S C r) k + (tAt S C r k - 1)) := Lib.hid rfl
          clear hz
          go_wp2
          go_round
          case rel =>
            refine ⟨k + 1, by omega, by go_num, by rw [HS1.out]; try rfl, Lib.hid fun u hu => ?_⟩
            by_cases e : u = k
            · subst e; exact HZk.out
            · exact HZ.out u (by omega)
          case measure => simp [intOf]; omega
      · have ek : Hid (k = N) := Lib.hid (by omega)
        have HX := Lib.hid (exc_ok HQ0.out (by rw [HNN.out]; exact zTo_none fun u hu => HZ.out u (by omega)))
        go_wp2
        go_ret2
        exact ⟨by rw [HX.out.1, HX.out.2, HNN.out, ← ek.out]; try rfl, B2⟩
  · have hqn : (eCov2 S C [] r != 0) = true := by rw [HQ.out]; simpa using hq
    have HX := Lib.hid (exc_bad hq)
    clear hq
    go_enter Try.func9, Try.ntmps9
    go_wp2_with fail
    refine (coverError_n ao S cap hn ac C capc hnc r none [] 0 0 rfl (by omega) _ (hS.below B0) (hC.below B0) (.inl rfl)).mono ?_
    rintro e w1 ⟨rfl, hb⟩
    go_wp2_with fail
    go_ret2
    exact ⟨by rw [HX.out.1, HX.out.2, ← HQ.out]; try rfl, B0.trans (hb.mono B0.size)⟩

end Go.Proofs.Ytlhapanfegjafaa

namespace Go.Proofs.Ytlhapanfegjafaa
open Go.RowKit Go.Shelf Cv
set_option linter.unusedVariables false
set_option linter.unusedSimpArgs false
set_option maxRecDepth 100000

attribute [local go_sem] Oper.semAt_some

theorem size_P (S : List Int) (h : ∀ i, i < S.length → 2 ≤ gi S i ∧ gi S i ≤ 4) (r : Int) (hr : 0 ≤ r) : ((ballP S 0 r).length : Int) = sizeN S r := by
  have := ball_count S h 0 r.toNat
  rw [Int.toNat_of_nonneg hr] at this
  exact this

set_option maxHeartbeats 2000000 in
theorem impl_BallSize (ao : Option Addr) (S : List Int) (cap : Nat) (hn : S.length ≤ 4294967296) (r : Int) (hr : -9223372036854775808 ≤ r ∧ r ≤ 9223372036854775807) (w : World) (hS : Ints w ao S) :
    Calls Try.prog 20 #[.agg #[.slice ao S.length cap], .int .i64 r] w fun e w' => e = .returned (.tuple #[.int .i64 (vSize S r), .int .i64 (eBall S 0 r)]) ∧ Below w.heap.size w w' := by
  have B0 : Below w.heap.size w (w.alloc (.cells #[.slice ao S.length cap] 26)) := by go_grown
  by_cases he : eBall S 0 r = 0
  · obtain ⟨hw0, r0, r8⟩ := eBall_zero he
    obtain ⟨hSp, x0, x1⟩ := eWords1 hw0
    have hen : (eBall S 0 r != 0) = false := by simp [he]
    have HE := Lib.hid he
    have HV : Hid (vSize S r = sizeN S r) := Lib.hid (by unfold vSize; rw [if_pos he])
    have HSp := Lib.hid hSp
    have N2 := (nW_bd hSp).2
    clear he hw0 hSp
    refine (callsIn_wide (n := 6)).1 ?_
    refine callsIn_of_wp_marks Try.func20 rfl trivial ?_ rfl
    simp only [Try.ntmps20, List.size_toArray, List.length_cons, List.length_nil, Nat.reduceAdd, Nat.reduceSub, Array.replicate_succ, Array.replicate_zero, List.push_toArray, List.append_toArray, List.nil_append, List.cons_append]
    gi_wp2_with (first
      | (refine ⟨trivial, ?_⟩; gi_at_call 49; refine (callsIn_wide.2 (ballError_any ao S cap hn 0 r _ (hS.below B0))).mono ?_; rintro e w1 ⟨rfl, hb1⟩; have c1 := kept_cell hb1 (cell_new w (.slice ao S.length cap) 26) (lt_alloc _ _); have l1 := lt_of_below hb1 (lt_alloc w (.cells #[.slice ao S.length cap] 26)); have B1 := B0.trans (hb1.mono B0.size); have c2 : ∀ o1, (w1.alloc o1).cell? ⟨w.heap.size, 0, none⟩ = some (.slice ao S.length cap) := fun o1 => kept_cell ((Below.refl w1.heap.size w1).alloc (Nat.le_refl _) o1) c1 l1; clear hb1 c1)
      | (refine ⟨trivial, ?_⟩; gi_at_call 50; refine (callsIn_wide.2 (wordsWithin_any ao S cap HSp.out 0 (by omega) (by omega) r _ (hS.below (B1.alloc B1.size _)))).mono ?_; rintro e w2 ⟨Bb, g, rfl, lB, hB, hM, hBg, hBlo, hb2⟩)
      | fail)
    have s1 := B1.size
    have s2 := hb2.size
    simp only [World.size_alloc] at s2
    have g1 := hM.base_le
    rw [World.size_alloc] at g1
    have bO : Boxed w2 w1.heap.size 2 (.int .i64 ((0 : Nat) : Int)) := (hb2.block _ (by simp)).trans (Boxed.new w1 2 (.int .i64 0))
    have B2 : Below w.heap.size w w2 := (B1.alloc s1 _).trans (hb2.mono (by simp; omega))
    obtain ⟨D, hG, hD⟩ := own_heap hM
    have hD' : ∀ i, i < S.length → D[i]? = some (.int .i64 (dig S 0 i)) := fun i hi => by rw [hD i (by rw [digs_length]; exact hi), gi_digs _ _ _ hi]
    have hNl : (ballP S 0 r).length ≤ 1024 := by
      have := walkL_len S HSp.out.bd 0 r S.length (Nat.le_refl _) 0 0 r0
      rw [walk_ball S HSp.out.bd 0 r r0, restP_all] at this; omega
    have HZ : Hid (((ballP S 0 r).length : Int) = sizeN S r) := Lib.hid (size_P S HSp.out.bd r r0)
    refine wpIn_rangeFunc_ownG rfl (by omega) (gf := 72) (lb := #[.pointer (some ⟨Bb, 0, none⟩)]) rfl trivial (enters_of Try.func72 (by kernel_rfl) rfl)
      (all_stops Fence.wide rfl trivial trivial rfl (6 - 1) S HSp.out 0 r r0 r8 ao cap Bb g D w w2 B2 hB hS hG hD') kpB_t (kpB_b B2.size) (Below.refl _ _) (fun _ => rfl)
      (fun (pre : List (WP S 0 r)) W => Boxed W w1.heap.size 2 (.int .i64 (pre.length : Int)) ∧ Below w.heap.size w W)
      (fun _ _ _ => False)
      (OwnFrom.and (Own.from (boxed_own w1.heap.size 2 (fun pre : List (WP S 0 r) => .int .i64 (pre.length : Int))) _) (ownFrom_below (Nat.le_refl _) B2.size))
      (fun _ _ _ _ _ hs _ _ => hs)
      ⟨bO, B2⟩
      (fun p => { tmps := #[.agg #[.slice ao S.length cap], .int .i64 r, .pointer (some ⟨w.heap.size, 0, none⟩), undef, .int .i64 0, .int .i64 0, .int .i64 (eBall S 0 r), .pointer (some ⟨w1.heap.size, 0, none⟩), .agg #[.slice ao S.length cap], .int .i64 r, .int .i64 (eBall S 0 r), .int .i64 (eBall S 0 r), .bool false, undef, .agg #[.slice ao S.length cap], .int .i64 r, .func (.func 72) #[] #[.pointer (some ⟨Bb, 0, none⟩)], .int .i64 p.1.1, .int .i64 p.1.2, undef, undef, undef], defers := [] }) ?assign ?body ?done ?stop
    case assign =>
      intro l p W K hK
      dsimp only [encW]
      gi_wp2
      simpa using hK
    case body =>
      rintro l pre p W ⟨hv, hB'⟩ hlt
      have hc := hv.cell
      have hf := hv.frozen
      have hgn : g ≠ w1.heap.size := by omega
      gi_wp2
      exact ⟨(KeepsOthers.setCell _ _ _).from _, ⟨(Below.refl _ W).setCell (by simp; omega) _, keepsT_set hv (by decide), KeepsAt.set hgn⟩, by have h := hv.set (.int .i64 ((pre.length : Int) + 1)); rwa [show ((pre.length : Int) + 1) = ((pre ++ [p]).length : Int) by simp] at h ⊢, hB'.setCell (by simp; omega) _⟩
    case done =>
      rintro Dd ys W hDd HY ⟨hv, hB'⟩ hK
      have hc := hv.cell
      have HL : Hid ((ys.length : Int) = sizeN S r) := Lib.hid (by rw [← HZ.out, ← HY.out, List.length_map])
      gi_wp2
      refine ⟨by simp, .inl ⟨_, _, rfl, run_takeDeferred hK, ?_⟩⟩
      exact ⟨_, results_tmp2 rfl _ _ _, by rw [HE.out, HV.out, ← HL.out]; rfl, hB'.trans (belowK_b (w := w2) B2.size W Dd _ _ hDd hK rfl rfl)⟩
    case stop =>
      rintro Dd c pre W _ _ h _
      exact h.elim
  · have hen : (eBall S 0 r != 0) = true := by simpa using he
    have HV : Hid (vSize S r = 0) := Lib.hid (by unfold vSize; rw [if_neg he])
    clear he
    go_enter Try.func20, Try.ntmps20
    go_wp2_with fail
    refine (ballError_any ao S cap hn 0 r _ (hS.below B0)).mono ?_
    rintro e w1 ⟨rfl, hb⟩
    go_wp2_with fail
    go_ret2
    exact ⟨by rw [HV.out]; try rfl, B0.trans (hb.mono B0.size)⟩

end Go.Proofs.Ytlhapanfegjafaa

namespace Go.Proofs.Ytlhapanfegjafaa
open Go.RowKit Cv
set_option linter.unusedVariables false
set_option linter.unusedSimpArgs false
set_option maxRecDepth 100000

set_option maxHeartbeats 1000000 in
theorem impl_BallBound (ao : Option Addr) (S : List Int) (cap : Nat) (hn : S.length ≤ 4294967296) (r : Int) (hr : -9223372036854775808 ≤ r ∧ r ≤ 9223372036854775807) (w : World) (hS : Ints w ao S) :
    Calls Try.prog 18 #[.agg #[.slice ao S.length cap], .int .i64 r] w fun e w' => e = .returned (.tuple #[.int .i64 (vBB S r), .int .i64 (eNum S r 0 8)]) ∧ Below w.heap.size w w' := by
  have B0 : Below w.heap.size w (w.alloc (.cells #[.slice ao S.length cap] 26)) := by go_grown
  have HEB := Lib.hid (eBall_num S r)
  by_cases he : eNum S r 0 8 = 0
  · obtain ⟨hSp, r0, r8⟩ := eNum_zero he
    have HSp := Lib.hid hSp
    have hen : (eNum S r 0 8 != 0) = false := by simp [he]
    have HE := Lib.hid he
    have HV : Hid (vBB S r = (nW S + sizeN S r - 1) / sizeN S r) := Lib.hid (by unfold vBB; rw [if_pos he])
    have HZ : Hid (vSize S r = sizeN S r) := Lib.hid (by unfold vSize; rw [if_pos (by rw [eBall_num]; exact he)])
    obtain ⟨N1, N2⟩ := nW_bd hSp
    obtain ⟨Z1, Z2⟩ := size_bd hSp r r0 r8
    clear he hSp
    go_enter Try.func18, Try.ntmps18
    go_wp2_with fail
    refine (impl_BallSize ao S cap hn r hr _ (hS.below B0)).mono ?_
    rintro e w1 ⟨rfl, hb⟩
    rw [HEB.out, HZ.out]
    have c1 := kept_cell hb (cell_new w (.slice ao S.length cap) 26) (lt_alloc _ _)
    have B1 : Below w.heap.size w w1 := B0.trans (hb.mono B0.size)
    have E1 : IntKind.i64.wrap (nW S + sizeN S r) = nW S + sizeN S r := IntWalk.i64_in _ ⟨by omega, by omega⟩
    have E2 : IntKind.i64.wrap (nW S + sizeN S r - 1) = nW S + sizeN S r - 1 := IntWalk.i64_in _ ⟨by omega, by omega⟩
    have q0 : 0 ≤ (nW S + sizeN S r - 1) / sizeN S r := Int.ediv_nonneg (by omega) (by omega)
    have q1 : (nW S + sizeN S r - 1) / sizeN S r ≤ nW S + sizeN S r - 1 := Int.ediv_le_self _ (by omega)
    have E3 : IntKind.i64.wrap ((nW S + sizeN S r - 1) / sizeN S r) = (nW S + sizeN S r - 1) / sizeN S r := IntWalk.i64_in _ ⟨by omega, by omega⟩
    have E4 : (nW S + sizeN S r - 1).tdiv (sizeN S r) = (nW S + sizeN S r - 1) / sizeN S r := Int.tdiv_eq_ediv_of_nonneg (by omega)
    have hz : (sizeN S r == 0) = false := by simp; omega
    have hz2 : ¬ sizeN S r = 0 := by omega
    clear hb B0 q0 q1
    go_wp2_with fail
    refine (wordCount_sp ao S cap _ HSp.out (hS.below B1)).mono ?_
    rintro e w3 ⟨rfl, hb3⟩
    go_wp2_with fail
    go_ret2
    exact ⟨by rw [HE.out, HV.out]; try rfl, B1.trans (hb3.mono B1.size)⟩
  · have hen : (eNum S r 0 8 != 0) = true := by simpa using he
    have HV : Hid (vBB S r = 0) := Lib.hid (by unfold vBB; rw [if_neg he])
    have HZ : Hid (vSize S r = 0) := Lib.hid (by unfold vSize; rw [if_neg (by rw [eBall_num]; exact he)])
    clear he
    go_enter Try.func18, Try.ntmps18
    go_wp2_with fail
    refine (impl_BallSize ao S cap hn r hr _ (hS.below B0)).mono ?_
    rintro e w1 ⟨rfl, hb⟩
    rw [HEB.out, HZ.out]
    go_wp2_with fail
    go_ret2
    exact ⟨by rw [HV.out]; try rfl, B0.trans (hb.mono B0.size)⟩

end Go.Proofs.Ytlhapanfegjafaa
