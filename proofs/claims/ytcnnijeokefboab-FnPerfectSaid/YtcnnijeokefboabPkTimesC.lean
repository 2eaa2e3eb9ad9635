/-
  The contract of the program's count of how often words are covered: a range over a function in a plain loop. By an AI agent.
-/
import Derived.Test.YtcnnijeokefboabPk32
import Derived.Test.YtcnnijeokefboabMath
import Derived.Test.YtcnnijeokefboabPk18
namespace Go.Proofs.Ytcnnijeokefboab
open Go.RowKit Go.Shelf Cv
set_option linter.unusedVariables false
set_option linter.unusedSimpArgs false
set_option maxRecDepth 100000

attribute [local go_sem] Oper.semAt_some

theorem wordCount_nat' (ao : Option Addr) (S : List Int) (cap : Nat) (N : Nat) (hN : Hid (nW S = (N : Int))) (w : World) (h : Sp S) (hS : Ints w ao S) :
    Calls Try.prog 63 #[.agg #[.slice ao S.length cap]] w fun e w' => e = .returned (.int .i64 (N : Int)) ∧ Below w.heap.size w w' := by
  rw [← hN.out]; exact wordCount_sp ao S cap w h hS

/-- 'make([]int64, n)' in a fence -/
theorem wpListIn_make_ints {F : Fence} {n : Nat} {w : World} {ops : Array Oper} {rest : List Oper} {o : Oper} {a : Act} {Q : Exit → Act → World → Prop} (hg : o.guard = none) (l : Operand) (ho : o.op = Op.makeSlice 24 l l)
    (base m : Nat) (hl : a.eval l = .int .i64 (m : Int)) (hm : m ≤ 16777216) (hb : base ≤ w.heap.size)
    (hK : ∀ w', OwnInts w' base (.slice (some ⟨w.heap.size, 0, none⟩) m m) (List.replicate m 0) → Below w.heap.size w w' → wpListIn F n Try.prog ops Q rest (a.put o.dst (.slice (some ⟨w.heap.size, 0, none⟩) m m)) w') : wpListIn F n Try.prog ops Q (o :: rest) a w := by
  obtain ⟨i0, hi, hz0, hz1, hz2⟩ := info_parts infoI64
  obtain ⟨w', hrun, r1, r2⟩ := run_make_full (P := Try.prog) w base 24 2 i0 (.int .i64 0) 1 Try.underlying24 hi hz0 hz1 .i64 .i64 m (by rw [hz2]; omega) (by unfold maxLen; omega) hb
  refine wpListIn_plain hg fun K hK' => ?_
  unfold Oper.wpIn
  refine ⟨by simp [Oper.about, ho], ?_⟩
  rw [Oper.semAt_plain F _ _ (by rw [ho]; intro c hc; cases hc)]
  simp only [execOp, ho, hl]
  simp [hrun, Result.andThen]
  exact hK' _ _ (hK w' (own_made r1) (below_grown0 r2))

theorem cntIn_snoc (L : List Int) (y u : Int) : cntIn (L ++ [y]) u (L.length + 1) = cntIn L u L.length + if y = u then 1 else 0 := by
  by_cases h : y = u
  · rw [cntIn_yes (by rw [gi_append_ge _ _ _ (Nat.le_refl _)]; simpa [gi] using h), cntIn_app _ _ _ _ (Nat.le_refl _), if_pos h]
  · rw [cntIn_no (by rw [gi_append_ge _ _ _ (Nat.le_refl _)]; simpa [gi] using h), cntIn_app _ _ _ _ (Nat.le_refl _), if_neg h, Int.add_zero]

theorem gi_seqB {S : List Int} {x r : Int} (pre : List (WP S x r)) (t : Nat) (h : t < pre.length) : gi (seqB pre) t = (pre[t]'h).1.1 := by
  unfold seqB
  rw [gi_lt _ _ (by simpa using h), List.getElem_map]
/-- each word of a list counted once more -/
def bumpAll (T L : List Int) : List Int := L.foldl bump T
theorem bumpAll_snoc (T L : List Int) (y : Int) : bumpAll T (L ++ [y]) = bump (bumpAll T L) y := by simp [bumpAll]
theorem bumpAll_len (T L : List Int) : (bumpAll T L).length = T.length := by
  induction L generalizing T with
  | nil => rfl
  | cons y L ih => show (bumpAll (bump T y) L).length = _; rw [ih, bump_len]
/-- of a list of words below N, cut at any place -/
theorem gi_bumpAll (T : List Int) (N : Nat) (hT : T.length = N) (L : List Int) (hL : ∀ t, t < L.length → 0 ≤ gi L t ∧ gi L t < N) (u : Nat) (hu : u < N) (j : Nat) (hj : j ≤ L.length) : gi (bumpAll T (L.take j)) u = gi T u + cntIn L u j := by
  induction j with
  | zero => simp [bumpAll, cntIn, cnt]
  | succ j ih =>
    rw [take_snoc _ _ (by omega), bumpAll_snoc]
    obtain ⟨y1, y2⟩ := hL j (by omega)
    have hlen : (bumpAll T (L.take j)).length = N := by rw [bumpAll_len, hT]
    unfold bump
    rw [gi_set _ _ _ _ (by rw [hlen]; omega)]
    by_cases e : u = (gi L j).toNat
    · rw [if_pos e, ← e, ih (by omega), cntIn_yes (by omega)]; omega
    · rw [if_neg e, ih (by omega), cntIn_no (by omega)]
theorem own_own {β : Type} (base : Nat) (v : Value) (L : β → List Int) : Own (fun (s : β) W => OwnInts W base v (L s)) := fun s A B row hs hg hr => by
  refine hs.kept hg ?_
  cases hv : v.ownBlock with
  | none => exact .inl rfl
  | some k =>
    refine .inr fun e => ?_
    obtain ⟨o, ho, hc⟩ := hr k e.symm
    rcases hs.2 with ⟨hn, _⟩ | ⟨g, cap, cur, hv2, hg2, hh, r⟩
    · rw [hn] at hv; cases hv
    · rw [hv2] at hv
      have e2 : g = k := by simpa [Value.ownBlock] using hv
      subst e2
      rw [hh] at ho
      injection ho with ho
      subst ho
      cases hc

/-- what holds between two rounds of the loop over the code's words -/
def TInv (S C : List Int) (r : Int) (N : Nat) (ao ac : Option Addr) (cap capc : Nat) (w W0 w1 w2 : World) (a : Act) (W : World) : Prop :=
  ∃ (k : Nat) (T : List Int) (ds : List Deferred) (u9 u17 u18 u19 u20 u21 u22 u23 u32 : Value), k ≤ C.length ∧ OwnInts W W0.heap.size (.slice (some ⟨w1.heap.size, 0, none⟩) N N) T ∧ Hid (T.length = N ∧ ∀ u : Nat, u < N → gi T u = tcov S C r u k) ∧
    Boxed W w2.heap.size 24 (.slice (some ⟨w1.heap.size, 0, none⟩) N N) ∧ Below W0.heap.size W0 W ∧ Marks W0.heap.size ds W ∧ w2.heap.size < W.heap.size ∧
    a = { tmps := #[.agg #[.slice ao S.length cap], .slice ac C.length capc, .int .i64 r, .pointer (some ⟨w.heap.size, 0, none⟩), undef, undef, .slice none 0 0, .pointer (some ⟨w2.heap.size, 0, none⟩), undef, u9, undef, .agg #[.slice ao S.length cap], .int .i64 (N : Int), .slice (some ⟨w1.heap.size, 0, none⟩) N N, .slice ac C.length capc, .int .i64 (C.length : Int), .int .i64 (k : Int), u17, u18, u19, u20, u21, u22, u23, undef, undef, undef, undef, undef, undef, undef, undef, u32, undef], defers := ds }
def TMes (C : List Int) (a : Act) (W : World) : Nat := C.length - (intOf (a.tmps.getD 16 undef)).toNat

set_option maxHeartbeats 4000000 in
theorem timesCovered_any (ao : Option Addr) (S : List Int) (cap : Nat) (hSp : Sp S) (ac : Option Addr) (C : List Int) (capc : Nat) (hlen : C.length ≤ 1048576) (hC0 : ∀ i, i < C.length → 0 ≤ gi C i ∧ gi C i ≤ 9223372036854775807) (r : Int) (hr0 : 0 ≤ r) (hr8 : r ≤ 8) (N : Nat) (hN : Hid (nW S = (N : Int))) (w : World) (hS : Ints w ao S) (hC : Ints w ac C) :
    Calls Try.prog 48 #[.agg #[.slice ao S.length cap], .slice ac C.length capc, .int .i64 r] w fun e w' =>
      ∃ q, e = .returned (.slice (some ⟨q, 0, none⟩) N N) ∧ OwnInts w' w.heap.size (.slice (some ⟨q, 0, none⟩) N N) (timesL S C r) ∧ Below w.heap.size w w' := by
  obtain ⟨i0, hi, hz0, hz1, hz2⟩ := info_parts infoI64
  have N2 : N ≤ 1024 := by have := (nW_bd hSp).2; have := hN.out; omega
  have HNN : Hid ((nW S).toNat = N) := Lib.hid (by have := hN.out; omega)
  have HSp := Lib.hid hSp
  have HC0 := Lib.hid hC0
  clear hSp hC0
  obtain ⟨W0, hW0⟩ : ∃ W0, W0 = w.alloc (.cells #[.slice ao S.length cap] 26) := ⟨_, rfl⟩
  have B0 : Below w.heap.size w W0 := by rw [hW0]; go_grown
  have hlt0 : w.heap.size < W0.heap.size := by rw [hW0]; simp
  have C0 : W0.cell? ⟨w.heap.size, 0, none⟩ = some (.slice ao S.length cap) := by rw [hW0]; exact cell_new _ _ _
  have HW0 := Lib.hid hW0
  clear hW0
  refine (callsIn_wide (n := 6)).1 ?_
  refine callsIn_of_wp_marks Try.func48 rfl trivial ?_ rfl
  simp only [Try.ntmps48, List.size_toArray, List.length_cons, List.length_nil, Nat.reduceAdd, Nat.reduceSub, Array.replicate_succ, Array.replicate_zero, List.push_toArray, List.append_toArray, List.nil_append, List.cons_append]
  gi_wp2_with fail
  rw [← HW0.out]
  gi_wp2_with (first
    | (refine ⟨trivial, ?_⟩; gi_at_call 63; refine (callsIn_wide.2 (wordCount_nat' ao S cap N hN _ HSp.out (hS.below B0))).mono ?_; rintro e w1 ⟨rfl, B1⟩)
    | (gi_at_make; refine wpListIn_make_ints rfl _ rfl W0.heap.size N rfl (by omega) B1.size ?_; intro w2 hown hb2)
    | fail)
  have s1 := B1.size
  have s2 := hb2.size
  have g1 := hown.base_le
  have bO := Boxed.new w2 24 (.slice (some ⟨w1.heap.size, 0, none⟩) N N)
  have B2 : Below W0.heap.size W0 (w2.alloc (.cells #[.slice (some ⟨w1.heap.size, 0, none⟩) N N] 24)) := (B1.trans (hb2.mono B1.size)).alloc (by omega) _
  refine wpIn_loop (TInv S C r N ao ac cap capc w W0 w1 w2) (TMes C) ?start ?round
  case start =>
    exact ⟨0, _, [], _, _, _, _, _, _, _, _, _, Nat.zero_le _, hown.alloc _, Lib.hid ⟨by simp, fun u h => by rw [gi_rep0]; rfl⟩, bO, B2, trivial, lt_alloc _ _, rfl⟩
  case round =>
    clear hown bO B2
    rintro a wr ⟨k, T, ds, u9, u17, u18, u19, u20, u21, u22, u23, u32, hk, own, HT, hv, B, hmk, hlw, rfl⟩
    have cs := kept_cell B C0 hlt0
    by_cases hlt : k < C.length
    · obtain ⟨b, o, rfl, hbl, hc⟩ := hC.at hlt
      have hck : wr.cell? ⟨b, o + k, none⟩ = some (.int .i64 (gi C k)) := kept_cell (B0.trans (B.mono B0.size)) (hc k hlt) hbl
      obtain ⟨x1, x2⟩ := HC0.out k hlt
      clear hc
      gi_wp2_with (first
        | (refine ⟨trivial, ?_⟩; gi_at_call 73; refine (callsIn_wide.2 (wordsWithin_any ao S cap HSp.out (gi C k) x1 x2 r _ (hS.below (B0.trans (B.mono B0.size))))).mono ?_; rintro e w3 ⟨Bb, g, rfl, lB, hB, hM, hBg, hBlo, hb3⟩)
        | fail)
      have s3 := hb3.size
      have g3 := hM.base_le
      have hv3 : Boxed w3 w2.heap.size 24 (.slice (some ⟨w1.heap.size, 0, none⟩) N N) := (hb3.block _ hv.lt).trans hv
      have own3 := own.below hb3
      have B3 : Below W0.heap.size W0 w3 := B.trans (hb3.mono B.size)
      have hmk3 : Marks W0.heap.size ds w3 := hmk.keep fun r _ hh _ => (hb3.block r (Array.getElem?_eq_some_iff.1 hh).1).trans hh
      have hmkb := hmk3.bound
      obtain ⟨D, hG, hD⟩ := own_heap hM
      have hD' : ∀ i, i < S.length → D[i]? = some (.int .i64 (dig S (gi C k) i)) := fun i hi => by rw [hD i (by rw [digs_length]; exact hi), gi_digs _ _ _ hi]
      have hNl : (ballP S (gi C k) r).length ≤ 1024 := by
        have := walkL_len S HSp.out.bd (gi C k) r S.length (Nat.le_refl _) 0 0 hr0
        rw [walk_ball S HSp.out.bd (gi C k) r hr0, restP_all, HNN.out] at this; omega
      have hwl := own.base_le
      have HTB : Hid (∀ (pre : List (WP S (gi C k) r)) (u : Nat), u < N → 0 ≤ gi (bumpAll T (seqB pre)) u ∧ gi (bumpAll T (seqB pre)) u ≤ 1048576 + pre.length) := Lib.hid fun pre u hu => by
        have h1 := gi_bumpAll T N HT.out.1 (seqB pre) (fun t ht => by
          have hlen : (seqB pre).length = pre.length := by simp [seqB]
          have htp : t < pre.length := by omega
          have e : gi (seqB pre) t = (pre[t]'htp).1.1 := gi_seqB pre t htp
          rw [e]
          have := (pre[t]'htp).2.1
          have hn := hN.out
          omega) u hu (seqB pre).length (Nat.le_refl _)
        rw [List.take_length] at h1
        have h2 := cntIn_bd (seqB pre) u (seqB pre).length
        have h3 := tcov_bd S C r u k
        have hlen : (seqB pre).length = pre.length := by simp [seqB]
        rw [h1, HT.out.2 u hu]; omega
      have HTl := Lib.hid HT.out.1
      clear hb3 hmk hv own B hck cs
      refine wpIn_rangeFunc_ownG rfl (by omega) (gf := 84) (lb := #[.pointer (some ⟨Bb, 0, none⟩)]) rfl trivial (enters_of Try.func84 (by kernel_rfl) rfl)
        (all_stops Fence.wide rfl trivial trivial rfl (6 - 1) S HSp.out (gi C k) r hr0 hr8 ao cap Bb g D W0 w3 B3 hB (hS.below B0) hG hD') kpB_t (kpB_b B3.size) (Below.refl _ _) (fun _ => rfl)
        (fun (pre : List (WP S (gi C k) r)) W => OwnInts W W0.heap.size (.slice (some ⟨w1.heap.size, 0, none⟩) N N) (bumpAll T (seqB pre)) ∧ Boxed W w2.heap.size 24 (.slice (some ⟨w1.heap.size, 0, none⟩) N N) ∧ (Below W0.heap.size W0 W ∧ w3.heap.size ≤ W.heap.size) ∧ Marks W0.heap.size ds W)
        (fun _ _ _ => False)
        (OwnFrom.and (Own.from (own_own W0.heap.size (.slice (some ⟨w1.heap.size, 0, none⟩) N N) (fun pre : List (WP S (gi C k) r) => bumpAll T (seqB pre))) _) (OwnFrom.and (Own.from (boxed_own w2.heap.size 24 (fun _ : List (WP S (gi C k) r) => .slice (some ⟨w1.heap.size, 0, none⟩) N N)) _) (OwnFrom.and (OwnFrom.and (ownFrom_below (Nat.le_refl _) B3.size) (fun _ _ _ _ hs hg _ => Nat.le_trans hs hg.size)) (fun _ _ _ _ hs hg hr => hs.old hmkb hg (fun r e => (hr r e).1)))))
        (fun _ _ _ _ _ hs _ _ => hs)
        ⟨own3, hv3, ⟨B3, Nat.le_refl _⟩, hmk3⟩
        (fun p => { tmps := #[.agg #[.slice ao S.length cap], .slice (some ⟨b, o, none⟩) C.length capc, .int .i64 r, .pointer (some ⟨w.heap.size, 0, none⟩), undef, undef, .slice none 0 0, .pointer (some ⟨w2.heap.size, 0, none⟩), undef, .int .i64 (gi C k), .int .i64 p.1.1, .agg #[.slice ao S.length cap], .int .i64 (N : Int), .slice (some ⟨w1.heap.size, 0, none⟩) N N, .slice (some ⟨b, o, none⟩) C.length capc, .int .i64 (C.length : Int), .int .i64 (k : Int), .bool true, .pointer (some ⟨b, o + k, none⟩), .int .i64 (gi C k), .agg #[.slice ao S.length cap], .int .i64 (gi C k), .int .i64 r, .func (.func 84) #[] #[.pointer (some ⟨Bb, 0, none⟩)], .int .i64 p.1.1, .int .i64 p.1.2, undef, undef, undef, undef, undef, undef, u32, undef], defers := [] }) ?assign ?body ?done ?stop
      case assign =>
        intro l p W K hK
        dsimp only [encW]
        gi_wp2
        exact hK
      case body =>
        rintro l pre p W ⟨own, hv, ⟨hB', hsz⟩, hmk⟩ hlt'
        have hc := hv.cell
        obtain ⟨u, hu⟩ : ∃ u : Nat, p.1.1 = (u : Int) := ⟨p.1.1.toNat, by have := p.2.1.1; omega⟩
        have hun : u < N := by have := p.2.1.2; have := hN.out; omega
        have hcell := own.cell (k := u) (by rw [bumpAll_len, HTl.out]; exact hun)
        have hfree := own.free u
        obtain ⟨t1, t2⟩ := HTB.out pre u hun
        obtain ⟨Dw, hGw, _⟩ := own_heap own
        have hgn : g ≠ w1.heap.size := by omega
        have HU := Lib.hid hu
        have HST := Lib.hid (own.stored u (gi (bumpAll T (seqB pre)) u + 1))
        have huI : (u : Int) < (N : Int) := by omega
        rw [hu]
        clear hu
        gi_wp2
        refine ⟨(KeepsOthers.setCell _ _ _).from _, ⟨(Below.refl _ W).setCell (by simp; omega) _, keepsT_set hGw (by decide), KeepsAt.set hgn⟩, ?_, (Below.heap_setCell _ _ _ _ (fun e => by have e' : w2.heap.size = w1.heap.size := e; omega)).trans hv, ⟨hB'.setCell (by simp; omega) _, by simpa using hsz⟩, hmk.others ((KeepsOthers.setCell _ _ _).from _)⟩
        rw [seqB_snoc, bumpAll_snoc, HU.out]
        exact HST.out
      case done =>
        rintro Dd ys W hDd HY ⟨own, hv, ⟨hB', hsz⟩, hmk⟩ hK
        have hmk' := hmk.cons (D := Dd) (by have := B3.size; omega) hK (fun d hd r hr => Nat.lt_of_lt_of_le (hmkb d hd r hr) hDd)
        have HTN : Hid ((bumpAll T (seqB ys)).length = N ∧ ∀ u : Nat, u < N → gi (bumpAll T (seqB ys)) u = tcov S C r u (k + 1)) := Lib.hid (by
          have hL : seqB ys = ballW S (gi C k) r := by unfold seqB; rw [← ballW_P, ← HY.out, List.map_map]; rfl
          refine ⟨by rw [bumpAll_len, HTl.out], fun u hu => ?_⟩
          have h1 := gi_bumpAll T N HTl.out (ballW S (gi C k) r) (fun t ht => by
            have h1 : 0 ≤ gi (ballW S (gi C k) r) t ∧ gi (ballW S (gi C k) r) t < ((nW S).toNat : Nat) := selTo_bd _ _ t ht
            have h2 := HNN.out
            omega) u hu (ballW S (gi C k) r).length (Nat.le_refl _)
          rw [List.take_length] at h1
          rw [hL, h1, HT.out.2 u hu, ← tcov_ball S C r u k (by rw [HNN.out]; exact hu)])
        gi_wp2
        refine ⟨⟨k + 1, _, _, _, _, _, _, _, _, _, _, _, by omega, own, HTN, hv, hB', hmk', by omega, rfl⟩, ?_⟩
        simp [TMes, intOf]; omega
      case stop =>
        rintro Dd c pre W _ _ h _
        exact h.elim
    · have ek : k = C.length := by omega
      have hc := hv.cell
      gi_wp2
      refine leaves_marks ds wr hmk (Taken.refl _ _) B.size fun W' ht => ⟨_, results_tmp rfl _ _ _, w1.heap.size, rfl, ?_, B0.trans ((B.trans ht.below).mono B0.size)⟩
      have e : T = timesL S C r := ext_gi (by rw [HT.out.1, timesL_len, HNN.out]) fun i hi => by rw [HT.out.1] at hi; rw [HT.out.2 i hi, gi_timesL _ _ _ _ (by rw [HNN.out]; exact hi), ek]
      rw [← e]
      exact (ht.own own).rebase B0.size

end Go.Proofs.Ytcnnijeokefboab
