/-
  The closure over the balls of a list of words: what it yields. By an AI agent.
-/
import Derived.Test.YtamebfbddoeflaaPk47
import Derived.Test.YtamebfbddoeflaaPkSet
import Derived.Test.YtamebfbddoeflaaPkSums2
import Derived.Test.YtamebfbddoeflaaPkMath
namespace Go.Proofs.Ytamebfbddoeflaa
open Go.RowKit Go.Shelf Cv
set_option linter.unusedVariables false
set_option linter.unusedSimpArgs false
set_option maxRecDepth 100000

attribute [local go_sem] Oper.semAt_some

/-- a load, a store of a set in a fence -/
theorem wpListIn_ld16 {F : Fence} {n : Nat} {ops : Array Oper} {rest : List Oper} {o : Oper} {a : Act} {w : World} {Q : Exit → Act → World → Prop} (hgd : o.guard = none) (x : Operand) (ho : o.op = .load 58 x) {b : Nat} {p : Nat → Bool}
    (hr : RowAt w b p) (hx : a.eval x = .pointer (some ⟨b, 0, none⟩)) (h : wpListIn F n Try.prog ops Q rest (a.put o.dst (.agg (setA p))) w) : wpListIn F n Try.prog ops Q (o :: rest) a w := by
  refine wpListIn_plain hgd fun K hK => ?_
  unfold Oper.wpIn
  refine ⟨by simp [Oper.about, ho], ?_⟩
  rw [Oper.semAt_plain F _ _ (by rw [ho]; intro c hc; cases hc)]
  unfold execOp
  simp only [ho, hx, Instr.loadAt, Instr.sureAddr, Sem.run_bind, Sem.run_pure, Result.andThen_ok, ldVar hr]
  exact hK _ _ h
theorem wpListIn_st16 {F : Fence} {n : Nat} {ops : Array Oper} {rest : List Oper} {o : Oper} {a : Act} {w : World} {Q : Exit → Act → World → Prop} (hgd : o.guard = none) (x y : Operand) (ho : o.op = .store 58 x y) {b : Nat} {p : Nat → Bool}
    (hr : RowAt w b p) (q : Nat → Bool) (hx : a.eval x = .pointer (some ⟨b, 0, none⟩)) (hy : a.eval y = .agg (setA q)) (h : wpListIn F n Try.prog ops Q rest (a.put o.dst undef) (w.setRow b (setA q))) : wpListIn F n Try.prog ops Q (o :: rest) a w := by
  refine wpListIn_plain hgd fun K hK => ?_
  unfold Oper.wpIn
  refine ⟨by simp [Oper.about, ho], ?_⟩
  rw [Oper.semAt_plain F _ _ (by rw [ho]; intro c hc; cases hc)]
  unfold execOp
  simp only [ho, hx, hy, Instr.storeAt, Instr.sureAddr, Sem.run_bind, Sem.run_pure, Result.andThen_ok, stVar (q := q) hr]
  exact hK _ _ h

/-- the words of a ball, as a set -/
def ballN (S : List Int) (r c : Int) : Nat → Bool := inL (ballW S c r)
def encP (p : Nat → Bool) : Array Value := #[.agg (setA p)]
theorem keepsT_row {t : TypeId} {W W' : World} {b : Nat} {p : Nat → Bool} (h : RowAt W b p) (hne : 58 ≠ t) (hg : W.grownBy W' (some b)) : KeepsT t W W' := fun i cur hi => by
  rw [hg.block i (Array.getElem?_eq_some_iff.1 hi).1 (fun e => ?_)]
  · exact hi
  · have e' : i = b := by simpa using e
    subst e'
    have h' : W.heap[i]? = some (.cells (setA p) 58 (0, 0)) := h
    rw [hi] at h'
    injection h' with h'
    injection h' with _ h' _
    exact hne h'.symm
theorem row_own {β : Type} (b : Nat) (f : β → Nat → Bool) : Own (fun (s : β) W => RowAt W b (f s)) := fun s A B row hs hg hr => by
  show B.heap[b]? = _
  rw [hg.block b (RowAt.lt hs) (fun e => ?_)]
  · exact hs
  · obtain ⟨o, ho, hc⟩ := hr b e.symm
    have hs' : A.heap[b]? = some (.cells (setA (f s)) 58 (0, 0)) := hs
    rw [hs'] at ho
    injection ho with ho
    subst ho
    cases hc

theorem setTo_app (L M : List Int) (k : Nat) (h : k ≤ L.length) : setTo (L ++ M) k = setTo L k := by
  induction k with
  | zero => rfl
  | succ k ih => rw [setTo, setTo, ih (by omega), gi_append_lt _ _ _ (by omega)]
theorem results_none {fn : Func} (h : fn.results = #[]) (tmps : Array Value) (w : World) : (results fn tmps).run Try.prog w = .ok (.tuple #[]) w := by simp [results, h, go_sem]
/-- what a round of a loop over the balls keeps -/
def KpC (n₀ wb sb rb : Nat) (W W' : World) : Prop := Below n₀ W W' ∧ KeepsAt wb W W' ∧ KeepsAt sb W W' ∧ KeepsAt rb W W'
theorem kpC_t {n₀ wb sb rb : Nat} {A B C : World} (h : KpC n₀ wb sb rb A B) (k : KpC n₀ wb sb rb B C) : KpC n₀ wb sb rb A C := ⟨h.1.trans k.1, h.2.1.trans k.2.1, h.2.2.1.trans k.2.2.1, h.2.2.2.trans k.2.2.2⟩
/-- what holds between two rounds of the loop over the words -/
def BInv (S C : List Int) (r : Int) (ao ac : Option Addr) (cap capc l wb sb rb : Nat) (J : List (Nat → Bool) → World → Prop) (w0 Wst : World) (a : Act) (W : World) : Prop :=
  ∃ (k : Nat) (ds : List Deferred) (u4 u5 u6 u7 u8 u12 u13 u14 u15 u16 u17 u18 u19 u20 u21 u22 u23 u24 u25 u26 u27 u28 : Value), k ≤ C.length ∧ J ((C.take k).map (ballN S r)) W ∧ Below w0.heap.size w0 W ∧ Marks Wst.heap.size ds W ∧ Wst.heap.size ≤ W.heap.size ∧ (W.heap[wb]? = some (.cells #[.slice ac C.length capc] 24 (0, 0)) ∧ W.heap[sb]? = some (.cells #[.slice ao S.length cap] 26 (0, 0)) ∧ W.heap[rb]? = some (.cells #[.int .i64 r] 2 (0, 0))) ∧
    a = { tmps := #[.func (.yield l) #[] #[], .pointer (some ⟨wb, 0, none⟩), .pointer (some ⟨sb, 0, none⟩), .pointer (some ⟨rb, 0, none⟩), u4, u5, u6, u7, u8, .slice ac C.length capc, .int .i64 (C.length : Int), .int .i64 (k : Int), u12, u13, u14, u15, u16, u17, u18, u19, u20, u21, u22, u23, u24, u25, u26, u27, u28], defers := ds }
def BMes (C : List Int) (a : Act) (W : World) : Nat := C.length - (intOf (a.tmps.getD 11 undef)).toNat

set_option maxHeartbeats 4000000 in
theorem balls_gives (n : Nat) (hn1 : 1 ≤ n) (S : List Int) (hSp : Sp S) (ao : Option Addr) (cap : Nat) (ac : Option Addr) (C : List Int) (capc : Nat) (hlen : C.length ≤ 1048576) (hC0 : ∀ i, i < C.length → 0 ≤ gi C i ∧ gi C i ≤ 9223372036854775807) (r : Int) (hr0 : 0 ≤ r) (hr8 : r ≤ 8) (wb sb rb : Nat) (w0 w1 : World) (hw01 : Below w0.heap.size w0 w1) (hS : Ints w0 ao S) (hC : Ints w0 ac C)
    (hwb : w1.heap[wb]? = some (.cells #[.slice ac C.length capc] 24 (0, 0))) (hsb : w1.heap[sb]? = some (.cells #[.slice ao S.length cap] 26 (0, 0))) (hrb : w1.heap[rb]? = some (.cells #[.int .i64 r] 2 (0, 0))) :
    Gives0 Fence.wide n Try.prog 81 #[.pointer (some ⟨wb, 0, none⟩), .pointer (some ⟨sb, 0, none⟩), .pointer (some ⟨rb, 0, none⟩)] encP (KpC w0.heap.size wb sb rb) (fun ys => ys = C.map (ballN S r)) C.length w1 := fun l J Wst hW hJ hY h0 => by
  obtain ⟨N, hN⟩ : ∃ N : Nat, nW S = (N : Int) := ⟨(nW S).toNat, by have := nW_bd hSp; omega⟩
  have HN := Lib.hid hN
  have N2 : N ≤ 1024 := by have := (nW_bd hSp).2; omega
  have HNN : Hid ((nW S).toNat = N) := Lib.hid (by omega)
  have HSp := Lib.hid hSp
  have HC0 := Lib.hid hC0
  replace hwb := (hW.block wb (Array.getElem?_eq_some_iff.1 hwb).1).trans hwb
  replace hsb := (hW.block sb (Array.getElem?_eq_some_iff.1 hsb).1).trans hsb
  replace hrb := (hW.block rb (Array.getElem?_eq_some_iff.1 hrb).1).trans hrb
  replace hW := hw01.trans (hW.mono hw01.size)
  have c1 := cell_of_heap hwb
  have HBX := Lib.hid (And.intro hwb (And.intro hsb hrb))
  clear hwb hsb hrb hSp hC0 hN
  have hdd : ∀ k : Nat, (Fence.wide.depth.isSome = true → 1 ≤ k) := fun k h => by cases (show (none : Option Nat).isSome = true from h)
  refine callsIn_of_wp_marks Try.func81 rfl trivial ?_ rfl
  simp only [Try.ntmps81, List.size_toArray, List.length_cons, List.length_nil, Nat.reduceAdd, Nat.reduceSub, Array.replicate_succ, Array.replicate_zero, List.push_toArray, List.append_toArray, List.nil_append, List.cons_append]
  gi_wp2_with fail
  refine wpIn_loop (BInv S C r ao ac cap capc l wb sb rb J w0 Wst) (BMes C) ?start ?round
  case start =>
    exact ⟨0, [], _, _, _, _, _, _, _, _, _, _, _, _, _, _, _, _, _, _, _, _, _, _, Nat.zero_le _, h0, hW, trivial, Nat.le_refl _, HBX.out, rfl⟩
  case round =>
    clear c1
    rintro a wr ⟨k, ds, u4, u5, u6, u7, u8, u12, u13, u14, u15, u16, u17, u18, u19, u20, u21, u22, u23, u24, u25, u26, u27, u28, hk, hj, B, hmk, hsz, ⟨hwb, hsb, hrb⟩, rfl⟩
    by_cases hlt : k < C.length
    · obtain ⟨b, o, rfl, hbl, hc⟩ := hC.at hlt
      have hck : wr.cell? ⟨b, o + k, none⟩ = some (.int .i64 (gi C k)) := kept_cell B (hc k hlt) hbl
      obtain ⟨x1, x2⟩ := HC0.out k hlt
      clear hc
      have hz0 := rowz_new wr rfl
      have HBX := Lib.hid (And.intro hwb (And.intro hsb hrb))
      have cs : ∀ o', (wr.alloc o').cell? ⟨sb, 0, none⟩ = some (.slice ao S.length cap) := fun o' => cell_of_heap ((Below.heap_alloc wr o' sb (Array.getElem?_eq_some_iff.1 hsb).1).trans hsb)
      have cr : ∀ o', (wr.alloc o').cell? ⟨rb, 0, none⟩ = some (.int .i64 r) := fun o' => cell_of_heap ((Below.heap_alloc wr o' rb (Array.getElem?_eq_some_iff.1 hrb).1).trans hrb)
      clear hwb hsb hrb
      gi_wp2_with (first
        | (refine ⟨trivial, ?_⟩; gi_at_call 82; refine (callsIn_wide.2 (wordsWithin_any ao S cap HSp.out (gi C k) x1 x2 r _ (hS.below (B.alloc (by have := B.size; omega) _)))).mono ?_; rintro e w3 ⟨Bb, g, rfl, lB, hB, hM, hBg, hBlo, hb3⟩)
        | fail)
      have s0 := B.size
      have s3 := hb3.size
      simp only [World.size_alloc] at s3
      have g3 := hM.base_le
      rw [World.size_alloc] at g3
      have row3 : RowAt w3 wr.heap.size (fun _ => false) := hz0.below hb3 (by simp)
      have b03 : Below wr.heap.size wr w3 := Below.trans ((Below.refl _ wr).alloc (Nat.le_refl _) _) (hb3.mono (by simp))
      have B3 : Below w0.heap.size w0 w3 := B.trans (b03.mono s0)
      have s03 := b03.size
      obtain ⟨D, hG, hD⟩ := own_heap hM
      have hD' : ∀ i, i < S.length → D[i]? = some (.int .i64 (dig S (gi C k) i)) := fun i hi => by rw [hD i (by rw [digs_length]; exact hi), gi_digs _ _ _ hi]
      have hgn : g ≠ wr.heap.size := by omega
      clear hb3 cs cr hz0 hck
      refine wpIn_rangeFunc_ownG rfl hn1 (gf := 87) (lb := #[.pointer (some ⟨Bb, 0, none⟩)]) rfl trivial (enters_of Try.func87 (by kernel_rfl) rfl)
        (all_stops Fence.wide rfl trivial trivial rfl (n - 1) S HSp.out (gi C k) r hr0 hr8 ao cap Bb g D w0 w3 B3 hB hS hG hD') kpB_t (kpB_b B3.size) (Below.refl _ _) (fun _ => rfl)
        (fun (pre : List (WP S (gi C k) r)) W => RowAt W wr.heap.size (setTo (seqB pre) pre.length) ∧ (Below wr.heap.size wr W ∧ w3.heap.size ≤ W.heap.size))
        (fun _ _ _ => False)
        (OwnFrom.and (Own.from (row_own wr.heap.size (fun pre : List (WP S (gi C k) r) => setTo (seqB pre) pre.length)) _) (OwnFrom.and (ownFrom_below (by omega) (by omega)) (fun _ _ _ _ hs hg _ => Nat.le_trans hs hg.size)))
        (fun _ _ _ _ _ hs _ _ => hs)
        ⟨row3, b03, Nat.le_refl _⟩
        (fun p => { tmps := #[.func (.yield l) #[] #[], .pointer (some ⟨wb, 0, none⟩), .pointer (some ⟨sb, 0, none⟩), .pointer (some ⟨rb, 0, none⟩), u4, u5, .int .i64 (gi C k), .pointer (some ⟨wr.heap.size, 0, none⟩), .int .i64 p.1.1, .slice (some ⟨b, o, none⟩) C.length capc, .int .i64 (C.length : Int), .int .i64 (k : Int), .bool true, .pointer (some ⟨b, o + k, none⟩), .int .i64 (gi C k), .agg #[.int .u64 0, .int .u64 0, .int .u64 0, .int .u64 0, .int .u64 0, .int .u64 0, .int .u64 0, .int .u64 0, .int .u64 0, .int .u64 0, .int .u64 0, .int .u64 0, .int .u64 0, .int .u64 0, .int .u64 0, .int .u64 0], .agg #[.slice ao S.length cap], .int .i64 (gi C k), .int .i64 r, .func (.func 87) #[] #[.pointer (some ⟨Bb, 0, none⟩)], .int .i64 p.1.1, .int .i64 p.1.2, u22, u23, u24, u25, u26, u27, u28], defers := [] }) ?assign ?body ?done ?stop
      case assign =>
        intro l p W K hK
        dsimp only [encW]
        gi_wp2
        exact hK
      case body =>
        rintro l' pre p W ⟨hrow, hB', hsz'⟩ hlt'
        obtain ⟨u, hu⟩ : ∃ u : Nat, p.1.1 = (u : Int) := ⟨p.1.1.toNat, by have := p.2.1.1; omega⟩
        have hun : u < 1024 := by have := p.2.1.2; have := HN.out; omega
        have HU := Lib.hid hu
        have hdd2 : ∀ k : Nat, ((Fence.wide.inRound l').depth.isSome = true → 1 ≤ k) := fun k h => by cases (show (none : Option Nat).isSome = true from h)
        have hfp : (Fence.wide.inRound l').fn 61 := trivial
        rw [hu]
        clear hu
        gi_wp2_with (first
          | (refine ⟨hfp, hdd2 _, ?_⟩; gi_at_call 61; refine (CallsIn.inRound l' (callsIn_wide.2 (put_any wr.heap.size _ u hun W hrow))).mono ?_; rintro e w4 ⟨rfl, hrow4, hg4⟩)
          | fail)
        have hb4 : Below wr.heap.size wr w4 := hB'.grown hg4 hB'.size (fun j e => by cases e; omega)
        refine ⟨KeepsFrom.of_grownBy hg4 (fun j e => by cases e; omega), ⟨(Below.refl _ W).grown hg4 (by omega) (fun j e => by cases e; omega), keepsT_row hrow (by decide) hg4, KeepsAt.of_grown hg4 (by simp; omega)⟩, ?_, hb4, Nat.le_trans hsz' hg4.size⟩
        have e : setTo (seqB (pre ++ [p])) (pre ++ [p]).length = putB (setTo (seqB pre) pre.length) u := by
          rw [List.length_append, List.length_cons, List.length_nil, setTo]
          have e1 : gi (seqB (pre ++ [p])) pre.length = (u : Int) := by
            have hsl : (seqB pre).length = pre.length := by simp [seqB]
            rw [seqB_snoc, gi_append_ge _ _ _ (by omega), hsl, Nat.sub_self, HU.out]; rfl
          have e2 : setTo (seqB (pre ++ [p])) pre.length = setTo (seqB pre) pre.length := by
            rw [seqB_snoc]; exact setTo_app _ _ _ (by simp [seqB])
          rw [e1, e2]; simp
        rw [e]; exact hrow4
      case done =>
        rintro Dd ys W hDd HY ⟨hrow, hB', hsz'⟩ hK
        have HB : Hid (RowAt W wr.heap.size (ballN S r (gi C k))) := Lib.hid (by
          have hL : seqB ys = ballW S (gi C k) r := by unfold seqB; rw [← ballW_P, ← HY.out, List.map_map]; rfl
          have hl : ys.length = (seqB ys).length := by simp [seqB]
          rw [hl, hL] at hrow
          unfold RowAt at hrow ⊢
          rw [hrow]
          have e := setA_ext (p := setTo (ballW S (gi C k) r) (ballW S (gi C k) r).length) (q := ballN S r (gi C k)) (fun u _ => setTo_all (ballW S (gi C k) r) (fun i hi => (selTo_bd _ _ i hi).1) u)
          rw [e])
        have hj' : J ((C.take k).map (ballN S r)) W := hJ _ _ _ none hj ⟨hB'.os, hB'.tape, hB'.output, hB'.size, fun j hj' _ => hB'.block j hj'⟩ (fun r e => by cases e)
        have hmk' : Marks Wst.heap.size ({ target := .collected Dd, args := #[] } :: ds) W := (hmk.keep fun r _ hh _ => (hB'.block r (Array.getElem?_eq_some_iff.1 hh).1).trans hh).cons (by omega) hK (fun d hd r hr => by have := hmk.bound d hd r hr; omega)
        clear hrow
        have hrow := HB.out
        obtain ⟨fn, tmps, assign, body, hy, hR⟩ := hY ((C.take k).map (ballN S r)) (ballN S r (gi C k)) W hj' (by simp; omega)
        simp only [encP] at hy
        clear hj' hj hmk
        gi_wp2_with (first | (refine wpListIn_ld16 rfl _ rfl hrow rfl ?_) | fail)
        refine hR.mono ?_
        rintro e W' ⟨rfl, hJ', ⟨hb', hq1, hq2, hq3⟩, hk'⟩
        have HB3 := Lib.hid (And.intro (hq1 _ _ ((hB'.block wb (Array.getElem?_eq_some_iff.1 HBX.out.1).1).trans HBX.out.1)) (And.intro (hq2 _ _ ((hB'.block sb (Array.getElem?_eq_some_iff.1 HBX.out.2.1).1).trans HBX.out.2.1)) (hq3 _ _ ((hB'.block rb (Array.getElem?_eq_some_iff.1 HBX.out.2.2).1).trans HBX.out.2.2))))
        clear hq1 hq2 hq3
        have hmk2 : Marks Wst.heap.size ({ target := .collected Dd, args := #[] } :: ds) W' := hmk'.others hk'
        have hb2 : Below w0.heap.size w0 W' := (B.trans (hB'.mono s0)).trans hb'
        have hs2 := hk'.size
        have HJ : Hid (J ((C.take (k + 1)).map (ballN S r)) W') := Lib.hid (by rw [take_snoc _ _ (by omega), List.map_append]; exact hJ')
        clear hJ' hb' hk' hmk' hR hy hrow
        gi_wp2
        refine ⟨⟨k + 1, _, _, _, _, _, _, _, _, _, _, _, _, _, _, _, _, _, _, _, _, _, _, _, by omega, HJ.out, hb2, hmk2, by omega, HB3.out, rfl⟩, ?_⟩
        simp [BMes, intOf]; omega
      case stop =>
        rintro Dd c pre W _ _ h _
        exact h.elim
    · have ek : k = C.length := by omega
      clear hwb hsb hrb
      gi_wp2
      refine leaves_marksJ (B := Wst.heap.size) (J := fun W => J (C.map (ballN S r)) W) (fun W r o o' hj' hr hh ho => hJ _ _ _ (some r) hj' (grownBy_putObj' _ _ _) (fun r' e => by cases e; exact ⟨hr, o, hh, ho⟩)) (fun W' h' => ⟨_, results_none rfl _ _, ⟨_, rfl⟩, _, rfl, h'⟩) ds wr hmk ?_
      rw [ek, List.take_length] at hj
      exact hj

end Go.Proofs.Ytamebfbddoeflaa
