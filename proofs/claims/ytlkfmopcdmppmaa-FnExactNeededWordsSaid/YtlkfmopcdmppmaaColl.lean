/-
  slices.AppendSeq, slices.Collect on sets: a list of sets of the call's own. By an AI agent.
-/
import Derived.Test.YtlkfmopcdmppmaaCovd
import Derived.Great.BuildSlice
namespace Go.Proofs.Ytlkfmopcdmppmaa
open Go.RowKit Go.Shelf Cv
set_option linter.unusedVariables false
set_option linter.unusedSimpArgs false
set_option maxRecDepth 100000

attribute [local go_sem] Oper.semAt_some

/-- the cells of a list of sets -/
def cellsP (ps : List (Nat → Bool)) : List Value := ps.flatMap fun p => (setA p).toList
theorem cellsP_len (ps : List (Nat → Bool)) : (cellsP ps).length = ps.length * 16 := by
  induction ps with
  | nil => rfl
  | cons p ps ih => rw [cellsP, List.flatMap_cons, List.length_append]; have := setA_size p; rw [← cellsP, ih]; simp [setA_size]; omega
theorem cellsP_snoc (ps : List (Nat → Bool)) (p : Nat → Bool) : cellsP (ps ++ [p]) = cellsP ps ++ (setA p).toList := by simp [cellsP]
def OwnSets (w : World) (base : Nat) (v : Value) (ps : List (Nat → Bool)) : Prop := w.ownsRow base 66 16 v ps.length (cellsP ps)
theorem infoSet : (Try.prog.info? 66).map (fun i => (i.zero, i.size, i.bytes)) = some (some (.agg (setA fun _ => false)), 16, 128) := by rw [setA_none]; kernel_rfl

theorem wpListIn_append_set {F : Fence} {nF : Nat} {w : World} {ops : Array Oper} {rest : List Oper} {o : Oper} {a : Act} {Q : Exit → Act → World → Prop} (hgd : o.guard = none) (s x : Operand)
    (ho : o.op = .call { callee := .builtin .append, args := #[s, x], argTypes := #[97, 97] })
    (base : Nat) (v : Value) (L : List (Nat → Bool)) (hs : a.eval s = v) (hown : OwnSets w base v L) (b : Nat) (y : Nat → Bool) (hx : a.eval x = .slice (some ⟨b, 0, none⟩) 1 1) (hc : RowAt w b y)
    (hlen : L.length ≤ 1048576) (hbase : base ≤ w.heap.size)
    (h : ∀ v' w', OwnSets w' base v' (L ++ [y]) → w.grownBy w' v.ownBlock → wpListIn F nF Try.prog ops Q rest (a.put o.dst v') w') : wpListIn F nF Try.prog ops Q (o :: rest) a w := by
  obtain ⟨i0, hi, hz0, hz1, hz2⟩ := info_parts infoSet
  refine wpListIn_append_own w hgd s x 97 ho base 66 i0 (.agg (setA fun _ => false)) 16 128 Try.underlying97 hi hz0 hz1 hz2 (setA_size _) (by decide) v L.length (cellsP L) hs hown ⟨b, 0, none⟩ 1 1 (setA y).toList hx (by simp [setA_size]) ?_ ?_ (by unfold maxLen; omega) (by omega) hbase ?_
  · intro j u hj
    have hadd : (⟨b, 0, none⟩ : Addr).add j = ⟨b, j, none⟩ := by unfold Addr.add; split <;> simp_all
    rw [hadd, cell_of_row w b j _ _ _ hc]
    simpa using hj
  · intro u hu
    have := setA_one y
    rw [Array.all_eq_true] at this
    obtain ⟨k, hk, rfl⟩ := List.mem_iff_getElem.1 hu
    exact this k (by simpa using hk)
  · intro v' w' h1 h2 _
    refine h v' w' ?_ h2
    unfold OwnSets
    rw [List.length_append, cellsP_snoc]
    exact h1

theorem fill16 (z : Array Value) (hz : z.size = 16) (p : Nat → Bool) : Instr.fill (fun i => some (i * 16, 16)) z [(0, .agg (setA p))] = some (setA p) := by
  have h := Great.fill_whole (s := 16) (by decide) [.agg (setA p)] z (fun v hv => by rw [List.mem_singleton.1 hv]; exact setA_size p) (by simp [hz])
  simpa [Value.cells] using h

theorem wpListIn_build1 {F : Fence} {nF : Nat} {w : World} {ops : Array Oper} {rest : List Oper} {o : Oper} {a : Act} {Q : Exit → Act → World → Prop} (hgd : o.guard = none) (x : Operand)
    (ho : o.op = .buildSlice 97 1 #[(0, x)]) (p : Nat → Bool) (hx : a.eval x = .agg (setA p))
    (h : wpListIn F nF Try.prog ops Q rest (a.put o.dst (.slice (some ⟨w.heap.size, 0, none⟩) 1 1)) (w.alloc (.cells (setA p) 66))) : wpListIn F nF Try.prog ops Q (o :: rest) a w := by
  obtain ⟨i0, hi, hz0, hz1, hz2⟩ := info_parts infoSet
  have hb : (Instr.buildSlice 97 1 #[(0, .agg (setA p))]).run Try.prog w = .ok (.slice (some ⟨w.heap.size, 0, none⟩) 1 1) (w.alloc (.cells (setA p) 66)) :=
    run_buildSlice w 97 66 1 _ (setA p) i0 (.agg (setA fun _ => false)) Try.underlying97 hi hz0 (by rw [hz1]; decide) (by rw [hz1]; decide) (by
      rw [hz1]; exact fill16 _ (by simp) p)
  refine wpListIn_plain hgd fun K hK => ?_
  unfold Oper.wpIn
  refine ⟨by simp [Oper.about, ho], ?_⟩
  rw [Oper.semAt_plain F _ _ (by rw [ho]; intro c hc; cases hc)]
  unfold execOp
  simp only [ho, Sem.run_bind, List.map_toArray, List.map_cons, List.map_nil, hx, hb, Result.andThen_ok]
  exact hK _ _ h

theorem OwnSets.below {w w' : World} {base : Nat} {v : Value} {ps : List (Nat → Bool)} (h : OwnSets w base v ps) (hb : Below w.heap.size w w') : OwnSets w' base v ps := by
  obtain ⟨h1, h2⟩ := h
  refine ⟨h1, ?_⟩
  rcases h2 with h2 | ⟨g, cap, cur, hv, hg, hh, r⟩
  · exact Or.inl h2
  · exact Or.inr ⟨g, cap, cur, hv, hg, by rw [hb.block g (Array.getElem?_eq_some_iff.1 hh).1]; exact hh, r⟩
theorem OwnSets.alloc {w : World} {base : Nat} {v : Value} {ps : List (Nat → Bool)} (h : OwnSets w base v ps) (o : Obj) : OwnSets (w.alloc o) base v ps := World.ownsRow.alloc h o
theorem sets_some {w : World} {base : Nat} {v : Value} {ps : List (Nat → Bool)} (h : OwnSets w base v ps) (hp : ps ≠ []) : ∃ g cap, v = .slice (some ⟨g, 0, none⟩) ps.length cap := by
  rcases h.2 with ⟨hv, hn⟩ | ⟨g, cap, cur, hv, _⟩
  · exact absurd (List.eq_nil_of_length_eq_zero hn) hp
  · exact ⟨g, cap, hv⟩
theorem sets_snoc {w : World} {base : Nat} {v : Value} {ps : List (Nat → Bool)} {p : Nat → Bool} (h : OwnSets w base v (ps ++ [p])) : ∃ g cap, v = .slice (some ⟨g, 0, none⟩) (ps.length + 1) cap := by
  obtain ⟨g, cap, hv⟩ := sets_some h (by simp)
  exact ⟨g, cap, by rw [hv]; simp⟩

set_option maxHeartbeats 2000000 in
/-- slices.AppendSeq(nil, seq) over an iterator that promises its sets -/
theorem appendSets_any (gf : Nat) (lb : Array Value) (eg : ∀ args w, (callFunc gf args).run Try.prog w = .ok (.enter gf args) w) (n₀ wb sb rb : Nat) (PS : List (Nat → Bool)) (N : Nat) (hN : N ≤ 1048576) (w : World) (hn : n₀ ≤ w.heap.size) (hwb : wb < w.heap.size) (hsb : sb < w.heap.size) (hrb : rb < w.heap.size)
    (hseq : ∀ n, 1 ≤ n → Gives0 Fence.wide n Try.prog gf lb encP (KpC n₀ wb sb rb) (fun ys => ys = PS) N w) :
    Calls Try.prog 116 #[.slice none 0 0, .func (.func gf) #[] lb] w fun e w' => ∃ v, e = .returned v ∧ OwnSets w' w.heap.size v PS ∧ Below w.heap.size w w' := by
  refine (callsIn_wide (n := 6)).1 ?_
  refine callsIn_of_wp_marks Try.func116 rfl trivial ?_ rfl
  simp only [Try.ntmps116, List.size_toArray, List.length_cons, List.length_nil, Nat.reduceAdd, Nat.reduceSub, Array.replicate_succ, Array.replicate_zero, List.push_toArray, List.append_toArray, List.nil_append, List.cons_append]
  gi_wp2
  obtain ⟨w1, hw1⟩ : ∃ w1, w1 = w.alloc (.cells #[.slice none 0 0] 97) := ⟨_, rfl⟩
  have b1 : Boxed w1 w.heap.size 97 (.slice none 0 0) := by rw [hw1]; exact Boxed.new w _ _
  have B1 : Below w.heap.size w w1 := by rw [hw1]; exact (Below.refl _ w).alloc (Nat.le_refl _) _
  have s1 : w1.heap.size = w.heap.size + 1 := by rw [hw1]; simp
  rw [← hw1]
  clear hw1
  refine range_gives rfl (by omega) (gf := gf) (lb := lb) rfl trivial eg (hseq (6 - 1) (by omega)) kpC_t (kpC_g (by omega)) B1 (fun _ => rfl)
    (fun (pre : List (Nat → Bool)) W => (∃ v, Boxed W w.heap.size 97 v ∧ W.ownsRow w.heap.size 66 16 v pre.length (cellsP pre) ∧ True) ∧ (Below w.heap.size w W ∧ w1.heap.size ≤ W.heap.size))
    (fun q W => (∃ bb, w1.heap.size ≤ bb ∧ RowAt W bb q.2.1 ∧ q.2.2 = { tmps := #[.slice none 0 0, .func (.func gf) #[] lb, .pointer (some ⟨w.heap.size, 0, none⟩), undef, .slice none 0 0, .pointer (some ⟨bb, 0, none⟩), .func (.func gf) #[] lb, .agg (setA q.2.1), undef, undef, undef, undef, undef], defers := [] }) ∧ (∃ v, Boxed W w.heap.size 97 v ∧ W.ownsRow w.heap.size 66 16 v q.1.length (cellsP q.1) ∧ True) ∧ (Below w.heap.size w W ∧ w1.heap.size ≤ W.heap.size))
    ?ownI ?ownA ⟨⟨_, b1, World.ownsRow_nil _ _ _ _, trivial⟩, B1, Nat.le_refl _⟩ ?assign ?body ?done
  case ownI => exact OwnFrom.and (Own.from (holdsRow_own w.heap.size w.heap.size 97 66 16 (fun pre : List (Nat → Bool) => pre.length) (fun pre : List (Nat → Bool) => cellsP pre) (fun _ v => True)) _) (OwnFrom.and (ownFrom_below (Nat.le_refl _) B1.size) (fun _ _ _ _ hs hg _ => Nat.le_trans hs hg.size))
  case ownA =>
    refine OwnFrom.and ?_ (OwnFrom.and (Own.from (holdsRow_own w.heap.size w.heap.size 97 66 16 (fun q : List (Nat → Bool) × (Nat → Bool) × Act => q.1.length) (fun q : List (Nat → Bool) × (Nat → Bool) × Act => cellsP q.1) (fun _ v => True)) _) (OwnFrom.and (ownFrom_below (Nat.le_refl _) B1.size) (fun _ _ _ _ hs hg _ => Nat.le_trans hs hg.size)))
    rintro q A B row ⟨bb, h1, h2, h7⟩ hg hr
    exact ⟨bb, h1, (row_own bb (fun _ : Unit => q.2.1)) () A B row h2 hg (fun r e => (hr r e).2), h7⟩
  case assign =>
    intro l pre x W K ⟨⟨v, hv, hrow, _⟩, h3, h4⟩ hK
    dsimp only [encP]
    have hzW := rowz_new W rfl
    have hxW : RowAt ((W.alloc (.cells #[.int .u64 0, .int .u64 0, .int .u64 0, .int .u64 0, .int .u64 0, .int .u64 0, .int .u64 0, .int .u64 0, .int .u64 0, .int .u64 0, .int .u64 0, .int .u64 0, .int .u64 0, .int .u64 0, .int .u64 0, .int .u64 0] 66)).setRow W.heap.size (setA x)) W.heap.size x := row_set hzW
    have gW : (W.alloc (.cells #[.int .u64 0, .int .u64 0, .int .u64 0, .int .u64 0, .int .u64 0, .int .u64 0, .int .u64 0, .int .u64 0, .int .u64 0, .int .u64 0, .int .u64 0, .int .u64 0, .int .u64 0, .int .u64 0, .int .u64 0, .int .u64 0] 66)).grownBy ((W.alloc (.cells #[.int .u64 0, .int .u64 0, .int .u64 0, .int .u64 0, .int .u64 0, .int .u64 0, .int .u64 0, .int .u64 0, .int .u64 0, .int .u64 0, .int .u64 0, .int .u64 0, .int .u64 0, .int .u64 0, .int .u64 0, .int .u64 0] 66)).setRow W.heap.size (setA x)) (some W.heap.size) := grown_setRow _
    have bW : Below W.heap.size W ((W.alloc (.cells #[.int .u64 0, .int .u64 0, .int .u64 0, .int .u64 0, .int .u64 0, .int .u64 0, .int .u64 0, .int .u64 0, .int .u64 0, .int .u64 0, .int .u64 0, .int .u64 0, .int .u64 0, .int .u64 0, .int .u64 0, .int .u64 0] 66)).setRow W.heap.size (setA x)) := ((Below.refl _ W).alloc (Nat.le_refl _) _).grown gW (by simp) (fun j e => by cases e; exact Nat.le_refl _)
    gi_wp2_with (first | (refine wpListIn_st16 rfl _ _ rfl hzW x rfl rfl ?_) | fail)
    refine hK _ _ ⟨⟨W.heap.size, h4, hxW, rfl⟩, ⟨v, (bW.block _ hv.lt).trans hv, OwnSets.below hrow bW, trivial⟩, h3.trans (bW.mono h3.size), Nat.le_trans h4 bW.size⟩ bW
  case body =>
    rintro l pre x a' W ⟨⟨bb, hbb2, hx, ha⟩, ⟨v, hv, hrow, _⟩, hB', hsz⟩ hlt
    dsimp only at ha hrow hx
    subst ha
    have hc := hv.cell
    gi_wp2_with (first
      | (refine wpListIn_ld16 rfl _ rfl hx rfl ?_)
      | (refine wpListIn_build1 rfl _ rfl x rfl ?_)
      | (gi_at_builtin; refine wpListIn_append_set rfl _ _ rfl w.heap.size v pre rfl (OwnSets.alloc hrow _) W.heap.size x rfl (row_new _ _) (by omega) (by have := hB'.size; simp; omega) ?_; intro v' w3 hown' hgrow; obtain ⟨k1, k2, k3, k4, k5⟩ := hv.appended (by decide) hrow hB'.size (Nat.le_refl _) hown' hgrow; obtain ⟨g', cap', rfl⟩ := sets_snoc hown'; have hc1 := k1.cell; have hf1 := k1.frozen)
      | fail)
    exact ⟨k4.from _, ⟨k5.mono hn, fun _ _ hi => (k5.block wb hwb).trans hi, fun _ _ hi => (k5.block sb hsb).trans hi, fun _ _ hi => (k5.block rb hrb).trans hi⟩, ⟨_, k2, k3, trivial⟩, hB'.trans k5, by have := k5.size; omega⟩
  case done =>
    rintro D ys W hD rfl ⟨⟨v, hv, hrow, _⟩, hB', hsz⟩ hK
    have hc := hv.cell
    gi_wp2
    refine ⟨by simp, .inl ⟨_, _, rfl, run_takeDeferred hK, ?_⟩⟩
    exact ⟨_, results_tmp rfl _ _ _, v, rfl, ownsRow_putObj hrow _ hK rfl, hB'.trans (belowK_b (w := w1) (by omega) W D _ _ hD hK rfl rfl)⟩

/-- slices.Collect of the balls of a code -/
theorem collectBalls_any (S : List Int) (hSp : Sp S) (ao : Option Addr) (cap : Nat) (ac : Option Addr) (C : List Int) (capc : Nat) (hlen : C.length ≤ 1048576) (hC0 : ∀ i, i < C.length → 0 ≤ gi C i ∧ gi C i ≤ 9223372036854775807) (r : Int) (hr0 : 0 ≤ r) (hr8 : r ≤ 8) (wb sb rb : Nat) (w0 w1 : World) (hw01 : Below w0.heap.size w0 w1) (hS : Ints w0 ao S) (hC : Ints w0 ac C)
    (hwb : w1.heap[wb]? = some (.cells #[.slice ac C.length capc] 22 (0, 0))) (hsb : w1.heap[sb]? = some (.cells #[.slice ao S.length cap] 28 (0, 0))) (hrb : w1.heap[rb]? = some (.cells #[.int .i64 r] 2 (0, 0))) :
    Calls Try.prog 104 #[.func (.func 114) #[] #[.pointer (some ⟨wb, 0, none⟩), .pointer (some ⟨sb, 0, none⟩), .pointer (some ⟨rb, 0, none⟩)]] w1 fun e w' => ∃ v, e = .returned v ∧ OwnSets w' w1.heap.size v (C.map (ballN S r)) ∧ Below w1.heap.size w1 w' := by
  have h := appendSets_any 114 #[.pointer (some ⟨wb, 0, none⟩), .pointer (some ⟨sb, 0, none⟩), .pointer (some ⟨rb, 0, none⟩)] (enters_of Try.func114 (by kernel_rfl) rfl) w0.heap.size wb sb rb (C.map (ballN S r)) C.length hlen w1 hw01.size (Array.getElem?_eq_some_iff.1 hwb).1 (Array.getElem?_eq_some_iff.1 hsb).1 (Array.getElem?_eq_some_iff.1 hrb).1
    (fun n hn => balls_gives n hn S hSp ao cap ac C capc hlen hC0 r hr0 hr8 wb sb rb w0 w1 hw01 hS hC hwb hsb hrb)
  have HH := Lib.hid h
  clear h hwb hsb hrb hC0 hSp
  go_enter Try.func104, Try.ntmps104
  go_wp2_with fail
  refine HH.out.mono ?_
  rintro e w2 ⟨v, rfl, own, hb⟩
  go_wp2_with fail
  go_ret
  exact ⟨v, rfl, own, hb⟩

end Go.Proofs.Ytlkfmopcdmppmaa
