/-
  The contracts of the program's balls and spheres. By an AI agent.
-/
import Derived.RangeFuncBox
import Derived.Maps.AppendAt
import Derived.Maps.OwnIn
import Derived.Test.YtjjcpbhmpjedoaaWalk2
import Derived.Test.YtjjcpbhmpjedoaaMath
import Derived.Test.YtjjcpbhmpjedoaaErr2
import Derived.Test.YtjjcpbhmpjedoaaAppendAt
namespace Go.Proofs.Ytjjcpbhmpjedoaa
open Go.RowKit Go.Shelf Cv
set_option linter.unusedVariables false
set_option linter.unusedSimpArgs false
set_option maxRecDepth 100000

attribute [local go_sem] Oper.semAt_some

theorem keepsT_grown {t e : TypeId} {W W' : World} {base size k : Nat} {v : Value} {xs : List Value} (hr : W.ownsRow base e size v k xs) (hte : e ≠ t) (hg : W.grownBy W' v.ownBlock) : KeepsT t W W' := fun i cur hi => by
  have hlt := (Array.getElem?_eq_some_iff.1 hi).1
  rw [hg.block i hlt fun he => ?_]
  · exact hi
  · rcases hr.2 with ⟨rfl, _⟩ | ⟨g, cap, cur', rfl, _, hgb, _⟩
    · simp [Value.ownBlock] at he
    · obtain rfl : i = g := by simpa [Value.ownBlock] using he
      rw [hi] at hgb
      injection hgb with hgb
      injection hgb with _ hgb _
      exact hte hgb.symm
theorem keepsT_set {t t' : TypeId} {W : World} {B k : Nat} {cur' : Array Value} {v : Value} (hb : W.heap[B]? = some (.cells cur' t' (0, 0))) (hne : t' ≠ t) : KeepsT t W (W.setCell ⟨B, k, none⟩ v) := fun i cur hi => by
  rw [Below.heap_setCell _ _ _ _ (fun e => ?_)]
  · exact hi
  · have e' : i = B := e
    subst e'
    rw [hi] at hb
    injection hb with hb
    injection hb with _ hb _
    exact hne hb.symm
theorem keepsT_put {t : TypeId} {W : World} {l : Nat} {o o' : Obj} (hl : W.heap[l]? = some o) (ho : o.isCells = false) : KeepsT t W (W.putObj l o') := fun i cur hi => by
  rw [World.putObj_heap_other (fun e => ?_)]
  · exact hi
  · subst e
    rw [hl] at hi
    injection hi with hi
    subst hi
    cases ho
theorem keepsAt_put {g : Nat} {W : World} {l : Nat} {o o' : Obj} (hl : W.heap[l]? = some o) (ho : o.isCells = false) : KeepsAt g W (W.putObj l o') := fun cur t hi => by
  rw [World.putObj_heap_other (fun e => ?_)]
  · exact hi
  · subst e
    rw [hl] at hi
    injection hi with hi
    subst hi
    cases ho
theorem kpB_t {n₀ g : Nat} {A B C : World} (h : KpB n₀ g A B) (k : KpB n₀ g B C) : KpB n₀ g A C := ⟨h.1.trans k.1, h.2.1.trans k.2.1, h.2.2.trans k.2.2⟩
theorem kpB_b {n₀ g : Nat} {w : World} (hn : n₀ ≤ w.heap.size) (W : World) (l : Nat) (o o' : Obj) (hl : w.heap.size ≤ l) (h : W.heap[l]? = some o) (ho : o.isCells = false) (hw : o.isWalk = false) : KpB n₀ g W (W.putObj l o') :=
  ⟨belowK_b hn W l o o' hl h ho hw, keepsT_put h ho, keepsAt_put h ho⟩

theorem wpListIn_append_int_at {F : Fence} {n : Nat} {w : World} {ops : Array Oper} {rest : List Oper} {o : Oper} {a : Act} {Q : Exit → Act → World → Prop} (hgd : o.guard = none) (s x : Operand)
    (ho : o.op = .call { callee := .builtin .append, args := #[s, x], argTypes := #[24, 24] })
    (base : Nat) (v : Value) (L : List Int) (hs : a.eval s = v) (hown : OwnInts w base v L) (b : Nat) (y : Int) (hx : a.eval x = .slice (some ⟨b, 0, none⟩) 1 1) (hc : w.cell? ⟨b, 0, none⟩ = some (.int .i64 y))
    (hlen : L.length ≤ 1073741824) (hbase : base ≤ w.heap.size)
    (h : ∀ v' w', OwnInts w' base v' (L ++ [y]) → w.grownBy w' v.ownBlock → (v'.ownBlock = v.ownBlock ∨ v'.ownBlock = some w.heap.size) → wpListIn F n Try.prog ops Q rest (a.put o.dst v') w') : wpListIn F n Try.prog ops Q (o :: rest) a w := by
  obtain ⟨i0, hi, hz0, hz1, hz2⟩ := info_parts infoI64
  refine wpListIn_append_own_at w hgd s x 24 ho base 2 i0 (.int .i64 0) 1 8 Try.underlying24 hi hz0 hz1 hz2 rfl (by decide) v L.length (L.map (Value.int .i64)) hs hown ⟨b, 0, none⟩ 1 1 [.int .i64 y] hx rfl ?_ ?_ (by unfold maxLen; omega) (by omega) hbase ?_
  · intro j u hj
    match j, hj with
    | 0, hj => simp at hj; subst hj; simpa [Addr.add] using hc
  · intro u hu; simp at hu; subst hu; rfl
  · intro v' w' h1 h2 _ h3
    refine h v' w' ?_ h2 h3
    unfold OwnInts
    rw [List.length_append, List.map_append]
    exact h1

/-- the heap of a row that lies in a block -/
theorem own_heap {W : World} {base g n cap : Nat} {L : List Int} (h : OwnInts W base (.slice (some ⟨g, 0, none⟩) n cap) L) : ∃ D : Array Value, W.heap[g]? = some (.cells D 2 (0, 0)) ∧ ∀ i, i < L.length → D[i]? = some (.int .i64 (gi L i)) := by
  rcases h.2 with ⟨hv, _⟩ | ⟨g', cap', cur, hv, _, hh, _⟩
  · simp at hv
  · have e : g = g' := by simp only [Value.slice.injEq] at hv; simpa using hv.1
    subst e
    refine ⟨cur, hh, fun i hi => ?_⟩
    have := h.cell hi
    rwa [cell_of_row W g i cur 2 (0, 0) hh] at this

theorem own_snoc {w : World} {base : Nat} {v : Value} {L : List Int} {y : Int} (h : OwnInts w base v (L ++ [y])) : ∃ g cap, v = .slice (some ⟨g, 0, none⟩) (L.length + 1) cap := by
  obtain ⟨g, cap, hv, _⟩ := own_some h (by simp)
  exact ⟨g, cap, by rw [hv]; simp⟩
/-- behind an append to a list in a box, and the store of what came back -/
theorem app_step {W w1 : World} {n₀ B g : Nat} {v v' : Value} {L : List Int} {y : Int} {tmp : Obj} (hv : Boxed W B 24 v) (hown : OwnInts W n₀ v L) (hn : n₀ ≤ W.heap.size) (hB : n₀ ≤ B) (hg : v.ownBlock ≠ some g) (hgW : g < W.heap.size) (hBg : g ≠ B)
    (hown' : OwnInts w1 n₀ v' (L ++ [y])) (hgrow : (W.alloc tmp).grownBy w1 v.ownBlock) (hat : v'.ownBlock = v.ownBlock ∨ v'.ownBlock = some (W.alloc tmp).heap.size) :
    Boxed w1 B 24 v ∧ Boxed (w1.setCell ⟨B, 0, none⟩ v') B 24 v' ∧ OwnInts (w1.setCell ⟨B, 0, none⟩ v') n₀ v' (L ++ [y]) ∧ KeepsOthers W (w1.setCell ⟨B, 0, none⟩ v') ∧ KpB n₀ g W (w1.setCell ⟨B, 0, none⟩ v') ∧ v'.ownBlock ≠ some g := by
  obtain ⟨h1, h2, h3, h4, h5⟩ := hv.appended (by decide) hown hn hB hown' hgrow
  refine ⟨h1, h2, h3, h4, ⟨h5, ?_, ?_⟩, ?_⟩
  · exact (((KeepsT.refl _ W).alloc tmp).trans (keepsT_grown (World.ownsRow.alloc hown tmp) (by decide) hgrow)).trans (keepsT_set (t' := 24) h1 (by decide))
  · exact (((KeepsAt.refl g W).alloc tmp).trans (KeepsAt.of_grown hgrow hg)).trans (KeepsAt.set hBg)
  · rcases hat with h | h
    · rw [h]; exact hg
    · rw [h]; simp; omega


def seqB {S : List Int} {x r : Int} (pre : List (WP S x r)) : List Int := pre.map fun p => p.1.1
theorem seqB_snoc {S : List Int} {x r : Int} (pre : List (WP S x r)) (p : WP S x r) : seqB (pre ++ [p]) = seqB pre ++ [p.1.1] := by simp [seqB]

set_option maxHeartbeats 2000000 in
theorem impl_BallOf (ao : Option Addr) (S : List Int) (cap : Nat) (hn : S.length ≤ 4294967296) (x : Int) (hx : -9223372036854775808 ≤ x ∧ x ≤ 9223372036854775807) (r : Int) (hr : -9223372036854775808 ≤ r ∧ r ≤ 9223372036854775807) (w : World) (hS : Ints w ao S) :
    Calls Try.prog 22 #[.agg #[.slice ao S.length cap], .int .i64 x, .int .i64 r] w fun e w' => ∃ v, e = .returned (.tuple #[v, .int .i64 (eBall S x r)]) ∧ OwnInts w' w.heap.size v (vBall S x r) ∧ Below w.heap.size w w' := by
  have B0 : Below w.heap.size w (w.alloc (.cells #[.slice ao S.length cap] 26)) := by go_grown
  by_cases he : eBall S x r = 0
  · obtain ⟨hw0, r0, r8⟩ := eBall_zero he
    obtain ⟨hSp, x0, x1⟩ := eWords1 hw0
    have hen : (eBall S x r != 0) = false := by simp [he]
    have HE := Lib.hid he
    have HV : Hid (vBall S x r = ballW S x r) := Lib.hid (by unfold vBall; rw [if_pos he])
    have HSp := Lib.hid hSp
    have N2 := (nW_bd hSp).2
    obtain ⟨i0, hi, hz0, hz1, hz2⟩ := info_parts infoI64
    clear he hw0 hSp
    refine (callsIn_wide (n := 6)).1 ?_
    refine callsIn_of_wp_marks Try.func22 rfl trivial ?_ rfl
    simp only [Try.ntmps22, List.size_toArray, List.length_cons, List.length_nil, Nat.reduceAdd, Nat.reduceSub, Array.replicate_succ, Array.replicate_zero, List.push_toArray, List.append_toArray, List.nil_append, List.cons_append]
    gi_wp2_with (first
      | (refine ⟨trivial, ?_⟩; gi_at_call 61; refine (callsIn_wide.2 (ballError_any ao S cap hn x r _ (hS.below B0))).mono ?_; rintro e w1 ⟨rfl, hb1⟩; have c1 := kept_cell hb1 (cell_new w (.slice ao S.length cap) 26) (lt_alloc _ _); have l1 := lt_of_below hb1 (lt_alloc w (.cells #[.slice ao S.length cap] 26)); have B1 := B0.trans (hb1.mono B0.size); have c2 : ∀ o1 o2, ((w1.alloc o1).alloc o2).cell? ⟨w.heap.size, 0, none⟩ = some (.slice ao S.length cap) := fun o1 o2 => kept_cell (((Below.refl w1.heap.size w1).alloc (Nat.le_refl _) o1).alloc (by simp) o2) c1 l1; clear hb1 c1)
      | (refine ⟨trivial, ?_⟩; gi_at_call 62; refine (callsIn_wide.2 (wordsWithin_any ao S cap HSp.out x x0 (by omega) r _ (hS.below ((B1.alloc B1.size _).alloc (by have := B1.size; simp; omega) _)))).mono ?_; rintro e w2 ⟨Bb, g, rfl, lB, hB, hM, hBg, hBlo, hb2⟩)
      | fail)
    have s1 := B1.size
    have s2 := hb2.size
    simp only [World.size_alloc] at s2
    have g1 := hM.base_le
    rw [World.size_alloc, World.size_alloc] at g1
    have bO : Boxed w2 (w1.heap.size + 1) 24 (.slice (some ⟨w1.heap.size, 0, none⟩) 0 0) := by
      have h := Boxed.new (w1.alloc (.cells #[] 2)) 24 (.slice (some ⟨w1.heap.size, 0, none⟩) 0 0)
      rw [World.size_alloc] at h
      exact (hb2.block _ (by simp)).trans h
    have own0 : OwnInts w2 w.heap.size (.slice (some ⟨w1.heap.size, 0, none⟩) 0 0) [] := ((own_empty w1 w.heap.size s1 rfl).alloc _).below hb2
    have B2 : Below w.heap.size w w2 := ((B1.alloc s1 _).alloc (by simp; omega) _).trans (hb2.mono (by simp; omega))
    obtain ⟨D, hG, hD⟩ := own_heap hM
    have hD' : ∀ i, i < S.length → D[i]? = some (.int .i64 (dig S x i)) := fun i hi => by rw [hD i (by rw [digs_length]; exact hi), gi_digs _ _ _ hi]
    have hNl : (ballP S x r).length ≤ 1024 := by
      have := walkL_len S HSp.out.bd x r S.length (Nat.le_refl _) 0 0 r0
      rw [walk_ball S HSp.out.bd x r r0, restP_all] at this; omega
    refine wpIn_rangeFunc_ownG rfl (by omega) (gf := 94) (lb := #[.pointer (some ⟨Bb, 0, none⟩)]) rfl trivial (enters_of Try.func94 (by kernel_rfl) rfl)
      (all_stops Fence.wide rfl trivial trivial rfl (6 - 1) S HSp.out x r r0 r8 ao cap Bb g D w w2 B2 hB hS hG hD') kpB_t (kpB_b B2.size) (Below.refl _ _) (fun _ => rfl)
      (fun pre W => (∃ v, Boxed W (w1.heap.size + 1) 24 v ∧ W.ownsRow w.heap.size 2 1 v (seqB pre).length ((seqB pre).map (Value.int .i64)) ∧ v.ownBlock ≠ some g) ∧ (Below w.heap.size w W ∧ w2.heap.size ≤ W.heap.size))
      (fun _ _ _ => False)
      (OwnFrom.and (Own.from (holdsRow_own w.heap.size (w1.heap.size + 1) 24 2 1 (fun pre => (seqB pre).length) (fun pre => (seqB pre).map (Value.int .i64)) (fun _ v => v.ownBlock ≠ some g)) _) (OwnFrom.and (ownFrom_below (Nat.le_refl _) B2.size) (fun _ _ _ _ hs hg _ => Nat.le_trans hs hg.size)))
      (fun _ _ _ _ _ hs _ _ => hs)
      ⟨⟨_, bO, own0, by simp [Value.ownBlock]; omega⟩, B2, Nat.le_refl _⟩
      (fun p => { tmps := #[.agg #[.slice ao S.length cap], .int .i64 x, .int .i64 r, .pointer (some ⟨w.heap.size, 0, none⟩), undef, undef, .slice none 0 0, .int .i64 0, .int .i64 (eBall S x r), .pointer (some ⟨w1.heap.size + 1, 0, none⟩), .int .i64 p.1.1, .agg #[.slice ao S.length cap], .int .i64 x, .int .i64 r, .int .i64 (eBall S x r), .int .i64 (eBall S x r), .bool false, undef, .slice (some ⟨w1.heap.size, 0, none⟩) 0 0, .agg #[.slice ao S.length cap], .int .i64 x, .int .i64 r, .func (.func 94) #[] #[.pointer (some ⟨Bb, 0, none⟩)], .int .i64 p.1.1, .int .i64 p.1.2, undef, undef, undef, undef, undef], defers := [] }) ?assign ?body ?done ?stop
    case assign =>
      intro l p W K hK
      dsimp only [encW]
      gi_wp2
      exact hK
    case body =>
      rintro l pre p W ⟨⟨v, hv, hrow, hng⟩, hB', hsz⟩ hlt
      have hc := hv.cell
      gi_wp2_with (gi_at_builtin; refine wpListIn_append_int_at rfl _ _ rfl w.heap.size _ _ rfl (OwnInts.alloc hrow _) W.heap.size _ rfl (cell_new _ _ _) (by simp [seqB]; omega) (by have := hB'.size; simp; omega) ?_; intro v' w3 hown' hgrow hat; obtain ⟨k1, k2, k3, k4, k5, k6⟩ := app_step hv hrow hB'.size (by omega) hng (by omega) (by omega) hown' hgrow hat; obtain ⟨g', cap', rfl⟩ := own_snoc hown'; have hc1 := k1.cell; have hf1 := k1.frozen)
      exact ⟨k4.from _, k5, ⟨_, k2, by rw [seqB_snoc]; exact k3, k6⟩, hB'.trans k5.1, by have := k5.1.size; omega⟩
    case done =>
      rintro Dd ys W hDd HY ⟨⟨v, hv, hrow, hng⟩, hB', hsz⟩ hK
      have hc := hv.cell
      have HL : Hid (seqB ys = ballW S x r) := Lib.hid (by rw [← ballW_P, ← HY.out, List.map_map]; rfl)
      gi_wp2
      refine ⟨by simp, .inl ⟨_, _, rfl, run_takeDeferred hK, ?_⟩⟩
      exact ⟨_, results_tmp2 rfl _ _ _, v, by rw [HE.out]; rfl, by rw [HV.out, ← HL.out]; exact ownsRow_putObj hrow _ hK rfl, hB'.trans (belowK_b (w := w2) B2.size W Dd _ _ hDd hK rfl rfl)⟩
    case stop =>
      rintro Dd c pre W _ _ h _
      exact h.elim
  · have hen : (eBall S x r != 0) = true := by simpa using he
    have HV : Hid (vBall S x r = []) := Lib.hid (by unfold vBall; rw [if_neg he])
    clear he
    go_enter Try.func22, Try.ntmps22
    go_wp2_with fail
    refine (ballError_any ao S cap hn x r _ (hS.below B0)).mono ?_
    rintro e w1 ⟨rfl, hb⟩
    go_wp2_with fail
    go_ret2
    exact ⟨_, rfl, by rw [HV.out]; exact World.ownsRow_nil _ _ _ _, B0.trans (hb.mono B0.size)⟩

end Go.Proofs.Ytjjcpbhmpjedoaa
