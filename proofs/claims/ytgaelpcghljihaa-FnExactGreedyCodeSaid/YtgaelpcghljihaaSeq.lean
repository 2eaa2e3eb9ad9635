/-
  slices.Values, slices.AppendSeq, slices.Collect, slices.Sorted on numbers. By an AI agent.
-/
import Derived.Test.YtgaelpcghljihaaGiv
import Derived.Test.YtgaelpcghljihaaSort
namespace Go.Proofs.Ytgaelpcghljihaa
open Go.RowKit Go.Shelf Cv
set_option linter.unusedVariables false
set_option linter.unusedSimpArgs false
set_option maxRecDepth 100000

attribute [local go_sem] Oper.semAt_some

def encI (x : Int) : Array Value := #[.int .i64 x]

set_option maxHeartbeats 2000000 in
/-- slices.AppendSeq(nil, seq) over an iterator that promises its numbers -/
theorem appendSeq_any (gf : Nat) (lb : Array Value) (eg : ∀ args w, (callFunc gf args).run Try.prog w = .ok (.enter gf args) w) (S : List Int → Prop) (N : Nat) (hN : N ≤ 16777216) (w : World) (hseq : ∀ n, 1 ≤ n → Gives0 Fence.wide n Try.prog gf lb encI (Below w.heap.size) S N w) :
    Calls Try.prog 159 #[.slice none 0 0, .func (.func gf) #[] lb] w fun e w' => ∃ v L, e = .returned v ∧ S L ∧ OwnInts w' w.heap.size v L ∧ Below w.heap.size w w' := by
  refine (callsIn_wide (n := 6)).1 ?_
  refine callsIn_of_wp_marks Try.func159 rfl trivial ?_ rfl
  simp only [Try.ntmps159, List.size_toArray, List.length_cons, List.length_nil, Nat.reduceAdd, Nat.reduceSub, Array.replicate_succ, Array.replicate_zero, List.push_toArray, List.append_toArray, List.nil_append, List.cons_append]
  gi_wp2
  obtain ⟨w1, hw1⟩ : ∃ w1, w1 = w.alloc (.cells #[.slice none 0 0] 22) := ⟨_, rfl⟩
  have b1 : Boxed w1 w.heap.size 22 (.slice none 0 0) := by rw [hw1]; exact Boxed.new w _ _
  have B1 : Below w.heap.size w w1 := by rw [hw1]; exact (Below.refl _ w).alloc (Nat.le_refl _) _
  have s1 : w1.heap.size = w.heap.size + 1 := by rw [hw1]; simp
  rw [← hw1]
  clear hw1
  refine range_gives rfl (by omega) (gf := gf) (lb := lb) rfl trivial eg (hseq (6 - 1) (by omega)) (fun h k => h.trans k)
    (fun A B row hg hr hA => (Below.refl _ A).grown hg (by omega) (fun k e => by have := (hr k e).1; omega)) B1 (fun _ => rfl)
    (fun (pre : List Int) W => (∃ v, Boxed W w.heap.size 22 v ∧ W.ownsRow w.heap.size 2 1 v pre.length (pre.map (Value.int .i64)) ∧ True) ∧ (Below w.heap.size w W ∧ w1.heap.size ≤ W.heap.size))
    (fun q W => ((∃ v, Boxed W w.heap.size 22 v ∧ W.ownsRow w.heap.size 2 1 v q.1.length (q.1.map (Value.int .i64)) ∧ True) ∧ (Below w.heap.size w W ∧ w1.heap.size ≤ W.heap.size)) ∧ q.2.2 = { tmps := #[.slice none 0 0, .func (.func gf) #[] lb, .pointer (some ⟨w.heap.size, 0, none⟩), undef, .slice none 0 0, .int .i64 q.2.1, .func (.func gf) #[] lb, .int .i64 q.2.1, undef, undef, undef, undef, undef], defers := [] })
    ?ownI ?ownA ⟨⟨_, b1, World.ownsRow_nil _ _ _ _, trivial⟩, B1, Nat.le_refl _⟩ ?assign ?body ?done
  case ownI => exact OwnFrom.and (Own.from (holdsRow_own w.heap.size w.heap.size 22 2 1 (fun pre : List Int => pre.length) (fun pre : List Int => pre.map (Value.int .i64)) (fun _ v => True)) _) (OwnFrom.and (ownFrom_below (Nat.le_refl _) B1.size) (fun _ _ _ _ hs hg _ => Nat.le_trans hs hg.size))
  case ownA => exact OwnFrom.and (OwnFrom.and (Own.from (holdsRow_own w.heap.size w.heap.size 22 2 1 (fun q : List Int × Int × Act => q.1.length) (fun q : List Int × Int × Act => q.1.map (Value.int .i64)) (fun _ v => True)) _) (OwnFrom.and (ownFrom_below (Nat.le_refl _) B1.size) (fun _ _ _ _ hs hg _ => Nat.le_trans hs hg.size))) (ownFrom_pure _ _)
  case assign =>
    intro l pre x W K h hK
    dsimp only [encI]
    gi_wp2
    exact hK _ _ ⟨h, rfl⟩ (Below.refl _ _)
  case body =>
    rintro l pre x a' W ⟨⟨⟨v, hv, hrow, _⟩, hB', hsz⟩, ha⟩ hlt
    dsimp only at ha hrow
    subst ha
    have hc := hv.cell
    gi_wp2_with (gi_at_builtin; refine wpListIn_append_int_at rfl _ _ rfl w.heap.size _ _ rfl (OwnInts.alloc hrow _) W.heap.size _ rfl (cell_new _ _ _) (by omega) (by have := hB'.size; simp; omega) ?_; intro v' w3 hown' hgrow hat; obtain ⟨k1, k2, k3, k4, k5⟩ := hv.appended (by decide) hrow hB'.size (Nat.le_refl _) hown' hgrow; obtain ⟨g', cap', rfl⟩ := own_snoc hown'; have hc1 := k1.cell; have hf1 := k1.frozen)
    exact ⟨k4.from _, k5, ⟨_, k2, k3, trivial⟩, hB'.trans k5, by have := k5.size; omega⟩
  case done =>
    rintro D ys W hD HS ⟨⟨v, hv, hrow, _⟩, hB', hsz⟩ hK
    have hc := hv.cell
    gi_wp2
    refine ⟨by simp, .inl ⟨_, _, rfl, run_takeDeferred hK, ?_⟩⟩
    exact ⟨_, results_tmp rfl _ _ _, v, ys, rfl, HS, ownsRow_putObj hrow _ hK rfl, hB'.trans (belowK_b (w := w1) (by omega) W D _ _ hD hK rfl rfl)⟩

theorem collect_any (gf : Nat) (lb : Array Value) (eg : ∀ args w, (callFunc gf args).run Try.prog w = .ok (.enter gf args) w) (S : List Int → Prop) (N : Nat) (hN : N ≤ 16777216) (w : World) (hseq : ∀ n, 1 ≤ n → Gives0 Fence.wide n Try.prog gf lb encI (Below w.heap.size) S N w) :
    Calls Try.prog 145 #[.func (.func gf) #[] lb] w fun e w' => ∃ v L, e = .returned v ∧ S L ∧ OwnInts w' w.heap.size v L ∧ Below w.heap.size w w' := by
  go_enter Try.func145, Try.ntmps145
  go_wp2_with fail
  refine (appendSeq_any gf lb eg S N hN w hseq).mono ?_
  rintro e w1 ⟨v, L, rfl, hS, own, hb⟩
  go_wp2_with fail
  go_ret
  exact ⟨v, L, rfl, hS, own, hb⟩

end Go.Proofs.Ytgaelpcghljihaa
