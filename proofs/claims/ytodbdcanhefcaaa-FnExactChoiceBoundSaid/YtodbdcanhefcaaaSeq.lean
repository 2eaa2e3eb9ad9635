/-
  slices.Values, slices.AppendSeq, slices.Collect, slices.Sorted on numbers. By an AI agent.
-/
import Derived.Test.YtodbdcanhefcaaaGiv
import Derived.Test.YtodbdcanhefcaaaSort
namespace Go.Proofs.Ytodbdcanhefcaaa
open Go.RowKit Go.Shelf Cv
set_option linter.unusedVariables false
set_option linter.unusedSimpArgs false
set_option maxRecDepth 100000

attribute [local go_sem] Oper.semAt_some

theorem values_any (a : Option Addr) (L : List Int) (c : Nat) (w : World) :
    Calls Try.prog 69 #[.slice a L.length c] w fun e w' => e = .returned (.func (.func 98) #[] #[.pointer (some ⟨w.heap.size, 0, none⟩)]) ∧ w'.heap[w.heap.size]? = some (.cells #[.slice a L.length c] 22 (0, 0)) ∧ Below w.heap.size w w' := by
  have H1 := Lib.hid (World.alloc_heap_new w (.cells #[.slice a L.length c] 22))
  go_enter Try.func69, Try.ntmps69
  go_wp2_with fail
  go_ret
  exact ⟨rfl, H1.out, by go_grown⟩

def encI (x : Int) : Array Value := #[.int .i64 x]

set_option maxHeartbeats 2000000 in
/-- the closure of slices.Values yields the numbers of the list -/
theorem values_gives (n : Nat) (hn1 : 1 ≤ n) (a : Option Addr) (L : List Int) (c vb : Nat) (hl : L.length ≤ 16777216) (w : World) (hL : Ints w a L) (hvb : w.heap[vb]? = some (.cells #[.slice a L.length c] 22 (0, 0))) :
    Gives0 Fence.wide n Try.prog 98 #[.pointer (some ⟨vb, 0, none⟩)] encI (Below w.heap.size) (fun ys => ys = L) L.length w := fun l J Wst hW hJ hY h0 => by
  have c1 := cell_of_heap ((hW.block vb (Array.getElem?_eq_some_iff.1 hvb).1).trans hvb)
  clear hvb
  have hdd : ∀ k : Nat, (Fence.wide.depth.isSome = true → 1 ≤ k) := fun k h => by cases (show (none : Option Nat).isSome = true from h)
  refine callsIn_of_wp Try.func98 rfl trivial ?_ rfl
  simp only [Try.ntmps98, List.size_toArray, List.length_cons, List.length_nil, Nat.reduceAdd, Nat.reduceSub, Array.replicate_succ, Array.replicate_zero, List.push_toArray, List.append_toArray, List.nil_append, List.cons_append]
  gi_wp2
  gi_loopw [7] (fun i wr => ∃ k : Nat, k ≤ L.length ∧ i = .int .i64 k ∧ J (L.take k) wr ∧ Below w.heap.size w wr) (fun i _ => L.length - (intOf i).toNat)
  case atStart => exact ⟨0, Nat.zero_le _, rfl, h0, hW⟩
  case round =>
    clear c1 h0
    obtain ⟨k, hk, rfl, hj, B⟩ := hrel
    by_cases hlt : k < L.length
    · obtain ⟨b, o, rfl, hbl, hc⟩ := hL.at hlt
      have hck : wr.cell? ⟨b, o + k, none⟩ = some (.int .i64 (gi L k)) := kept_cell B (hc k hlt) hbl
      obtain ⟨fn, tmps, assign, body, hy, hR⟩ := hY (L.take k) (gi L k) wr hj (by simp; omega)
      simp only [encI] at hy
      clear hc hj
      gi_wp2
      refine hR.mono ?_
      rintro e W' ⟨rfl, hJ', hb', hk'⟩
      have HJ : Hid (J (L.take (k + 1)) W') := Lib.hid (by rw [take_snoc _ _ hlt]; exact hJ')
      have B' := B.trans hb'
      clear hJ' hb' hk' hR hy
      gi_wp2
      go_roundw
      case rel => exact ⟨k + 1, by omega, by go_num, HJ.out, B'⟩
      case measure => simp [intOf]; omega
    · have ek : k = L.length := by omega
      gi_wp2
      go_end0
      exact ⟨⟨_, rfl⟩, L, rfl, by rw [ek, List.take_length] at hj; exact hj⟩

set_option maxHeartbeats 2000000 in
/-- slices.AppendSeq(nil, seq) over an iterator that promises its numbers -/
theorem appendSeq_any (gf : Nat) (lb : Array Value) (eg : ∀ args w, (callFunc gf args).run Try.prog w = .ok (.enter gf args) w) (S : List Int → Prop) (N : Nat) (hN : N ≤ 16777216) (w : World) (hseq : ∀ n, 1 ≤ n → Gives0 Fence.wide n Try.prog gf lb encI (Below w.heap.size) S N w) :
    Calls Try.prog 113 #[.slice none 0 0, .func (.func gf) #[] lb] w fun e w' => ∃ v L, e = .returned v ∧ S L ∧ OwnInts w' w.heap.size v L ∧ Below w.heap.size w w' := by
  refine (callsIn_wide (n := 6)).1 ?_
  refine callsIn_of_wp_marks Try.func113 rfl trivial ?_ rfl
  simp only [Try.ntmps113, List.size_toArray, List.length_cons, List.length_nil, Nat.reduceAdd, Nat.reduceSub, Array.replicate_succ, Array.replicate_zero, List.push_toArray, List.append_toArray, List.nil_append, List.cons_append]
  gi_wp2
  obtain ⟨w1, hw1⟩ : ∃ w1, w1 = w.alloc (.cells #[.slice none 0 0] 22) := ⟨_, rfl⟩
  have b1 : Boxed w1 w.heap.size 22 (.slice none 0 0) := by rw [hw1]; exact Boxed.new w _ _
  have B1 : Below w.heap.size w w1 := by rw [hw1]; exact (Below.refl _ w).alloc (Nat.le_refl _) _
  have s1 : w1.heap.size = w.heap.size + 1 := by rw [hw1]; simp
  rw [← hw1]
  clear hw1
  refine range_gives rfl (by omega) (gf := gf) (lb := lb) rfl trivial eg (hseq (6 - 1) (by omega)) (fun h k => h.trans k)
    (fun A B row hg hr hA => (Below.refl _ A).grown hg (by omega) (fun k e => by have := (hr k e).1; omega)) B1 (fun _ => rfl)
    (fun (pre : List Int) W => (∃ v, Boxed W w.heap.size 22 v ∧ W.ownsRow w.heap.size 2 1 v pre.length (pre.map (Value.int .i64)) ∧ True) ∧ (Below w.heap.size w W ∧ w1.heap.size ≤ W.heap.size))
    (fun q W => ((∃ v, Boxed W w.heap.size 22 v ∧ W.ownsRow w.heap.size 2 1 v q.1.length (q.1.map (Value.int .i64)) ∧ True) ∧ (Below w.heap.size w W ∧ w1.heap.size ≤ W.heap.size)) ∧ q.2.2 = { tmps := #[.slice none 0 0, .func (.func gf) #[] lb, .pointer (some ⟨w.heap.size, 0, none⟩), undef, .slice none 0 0, .int .i64 q.2.1, .func (.func gf) #[] lb, .int .i64 q.2.1, undef, undef, undef, undef, undef], defers := [] })
    ?ownI ?ownA ⟨⟨_, b1, World.ownsRow_nil _ _ _ _, trivial⟩, B1, Nat.le_refl _⟩ ?assign ?body ?done
  case ownI => exact OwnFrom.and (Own.from (holdsRow_own w.heap.size w.heap.size 22 2 1 (fun pre : List Int => pre.length) (fun pre : List Int => pre.map (Value.int .i64)) (fun _ v => True)) _) (OwnFrom.and (ownFrom_below (Nat.le_refl _) B1.size) (fun _ _ _ _ hs hg _ => Nat.le_trans hs hg.size))
  case ownA => exact OwnFrom.and (OwnFrom.and (Own.from (holdsRow_own w.heap.size w.heap.size 22 2 1 (fun q : List Int × Int × Act => q.1.length) (fun q : List Int × Int × Act => q.1.map (Value.int .i64)) (fun _ v => True)) _) (OwnFrom.and (ownFrom_below (Nat.le_refl _) B1.size) (fun _ _ _ _ hs hg _ => Nat.le_trans hs hg.size))) (ownFrom_pure _ _)
  case assign =>
    intro l pre x W K h hK
    dsimp only [encI]
    gi_wp2
    exact hK _ _ ⟨h, rfl⟩ (Below.refl _ _)
  case body =>
    rintro l pre x a' W ⟨⟨⟨v, hv, hrow, _⟩, hB', hsz⟩, ha⟩ hlt
    dsimp only at ha hrow
    subst ha
    have hc := hv.cell
    gi_wp2_with (gi_at_builtin; refine wpListIn_append_int_at rfl _ _ rfl w.heap.size _ _ rfl (OwnInts.alloc hrow _) W.heap.size _ rfl (cell_new _ _ _) (by omega) (by have := hB'.size; simp; omega) ?_; intro v' w3 hown' hgrow hat; obtain ⟨k1, k2, k3, k4, k5⟩ := hv.appended (by decide) hrow hB'.size (Nat.le_refl _) hown' hgrow; obtain ⟨g', cap', rfl⟩ := own_snoc hown'; have hc1 := k1.cell; have hf1 := k1.frozen)
    exact ⟨k4.from _, k5, ⟨_, k2, k3, trivial⟩, hB'.trans k5, by have := k5.size; omega⟩
  case done =>
    rintro D ys W hD HS ⟨⟨v, hv, hrow, _⟩, hB', hsz⟩ hK
    have hc := hv.cell
    gi_wp2
    refine ⟨by simp, .inl ⟨_, _, rfl, run_takeDeferred hK, ?_⟩⟩
    exact ⟨_, results_tmp rfl _ _ _, v, ys, rfl, HS, ownsRow_putObj hrow _ hK rfl, hB'.trans (belowK_b (w := w1) (by omega) W D _ _ hD hK rfl rfl)⟩

theorem collect_any (gf : Nat) (lb : Array Value) (eg : ∀ args w, (callFunc gf args).run Try.prog w = .ok (.enter gf args) w) (S : List Int → Prop) (N : Nat) (hN : N ≤ 16777216) (w : World) (hseq : ∀ n, 1 ≤ n → Gives0 Fence.wide n Try.prog gf lb encI (Below w.heap.size) S N w) :
    Calls Try.prog 96 #[.func (.func gf) #[] lb] w fun e w' => ∃ v L, e = .returned v ∧ S L ∧ OwnInts w' w.heap.size v L ∧ Below w.heap.size w w' := by
  go_enter Try.func96, Try.ntmps96
  go_wp2_with fail
  refine (appendSeq_any gf lb eg S N hN w hseq).mono ?_
  rintro e w1 ⟨v, L, rfl, hS, own, hb⟩
  go_wp2_with fail
  go_ret
  exact ⟨v, L, rfl, hS, own, hb⟩

/-- slices.Sorted(slices.Values(list)) -/
theorem sorted_values (vb : Nat) (a : Option Addr) (L : List Int) (c : Nat) (h1 : 1 ≤ L.length) (hl : L.length ≤ 1048576) (w : World) (hL : Ints w a L) (hvb : w.heap[vb]? = some (.cells #[.slice a L.length c] 22 (0, 0))) :
    Calls Try.prog 68 #[.func (.func 98) #[] #[.pointer (some ⟨vb, 0, none⟩)]] w fun e w' => ∃ v, e = .returned v ∧ OwnInts w' w.heap.size v (sorted L) ∧ Below w.heap.size w w' := by
  go_enter Try.func68, Try.ntmps68
  go_wp2_with fail
  refine (collect_any 98 #[.pointer (some ⟨vb, 0, none⟩)] (enters_of Try.func98 (by kernel_rfl) rfl) (fun ys => ys = L) L.length (by omega) w (fun n hn => values_gives n hn a L c vb (by omega) w hL hvb)).mono ?_
  rintro e w1 ⟨v, L', rfl, rfl, own, hb⟩
  obtain ⟨g, cap, rfl, hg⟩ := own_some own (by intro h; rw [h] at h1; simp at h1)
  have hs := sort_any w.heap.size g cap L' w1 (by omega) own
  go_wp2_with fail
  refine hs.mono ?_
  rintro e w2 ⟨rfl, own2, hg2⟩
  have hb2 := hb.grown hg2 hb.size (fun k e => by cases e; exact own.base_le.1)
  go_wp2_with fail
  go_ret
  exact ⟨_, rfl, own2, hb2⟩

end Go.Proofs.Ytodbdcanhefcaaa
