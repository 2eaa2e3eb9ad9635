/-
  Texts put together: Num, SetEq, Size2. By an AI agent.
-/
import Derived.Test.YtcnnijeokefboabMath
import Derived.Test.YtcnnijeokefboabPk30
import Derived.Test.YtcnnijeokefboabPkSet
import Derived.Laws.StructEq
import Derived.BigQuiet
import Derived.Test.YtcnnijeokefboabPk32
namespace Go.Proofs.Ytcnnijeokefboab
open Go.RowKit Cv
set_option linter.unusedVariables false
set_option linter.unusedSimpArgs false
set_option maxRecDepth 100000

end Go.Proofs.Ytcnnijeokefboab

namespace Go.Proofs.Ytcnnijeokefboab
open Go.RowKit Cv
set_option linter.unusedVariables false
set_option linter.unusedSimpArgs false
set_option maxRecDepth 100000

/-- whether two sets have the same bits -/
def eqS (p q : Nat → Bool) : Bool := (List.range' 0 16 1).all fun k => ((partN p k : Nat) : Int) == ((partN q k : Nat) : Int)
theorem eqS_iff (p q : Nat → Bool) : eqS p q = true ↔ ∀ u, u < 1024 → p u = q u := by
  unfold eqS
  rw [List.all_eq_true]
  constructor
  · intro h
    refine partsL_inj (p := p) (q := q) ?_
    refine ext_gi (by rw [partsL_len, partsL_len]) fun i hi => ?_
    rw [partsL_len] at hi
    rw [gi_partsL p i hi, gi_partsL q i hi]
    have := h i (by rw [List.mem_range'_1]; omega)
    simpa using this
  · intro h k hk
    have hk' : k < 16 := by rw [List.mem_range'_1] at hk; omega
    have e : gi (partsL p) k = gi (partsL q) k := by rw [partsL_ext h]
    rw [gi_partsL p k hk', gi_partsL q k hk'] at e
    simpa using e

theorem run_eqSet (p q : Nat → Bool) (w : World) : (Op.equalIn 10000 87 (.agg (setA p)) (.agg (setA q))).run Try.prog w = .ok (eqS p q) w := by
  have he := Try.underlying74
  have hsz := Try.sizeOf74
  have ha := Try.isAgg74
  rw [show (10000 : Nat) = 9998 + 1 + 1 from rfl, Op.equalIn]
  simp only [Sem.run_bind, run_underlying Try.underlying87, Result.andThen_ok, hsz, Std.Legacy.Range.forIn_eq_forIn_range', Std.Legacy.Range.size, Nat.sub_zero, Nat.add_sub_cancel, Nat.div_one]
  unfold eqS
  have hl : ∀ i ∈ List.range' 0 16 1, i < 16 := fun i hi => by rw [List.mem_range'_1] at hi; omega
  generalize List.range' 0 16 1 = l at hl ⊢
  induction l with
  | nil => simp
  | cons i l ih =>
    have hi : i < 16 := hl i (by simp)
    have px : (part 74 (setA p) (i * 1)).run Try.prog w = .ok (.int .u64 (partN p i)) w := by
      simp [part, ha, setA_get p i hi]
    have py : (part 74 (setA q) (i * 1)).run Try.prog w = .ok (.int .u64 (partN q i)) w := by
      simp [part, ha, setA_get q i hi]
    have pe := run_equalIn_int (P := Try.prog) (w := w) 9998 74 .u64 .u64 (partN p i : Int) (partN q i : Int) he
    simp only [List.forIn_cons, Sem.run_bind, px, py, pe, Result.andThen_ok, List.all_cons]
    cases hb : (((partN p i : Nat) : Int) == ((partN q i : Nat) : Int))
    · simp
    · simp only [Bool.not_true, Bool.false_eq_true, if_false, Sem.run_pure, Result.andThen_ok, Bool.true_and]
      exact ih fun j hj => hl j (by simp [hj])

theorem guardSet : Try.prog.eqGuardType Try.prog.depth 87 = false := by kernel_rfl
theorem exec_eqSet {a : Act} {w : World} {p q : Nat → Bool} (o : Oper) (x y : Operand) {t : TypeId} (ho : o.op = .binOp .eql 87 x y t) (hx : a.eval x = .agg (setA p)) (hy : a.eval y = .agg (setA q)) :
    (execOp a.eval o).run Try.prog w = .ok (.value (.bool (eqS p q))) w := by
  unfold execOp
  simp only [ho, hx, hy, Sem.run_bind, Sem.run_pure, Result.andThen_ok, run_eqGuard_agg w _ _ _ _ _ _ guardSet, binOp, Op.equal, Op.maxDepth, run_eqSet]
theorem exec_neSet {a : Act} {w : World} {p q : Nat → Bool} (o : Oper) (x y : Operand) {t : TypeId} (ho : o.op = .binOp .neq 87 x y t) (hx : a.eval x = .agg (setA p)) (hy : a.eval y = .agg (setA q)) :
    (execOp a.eval o).run Try.prog w = .ok (.value (.bool (!eqS p q))) w := by
  unfold execOp
  simp only [ho, hx, hy, Sem.run_bind, Sem.run_pure, Result.andThen_ok, run_eqGuard_agg w _ _ _ _ _ _ guardSet, binOp, Op.equal, Op.maxDepth, run_eqSet]
theorem quiet_exec {P : Program} {o : Oper} {a : Act} {C : World → Prop} {K : Act → Prop} (v : Value) (h : ∀ w, C w → (execOp a.eval o).run P w = .ok (.value v) w) (hk : K (a.put o.dst v)) : o.quiet P a C K :=
  ⟨v, fun w hw => by unfold Oper.quietAt; rw [h w hw]; exact ⟨rfl, rfl⟩, hk⟩

end Go.Proofs.Ytcnnijeokefboab

namespace Go.Proofs.Ytcnnijeokefboab
open Go.RowKit Go.Shelf Cv
set_option linter.unusedVariables false
set_option linter.unusedSimpArgs false
set_option maxRecDepth 100000

attribute [local go_sem] Oper.semAt_some

theorem size_P (S : List Int) (h : ∀ i, i < S.length → 2 ≤ gi S i ∧ gi S i ≤ 4) (r : Int) (hr : 0 ≤ r) : ((ballP S 0 r).length : Int) = sizeN S r := by
  have := ball_count S h 0 r.toNat
  rw [Int.toNat_of_nonneg hr] at this
  exact this

set_option maxHeartbeats 2000000 in
theorem impl_BallSize (ao : Option Addr) (S : List Int) (cap : Nat) (hn : S.length ≤ 4294967296) (r : Int) (hr : -9223372036854775808 ≤ r ∧ r ≤ 9223372036854775807) (w : World) (hS : Ints w ao S) :
    Calls Try.prog 62 #[.agg #[.slice ao S.length cap], .int .i64 r] w fun e w' => e = .returned (.tuple #[.int .i64 (vSize S r), .int .i64 (eBall S 0 r)]) ∧ Below w.heap.size w w' := by
  have B0 : Below w.heap.size w (w.alloc (.cells #[.slice ao S.length cap] 26)) := by go_grown
  by_cases he : eBall S 0 r = 0
  · obtain ⟨hw0, r0, r8⟩ := eBall_zero he
    obtain ⟨hSp, x0, x1⟩ := eWords1 hw0
    have hen : (eBall S 0 r != 0) = false := by simp [he]
    have HE := Lib.hid he
    have HV : Hid (vSize S r = sizeN S r) := Lib.hid (by unfold vSize; rw [if_pos he])
    have HSp := Lib.hid hSp
    have N2 := (nW_bd hSp).2
    clear he hw0 hSp
    refine (callsIn_wide (n := 6)).1 ?_
    refine callsIn_of_wp_marks Try.func62 rfl trivial ?_ rfl
    simp only [Try.ntmps62, List.size_toArray, List.length_cons, List.length_nil, Nat.reduceAdd, Nat.reduceSub, Array.replicate_succ, Array.replicate_zero, List.push_toArray, List.append_toArray, List.nil_append, List.cons_append]
    gi_wp2_with (first
      | (refine ⟨trivial, ?_⟩; gi_at_call 61; refine (callsIn_wide.2 (ballError_any ao S cap hn 0 r _ (hS.below B0))).mono ?_; rintro e w1 ⟨rfl, hb1⟩; have c1 := kept_cell hb1 (cell_new w (.slice ao S.length cap) 26) (lt_alloc _ _); have l1 := lt_of_below hb1 (lt_alloc w (.cells #[.slice ao S.length cap] 26)); have B1 := B0.trans (hb1.mono B0.size); have c2 : ∀ o1, (w1.alloc o1).cell? ⟨w.heap.size, 0, none⟩ = some (.slice ao S.length cap) := fun o1 => kept_cell ((Below.refl w1.heap.size w1).alloc (Nat.le_refl _) o1) c1 l1; clear hb1 c1)
      | (refine ⟨trivial, ?_⟩; gi_at_call 73; refine (callsIn_wide.2 (wordsWithin_any ao S cap HSp.out 0 (by omega) (by omega) r _ (hS.below (B1.alloc B1.size _)))).mono ?_; rintro e w2 ⟨Bb, g, rfl, lB, hB, hM, hBg, hBlo, hb2⟩)
      | fail)
    have s1 := B1.size
    have s2 := hb2.size
    simp only [World.size_alloc] at s2
    have g1 := hM.base_le
    rw [World.size_alloc] at g1
    have bO : Boxed w2 w1.heap.size 2 (.int .i64 ((0 : Nat) : Int)) := (hb2.block _ (by simp)).trans (Boxed.new w1 2 (.int .i64 0))
    have B2 : Below w.heap.size w w2 := (B1.alloc s1 _).trans (hb2.mono (by simp; omega))
    obtain ⟨D, hG, hD⟩ := own_heap hM
    have hD' : ∀ i, i < S.length → D[i]? = some (.int .i64 (dig S 0 i)) := fun i hi => by rw [hD i (by rw [digs_length]; exact hi), gi_digs _ _ _ hi]
    have hNl : (ballP S 0 r).length ≤ 1024 := by
      have := walkL_len S HSp.out.bd 0 r S.length (Nat.le_refl _) 0 0 r0
      rw [walk_ball S HSp.out.bd 0 r r0, restP_all] at this; omega
    have HZ : Hid (((ballP S 0 r).length : Int) = sizeN S r) := Lib.hid (size_P S HSp.out.bd r r0)
    refine wpIn_rangeFunc_ownG rfl (by omega) (gf := 84) (lb := #[.pointer (some ⟨Bb, 0, none⟩)]) rfl trivial (enters_of Try.func84 (by kernel_rfl) rfl)
      (all_stops Fence.wide rfl trivial trivial rfl (6 - 1) S HSp.out 0 r r0 r8 ao cap Bb g D w w2 B2 hB hS hG hD') kpB_t (kpB_b B2.size) (Below.refl _ _) (fun _ => rfl)
      (fun (pre : List (WP S 0 r)) W => Boxed W w1.heap.size 2 (.int .i64 (pre.length : Int)) ∧ Below w.heap.size w W)
      (fun _ _ _ => False)
      (OwnFrom.and (Own.from (boxed_own w1.heap.size 2 (fun pre : List (WP S 0 r) => .int .i64 (pre.length : Int))) _) (ownFrom_below (Nat.le_refl _) B2.size))
      (fun _ _ _ _ _ hs _ _ => hs)
      ⟨bO, B2⟩
      (fun p => { tmps := #[.agg #[.slice ao S.length cap], .int .i64 r, .pointer (some ⟨w.heap.size, 0, none⟩), undef, .int .i64 0, .int .i64 0, .int .i64 (eBall S 0 r), .pointer (some ⟨w1.heap.size, 0, none⟩), .agg #[.slice ao S.length cap], .int .i64 r, .int .i64 (eBall S 0 r), .int .i64 (eBall S 0 r), .bool false, undef, .agg #[.slice ao S.length cap], .int .i64 r, .func (.func 84) #[] #[.pointer (some ⟨Bb, 0, none⟩)], .int .i64 p.1.1, .int .i64 p.1.2, undef, undef, undef], defers := [] }) ?assign ?body ?done ?stop
    case assign =>
      intro l p W K hK
      dsimp only [encW]
      gi_wp2
      simpa using hK
    case body =>
      rintro l pre p W ⟨hv, hB'⟩ hlt
      have hc := hv.cell
      have hf := hv.frozen
      have hgn : g ≠ w1.heap.size := by omega
      gi_wp2
      exact ⟨(KeepsOthers.setCell _ _ _).from _, ⟨(Below.refl _ W).setCell (by simp; omega) _, keepsT_set hv (by decide), KeepsAt.set hgn⟩, by have h := hv.set (.int .i64 ((pre.length : Int) + 1)); rwa [show ((pre.length : Int) + 1) = ((pre ++ [p]).length : Int) by simp] at h ⊢, hB'.setCell (by simp; omega) _⟩
    case done =>
      rintro Dd ys W hDd HY ⟨hv, hB'⟩ hK
      have hc := hv.cell
      have HL : Hid ((ys.length : Int) = sizeN S r) := Lib.hid (by rw [← HZ.out, ← HY.out, List.length_map])
      gi_wp2
      refine ⟨by simp, .inl ⟨_, _, rfl, run_takeDeferred hK, ?_⟩⟩
      exact ⟨_, results_tmp2 rfl _ _ _, by rw [HE.out, HV.out, ← HL.out]; rfl, hB'.trans (belowK_b (w := w2) B2.size W Dd _ _ hDd hK rfl rfl)⟩
    case stop =>
      rintro Dd c pre W _ _ h _
      exact h.elim
  · have hen : (eBall S 0 r != 0) = true := by simpa using he
    have HV : Hid (vSize S r = 0) := Lib.hid (by unfold vSize; rw [if_neg he])
    clear he
    go_enter Try.func62, Try.ntmps62
    go_wp2_with fail
    refine (ballError_any ao S cap hn 0 r _ (hS.below B0)).mono ?_
    rintro e w1 ⟨rfl, hb⟩
    go_wp2_with fail
    go_ret2
    exact ⟨by rw [HV.out]; try rfl, B0.trans (hb.mono B0.size)⟩

end Go.Proofs.Ytcnnijeokefboab
