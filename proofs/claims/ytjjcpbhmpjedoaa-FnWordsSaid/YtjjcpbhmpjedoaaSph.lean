/-
  The contract of the program's spheres. By an AI agent.
-/
import Derived.Test.YtjjcpbhmpjedoaaBall
namespace Go.Proofs.Ytjjcpbhmpjedoaa
open Go.RowKit Go.Shelf Cv
set_option linter.unusedVariables false
set_option linter.unusedSimpArgs false
set_option maxRecDepth 100000

attribute [local go_sem] Oper.semAt_some

def seqS {S : List Int} {x r : Int} (pre : List (WP S x r)) : List Int := ((pre.map Subtype.val).filter fun p => decide (p.2 = r)).map Prod.fst
theorem seqS_yes {S : List Int} {x r : Int} (pre : List (WP S x r)) (p : WP S x r) (h : p.1.2 = r) : seqS (pre ++ [p]) = seqS pre ++ [p.1.1] := by simp [seqS, h]
theorem seqS_no {S : List Int} {x r : Int} (pre : List (WP S x r)) (p : WP S x r) (h : ¬ p.1.2 = r) : seqS (pre ++ [p]) = seqS pre := by simp [seqS, h]
theorem seqS_len {S : List Int} {x r : Int} (pre : List (WP S x r)) : (seqS pre).length ≤ pre.length := by
  unfold seqS
  rw [List.length_map]
  exact Nat.le_trans (List.length_filter_le _ _) (by simp)
theorem seqS_eq {S : List Int} {x r : Int} (ys : List (WP S x r)) : seqS ys = ((ys.map Subtype.val).filter fun p => decide (p.2 = r)).map Prod.fst := rfl

set_option maxHeartbeats 2000000 in
theorem impl_SphereOf (ao : Option Addr) (S : List Int) (cap : Nat) (hn : S.length ≤ 4294967296) (x : Int) (hx : -9223372036854775808 ≤ x ∧ x ≤ 9223372036854775807) (r : Int) (hr : -9223372036854775808 ≤ r ∧ r ≤ 9223372036854775807) (w : World) (hS : Ints w ao S) :
    Calls Try.prog 24 #[.agg #[.slice ao S.length cap], .int .i64 x, .int .i64 r] w fun e w' => ∃ v, e = .returned (.tuple #[v, .int .i64 (eBall S x r)]) ∧ OwnInts w' w.heap.size v (vSph S x r) ∧ Below w.heap.size w w' := by
  obtain ⟨W0, hW0⟩ : ∃ W0, W0 = (w.alloc (.cells #[.slice ao S.length cap] 26)).alloc (.cells #[.int .i64 r] 2) := ⟨_, rfl⟩
  have B0 : Below w.heap.size w W0 := by rw [hW0]; go_grown
  have hlt0 : w.heap.size + 1 < W0.heap.size := by rw [hW0]; simp
  have C0 : W0.cell? ⟨w.heap.size, 0, none⟩ = some (.slice ao S.length cap) := by rw [hW0]; exact kept_cell ((Below.refl _ _).alloc (Nat.le_refl _) _) (cell_new _ _ _) (lt_alloc _ _)
  have C1 : W0.cell? ⟨w.heap.size + 1, 0, none⟩ = some (.int .i64 r) := by
    have h := cell_new (w.alloc (.cells #[.slice ao S.length cap] 26)) (.int .i64 r) 2
    rw [World.size_alloc] at h
    rw [hW0]; exact h
  have HW0 := Lib.hid hW0
  clear hW0
  by_cases he : eBall S x r = 0
  · obtain ⟨hw0, r0, r8⟩ := eBall_zero he
    obtain ⟨hSp, x0, x1⟩ := eWords1 hw0
    have hen : (eBall S x r != 0) = false := by simp [he]
    have HE := Lib.hid he
    have HV : Hid (vSph S x r = sphW S x r) := Lib.hid (by unfold vSph; rw [if_pos he])
    have HSp := Lib.hid hSp
    have N2 := (nW_bd hSp).2
    obtain ⟨i0, hi, hz0, hz1, hz2⟩ := info_parts infoI64
    clear he hw0 hSp
    refine (callsIn_wide (n := 6)).1 ?_
    refine callsIn_of_wp_marks Try.func24 rfl trivial ?_ rfl
    simp only [Try.ntmps24, List.size_toArray, List.length_cons, List.length_nil, Nat.reduceAdd, Nat.reduceSub, Array.replicate_succ, Array.replicate_zero, List.push_toArray, List.append_toArray, List.nil_append, List.cons_append]
    gi_wp2_with fail
    rw [← HW0.out]
    gi_wp2_with (first
      | (refine ⟨trivial, ?_⟩; gi_at_call 61; refine (callsIn_wide.2 (ballError_any ao S cap hn x r _ (hS.below B0))).mono ?_; rintro e w1 ⟨rfl, B1⟩; have l1 := B1.size; have c2 : ∀ o1 o2, ((w1.alloc o1).alloc o2).cell? ⟨w.heap.size, 0, none⟩ = some (.slice ao S.length cap) := fun o1 o2 => kept_cell (((Below.refl w1.heap.size w1).alloc (Nat.le_refl _) o1).alloc (by simp) o2) (kept_cell B1 C0 (by omega)) (by omega); have c3 : ∀ o1 o2, ((w1.alloc o1).alloc o2).cell? ⟨w.heap.size + 1, 0, none⟩ = some (.int .i64 r) := fun o1 o2 => kept_cell (((Below.refl w1.heap.size w1).alloc (Nat.le_refl _) o1).alloc (by simp) o2) (kept_cell B1 C1 (by omega)) (by omega))
      | (refine ⟨trivial, ?_⟩; gi_at_call 62; refine (callsIn_wide.2 (wordsWithin_any ao S cap HSp.out x x0 (by omega) r _ (hS.below (B0.trans (((B1.alloc B1.size _).alloc (by have := B1.size; simp; omega) _).mono (by omega)))))).mono ?_; rintro e w2 ⟨Bb, g, rfl, lB, hB, hM, hBg, hBlo, hb2⟩)
      | fail)
    have s1 := B1.size
    have s2 := hb2.size
    simp only [World.size_alloc] at s2
    have g1 := hM.base_le
    rw [World.size_alloc, World.size_alloc] at g1
    have bO : Boxed w2 (w1.heap.size + 1) 24 (.slice (some ⟨w1.heap.size, 0, none⟩) 0 0) := by
      have h := Boxed.new (w1.alloc (.cells #[] 2)) 24 (.slice (some ⟨w1.heap.size, 0, none⟩) 0 0)
      rw [World.size_alloc] at h
      exact (hb2.block _ (by simp)).trans h
    have own0 : OwnInts w2 W0.heap.size (.slice (some ⟨w1.heap.size, 0, none⟩) 0 0) [] := ((own_empty w1 W0.heap.size s1 rfl).alloc _).below hb2
    have B2 : Below W0.heap.size W0 w2 := ((B1.alloc s1 _).alloc (by simp; omega) _).trans (hb2.mono (by simp; omega))
    obtain ⟨D, hG, hD⟩ := own_heap hM
    have hD' : ∀ i, i < S.length → D[i]? = some (.int .i64 (dig S x i)) := fun i hi => by rw [hD i (by rw [digs_length]; exact hi), gi_digs _ _ _ hi]
    have hNl : (ballP S x r).length ≤ 1024 := by
      have := walkL_len S HSp.out.bd x r S.length (Nat.le_refl _) 0 0 r0
      rw [walk_ball S HSp.out.bd x r r0, restP_all] at this; omega
    refine wpIn_rangeFunc_ownG rfl (by omega) (gf := 94) (lb := #[.pointer (some ⟨Bb, 0, none⟩)]) rfl trivial (enters_of Try.func94 (by kernel_rfl) rfl)
      (all_stops Fence.wide rfl trivial trivial rfl (6 - 1) S HSp.out x r r0 r8 ao cap Bb g D W0 w2 B2 hB (hS.below B0) hG hD') kpB_t (kpB_b B2.size) (Below.refl _ _) (fun _ => rfl)
      (fun pre W => (∃ v, Boxed W (w1.heap.size + 1) 24 v ∧ W.ownsRow W0.heap.size 2 1 v (seqS pre).length ((seqS pre).map (Value.int .i64)) ∧ v.ownBlock ≠ some g) ∧ (Below W0.heap.size W0 W ∧ w2.heap.size ≤ W.heap.size))
      (fun _ _ _ => False)
      (OwnFrom.and (Own.from (holdsRow_own W0.heap.size (w1.heap.size + 1) 24 2 1 (fun pre => (seqS pre).length) (fun pre => (seqS pre).map (Value.int .i64)) (fun _ v => v.ownBlock ≠ some g)) _) (OwnFrom.and (ownFrom_below (Nat.le_refl _) B2.size) (fun _ _ _ _ hs hg _ => Nat.le_trans hs hg.size)))
      (fun _ _ _ _ _ hs _ _ => hs)
      ⟨⟨_, bO, own0, by simp [Value.ownBlock]; omega⟩, B2, Nat.le_refl _⟩
      (fun p => { tmps := #[.agg #[.slice ao S.length cap], .int .i64 x, .int .i64 r, .pointer (some ⟨w.heap.size, 0, none⟩), undef, .pointer (some ⟨w.heap.size + 1, 0, none⟩), .slice none 0 0, .int .i64 0, .int .i64 (eBall S x r), .pointer (some ⟨w1.heap.size + 1, 0, none⟩), .int .i64 p.1.1, .int .i64 p.1.2, .agg #[.slice ao S.length cap], .int .i64 x, .int .i64 r, .int .i64 (eBall S x r), .int .i64 (eBall S x r), .bool false, undef, .slice (some ⟨w1.heap.size, 0, none⟩) 0 0, .agg #[.slice ao S.length cap], .int .i64 x, .int .i64 r, .func (.func 94) #[] #[.pointer (some ⟨Bb, 0, none⟩)], .int .i64 p.1.1, .int .i64 p.1.2, undef, undef, undef, undef, undef, undef, undef, undef], defers := [] }) ?assign ?body ?done ?stop
    case assign =>
      intro l p W K hK
      dsimp only [encW]
      gi_wp2
      exact hK
    case body =>
      rintro l pre p W ⟨⟨v, hv, hrow, hng⟩, hB', hsz⟩ hlt
      have hc := hv.cell
      have hcr := kept_cell hB' C1 hlt0
      by_cases hf : p.1.2 = r
      · have hfb : (p.1.2 == r) = true := by simpa using hf
        have HQ := Lib.hid (seqS_yes pre p hf)
        clear hf
        gi_wp2_with (gi_at_builtin; refine wpListIn_append_int_at rfl _ _ rfl W0.heap.size _ _ rfl (OwnInts.alloc hrow _) W.heap.size _ rfl (cell_new _ _ _) (by have := seqS_len pre; omega) (by have := hB'.size; simp; omega) ?_; intro v' w3 hown' hgrow hat; obtain ⟨k1, k2, k3, k4, k5, k6⟩ := app_step hv hrow hB'.size (by omega) hng (by omega) (by omega) hown' hgrow hat; obtain ⟨g', cap', rfl⟩ := own_snoc hown'; have hc1 := k1.cell; have hf1 := k1.frozen)
        exact ⟨k4.from _, k5, ⟨_, k2, by rw [HQ.out]; exact k3, k6⟩, hB'.trans k5.1, by have := k5.1.size; omega⟩
      · have hfb : (p.1.2 == r) = false := by simpa using hf
        have HQ := Lib.hid (seqS_no pre p hf)
        clear hf
        gi_wp2
        exact ⟨KeepsFrom.refl _ _, ⟨Below.refl _ _, KeepsT.refl _ _, KeepsAt.refl _ _⟩, ⟨v, hv, by rw [HQ.out]; exact hrow, hng⟩, hB', hsz⟩
    case done =>
      rintro Dd ys W hDd HY ⟨⟨v, hv, hrow, hng⟩, hB', hsz⟩ hK
      have hc := hv.cell
      have HL : Hid (seqS ys = sphW S x r) := Lib.hid (by rw [← sphW_P, ← HY.out]; exact seqS_eq ys)
      gi_wp2
      refine ⟨by simp, .inl ⟨_, _, rfl, run_takeDeferred hK, ?_⟩⟩
      exact ⟨_, results_tmp2 rfl _ _ _, v, by rw [HE.out]; rfl, by rw [HV.out, ← HL.out]; exact OwnInts.rebase (ownsRow_putObj hrow _ hK rfl) B0.size, B0.trans ((hB'.trans (belowK_b (w := w2) B2.size W Dd _ _ hDd hK rfl rfl)).mono B0.size)⟩
    case stop =>
      rintro Dd c pre W _ _ h _
      exact h.elim
  · have hen : (eBall S x r != 0) = true := by simpa using he
    have HV : Hid (vSph S x r = []) := Lib.hid (by unfold vSph; rw [if_neg he])
    clear he
    go_enter Try.func24, Try.ntmps24
    go_wp2_with fail
    rw [← HW0.out]
    go_wp2_with fail
    refine (ballError_any ao S cap hn x r _ (hS.below B0)).mono ?_
    rintro e w1 ⟨rfl, hb⟩
    go_wp2_with fail
    go_ret2
    exact ⟨_, rfl, by rw [HV.out]; exact World.ownsRow_nil _ _ _ _, B0.trans (hb.mono B0.size)⟩

end Go.Proofs.Ytjjcpbhmpjedoaa
