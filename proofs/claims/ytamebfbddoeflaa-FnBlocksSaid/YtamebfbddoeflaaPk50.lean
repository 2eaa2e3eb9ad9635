/-
  Texts put together: SetEq, Ball2, Times, Unc, Unc2, CovI, Lws, Sp5. By an AI agent.
-/
import Derived.Test.YtamebfbddoeflaaPkSet
import Derived.Laws.StructEq
import Derived.BigQuiet
import Derived.Test.YtamebfbddoeflaaPkMath
import Derived.Test.YtamebfbddoeflaaPkErr2
import Derived.Test.YtamebfbddoeflaaPkAppend
import Derived.Test.YtamebfbddoeflaaPkDist
import Derived.Test.YtamebfbddoeflaaPkSums2
import Derived.Deep.RegionHeld3
import Derived.Test.YtamebfbddoeflaaPk20
import Derived.Test.YtamebfbddoeflaaPk49
import Derived.Test.YtamebfbddoeflaaPk33
import Derived.Test.YtamebfbddoeflaaPkHelp
namespace Go.Proofs.Ytamebfbddoeflaa
open Go.RowKit Cv
set_option linter.unusedVariables false
set_option linter.unusedSimpArgs false
set_option maxRecDepth 100000

/-- whether two sets have the same bits -/
def eqS (p q : Nat → Bool) : Bool := (List.range' 0 16 1).all fun k => ((partN p k : Nat) : Int) == ((partN q k : Nat) : Int)
theorem eqS_iff (p q : Nat → Bool) : eqS p q = true ↔ ∀ u, u < 1024 → p u = q u := by
  unfold eqS
  rw [List.all_eq_true]
  constructor
  · intro h
    refine partsL_inj (p := p) (q := q) ?_
    refine ext_gi (by rw [partsL_len, partsL_len]) fun i hi => ?_
    rw [partsL_len] at hi
    rw [gi_partsL p i hi, gi_partsL q i hi]
    have := h i (by rw [List.mem_range'_1]; omega)
    simpa using this
  · intro h k hk
    have hk' : k < 16 := by rw [List.mem_range'_1] at hk; omega
    have e : gi (partsL p) k = gi (partsL q) k := by rw [partsL_ext h]
    rw [gi_partsL p k hk', gi_partsL q k hk'] at e
    simpa using e

theorem run_eqSet (p q : Nat → Bool) (w : World) : (Op.equalIn 10000 58 (.agg (setA p)) (.agg (setA q))).run Try.prog w = .ok (eqS p q) w := by
  have he := Try.underlying56
  have hsz := Try.sizeOf56
  have ha := Try.isAgg56
  rw [show (10000 : Nat) = 9998 + 1 + 1 from rfl, Op.equalIn]
  simp only [Sem.run_bind, run_underlying Try.underlying58, Result.andThen_ok, hsz, Std.Legacy.Range.forIn_eq_forIn_range', Std.Legacy.Range.size, Nat.sub_zero, Nat.add_sub_cancel, Nat.div_one]
  unfold eqS
  have hl : ∀ i ∈ List.range' 0 16 1, i < 16 := fun i hi => by rw [List.mem_range'_1] at hi; omega
  generalize List.range' 0 16 1 = l at hl ⊢
  induction l with
  | nil => simp
  | cons i l ih =>
    have hi : i < 16 := hl i (by simp)
    have px : (part 56 (setA p) (i * 1)).run Try.prog w = .ok (.int .u64 (partN p i)) w := by
      simp [part, ha, setA_get p i hi]
    have py : (part 56 (setA q) (i * 1)).run Try.prog w = .ok (.int .u64 (partN q i)) w := by
      simp [part, ha, setA_get q i hi]
    have pe := run_equalIn_int (P := Try.prog) (w := w) 9998 56 .u64 .u64 (partN p i : Int) (partN q i : Int) he
    simp only [List.forIn_cons, Sem.run_bind, px, py, pe, Result.andThen_ok, List.all_cons]
    cases hb : (((partN p i : Nat) : Int) == ((partN q i : Nat) : Int))
    · simp
    · simp only [Bool.not_true, Bool.false_eq_true, if_false, Sem.run_pure, Result.andThen_ok, Bool.true_and]
      exact ih fun j hj => hl j (by simp [hj])

theorem guardSet : Try.prog.eqGuardType Try.prog.depth 58 = false := by kernel_rfl
theorem exec_eqSet {a : Act} {w : World} {p q : Nat → Bool} (o : Oper) (x y : Operand) {t : TypeId} (ho : o.op = .binOp .eql 58 x y t) (hx : a.eval x = .agg (setA p)) (hy : a.eval y = .agg (setA q)) :
    (execOp a.eval o).run Try.prog w = .ok (.value (.bool (eqS p q))) w := by
  unfold execOp
  simp only [ho, hx, hy, Sem.run_bind, Sem.run_pure, Result.andThen_ok, run_eqGuard_agg w _ _ _ _ _ _ guardSet, binOp, Op.equal, Op.maxDepth, run_eqSet]
theorem quiet_exec {P : Program} {o : Oper} {a : Act} {C : World → Prop} {K : Act → Prop} (v : Value) (h : ∀ w, C w → (execOp a.eval o).run P w = .ok (.value v) w) (hk : K (a.put o.dst v)) : o.quiet P a C K :=
  ⟨v, fun w hw => by unfold Oper.quietAt; rw [h w hw]; exact ⟨rfl, rfl⟩, hk⟩

end Go.Proofs.Ytamebfbddoeflaa

namespace Go.Proofs.Ytamebfbddoeflaa
open Go.RowKit Cv
set_option linter.unusedVariables false
set_option linter.unusedSimpArgs false
set_option maxRecDepth 100000

end Go.Proofs.Ytamebfbddoeflaa

namespace Go.Proofs.Ytamebfbddoeflaa
open Go.RowKit Cv
set_option linter.unusedVariables false
set_option linter.unusedSimpArgs false
set_option maxRecDepth 100000

end Go.Proofs.Ytamebfbddoeflaa

namespace Go.Proofs.Ytamebfbddoeflaa
open Go.RowKit Cv
set_option linter.unusedVariables false
set_option linter.unusedSimpArgs false
set_option maxRecDepth 100000

end Go.Proofs.Ytamebfbddoeflaa

namespace Go.Proofs.Ytamebfbddoeflaa
open Go.RowKit Cv
set_option linter.unusedVariables false
set_option linter.unusedSimpArgs false
set_option maxRecDepth 100000

end Go.Proofs.Ytamebfbddoeflaa

namespace Go.Proofs.Ytamebfbddoeflaa
open Go.RowKit Cv
set_option linter.unusedVariables false
set_option linter.unusedSimpArgs false
set_option maxRecDepth 100000

/-- the words that are covered are all words just where none is uncovered -/
theorem covS_eq (S C : List Int) (r : Int) (hN : nW S ≤ 1024) : decide ((selL (uncP S C r) (nW S).toNat).length = 0) = eqS (covN S C r) (allN S) := by
  rw [Bool.eq_iff_iff, decide_eq_true_eq, selL_nil, eqS_iff]
  constructor
  · intro h u hu
    rw [covN_in, allN]
    by_cases hn : u < (nW S).toNat
    · have h1 := h u hn
      rw [uncP_in, decide_eq_false_iff_not, Classical.not_not] at h1
      simp [hn, h1]
    · simp [hn]
  · intro h u hu
    have h1 := h u (by omega)
    rw [covN_in, allN, Bool.eq_iff_iff, decide_eq_true_eq, decide_eq_true_eq] at h1
    rw [uncP_in, decide_eq_false_iff_not, Classical.not_not]
    exact (h1.2 hu).2
set_option maxHeartbeats 1000000 in
theorem impl_CoversSpace (ao : Option Addr) (S : List Int) (cap : Nat) (hn : S.length ≤ 4294967296) (ac : Option Addr) (C : List Int) (capc : Nat) (hnc : C.length ≤ 4294967296) (r : Int) (hr : -9223372036854775808 ≤ r ∧ r ≤ 9223372036854775807) (w : World) (hS : Ints w ao S) (hC : Ints w ac C) :
    Calls Try.prog 15 #[.agg #[.slice ao S.length cap], .slice ac C.length capc, .int .i64 r] w fun e w' => e = .returned (.tuple #[.bool (vCovS S C r), .int .i64 (eCov S C r)]) ∧ Below w.heap.size w w' := by
  have B0 : Below w.heap.size w (w.alloc (.cells #[.slice ao S.length cap] 26)) := by go_grown
  have HQ := Lib.hid (eCov2_nil S C r)
  by_cases hq : eCov S C r = 0
  · obtain ⟨hz, r1, r2⟩ := eCov_zero hq
    obtain ⟨hSp, hc1, hc2⟩ := eCode_zero hz
    obtain ⟨N1, N2⟩ := nW_bd hSp
    have hlen := code_len hSp hc1 hc2
    have HSp := Lib.hid hSp
    have HC1 : Hid (∀ i, i < C.length → 0 ≤ gi C i ∧ gi C i ≤ 9223372036854775807) := Lib.hid fun i h => by have := hc1 i h; omega
    clear hc1 hc2 hSp
    have hqn : (eCov2 S C [] r != 0) = false := by rw [HQ.out]; simp [hq]
    have HQ0 := Lib.hid hq
    have HV : Hid (vCovS S C r = eqS (covN S C r) (allN S)) := Lib.hid (by
      unfold vCovS; rw [if_pos hq, covS_eq S C r (by omega)])
    clear hq hz
    go_enter Try.func15, Try.ntmps15
    go_wp2_with fail
    refine (coverError_n ao S cap hn ac C capc hnc r none [] 0 0 rfl (by omega) _ (hS.below B0) (hC.below B0) (.inl rfl)).mono ?_
    rintro e w1 ⟨rfl, hb⟩
    have c1 := kept_cell hb (cell_new w (.slice ao S.length cap) 26) (lt_alloc _ _)
    have B1 : Below w.heap.size w w1 := B0.trans (hb.mono B0.size)
    clear hb B0
    go_wp2_with fail
    have fc := fam_cell c1
    refine wp_region_fam (by kernel_rfl) (by kernel_rfl) ?_
    repeat (go_big_quiet_step (first | (go_at_call 47; exact fam_calls (coveredWords_any ao S cap HSp.out ac C capc (by omega) HC1.out r r1 r2 _ (hS.below (B1.trans ((fam_below _).mono B1.size))) (hC.below (B1.trans ((fam_below _).mono B1.size))))) | (go_at_call 48; exact fam_calls (wholeSet_any ao S cap HSp.out _ (hS.below (B1.trans ((fam_below _).mono B1.size)))))))
    go_big_quiet_want
    refine quiet_exec _ (fun w _ => exec_eqSet (p := covN S C r) (q := allN S) _ (.tmp 19) (.tmp 21) rfl rfl rfl) ?_
    go_big_quiet_on
    simp only [Act.put, List.setIfInBounds_toArray, List.set_cons_zero, List.set_cons_succ]
    repeat (go_big_quiet_step (fail))
    refine wpQuiet_nil ?_
    rintro _ ⟨y, rfl⟩
    have hb2 := fam_below y
    generalize fam w1 y = w2 at hb2 ⊢
    clear fc
    go_wp2_with fail
    go_ret2
    exact ⟨by rw [HQ0.out, HV.out]; try rfl, B1.trans (hb2.mono B1.size)⟩
  · have HV : Hid (vCovS S C r = false) := Lib.hid (by unfold vCovS; rw [if_neg hq])
    have hqn : (eCov2 S C [] r != 0) = true := by rw [HQ.out]; simpa using hq
    clear hq
    go_enter Try.func15, Try.ntmps15
    go_wp2_with fail
    refine (coverError_n ao S cap hn ac C capc hnc r none [] 0 0 rfl (by omega) _ (hS.below B0) (hC.below B0) (.inl rfl)).mono ?_
    rintro e w1 ⟨rfl, hb⟩
    go_wp2_with fail
    go_ret2
    exact ⟨by rw [HV.out, HQ.out]; try rfl, B0.trans (hb.mono B0.size)⟩


end Go.Proofs.Ytamebfbddoeflaa

namespace Go.Proofs.Ytamebfbddoeflaa
open Go.RowKit Cv
set_option linter.unusedVariables false
set_option linter.unusedSimpArgs false
set_option maxRecDepth 100000

theorem big_any (a : Option Addr) (n cap : Nat) (w : World) :
    Calls Try.prog 4 #[.slice a n cap] w fun e w' => e = .returned (.bool (decide (4096 < n))) ∧ Below w.heap.size w w' := by
  have e1 : decide ((4096 : Int) < (n : Int)) = decide (4096 < n) := by
    by_cases h : 4096 < n
    · rw [decide_eq_true h, decide_eq_true (by omega)]
    · rw [decide_eq_false h, decide_eq_false (by omega)]
  by_cases h : 4096 < n
  · have i1 : (4096 : Int) < (n : Int) := by omega
    rw [decide_eq_true h]
    clear e1 h
    go_enter Try.func4, Try.ntmps4
    go_wp2_with fail
    go_ret
    exact ⟨rfl, Below.refl _ _⟩
  · have i1 : ¬ (4096 : Int) < (n : Int) := by omega
    rw [decide_eq_false h]
    clear e1 h
    go_enter Try.func4, Try.ntmps4
    go_wp2_with fail
    go_ret
    exact ⟨rfl, Below.refl _ _⟩

theorem likeInts_same (a a' : Option Addr) (S : List Int) (c c' : Nat) (w : World) (hn : S.length ≤ 4294967296) (h : Ints w a S) (h' : Ints w a' S) :
    Calls Try.prog 8 #[.slice a S.length c, .slice a' S.length c'] w fun e w' => e = .returned (.bool true) ∧ Below w.heap.size w w' := by
  go_enter Try.func8, Try.ntmps8
  go_wp2
  go_loopw [5] (fun i wr => ∃ k : Nat, k ≤ S.length ∧ i = .int .i64 k ∧ Below w.heap.size w wr) (fun i _ => S.length - (intOf i).toNat)
  case atStart => exact ⟨0, Nat.zero_le _, rfl, Below.refl _ _⟩
  case round =>
    obtain ⟨k, hk, rfl, hbel⟩ := hrel
    by_cases hlt : k < S.length
    · obtain ⟨b, o, rfl, hb, hc⟩ := h.at hlt
      obtain ⟨b', o', rfl, hb', hc'⟩ := h'.at hlt
      have hck : wr.cell? ⟨b, o + k, none⟩ = some (.int .i64 (gi S k)) := (hbel.cell (p := ⟨b, o + k, none⟩) hb).trans (hc k hlt)
      have hck' : wr.cell? ⟨b', o' + k, none⟩ = some (.int .i64 (gi S k)) := (hbel.cell (p := ⟨b', o' + k, none⟩) hb').trans (hc' k hlt)
      clear hc hc'
      go_wp2
      go_quiet (fail)
      go_wp2
      go_roundw
      case rel => exact ⟨k + 1, by omega, by go_num, below_drewN hbel _⟩
      case measure => simp [intOf]; omega
    · go_wp2
      go_ret
      exact ⟨rfl, hbel⟩

/-- is x among the first k numbers of S -/
def hasTo (S : List Int) (x : Int) : Nat → Bool
  | 0 => false
  | k + 1 => hasTo S x k || gi S k == x
theorem hasTo_iff (S : List Int) (x : Int) : ∀ k, hasTo S x k = true ↔ ∃ j, j < k ∧ gi S j = x := by
  intro k
  induction k with
  | zero => simp [hasTo]
  | succ k ih =>
    simp only [hasTo, Bool.or_eq_true, ih, beq_iff_eq]
    constructor
    · rintro (⟨j, hj, e⟩ | e)
      · exact ⟨j, by omega, e⟩
      · exact ⟨k, by omega, e⟩
    · rintro ⟨j, hj, e⟩
      by_cases h : j = k
      · subst h; exact .inr e
      · exact .inl ⟨j, by omega, e⟩
theorem hasInt_any (a : Option Addr) (S : List Int) (c : Nat) (x : Int) (w : World) (hn : S.length ≤ 4294967296) (h : Ints w a S) :
    Calls Try.prog 9 #[.slice a S.length c, .int .i64 x] w fun e w' => e = .returned (.bool (hasTo S x S.length)) ∧ Below w.heap.size w w' := by
  obtain ⟨V, hV⟩ : ∃ V, V = hasTo S x S.length := ⟨_, rfl⟩
  rw [← hV]
  have HV := Lib.hid hV
  clear hV
  go_enter Try.func9, Try.ntmps9
  go_wp2
  go_loopw [5] (fun i wr => ∃ k : Nat, k ≤ S.length ∧ i = .int .i64 k ∧ Hid (hasTo S x k = false) ∧ Below w.heap.size w wr) (fun i _ => S.length - (intOf i).toNat)
  case atStart => exact ⟨0, Nat.zero_le _, rfl, Lib.hid rfl, Below.refl _ _⟩
  case round =>
    obtain ⟨k, hk, rfl, HK, hbel⟩ := hrel
    by_cases hlt : k < S.length
    · obtain ⟨b, o, rfl, hb, hc⟩ := h.at hlt
      have hck : wr.cell? ⟨b, o + k, none⟩ = some (.int .i64 (gi S k)) := (hbel.cell (p := ⟨b, o + k, none⟩) hb).trans (hc k hlt)
      clear hc
      by_cases he : gi S k = x
      · have hbe : (gi S k == x) = true := by simpa using he
        have hVt : Hid (V = true) := Lib.hid (by rw [HV.out]; exact (hasTo_iff S x _).2 ⟨k, hlt, he⟩)
        clear he
        go_wp2
        go_ret
        exact ⟨by rw [hVt.out]; rfl, hbel⟩
      · have hbe : (gi S k == x) = false := by simpa using he
        have HK' : Hid (hasTo S x (k + 1) = false) := Lib.hid (by show (hasTo S x k || gi S k == x) = false; rw [HK.out, hbe]; rfl)
        clear he
        go_wp2
        go_roundw
        case rel => exact ⟨k + 1, by omega, by go_num, HK', hbel⟩
        case measure => simp [intOf]; omega
    · have hVf : Hid (V = false) := Lib.hid (by rw [HV.out, show S.length = k by omega]; exact HK.out)
      go_wp2
      go_ret
      exact ⟨by rw [hVf.out]; rfl, hbel⟩

end Go.Proofs.Ytamebfbddoeflaa

namespace Go.Proofs.Ytamebfbddoeflaa
open Go.RowKit Cv
set_option linter.unusedVariables false
set_option linter.unusedSimpArgs false
set_option maxRecDepth 100000

set_option maxHeartbeats 2000000 in
theorem spaces5_same (a a' : Option Addr) (S : List Int) (c c' : Nat) (w : World) (hn : S.length ≤ 4294967296) (h : Ints w a S) (h' : Ints w a' S) :
    Calls Try.prog 13 #[.agg #[.slice a S.length c], .agg #[.slice a' S.length c']] w fun e w' => e = .returned (.bool true) ∧ Below w.heap.size w w' := by
  obtain ⟨W, hW⟩ : ∃ W, W = (w.alloc (.cells #[.slice a S.length c] 26)).alloc (.cells #[.slice a' S.length c'] 26) := ⟨_, rfl⟩
  have B : Below w.heap.size w W := by rw [hW]; go_grown
  have hl := likeInts_same a a' S c c' W hn (h.below B) (h'.below B)
  have c0 : W.cell? ⟨w.heap.size, 0, none⟩ = some (.slice a S.length c) := by
    rw [hW]; exact kept_cell ((Below.refl _ (w.alloc (.cells #[.slice a S.length c] 26))).alloc (Nat.le_refl _) _) (cell_new _ _ _) (by simp)
  have c1 : W.cell? ⟨w.heap.size + 1, 0, none⟩ = some (.slice a' S.length c') := by
    have e : (w.alloc (.cells #[.slice a S.length c] 26)).heap.size = w.heap.size + 1 := by simp
    rw [hW, ← e]; exact cell_new _ _ _
  have HW := Lib.hid hW
  have HL := Lib.hid hl
  rw [hW] at c0 c1
  clear hW hl
  go_enter Try.func13, Try.ntmps13
  go_wp2_with fail
  rw [← HW.out]
  refine HL.out.mono ?_
  rintro e w1 ⟨rfl, hb⟩
  go_wp2_with fail
  go_ret
  exact ⟨rfl, B.trans (hb.mono B.size)⟩

end Go.Proofs.Ytamebfbddoeflaa
