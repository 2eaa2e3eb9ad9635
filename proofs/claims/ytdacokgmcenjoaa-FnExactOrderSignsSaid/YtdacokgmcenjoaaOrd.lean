/-
  Orders of places and signs as arrays of eight parts. By an AI agent.
-/
import Derived.Test.YtdacokgmcenjoaaMathB
import Derived.Test.YtdacokgmcenjoaaAppendAt
import Derived.Test.YtdacokgmcenjoaaClone
import Derived.Test.YtdacokgmcenjoaaSpace
import Derived.Deep.WholeRow
import Derived.Laws.StructEq
import Derived.BigQuiet
namespace Go.Proofs.Ytdacokgmcenjoaa
open Go.RowKit Cv
set_option linter.unusedVariables false
set_option linter.unusedSimpArgs false
set_option maxRecDepth 100000

/-- a list, and behind it the numbers of the places that it lacks -/
def ordTail (p : List Int) (k : Nat) : List Int := p ++ (List.range k).map fun i => ((p.length + i : Nat) : Int)
def ordL (p : List Int) : List Int := ordTail p (8 - p.length)
theorem ordTail_len (p : List Int) (k : Nat) : (ordTail p k).length = p.length + k := by simp [ordTail]
theorem ordTail_step (p : List Int) (k : Nat) : ordTail p (k + 1) = ordTail p k ++ [((p.length + k : Nat) : Int)] := by
  unfold ordTail; rw [List.range_succ, List.map_append, List.append_assoc]; rfl
theorem ordL_len {p : List Int} (h : p.length ≤ 8) : (ordL p).length = 8 := by unfold ordL; rw [ordTail_len]; omega
theorem gi_ordL (p : List Int) (i : Nat) (h : i < p.length) : gi (ordL p) i = gi p i := by
  unfold ordL ordTail
  rw [gi_append_lt _ _ _ h]
theorem gi_ordL_hi (p : List Int) (i : Nat) (h : p.length ≤ i) (h8 : i < 8) : gi (ordL p) i = i := by
  unfold ordL ordTail
  rw [gi_append_ge _ _ _ h]
  simp [gi, show i - p.length < 8 - p.length by omega]
  omega
theorem ordL_nil : ordL [] = upI 8 := by
  refine ext_gi (by simp [ordL, ordTail_len, upI_len]) fun i hi => ?_
  have h8 : i < 8 := by rw [ordL_len (by simp)] at hi; exact hi
  rw [gi_ordL_hi [] i (by simp) h8, gi_upI 8 i h8]
theorem ordL_same {p : List Int} (h : p.length ≤ 8) : ordL p = ordL [] ↔ p = upI p.length := by
  rw [ordL_nil]
  constructor
  · intro e
    refine ext_gi (by rw [upI_len]) fun i hi => ?_
    have h2 := gi_ordL p i hi
    rw [e, gi_upI 8 i (by omega)] at h2
    rw [← h2, gi_upI _ i hi]
  · intro e
    refine ext_gi (by rw [ordL_len h, upI_len]) fun i hi => ?_
    rw [ordL_len h] at hi
    rw [gi_upI 8 i hi]
    by_cases hp : i < p.length
    · have h3 := congrArg (fun L => gi L i) e
      rw [gi_ordL p i hp]
      exact h3.trans (gi_upI _ i hp)
    · exact gi_ordL_hi p i (by omega) hi
/-- the order as a value -/
def ordA (p : List Int) : Array Value := ((ordL p).map (Value.int .i64)).toArray
theorem ordA_size {p : List Int} (h : p.length ≤ 8) : (ordA p).size = 8 := by simp [ordA, ordL_len h]
theorem ordA_get {p : List Int} (h : p.length ≤ 8) (k : Nat) (hk : k < 8) : (ordA p)[k]? = some (.int .i64 (gi (ordL p) k)) := by
  unfold ordA
  rw [List.getElem?_toArray]
  exact gi_map _ k (by rw [ordL_len h]; exact hk)
theorem info8 : (Try.prog.info? 69).map (·.size) = some 8 := by kernel_rfl

theorem ordA_one (p : List Int) : (ordA p).all (·.oneCell') = true := by
  unfold ordA
  simp [Value.oneCell']
/-- the order p lies in the block b -/
def RowO (w : World) (b : Nat) (p : List Int) : Prop := w.heap[b]? = some (.cells (ordA p) 69 (0, 0))
theorem RowO.lt {w : World} {b : Nat} {p : List Int} (h : RowO w b p) : b < w.heap.size := (Array.getElem?_eq_some_iff.1 h).1
theorem RowO.cell {w : World} {b : Nat} {p : List Int} (h : RowO w b p) (hl : p.length ≤ 8) (k : Nat) (hk : k < 8) : w.cell? ⟨b, k, none⟩ = some (.int .i64 (gi (ordL p) k)) := by
  rw [cell_of_row w b k _ _ _ h, ordA_get hl k hk]
theorem RowO.below {w w' : World} {b : Nat} {p : List Int} (h : RowO w b p) {n : Nat} (hb : Below n w w') (hn : b < n) : RowO w' b p := by
  unfold RowO; rw [hb.block b hn]; exact h
theorem rowo_new (w : World) (p : List Int) : RowO (w.alloc (.cells (ordA p) 69)) w.heap.size p := heap_alloc_last w _
theorem ldVar8 {w : World} {g : Nat} {p : List Int} (hl : p.length ≤ 8) (hc : ∀ j, j < 8 → w.cell? ⟨g, j, none⟩ = some (.int .i64 (gi (ordL p) j))) : (loadVar 69 ⟨g, 0, none⟩).run Try.prog w = .ok (.agg (ordA p)) w := by
  have hld := run_loadCells_list (P := Try.prog) w ⟨g, 0, none⟩ (ordA p).toList (fun j v hv => by
    have hadd : (⟨g, 0, none⟩ : Addr).add j = ⟨g, j, none⟩ := by unfold Addr.add; split <;> simp_all
    have hj : j < 8 := by have := (List.getElem?_eq_some_iff.1 hv).1; rw [Array.length_toList, ordA_size hl] at this; exact this
    rw [hadd, hc j hj]
    rw [Array.getElem?_toList, ordA_get hl j hj] at hv
    exact hv)
  cases hq : Try.prog.info? 69 with
  | none => have := info8; simp [hq] at this
  | some i =>
    have hs : i.size = (ordA p).size := by have := info8; simp [hq] at this; rw [ordA_size hl]; exact this
    have hagg : (isAgg 69).run Try.prog w = .ok true w := by
      unfold isAgg
      rw [Sem.run_bind, run_underlying Try.underlying69 w]
      rfl
    simp only [Array.length_toList, Array.toArray_toList] at hld
    simp [loadVar, Sem.run_bind, hagg, sizeOf, typeInfo, hq, hs, hld]
theorem wpList_ld8 {ops : Array Oper} {rest : List Oper} {o : Oper} {a : Act} {w : World} {Q : Exit → Act → World → Prop} (hgd : o.guard = none) (x : Operand) (ho : o.op = .load 69 x) {g : Nat} {p : List Int}
    (hl : p.length ≤ 8) (hc : ∀ j, j < 8 → w.cell? ⟨g, j, none⟩ = some (.int .i64 (gi (ordL p) j))) (hx : a.eval x = .pointer (some ⟨g, 0, none⟩)) (h : wpList Try.prog ops Q rest (a.put o.dst (.agg (ordA p))) w) : wpList Try.prog ops Q (o :: rest) a w :=
  wpList_plain hgd fun _ hK => by
    unfold Oper.wp execOp
    simp only [ho, hx, Instr.loadAt, Instr.sureAddr, Sem.run_bind, Sem.run_pure, Result.andThen_ok, ldVar8 hl hc]
    exact hK _ _ h
theorem wpList_st8 {ops : Array Oper} {rest : List Oper} {o : Oper} {a : Act} {w : World} {Q : Exit → Act → World → Prop} (hgd : o.guard = none) (x y : Operand) (ho : o.op = .store 69 x y) {b : Nat} {cs : Array Value}
    (hr : w.heap[b]? = some (.cells cs 69 (0, 0))) (hcs : cs.size = 8) (p : List Int) (hl : p.length ≤ 8) (hx : a.eval x = .pointer (some ⟨b, 0, none⟩)) (hy : a.eval y = .agg (ordA p)) (h : wpList Try.prog ops Q rest (a.put o.dst undef) (w.setRow b (ordA p))) : wpList Try.prog ops Q (o :: rest) a w :=
  wpList_store_row hgd _ x y ho b (ordA p) hx hy _ _ hr (by rw [ordA_size hl]; exact info8) (by rw [ordA_size hl, hcs]) (ordA_one p) h
theorem rowo_set {w : World} {b : Nat} {cs : Array Value} (p : List Int) (h : w.heap[b]? = some (.cells cs 69 (0, 0))) : RowO (w.setRow b (ordA p)) b p := setRow_heap w b _ _ _ _ h
theorem results8 {fn : Func} {t : Tmp} (h : fn.results = #[.cell t 69]) (tmps : Array Value) {w : World} {b : Nat} {p : List Int} (hl : p.length ≤ 8) (hr : RowO w b p) (hp : tmps.getD t undef = .pointer (some ⟨b, 0, none⟩)) :
    (results fn tmps).run Try.prog w = .ok (.agg (ordA p)) w :=
  results_cell_row h tmps w b _ _ _ _ hp hr Try.underlying69 rfl (by rw [ordA_size hl]; exact info8)
theorem grown_setRow8 {w : World} {b : Nat} (q : Array Value) : w.grownBy (w.setRow b q) (some b) :=
  ⟨rfl, rfl, rfl, by simp, fun i hi hne => setRow_other w b i q (by simpa using hne)⟩

theorem clone_nil (w : World) : Calls Try.prog 78 #[.slice none 0 0] w fun e w' => ∃ v, e = .returned v ∧ OwnInts w' w.heap.size v [] ∧ Below w.heap.size w w' := by
  have hnil0 := Lib.run_eql_slice_nil (P := Try.prog) w 22 2 none 0 0 0 0 Try.underlying22
  go_enter Try.func78, Try.ntmps78
  go_wp2_with fail
  go_ret
  exact ⟨_, rfl, World.ownsRow_nil _ _ _ _, Below.refl _ _⟩

theorem row_block {w w' : World} {b n : Nat} {o : Obj} (h : w.heap[b]? = some o) (hb : Below n w w') (hn : b < n) : w'.heap[b]? = some o := by rw [hb.block b hn]; exact h
theorem row_grown {w w' : World} {b : Nat} {r : Option Nat} {o : Obj} (h : w.heap[b]? = some o) (hg : w.grownBy w' r) (hn : some b ≠ r) : w'.heap[b]? = some o := by
  have hlt := (Array.getElem?_eq_some_iff.1 h).1
  obtain ⟨_, _, _, _, hblk⟩ := hg
  rw [hblk b hlt hn]; exact h

set_option maxHeartbeats 1000000 in
theorem orderOf_core (ao : Option Addr) (p : List Int) (cap : Nat) (hl : p.length ≤ 8) (w : World)
    (hcl : ∀ W, Below w.heap.size w W → Calls Try.prog 78 #[.slice ao p.length cap] W fun e w' => ∃ v, e = .returned v ∧ OwnInts w' W.heap.size v p ∧ Below W.heap.size W w') :
    Calls Try.prog 44 #[.slice ao p.length cap] w fun e w' => e = .returned (.agg (ordA p)) ∧ Below w.heap.size w w' := by
  obtain ⟨W0, hW0⟩ : ∃ W0, W0 = w.alloc (.cells #[.int .i64 0, .int .i64 0, .int .i64 0, .int .i64 0, .int .i64 0, .int .i64 0, .int .i64 0, .int .i64 0] 69) := ⟨_, rfl⟩
  have B0 : Below w.heap.size w W0 := by rw [hW0]; exact (Below.refl _ _).alloc (Nat.le_refl _) _
  have r0 : W0.heap[w.heap.size]? = some (.cells #[.int .i64 0, .int .i64 0, .int .i64 0, .int .i64 0, .int .i64 0, .int .i64 0, .int .i64 0, .int .i64 0] 69) := by rw [hW0]; exact heap_alloc_last w _
  have s0 : w.heap.size < W0.heap.size := by rw [hW0]; exact lt_alloc _ _
  have HCL := Lib.hid (hcl W0 B0)
  have HW0 := Lib.hid hW0
  have HT := Lib.hid (ordTail_step p)
  have HTL := Lib.hid (ordTail_len p)
  obtain ⟨n, hn⟩ : ∃ n, n = p.length := ⟨_, rfl⟩
  rw [← hn] at hl HCL HT HTL ⊢
  have HN := Lib.hid hn
  clear hcl hW0 hn
  go_enter Try.func44, Try.ntmps44
  go_wp2_with fail
  rw [← HW0.out]
  refine HCL.out.mono ?_
  rintro e w1 ⟨v1, rfl, own1, hb1⟩
  have r1 := row_block r0 hb1 s0
  have B1 := B0.trans (hb1.mono B0.size)
  have s1 := lt_of_below hb1 s0
  replace own1 := own1.rebase (base' := w.heap.size + 1) (by omega)
  have own1' : OwnInts w1 (w.heap.size + 1) v1 (ordTail p 0) := by simpa [ordTail] using own1
  clear hb1 B0 r0 s0 own1
  go_wp2_with fail
  go_loopw [3, 4] (fun v' i wr => ∃ (k : Nat) (v : Value), n + k ≤ 8 ∧ i = .int .i64 ((n + k : Nat) : Int) ∧ v = v' ∧ OwnInts wr (w.heap.size + 1) v (ordTail p k) ∧ wr.heap[w.heap.size]? = some (.cells #[.int .i64 0, .int .i64 0, .int .i64 0, .int .i64 0, .int .i64 0, .int .i64 0, .int .i64 0, .int .i64 0] 69) ∧ Below w.heap.size w wr ∧ w.heap.size < wr.heap.size) (fun _ i _ => 8 - (intOf i).toNat)
  case atStart => exact ⟨0, _, by omega, by simp, rfl, own1', r1, B1, s1⟩
  case round =>
    clear own1' r1 B1 s1
    obtain ⟨k, v, hk, rfl, rfl, own, r, B, s⟩ := hrel
    have hTl := HTL.out k
    have hst := HT.out k
    by_cases hlt : n + k < 8
    · obtain ⟨m, hm⟩ : ∃ m, m = n + k := ⟨_, rfl⟩
      obtain ⟨T, hT⟩ : ∃ T, T = ordTail p k := ⟨_, rfl⟩
      rw [← hm] at hst hTl hlt ⊢
      rw [← hT] at own hTl hst
      have HST := Lib.hid hst
      have HM := Lib.hid hm
      have hl2 : T.length ≤ 1073741824 := by omega
      have E0 : IntKind.i64.wrap (m : Int) = (m : Int) := IntWalk.i64_in _ ⟨by omega, by omega⟩
      have mI : (m : Int) < 8 := by omega
      clear hst hm hT hTl
      go_wp2_with (at_builtin; refine wpList_append_int rfl _ _ rfl (w.heap.size + 1) _ _ rfl (own.alloc _) wr.heap.size _ rfl (cell_new _ _ _) hl2 (by rw [World.size_alloc]; omega) ?_; intro v' w5 hown' hgrow)
      have hbT : Below wr.heap.size wr (wr.alloc (.cells #[.int .i64 (m : Int)] 2)) := (Below.refl _ _).alloc (Nat.le_refl _) _
      have hrin := World.ownsRow.lt own
      have B5 := grown_below (B.alloc B.size _) (by rw [World.size_alloc]; omega) hgrow (own.alloc _) (by omega)
      have r5 : w5.heap[w.heap.size]? = some (.cells #[.int .i64 0, .int .i64 0, .int .i64 0, .int .i64 0, .int .i64 0, .int .i64 0, .int .i64 0, .int .i64 0] 69) := row_grown (row_block r hbT s) hgrow (fun e => by have := (hrin w.heap.size e.symm).1; omega)
      have s5 : w.heap.size < w5.heap.size := by have := hgrow.size; rw [World.size_alloc] at this; omega
      rw [← HST.out] at hown'
      clear own hgrow r B hbT hrin
      go_wp2_with fail
      go_roundw
      case rel => exact ⟨k + 1, _, by have := HM.out; omega, by rw [show n + (k + 1) = m + 1 by have := HM.out; omega]; go_num, rfl, hown', r5, B5, s5⟩
      case measure => simp [intOf]; omega
    · have ek : n + k = 8 := by omega
      have HOL : Hid (ordL p = ordTail p k) := Lib.hid (by unfold ordL; congr 1; have := HN.out; omega)
      obtain ⟨g, c, rfl, hog⟩ := own_some own (by intro h; rw [h] at hTl; simp at hTl; omega)
      rw [hTl] at own ⊢
      rw [ek] at own hTl ⊢
      rw [← HOL.out] at own
      have harr : (Instr.arrayAt 69 (.slice (some ⟨g, 0, none⟩) 8 c)).run Try.prog wr = .ok (.pointer (some ⟨g, 0, none⟩)) wr := by
        unfold Instr.arrayAt
        simp only [Sem.run_bind, run_underlying Try.underlying69, Result.andThen_ok]
        rfl
      have hl8 : p.length ≤ 8 := by rw [← HN.out]; exact hl
      have hc8 : ∀ j, j < 8 → wr.cell? ⟨g, j, none⟩ = some (.int .i64 (gi (ordL p) j)) := fun j hj => own.cell (by rw [ordL_len hl8]; exact hj)
      clear hst hTl hlt ek
      go_wp2_with (first | refine wpList_ld8 rfl _ rfl hl8 hc8 rfl ?_ | refine wpList_st8 rfl _ _ rfl r rfl p hl8 rfl rfl ?_)
      have BR := B.grown (grown_setRow8 (ordA p)) (Nat.le_of_lt s) (by intro z hz; cases hz; exact Nat.le_refl _)
      refine bodyPost_ret (results8 rfl _ hl8 (rowo_set p r) rfl) rfl ?_
      exact ⟨rfl, BR⟩

theorem orderOf_some (a : Addr) (p : List Int) (K cap : Nat) (hK : K = p.length) (hl : p.length ≤ 8) (w : World) (hp : Ints w (some a) p) :
    Calls Try.prog 44 #[.slice (some a) K cap] w fun e w' => e = .returned (.agg (ordA p)) ∧ Below w.heap.size w w' := by
  subst hK
  exact orderOf_core (some a) p cap hl w fun W hb => (clone_any 0 p cap 0 W (by omega) (Nat.zero_le _) a (hp.below hb)).mono (by
    rintro e w' ⟨g, c, rfl, own, hb'⟩
    exact ⟨_, rfl, own, hb'⟩)
theorem orderOf_nil (w : World) : Calls Try.prog 44 #[.slice none 0 0] w fun e w' => e = .returned (.agg (ordA [])) ∧ Below w.heap.size w w' :=
  orderOf_core none [] 0 (by simp) w fun W _ => clone_nil W

/-- whether two orders have the same parts -/
def eqO (p q : List Int) : Bool := (List.range' 0 8 1).all fun k => gi (ordL p) k == gi (ordL q) k
theorem eqO_iff {p q : List Int} (hp : p.length ≤ 8) (hq : q.length ≤ 8) : eqO p q = true ↔ ordL p = ordL q := by
  unfold eqO
  rw [List.all_eq_true]
  constructor
  · intro h
    refine ext_gi (by rw [ordL_len hp, ordL_len hq]) fun i hi => ?_
    rw [ordL_len hp] at hi
    have := h i (by rw [List.mem_range'_1]; omega)
    simpa using this
  · intro h k hk
    rw [h]; simp
theorem eqO_ord {p : List Int} (hp : p.length ≤ 8) : eqO (sorted p) [] = isOrd p p.length := by
  rw [Bool.eq_iff_iff, eqO_iff (by rw [sorted_len]; exact hp) (by simp), ordL_same (by rw [sorted_len]; exact hp), sorted_len]
  unfold isOrd
  simp
theorem run_eqOrd (p q : List Int) (hp : p.length ≤ 8) (hq : q.length ≤ 8) (w : World) : (Op.equalIn 10000 69 (.agg (ordA p)) (.agg (ordA q))).run Try.prog w = .ok (eqO p q) w := by
  have he := Try.underlying2
  have hsz := Try.sizeOf2
  have ha := Try.isAgg2
  rw [show (10000 : Nat) = 9998 + 1 + 1 from rfl, Op.equalIn]
  simp only [Sem.run_bind, run_underlying Try.underlying69, Result.andThen_ok, hsz, Std.Legacy.Range.forIn_eq_forIn_range', Std.Legacy.Range.size, Nat.sub_zero, Nat.add_sub_cancel, Nat.div_one]
  unfold eqO
  have hl : ∀ i ∈ List.range' 0 8 1, i < 8 := fun i hi => by rw [List.mem_range'_1] at hi; omega
  generalize List.range' 0 8 1 = l at hl ⊢
  induction l with
  | nil => simp
  | cons i l ih =>
    have hi : i < 8 := hl i (by simp)
    have px : (part 2 (ordA p) (i * 1)).run Try.prog w = .ok (.int .i64 (gi (ordL p) i)) w := by
      simp [part, ha, ordA_get hp i hi]
    have py : (part 2 (ordA q) (i * 1)).run Try.prog w = .ok (.int .i64 (gi (ordL q) i)) w := by
      simp [part, ha, ordA_get hq i hi]
    have pe := run_equalIn_int (P := Try.prog) (w := w) 9998 2 .i64 .i64 (gi (ordL p) i) (gi (ordL q) i) he
    simp only [List.forIn_cons, Sem.run_bind, px, py, pe, Result.andThen_ok, List.all_cons]
    cases hb : (gi (ordL p) i == gi (ordL q) i)
    · simp
    · simp only [Bool.not_true, Bool.false_eq_true, if_false, Sem.run_pure, Result.andThen_ok, Bool.true_and]
      exact ih fun j hj => hl j (by simp [hj])
theorem guardOrd : Try.prog.eqGuardType Try.prog.depth 69 = false := by kernel_rfl
theorem bin_eqOrd (p q : List Int) (hp : p.length ≤ 8) (hq : q.length ≤ 8) (w : World) : (binOp .eql 69 (.agg (ordA p)) (.agg (ordA q))).run Try.prog w = .ok (.bool (eqO p q)) w := by
  simp only [Sem.run_bind, Sem.run_pure, Result.andThen_ok, binOp, Op.equal, Op.maxDepth, run_eqOrd p q hp hq]

end Go.Proofs.Ytdacokgmcenjoaa
