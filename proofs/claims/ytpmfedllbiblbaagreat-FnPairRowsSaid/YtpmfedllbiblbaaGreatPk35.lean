/-
  Texts put together: Set, Balls, Tgt, Covd. By an AI agent.
-/
import Derived.Test.YtpmfedllbiblbaaGreatPk31
import Derived.Test.YtpmfedllbiblbaaGreatMath
import Derived.Test.YtpmfedllbiblbaaGreatAppend
import Derived.Test.YtpmfedllbiblbaaGreatSpace
import Derived.Test.YtpmfedllbiblbaaGreatFam
import Derived.Deep.RegionHeld3
import Derived.StillTailTactics
import Derived.Deep.WholeRow
import Derived.Deep.Cut
import Derived.Test.YtpmfedllbiblbaaGreatPk34
import Derived.Test.YtpmfedllbiblbaaGreatSums2
namespace Go.Proofs.YtpmfedllbiblbaaGreat
open Go.RowKit Cv
set_option linter.unusedVariables false
set_option linter.unusedSimpArgs false
set_option maxRecDepth 100000

/-- the set p as a value -/
def setA (p : Nat → Bool) : Array Value := ((partsL p).map (Value.int .u64)).toArray
theorem setA_size (p : Nat → Bool) : (setA p).size = 16 := by simp [setA, partsL]
theorem setA_get (p : Nat → Bool) (k : Nat) (h : k < 16) : (setA p)[k]? = some (.int .u64 (partN p k)) := by simp [setA, partsL, h]
/-- the set p lies in the block b -/
def RowAt (w : World) (b : Nat) (p : Nat → Bool) : Prop := w.heap[b]? = some (.cells (setA p) 68 (0, 0))
theorem setA_ext {p q : Nat → Bool} (h : ∀ u, u < 1024 → p u = q u) : setA p = setA q := by unfold setA; rw [partsL_ext h]
theorem partN_none (k : Nat) : partN (fun _ => false) k = 0 := by
  have h : ∀ n, ofB (fun _ => false) k n = 0 := by intro n; induction n with
    | zero => rfl
    | succ n ih => rw [ofB, ih]; simp
  exact h 64
theorem setA_none : setA (fun _ => false) = #[.int .u64 0, .int .u64 0, .int .u64 0, .int .u64 0, .int .u64 0, .int .u64 0, .int .u64 0, .int .u64 0, .int .u64 0, .int .u64 0, .int .u64 0, .int .u64 0, .int .u64 0, .int .u64 0, .int .u64 0, .int .u64 0] := by
  unfold setA partsL
  simp only [partN_none]
  rfl
theorem RowAt.lt {w : World} {b : Nat} {p : Nat → Bool} (h : RowAt w b p) : b < w.heap.size := (Array.getElem?_eq_some_iff.1 h).1
theorem RowAt.cell {w : World} {b : Nat} {p : Nat → Bool} (h : RowAt w b p) (k : Nat) (hk : k < 16) : w.cell? ⟨b, k, none⟩ = some (.int .u64 (partN p k)) := by
  rw [cell_of_row w b k _ _ _ h, setA_get p k hk]
theorem RowAt.free {w : World} {b : Nat} {p : Nat → Bool} (h : RowAt w b p) (k : Nat) : w.frozen? ⟨b, k, none⟩ = false := by
  have h' : w.heap[b]? = some (.cells (setA p) 68 (0, 0)) := h
  simp [World.frozen?, h']
theorem RowAt.below {w w' : World} {b : Nat} {p : Nat → Bool} (h : RowAt w b p) {n : Nat} (hb : Below n w w') (hn : b < n) : RowAt w' b p := by
  unfold RowAt; rw [hb.block b hn]; exact h
theorem RowAt.kept {w w' : World} {b c : Nat} {p : Nat → Bool} (h : RowAt w b p) (hg : w.grownBy w' (some c)) (hn : b ≠ c) : RowAt w' b p := by
  obtain ⟨_, _, _, _, hg5⟩ := hg
  unfold RowAt; rw [hg5 b h.lt (by simpa using hn)]; exact h
theorem row_new (w : World) (p : Nat → Bool) : RowAt (w.alloc (.cells (setA p) 68)) w.heap.size p := heap_alloc_last w _
theorem rowz_new (w : World) {n : Nat} (hn : n = w.heap.size) : RowAt (w.alloc (.cells #[.int .u64 0, .int .u64 0, .int .u64 0, .int .u64 0, .int .u64 0, .int .u64 0, .int .u64 0, .int .u64 0, .int .u64 0, .int .u64 0, .int .u64 0, .int .u64 0, .int .u64 0, .int .u64 0, .int .u64 0, .int .u64 0] 68)) n (fun _ => false) := by
  subst hn; unfold RowAt; rw [setA_none]; exact heap_alloc_last w _
theorem rown_new (w : World) (p : Nat → Bool) {n : Nat} (hn : n = w.heap.size) : RowAt (w.alloc (.cells (setA p) 68)) n p := by subst hn; exact row_new w p
theorem RowAt.alloc {w : World} {b : Nat} {p : Nat → Bool} (h : RowAt w b p) (o : Obj) : RowAt (w.alloc o) b p := h.below ((Below.refl w.heap.size w).alloc (Nat.le_refl _) o) h.lt
theorem info81 : (Tryz.prog.info? 68).map (·.size) = some 16 := by kernel_rfl
theorem ld16 {w : World} {b : Nat} {p : Nat → Bool} (h : RowAt w b p) : (loadCellsFrom ⟨b, 0, none⟩ 0 16 #[]).run Tryz.prog w = .ok (setA p) w := by
  have := run_loadCells_list (P := Tryz.prog) w ⟨b, 0, none⟩ (setA p).toList (fun j v hv => by
    have hadd : (⟨b, 0, none⟩ : Addr).add j = ⟨b, j, none⟩ := by unfold Addr.add; split <;> simp_all
    rw [hadd, cell_of_row w b j _ _ _ h]
    simpa using hv)
  simpa [loadCells, setA_size] using this
theorem ldVar {w : World} {b : Nat} {p : Nat → Bool} (h : RowAt w b p) : (loadVar 68 ⟨b, 0, none⟩).run Tryz.prog w = .ok (.agg (setA p)) w :=
  run_loadVar_row w b _ _ _ _ _ h Tryz.underlying68 rfl (by rw [setA_size]; exact info81)
theorem setA_one (p : Nat → Bool) : (setA p).all (·.oneCell') = true := by
  unfold setA partsL
  simp [Value.oneCell']
theorem stVar {w : World} {b : Nat} {p q : Nat → Bool} (h : RowAt w b p) : (storeVar 68 ⟨b, 0, none⟩ (.agg (setA q))).run Tryz.prog w = .ok () (w.setRow b (setA q)) :=
  run_storeVar_row w b _ _ _ _ h (by rw [setA_size]; exact info81) (by rw [setA_size, setA_size]) (setA_one q)
theorem st16 {w : World} {b : Nat} {p q : Nat → Bool} (h : RowAt w b p) : (storeCells ⟨b, 0, none⟩ (setA q).toList 0).run Tryz.prog w = .ok () (w.setRow b (setA q)) := by
  have := stVar (q := q) h
  cases hq : Tryz.prog.info? 68 with
  | none => have := info81; simp [hq] at this
  | some i =>
    have hs : (setA q).size = i.size := by have := info81; simp [hq] at this; rw [setA_size]; omega
    simpa [storeVar, sizeOf, typeInfo, hq, Value.cells, hs] using this
theorem row_set {w : World} {b : Nat} {p q : Nat → Bool} (h : RowAt w b p) : RowAt (w.setRow b (setA q)) b q := setRow_heap w b _ _ _ _ h
theorem grown_setRow {w : World} {b : Nat} (q : Array Value) : w.grownBy (w.setRow b q) (some b) :=
  ⟨rfl, rfl, rfl, by simp, fun i hi hne => setRow_other w b i q (by simpa using hne)⟩
theorem wpList_ld16 {ops : Array Oper} {rest : List Oper} {o : Oper} {a : Act} {w : World} {Q : Exit → Act → World → Prop} (hgd : o.guard = none) (x : Operand) (ho : o.op = .load 68 x) {b : Nat} {p : Nat → Bool}
    (hr : RowAt w b p) (hx : a.eval x = .pointer (some ⟨b, 0, none⟩)) (h : wpList Tryz.prog ops Q rest (a.put o.dst (.agg (setA p))) w) : wpList Tryz.prog ops Q (o :: rest) a w :=
  wpList_load_row hgd _ x ho b hx _ _ _ _ hr Tryz.underlying68 rfl (by rw [setA_size]; exact info81) h
theorem wpList_st16 {ops : Array Oper} {rest : List Oper} {o : Oper} {a : Act} {w : World} {Q : Exit → Act → World → Prop} (hgd : o.guard = none) (x y : Operand) (ho : o.op = .store 68 x y) {b : Nat} {p : Nat → Bool}
    (hr : RowAt w b p) (q : Nat → Bool) (hx : a.eval x = .pointer (some ⟨b, 0, none⟩)) (hy : a.eval y = .agg (setA q)) (h : wpList Tryz.prog ops Q rest (a.put o.dst undef) (w.setRow b (setA q))) : wpList Tryz.prog ops Q (o :: rest) a w :=
  wpList_store_row hgd _ x y ho b (setA q) hx hy _ _ hr (by rw [setA_size]; exact info81) (by rw [setA_size, setA_size]) (setA_one q) h
theorem results16 {fn : Func} {t : Tmp} (h : fn.results = #[.cell t 68]) (tmps : Array Value) {w : World} {b : Nat} {p : Nat → Bool} (hr : RowAt w b p) (hp : tmps.getD t undef = .pointer (some ⟨b, 0, none⟩)) :
    (results fn tmps).run Tryz.prog w = .ok (.agg (setA p)) w :=
  results_cell_row h tmps w b _ _ _ _ hp hr Tryz.underlying68 rfl (by rw [setA_size]; exact info81)
theorem part_has (p : Nat → Bool) (u : Nat) (hu : u < 1024) : (bits BinOp.and IntKind.u64 ((partN p (u / 64) : Int) / 2 ^ (u % 64)) 1 == 1) = p u := by
  have hb := partN_lt p (u / 64)
  have e0 : ((partN p (u / 64) : Int) / 2 ^ (u % 64)) = ((partN p (u / 64) / 2 ^ (u % 64) : Nat) : Int) := by push_cast; rfl
  have hlt : partN p (u / 64) / 2 ^ (u % 64) < 18446744073709551616 := Nat.lt_of_le_of_lt (Nat.div_le_self _ _) hb
  have e1 : partN p (u / 64) / 2 ^ (u % 64) % 2 = (if p u = true then 1 else 0) := by
    have h := partN_bit p (u / 64) (u % 64) (by omega)
    rw [show 64 * (u / 64) + u % 64 = u by omega, Nat.testBit_eq_decide_div_mod_eq] at h
    by_cases hp : p u = true
    · rw [if_pos hp]; rw [hp] at h; simpa using h
    · rw [if_neg hp]; simp only [Bool.not_eq_true] at hp; rw [hp] at h
      have := Nat.mod_lt (partN p (u / 64) / 2 ^ (u % 64)) (show 0 < 2 by decide)
      simp at h; omega
  unfold bits
  have e2 : ((BitVec.ofInt IntKind.u64.bits ((partN p (u / 64) : Int) / 2 ^ (u % 64))) &&& (BitVec.ofInt IntKind.u64.bits 1)).toNat = partN p (u / 64) / 2 ^ (u % 64) % 2 := by
    rw [e0, BitVec.toNat_and]
    show (BitVec.ofInt 64 ((partN p (u / 64) / 2 ^ (u % 64) : Nat) : Int)).toNat &&& (BitVec.ofInt 64 1).toNat = _
    rw [bv_nat _ hlt, show (BitVec.ofInt 64 1).toNat = 1 from rfl, Nat.and_one_is_mod]
  show (IntKind.u64.wrap (((BitVec.ofInt IntKind.u64.bits ((partN p (u / 64) : Int) / 2 ^ (u % 64))) &&& (BitVec.ofInt IntKind.u64.bits 1)).toNat : Int) == 1) = p u
  rw [e2, e1]
  by_cases hp : p u = true
  · rw [if_pos hp, hp]; rfl
  · rw [if_neg hp]; simp only [Bool.not_eq_true] at hp; rw [hp]; rfl
theorem part_put1 (p : Nat → Bool) (u : Nat) : bits BinOp.or IntKind.u64 ((partN p (u / 64) : Int)) (IntKind.u64.wrap (2 ^ (u % 64))) = (partN (putB p u) (u / 64) : Int) := by
  have h1 := part_one u
  rw [Int.one_mul] at h1
  rw [h1]
  exact part_or p (fun v => decide (v = u)) (u / 64)
theorem setA_put (p : Nat → Bool) (u : Nat) (hu : u < 1024) : (setA p).setIfInBounds (u / 64) (.int .u64 (partN (putB p u) (u / 64))) = setA (putB p u) := by
  apply Array.ext_getElem?
  intro k
  rw [Array.getElem?_setIfInBounds]
  by_cases hk : k < 16
  · rw [setA_get _ k hk, setA_get _ k hk]
    by_cases e : u / 64 = k
    · subst e; simp [setA_size, hk]
    · rw [if_neg e, part_put_other p u k (Ne.symm e)]
  · have h1 : (setA p)[k]? = none := by simp [setA_size]; omega
    have h2 : (setA (putB p u))[k]? = none := by simp [setA_size]; omega
    rw [h1, h2]; simp [setA_size]; omega
theorem row_put {w : World} {b : Nat} {p : Nat → Bool} (h : RowAt w b p) (u : Nat) (hu : u < 1024) :
    RowAt (w.setCell ⟨b, u / 64, none⟩ (.int .u64 (partN (putB p u) (u / 64)))) b (putB p u) := by
  unfold RowAt
  rw [heap_setCell_same w b _ _ _ _ h, setA_put p u hu]
theorem put_any (b : Nat) (p : Nat → Bool) (u : Nat) (hu : u < 1024) (w : World) (h : RowAt w b p) :
    Calls Tryz.prog 82 #[.pointer (some ⟨b, 0, none⟩), .int .i64 u] w fun e w' => e = .returned (.tuple #[]) ∧ RowAt w' b (putB p u) ∧ w.grownBy w' (some b) := by
  have H0 := Lib.hid h
  have hc := h.cell (u / 64) (by omega)
  have hf := h.free (u / 64)
  clear h
  have hc' : w.drew.cell? ⟨b, u / 64, none⟩ = some (.int .u64 (partN p (u / 64))) := hc
  have hf' : w.drew.frozen? ⟨b, u / 64, none⟩ = false := hf
  have w1 : IntKind.i64.wrap ((u : Int) / 64) = (u : Int) / 64 := IntWalk.i64_in _ ⟨by omega, by omega⟩
  have w2 : IntKind.i64.wrap ((u : Int) % 64) = (u : Int) % 64 := IntWalk.i64_in _ ⟨by omega, by omega⟩
  go_enter Tryz.func82, Tryz.ntmps82
  go_region
  all_goals (go_wp2; go_end0)
  refine ⟨rfl, ?_, ?_⟩
  · rw [part_put1 p u]
    exact row_put H0.out u hu
  · exact grown_setCell (⟨rfl, rfl, rfl, Nat.le_refl _, fun _ _ _ => rfl⟩ : w.grownBy w.drew (some b)) _ _

theorem has_any (p : Nat → Bool) (u : Nat) (hu : u < 1024) (w : World) :
    Calls Tryz.prog 106 #[.agg (setA p), .int .i64 u] w fun e w' => e = .returned (.bool (p u)) ∧ Below w.heap.size w w' := by
  have e1 : Int.tdiv (u : Int) 64 = ((u / 64 : Nat) : Int) := by rw [Int.tdiv_eq_ediv_of_nonneg (by omega)]; rfl
  have e2 : Int.tmod (u : Int) 64 = ((u % 64 : Nat) : Int) := by rw [Int.tmod_eq_emod_of_nonneg (by omega)]; rfl
  have hA := setA_get p (u / 64) (by omega)
  have hm0 := partN_lt p (u / 64)
  go_enter Tryz.func106, Tryz.ntmps106
  go_wp2
  go_ret
  exact ⟨ret_bool (part_has p u hu), by go_grown⟩

/-- the words among the first k of a list, as a set -/
def setTo (T : List Int) : Nat → Nat → Bool
  | 0 => fun _ => false
  | k + 1 => putB (setTo T k) (gi T k).toNat
theorem setTo_in (T : List Int) (hT : ∀ i, i < T.length → 0 ≤ gi T i) (k : Nat) (hk : k ≤ T.length) (u : Nat) : setTo T k u = decide (∃ i, i < k ∧ gi T i = (u : Int)) := by
  induction k with
  | zero => simp [setTo]
  | succ k ih =>
    rw [setTo, putB, ih (by omega), Bool.eq_iff_iff]
    simp only [Bool.or_eq_true, decide_eq_true_eq]
    have h0 := hT k (by omega)
    constructor
    · rintro (⟨i, hi, e⟩ | h)
      · exact ⟨i, by omega, e⟩
      · exact ⟨k, by omega, by omega⟩
    · rintro ⟨i, hi, e⟩
      by_cases e2 : i = k
      · subst e2; exact .inr (by omega)
      · exact .inl ⟨i, by omega, e⟩
theorem setTo_all (T : List Int) (hT : ∀ i, i < T.length → 0 ≤ gi T i) (u : Nat) : setTo T T.length u = inL T u := by
  rw [setTo_in T hT _ (Nat.le_refl _), inL, Bool.eq_iff_iff]
  simp only [decide_eq_true_eq]
  constructor
  · rintro ⟨i, hi, e⟩; exact e ▸ gi_mem hi
  · intro h; obtain ⟨i, hi, e⟩ := mem_gi h; exact ⟨i, hi, e⟩

theorem idx16 (q : Nat → Bool) (k : Nat) (hk : k < 16) (w : World) : Sem.run Tryz.prog (Instr.index 68 (.agg (setA q)) (.int .i64 (k : Int))) w = .ok (.int .u64 (partN q k)) w := by
  have hA := setA_get q k hk
  have h1 : (0 : Int) ≤ (k : Int) := by omega
  have h2 : (k : Int) < (16 : Nat) := by omega
  simp [go_sem, Instr.index, part, hA, h1, h2, Tryz.underlying68, Tryz.isAgg66, Tryz.sizeOf66]
  intro h; omega
/-- a set with the first k parts of another one -/
def mixP (p q : Nat → Bool) (k : Nat) : Nat → Bool := fun u => if u / 64 < k then p u || q u else p u
theorem mixP_at (p q : Nat → Bool) (k : Nat) : partN (mixP p q k) k = partN p k := partN_ext _ _ _ fun b hb => by
  unfold mixP; rw [if_neg (by omega)]
theorem mixP_set (p q : Nat → Bool) (k : Nat) (hk : k < 16) : (setA (mixP p q k)).setIfInBounds k (.int .u64 (partN (fun u => p u || q u) k)) = setA (mixP p q (k + 1)) := by
  apply Array.ext_getElem?
  intro j
  rw [Array.getElem?_setIfInBounds]
  by_cases hj : j < 16
  · rw [setA_get _ j hj, setA_get _ j hj]
    by_cases e : k = j
    · subst e
      rw [if_pos rfl, if_pos (by rw [setA_size]; exact hk)]
      congr 2
      have : partN (mixP p q (k + 1)) k = partN (fun u => p u || q u) k := partN_ext _ _ _ fun b hb => by unfold mixP; rw [if_pos (by omega)]
      rw [this]
    · rw [if_neg e]
      congr 2
      have : partN (mixP p q (k + 1)) j = partN (mixP p q k) j := partN_ext _ _ _ fun b hb => by
        unfold mixP
        by_cases h : (64 * j + b) / 64 < k
        · rw [if_pos h, if_pos (by omega)]
        · rw [if_neg h, if_neg (by omega)]
      rw [this]
  · have h1 : (setA (mixP p q k))[j]? = none := by simp [setA_size]; omega
    have h2 : (setA (mixP p q (k + 1)))[j]? = none := by simp [setA_size]; omega
    rw [h1, h2]; simp [setA_size]; omega
theorem row_mix {w : World} {b : Nat} {p q : Nat → Bool} {k : Nat} (hk : k < 16) (h : RowAt w b (mixP p q k)) :
    RowAt (w.setCell ⟨b, k, none⟩ (.int .u64 (partN (fun u => p u || q u) k))) b (mixP p q (k + 1)) := by
  unfold RowAt
  rw [heap_setCell_same w b _ _ _ _ h, mixP_set p q k hk]
theorem mixP_zero (p q : Nat → Bool) : mixP p q 0 = p := by funext u; simp [mixP]
theorem mixP_all (p q : Nat → Bool) : setA (mixP p q 16) = setA (fun u => p u || q u) := setA_ext fun u hu => by unfold mixP; rw [if_pos (by omega)]

theorem with_any (p q : Nat → Bool) (w : World) :
    Calls Tryz.prog 49 #[.agg (setA p), .agg (setA q)] w fun e w' => e = .returned (.agg (setA fun u => p u || q u)) ∧ Below w.heap.size w w' := by
  have hy := (rown_new (w.alloc (.cells (setA p) 68)) q (n := w.heap.size + 1) (by simp)).alloc (.cells #[.int .u64 0, .int .u64 0, .int .u64 0, .int .u64 0, .int .u64 0, .int .u64 0, .int .u64 0, .int .u64 0, .int .u64 0, .int .u64 0, .int .u64 0, .int .u64 0, .int .u64 0, .int .u64 0, .int .u64 0, .int .u64 0] 68)
  have hx := ((row_new w p).alloc (.cells (setA q) 68)).alloc (.cells #[.int .u64 0, .int .u64 0, .int .u64 0, .int .u64 0, .int .u64 0, .int .u64 0, .int .u64 0, .int .u64 0, .int .u64 0, .int .u64 0, .int .u64 0, .int .u64 0, .int .u64 0, .int .u64 0, .int .u64 0, .int .u64 0] 68)
  have hz := rowz_new ((w.alloc (.cells (setA p) 68)).alloc (.cells (setA q) 68)) (n := w.heap.size + 1 + 1) (by simp)
  go_enter Tryz.func49, Tryz.ntmps49
  go_wp2_with (first | (refine wpList_ld16 rfl _ rfl hy rfl ?_))
  go_loopw [8] (fun i wr => ∃ k : Nat, k ≤ 16 ∧ i = .int .i64 k ∧ RowAt wr w.heap.size (mixP p q k) ∧ (∃ q0, RowAt wr (w.heap.size + 1 + 1) q0) ∧ Below w.heap.size w wr) (fun i _ => 16 - (intOf i).toNat)
  case atStart => exact ⟨0, by omega, rfl, by rw [mixP_zero]; exact hx, ⟨_, hz⟩, by go_grown⟩
  case round =>
    obtain ⟨k, hk, rfl, hr, ⟨q0, hq0⟩, B⟩ := hrel
    by_cases hlt : k < 16
    · have hcx := hr.cell k hlt
      have hfx := hr.free k
      rw [mixP_at] at hcx
      have hA := setA_get q k hlt
      have hO : bits BinOp.or IntKind.u64 (partN p k : Int) (partN q k : Int) = (partN (fun u => p u || q u) k : Int) := part_or p q k
      have hI := idx16 q k hlt wr
      have hs := B.size
      have HR : Hid _ := Lib.hid (row_mix hlt hr)
      clear hx hy hz hA
      go_wp2_with fail
      go_roundw
      case rel => exact ⟨k + 1, by omega, by go_num, HR.out, ⟨q0, hq0.kept (grown_setCell (⟨rfl, rfl, rfl, Nat.le_refl _, fun _ _ _ => rfl⟩ : wr.grownBy wr (some w.heap.size)) _ _) (by omega)⟩, B.setCell (by simp) _⟩
      case measure => simp [intOf]; omega
    · have ek : Hid (k = 16) := Lib.hid (by omega)
      go_wp2_with (first | (refine wpList_ld16 rfl _ rfl hr rfl ?_) | (refine wpList_st16 rfl _ _ rfl hq0 (mixP p q k) rfl rfl ?_))
      (try simp only [Exit.inBlock, Exit.then])
      refine bodyPost_ret (results16 rfl _ (row_set hq0) rfl) rfl ?_
      exact ⟨by rw [ek.out, mixP_all], B.grown (grown_setRow _) B.size fun j hj => by cases hj; omega⟩

theorem lacks_any (p : Nat → Bool) (u : Nat) (hu : u < 1024) (w : World) :
    Calls Tryz.prog 89 #[.agg (setA p), .int .i64 u] w fun e w' => e = .returned (.bool (!p u)) ∧ Below w.heap.size w w' := by
  have hx := row_new w p
  have B0 : Below w.heap.size w (w.alloc (.cells (setA p) 68)) := by go_grown
  go_enter Tryz.func89, Tryz.ntmps89
  go_wp2_with (first | (refine wpList_ld16 rfl _ rfl hx rfl ?_))
  refine (has_any p u hu _).mono ?_
  rintro e w1 ⟨rfl, hb⟩
  go_wp2_with fail
  go_ret
  exact ⟨ret_bool (by simp), B0.trans (hb.mono B0.size)⟩

theorem wp_ld16 {o : Oper} {a : Act} {w : World} {K : Act → World → Prop} {Q : Exit → Act → World → Prop} (x : Operand) (ho : o.op = .load 68 x) {b : Nat} {p : Nat → Bool} (hr : RowAt w b p) (hx : a.eval x = .pointer (some ⟨b, 0, none⟩)) (h : K (a.put o.dst (.agg (setA p))) w) : o.wp Tryz.prog a w K Q :=
  wp_load_row _ x ho b hx _ _ _ _ hr Tryz.underlying68 rfl (by rw [setA_size]; exact info81) h
theorem wp_st16 {o : Oper} {a : Act} {w : World} {K : Act → World → Prop} {Q : Exit → Act → World → Prop} (x y : Operand) (ho : o.op = .store 68 x y) {b : Nat} {p : Nat → Bool} (hr : RowAt w b p) (q : Nat → Bool) (hx : a.eval x = .pointer (some ⟨b, 0, none⟩)) (hy : a.eval y = .agg (setA q)) (h : K (a.put o.dst undef) (w.setRow b (setA q))) : o.wp Tryz.prog a w K Q :=
  wp_store_row _ x y ho b (setA q) hx hy _ _ hr (by rw [setA_size]; exact info81) (by rw [setA_size, setA_size]) (setA_one q) h

/-- what a list of numbers owns is no set -/
theorem own_not_set {w : World} {base b : Nat} {v : Value} {L : List Int} {p : Nat → Bool} (h : OwnInts w base v L) (hr : RowAt w b p) : v.ownBlock ≠ some b := fun e => by
  rcases h.2 with ⟨rfl, _⟩ | ⟨g, cap, cur, rfl, _, hgb, _⟩
  · simp [Value.ownBlock] at e
  · have e2 : g = b := by simpa [Value.ownBlock] using e
    subst e2
    have hr' : w.heap[g]? = some (.cells (setA p) 68 (0, 0)) := hr
    rw [hr'] at hgb
    injection hgb with hgb
    injection hgb with _ hgb _
    exact absurd hgb (by decide)
theorem exec_ldRow {a : Act} {w : World} {b : Nat} {p : Nat → Bool} (hr : RowAt w b p) (o : Oper) (x : Operand) (ho : o.op = .load 68 x) (hx : a.eval x = .pointer (some ⟨b, 0, none⟩)) : (execOp a.eval o).run Tryz.prog w = .ok (.value (.agg (setA p))) w := by
  unfold execOp
  simp only [ho, hx, Instr.loadAt, Instr.sureAddr, Sem.run_bind, Sem.run_pure, Result.andThen_ok, ldVar hr]

end Go.Proofs.YtpmfedllbiblbaaGreat

namespace Go.Proofs.YtpmfedllbiblbaaGreat
open Go.RowKit Go.Shelf Cv
set_option linter.unusedVariables false
set_option linter.unusedSimpArgs false
set_option maxRecDepth 100000

attribute [local go_sem] Oper.semAt_some

/-- a load, a store of a set in a fence -/
theorem wpListIn_ld16 {F : Fence} {n : Nat} {ops : Array Oper} {rest : List Oper} {o : Oper} {a : Act} {w : World} {Q : Exit → Act → World → Prop} (hgd : o.guard = none) (x : Operand) (ho : o.op = .load 68 x) {b : Nat} {p : Nat → Bool}
    (hr : RowAt w b p) (hx : a.eval x = .pointer (some ⟨b, 0, none⟩)) (h : wpListIn F n Tryz.prog ops Q rest (a.put o.dst (.agg (setA p))) w) : wpListIn F n Tryz.prog ops Q (o :: rest) a w := by
  refine wpListIn_plain hgd fun K hK => ?_
  unfold Oper.wpIn
  refine ⟨by simp [Oper.about, ho], ?_⟩
  rw [Oper.semAt_plain F _ _ (by rw [ho]; intro c hc; cases hc)]
  unfold execOp
  simp only [ho, hx, Instr.loadAt, Instr.sureAddr, Sem.run_bind, Sem.run_pure, Result.andThen_ok, ldVar hr]
  exact hK _ _ h
theorem wpListIn_st16 {F : Fence} {n : Nat} {ops : Array Oper} {rest : List Oper} {o : Oper} {a : Act} {w : World} {Q : Exit → Act → World → Prop} (hgd : o.guard = none) (x y : Operand) (ho : o.op = .store 68 x y) {b : Nat} {p : Nat → Bool}
    (hr : RowAt w b p) (q : Nat → Bool) (hx : a.eval x = .pointer (some ⟨b, 0, none⟩)) (hy : a.eval y = .agg (setA q)) (h : wpListIn F n Tryz.prog ops Q rest (a.put o.dst undef) (w.setRow b (setA q))) : wpListIn F n Tryz.prog ops Q (o :: rest) a w := by
  refine wpListIn_plain hgd fun K hK => ?_
  unfold Oper.wpIn
  refine ⟨by simp [Oper.about, ho], ?_⟩
  rw [Oper.semAt_plain F _ _ (by rw [ho]; intro c hc; cases hc)]
  unfold execOp
  simp only [ho, hx, hy, Instr.storeAt, Instr.sureAddr, Sem.run_bind, Sem.run_pure, Result.andThen_ok, stVar (q := q) hr]
  exact hK _ _ h

/-- the words of a ball, as a set -/
def ballN (S : List Int) (r c : Int) : Nat → Bool := inL (ballW S c r)
def encP (p : Nat → Bool) : Array Value := #[.agg (setA p)]
theorem keepsT_row {t : TypeId} {W W' : World} {b : Nat} {p : Nat → Bool} (h : RowAt W b p) (hne : 68 ≠ t) (hg : W.grownBy W' (some b)) : KeepsT t W W' := fun i cur hi => by
  rw [hg.block i (Array.getElem?_eq_some_iff.1 hi).1 (fun e => ?_)]
  · exact hi
  · have e' : i = b := by simpa using e
    subst e'
    have h' : W.heap[i]? = some (.cells (setA p) 68 (0, 0)) := h
    rw [hi] at h'
    injection h' with h'
    injection h' with _ h' _
    exact hne h'.symm
theorem row_own {β : Type} (b : Nat) (f : β → Nat → Bool) : Own (fun (s : β) W => RowAt W b (f s)) := fun s A B row hs hg hr => by
  show B.heap[b]? = _
  rw [hg.block b (RowAt.lt hs) (fun e => ?_)]
  · exact hs
  · obtain ⟨o, ho, hc⟩ := hr b e.symm
    have hs' : A.heap[b]? = some (.cells (setA (f s)) 68 (0, 0)) := hs
    rw [hs'] at ho
    injection ho with ho
    subst ho
    cases hc

theorem setTo_app (L M : List Int) (k : Nat) (h : k ≤ L.length) : setTo (L ++ M) k = setTo L k := by
  induction k with
  | zero => rfl
  | succ k ih => rw [setTo, setTo, ih (by omega), gi_append_lt _ _ _ (by omega)]
theorem results_none {fn : Func} (h : fn.results = #[]) (tmps : Array Value) (w : World) : (results fn tmps).run Tryz.prog w = .ok (.tuple #[]) w := by simp [results, h, go_sem]
/-- what a round of a loop over the balls keeps -/
def KpC (n₀ wb sb rb : Nat) (W W' : World) : Prop := Below n₀ W W' ∧ KeepsAt wb W W' ∧ KeepsAt sb W W' ∧ KeepsAt rb W W'
theorem kpC_t {n₀ wb sb rb : Nat} {A B C : World} (h : KpC n₀ wb sb rb A B) (k : KpC n₀ wb sb rb B C) : KpC n₀ wb sb rb A C := ⟨h.1.trans k.1, h.2.1.trans k.2.1, h.2.2.1.trans k.2.2.1, h.2.2.2.trans k.2.2.2⟩
theorem keepsAt_nc {g : Nat} {A B : World} {row : Option Nat} (hg : A.grownBy B row) (hr : ∀ r, row = some r → ∃ o : Obj, A.heap[r]? = some o ∧ o.isCells = false) : KeepsAt g A B := fun cur t hi =>
  (hg.block g (Array.getElem?_eq_some_iff.1 hi).1 (fun e => by obtain ⟨o, ho, hc⟩ := hr g e.symm; rw [hi] at ho; injection ho with ho; subst ho; cases hc)).trans hi
theorem kpC_g {n₀ wb sb rb N : Nat} (hN : n₀ ≤ N) (A B : World) (row : Option Nat) (hg : A.grownBy B row) (hr : ∀ r, row = some r → N ≤ r ∧ ∃ o : Obj, A.heap[r]? = some o ∧ o.isCells = false) (hA : N ≤ A.heap.size) : KpC n₀ wb sb rb A B :=
  ⟨(Below.refl n₀ A).grown hg (by omega) (fun k e => by have := (hr k e).1; omega), keepsAt_nc hg fun r e => (hr r e).2, keepsAt_nc hg fun r e => (hr r e).2, keepsAt_nc hg fun r e => (hr r e).2⟩
theorem keepsAt_below {g : Nat} {A B : World} (h : Below A.heap.size A B) : KeepsAt g A B := fun cur t hi => (h.block g (Array.getElem?_eq_some_iff.1 hi).1).trans hi
theorem keepsAt_row {g b : Nat} {W W' : World} (hg : W.grownBy W' (some b)) (hne : g ≠ b) : KeepsAt g W W' := KeepsAt.of_grown hg (by simp; omega)

/-- what holds between two rounds of the loop over the words -/
def BInv (S C : List Int) (r : Int) (ao ac : Option Addr) (cap capc l wb sb rb : Nat) (J : List (Nat → Bool) → World → Prop) (w0 Wst : World) (a : Act) (W : World) : Prop :=
  ∃ (k : Nat) (ds : List Deferred) (u4 u5 u6 u7 u8 u12 u13 u14 u15 u16 u17 u18 u19 u20 u21 u22 u23 u24 u25 u26 u27 u28 : Value), k ≤ C.length ∧ J ((C.take k).map (ballN S r)) W ∧ Below w0.heap.size w0 W ∧ Marks Wst.heap.size ds W ∧ Wst.heap.size ≤ W.heap.size ∧ (W.heap[wb]? = some (.cells #[.slice ac C.length capc] 24 (0, 0)) ∧ W.heap[sb]? = some (.cells #[.slice ao S.length cap] 26 (0, 0)) ∧ W.heap[rb]? = some (.cells #[.int .i64 r] 2 (0, 0))) ∧
    a = { tmps := #[.func (.yield l) #[] #[], .pointer (some ⟨wb, 0, none⟩), .pointer (some ⟨sb, 0, none⟩), .pointer (some ⟨rb, 0, none⟩), u4, u5, u6, u7, u8, .slice ac C.length capc, .int .i64 (C.length : Int), .int .i64 (k : Int), u12, u13, u14, u15, u16, u17, u18, u19, u20, u21, u22, u23, u24, u25, u26, u27, u28], defers := ds }
def BMes (C : List Int) (a : Act) (W : World) : Nat := C.length - (intOf (a.tmps.getD 11 undef)).toNat

end Go.Proofs.YtpmfedllbiblbaaGreat

namespace Go.Proofs.YtpmfedllbiblbaaGreat
open Go.RowKit Go.Shelf Cv
set_option linter.unusedVariables false
set_option linter.unusedSimpArgs false
set_option maxRecDepth 100000

/-- the words of all sets of a list together -/
def unionL (ps : List (Nat → Bool)) : Nat → Bool := fun u => ps.any (fun p => p u)
theorem unionL_snoc (ps : List (Nat → Bool)) (p : Nat → Bool) : unionL (ps ++ [p]) = fun u => unionL ps u || p u := by
  funext u; simp [unionL]

section
attribute [local go_sem] Oper.semAt_some

set_option maxHeartbeats 2000000 in
/-- the union of what an iterator yields -/
theorem together_any (gf : Nat) (lb : Array Value) (eg : ∀ args w, (callFunc gf args).run Tryz.prog w = .ok (.enter gf args) w) (Kp : World → World → Prop) (PS : List (Nat → Bool)) (N : Nat) (w : World)
    (hKt : ∀ {A B C : World}, Kp A B → Kp B C → Kp A C) (hKb : ∀ A B : World, Below w.heap.size A B → Kp A B)
    (hseq : ∀ n, 1 ≤ n → Gives0 Fence.wide n Tryz.prog gf lb encP Kp (fun ys => ys = PS) N w) :
    Calls Tryz.prog 87 #[.func (.func gf) #[] lb] w fun e w' => e = .returned (.agg (setA (unionL PS))) ∧ Below w.heap.size w w' := by
  refine (callsIn_wide (n := 6)).1 ?_
  refine callsIn_of_wp_marks Tryz.func87 rfl trivial ?_ rfl
  simp only [Tryz.ntmps87, List.size_toArray, List.length_cons, List.length_nil, Nat.reduceAdd, Nat.reduceSub, Array.replicate_succ, Array.replicate_zero, List.push_toArray, List.append_toArray, List.nil_append, List.cons_append]
  have hz1 := rowz_new w rfl
  have hz2 := rowz_new (w.alloc (.cells #[.int .u64 0, .int .u64 0, .int .u64 0, .int .u64 0, .int .u64 0, .int .u64 0, .int .u64 0, .int .u64 0, .int .u64 0, .int .u64 0, .int .u64 0, .int .u64 0, .int .u64 0, .int .u64 0, .int .u64 0, .int .u64 0] 68)) rfl
  simp only [World.size_alloc] at hz2
  gi_wp2
  obtain ⟨w2, hw2⟩ : ∃ w2, w2 = (w.alloc (.cells #[.int .u64 0, .int .u64 0, .int .u64 0, .int .u64 0, .int .u64 0, .int .u64 0, .int .u64 0, .int .u64 0, .int .u64 0, .int .u64 0, .int .u64 0, .int .u64 0, .int .u64 0, .int .u64 0, .int .u64 0, .int .u64 0] 68)).alloc (.cells #[.int .u64 0, .int .u64 0, .int .u64 0, .int .u64 0, .int .u64 0, .int .u64 0, .int .u64 0, .int .u64 0, .int .u64 0, .int .u64 0, .int .u64 0, .int .u64 0, .int .u64 0, .int .u64 0, .int .u64 0, .int .u64 0] 68) := ⟨_, rfl⟩
  have r1 : RowAt w2 w.heap.size (fun _ => false) := by rw [hw2]; exact hz1.alloc _
  have r2 : RowAt w2 (w.heap.size + 1) (fun _ => false) := by rw [hw2]; exact hz2
  have B2 : Below w.heap.size w w2 := by rw [hw2]; go_grown
  have s2 : w2.heap.size = w.heap.size + 2 := by rw [hw2]; simp
  rw [← hw2]
  clear hw2 hz1 hz2
  have HB := Lib.hid hKb
  refine range_gives rfl (by omega) (gf := gf) (lb := lb) rfl trivial eg (hseq (6 - 1) (by omega)) hKt
    (fun A B row hg hr hA => hKb A B ((Below.refl w.heap.size A).grown hg (by omega) (fun k e => by have := (hr k e).1; omega))) B2 (fun _ => rfl)
    (fun (pre : List (Nat → Bool)) W => RowAt W (w.heap.size + 1) (unionL pre) ∧ RowAt W w.heap.size (fun _ => false) ∧ (Below w.heap.size w W ∧ w2.heap.size ≤ W.heap.size))
    (fun q W => ∃ bb, w2.heap.size ≤ bb ∧ RowAt W bb q.2.1 ∧ RowAt W (w.heap.size + 1) (unionL q.1) ∧ RowAt W w.heap.size (fun _ => false) ∧ (Below w.heap.size w W ∧ w2.heap.size ≤ W.heap.size) ∧ q.2.2 = { tmps := #[.func (.func gf) #[] lb, undef, .pointer (some ⟨w.heap.size, 0, none⟩), .pointer (some ⟨w.heap.size + 1, 0, none⟩), .pointer (some ⟨bb, 0, none⟩), .agg #[.int .u64 0, .int .u64 0, .int .u64 0, .int .u64 0, .int .u64 0, .int .u64 0, .int .u64 0, .int .u64 0, .int .u64 0, .int .u64 0, .int .u64 0, .int .u64 0, .int .u64 0, .int .u64 0, .int .u64 0, .int .u64 0], .func (.func gf) #[] lb, .agg (setA q.2.1), undef, undef, undef, undef], defers := [] })
    ?ownI ?ownA ⟨r2, r1, B2, Nat.le_refl _⟩ ?assign ?body ?done
  case assign =>
    intro l pre x W K ⟨h1, h2, h3, h4⟩ hK
    dsimp only [encP]
    have hzW := rowz_new W rfl
    have hxW : RowAt ((W.alloc (.cells #[.int .u64 0, .int .u64 0, .int .u64 0, .int .u64 0, .int .u64 0, .int .u64 0, .int .u64 0, .int .u64 0, .int .u64 0, .int .u64 0, .int .u64 0, .int .u64 0, .int .u64 0, .int .u64 0, .int .u64 0, .int .u64 0] 68)).setRow W.heap.size (setA x)) W.heap.size x := row_set hzW
    have gW : (W.alloc (.cells #[.int .u64 0, .int .u64 0, .int .u64 0, .int .u64 0, .int .u64 0, .int .u64 0, .int .u64 0, .int .u64 0, .int .u64 0, .int .u64 0, .int .u64 0, .int .u64 0, .int .u64 0, .int .u64 0, .int .u64 0, .int .u64 0] 68)).grownBy ((W.alloc (.cells #[.int .u64 0, .int .u64 0, .int .u64 0, .int .u64 0, .int .u64 0, .int .u64 0, .int .u64 0, .int .u64 0, .int .u64 0, .int .u64 0, .int .u64 0, .int .u64 0, .int .u64 0, .int .u64 0, .int .u64 0, .int .u64 0] 68)).setRow W.heap.size (setA x)) (some W.heap.size) := grown_setRow _
    have bW : Below W.heap.size W ((W.alloc (.cells #[.int .u64 0, .int .u64 0, .int .u64 0, .int .u64 0, .int .u64 0, .int .u64 0, .int .u64 0, .int .u64 0, .int .u64 0, .int .u64 0, .int .u64 0, .int .u64 0, .int .u64 0, .int .u64 0, .int .u64 0, .int .u64 0] 68)).setRow W.heap.size (setA x)) := ((Below.refl _ W).alloc (Nat.le_refl _) _).grown gW (by simp) (fun j e => by cases e; exact Nat.le_refl _)
    gi_wp2_with (first | (refine wpListIn_st16 rfl _ _ rfl hzW x rfl rfl ?_) | fail)
    refine hK _ _ ⟨W.heap.size, h4, hxW, h1.below bW h1.lt, h2.below bW h2.lt, ⟨h3.trans (bW.mono h3.size), Nat.le_trans h4 bW.size⟩, rfl⟩ bW
  case body =>
    rintro l pre x a' W ⟨bb, hbb2, hx, hc, hr, ⟨hB, hsz⟩, ha⟩ hlt
    dsimp only at ha hx hc
    subst ha
    gi_wp2_with (first
      | (refine wpListIn_ld16 rfl _ rfl hc rfl ?_)
      | (refine wpListIn_ld16 rfl _ rfl hx rfl ?_)
      | (refine ⟨trivial, ?_⟩; gi_at_call 49; refine (CallsIn.inRound l (callsIn_wide.2 (with_any (unionL pre) x W))).mono ?_; rintro e w4 ⟨rfl, hb4⟩; have hc4 := hc.below hb4 hc.lt)
      | (refine wpListIn_st16 rfl _ _ rfl hc4 (fun u => unionL pre u || x u) rfl rfl ?_)
      | fail)
    have g4 := grown_setRow (w := w4) (b := w.heap.size + 1) (setA fun u => unionL pre u || x u)
    have c4 : RowAt (w4.setRow (w.heap.size + 1) (setA fun u => unionL pre u || x u)) (w.heap.size + 1) (unionL (pre ++ [x])) := by rw [unionL_snoc]; exact row_set hc4
    have b4 : Below w.heap.size W (w4.setRow (w.heap.size + 1) (setA fun u => unionL pre u || x u)) := (hb4.mono hB.size).grown g4 (by have := hb4.size; have := hB.size; omega) (fun j e => by cases e; omega)
    refine ⟨(keepsFrom_below hb4).trans (KeepsFrom.of_grownBy g4 (fun j e => by cases e; omega)), HB.out _ _ b4, c4, (hr.below hb4 hr.lt).kept g4 (by omega), hB.trans b4, by have := b4.size; omega⟩
  case done =>
    rintro D xs W hD rfl ⟨hc, hr, hB, hsz⟩ hK
    gi_wp2_with (first
      | (refine wpListIn_ld16 rfl _ rfl hc rfl ?_)
      | (refine wpListIn_st16 rfl _ _ rfl hr (unionL xs) rfl rfl ?_)
      | fail)
    have g4 := grown_setRow (w := W) (b := w.heap.size) (setA (unionL xs))
    have hK' : (W.setRow w.heap.size (setA (unionL xs))).heap[D]? = some (.deferred (some [])) := (g4.block D (Array.getElem?_eq_some_iff.1 hK).1 (fun e => by rcases e with e; simp only [Option.some.injEq] at e; omega)).trans hK
    have r4 : RowAt (W.setRow w.heap.size (setA (unionL xs))) w.heap.size (unionL xs) := row_set hr
    have b4 : Below w.heap.size w (W.setRow w.heap.size (setA (unionL xs))) := hB.grown g4 hB.size (fun j e => by cases e; omega)
    refine leaves_marksJ (B := w2.heap.size) (J := fun W => RowAt W w.heap.size (unionL xs) ∧ (Below w.heap.size w W ∧ w2.heap.size ≤ W.heap.size)) (fun W r o o' hj' hr hh ho => ⟨(row_own w.heap.size (fun _ : Unit => unionL xs)) () W _ (some r) hj'.1 (grownBy_putObj' _ _ _) (fun r' e => by cases e; exact ⟨o, hh, ho⟩), hj'.2.1.grown (grownBy_putObj' _ _ _) hj'.2.1.size (fun j e => by cases e; omega), by simpa using hj'.2.2⟩)
      (fun W' h' => ⟨_, results16 rfl _ h'.1 rfl, rfl, h'.2.1⟩) _ _ ⟨⟨D, rfl, hD, hK', by simp⟩, trivial⟩ ⟨r4, b4, by have := g4.size; omega⟩
  case ownI => exact OwnFrom.and (Own.from (row_own _ (fun pre : List (Nat → Bool) => unionL pre)) _) (OwnFrom.and (Own.from (row_own _ (fun pre : List (Nat → Bool) => fun _ => false)) _) (OwnFrom.and (ownFrom_below (Nat.le_refl _) B2.size) (fun _ _ _ _ hs hg _ => Nat.le_trans hs hg.size)))
  case ownA =>
    rintro q A B row ⟨bb, h1, h2, h3, h4, ⟨h5, h6⟩, h7⟩ hg hr
    have own := fun (b : Nat) (p : Nat → Bool) (h : RowAt A b p) => (row_own b (fun _ : Unit => p)) () A B row h hg (fun r e => (hr r e).2)
    exact ⟨bb, h1, own _ _ h2, own _ _ h3, own _ _ h4, ⟨h5.grown hg h5.size (fun j e => by have := (hr j e).1; have := B2.size; omega), Nat.le_trans h6 hg.size⟩, h7⟩


end

end Go.Proofs.YtpmfedllbiblbaaGreat

namespace Go.Proofs.YtpmfedllbiblbaaGreat
open Go.RowKit Go.Shelf Cv
set_option linter.unusedVariables false
set_option linter.unusedSimpArgs false
set_option maxRecDepth 100000

attribute [local go_sem] Oper.semAt_some

theorem kpC_b {n₀ wb sb rb N : Nat} {A B : World} (h : Below N A B) (hN : n₀ ≤ N) (h1 : wb < N) (h2 : sb < N) (h3 : rb < N) : KpC n₀ wb sb rb A B :=
  ⟨h.mono hN, fun _ _ e => (h.block wb h1).trans e, fun _ _ e => (h.block sb h2).trans e, fun _ _ e => (h.block rb h3).trans e⟩
/-- the words that a code covers -/
def covN (S C : List Int) (r : Int) : Nat → Bool := unionL (C.map (ballN S r))

theorem ballN_in (S : List Int) (r c : Int) (u : Nat) : ballN S r c u = decide (u < (nW S).toNat ∧ dist S u c ≤ r) := by
  unfold ballN inL ballW
  rw [Bool.eq_iff_iff, decide_eq_true_eq, decide_eq_true_eq, selTo_eq, List.mem_map]
  constructor
  · rintro ⟨i, hi, e⟩
    have hi' : i = u := by have : (i : Int) = (u : Int) := e; omega
    subst hi'
    rw [List.mem_filter, List.mem_range] at hi
    exact ⟨hi.1, by simpa [ballB] using hi.2⟩
  · rintro ⟨h1, h2⟩
    exact ⟨u, by rw [List.mem_filter, List.mem_range]; exact ⟨h1, by simpa [ballB] using h2⟩, rfl⟩
theorem covN_in (S C : List Int) (r : Int) (u : Nat) : covN S C r u = decide (u < (nW S).toNat ∧ ∃ c ∈ C, dist S u c ≤ r) := by
  unfold covN unionL
  rw [Bool.eq_iff_iff, decide_eq_true_eq, List.any_eq_true]
  constructor
  · rintro ⟨p, hp, h⟩
    obtain ⟨c, hc, rfl⟩ := List.mem_map.1 hp
    rw [ballN_in, decide_eq_true_eq] at h
    exact ⟨h.1, c, hc, h.2⟩
  · rintro ⟨h1, c, hc, h2⟩
    exact ⟨_, List.mem_map.2 ⟨c, hc, rfl⟩, by rw [ballN_in, decide_eq_true_eq]; exact ⟨h1, h2⟩⟩
/-- the set of all words -/
def allN (S : List Int) : Nat → Bool := fun u => decide (u < (nW S).toNat)
theorem covN_whole {S : List Int} (h : Sp S) : covN S [0] 8 = allN S := by
  funext u
  rw [covN_in, allN, Bool.eq_iff_iff, decide_eq_true_eq, decide_eq_true_eq]
  exact ⟨fun g => g.1, fun g => ⟨g, 0, by simp, by have := (dist_bd S u 0).2; have := h.hi; omega⟩⟩

theorem zero_code : ∀ i, i < ([0] : List Int).length → 0 ≤ gi [0] i ∧ gi [0] i ≤ 9223372036854775807 := fun i hi => by
  have e : i = 0 := by simpa using hi
  subst e
  exact ⟨Int.le_refl 0, by decide⟩
end Go.Proofs.YtpmfedllbiblbaaGreat
