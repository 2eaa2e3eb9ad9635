/-
  The contracts of the sets of words: 'put', 'has', 'lacks', 'setOf', 'with'. By an AI agent.
-/
import Derived.Test.YtamebfbddoeflaaPk19
import Derived.Test.YtamebfbddoeflaaPkMath
import Derived.Test.YtamebfbddoeflaaPkAppend
import Derived.Test.YtamebfbddoeflaaPkSpace
import Derived.Test.YtamebfbddoeflaaPkFam
import Derived.Deep.RegionHeld3
import Derived.StillTailTactics
import Derived.Deep.WholeRow
import Derived.Deep.Cut
namespace Go.Proofs.Ytamebfbddoeflaa
open Go.RowKit Cv
set_option linter.unusedVariables false
set_option linter.unusedSimpArgs false
set_option maxRecDepth 100000

/-- the set p as a value -/
def setA (p : Nat → Bool) : Array Value := ((partsL p).map (Value.int .u64)).toArray
theorem setA_size (p : Nat → Bool) : (setA p).size = 16 := by simp [setA, partsL]
theorem setA_get (p : Nat → Bool) (k : Nat) (h : k < 16) : (setA p)[k]? = some (.int .u64 (partN p k)) := by simp [setA, partsL, h]
/-- the set p lies in the block b -/
def RowAt (w : World) (b : Nat) (p : Nat → Bool) : Prop := w.heap[b]? = some (.cells (setA p) 58 (0, 0))
theorem setA_ext {p q : Nat → Bool} (h : ∀ u, u < 1024 → p u = q u) : setA p = setA q := by unfold setA; rw [partsL_ext h]
theorem partN_none (k : Nat) : partN (fun _ => false) k = 0 := by
  have h : ∀ n, ofB (fun _ => false) k n = 0 := by intro n; induction n with
    | zero => rfl
    | succ n ih => rw [ofB, ih]; simp
  exact h 64
theorem setA_none : setA (fun _ => false) = #[.int .u64 0, .int .u64 0, .int .u64 0, .int .u64 0, .int .u64 0, .int .u64 0, .int .u64 0, .int .u64 0, .int .u64 0, .int .u64 0, .int .u64 0, .int .u64 0, .int .u64 0, .int .u64 0, .int .u64 0, .int .u64 0] := by
  unfold setA partsL
  simp only [partN_none]
  rfl
theorem RowAt.lt {w : World} {b : Nat} {p : Nat → Bool} (h : RowAt w b p) : b < w.heap.size := (Array.getElem?_eq_some_iff.1 h).1
theorem RowAt.cell {w : World} {b : Nat} {p : Nat → Bool} (h : RowAt w b p) (k : Nat) (hk : k < 16) : w.cell? ⟨b, k, none⟩ = some (.int .u64 (partN p k)) := by
  rw [cell_of_row w b k _ _ _ h, setA_get p k hk]
theorem RowAt.free {w : World} {b : Nat} {p : Nat → Bool} (h : RowAt w b p) (k : Nat) : w.frozen? ⟨b, k, none⟩ = false := by
  have h' : w.heap[b]? = some (.cells (setA p) 58 (0, 0)) := h
  simp [World.frozen?, h']
theorem RowAt.below {w w' : World} {b : Nat} {p : Nat → Bool} (h : RowAt w b p) {n : Nat} (hb : Below n w w') (hn : b < n) : RowAt w' b p := by
  unfold RowAt; rw [hb.block b hn]; exact h
theorem RowAt.kept {w w' : World} {b c : Nat} {p : Nat → Bool} (h : RowAt w b p) (hg : w.grownBy w' (some c)) (hn : b ≠ c) : RowAt w' b p := by
  obtain ⟨_, _, _, _, hg5⟩ := hg
  unfold RowAt; rw [hg5 b h.lt (by simpa using hn)]; exact h
theorem row_new (w : World) (p : Nat → Bool) : RowAt (w.alloc (.cells (setA p) 58)) w.heap.size p := heap_alloc_last w _
theorem rowz_new (w : World) {n : Nat} (hn : n = w.heap.size) : RowAt (w.alloc (.cells #[.int .u64 0, .int .u64 0, .int .u64 0, .int .u64 0, .int .u64 0, .int .u64 0, .int .u64 0, .int .u64 0, .int .u64 0, .int .u64 0, .int .u64 0, .int .u64 0, .int .u64 0, .int .u64 0, .int .u64 0, .int .u64 0] 58)) n (fun _ => false) := by
  subst hn; unfold RowAt; rw [setA_none]; exact heap_alloc_last w _
theorem rown_new (w : World) (p : Nat → Bool) {n : Nat} (hn : n = w.heap.size) : RowAt (w.alloc (.cells (setA p) 58)) n p := by subst hn; exact row_new w p
theorem RowAt.alloc {w : World} {b : Nat} {p : Nat → Bool} (h : RowAt w b p) (o : Obj) : RowAt (w.alloc o) b p := h.below ((Below.refl w.heap.size w).alloc (Nat.le_refl _) o) h.lt
theorem info81 : (Try.prog.info? 58).map (·.size) = some 16 := by kernel_rfl
theorem ldVar {w : World} {b : Nat} {p : Nat → Bool} (h : RowAt w b p) : (loadVar 58 ⟨b, 0, none⟩).run Try.prog w = .ok (.agg (setA p)) w :=
  run_loadVar_row w b _ _ _ _ _ h Try.underlying58 rfl (by rw [setA_size]; exact info81)
theorem setA_one (p : Nat → Bool) : (setA p).all (·.oneCell') = true := by
  unfold setA partsL
  simp [Value.oneCell']
theorem stVar {w : World} {b : Nat} {p q : Nat → Bool} (h : RowAt w b p) : (storeVar 58 ⟨b, 0, none⟩ (.agg (setA q))).run Try.prog w = .ok () (w.setRow b (setA q)) :=
  run_storeVar_row w b _ _ _ _ h (by rw [setA_size]; exact info81) (by rw [setA_size, setA_size]) (setA_one q)
theorem row_set {w : World} {b : Nat} {p q : Nat → Bool} (h : RowAt w b p) : RowAt (w.setRow b (setA q)) b q := setRow_heap w b _ _ _ _ h
theorem grown_setRow {w : World} {b : Nat} (q : Array Value) : w.grownBy (w.setRow b q) (some b) :=
  ⟨rfl, rfl, rfl, by simp, fun i hi hne => setRow_other w b i q (by simpa using hne)⟩
theorem wpList_ld16 {ops : Array Oper} {rest : List Oper} {o : Oper} {a : Act} {w : World} {Q : Exit → Act → World → Prop} (hgd : o.guard = none) (x : Operand) (ho : o.op = .load 58 x) {b : Nat} {p : Nat → Bool}
    (hr : RowAt w b p) (hx : a.eval x = .pointer (some ⟨b, 0, none⟩)) (h : wpList Try.prog ops Q rest (a.put o.dst (.agg (setA p))) w) : wpList Try.prog ops Q (o :: rest) a w :=
  wpList_load_row hgd _ x ho b hx _ _ _ _ hr Try.underlying58 rfl (by rw [setA_size]; exact info81) h
theorem wpList_st16 {ops : Array Oper} {rest : List Oper} {o : Oper} {a : Act} {w : World} {Q : Exit → Act → World → Prop} (hgd : o.guard = none) (x y : Operand) (ho : o.op = .store 58 x y) {b : Nat} {p : Nat → Bool}
    (hr : RowAt w b p) (q : Nat → Bool) (hx : a.eval x = .pointer (some ⟨b, 0, none⟩)) (hy : a.eval y = .agg (setA q)) (h : wpList Try.prog ops Q rest (a.put o.dst undef) (w.setRow b (setA q))) : wpList Try.prog ops Q (o :: rest) a w :=
  wpList_store_row hgd _ x y ho b (setA q) hx hy _ _ hr (by rw [setA_size]; exact info81) (by rw [setA_size, setA_size]) (setA_one q) h
theorem results16 {fn : Func} {t : Tmp} (h : fn.results = #[.cell t 58]) (tmps : Array Value) {w : World} {b : Nat} {p : Nat → Bool} (hr : RowAt w b p) (hp : tmps.getD t undef = .pointer (some ⟨b, 0, none⟩)) :
    (results fn tmps).run Try.prog w = .ok (.agg (setA p)) w :=
  results_cell_row h tmps w b _ _ _ _ hp hr Try.underlying58 rfl (by rw [setA_size]; exact info81)
theorem part_has (p : Nat → Bool) (u : Nat) (hu : u < 1024) : (bits BinOp.and IntKind.u64 ((partN p (u / 64) : Int) / 2 ^ (u % 64)) 1 == 1) = p u := by
  have hb := partN_lt p (u / 64)
  have e0 : ((partN p (u / 64) : Int) / 2 ^ (u % 64)) = ((partN p (u / 64) / 2 ^ (u % 64) : Nat) : Int) := by push_cast; rfl
  have hlt : partN p (u / 64) / 2 ^ (u % 64) < 18446744073709551616 := Nat.lt_of_le_of_lt (Nat.div_le_self _ _) hb
  have e1 : partN p (u / 64) / 2 ^ (u % 64) % 2 = (if p u = true then 1 else 0) := by
    have h := partN_bit p (u / 64) (u % 64) (by omega)
    rw [show 64 * (u / 64) + u % 64 = u by omega, Nat.testBit_eq_decide_div_mod_eq] at h
    by_cases hp : p u = true
    · rw [if_pos hp]; rw [hp] at h; simpa using h
    · rw [if_neg hp]; simp only [Bool.not_eq_true] at hp; rw [hp] at h
      have := Nat.mod_lt (partN p (u / 64) / 2 ^ (u % 64)) (show 0 < 2 by decide)
      simp at h; omega
  unfold bits
  have e2 : ((BitVec.ofInt IntKind.u64.bits ((partN p (u / 64) : Int) / 2 ^ (u % 64))) &&& (BitVec.ofInt IntKind.u64.bits 1)).toNat = partN p (u / 64) / 2 ^ (u % 64) % 2 := by
    rw [e0, BitVec.toNat_and]
    show (BitVec.ofInt 64 ((partN p (u / 64) / 2 ^ (u % 64) : Nat) : Int)).toNat &&& (BitVec.ofInt 64 1).toNat = _
    rw [bv_nat _ hlt, show (BitVec.ofInt 64 1).toNat = 1 from rfl, Nat.and_one_is_mod]
  show (IntKind.u64.wrap (((BitVec.ofInt IntKind.u64.bits ((partN p (u / 64) : Int) / 2 ^ (u % 64))) &&& (BitVec.ofInt IntKind.u64.bits 1)).toNat : Int) == 1) = p u
  rw [e2, e1]
  by_cases hp : p u = true
  · rw [if_pos hp, hp]; rfl
  · rw [if_neg hp]; simp only [Bool.not_eq_true] at hp; rw [hp]; rfl
theorem part_put1 (p : Nat → Bool) (u : Nat) : bits BinOp.or IntKind.u64 ((partN p (u / 64) : Int)) (IntKind.u64.wrap (2 ^ (u % 64))) = (partN (putB p u) (u / 64) : Int) := by
  have h1 := part_one u
  rw [Int.one_mul] at h1
  rw [h1]
  exact part_or p (fun v => decide (v = u)) (u / 64)
theorem setA_put (p : Nat → Bool) (u : Nat) (hu : u < 1024) : (setA p).setIfInBounds (u / 64) (.int .u64 (partN (putB p u) (u / 64))) = setA (putB p u) := by
  apply Array.ext_getElem?
  intro k
  rw [Array.getElem?_setIfInBounds]
  by_cases hk : k < 16
  · rw [setA_get _ k hk, setA_get _ k hk]
    by_cases e : u / 64 = k
    · subst e; simp [setA_size, hk]
    · rw [if_neg e, part_put_other p u k (Ne.symm e)]
  · have h1 : (setA p)[k]? = none := by simp [setA_size]; omega
    have h2 : (setA (putB p u))[k]? = none := by simp [setA_size]; omega
    rw [h1, h2]; simp [setA_size]; omega
theorem row_put {w : World} {b : Nat} {p : Nat → Bool} (h : RowAt w b p) (u : Nat) (hu : u < 1024) :
    RowAt (w.setCell ⟨b, u / 64, none⟩ (.int .u64 (partN (putB p u) (u / 64)))) b (putB p u) := by
  unfold RowAt
  rw [heap_setCell_same w b _ _ _ _ h, setA_put p u hu]
theorem put_any (b : Nat) (p : Nat → Bool) (u : Nat) (hu : u < 1024) (w : World) (h : RowAt w b p) :
    Calls Try.prog 61 #[.pointer (some ⟨b, 0, none⟩), .int .i64 u] w fun e w' => e = .returned (.tuple #[]) ∧ RowAt w' b (putB p u) ∧ w.grownBy w' (some b) := by
  have H0 := Lib.hid h
  have hc := h.cell (u / 64) (by omega)
  have hf := h.free (u / 64)
  clear h
  have hc' : w.drew.cell? ⟨b, u / 64, none⟩ = some (.int .u64 (partN p (u / 64))) := hc
  have hf' : w.drew.frozen? ⟨b, u / 64, none⟩ = false := hf
  have w1 : IntKind.i64.wrap ((u : Int) / 64) = (u : Int) / 64 := IntWalk.i64_in _ ⟨by omega, by omega⟩
  have w2 : IntKind.i64.wrap ((u : Int) % 64) = (u : Int) % 64 := IntWalk.i64_in _ ⟨by omega, by omega⟩
  go_enter Try.func61, Try.ntmps61
  go_region
  all_goals (go_wp2; go_end0)
  refine ⟨rfl, ?_, ?_⟩
  · rw [part_put1 p u]
    exact row_put H0.out u hu
  · exact grown_setCell (⟨rfl, rfl, rfl, Nat.le_refl _, fun _ _ _ => rfl⟩ : w.grownBy w.drew (some b)) _ _

theorem has_any (p : Nat → Bool) (u : Nat) (hu : u < 1024) (w : World) :
    Calls Try.prog 62 #[.agg (setA p), .int .i64 u] w fun e w' => e = .returned (.bool (p u)) ∧ Below w.heap.size w w' := by
  have e1 : Int.tdiv (u : Int) 64 = ((u / 64 : Nat) : Int) := by rw [Int.tdiv_eq_ediv_of_nonneg (by omega)]; rfl
  have e2 : Int.tmod (u : Int) 64 = ((u % 64 : Nat) : Int) := by rw [Int.tmod_eq_emod_of_nonneg (by omega)]; rfl
  have hA := setA_get p (u / 64) (by omega)
  have hm0 := partN_lt p (u / 64)
  go_enter Try.func62, Try.ntmps62
  go_wp2
  go_ret
  exact ⟨ret_bool (part_has p u hu), by go_grown⟩

/-- the words among the first k of a list, as a set -/
def setTo (T : List Int) : Nat → Nat → Bool
  | 0 => fun _ => false
  | k + 1 => putB (setTo T k) (gi T k).toNat
theorem setTo_in (T : List Int) (hT : ∀ i, i < T.length → 0 ≤ gi T i) (k : Nat) (hk : k ≤ T.length) (u : Nat) : setTo T k u = decide (∃ i, i < k ∧ gi T i = (u : Int)) := by
  induction k with
  | zero => simp [setTo]
  | succ k ih =>
    rw [setTo, putB, ih (by omega), Bool.eq_iff_iff]
    simp only [Bool.or_eq_true, decide_eq_true_eq]
    have h0 := hT k (by omega)
    constructor
    · rintro (⟨i, hi, e⟩ | h)
      · exact ⟨i, by omega, e⟩
      · exact ⟨k, by omega, by omega⟩
    · rintro ⟨i, hi, e⟩
      by_cases e2 : i = k
      · subst e2; exact .inr (by omega)
      · exact .inl ⟨i, by omega, e⟩
theorem setTo_all (T : List Int) (hT : ∀ i, i < T.length → 0 ≤ gi T i) (u : Nat) : setTo T T.length u = inL T u := by
  rw [setTo_in T hT _ (Nat.le_refl _), inL, Bool.eq_iff_iff]
  simp only [decide_eq_true_eq]
  constructor
  · rintro ⟨i, hi, e⟩; exact e ▸ gi_mem hi
  · intro h; obtain ⟨i, hi, e⟩ := mem_gi h; exact ⟨i, hi, e⟩

theorem setOf_any (at' : Option Addr) (T : List Int) (capt : Nat) (hl : T.length ≤ 4294967296) (hT : ∀ i, i < T.length → 0 ≤ gi T i ∧ gi T i < 1024) (w : World) (h : Ints w at' T) :
    Calls Try.prog 37 #[.slice at' T.length capt] w fun e w' => e = .returned (.agg (setA (inL T))) ∧ Below w.heap.size w w' := by
  have HT := Lib.hid hT
  clear hT
  go_enter Try.func37, Try.ntmps37
  go_wp2_with fail
  go_loopw [9] (fun i wr => ∃ k : Nat, k ≤ T.length ∧ i = .int .i64 k ∧ RowAt wr (w.heap.size + 1) (setTo T k) ∧ (∃ q0, RowAt wr w.heap.size q0) ∧ Below w.heap.size w wr) (fun i _ => T.length - (intOf i).toNat)
  case atStart => exact ⟨0, Nat.zero_le _, rfl, rowz_new _ (by simp), ⟨fun _ => false, (rowz_new w rfl).alloc _⟩, by go_grown⟩
  case round =>
    obtain ⟨k, hk, rfl, hr, ⟨q0, hq0⟩, B⟩ := hrel
    by_cases hlt : k < T.length
    · obtain ⟨b, o, rfl, hbl, hc⟩ := h.at hlt
      have hck := kept_cell B (hc k hlt) hbl
      obtain ⟨u, hu⟩ : ∃ u : Nat, gi T k = (u : Int) := ⟨(gi T k).toNat, by have := (HT.out k hlt).1; omega⟩
      have hu2 : u < 1024 := by have := (HT.out k hlt).2; omega
      rw [hu] at hck
      have HU := Lib.hid hu
      have hs := B.size
      clear hc hu
      go_wp2_with fail
      refine (put_any (w.heap.size + 1) (setTo T k) u hu2 _ hr).mono ?_
      rintro e w2 ⟨rfl, hr2, hg⟩
      go_wp2_with fail
      go_roundw
      case rel => exact ⟨k + 1, by omega, by go_num, by rw [setTo, HU.out]; exact hr2, ⟨q0, hq0.kept hg (by omega)⟩, B.grown hg hs fun j hj => by cases hj; omega⟩
      case measure => simp [intOf]; omega
    · have ek : Hid (k = T.length) := Lib.hid (by omega)
      go_wp2_with (first | (refine wpList_ld16 rfl _ rfl hr rfl ?_) | (refine wpList_st16 rfl _ _ rfl hq0 (setTo T k) rfl rfl ?_))
      (try simp only [Exit.inBlock, Exit.then])
      refine bodyPost_ret (results16 rfl _ (row_set hq0) rfl) rfl ?_
      exact ⟨by rw [ek.out, setA_ext fun u _ => setTo_all T (fun i hi => (HT.out i hi).1) u], B.grown (grown_setRow _) B.size fun j hj => by cases hj; omega⟩

theorem idx16 (q : Nat → Bool) (k : Nat) (hk : k < 16) (w : World) : Sem.run Try.prog (Instr.index 58 (.agg (setA q)) (.int .i64 (k : Int))) w = .ok (.int .u64 (partN q k)) w := by
  have hA := setA_get q k hk
  have h1 : (0 : Int) ≤ (k : Int) := by omega
  have h2 : (k : Int) < (16 : Nat) := by omega
  simp [go_sem, Instr.index, part, hA, h1, h2, Try.underlying58, Try.isAgg56, Try.sizeOf56]
  intro h; omega
/-- a set with the first k parts of another one -/
def mixP (p q : Nat → Bool) (k : Nat) : Nat → Bool := fun u => if u / 64 < k then p u || q u else p u
theorem mixP_at (p q : Nat → Bool) (k : Nat) : partN (mixP p q k) k = partN p k := partN_ext _ _ _ fun b hb => by
  unfold mixP; rw [if_neg (by omega)]
theorem mixP_set (p q : Nat → Bool) (k : Nat) (hk : k < 16) : (setA (mixP p q k)).setIfInBounds k (.int .u64 (partN (fun u => p u || q u) k)) = setA (mixP p q (k + 1)) := by
  apply Array.ext_getElem?
  intro j
  rw [Array.getElem?_setIfInBounds]
  by_cases hj : j < 16
  · rw [setA_get _ j hj, setA_get _ j hj]
    by_cases e : k = j
    · subst e
      rw [if_pos rfl, if_pos (by rw [setA_size]; exact hk)]
      congr 2
      have : partN (mixP p q (k + 1)) k = partN (fun u => p u || q u) k := partN_ext _ _ _ fun b hb => by unfold mixP; rw [if_pos (by omega)]
      rw [this]
    · rw [if_neg e]
      congr 2
      have : partN (mixP p q (k + 1)) j = partN (mixP p q k) j := partN_ext _ _ _ fun b hb => by
        unfold mixP
        by_cases h : (64 * j + b) / 64 < k
        · rw [if_pos h, if_pos (by omega)]
        · rw [if_neg h, if_neg (by omega)]
      rw [this]
  · have h1 : (setA (mixP p q k))[j]? = none := by simp [setA_size]; omega
    have h2 : (setA (mixP p q (k + 1)))[j]? = none := by simp [setA_size]; omega
    rw [h1, h2]; simp [setA_size]; omega
theorem row_mix {w : World} {b : Nat} {p q : Nat → Bool} {k : Nat} (hk : k < 16) (h : RowAt w b (mixP p q k)) :
    RowAt (w.setCell ⟨b, k, none⟩ (.int .u64 (partN (fun u => p u || q u) k))) b (mixP p q (k + 1)) := by
  unfold RowAt
  rw [heap_setCell_same w b _ _ _ _ h, mixP_set p q k hk]
theorem mixP_zero (p q : Nat → Bool) : mixP p q 0 = p := by funext u; simp [mixP]
theorem mixP_all (p q : Nat → Bool) : setA (mixP p q 16) = setA (fun u => p u || q u) := setA_ext fun u hu => by unfold mixP; rw [if_pos (by omega)]

theorem with_any (p q : Nat → Bool) (w : World) :
    Calls Try.prog 80 #[.agg (setA p), .agg (setA q)] w fun e w' => e = .returned (.agg (setA fun u => p u || q u)) ∧ Below w.heap.size w w' := by
  have hy := (rown_new (w.alloc (.cells (setA p) 58)) q (n := w.heap.size + 1) (by simp)).alloc (.cells #[.int .u64 0, .int .u64 0, .int .u64 0, .int .u64 0, .int .u64 0, .int .u64 0, .int .u64 0, .int .u64 0, .int .u64 0, .int .u64 0, .int .u64 0, .int .u64 0, .int .u64 0, .int .u64 0, .int .u64 0, .int .u64 0] 58)
  have hx := ((row_new w p).alloc (.cells (setA q) 58)).alloc (.cells #[.int .u64 0, .int .u64 0, .int .u64 0, .int .u64 0, .int .u64 0, .int .u64 0, .int .u64 0, .int .u64 0, .int .u64 0, .int .u64 0, .int .u64 0, .int .u64 0, .int .u64 0, .int .u64 0, .int .u64 0, .int .u64 0] 58)
  have hz := rowz_new ((w.alloc (.cells (setA p) 58)).alloc (.cells (setA q) 58)) (n := w.heap.size + 1 + 1) (by simp)
  go_enter Try.func80, Try.ntmps80
  go_wp2_with (first | (refine wpList_ld16 rfl _ rfl hy rfl ?_))
  go_loopw [8] (fun i wr => ∃ k : Nat, k ≤ 16 ∧ i = .int .i64 k ∧ RowAt wr w.heap.size (mixP p q k) ∧ (∃ q0, RowAt wr (w.heap.size + 1 + 1) q0) ∧ Below w.heap.size w wr) (fun i _ => 16 - (intOf i).toNat)
  case atStart => exact ⟨0, by omega, rfl, by rw [mixP_zero]; exact hx, ⟨_, hz⟩, by go_grown⟩
  case round =>
    obtain ⟨k, hk, rfl, hr, ⟨q0, hq0⟩, B⟩ := hrel
    by_cases hlt : k < 16
    · have hcx := hr.cell k hlt
      have hfx := hr.free k
      rw [mixP_at] at hcx
      have hA := setA_get q k hlt
      have hO : bits BinOp.or IntKind.u64 (partN p k : Int) (partN q k : Int) = (partN (fun u => p u || q u) k : Int) := part_or p q k
      have hI := idx16 q k hlt wr
      have hs := B.size
      have HR : Hid _ := Lib.hid (row_mix hlt hr)
      clear hx hy hz hA
      go_wp2_with fail
      go_roundw
      case rel => exact ⟨k + 1, by omega, by go_num, HR.out, ⟨q0, hq0.kept (grown_setCell (⟨rfl, rfl, rfl, Nat.le_refl _, fun _ _ _ => rfl⟩ : wr.grownBy wr (some w.heap.size)) _ _) (by omega)⟩, B.setCell (by simp) _⟩
      case measure => simp [intOf]; omega
    · have ek : Hid (k = 16) := Lib.hid (by omega)
      go_wp2_with (first | (refine wpList_ld16 rfl _ rfl hr rfl ?_) | (refine wpList_st16 rfl _ _ rfl hq0 (mixP p q k) rfl rfl ?_))
      (try simp only [Exit.inBlock, Exit.then])
      refine bodyPost_ret (results16 rfl _ (row_set hq0) rfl) rfl ?_
      exact ⟨by rw [ek.out, mixP_all], B.grown (grown_setRow _) B.size fun j hj => by cases hj; omega⟩

theorem lacks_any (p : Nat → Bool) (u : Nat) (hu : u < 1024) (w : World) :
    Calls Try.prog 29 #[.agg (setA p), .int .i64 u] w fun e w' => e = .returned (.bool (!p u)) ∧ Below w.heap.size w w' := by
  have hx := row_new w p
  have B0 : Below w.heap.size w (w.alloc (.cells (setA p) 58)) := by go_grown
  go_enter Try.func29, Try.ntmps29
  go_wp2_with (first | (refine wpList_ld16 rfl _ rfl hx rfl ?_))
  refine (has_any p u hu _).mono ?_
  rintro e w1 ⟨rfl, hb⟩
  go_wp2_with fail
  go_ret
  exact ⟨ret_bool (by simp), B0.trans (hb.mono B0.size)⟩

/-- what a list of numbers owns is no set -/
theorem own_not_set {w : World} {base b : Nat} {v : Value} {L : List Int} {p : Nat → Bool} (h : OwnInts w base v L) (hr : RowAt w b p) : v.ownBlock ≠ some b := fun e => by
  rcases h.2 with ⟨rfl, _⟩ | ⟨g, cap, cur, rfl, _, hgb, _⟩
  · simp [Value.ownBlock] at e
  · have e2 : g = b := by simpa [Value.ownBlock] using e
    subst e2
    have hr' : w.heap[g]? = some (.cells (setA p) 58 (0, 0)) := hr
    rw [hr'] at hgb
    injection hgb with hgb
    injection hgb with _ hgb _
    exact absurd hgb (by decide)
end Go.Proofs.Ytamebfbddoeflaa
