/-
  Texts put together: CntB, GrM, SetEq, Seq. By an AI agent.
-/
import Derived.Test.YtpmfedllbiblbaaGreatPk31
import Derived.Test.YtpmfedllbiblbaaGreatPk34
import Derived.Test.YtpmfedllbiblbaaGreatPk33
import Derived.Laws.StructEq
import Derived.BigQuiet
import Derived.Test.YtpmfedllbiblbaaGreatPkSort
namespace Go.Proofs.YtpmfedllbiblbaaGreat
open Go.RowKit Cv
set_option linter.unusedVariables false
set_option linter.unusedSimpArgs false
set_option maxRecDepth 100000

/-- how many numbers below n have p -/
def cntTo (p : Nat → Bool) : Nat → Nat
  | 0 => 0
  | n + 1 => cntTo p n + if p n = true then 1 else 0
theorem cntTo_le (p : Nat → Bool) (n : Nat) : cntTo p n ≤ n := by
  induction n with
  | zero => exact Nat.le_refl _
  | succ n ih => rw [cntTo]; split <;> omega
theorem bit_div (m j : Nat) : m / 2 ^ j % 2 = if m.testBit j = true then 1 else 0 := by
  rw [Nat.testBit_eq_decide_div_mod_eq]
  have : m / 2 ^ j % 2 = 0 ∨ m / 2 ^ j % 2 = 1 := by omega
  rcases this with h | h <;> simp [h]
theorem bsum_part (p : Nat → Bool) (k j : Nat) (hj : j ≤ 64) : cntTo p (64 * k) + bsum (partN p k) j = cntTo p (64 * k + j) := by
  induction j with
  | zero => rfl
  | succ j ih =>
    have h := ih (by omega)
    rw [bsum, bit_div, partN_bit p k j (by omega), ← Nat.add_assoc (64 * k) j 1, cntTo, ← h]; omega
/-- what is in p and not in q -/
def byd (p q : Nat → Bool) : Nat → Bool := fun u => p u && !q u
theorem andNot_part (p q : Nat → Bool) (k : Nat) : bits BinOp.andNot IntKind.u64 (partN p k : Int) (partN q k : Int) = (partN (byd p q) k : Int) := part_andNot p q k

set_option maxHeartbeats 1000000 in
theorem countBeyond_any (p q : Nat → Bool) (w : World) :
    Calls Tryz.prog 48 #[.agg (setA p), .agg (setA q)] w fun e w' => e = .returned (.int .i64 (cntTo (byd p q) 1024)) ∧ Below w.heap.size w w' := by
  have hx := (row_new w p).alloc (.cells (setA q) 68)
  have hy := rown_new (w.alloc (.cells (setA p) 68)) q (n := w.heap.size + 1) (by simp)
  have HB := Lib.hid (fun k => bsum_part (byd p q) k 64 (Nat.le_refl _))
  have HL := Lib.hid (cntTo_le (byd p q))
  have HA := Lib.hid (andNot_part p q)
  go_enter Tryz.func48, Tryz.ntmps48
  go_wp2_with (first | (refine wpList_ld16 rfl _ rfl hx rfl ?_))
  go_loopw [5, 9] (fun v i wr => ∃ k : Nat, k ≤ 16 ∧ i = .int .i64 k ∧ v = .int .i64 (cntTo (byd p q) (64 * k)) ∧ RowAt wr (w.heap.size + 1) q ∧ Below w.heap.size w wr) (fun _ i _ => 16 - (intOf i).toNat)
  case atStart => exact ⟨0, by omega, rfl, rfl, hy, by go_grown⟩
  case round =>
    clear hx hy
    obtain ⟨k, hk, rfl, rfl, hr, B⟩ := hrel
    by_cases hlt : k < 16
    · have hcx := hr.cell k hlt
      have hI := idx16 p k hlt wr
      have hO := HA.out k
      have hb := HB.out k
      have hl := HL.out (64 * k)
      have hl2 := HL.out (64 * k + 64)
      have hones := ones_any (partN (byd p q) k) (partN_lt _ _) wr
      obtain ⟨n1, h1⟩ : ∃ n1, n1 = cntTo (byd p q) (64 * k) := ⟨_, rfl⟩
      obtain ⟨n2, h2⟩ : ∃ n2, n2 = bsum (partN (byd p q) k) 64 := ⟨_, rfl⟩
      rw [← h1, ← h2] at hb
      rw [← h1] at hl ⊢
      rw [← h2] at hones
      have E : IntKind.i64.wrap ((n1 : Int) + (n2 : Int)) = ((n1 + n2 : Nat) : Int) := by rw [IntWalk.i64_in _ ⟨by omega, by omega⟩]; rfl
      have HN : Hid (((n1 + n2 : Nat) : Int) = (cntTo (byd p q) (64 * (k + 1)) : Int)) := Lib.hid (by rw [hb]; rfl)
      have kI : (k : Int) < 16 := by omega
      have k0 : (0 : Int) ≤ (k : Int) := by omega
      clear h1 h2 hb
      go_wp2_with fail
      refine hones.mono ?_
      rintro e w1 ⟨rfl, rfl⟩
      go_wp2_with fail
      go_roundw
      case rel => exact ⟨k + 1, by omega, by go_num, by rw [← HN.out]; rfl, hr, B⟩
      case measure => simp [intOf]; omega
    · have ek : Hid (k = 16) := Lib.hid (by omega)
      have kI : ¬ (k : Int) < 16 := by omega
      go_wp2_with fail
      go_ret
      exact ⟨by rw [show (1024 : Nat) = 64 * k by rw [ek.out]]; rfl, B⟩

/-- the greatest of the first k numbers, and where it is first -/
def mbV (f : Nat → Nat) : Nat → Nat
  | 0 => 0
  | k + 1 => if mbV f k < f k then f k else mbV f k
def mbI (f : Nat → Nat) : Nat → Nat
  | 0 => 0
  | k + 1 => if mbV f k < f k then k else mbI f k
theorem mb_step (f : Nat → Nat) (k : Nat) : mbV f (k + 1) = (if mbV f k < f k then f k else mbV f k) ∧ mbI f (k + 1) = (if mbV f k < f k then k else mbI f k) := ⟨rfl, rfl⟩
theorem mbI_lt (f : Nat → Nat) (k : Nat) (hk : 0 < k) : mbI f k < k := by
  induction k with
  | zero => omega
  | succ k ih =>
    rw [mbI]
    split
    · omega
    · cases k with
      | zero => simp [mbI]
      | succ k => have := ih (by omega); omega
theorem mbV_le (f : Nat → Nat) (b : Nat) (h : ∀ j, f j ≤ b) (k : Nat) : mbV f k ≤ b := by
  induction k with
  | zero => exact Nat.zero_le _
  | succ k ih => rw [mbV]; have := h k; split <;> omega
theorem wpList_ldAt {ops : Array Oper} {rest : List Oper} {o : Oper} {a : Act} {w : World} {Q : Exit → Act → World → Prop} (hgd : o.guard = none) (x : Operand) (ho : o.op = .load 68 x) {g q : Nat} {p : Nat → Bool}
    (hc : ∀ k, k < 16 → w.cell? ⟨g, q + k, none⟩ = some (.int .u64 (partN p k))) (hx : a.eval x = .pointer (some ⟨g, q, none⟩)) (h : wpList Tryz.prog ops Q rest (a.put o.dst (.agg (setA p))) w) : wpList Tryz.prog ops Q (o :: rest) a w :=
  wpList_plain hgd fun _ hK => by
    unfold Oper.wp execOp
    simp only [ho, hx, Instr.loadAt, Instr.sureAddr, Sem.run_bind, Sem.run_pure, Result.andThen_ok, ldAt hc]
    exact hK _ _ h

set_option maxHeartbeats 1000000 in
theorem mostBeyond_any (base g c K : Nat) (PS : List (Nat → Bool)) (q : Nat → Bool) (hK : K = PS.length) (hl : K ≤ 1048576) (h1 : 1 ≤ K) (w : World) (hbs : base ≤ w.heap.size) (hS : OwnSets w base (.slice (some ⟨g, 0, none⟩) K c) PS) :
    Calls Tryz.prog 109 #[.slice (some ⟨g, 0, none⟩) K c, .agg (setA q)] w fun e w' => e = .returned (.int .i64 (mbI (fun j => cntTo (byd (pAt PS j) q) 1024) K)) ∧ Below w.heap.size w w' := by
  have hy := row_new w q
  have B0 : Below w.heap.size w (w.alloc (.cells (setA q) 68)) := by go_grown
  obtain ⟨f, hf⟩ : ∃ f : Nat → Nat, f = fun j => cntTo (byd (pAt PS j) q) 1024 := ⟨_, rfl⟩
  rw [← hf]
  have HF := Lib.hid (fun j => congrFun hf j)
  have HFb : Hid (∀ j, f j ≤ 1024) := Lib.hid fun j => by rw [hf]; exact cntTo_le _ _
  have HCB := Lib.hid (fun p w => countBeyond_any p q w)
  have HVb := Lib.hid (fun k => mbV_le f 1024 HFb.out k)
  have HIl := Lib.hid (mbI_lt f)
  have HC : Hid (∀ j, j < K → ∀ k, k < 16 → w.cell? ⟨g, j * 16 + k, none⟩ = some (.int .u64 (partN (pAt PS j) k))) := Lib.hid fun j hj k hk => hS.cells j (by rw [← hK]; exact hj) k hk
  have hg := hS.base_le
  clear hf hS hK
  go_enter Tryz.func109, Tryz.ntmps109
  go_wp2_with fail
  go_loopw [5, 6, 12] (fun b v i wr => ∃ k : Nat, k ≤ K ∧ i = .int .i64 k ∧ v = .int .i64 (mbV f k) ∧ b = .int .i64 (mbI f k) ∧ RowAt wr w.heap.size q ∧ Below w.heap.size w wr) (fun _ _ i _ => K - (intOf i).toNat)
  case atStart => exact ⟨0, Nat.zero_le _, rfl, rfl, rfl, hy, B0⟩
  case round =>
    clear hy B0
    obtain ⟨k, hk, rfl, rfl, rfl, hr, B⟩ := hrel
    by_cases hlt : k < K
    · have hck : ∀ j, j < 16 → wr.cell? ⟨g, k * 16 + j, none⟩ = some (.int .u64 (partN (pAt PS k) j)) := fun j hj => kept_cell B (HC.out k hlt j hj) hg.2
      have kI : (k : Int) < (K : Int) := by omega
      have k0 : (0 : Int) ≤ (k : Int) := by omega
      have sB := B.size
      have hrl := hr.lt
      have hcall := HCB.out (pAt PS k)
      have hfk := HF.out k
      have hst := mb_step f k
      obtain ⟨x, hx⟩ : ∃ x, x = f k := ⟨_, rfl⟩
      rw [← hx] at hfk hst
      have hxb : x ≤ 1024 := by rw [hx]; exact HFb.out k
      have hvb := HVb.out k
      obtain ⟨v, hv⟩ : ∃ v, v = mbV f k := ⟨_, rfl⟩
      rw [← hv] at hst hvb ⊢
      obtain ⟨P, hP⟩ : ∃ P, P = pAt PS k := ⟨_, rfl⟩
      rw [← hP] at hck hcall hfk
      have HFK := Lib.hid hfk
      have HST := Lib.hid hst
      clear hx hv hP hfk hst
      go_wp2_with (first | refine wpList_ldAt rfl _ rfl hck rfl ?_ | (refine wpList_st16 rfl _ _ rfl (rowz_new wr rfl) P rfl rfl ?_; have hz := row_set (q := P) (rowz_new wr rfl); have hb1 : Below wr.heap.size wr ((wr.alloc (.cells #[.int .u64 0, .int .u64 0, .int .u64 0, .int .u64 0, .int .u64 0, .int .u64 0, .int .u64 0, .int .u64 0, .int .u64 0, .int .u64 0, .int .u64 0, .int .u64 0, .int .u64 0, .int .u64 0, .int .u64 0, .int .u64 0] 68)).setRow wr.heap.size (setA P)) := ((Below.refl _ _).alloc (Nat.le_refl _) _).grown (grown_setRow _) (by simp) (by intro z hz; cases hz; exact Nat.le_refl _); obtain ⟨w1, hw1⟩ : ∃ w1, w1 = (wr.alloc (.cells #[.int .u64 0, .int .u64 0, .int .u64 0, .int .u64 0, .int .u64 0, .int .u64 0, .int .u64 0, .int .u64 0, .int .u64 0, .int .u64 0, .int .u64 0, .int .u64 0, .int .u64 0, .int .u64 0, .int .u64 0, .int .u64 0] 68)).setRow wr.heap.size (setA P) := ⟨_, rfl⟩; have s1 : wr.heap.size < w1.heap.size := (by rw [hw1]; simp); rw [← hw1] at hz hb1 ⊢; clear hw1; have hr1 := hr.below hb1 (by omega)) | refine wpList_ld16 rfl _ rfl hz rfl ?_ | refine wpList_ld16 rfl _ rfl hr1 rfl ?_)
      refine (hcall w1).mono ?_
      rintro e w2 ⟨rfl, hb2⟩
      rw [← HFK.out]
      have hr2 := hr1.below hb2 (by omega)
      have B2 := B.trans ((hb1.trans (hb2.mono hb1.size)).mono sB)
      clear hcall hb1 hb2 hr1 hz hr B hck
      by_cases hvx : v < x
      · have hgt : (v : Int) < (x : Int) := by omega
        rw [if_pos hvx, if_pos hvx] at HST
        go_wp2_with fail
        go_roundw
        case rel => exact ⟨k + 1, by omega, by go_num, by rw [HST.out.1], by rw [HST.out.2], hr2, B2⟩
        case measure => simp [intOf]; omega
      · have hgt : ¬ (v : Int) < (x : Int) := by omega
        rw [if_neg hvx, if_neg hvx] at HST
        go_wp2_with fail
        go_roundw
        case rel => exact ⟨k + 1, by omega, by go_num, by rw [HST.out.1], by rw [HST.out.2], hr2, B2⟩
        case measure => simp [intOf]; omega
    · have ek : k = K := by omega
      subst ek
      have kI : ¬ (k : Int) < (k : Int) := by omega
      go_wp2_with fail
      go_ret
      exact ⟨rfl, B⟩

end Go.Proofs.YtpmfedllbiblbaaGreat

namespace Go.Proofs.YtpmfedllbiblbaaGreat
open Cv
set_option linter.unusedVariables false
set_option linter.unusedSimpArgs false

theorem cntTo_pos {p : Nat → Bool} {n u : Nat} (hu : u < n) (h : p u = true) : 0 < cntTo p n := by
  induction n with
  | zero => omega
  | succ n ih =>
    rw [cntTo]
    by_cases e : u = n
    · subst e; rw [if_pos h]; omega
    · have := ih (by omega); omega
theorem cntTo_ex {p : Nat → Bool} {n : Nat} (h : 0 < cntTo p n) : ∃ u, u < n ∧ p u = true := by
  induction n with
  | zero => simp [cntTo] at h
  | succ n ih =>
    rw [cntTo] at h
    by_cases e : p n = true
    · exact ⟨n, by omega, e⟩
    · rw [if_neg e, Nat.add_zero] at h
      obtain ⟨u, hu, hp⟩ := ih h
      exact ⟨u, by omega, hp⟩
theorem cntTo_mono {p q : Nat → Bool} (h : ∀ u, p u = true → q u = true) (n : Nat) : cntTo p n ≤ cntTo q n := by
  induction n with
  | zero => exact Nat.le_refl _
  | succ n ih =>
    rw [cntTo, cntTo]
    by_cases e : p n = true
    · rw [if_pos e, if_pos (h n e)]; omega
    · rw [if_neg e]; split <;> omega
theorem cntTo_less {p q : Nat → Bool} (h : ∀ u, p u = true → q u = true) {n u : Nat} (hu : u < n) (h1 : p u = false) (h2 : q u = true) : cntTo p n < cntTo q n := by
  induction n with
  | zero => omega
  | succ n ih =>
    rw [cntTo, cntTo]
    by_cases e : u = n
    · subst e
      have := cntTo_mono h u
      rw [if_neg (by rw [h1]; decide), if_pos h2]; omega
    · have := ih (by omega)
      by_cases e2 : p n = true
      · rw [if_pos e2, if_pos (h n e2)]; omega
      · rw [if_neg e2]; split <;> omega
theorem mbV_ge (f : Nat → Nat) (k j : Nat) (hj : j < k) : f j ≤ mbV f k := by
  induction k with
  | zero => omega
  | succ k ih =>
    rw [mbV]
    by_cases e : j = k
    · subst e; split <;> omega
    · have := ih (by omega); split <;> omega
theorem mbI_at (f : Nat → Nat) (k : Nat) (h : 0 < mbV f k) : mbI f k < k ∧ f (mbI f k) = mbV f k := by
  induction k with
  | zero => simp [mbV] at h
  | succ k ih =>
    rw [mbV] at h ⊢
    rw [mbI]
    by_cases e : mbV f k < f k
    · rw [if_pos e, if_pos e]; exact ⟨by omega, rfl⟩
    · rw [if_neg e] at h
      have := ih h
      rw [if_neg e, if_neg e]; exact ⟨by omega, this.2⟩

/-- how many words a set has beyond those covered -/
def gF (F : Nat → Nat → Bool) (c : Nat → Bool) (j : Nat) : Nat := cntTo (byd (F j) c) 1024
def grDone (c : Nat → Bool) (N : Nat) : Bool := decide (∀ u, u < N → c u = true)
/-- the word that is put to the code next, and what is covered then -/
def grW (F : Nat → Nat → Bool) (N : Nat) (c : Nat → Bool) : Nat := mbI (gF F c) N
def grC (F : Nat → Nat → Bool) (N : Nat) (c : Nat → Bool) : Nat → Bool := fun u => c u || F (grW F N c) u
/-- the greedy code's words in the order in which they come -/
def grRun (F : Nat → Nat → Bool) (N : Nat) : Nat → (Nat → Bool) → List Int → List Int
  | 0, _, L => L
  | n + 1, c, L => if grDone c N = true then L else grRun F N n (grC F N c) (L ++ [(grW F N c : Int)])
/-- how many words are not covered -/
def uc (c : Nat → Bool) (N : Nat) : Nat := cntTo (fun u => !c u) N
/-- sets around words: each has its own word, and words alone -/
structure Arnd (F : Nat → Nat → Bool) (N : Nat) : Prop where
  own : ∀ w, w < N → F w w = true
  wd : ∀ w u, F w u = true → u < N
  n1 : N ≤ 1024
/-- the words that are in the code already -/
structure GrI (F : Nat → Nat → Bool) (N : Nat) (c : Nat → Bool) (L : List Int) : Prop where
  wd : ∀ x, x ∈ L → 0 ≤ x ∧ x < N
  cov : ∀ x, x ∈ L → ∀ u, F x.toNat u = true → c u = true
  nd : L.Nodup
/-- the greedy code, with its words as they come -/
def grL (F : Nat → Nat → Bool) (N : Nat) : List Int := grRun F N (N + 1) (fun _ => false) []

end Go.Proofs.YtpmfedllbiblbaaGreat

namespace Go.Proofs.YtpmfedllbiblbaaGreat
open Go.RowKit Cv
set_option linter.unusedVariables false
set_option linter.unusedSimpArgs false
set_option maxRecDepth 100000

/-- whether two sets have the same bits -/
def eqS (p q : Nat → Bool) : Bool := (List.range' 0 16 1).all fun k => ((partN p k : Nat) : Int) == ((partN q k : Nat) : Int)
theorem eqS_iff (p q : Nat → Bool) : eqS p q = true ↔ ∀ u, u < 1024 → p u = q u := by
  unfold eqS
  rw [List.all_eq_true]
  constructor
  · intro h
    refine partsL_inj (p := p) (q := q) ?_
    refine ext_gi (by rw [partsL_len, partsL_len]) fun i hi => ?_
    rw [partsL_len] at hi
    rw [gi_partsL p i hi, gi_partsL q i hi]
    have := h i (by rw [List.mem_range'_1]; omega)
    simpa using this
  · intro h k hk
    have hk' : k < 16 := by rw [List.mem_range'_1] at hk; omega
    have e : gi (partsL p) k = gi (partsL q) k := by rw [partsL_ext h]
    rw [gi_partsL p k hk', gi_partsL q k hk'] at e
    simpa using e

theorem run_eqSet (p q : Nat → Bool) (w : World) : (Op.equalIn 10000 68 (.agg (setA p)) (.agg (setA q))).run Tryz.prog w = .ok (eqS p q) w := by
  have he := Tryz.underlying66
  have hsz := Tryz.sizeOf66
  have ha := Tryz.isAgg66
  rw [show (10000 : Nat) = 9998 + 1 + 1 from rfl, Op.equalIn]
  simp only [Sem.run_bind, run_underlying Tryz.underlying68, Result.andThen_ok, hsz, Std.Legacy.Range.forIn_eq_forIn_range', Std.Legacy.Range.size, Nat.sub_zero, Nat.add_sub_cancel, Nat.div_one]
  unfold eqS
  have hl : ∀ i ∈ List.range' 0 16 1, i < 16 := fun i hi => by rw [List.mem_range'_1] at hi; omega
  generalize List.range' 0 16 1 = l at hl ⊢
  induction l with
  | nil => simp
  | cons i l ih =>
    have hi : i < 16 := hl i (by simp)
    have px : (part 66 (setA p) (i * 1)).run Tryz.prog w = .ok (.int .u64 (partN p i)) w := by
      simp [part, ha, setA_get p i hi]
    have py : (part 66 (setA q) (i * 1)).run Tryz.prog w = .ok (.int .u64 (partN q i)) w := by
      simp [part, ha, setA_get q i hi]
    have pe := run_equalIn_int (P := Tryz.prog) (w := w) 9998 66 .u64 .u64 (partN p i : Int) (partN q i : Int) he
    simp only [List.forIn_cons, Sem.run_bind, px, py, pe, Result.andThen_ok, List.all_cons]
    cases hb : (((partN p i : Nat) : Int) == ((partN q i : Nat) : Int))
    · simp
    · simp only [Bool.not_true, Bool.false_eq_true, if_false, Sem.run_pure, Result.andThen_ok, Bool.true_and]
      exact ih fun j hj => hl j (by simp [hj])

theorem guardSet : Tryz.prog.eqGuardType Tryz.prog.depth 68 = false := by kernel_rfl
theorem exec_neSet {a : Act} {w : World} {p q : Nat → Bool} (o : Oper) (x y : Operand) {t : TypeId} (ho : o.op = .binOp .neq 68 x y t) (hx : a.eval x = .agg (setA p)) (hy : a.eval y = .agg (setA q)) :
    (execOp a.eval o).run Tryz.prog w = .ok (.value (.bool (!eqS p q))) w := by
  unfold execOp
  simp only [ho, hx, hy, Sem.run_bind, Sem.run_pure, Result.andThen_ok, run_eqGuard_agg w _ _ _ _ _ _ guardSet, binOp, Op.equal, Op.maxDepth, run_eqSet]
end Go.Proofs.YtpmfedllbiblbaaGreat

namespace Go.Proofs.YtpmfedllbiblbaaGreat
open Go.RowKit Go.Shelf Cv
set_option linter.unusedVariables false
set_option linter.unusedSimpArgs false
set_option maxRecDepth 100000

attribute [local go_sem] Oper.semAt_some

theorem values_any (a : Option Addr) (L : List Int) (c : Nat) (w : World) :
    Calls Tryz.prog 70 #[.slice a L.length c] w fun e w' => e = .returned (.func (.func 100) #[] #[.pointer (some ⟨w.heap.size, 0, none⟩)]) ∧ w'.heap[w.heap.size]? = some (.cells #[.slice a L.length c] 24 (0, 0)) ∧ Below w.heap.size w w' := by
  have H1 := Lib.hid (World.alloc_heap_new w (.cells #[.slice a L.length c] 24))
  go_enter Tryz.func70, Tryz.ntmps70
  go_wp2_with fail
  go_ret
  exact ⟨rfl, H1.out, by go_grown⟩

def encI (x : Int) : Array Value := #[.int .i64 x]

set_option maxHeartbeats 2000000 in
/-- the closure of slices.Values yields the numbers of the list -/
theorem values_gives (n : Nat) (hn1 : 1 ≤ n) (a : Option Addr) (L : List Int) (c vb : Nat) (hl : L.length ≤ 16777216) (w : World) (hL : Ints w a L) (hvb : w.heap[vb]? = some (.cells #[.slice a L.length c] 24 (0, 0))) :
    Gives0 Fence.wide n Tryz.prog 100 #[.pointer (some ⟨vb, 0, none⟩)] encI (Below w.heap.size) (fun ys => ys = L) L.length w := fun l J Wst hW hJ hY h0 => by
  have c1 := cell_of_heap ((hW.block vb (Array.getElem?_eq_some_iff.1 hvb).1).trans hvb)
  clear hvb
  have hdd : ∀ k : Nat, (Fence.wide.depth.isSome = true → 1 ≤ k) := fun k h => by cases (show (none : Option Nat).isSome = true from h)
  refine callsIn_of_wp Tryz.func100 rfl trivial ?_ rfl
  simp only [Tryz.ntmps100, List.size_toArray, List.length_cons, List.length_nil, Nat.reduceAdd, Nat.reduceSub, Array.replicate_succ, Array.replicate_zero, List.push_toArray, List.append_toArray, List.nil_append, List.cons_append]
  gi_wp2
  gi_loopw [7] (fun i wr => ∃ k : Nat, k ≤ L.length ∧ i = .int .i64 k ∧ J (L.take k) wr ∧ Below w.heap.size w wr) (fun i _ => L.length - (intOf i).toNat)
  case atStart => exact ⟨0, Nat.zero_le _, rfl, h0, hW⟩
  case round =>
    clear c1 h0
    obtain ⟨k, hk, rfl, hj, B⟩ := hrel
    by_cases hlt : k < L.length
    · obtain ⟨b, o, rfl, hbl, hc⟩ := hL.at hlt
      have hck : wr.cell? ⟨b, o + k, none⟩ = some (.int .i64 (gi L k)) := kept_cell B (hc k hlt) hbl
      obtain ⟨fn, tmps, assign, body, hy, hR⟩ := hY (L.take k) (gi L k) wr hj (by simp; omega)
      simp only [encI] at hy
      clear hc hj
      gi_wp2
      refine hR.mono ?_
      rintro e W' ⟨rfl, hJ', hb', hk'⟩
      have HJ : Hid (J (L.take (k + 1)) W') := Lib.hid (by rw [take_snoc _ _ hlt]; exact hJ')
      have B' := B.trans hb'
      clear hJ' hb' hk' hR hy
      gi_wp2
      go_roundw
      case rel => exact ⟨k + 1, by omega, by go_num, HJ.out, B'⟩
      case measure => simp [intOf]; omega
    · have ek : k = L.length := by omega
      gi_wp2
      go_end0
      exact ⟨⟨_, rfl⟩, L, rfl, by rw [ek, List.take_length] at hj; exact hj⟩

set_option maxHeartbeats 2000000 in
/-- slices.AppendSeq(nil, seq) over an iterator that promises its numbers -/
theorem appendSeq_any (gf : Nat) (lb : Array Value) (eg : ∀ args w, (callFunc gf args).run Tryz.prog w = .ok (.enter gf args) w) (S : List Int → Prop) (N : Nat) (hN : N ≤ 16777216) (w : World) (hseq : ∀ n, 1 ≤ n → Gives0 Fence.wide n Tryz.prog gf lb encI (Below w.heap.size) S N w) :
    Calls Tryz.prog 113 #[.slice none 0 0, .func (.func gf) #[] lb] w fun e w' => ∃ v L, e = .returned v ∧ S L ∧ OwnInts w' w.heap.size v L ∧ Below w.heap.size w w' := by
  refine (callsIn_wide (n := 6)).1 ?_
  refine callsIn_of_wp_marks Tryz.func113 rfl trivial ?_ rfl
  simp only [Tryz.ntmps113, List.size_toArray, List.length_cons, List.length_nil, Nat.reduceAdd, Nat.reduceSub, Array.replicate_succ, Array.replicate_zero, List.push_toArray, List.append_toArray, List.nil_append, List.cons_append]
  gi_wp2
  obtain ⟨w1, hw1⟩ : ∃ w1, w1 = w.alloc (.cells #[.slice none 0 0] 24) := ⟨_, rfl⟩
  have b1 : Boxed w1 w.heap.size 24 (.slice none 0 0) := by rw [hw1]; exact Boxed.new w _ _
  have B1 : Below w.heap.size w w1 := by rw [hw1]; exact (Below.refl _ w).alloc (Nat.le_refl _) _
  have s1 : w1.heap.size = w.heap.size + 1 := by rw [hw1]; simp
  rw [← hw1]
  clear hw1
  refine range_gives rfl (by omega) (gf := gf) (lb := lb) rfl trivial eg (hseq (6 - 1) (by omega)) (fun h k => h.trans k)
    (fun A B row hg hr hA => (Below.refl _ A).grown hg (by omega) (fun k e => by have := (hr k e).1; omega)) B1 (fun _ => rfl)
    (fun (pre : List Int) W => (∃ v, Boxed W w.heap.size 24 v ∧ W.ownsRow w.heap.size 2 1 v pre.length (pre.map (Value.int .i64)) ∧ True) ∧ (Below w.heap.size w W ∧ w1.heap.size ≤ W.heap.size))
    (fun q W => ((∃ v, Boxed W w.heap.size 24 v ∧ W.ownsRow w.heap.size 2 1 v q.1.length (q.1.map (Value.int .i64)) ∧ True) ∧ (Below w.heap.size w W ∧ w1.heap.size ≤ W.heap.size)) ∧ q.2.2 = { tmps := #[.slice none 0 0, .func (.func gf) #[] lb, .pointer (some ⟨w.heap.size, 0, none⟩), undef, .slice none 0 0, .int .i64 q.2.1, .func (.func gf) #[] lb, .int .i64 q.2.1, undef, undef, undef, undef, undef], defers := [] })
    ?ownI ?ownA ⟨⟨_, b1, World.ownsRow_nil _ _ _ _, trivial⟩, B1, Nat.le_refl _⟩ ?assign ?body ?done
  case ownI => exact OwnFrom.and (Own.from (holdsRow_own w.heap.size w.heap.size 24 2 1 (fun pre : List Int => pre.length) (fun pre : List Int => pre.map (Value.int .i64)) (fun _ v => True)) _) (OwnFrom.and (ownFrom_below (Nat.le_refl _) B1.size) (fun _ _ _ _ hs hg _ => Nat.le_trans hs hg.size))
  case ownA => exact OwnFrom.and (OwnFrom.and (Own.from (holdsRow_own w.heap.size w.heap.size 24 2 1 (fun q : List Int × Int × Act => q.1.length) (fun q : List Int × Int × Act => q.1.map (Value.int .i64)) (fun _ v => True)) _) (OwnFrom.and (ownFrom_below (Nat.le_refl _) B1.size) (fun _ _ _ _ hs hg _ => Nat.le_trans hs hg.size))) (ownFrom_pure _ _)
  case assign =>
    intro l pre x W K h hK
    dsimp only [encI]
    gi_wp2
    exact hK _ _ ⟨h, rfl⟩ (Below.refl _ _)
  case body =>
    rintro l pre x a' W ⟨⟨⟨v, hv, hrow, _⟩, hB', hsz⟩, ha⟩ hlt
    dsimp only at ha hrow
    subst ha
    have hc := hv.cell
    gi_wp2_with (gi_at_builtin; refine wpListIn_append_int_at rfl _ _ rfl w.heap.size _ _ rfl (OwnInts.alloc hrow _) W.heap.size _ rfl (cell_new _ _ _) (by omega) (by have := hB'.size; simp; omega) ?_; intro v' w3 hown' hgrow hat; obtain ⟨k1, k2, k3, k4, k5⟩ := hv.appended (by decide) hrow hB'.size (Nat.le_refl _) hown' hgrow; obtain ⟨g', cap', rfl⟩ := own_snoc hown'; have hc1 := k1.cell; have hf1 := k1.frozen)
    exact ⟨k4.from _, k5, ⟨_, k2, k3, trivial⟩, hB'.trans k5, by have := k5.size; omega⟩
  case done =>
    rintro D ys W hD HS ⟨⟨v, hv, hrow, _⟩, hB', hsz⟩ hK
    have hc := hv.cell
    gi_wp2
    refine ⟨by simp, .inl ⟨_, _, rfl, run_takeDeferred hK, ?_⟩⟩
    exact ⟨_, results_tmp rfl _ _ _, v, ys, rfl, HS, ownsRow_putObj hrow _ hK rfl, hB'.trans (belowK_b (w := w1) (by omega) W D _ _ hD hK rfl rfl)⟩

theorem collect_any (gf : Nat) (lb : Array Value) (eg : ∀ args w, (callFunc gf args).run Tryz.prog w = .ok (.enter gf args) w) (S : List Int → Prop) (N : Nat) (hN : N ≤ 16777216) (w : World) (hseq : ∀ n, 1 ≤ n → Gives0 Fence.wide n Tryz.prog gf lb encI (Below w.heap.size) S N w) :
    Calls Tryz.prog 98 #[.func (.func gf) #[] lb] w fun e w' => ∃ v L, e = .returned v ∧ S L ∧ OwnInts w' w.heap.size v L ∧ Below w.heap.size w w' := by
  go_enter Tryz.func98, Tryz.ntmps98
  go_wp2_with fail
  refine (appendSeq_any gf lb eg S N hN w hseq).mono ?_
  rintro e w1 ⟨v, L, rfl, hS, own, hb⟩
  go_wp2_with fail
  go_ret
  exact ⟨v, L, rfl, hS, own, hb⟩

/-- slices.Sorted(slices.Values(list)) -/
theorem sorted_values (vb : Nat) (a : Option Addr) (L : List Int) (c : Nat) (h1 : 1 ≤ L.length) (hl : L.length ≤ 1048576) (w : World) (hL : Ints w a L) (hvb : w.heap[vb]? = some (.cells #[.slice a L.length c] 24 (0, 0))) :
    Calls Tryz.prog 69 #[.func (.func 100) #[] #[.pointer (some ⟨vb, 0, none⟩)]] w fun e w' => ∃ v, e = .returned v ∧ OwnInts w' w.heap.size v (sorted L) ∧ Below w.heap.size w w' := by
  go_enter Tryz.func69, Tryz.ntmps69
  go_wp2_with fail
  refine (collect_any 100 #[.pointer (some ⟨vb, 0, none⟩)] (enters_of Tryz.func100 (by kernel_rfl) rfl) (fun ys => ys = L) L.length (by omega) w (fun n hn => values_gives n hn a L c vb (by omega) w hL hvb)).mono ?_
  rintro e w1 ⟨v, L', rfl, rfl, own, hb⟩
  obtain ⟨g, cap, rfl, hg⟩ := own_some own (by intro h; rw [h] at h1; simp at h1)
  have hs := sort_any w.heap.size g cap L' w1 (by omega) own
  go_wp2_with fail
  refine hs.mono ?_
  rintro e w2 ⟨rfl, own2, hg2⟩
  have hb2 := hb.grown hg2 hb.size (fun k e => by cases e; exact own.base_le.1)
  go_wp2_with fail
  go_ret
  exact ⟨_, rfl, own2, hb2⟩

end Go.Proofs.YtpmfedllbiblbaaGreat
