/-
  How many words a set has beyond another one, and which set of a list has the most. By an AI agent.
-/
import Derived.Test.YtgaelpcghljihaaOnesA
import Derived.Test.YtgaelpcghljihaaSets
namespace Go.Proofs.Ytgaelpcghljihaa
open Go.RowKit Cv
set_option linter.unusedVariables false
set_option linter.unusedSimpArgs false
set_option maxRecDepth 100000

/-- how many numbers below n have p -/
def cntTo (p : Nat → Bool) : Nat → Nat
  | 0 => 0
  | n + 1 => cntTo p n + if p n = true then 1 else 0
theorem cntTo_le (p : Nat → Bool) (n : Nat) : cntTo p n ≤ n := by
  induction n with
  | zero => exact Nat.le_refl _
  | succ n ih => rw [cntTo]; split <;> omega
theorem bit_div (m j : Nat) : m / 2 ^ j % 2 = if m.testBit j = true then 1 else 0 := by
  rw [Nat.testBit_eq_decide_div_mod_eq]
  have : m / 2 ^ j % 2 = 0 ∨ m / 2 ^ j % 2 = 1 := by omega
  rcases this with h | h <;> simp [h]
theorem bsum_part (p : Nat → Bool) (k j : Nat) (hj : j ≤ 64) : cntTo p (64 * k) + bsum (partN p k) j = cntTo p (64 * k + j) := by
  induction j with
  | zero => rfl
  | succ j ih =>
    have h := ih (by omega)
    rw [bsum, bit_div, partN_bit p k j (by omega), ← Nat.add_assoc (64 * k) j 1, cntTo, ← h]; omega
/-- what is in p and not in q -/
def byd (p q : Nat → Bool) : Nat → Bool := fun u => p u && !q u
theorem andNot_part (p q : Nat → Bool) (k : Nat) : bits BinOp.andNot IntKind.u64 (partN p k : Int) (partN q k : Int) = (partN (byd p q) k : Int) := part_andNot p q k

set_option maxHeartbeats 1000000 in
theorem countBeyond_any (p q : Nat → Bool) (w : World) :
    Calls Try.prog 162 #[.agg (setA p), .agg (setA q)] w fun e w' => e = .returned (.int .i64 (cntTo (byd p q) 1024)) ∧ Below w.heap.size w w' := by
  have hx := (row_new w p).alloc (.cells (setA q) 96)
  have hy := rown_new (w.alloc (.cells (setA p) 96)) q (n := w.heap.size + 1) (by simp)
  have HB := Lib.hid (fun k => bsum_part (byd p q) k 64 (Nat.le_refl _))
  have HL := Lib.hid (cntTo_le (byd p q))
  have HA := Lib.hid (andNot_part p q)
  go_enter Try.func162, Try.ntmps162
  go_wp2_with (first | (refine wpList_ld16 rfl _ rfl hx rfl ?_))
  go_loopw [5, 9] (fun v i wr => ∃ k : Nat, k ≤ 16 ∧ i = .int .i64 k ∧ v = .int .i64 (cntTo (byd p q) (64 * k)) ∧ RowAt wr (w.heap.size + 1) q ∧ Below w.heap.size w wr) (fun _ i _ => 16 - (intOf i).toNat)
  case atStart => exact ⟨0, by omega, rfl, rfl, hy, by go_grown⟩
  case round =>
    clear hx hy
    obtain ⟨k, hk, rfl, rfl, hr, B⟩ := hrel
    by_cases hlt : k < 16
    · have hcx := hr.cell k hlt
      have hI := idx16 p k hlt wr
      have hO := HA.out k
      have hb := HB.out k
      have hl := HL.out (64 * k)
      have hl2 := HL.out (64 * k + 64)
      have hones := ones_any (partN (byd p q) k) (partN_lt _ _) wr
      obtain ⟨n1, h1⟩ : ∃ n1, n1 = cntTo (byd p q) (64 * k) := ⟨_, rfl⟩
      obtain ⟨n2, h2⟩ : ∃ n2, n2 = bsum (partN (byd p q) k) 64 := ⟨_, rfl⟩
      rw [← h1, ← h2] at hb
      rw [← h1] at hl ⊢
      rw [← h2] at hones
      have E : IntKind.i64.wrap ((n1 : Int) + (n2 : Int)) = ((n1 + n2 : Nat) : Int) := by rw [IntWalk.i64_in _ ⟨by omega, by omega⟩]; rfl
      have HN : Hid (((n1 + n2 : Nat) : Int) = (cntTo (byd p q) (64 * (k + 1)) : Int)) := Lib.hid (by rw [hb]; rfl)
      have kI : (k : Int) < 16 := by omega
      have k0 : (0 : Int) ≤ (k : Int) := by omega
      clear h1 h2 hb
      go_wp2_with fail
      refine hones.mono ?_
      rintro e w1 ⟨rfl, rfl⟩
      go_wp2_with fail
      go_roundw
      case rel => exact ⟨k + 1, by omega, by go_num, by rw [← HN.out]; rfl, hr, B⟩
      case measure => simp [intOf]; omega
    · have ek : Hid (k = 16) := Lib.hid (by omega)
      have kI : ¬ (k : Int) < 16 := by omega
      go_wp2_with fail
      go_ret
      exact ⟨by rw [show (1024 : Nat) = 64 * k by rw [ek.out]]; rfl, B⟩

/-- the greatest of the first k numbers, and where it is first -/
def mbV (f : Nat → Nat) : Nat → Nat
  | 0 => 0
  | k + 1 => if mbV f k < f k then f k else mbV f k
def mbI (f : Nat → Nat) : Nat → Nat
  | 0 => 0
  | k + 1 => if mbV f k < f k then k else mbI f k
theorem mb_step (f : Nat → Nat) (k : Nat) : mbV f (k + 1) = (if mbV f k < f k then f k else mbV f k) ∧ mbI f (k + 1) = (if mbV f k < f k then k else mbI f k) := ⟨rfl, rfl⟩
theorem mbI_lt (f : Nat → Nat) (k : Nat) (hk : 0 < k) : mbI f k < k := by
  induction k with
  | zero => omega
  | succ k ih =>
    rw [mbI]
    split
    · omega
    · cases k with
      | zero => simp [mbI]
      | succ k => have := ih (by omega); omega
theorem mbV_le (f : Nat → Nat) (b : Nat) (h : ∀ j, f j ≤ b) (k : Nat) : mbV f k ≤ b := by
  induction k with
  | zero => exact Nat.zero_le _
  | succ k ih => rw [mbV]; have := h k; split <;> omega
theorem wpList_ldAt {ops : Array Oper} {rest : List Oper} {o : Oper} {a : Act} {w : World} {Q : Exit → Act → World → Prop} (hgd : o.guard = none) (x : Operand) (ho : o.op = .load 96 x) {g q : Nat} {p : Nat → Bool}
    (hc : ∀ k, k < 16 → w.cell? ⟨g, q + k, none⟩ = some (.int .u64 (partN p k))) (hx : a.eval x = .pointer (some ⟨g, q, none⟩)) (h : wpList Try.prog ops Q rest (a.put o.dst (.agg (setA p))) w) : wpList Try.prog ops Q (o :: rest) a w :=
  wpList_plain hgd fun _ hK => by
    unfold Oper.wp execOp
    simp only [ho, hx, Instr.loadAt, Instr.sureAddr, Sem.run_bind, Sem.run_pure, Result.andThen_ok, ldAt hc]
    exact hK _ _ h

set_option maxHeartbeats 1000000 in
theorem mostBeyond_any (base g c K : Nat) (PS : List (Nat → Bool)) (q : Nat → Bool) (hK : K = PS.length) (hl : K ≤ 1048576) (h1 : 1 ≤ K) (w : World) (hbs : base ≤ w.heap.size) (hS : OwnSets w base (.slice (some ⟨g, 0, none⟩) K c) PS) :
    Calls Try.prog 148 #[.slice (some ⟨g, 0, none⟩) K c, .agg (setA q)] w fun e w' => e = .returned (.int .i64 (mbI (fun j => cntTo (byd (pAt PS j) q) 1024) K)) ∧ Below w.heap.size w w' := by
  have hy := row_new w q
  have B0 : Below w.heap.size w (w.alloc (.cells (setA q) 96)) := by go_grown
  obtain ⟨f, hf⟩ : ∃ f : Nat → Nat, f = fun j => cntTo (byd (pAt PS j) q) 1024 := ⟨_, rfl⟩
  rw [← hf]
  have HF := Lib.hid (fun j => congrFun hf j)
  have HFb : Hid (∀ j, f j ≤ 1024) := Lib.hid fun j => by rw [hf]; exact cntTo_le _ _
  have HCB := Lib.hid (fun p w => countBeyond_any p q w)
  have HVb := Lib.hid (fun k => mbV_le f 1024 HFb.out k)
  have HIl := Lib.hid (mbI_lt f)
  have HC : Hid (∀ j, j < K → ∀ k, k < 16 → w.cell? ⟨g, j * 16 + k, none⟩ = some (.int .u64 (partN (pAt PS j) k))) := Lib.hid fun j hj k hk => hS.cells j (by rw [← hK]; exact hj) k hk
  have hg := hS.base_le
  clear hf hS hK
  go_enter Try.func148, Try.ntmps148
  go_wp2_with fail
  go_loopw [5, 6, 12] (fun b v i wr => ∃ k : Nat, k ≤ K ∧ i = .int .i64 k ∧ v = .int .i64 (mbV f k) ∧ b = .int .i64 (mbI f k) ∧ RowAt wr w.heap.size q ∧ Below w.heap.size w wr) (fun _ _ i _ => K - (intOf i).toNat)
  case atStart => exact ⟨0, Nat.zero_le _, rfl, rfl, rfl, hy, B0⟩
  case round =>
    clear hy B0
    obtain ⟨k, hk, rfl, rfl, rfl, hr, B⟩ := hrel
    by_cases hlt : k < K
    · have hck : ∀ j, j < 16 → wr.cell? ⟨g, k * 16 + j, none⟩ = some (.int .u64 (partN (pAt PS k) j)) := fun j hj => kept_cell B (HC.out k hlt j hj) hg.2
      have kI : (k : Int) < (K : Int) := by omega
      have k0 : (0 : Int) ≤ (k : Int) := by omega
      have sB := B.size
      have hrl := hr.lt
      have hcall := HCB.out (pAt PS k)
      have hfk := HF.out k
      have hst := mb_step f k
      obtain ⟨x, hx⟩ : ∃ x, x = f k := ⟨_, rfl⟩
      rw [← hx] at hfk hst
      have hxb : x ≤ 1024 := by rw [hx]; exact HFb.out k
      have hvb := HVb.out k
      obtain ⟨v, hv⟩ : ∃ v, v = mbV f k := ⟨_, rfl⟩
      rw [← hv] at hst hvb ⊢
      obtain ⟨P, hP⟩ : ∃ P, P = pAt PS k := ⟨_, rfl⟩
      rw [← hP] at hck hcall hfk
      have HFK := Lib.hid hfk
      have HST := Lib.hid hst
      clear hx hv hP hfk hst
      go_wp2_with (first | refine wpList_ldAt rfl _ rfl hck rfl ?_ | (refine wpList_st16 rfl _ _ rfl (rowz_new wr rfl) P rfl rfl ?_; have hz := row_set (q := P) (rowz_new wr rfl); have hb1 : Below wr.heap.size wr ((wr.alloc (.cells #[.int .u64 0, .int .u64 0, .int .u64 0, .int .u64 0, .int .u64 0, .int .u64 0, .int .u64 0, .int .u64 0, .int .u64 0, .int .u64 0, .int .u64 0, .int .u64 0, .int .u64 0, .int .u64 0, .int .u64 0, .int .u64 0] 96)).setRow wr.heap.size (setA P)) := ((Below.refl _ _).alloc (Nat.le_refl _) _).grown (grown_setRow _) (by simp) (by intro z hz; cases hz; exact Nat.le_refl _); obtain ⟨w1, hw1⟩ : ∃ w1, w1 = (wr.alloc (.cells #[.int .u64 0, .int .u64 0, .int .u64 0, .int .u64 0, .int .u64 0, .int .u64 0, .int .u64 0, .int .u64 0, .int .u64 0, .int .u64 0, .int .u64 0, .int .u64 0, .int .u64 0, .int .u64 0, .int .u64 0, .int .u64 0] 96)).setRow wr.heap.size (setA P) := ⟨_, rfl⟩; have s1 : wr.heap.size < w1.heap.size := (by rw [hw1]; simp); rw [← hw1] at hz hb1 ⊢; clear hw1; have hr1 := hr.below hb1 (by omega)) | refine wpList_ld16 rfl _ rfl hz rfl ?_ | refine wpList_ld16 rfl _ rfl hr1 rfl ?_)
      refine (hcall w1).mono ?_
      rintro e w2 ⟨rfl, hb2⟩
      rw [← HFK.out]
      have hr2 := hr1.below hb2 (by omega)
      have B2 := B.trans ((hb1.trans (hb2.mono hb1.size)).mono sB)
      clear hcall hb1 hb2 hr1 hz hr B hck
      by_cases hvx : v < x
      · have hgt : (v : Int) < (x : Int) := by omega
        rw [if_pos hvx, if_pos hvx] at HST
        go_wp2_with fail
        go_roundw
        case rel => exact ⟨k + 1, by omega, by go_num, by rw [HST.out.1], by rw [HST.out.2], hr2, B2⟩
        case measure => simp [intOf]; omega
      · have hgt : ¬ (v : Int) < (x : Int) := by omega
        rw [if_neg hvx, if_neg hvx] at HST
        go_wp2_with fail
        go_roundw
        case rel => exact ⟨k + 1, by omega, by go_num, by rw [HST.out.1], by rw [HST.out.2], hr2, B2⟩
        case measure => simp [intOf]; omega
    · have ek : k = K := by omega
      subst ek
      have kI : ¬ (k : Int) < (k : Int) := by omega
      go_wp2_with fail
      go_ret
      exact ⟨rfl, B⟩

end Go.Proofs.Ytgaelpcghljihaa
