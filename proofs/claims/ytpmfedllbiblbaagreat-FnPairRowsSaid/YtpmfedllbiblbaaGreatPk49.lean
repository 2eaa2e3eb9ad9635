/-
  Texts put together: Tk8, Tm8, Pr8, Rk8, To8, Or8, HamRow, Prs10, Clone. By an AI agent.
-/
import Derived.Test.YtpmfedllbiblbaaGreatPk47
import Derived.Test.YtpmfedllbiblbaaGreatCode
import Derived.Test.YtpmfedllbiblbaaGreatPk48
import Derived.Test.YtpmfedllbiblbaaGreatFam
import Derived.Deep.RegionHeld3
import Derived.Test.YtpmfedllbiblbaaGreatDigits
import Derived.Test.YtpmfedllbiblbaaGreatAppend
import Derived.Test.YtpmfedllbiblbaaGreatAppendAt
import Derived.BigQuiet
import Derived.Test.YtpmfedllbiblbaaGreatPut
namespace Go.Proofs.YtpmfedllbiblbaaGreat
open Go.RowKit Cv
set_option linter.unusedVariables false
set_option linter.unusedSimpArgs false
set_option maxRecDepth 100000

theorem all_gi (q : Int → Bool) (T : List Int) : T.all q = true ↔ ∀ j, j < T.length → q (gi T j) = true := by
  rw [List.all_eq_true]
  constructor
  · intro h j hj; exact h _ (gi_mem hj)
  · intro h x hx
    obtain ⟨j, hj, e⟩ := mem_gi hx
    rw [← e]; exact h j hj
/-- a list that is ascending and has sets of k of v numbers -/
def tkB (v k : Int) (T : List Int) : Bool := ascB T T.length && T.all (setB v k)
def eTk (v p d h : Int) (T D : List Int) : Int := if lotB v p d h = true then (if decide (T.length ≤ 200) && tkB v p T && D.all (setB v d) then 0 else 2) else 1
theorem eTk_inv {v p d h : Int} (g : lotB v p d h = false) (T D : List Int) : eTk v p d h T D = 1 := by unfold eTk; rw [g]; rfl
theorem eTk_bad {v p d h : Int} (g : lotB v p d h = true) {T D : List Int} (e : ¬ (T.length ≤ 200 ∧ tkB v p T = true ∧ D.all (setB v d) = true)) : eTk v p d h T D = 2 := by
  unfold eTk
  rw [if_pos g, if_neg]
  intro hh
  simp only [Bool.and_eq_true, decide_eq_true_iff] at hh
  exact e ⟨hh.1.1, hh.1.2, hh.2⟩
theorem eTk_ok {v p d h : Int} (g : lotB v p d h = true) {T D : List Int} (h1 : T.length ≤ 200) (h2 : tkB v p T = true) (h3 : D.all (setB v d) = true) : eTk v p d h T D = 0 := by
  unfold eTk
  rw [if_pos g, if_pos]
  simp only [Bool.and_eq_true, decide_eq_true_iff]
  exact ⟨⟨h1, h2⟩, h3⟩
theorem tkB_one (v k x : Int) : tkB v k [x] = setB v k x := by simp [tkB, ascB]

theorem indexFunc_ints8 (a : Option Addr) (cap : Nat) (L : List Int) (f : Nat) (eg : ∀ args w, (callFunc f args).run Tryz.prog w = .ok (.enter f args) w) (pre post : Array Value) (q : Int → Bool) (w : World) (hl : L.length ≤ 4294967296)
    (hrow : Ints w a L) (hp : PredN f pre post q w.heap.size w L) :
    Calls Tryz.prog 136 #[.slice a L.length cap, .func (.func f) pre post] w fun e w' => ∃ r : Int, e = .returned (.int .i64 r) ∧ Below w.heap.size w w' ∧ Hid (decide (0 ≤ r) = L.any q) := by
  have HP := Lib.hid hp
  clear hp
  go_enter Tryz.func136, Tryz.ntmps136
  go_wp2_with fail
  go_loopw [8] (fun i wr => ∃ k : Nat, k ≤ L.length ∧ i = .int .i64 k ∧ Below w.heap.size w wr ∧ Hid (∀ j, j < k → q (gi L j) = false)) (fun i _ => L.length - (intOf i).toNat)
  case atStart => exact ⟨0, Nat.zero_le _, rfl, Below.refl _ _, Lib.hid fun j hj => by omega⟩
  case round =>
    obtain ⟨k, hk, rfl, B, HA⟩ := hrel
    by_cases hlt : k < L.length
    · obtain ⟨b, o, rfl, hbl, hcc⟩ := hrow.at hlt
      have hc := kept_cell B (hcc k hlt) hbl
      have hcall := HP.out wr (gi L k) B (gi_mem hlt)
      have hs := B.size
      clear hcc
      cases hq : q (gi L k) with
      | true =>
        rw [hq] at hcall
        have HQ := Lib.hid hq
        clear hq
        go_wp2_with fail
        refine hcall.mono ?_
        rintro e w2 ⟨rfl, hb⟩
        go_wp2_with fail
        go_ret
        refine ⟨k, rfl, B.trans (hb.mono hs), Lib.hid ?_⟩
        rw [decide_eq_true (by omega), eq_comm, List.any_eq_true]
        exact ⟨_, gi_mem hlt, HQ.out⟩
      | false =>
        rw [hq] at hcall
        have HQ := Lib.hid hq
        clear hq
        go_wp2_with fail
        refine hcall.mono ?_
        rintro e w2 ⟨rfl, hb⟩
        go_wp2_with fail
        go_roundw
        case rel =>
          refine ⟨k + 1, by omega, by go_num, B.trans (hb.mono hs), Lib.hid fun j hj => ?_⟩
          by_cases e : j = k
          · subst e; exact HQ.out
          · exact HA.out j (by omega)
        case measure => simp [intOf]; omega
    · have ek : Hid (k = L.length) := Lib.hid (by omega)
      go_wp2_with fail
      go_ret
      refine ⟨-1, rfl, B, Lib.hid ?_⟩
      rw [decide_eq_false (by omega), eq_comm, ← Bool.not_eq_true, List.any_eq_true]
      rintro ⟨x, hx, hq⟩
      obtain ⟨j, hj, e⟩ := mem_gi hx
      have := HA.out j (by have := ek.out; omega)
      rw [e, hq] at this; cases this

theorem containsFunc_ints8 (a : Option Addr) (cap : Nat) (L : List Int) (f : Nat) (eg : ∀ args w, (callFunc f args).run Tryz.prog w = .ok (.enter f args) w) (pre post : Array Value) (q : Int → Bool) (w : World) (hl : L.length ≤ 4294967296)
    (hrow : Ints w a L) (hp : PredN f pre post q w.heap.size w L) :
    Calls Tryz.prog 120 #[.slice a L.length cap, .func (.func f) pre post] w fun e w' => e = .returned (.bool (L.any q)) ∧ Below w.heap.size w w' := by
  have hidx := indexFunc_ints8 a cap L f eg pre post q w hl hrow hp
  clear hp hrow
  go_enter Tryz.func120, Tryz.ntmps120
  go_wp2_with fail
  refine hidx.mono ?_
  rintro e w1 ⟨r, rfl, hb, H⟩
  go_wp2_with fail
  go_ret
  exact ⟨ret_bool H.out, hb⟩

theorem any_all (q : Int → Bool) (T : List Int) : T.any (fun x => !q x) = !T.all q := by
  induction T with
  | nil => rfl
  | cons x T ih => rw [List.any_cons, List.all_cons, ih, Bool.not_and]

end Go.Proofs.YtpmfedllbiblbaaGreat

namespace Go.Proofs.YtpmfedllbiblbaaGreat
open Go.RowKit Cv
set_option linter.unusedVariables false
set_option linter.unusedSimpArgs false
set_option maxRecDepth 100000

/-- what the model answers for tickets -/
def eTm (v p d h : Int) (T : List Int) : Int := if lotB v p d h = true then (if decide (T.length ≤ 200) && tkB v p T then 0 else 2) else 1
theorem eTm_inv {v p d h : Int} (g : lotB v p d h = false) (T : List Int) : eTm v p d h T = 1 := by unfold eTm; rw [g]; rfl
theorem eTm_bad {v p d h : Int} (g : lotB v p d h = true) {T : List Int} (e : ¬ (T.length ≤ 200 ∧ tkB v p T = true)) : eTm v p d h T = 2 := by
  unfold eTm
  rw [if_pos g, if_neg]
  intro hh
  simp only [Bool.and_eq_true, decide_eq_true_iff] at hh
  exact e hh
theorem eTm_ok {v p d h : Int} (g : lotB v p d h = true) {T : List Int} (h1 : T.length ≤ 200) (h2 : tkB v p T = true) : eTm v p d h T = 0 := by
  unfold eTm
  rw [if_pos g, if_pos]
  simp only [Bool.and_eq_true, decide_eq_true_iff]
  exact ⟨h1, h2⟩
theorem tkB_iff (v k : Int) (T : List Int) : tkB v k T = true ↔ (∀ i, 0 < i → i < T.length → gi T (i - 1) < gi T i) ∧ ∀ j, j < T.length → setB v k (gi T j) = true := by
  unfold tkB
  rw [Bool.and_eq_true, ascB_iff, all_gi]
theorem eTk_eTm (v p d h : Int) (T : List Int) (x : Int) : eTk v p d h T [x] = if eTm v p d h T = 0 then (if setB v d x = true then 0 else 2) else eTm v p d h T := by
  unfold eTk eTm
  by_cases g : lotB v p d h = true
  · rw [if_pos g, if_pos g]
    cases decide (T.length ≤ 200) <;> cases tkB v p T <;> cases hs : setB v d x <;> simp [hs]
  · rw [if_neg g, if_neg g]; rfl

end Go.Proofs.YtpmfedllbiblbaaGreat

namespace Go.Proofs.YtpmfedllbiblbaaGreat
open Go.RowKit Cv
set_option linter.unusedVariables false
set_option linter.unusedSimpArgs false
set_option maxRecDepth 100000

theorem bsum_and (a b k : Nat) : bsum (a &&& b) k ≤ bsum a k := by
  induction k with
  | zero => exact Nat.le_refl _
  | succ k ih =>
    rw [bsum, bsum, bit_and]
    have : a / 2 ^ k % 2 * (b / 2 ^ k % 2) ≤ a / 2 ^ k % 2 * 1 := Nat.mul_le_mul_left _ (by omega)
    omega
theorem pc_and (a b : Nat) : pc (a &&& b) ≤ pc a := bsum_and a b 12
theorem setB_nat {v k x : Int} (hv : 1 ≤ v ∧ v ≤ 12) (h : setB v k x = true) : ∃ m : Nat, x = m ∧ m < 4096 ∧ (pc m : Int) = k := by
  have := tw_bd hv
  obtain ⟨h1, h2⟩ := (setB_iff v k x).1 h
  exact ⟨x.toNat, by omega, by omega, h2⟩
theorem eTk_zero {v p d h : Int} {T D : List Int} (e : eTk v p d h T D = 0) : lotB v p d h = true ∧ T.length ≤ 200 ∧ tkB v p T = true ∧ D.all (setB v d) = true := by
  unfold eTk at e
  by_cases g : lotB v p d h = true
  · rw [if_pos g] at e
    split at e
    · next hh => simp only [Bool.and_eq_true, decide_eq_true_iff] at hh; exact ⟨g, hh.1.1, hh.1.2, hh.2⟩
    · cases e
  · rw [if_neg g] at e; cases e
theorem lot_v {v p d h : Int} (g : lotB v p d h = true) : 1 ≤ v ∧ v ≤ 12 := by have l := (lot_iff v p d h).1 g; exact ⟨l.v1, l.v2⟩
theorem eTk_draw {v p d h x : Int} {T : List Int} (e : eTk v p d h T [x] = 0) : ∃ q : Nat, x = q ∧ q < 4096 := by
  obtain ⟨g, _, _, h4⟩ := eTk_zero e
  rw [List.all_cons, List.all_nil, Bool.and_true] at h4
  obtain ⟨q, h5, h6, _⟩ := setB_nat (lot_v g) h4
  exact ⟨q, h5, h6⟩
theorem eTk_at {v p d h : Int} {T D : List Int} (e : eTk v p d h T D = 0) {k : Nat} (hk : k < T.length) : ∃ m : Nat, gi T k = m ∧ m < 4096 ∧ (pc m : Int) = p := by
  obtain ⟨g, _, h3, _⟩ := eTk_zero e
  exact setB_nat (lot_v g) (((tkB_iff v p T).1 h3).2 k hk)
theorem eTk_ne {v p d h : Int} {T D : List Int} : eTk v p d h T D = 0 ∨ eTk v p d h T D = 1 ∨ eTk v p d h T D = 2 := by
  unfold eTk; split
  · split <;> simp
  · simp

/-- how many numbers a ticket and a draw have in common -/
def cmN (t x : Int) : Nat := pc (t.toNat &&& x.toNat)
def vCn (v p d h t x : Int) : Int := if eTk v p d h [t] [x] = 0 then (cmN t x : Nat) else 0

theorem eTk_one (v p d h t x : Int) (g : lotB v p d h = true) : eTk v p d h [t] [x] = if setB v p t = true then (if setB v d x = true then 0 else 2) else 2 := by
  unfold eTk
  rw [if_pos g, tkB_one]
  cases setB v p t <;> cases hs : setB v d x <;> simp [hs]

end Go.Proofs.YtpmfedllbiblbaaGreat

namespace Go.Proofs.YtpmfedllbiblbaaGreat
open Go.RowKit Cv
set_option linter.unusedVariables false
set_option linter.unusedSimpArgs false
set_option maxRecDepth 100000

theorem bit_test {m : Nat} (hm : m < 4096) (k : Nat) : bits .and .i64 ((m : Int) / 2 ^ k) 1 = ((m / 2 ^ k % 2 : Nat) : Int) := by
  have hsh : ((m : Int) / 2 ^ k) = ((m / 2 ^ k : Nat) : Int) := by push_cast; rfl
  have hlo : m / 2 ^ k < 4096 := Nat.lt_of_le_of_lt (Nat.div_le_self _ _) hm
  rw [hsh]
  have := bits_andN (a := m / 2 ^ k) (b := 1) (by omega) (by omega)
  rw [Nat.and_one_is_mod] at this
  exact this
theorem cb_le (k n : Nat) : cb k n ≤ n := by
  induction n with
  | zero => exact Nat.le_refl _
  | succ n ih => rw [cb]; split <;> omega

theorem eTk_tick (v p d h t : Int) (g : lotB v p d h = true) : eTk v p d h [t] [] = if setB v p t = true then 0 else 2 := by
  unfold eTk
  rw [if_pos g, tkB_one]
  cases setB v p t <;> simp
def vRk (v p d h t : Int) : Int := if eTk v p d h [t] [] = 0 then (cb p.toNat t.toNat : Nat) else 0

end Go.Proofs.YtpmfedllbiblbaaGreat

namespace Go.Proofs.YtpmfedllbiblbaaGreat
open Go.RowKit Cv
set_option linter.unusedVariables false
set_option linter.unusedSimpArgs false
set_option maxRecDepth 100000

def nbB (v x : Int) : Bool := decide (0 ≤ x ∧ x < v)
/-- the sum of 2 to the power of each of the first k numbers -/
def orTo (L : List Int) : Nat → Nat
  | 0 => 0
  | k + 1 => orTo L k ||| 2 ^ (gi L k).toNat
theorem orTo_lt (L : List Int) (k : Nat) (h : ∀ j, j < k → 0 ≤ gi L j ∧ gi L j < 12) : orTo L k < 4096 := by
  induction k with
  | zero => simp [orTo]
  | succ k ih =>
    rw [orTo]
    have h1 := h k (by omega)
    have h2 : 2 ^ (gi L k).toNat < 2 ^ 12 := Nat.pow_lt_pow_right (by omega) (by omega)
    exact Nat.or_lt_two_pow (n := 12) (ih fun j hj => h j (by omega)) h2
def okTo (v p : Int) (N : List Int) : Bool := decide ((N.length : Int) = p) && ascB N N.length && N.all (nbB v)
def eTo (v p d h : Int) (N : List Int) : Int := if lotB v p d h = true then (if okTo v p N = true then 0 else 2) else 1
def vTo (v p d h : Int) (N : List Int) : Int := if eTo v p d h N = 0 then (orTo N N.length : Nat) else 0
theorem okTo_iff (v p : Int) (N : List Int) : okTo v p N = true ↔ (N.length : Int) = p ∧ (∀ i, 0 < i → i < N.length → gi N (i - 1) < gi N i) ∧ ∀ j, j < N.length → 0 ≤ gi N j ∧ gi N j < v := by
  unfold okTo
  rw [Bool.and_eq_true, Bool.and_eq_true, decide_eq_true_iff, ascB_iff, all_gi]
  unfold nbB
  simp only [decide_eq_true_iff]
  exact ⟨fun h => ⟨h.1.1, h.1.2, h.2⟩, fun h => ⟨⟨h.1, h.2.1⟩, h.2.2⟩⟩
theorem eTo_inv {v p d h : Int} (g : lotB v p d h = false) (N : List Int) : eTo v p d h N = 1 ∧ vTo v p d h N = 0 := by
  have e : eTo v p d h N = 1 := by unfold eTo; rw [g]; rfl
  exact ⟨e, by unfold vTo; rw [e]; rfl⟩
theorem eTo_bad {v p d h : Int} (g : lotB v p d h = true) {N : List Int} (b : okTo v p N = false) : eTo v p d h N = 2 ∧ vTo v p d h N = 0 := by
  have e : eTo v p d h N = 2 := by unfold eTo; rw [if_pos g, b]; rfl
  exact ⟨e, by unfold vTo; rw [e]; rfl⟩
theorem eTo_ok {v p d h : Int} (g : lotB v p d h = true) {N : List Int} (b : okTo v p N = true) : eTo v p d h N = 0 ∧ vTo v p d h N = (orTo N N.length : Nat) := by
  have e : eTo v p d h N = 0 := by unfold eTo; rw [if_pos g, if_pos b]
  exact ⟨e, by unfold vTo; rw [if_pos e]⟩
theorem okTo_not {v p : Int} {N : List Int} (n : ¬ ((N.length : Int) = p ∧ (∀ i, 0 < i → i < N.length → gi N (i - 1) < gi N i) ∧ ∀ j, j < N.length → 0 ≤ gi N j ∧ gi N j < v)) : okTo v p N = false := by
  rw [← Bool.not_eq_true, okTo_iff]; exact n

theorem shl_tw0 {v : Int} (h : 0 ≤ v ∧ v ≤ 12) : IntKind.i64.wrap (1 * 2 ^ v.toNat) = tw v ∧ IntKind.i64.wrap (2 ^ v.toNat) = tw v ∧ IntKind.u64.wrap v = v ∧ IntKind.i64.wrap (2 ^ min v.toNat 64) = tw v ∧ wrap64 (2 ^ v.toNat) = tw v := by
  rcases (show v = 0 ∨ v = 1 ∨ v = 2 ∨ v = 3 ∨ v = 4 ∨ v = 5 ∨ v = 6 ∨ v = 7 ∨ v = 8 ∨ v = 9 ∨ v = 10 ∨ v = 11 ∨ v = 12 by omega) with rfl | rfl | rfl | rfl | rfl | rfl | rfl | rfl | rfl | rfl | rfl | rfl | rfl <;> exact ⟨by decide, by decide, by decide, by decide, by unfold wrap64; decide⟩
theorem bits_orN {a b : Nat} (ha : a < 4096) (hb : b < 4096) : bits .or .i64 (a : Int) (b : Int) = ((a ||| b : Nat) : Int) := by
  have h : a ||| b < 2 ^ 12 := Nat.or_lt_two_pow (n := 12) ha hb
  show IntKind.i64.wrap (((BitVec.ofInt 64 (a : Int) ||| BitVec.ofInt 64 (b : Int)).toNat : Nat) : Int) = _
  rw [BitVec.toNat_or, bv_nat a (by omega), bv_nat b (by omega), IntWalk.i64_in _ ⟨by omega, by omega⟩]
theorem or_step {L : List Int} {k : Nat} (h : ∀ j, j < k → 0 ≤ gi L j ∧ gi L j < 12) (hk : 0 ≤ gi L k ∧ gi L k < 12) : bits .or .i64 (orTo L k : Nat) (tw (gi L k)) = ((orTo L (k + 1) : Nat) : Int) := by
  have h2 : 2 ^ (gi L k).toNat < 2 ^ 12 := Nat.pow_lt_pow_right (by omega) (by omega)
  rw [tw_nat, bits_orN (orTo_lt L k h) h2]
  rfl

end Go.Proofs.YtpmfedllbiblbaaGreat

namespace Go.Proofs.YtpmfedllbiblbaaGreat
open Go.RowKit Cv
set_option linter.unusedVariables false
set_option linter.unusedSimpArgs false
set_option maxRecDepth 100000

theorem or_top {m j i : Nat} (hi : i < j) : (m - m % 2 ^ j) ||| 2 ^ i = m - m % 2 ^ j + 2 ^ i := by
  have e : m - m % 2 ^ j = 2 ^ j * (m / 2 ^ j) := by have := Nat.div_add_mod m (2 ^ j); omega
  rw [e]
  exact (Nat.two_pow_add_eq_or_of_lt (Nat.pow_lt_pow_right (by omega) hi) _).symm
theorem pc_none {x : Nat} (hx : x < 4096) (h : pc x = 0) : x = 0 := by
  rcases Nat.eq_zero_or_pos x with h0 | h0
  · exact h0
  · have := pc_drop x hx h0; omega

set_option maxHeartbeats 4000000 in
theorem l08OfRank_any (m : Nat) (hm : m < 4096) (w : World) :
    Calls Tryz.prog 76 #[.int .i64 (pc m : Nat), .int .i64 (cb (pc m) m : Nat)] w fun e w' => e = .returned (.int .i64 (m : Int)) ∧ w' = w := by
  have HM : Hid (m % 2 ^ 12 = m) := Lib.hid (Nat.mod_eq_of_lt hm)
  obtain ⟨P, hP⟩ : ∃ P, P = pc m := ⟨_, rfl⟩
  obtain ⟨R, hR⟩ : ∃ R, R = cb (pc m) m := ⟨_, rfl⟩
  rw [← hR, ← hP]
  have HP := Lib.hid hP
  have HR := Lib.hid hR
  clear hP hR
  go_enter Tryz.func76, Tryz.ntmps76
  go_wp2_with fail
  go_loopw [0, 1, 5] (fun kv rv ov wr => ∃ k r o : Nat, k ≤ 12 ∧ r ≤ 4096 ∧ o < 4096 ∧ kv = .int .i64 (k : Int) ∧ rv = .int .i64 (r : Int) ∧ ov = .int .i64 (o : Int) ∧ Hid (∃ j, j ≤ 12 ∧ k = pc (m % 2 ^ j) ∧ r = cb k (m % 2 ^ j) ∧ o = m - m % 2 ^ j) ∧ wr = w) (fun kv _ _ _ => (intOf kv).toNat)
  case atStart =>
    refine ⟨P, R, 0, by rw [HP.out]; exact pc_le 12 (by omega) m (by omega), by rw [HR.out]; exact Nat.le_trans (cb_le _ _) (by omega), by omega, rfl, rfl, rfl, Lib.hid ⟨12, Nat.le_refl _, ?_, ?_, ?_⟩, rfl⟩
    · rw [HM.out]; exact HP.out
    · rw [HM.out, HR.out, HP.out]
    · rw [HM.out]; omega
  case round =>
    obtain ⟨k, r, o, hk, hr, ho, rfl, rfl, rfl, HI, hw⟩ := hrel
    subst hw
    by_cases hk0 : 0 < k
    · obtain ⟨k', hkk⟩ : ∃ k', k = k' + 1 := ⟨k - 1, by omega⟩
      obtain ⟨j, hj, j1, j2, j3⟩ := HI.out
      obtain ⟨i, hij, i1, i2, i3, i4, i5, i6⟩ := of_rank hj (j1.symm.trans hkk)
      rw [← hkk, ← j2] at i5 i6
      have HKK := Lib.hid hkk
      clear hkk
      have hor : o ||| 2 ^ i = m - m % 2 ^ i := by
        rw [j3, or_top hij]
        have h1 := Nat.mod_le m (2 ^ j)
        omega
      have hi12 : i < 12 := by omega
      have H5 := Lib.hid i5
      have H6 := Lib.hid i6
      have H2 := Lib.hid i2
      have HO := Lib.hid hor
      have KD : Hid (Value.int .i64 ((k : Int) - 1) = Value.int .i64 (k' : Int)) := Lib.hid (by rw [show (k : Int) - 1 = (k' : Int) by have := HKK.out; omega])
      clear HI j1 j2 j3 i1 i2 i5 i6 hor
      have k0 : (0 : Int) < (k : Int) := by omega
      go_wp2_with fail
      go_loopw [6] (fun xv wr2 => ∃ x : Nat, k' ≤ x ∧ x ≤ i ∧ xv = .int .i64 (x : Int) ∧ wr2 = wr) (fun xv _ => i - (intOf xv).toNat)
      case atStart => exact ⟨k', Nat.le_refl _, i3, KD.out, rfl⟩
      case round =>
        obtain ⟨x, hx1, hx2, rfl, hw⟩ := hrel
        subst hw
        have hcall := l08Choose_any (x + 1) k (by omega) (by omega)
        have e1 : (((x + 1 : Nat) : Int)) = (x : Int) + 1 := by omega
        rw [e1] at hcall
        have hb := ch_le (n := x + 1) (k := k) (by omega) (by omega)
        by_cases hlt : x < i
        · have hle : ch (x + 1) k ≤ r := by
            have h1 := ch_mono' (k := k') (by omega) (b := i) (x + 1) (by omega) (by omega)
            rw [← HKK.out] at h1
            have h2 := H5.out
            omega
          obtain ⟨z, hz⟩ : ∃ z, z = ch (x + 1) k := ⟨_, rfl⟩
          rw [← hz] at hcall hb hle
          have i7 : (z : Int) ≤ (r : Int) := by omega
          clear hz e1
          go_wp2_with fail
          refine (hcall _).mono ?_
          rintro e w2 ⟨rfl, rfl⟩
          go_wp2_with fail
          go_roundw
          case rel => exact ⟨x + 1, by omega, by omega, by go_num, by first | rfl | trivial⟩
          case measure => simp [intOf]; omega
        · obtain rfl : x = i := by omega
          obtain ⟨z, hz⟩ : ∃ z, z = ch (x + 1) k := ⟨_, rfl⟩
          have hle : r < z := by rw [hz]; exact H6.out
          rw [← hz] at hcall hb
          have i7 : ¬ (z : Int) ≤ (r : Int) := by omega
          have hcall2 := l08Choose_any x k (by omega) (by omega)
          obtain ⟨y, hy⟩ : ∃ y, y = ch x k := ⟨_, rfl⟩
          obtain ⟨u, hu⟩ : ∃ u, u = cb k' (m % 2 ^ x) := ⟨_, rfl⟩
          have hru : r = y + u := by rw [hy, hu]; exact H5.out
          rw [← hy] at hcall2
          have E1 : IntKind.i64.wrap ((r : Int) - (y : Int)) = (u : Int) := by rw [IntWalk.i64_in _ ⟨by omega, by omega⟩]; omega
          have hu2 : IntKind.u64.wrap (x : Int) = (x : Int) := by unfold IntKind.wrap; simp [IntKind.signed, IntKind.bits]; omega
          obtain ⟨s1, s2, s3, s4, s5⟩ := shl_tw0 (v := (x : Int)) ⟨by omega, by omega⟩
          have ho2 : o ||| 2 ^ x < 4096 := by rw [HO.out]; omega
          have hor : bits .or .i64 (o : Int) (tw (x : Int)) = ((o ||| 2 ^ x : Nat) : Int) := by
            rw [tw_nat, Int.toNat_natCast]
            exact bits_orN ho (Nat.pow_lt_pow_right (n := 12) (by omega) hi12)
          obtain ⟨q, hq⟩ : ∃ q, q = o ||| 2 ^ x := ⟨_, rfl⟩
          rw [← hq] at hor ho2
          have HQ := Lib.hid hq
          have HU := Lib.hid hu
          have HY := Lib.hid hru
          simp only [Int.toNat_natCast] at s1 s2 s4 s5
          clear hz e1 hy hu hq hru
          go_wp2_with fail
          refine (hcall _).mono ?_
          rintro e w2 ⟨rfl, rfl⟩
          go_wp2_with fail
          refine (hcall2 _).mono ?_
          rintro e w2 ⟨rfl, rfl⟩
          go_wp2_with fail
          clear s1 s2 s3 s4 s5
          go_roundw
          case rel =>
            refine ⟨k', u, q, by omega, by have := HY.out; omega, ho2, KD.out, by first | rfl | go_num, rfl, Lib.hid ⟨x, by omega, H2.out.symm, HU.out, ?_⟩, by first | rfl | trivial⟩
            rw [HQ.out]; exact HO.out
          case measure => have := HKK.out; simp [intOf]; try omega
    · have HE : Hid (o = m) := Lib.hid (by
        obtain ⟨j, hj, j1, j2, j3⟩ := HI.out
        have h1 := Nat.mod_le m (2 ^ j)
        have := pc_none (x := m % 2 ^ j) (by omega) (by omega)
        omega)
      have k0 : ¬ (0 : Int) < (k : Int) := by omega
      go_wp2_with fail
      go_ret
      exact ⟨ret_int (by rw [HE.out]), rfl⟩

def eOr (v p d h r : Int) : Int := if lotB v p d h = true then (if r < 0 then 2 else if (ch v.toNat p.toNat : Nat) ≤ r then 4 else 0) else 1
def vOr (v p d h r : Int) : Int := if eOr v p d h r = 0 then gi (setsL v.toNat p.toNat) r.toNat else 0
theorem eOr_inv {v p d h : Int} (g : lotB v p d h = false) (r : Int) : eOr v p d h r = 1 ∧ vOr v p d h r = 0 := by
  have e : eOr v p d h r = 1 := by unfold eOr; rw [g]; rfl
  exact ⟨e, by unfold vOr; rw [e]; rfl⟩
theorem eOr_neg {v p d h r : Int} (g : lotB v p d h = true) (b : r < 0) : eOr v p d h r = 2 ∧ vOr v p d h r = 0 := by
  have e : eOr v p d h r = 2 := by unfold eOr; rw [if_pos g, if_pos b]
  exact ⟨e, by unfold vOr; rw [e]; rfl⟩
theorem eOr_big {v p d h r : Int} (g : lotB v p d h = true) (b : ¬ r < 0) (c : (ch v.toNat p.toNat : Nat) ≤ r) : eOr v p d h r = 4 ∧ vOr v p d h r = 0 := by
  have e : eOr v p d h r = 4 := by unfold eOr; rw [if_pos g, if_neg b, if_pos c]
  exact ⟨e, by unfold vOr; rw [e]; rfl⟩
theorem eOr_ok {v p d h r : Int} (g : lotB v p d h = true) (b : ¬ r < 0) (c : ¬ (ch v.toNat p.toNat : Nat) ≤ r) : eOr v p d h r = 0 ∧ vOr v p d h r = gi (setsL v.toNat p.toNat) r.toNat := by
  have e : eOr v p d h r = 0 := by unfold eOr; rw [if_pos g, if_neg b, if_neg c]
  exact ⟨e, by unfold vOr; rw [if_pos e]⟩

end Go.Proofs.YtpmfedllbiblbaaGreat

namespace Go.Proofs.YtpmfedllbiblbaaGreat
open Go.RowKit Cv
set_option linter.unusedVariables false
set_option linter.unusedSimpArgs false
set_option maxRecDepth 100000

theorem row_grow3 {w w1 w2 : World} {b : Nat} {r : Option Nat} {o : Obj} (h : w.heap[b]? = some o) (h1 : w.grownBy w1 r) (h2 : w1.grownBy w2 r) (hn : some b ≠ r) : w2.heap[b]? = some o := by
  have l1 := (Array.getElem?_eq_some_iff.1 h).1
  have l2 : b < w1.heap.size := Nat.lt_of_lt_of_le l1 h1.size
  rw [h2.block b l2 hn, h1.block b l1 hn]; exact h

theorem own_shprow {w : World} {base : Nat} {v : Value} {L : List Int} (h : OwnInts w base v L) : ∃ a c, v = .slice a L.length c := by
  obtain ⟨x, y, z, _⟩ := h.ints; exact ⟨x, y, z⟩
theorem cell_of1 {w : World} {b : Nat} {v : Value} {t : TypeId} (h : w.heap[b]? = some (.cells #[v] t (0, 0))) : w.cell? ⟨b, 0, none⟩ = some v := by
  rw [cell_of_row w b 0 _ _ _ h]; rfl
theorem row_store1 {w : World} {b : Nat} {v : Value} {t : TypeId} (u : Value) (h : w.heap[b]? = some (.cells #[v] t (0, 0))) : (w.setCell ⟨b, 0, none⟩ u).heap[b]? = some (.cells #[u] t (0, 0)) := by
  rw [setCell_eq_setRow w b 0 _ _ _ u h]
  exact setRow_heap w b _ _ _ _ h


end Go.Proofs.YtpmfedllbiblbaaGreat

namespace Go.Proofs.YtpmfedllbiblbaaGreat
open Go.RowKit Cv
set_option linter.unusedVariables false
set_option linter.unusedSimpArgs false
set_option maxRecDepth 100000

set_option maxHeartbeats 4000000 in
theorem pairRows_spec (c : Nat) (h1 : 1 ≤ c) (h8 : c ≤ 8) (w : World) :
    Calls Tryz.prog 30 #[.int .i64 (c : Int)] w fun e w' => ∃ m vs v, e = .returned (.tuple #[.agg #[vs], v, .int .i64 0]) ∧ w.heap.size ≤ m ∧ RowIn vs w.heap.size m ∧ OwnInts w' w.heap.size vs (List.replicate c 2) ∧ OwnInts w' m v (prR (setsL (pn c - 1) ((pn c + 1) / 2)) c (pn c - 1)) ∧ m ≤ w'.heap.size ∧ Below w.heap.size w w' := by
  obtain ⟨f1, f2, f3, f4⟩ := pn_facts c (by omega) h1
  have hp := fun W => l10Pairs_any c h1 h8 W
  obtain ⟨m, hm⟩ : ∃ m, pn c = m + 1 := ⟨pn c - 1, by omega⟩
  rw [hm] at f1 f2 f3 f4 hp ⊢
  have hXl : c ≤ (setsL m ((m + 1 + 1) / 2)).length := by rw [setsL_len (by omega) (by omega)]; simpa using f2
  obtain ⟨H, hH⟩ : ∃ H, H = (m + 1 + 1) / 2 := ⟨_, rfl⟩
  have hHi : ((m : Int) + 1 + 1).tdiv 2 = (H : Int) := by rw [hH]; exact half_c (m + 1)
  have hHb : H ≤ 4 := by omega
  rw [show m + 1 - 1 = m from rfl, ← hH]
  rw [← hH] at hXl
  have HOR : Hid (∀ i, i < c → ∃ M : Nat, M < 4096 ∧ gi (setsL m H) i = (M : Int) ∧ ∀ W, Calls Tryz.prog 76 #[.int .i64 (H : Int), .int .i64 (i : Int)] W fun e w' => e = .returned (.int .i64 (M : Int)) ∧ w' = W) := Lib.hid fun i hi => by
    obtain ⟨M, k1, k2, k3, k4⟩ := sel_at (isK H) (n := 2 ^ m) (r := i) (by unfold setsL at hXl; omega)
    have hM : M < 4096 := by have : 2 ^ m ≤ 2 ^ 12 := Nat.pow_le_pow_right (by omega) (by omega); omega
    have hpc : pc M = H := by simpa [isK] using k2
    have hcb : cb (pc M) M = i := by rw [hpc, ← selK_len]; exact k4
    refine ⟨M, hM, k3, fun W => ?_⟩
    have := l08OfRank_any M hM W
    rw [hcb, hpc] at this
    exact this
  have HX0 : Hid (∀ i, 0 ≤ gi (setsL m H) i ∧ gi (setsL m H) i < 4096) := Lib.hid (setsL_bd m (by omega) _)
  obtain ⟨X, hX⟩ : ∃ X, X = setsL m H := ⟨_, rfl⟩
  rw [← hX] at hXl HX0 HOR ⊢
  have hm5 : m ≤ 5 := by omega
  clear hX hm f1 f2 f4 hH
  have e1 : IntKind.i64.wrap (m : Int) = (m : Int) := IntWalk.i64_in _ ⟨by omega, by omega⟩
  have hb : inB (c : Int) 1 8 = true := inB_true (by omega) (by omega)
  have hWW : ∀ (gS cS gD cD : Nat) (j : Nat) (W : World), Ints W (some ⟨gS, 0, none⟩) (List.replicate c 2) → Ints W (some ⟨gD, 0, none⟩) (prD X c j) → Calls Tryz.prog 77 #[.agg #[.slice (some ⟨gS, 0, none⟩) c cS], .slice (some ⟨gD, 0, none⟩) c cD] W fun e w' => e = .returned (.int .i64 (wordTo (List.replicate c 2) (prD X c j) c)) ∧ Below W.heap.size W w' := fun gS cS gD cD j W h1' h2' => by
    have h := l01Word_any (some ⟨gS, 0, none⟩) (List.replicate c 2) cS (by simpa using h8) (fun i hi => by rw [List.length_replicate] at hi; simp [gi, hi]) (some ⟨gD, 0, none⟩) (prD X c j) c cD (by simp) (dg_prD X c j) W h1' h2'
    rw [List.length_replicate] at h; exact h
  obtain ⟨W3, hW3⟩ : ∃ W3, W3 = ((w.alloc (.cells #[.slice none 0 0] 26)).alloc (.cells #[] 2)).alloc (.cells #[.slice (some ⟨w.heap.size + 1, 0, none⟩) 0 0] 26) := ⟨_, rfl⟩
  have b3 : Below w.heap.size w W3 := by rw [hW3]; go_grown
  have oS : OwnInts W3 (w.heap.size + 1) (.slice (some ⟨w.heap.size + 1, 0, none⟩) 0 0) [] := by
    rw [hW3]; exact (own_empty (w.alloc (.cells #[.slice none 0 0] 26)) (w.heap.size + 1) (by simp) (by simp)).alloc _
  have hXr : W3.heap[w.heap.size + 2]? = some (.cells #[.slice (some ⟨w.heap.size + 1, 0, none⟩) 0 0] 26 (0, 0)) := by
    have e : ((w.alloc (.cells #[.slice none 0 0] 26)).alloc (.cells #[] 2)).heap.size = w.heap.size + 2 := by simp
    rw [hW3, ← e]; exact heap_alloc_new _ _
  have hRr : W3.heap[w.heap.size]? = some (.cells #[.slice none 0 0] 26 (0, 0)) := by
    have bR : Below (w.alloc (.cells #[.slice none 0 0] 26)).heap.size (w.alloc (.cells #[.slice none 0 0] 26)) W3 := by rw [hW3]; go_grown
    exact (bR.block _ (by simp)).trans (heap_alloc_new w _)
  have hW3s : W3.heap.size = w.heap.size + 3 := by rw [hW3]; simp
  have HW3 := Lib.hid hW3
  clear hW3
  go_enter Tryz.func30, Tryz.ntmps30
  go_wp2_with fail
  refine (l01In_any _ _ _ _).mono ?_
  rw [hb]
  rintro e w0 ⟨rfl, rfl⟩
  go_wp2_with fail
  refine (hp _).mono ?_
  rintro e w0 ⟨rfl, rfl⟩
  go_wp2_with fail
  rw [← HW3.out]
  have hY0 : w.heap.size + 3 ≤ W3.heap.size := by omega
  clear hW3s
  go_loopw [7] (fun x wr => ∃ (i : Nat) (vS : Value), i ≤ c ∧ x = .int .i64 i ∧ OwnInts wr (w.heap.size + 1) vS (List.replicate i 2) ∧ (∀ k, vS.ownBlock = some k → k = w.heap.size + 1 ∨ w.heap.size + 3 ≤ k) ∧ wr.heap[w.heap.size + 2]? = some (.cells #[vS] 26 (0, 0)) ∧ wr.heap[w.heap.size]? = some (.cells #[.slice none 0 0] 26 (0, 0)) ∧ w.heap.size + 3 ≤ wr.heap.size ∧ Below w.heap.size w wr) (fun x _ => c - (intOf x).toNat)
  case atStart => exact ⟨0, _, Nat.zero_le _, rfl, oS, fun k hk => .inl (by simp [Value.ownBlock] at hk; omega), hXr, hRr, hY0, b3⟩
  case round =>
    clear oS hXr hRr hY0 b3
    obtain ⟨i, vS, hi, rfl, oS, hvS, hXr, hRr, hY, B⟩ := hrel
    by_cases hlt : i < c
    · have hiI : (i : Int) < (c : Int) := by omega
      have hXc : wr.cell? ⟨w.heap.size + 2, 0, none⟩ = some vS := by rw [cell_of_row wr (w.heap.size + 2) 0 _ _ _ hXr]; rfl
      have HSl := Lib.hid (List.length_replicate (n := i) (a := (2 : Int)))
      have HSS : Hid (List.replicate i (2 : Int) ++ [2] = List.replicate (i + 1) 2) := Lib.hid (by rw [List.replicate_succ'])
      obtain ⟨L, hL⟩ : ∃ L, L = List.replicate i (2 : Int) := ⟨_, rfl⟩
      rw [← hL] at oS HSl HSS
      have hLl : L.length ≤ 8 := by rw [HSl.out]; omega
      obtain ⟨aS, cS, hvs⟩ : ∃ a c, vS = .slice a L.length c := by obtain ⟨x, y, z, _⟩ := oS.ints; exact ⟨x, y, z⟩
      have HVS := Lib.hid hvs
      clear hvs hL
      go_wp2_with (at_builtin; refine wpList_append_int_at rfl _ _ rfl (w.heap.size + 1) vS L rfl (oS.alloc _) wr.heap.size 2 rfl (cell_new _ _ _) (by omega) (by simp; omega) ?_; intro v' w4 own' hgrow hnew; obtain ⟨a5, c5, hv5⟩ := own_shprow own'; rw [List.length_append, List.length_singleton] at hv5; subst hv5; have hXr4 := row_grow3 hXr (World.grownBy_alloc wr (.cells #[.int .i64 2] 2) _) hgrow (fun e => by rcases hvS _ e.symm with h | h <;> omega); have hXc4 := cell_of1 hXr4; have hXf4 := frozen_of_row w4 (w.heap.size + 2) 0 _ _ hXr4)
      have hRr4 := row_grow3 hRr (World.grownBy_alloc wr (.cells #[.int .i64 2] 2) _) hgrow (fun e => by rcases hvS _ e.symm with h | h <;> omega)
      have B4 := (B.alloc (Nat.le_trans (Nat.le_add_right _ _) hY) (.cells #[.int .i64 2] 2)).grown hgrow (by simp; omega) (fun k hk => by rcases hvS k hk with h | h <;> omega)
      have hY4 : w.heap.size + 3 ≤ w4.heap.size := Nat.le_trans (Nat.le_trans hY (by simp)) hgrow.size
      have hv4 : ∀ k, (Value.slice a5 (L.length + 1) c5).ownBlock = some k → k = w.heap.size + 1 ∨ w.heap.size + 3 ≤ k := fun k hk => by
        rcases hnew with e | e
        · exact hvS k (e.symm.trans hk)
        · rw [e] at hk
          have := Option.some.inj hk
          simp at this
          omega
      have hXr5 := row_store1 (.slice a5 (L.length + 1) c5) hXr4
      have gst := grown_setCell (World.grownBy.refl w4 (some (w.heap.size + 2))) 0 (.slice a5 (L.length + 1) c5)
      have hRr5 : (w4.setCell ⟨w.heap.size + 2, 0, none⟩ (.slice a5 (L.length + 1) c5)).heap[w.heap.size]? = some (.cells #[.slice none 0 0] 26 (0, 0)) := (gst.block _ (by omega) (fun e => by have e' : w.heap.size = w.heap.size + 2 := Option.some.inj e; omega)).trans hRr4
      have own5 := World.ownsRow.kept own' gst (.inr (fun e => by rcases hv4 _ e with h | h <;> omega))
      have B5 := B4.setCell (p := ⟨w.heap.size + 2, 0, none⟩) (by simp) (.slice a5 (L.length + 1) c5)
      clear hgrow hnew own' hXr4 hXc4 hXf4 B4 hXr hXc oS B hRr hRr4 gst
      go_wp2_with fail
      go_roundw
      case rel => exact ⟨i + 1, _, by omega, by go_num, by rw [← HSS.out]; exact own5, hv4, hXr5, hRr5, by simpa using hY4, B5⟩
      case measure => simp [intOf]; omega
    · have hiI : ¬ (i : Int) < (c : Int) := by omega
      have hic : i = c := by omega
      rw [hic] at oS
      have HIC := Lib.hid hic
      clear hic
      obtain ⟨gS, cS', hvs, hgSe⟩ := own_some oS (fun e => by have := congrArg List.length e; simp at this; omega)
      rw [List.length_replicate] at hvs
      subst hvs
      have hgS : gS = w.heap.size + 1 ∨ w.heap.size + 3 ≤ gS := hvS gS rfl
      have hgl := oS.base_le
      have hXc := cell_of1 hXr
      obtain ⟨wY, hwY⟩ : ∃ wY, wY = wr := ⟨_, rfl⟩
      subst hwY
      have lX : w.heap.size + 2 < wY.heap.size := by omega
      have oR0 : OwnInts (wY.alloc (.cells #[.int .i64 0] 2)) wY.heap.size (.slice (some ⟨wY.heap.size, 0, none⟩) 1 1) [0] := World.ownsRow_lit wY (base := wY.heap.size) (e := 2) (size := 1) #[.int .i64 0] 1 (Nat.le_refl _) (by simp [maxLen]) (by simp)
      have BR0 : Below wY.heap.size wY (wY.alloc (.cells #[.int .i64 0] 2)) := (Below.refl _ wY).alloc (Nat.le_refl _) _
      have hR0 : Hid (prR X c 0 = [0]) := Lib.hid rfl
      clear hvS hgSe hlt
      go_wp2_with fail
      go_loopw [8, 9] (fun o y wr => ∃ k gr cr : Nat, k ≤ m ∧ y = .int .i64 (k : Int) ∧ o = .slice (some ⟨gr, 0, none⟩) (k + 1) cr ∧ OwnInts wr wY.heap.size (.slice (some ⟨gr, 0, none⟩) (k + 1) cr) (prR X c k) ∧ Below wY.heap.size wY wr) (fun _ y _ => m - (intOf y).toNat)
      case atStart => exact ⟨0, _, 1, Nat.zero_le _, rfl, rfl, by rw [hR0.out]; exact oR0, BR0⟩
      case round =>
        clear oR0 BR0
        obtain ⟨k, gr, cr, hk, rfl, rfl, oR, BR⟩ := hrel
        obtain ⟨Wo, hWo⟩ : ∃ Wo, Wo = wr := ⟨_, rfl⟩
        subst hWo
        by_cases hlk : k < m
        · have hkI : (k : Int) < (m : Int) := by omega
          have oD0 := own_empty Wo Wo.heap.size (Nat.le_refl _) rfl
          have BD0 : Below Wo.heap.size Wo (Wo.alloc (.cells #[] 2)) := (Below.refl _ Wo).alloc (Nat.le_refl _) _
          go_wp2_with fail
          go_loopw [10, 11] (fun vd y wi => ∃ (i gd cd : Nat), i ≤ c ∧ y = .int .i64 (i : Int) ∧ vd = .slice (some ⟨gd, 0, none⟩) i cd ∧ OwnInts wi Wo.heap.size (.slice (some ⟨gd, 0, none⟩) i cd) ((prD X c k).take i) ∧ Below Wo.heap.size Wo wi) (fun _ y _ => c - (intOf y).toNat)
          case atStart => exact ⟨0, _, 0, Nat.zero_le _, rfl, rfl, oD0, BD0⟩
          case round =>
            clear oD0 BD0
            obtain ⟨i, gd, cd, hi, rfl, rfl, oD, BD⟩ := hrel
            by_cases hic : i < c
            · have hiI : (i : Int) < (c : Int) := by omega
              obtain ⟨M, hM, hxM, hor⟩ := HOR.out i hic
              have HOr := Lib.hid hor
              have u1 : IntKind.u64.wrap (k : Int) = (k : Int) := wrap_nat k (by omega)
              go_wp2_with fail
              refine (HOr.out _).mono ?_
              rintro e w5 ⟨rfl, rfl⟩
              obtain ⟨x1, x2⟩ := HX0.out i
              obtain ⟨xv, hxv⟩ : ∃ xv, xv = gi X i := ⟨_, rfl⟩
              have HZ : Hid (bits BinOp.and IntKind.i64 ((M : Int) / 2 ^ k) 1 = gi (prD X c k) i) := Lib.hid (by rw [gi_prD _ _ _ _ hic, ← hxM]; exact shr_bit x1 x2 k)
              have HTk : Hid ((prD X c k).take (i + 1) = (prD X c k).take i ++ [gi (prD X c k) i]) := Lib.hid (take_snoc _ _ (by rw [prD_len]; exact hic))
              have HLn : Hid (((prD X c k).take i).length = i) := Lib.hid (by rw [List.length_take, prD_len]; omega)
              obtain ⟨L, hL⟩ : ∃ L, L = (prD X c k).take i := ⟨_, rfl⟩
              rw [← hL] at oD HTk HLn
              have hLl : L.length ≤ 8 := by rw [HLn.out]; omega
              have hsD := BD.size
              have k0 : ¬ (k : Int) < 0 := by omega
              have k1 : (0 : Int) ≤ (k : Int) := by omega
              clear hxv hxM x1 x2 hL
              go_wp2_with (at_builtin; refine wpList_append_int rfl _ _ rfl Wo.heap.size (.slice (some ⟨gd, 0, none⟩) i cd) L rfl (oD.alloc _) w5.heap.size (bits BinOp.and IntKind.i64 ((M : Int) / 2 ^ k) 1) rfl (cell_new _ _ _) (by omega) (by simp; omega) ?_; intro v8 w8 own8 hgrow8; obtain ⟨g8, c8, hv8, _⟩ := own_some own8 (by simp); rw [List.length_append, HLn.out, List.length_singleton] at hv8; subst hv8)
              have B8 : Below Wo.heap.size Wo w8 := (BD.alloc BD.size (.cells #[.int .i64 (bits BinOp.and IntKind.i64 ((M : Int) / 2 ^ k) 1)] 2)).grown hgrow8 (by simp; omega) (fun z hz => by have h1 := oD.base_le.1; have e' : gd = z := Option.some.inj hz; omega)
              rw [HZ.out, ← HTk.out] at own8
              clear oD BD hgrow8
              go_wp2_with fail
              go_roundw
              case rel => exact ⟨i + 1, g8, c8, by omega, by go_num, rfl, own8, B8⟩
              case measure => simp [intOf]; omega
            · have hiI : ¬ (i : Int) < (c : Int) := by omega
              have HTe : Hid ((prD X c k).take i = prD X c k) := Lib.hid (List.take_of_length_le (by rw [prD_len]; omega))
              have hiC : i = c := by omega
              rw [HTe.out] at oD
              subst hiC
              have BW := BR.trans (BD.mono BR.size)
              have cS := kept_cell BW hXc lX
              have oSW := oS.below BW
              have oRW := oR.below BD
              have hww := hWW gS cS' gd cd k _ (own_ints oSW) (own_ints oD)
              obtain ⟨V, hV⟩ : ∃ V, V = wordTo (List.replicate i 2) (prD X i k) i := ⟨_, rfl⟩
              rw [← hV] at hww
              have HV := Lib.hid hV
              clear HTe oD BD hV oR BR oSW
              go_wp2_with fail
              refine hww.mono ?_
              rintro e w7 ⟨rfl, hb7⟩
              have oR7 := oRW.below hb7
              have B7 := BW.trans (hb7.mono BW.size)
              have hs7 := B7.size
              have HPl : Hid ((prR X i k).length = k + 1) := Lib.hid (prR_len X i k)
              clear oRW BW hb7 cS
              go_wp2_with (at_builtin; refine wpList_append_int rfl _ _ rfl wY.heap.size _ (prR X i k) rfl (oR7.alloc _) w7.heap.size V rfl (cell_new _ _ _) (by rw [HPl.out]; omega) (by simp; omega) ?_; intro v8 w8 own8 hgrow8; obtain ⟨g8, c8, hv8, _⟩ := own_some own8 (by simp); rw [List.length_append, HPl.out, show ([V] : List Int).length = 1 from rfl] at hv8; subst hv8)
              have B8 : Below wY.heap.size wY w8 := (B7.alloc B7.size (.cells #[.int .i64 V] 2)).grown hgrow8 (by simp; omega) (fun z hz => by have h1 := oR7.base_le.1; have e' : gr = z := Option.some.inj hz; omega)
              rw [HV.out, ← prR_succ] at own8
              clear oR7 B7 hgrow8
              go_wp2_with fail
              go_roundw
              case rel => exact ⟨k + 1, g8, c8, by omega, by go_num, rfl, own8, B8⟩
              case measure => simp [intOf]; omega
        · have hkI : ¬ (k : Int) < (m : Int) := by omega
          have hkm : Hid (prR X c k = prR X c m) := Lib.hid (by rw [show k = m by omega])
          rw [hkm.out] at oR
          have cS := kept_cell BR hXc lX
          have oSW := oS.below BR
          have BW := B.trans (BR.mono B.size)
          have qW := (BR.block _ (show w.heap.size < wY.heap.size by omega)).trans hRr
          have dS := cell_of1 qW
          have rf := frozen_of_row Wo w.heap.size 0 _ _ qW
          have rs : (Wo.setCell ⟨w.heap.size, 0, none⟩ (.slice (some ⟨gS, 0, none⟩) c cS')).cell? ⟨w.heap.size, 0, none⟩ = some (.slice (some ⟨gS, 0, none⟩) c cS') := World.cell?_setCell_same' _ _ _ (by rw [dS]; rfl)
          have oS9 := oSW.setBelow (a := ⟨w.heap.size, 0, none⟩) (Nat.lt_succ_self _) (.slice (some ⟨gS, 0, none⟩) c cS')
          have oR9 := oR.setBelow (a := ⟨w.heap.size, 0, none⟩) (show w.heap.size < wY.heap.size by omega) (.slice (some ⟨gS, 0, none⟩) c cS')
          have B9 := BW.setCell (p := ⟨w.heap.size, 0, none⟩) (Nat.le_refl _) (.slice (some ⟨gS, 0, none⟩) c cS')
          have hM3 : wY.heap.size ≤ (Wo.setCell ⟨w.heap.size, 0, none⟩ (.slice (some ⟨gS, 0, none⟩) c cS')).heap.size := by simp; exact BR.size
          have hRI : RowIn (.slice (some ⟨gS, 0, none⟩) c cS') w.heap.size wY.heap.size := fun b hb => by simp [Value.ownBlock] at hb; omega
          clear oSW oR BW qW
          go_wp2_with fail
          refine bodyPost_ret (by rw [results_cell_tmp2p (fn := Tryz.f30) (p := 2) (u1 := 3) (u2 := 4) (ty := 26) (by kernel_rfl)]; go_simp; try rfl) rfl ?_
          exact ⟨wY.heap.size, _, _, rfl, by omega, hRI, oS9.rebase (Nat.le_succ _), oR9, hM3, B9⟩

set_option maxHeartbeats 1000000 in
theorem spec_PairRows (x : Int) (hx : -9223372036854775808 ≤ x ∧ x ≤ 9223372036854775807) (w : World) :
    Calls Tryz.prog 30 #[.int .i64 x] w fun e w' => ∃ m vs v, e = .returned (.tuple #[.agg #[vs], v, .int .i64 (ePn x)]) ∧ w.heap.size ≤ m ∧ RowIn vs w.heap.size m ∧ OwnInts w' w.heap.size vs (vPrS x) ∧ OwnInts w' m v (vPrC x) ∧ m ≤ w'.heap.size ∧ Below w.heap.size w w' := by
  by_cases h : 1 ≤ x ∧ x ≤ 8
  · obtain ⟨c, rfl⟩ : ∃ c : Nat, x = c := ⟨x.toNat, by omega⟩
    have hk := pairRows_spec c (by omega) (by omega) w
    have e1 : vPrS (c : Int) = List.replicate c 2 := by unfold vPrS; rw [if_pos h, Int.toNat_natCast]
    have e2 : vPrC (c : Int) = prR (setsL (pn c - 1) ((pn c + 1) / 2)) c (pn c - 1) := by unfold vPrC; rw [if_pos h, Int.toNat_natCast]
    rw [e1, e2, (ePn_ok (n := c) ⟨by omega, by omega⟩).1]
    exact hk
  · obtain ⟨E1, E2⟩ := ePn_bad h
    have e1 : vPrS x = [] := by unfold vPrS; rw [if_neg h]
    have e2 : vPrC x = [] := by unfold vPrC; rw [if_neg h]
    have hb : inB x 1 8 = false := inB_false h
    rw [E1, e1, e2]
    clear E1 E2 e1 e2
    have B1 : Below w.heap.size w (w.alloc (.cells #[.slice none 0 0] 26)) := by go_grown
    have B9 := B1.setCell (p := ⟨w.heap.size, 0, none⟩) (Nat.le_refl _) (.slice none 0 0)
    go_enter Tryz.func30, Tryz.ntmps30
    go_wp2_with fail
    refine (l01In_any _ _ _ _).mono ?_
    rw [hb]
    rintro e w0 ⟨rfl, rfl⟩
    go_wp2_with fail
    refine bodyPost_ret (by rw [results_cell_tmp2p (fn := Tryz.f30) (p := 2) (u1 := 3) (u2 := 4) (ty := 26) (by kernel_rfl)]; go_simp; try rfl) rfl ?_
    exact ⟨w.heap.size, _, _, rfl, Nat.le_refl _, fun b hb => by simp [Value.ownBlock] at hb, World.ownsRow_nil _ _ _ _, World.ownsRow_nil _ _ _ _, by simp, by go_grown⟩

end Go.Proofs.YtpmfedllbiblbaaGreat

namespace Go.Proofs.YtpmfedllbiblbaaGreat
open Go.RowKit Cv
set_option linter.unusedVariables false
set_option linter.unusedSimpArgs false
set_option maxRecDepth 100000

theorem own_made_some {w : World} {base m : Nat} {v v' : Value} {L : List Int} (h : OwnInts w base v' L) (hnil : v' = .slice none 0 0 ↔ v = .slice none 0 0 ∧ m = 0) (hv : v ≠ .slice none 0 0) : ∃ g c, v' = .slice (some ⟨g, 0, none⟩) L.length c := by
  rcases h.2 with ⟨h1, _⟩ | ⟨g, c, cur, h1, _⟩
  · exact absurd (hnil.1 h1).1 hv
  · exact ⟨g, c, h1⟩
theorem clone_any (g0 : Nat) (L : List Int) (cap base : Nat) (w : World) (hl : L.length ≤ 1048576) (hb : base ≤ w.heap.size) (a : Addr) (hL : Ints w (some a) L) :
    Calls Tryz.prog 104 #[.slice (some a) L.length cap] w fun e w' => ∃ g c, e = .returned (.slice (some ⟨g, 0, none⟩) L.length c) ∧ OwnInts w' w.heap.size (.slice (some ⟨g, 0, none⟩) L.length c) L ∧ Below w.heap.size w w' := by
  have B0 : Below w.heap.size w (w.alloc (.cells #[] 2)) := by go_grown
  have o0 := own_empty w w.heap.size (Nat.le_refl _) rfl
  have hnil0 := Lib.run_eql_slice_nil (P := Tryz.prog) w 24 2 (some a) L.length cap 0 0 Tryz.underlying24
  go_enter Tryz.func104, Tryz.ntmps104
  go_wp2_with (at_builtin; refine wpList_append_ints rfl _ _ rfl w.heap.size _ [] rfl o0 a L L.length cap rfl rfl (hL.below B0) (by simp; omega) B0.size ?_; intro v' w4 hown' hgrow hnil; have hb4 := grown_below B0 B0.size hgrow o0 (Nat.le_refl _); rw [List.nil_append] at hown'; obtain ⟨g, c, hv⟩ := own_made_some hown' hnil (fun h => absurd (Value.slice.inj h).1 (by simp)); subst hv)
  go_ret
  exact ⟨g, c, rfl, hown', hb4⟩

end Go.Proofs.YtpmfedllbiblbaaGreat
