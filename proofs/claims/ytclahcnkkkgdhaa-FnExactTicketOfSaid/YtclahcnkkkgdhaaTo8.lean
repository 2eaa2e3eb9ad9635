/-
  The contracts of TicketOf. By an AI agent.
-/
import Derived.Test.YtclahcnkkkgdhaaTk8
namespace Go.Proofs.Ytclahcnkkkgdhaa
open Go.RowKit Cv
set_option linter.unusedVariables false
set_option linter.unusedSimpArgs false
set_option maxRecDepth 100000

def nbB (v x : Int) : Bool := decide (0 ≤ x ∧ x < v)
/-- the sum of 2 to the power of each of the first k numbers -/
def orTo (L : List Int) : Nat → Nat
  | 0 => 0
  | k + 1 => orTo L k ||| 2 ^ (gi L k).toNat
theorem orTo_lt (L : List Int) (k : Nat) (h : ∀ j, j < k → 0 ≤ gi L j ∧ gi L j < 12) : orTo L k < 4096 := by
  induction k with
  | zero => simp [orTo]
  | succ k ih =>
    rw [orTo]
    have h1 := h k (by omega)
    have h2 : 2 ^ (gi L k).toNat < 2 ^ 12 := Nat.pow_lt_pow_right (by omega) (by omega)
    exact Nat.or_lt_two_pow (n := 12) (ih fun j hj => h j (by omega)) h2
def okTo (v p : Int) (N : List Int) : Bool := decide ((N.length : Int) = p) && ascB N N.length && N.all (nbB v)
def eTo (v p d h : Int) (N : List Int) : Int := if lotB v p d h = true then (if okTo v p N = true then 0 else 2) else 1
def vTo (v p d h : Int) (N : List Int) : Int := if eTo v p d h N = 0 then (orTo N N.length : Nat) else 0
theorem okTo_iff (v p : Int) (N : List Int) : okTo v p N = true ↔ (N.length : Int) = p ∧ (∀ i, 0 < i → i < N.length → gi N (i - 1) < gi N i) ∧ ∀ j, j < N.length → 0 ≤ gi N j ∧ gi N j < v := by
  unfold okTo
  rw [Bool.and_eq_true, Bool.and_eq_true, decide_eq_true_iff, ascB_iff, all_gi]
  unfold nbB
  simp only [decide_eq_true_iff]
  exact ⟨fun h => ⟨h.1.1, h.1.2, h.2⟩, fun h => ⟨⟨h.1, h.2.1⟩, h.2.2⟩⟩
theorem eTo_inv {v p d h : Int} (g : lotB v p d h = false) (N : List Int) : eTo v p d h N = 1 ∧ vTo v p d h N = 0 := by
  have e : eTo v p d h N = 1 := by unfold eTo; rw [g]; rfl
  exact ⟨e, by unfold vTo; rw [e]; rfl⟩
theorem eTo_bad {v p d h : Int} (g : lotB v p d h = true) {N : List Int} (b : okTo v p N = false) : eTo v p d h N = 2 ∧ vTo v p d h N = 0 := by
  have e : eTo v p d h N = 2 := by unfold eTo; rw [if_pos g, b]; rfl
  exact ⟨e, by unfold vTo; rw [e]; rfl⟩
theorem eTo_ok {v p d h : Int} (g : lotB v p d h = true) {N : List Int} (b : okTo v p N = true) : eTo v p d h N = 0 ∧ vTo v p d h N = (orTo N N.length : Nat) := by
  have e : eTo v p d h N = 0 := by unfold eTo; rw [if_pos g, if_pos b]
  exact ⟨e, by unfold vTo; rw [if_pos e]⟩
theorem okTo_not {v p : Int} {N : List Int} (n : ¬ ((N.length : Int) = p ∧ (∀ i, 0 < i → i < N.length → gi N (i - 1) < gi N i) ∧ ∀ j, j < N.length → 0 ≤ gi N j ∧ gi N j < v)) : okTo v p N = false := by
  rw [← Bool.not_eq_true, okTo_iff]; exact n

theorem shl_tw0 {v : Int} (h : 0 ≤ v ∧ v ≤ 12) : IntKind.i64.wrap (1 * 2 ^ v.toNat) = tw v ∧ IntKind.i64.wrap (2 ^ v.toNat) = tw v ∧ IntKind.u64.wrap v = v ∧ IntKind.i64.wrap (2 ^ min v.toNat 64) = tw v ∧ wrap64 (2 ^ v.toNat) = tw v := by
  rcases (show v = 0 ∨ v = 1 ∨ v = 2 ∨ v = 3 ∨ v = 4 ∨ v = 5 ∨ v = 6 ∨ v = 7 ∨ v = 8 ∨ v = 9 ∨ v = 10 ∨ v = 11 ∨ v = 12 by omega) with rfl | rfl | rfl | rfl | rfl | rfl | rfl | rfl | rfl | rfl | rfl | rfl | rfl <;> exact ⟨by decide, by decide, by decide, by decide, by unfold wrap64; decide⟩
theorem bits_orN {a b : Nat} (ha : a < 4096) (hb : b < 4096) : bits .or .i64 (a : Int) (b : Int) = ((a ||| b : Nat) : Int) := by
  have h : a ||| b < 2 ^ 12 := Nat.or_lt_two_pow (n := 12) ha hb
  show IntKind.i64.wrap (((BitVec.ofInt 64 (a : Int) ||| BitVec.ofInt 64 (b : Int)).toNat : Nat) : Int) = _
  rw [BitVec.toNat_or, bv_nat a (by omega), bv_nat b (by omega), IntWalk.i64_in _ ⟨by omega, by omega⟩]
theorem or_step {L : List Int} {k : Nat} (h : ∀ j, j < k → 0 ≤ gi L j ∧ gi L j < 12) (hk : 0 ≤ gi L k ∧ gi L k < 12) : bits .or .i64 (orTo L k : Nat) (tw (gi L k)) = ((orTo L (k + 1) : Nat) : Int) := by
  have h2 : 2 ^ (gi L k).toNat < 2 ^ 12 := Nat.pow_lt_pow_right (by omega) (by omega)
  rw [tw_nat, bits_orN (orTo_lt L k h) h2]
  rfl

set_option maxHeartbeats 1000000 in
theorem lacksNumber_any (v p d h x : Int) (w : World) :
    Calls Try.prog 43 #[.agg #[.int .i64 v, .int .i64 p, .int .i64 d, .int .i64 h], .int .i64 x] w fun e w' => e = .returned (.bool (!nbB v x)) ∧ Below w.heap.size w w' := by
  have B0 : Below w.heap.size w (w.alloc (.cells #[.int .i64 v, .int .i64 p, .int .i64 d, .int .i64 h] 25)) := by go_grown
  obtain ⟨c0, c1, c2, c3, l0⟩ := lotAt_new w v p d h 25
  by_cases h0 : 0 ≤ x
  · by_cases h1 : x < v
    · have HQ : Hid ((!nbB v x) = false) := Lib.hid (by unfold nbB; rw [decide_eq_true ⟨h0, h1⟩]; rfl)
      have d1 : decide (x < 0) = false := by simpa using h0
      have d2 : decide (v ≤ x) = false := by simpa using h1
      go_enter Try.func43, Try.ntmps43
      go_wp2_with fail
      go_ret
      exact ⟨ret_bool (by simp only [HQ.out, d1, d2, Bool.or_false]), B0⟩
    · have HQ : Hid ((!nbB v x) = true) := Lib.hid (by unfold nbB; rw [decide_eq_false (fun g => h1 g.2)]; rfl)
      go_enter Try.func43, Try.ntmps43
      go_wp2_with fail
      go_ret
      exact ⟨ret_bool HQ.out.symm, B0⟩
  · have HQ : Hid ((!nbB v x) = true) := Lib.hid (by unfold nbB; rw [decide_eq_false (fun g => h0 g.1)]; rfl)
    go_enter Try.func43, Try.ntmps43
    go_wp2_with fail
    go_ret
    exact ⟨ret_bool HQ.out.symm, B0⟩

set_option maxHeartbeats 2000000 in
theorem impl_TicketOf (v p d h : Int) (a : Option Addr) (N : List Int) (cap : Nat) (hn : N.length ≤ 4294967296) (w : World) (hN : Ints w a N) :
    Calls Try.prog 21 #[.agg #[.int .i64 v, .int .i64 p, .int .i64 d, .int .i64 h], .slice a N.length cap] w fun e w' => e = .returned (.tuple #[.int .i64 (vTo v p d h N), .int .i64 (eTo v p d h N)]) ∧ Below w.heap.size w w' := by
  have B0 : Below w.heap.size w (w.alloc (.cells #[.int .i64 v, .int .i64 p, .int .i64 d, .int .i64 h] 25)) := by go_grown
  have l0 := lotAt_new w v p d h 25
  obtain ⟨c0, c1, c2, c3, l1⟩ := lotAt_new w v p d h 25
  have hc := lotteryError_any v p d h (w.alloc (.cells #[.int .i64 v, .int .i64 p, .int .i64 d, .int .i64 h] 25))
  cases hb : lotB v p d h with
  | false =>
    obtain ⟨e1, e2⟩ := eTo_inv hb N
    have HE := Lib.hid e1
    have HV := Lib.hid e2
    rw [lot_inv hb] at hc
    clear hb e1 e2
    go_enter Try.func21, Try.ntmps21
    go_wp2_with fail
    refine hc.mono ?_
    rintro e w1 ⟨rfl, hb⟩
    go_wp2_with fail
    go_ret2
    exact ⟨ret_ii HV.out.symm HE.out.symm, B0.trans (hb.mono B0.size)⟩
  | true =>
    have HG := Lib.hid hb
    have HLv := Lib.hid (lot_iff v p d h |>.1 hb)
    rw [lot_val hb] at hc
    clear hb
    by_cases hl : (N.length : Int) = p
    case neg =>
      obtain ⟨e1, e2⟩ := eTo_bad HG.out (okTo_not (v := v) (p := p) (N := N) fun g => hl g.1)
      have HE := Lib.hid e1
      have HV := Lib.hid e2
      have hbe : ((N.length : Int) != p) = true := by simpa using hl
      clear e1 e2 hl
      go_enter Try.func21, Try.ntmps21
      go_wp2_with fail
      refine hc.mono ?_
      rintro e w1 ⟨rfl, hb⟩
      have B1 := B0.trans (hb.mono B0.size)
      clear c0 c1 c2 c3 l1
      obtain ⟨c0, c1, c2, c3, l1⟩ := l0.below hb
      go_wp2_with fail
      go_ret2
      exact ⟨ret_ii HV.out.symm HE.out.symm, B1⟩
    have hbe : ((N.length : Int) != p) = false := by simpa using hl
    have HL := Lib.hid hl
    clear hl
    cases ha : ascB N N.length with
    | false =>
      obtain ⟨e1, e2⟩ := eTo_bad HG.out (v := v) (p := p) (N := N) (by unfold okTo; rw [ha, Bool.and_false]; rfl)
      have HE := Lib.hid e1
      have HV := Lib.hid e2
      clear e1 e2
      go_enter Try.func21, Try.ntmps21
      go_wp2_with fail
      refine hc.mono ?_
      rintro e w1 ⟨rfl, hb⟩
      have B1 := B0.trans (hb.mono B0.size)
      clear c0 c1 c2 c3 l1
      obtain ⟨c0, c1, c2, c3, l1⟩ := l0.below hb
      have hs := isStrictlyAscending_any a N cap hn w1 (hN.below B1)
      rw [ha] at hs
      clear ha
      go_wp2_with fail
      refine hs.mono ?_
      rintro e w2 ⟨rfl, hb2⟩
      go_wp2_with fail
      go_ret2
      exact ⟨ret_ii HV.out.symm HE.out.symm, B1.trans (hb2.mono B1.size)⟩
    | true =>
      have HA := Lib.hid ha
      clear ha
      obtain ⟨y, hy⟩ : ∃ y, y = N.all (nbB v) := ⟨_, rfl⟩
      have hok : okTo v p N = y := by unfold okTo; rw [HA.out, decide_eq_true HL.out, ← hy]; rfl
      have HY := Lib.hid hy
      clear hy
      cases y with
      | false =>
        obtain ⟨e1, e2⟩ := eTo_bad HG.out hok
        have HE := Lib.hid e1
        have HV := Lib.hid e2
        clear e1 e2 hok
        go_enter Try.func21, Try.ntmps21
        go_wp2_with fail
        refine hc.mono ?_
        rintro e w1 ⟨rfl, hb⟩
        have B1 := B0.trans (hb.mono B0.size)
        clear c0 c1 c2 c3 l1
        obtain ⟨c0, c1, c2, c3, l1⟩ := l0.below hb
        have l2 := l0.below hb
        have hs := isStrictlyAscending_any a N cap hn w1 (hN.below B1)
        rw [HA.out] at hs
        go_wp2_with fail
        refine hs.mono ?_
        rintro e w2 ⟨rfl, hb2⟩
        have B2 := B1.trans (hb2.mono B1.size)
        clear c0 c1 c2 c3 l1
        obtain ⟨c0, c1, c2, c3, l1⟩ := l2.below hb2
        have hs1 := containsFunc_ints a cap N 43 (fun _ _ => rfl) #[.agg #[.int .i64 v, .int .i64 p, .int .i64 d, .int .i64 h]] #[] (fun x => !nbB v x) w2 hn (hN.below B2) (fun W x hW _ => lacksNumber_any v p d h x W)
        rw [any_all, ← HY.out] at hs1
        go_wp2_with fail
        refine hs1.mono ?_
        rintro e w3 ⟨rfl, hb3⟩
        go_wp2_with fail
        go_ret2
        exact ⟨ret_ii HV.out.symm HE.out.symm, B2.trans (hb3.mono B2.size)⟩
      | true =>
        obtain ⟨e1, e2⟩ := eTo_ok HG.out hok
        have HE := Lib.hid e1
        have HV := Lib.hid e2
        have HN : Hid (∀ j, j < N.length → 0 ≤ gi N j ∧ gi N j < 12) := Lib.hid fun j hj => by
          have h1 := ((okTo_iff v p N).1 hok).2.2 j hj
          have h2 := HLv.out.v2
          omega
        clear e1 e2 hok
        go_enter Try.func21, Try.ntmps21
        go_wp2_with fail
        refine hc.mono ?_
        rintro e w1 ⟨rfl, hb⟩
        have B1 := B0.trans (hb.mono B0.size)
        clear c0 c1 c2 c3 l1
        obtain ⟨c0, c1, c2, c3, l1⟩ := l0.below hb
        have l2 := l0.below hb
        have hs := isStrictlyAscending_any a N cap hn w1 (hN.below B1)
        rw [HA.out] at hs
        go_wp2_with fail
        refine hs.mono ?_
        rintro e w2 ⟨rfl, hb2⟩
        have B2 := B1.trans (hb2.mono B1.size)
        clear c0 c1 c2 c3 l1
        obtain ⟨c0, c1, c2, c3, l1⟩ := l2.below hb2
        have hs1 := containsFunc_ints a cap N 43 (fun _ _ => rfl) #[.agg #[.int .i64 v, .int .i64 p, .int .i64 d, .int .i64 h]] #[] (fun x => !nbB v x) w2 hn (hN.below B2) (fun W x hW _ => lacksNumber_any v p d h x W)
        rw [any_all, ← HY.out] at hs1
        go_wp2_with fail
        refine hs1.mono ?_
        rintro e w3 ⟨rfl, hb3⟩
        have B3 := B2.trans (hb3.mono B2.size)
        clear c0 c1 c2 c3 l1 l2 l0 hb hb2 hb3 hs hs1 hc B0 B1 B2 hbe
        go_wp2_with fail
        go_loopw [7, 33] (fun o i wr => ∃ k : Nat, k ≤ N.length ∧ o = .int .i64 (orTo N k : Nat) ∧ i = .int .i64 k ∧ wr = w3) (fun _ i _ => N.length - (intOf i).toNat)
        case atStart => exact ⟨0, Nat.zero_le _, rfl, rfl, rfl⟩
        case round =>
          obtain ⟨k, hk, rfl, rfl, hw⟩ := hrel
          subst hw
          by_cases hlt : k < N.length
          · obtain ⟨b, o, rfl, hbl, hcc⟩ := hN.at hlt
            have hck := kept_cell B3 (hcc k hlt) hbl
            obtain ⟨x0, x1⟩ := HN.out k hlt
            have hor := or_step (L := N) (k := k) (fun j hj => HN.out j (by omega)) (HN.out k hlt)
            have i1 : (0 : Int) ≤ (k : Int) := by omega
            have i2 : (k : Int) < (N.length : Int) := by omega
            obtain ⟨z, hz⟩ : ∃ z, z = orTo N (k + 1) := ⟨_, rfl⟩
            obtain ⟨y, hy⟩ : ∃ y, y = orTo N k := ⟨_, rfl⟩
            obtain ⟨x, hx⟩ : ∃ x, x = gi N k := ⟨_, rfl⟩
            rw [← hz] at hor
            rw [← hy] at hor ⊢
            rw [← hx] at hor hck x0 x1
            have HZ := Lib.hid hz
            obtain ⟨s1, s2, s3, s4, s5⟩ := shl_tw0 (v := x) ⟨x0, by omega⟩
            clear hcc hz hy hx
            go_wp2_with fail
            clear s1 s2 s3 s4 s5
            go_roundw
            case rel => exact ⟨k + 1, by omega, by rw [HZ.out], by go_num, by first | rfl | trivial⟩
            case measure => simp [intOf]; omega
          · have ek : Hid (k = N.length) := Lib.hid (by omega)
            go_wp2_with fail
            go_ret2
            exact ⟨ret_ii (by rw [HV.out, ek.out]) HE.out.symm, B3⟩

set_option maxHeartbeats 4000000 in
theorem spec_TicketOf (v p d h : Int) (a : Option Addr) (N : List Int) (cap : Nat) (hn : N.length ≤ 4294967296) (w : World) (hN : Ints w a N) :
    Calls Try.prog 19 #[.agg #[.int .i64 v, .int .i64 p, .int .i64 d, .int .i64 h], .slice a N.length cap] w fun e w' => e = .returned (.tuple #[.int .i64 (vTo v p d h N), .int .i64 (eTo v p d h N)]) ∧ Below w.heap.size w w' := by
  have B0 : Below w.heap.size w (w.alloc (.cells #[.int .i64 v, .int .i64 p, .int .i64 d, .int .i64 h] 25)) := by go_grown
  have l0 := lotAt_new w v p d h 25
  obtain ⟨c0, c1, c2, c3, l1⟩ := lotAt_new w v p d h 25
  have hc := l08Is_any v p d h (w.alloc (.cells #[.int .i64 v, .int .i64 p, .int .i64 d, .int .i64 h] 25))
  cases hb : lotB v p d h with
  | false =>
    obtain ⟨e1, e2⟩ := eTo_inv hb N
    have HE := Lib.hid e1
    have HV := Lib.hid e2
    rw [hb] at hc
    clear hb e1 e2
    go_enter Try.func19, Try.ntmps19
    go_wp2_with fail
    refine hc.mono ?_
    rintro e w1 ⟨rfl, hb⟩
    go_wp2_with fail
    go_ret2
    exact ⟨ret_ii HV.out.symm HE.out.symm, B0.trans (hb.mono B0.size)⟩
  | true =>
    have HG := Lib.hid hb
    have HLv := Lib.hid (lot_iff v p d h |>.1 hb)
    have v1 := HLv.out.v1
    have v2 := HLv.out.v2
    rw [hb] at hc
    clear hb
    go_enter Try.func19, Try.ntmps19
    go_wp2_with fail
    refine hc.mono ?_
    rintro e w1 ⟨rfl, hb⟩
    have B1 := B0.trans (hb.mono B0.size)
    have l2 := l0.below hb
    clear hb c0 c1 c2 c3 l1 l0 B0 hc
    go_wp2_with fail
    go_loopw [6, 7] (fun o i wr => ∃ k : Nat, k ≤ N.length ∧ o = .int .i64 (orTo N k : Nat) ∧ i = .int .i64 k ∧ Hid (∀ j, j < k → 0 ≤ gi N j ∧ gi N j < v) ∧ Hid (∀ j, 0 < j → j < k → gi N (j - 1) < gi N j) ∧ LotAt wr w.heap.size v p d h ∧ Below w.heap.size w wr)
      (fun _ i _ => N.length - (intOf i).toNat)
    case atStart => exact ⟨0, Nat.zero_le _, rfl, rfl, Lib.hid fun j h => by omega, Lib.hid fun j _ h => by omega, l2, B1⟩
    case round =>
      clear l2 B1
      obtain ⟨k, hk, rfl, rfl, HK, HA, l, B⟩ := hrel
      have HLT := Lib.hid l
      obtain ⟨c0, c1, c2, c3, l1⟩ := l
      by_cases hlt : k < N.length
      · obtain ⟨b, o, rfl, hbl, hcc⟩ := hN.at hlt
        have hck : wr.cell? ⟨b, o + k, none⟩ = some (.int .i64 (gi N k)) := kept_cell B (hcc k hlt) hbl
        have i1 : (0 : Int) ≤ (k : Int) := by omega
        have i2 : (k : Int) < (N.length : Int) := by omega
        have EV : IntKind.i64.wrap (v - 1) = v - 1 := IntWalk.i64_in _ ⟨by omega, by omega⟩
        by_cases hq : 0 ≤ gi N k ∧ gi N k ≤ v - 1
        · have B2 := inB_true (n := gi N k) (low := 0) (high := v - 1) hq.1 hq.2
          have HQ := Lib.hid hq
          clear hq
          have HOR : Hid (bits .or .i64 (orTo N k : Nat) (tw (gi N k)) = ((orTo N (k + 1) : Nat) : Int)) := Lib.hid (or_step (fun j hj => by have := HK.out j hj; omega) (by have := HQ.out; omega))
          have hor := HOR.out
          obtain ⟨z, hz⟩ : ∃ z, z = orTo N (k + 1) := ⟨_, rfl⟩
          obtain ⟨y, hy⟩ : ∃ y, y = orTo N k := ⟨_, rfl⟩
          rw [← hz] at hor
          rw [← hy] at hor ⊢
          have HZ := Lib.hid hz
          clear hz hy
          by_cases h0 : k = 0
          · have hd : decide ((0 : Int) < (k : Int)) = false := by simp; omega
            have hdN : decide (0 < k) = false := by simp; omega
            have H0 := Lib.hid h0
            have x0 := HQ.out.1
            obtain ⟨s1, s2, s3, s4, s5⟩ := shl_tw0 (v := gi N k) ⟨x0, by have := HQ.out.2; omega⟩
            clear hcc h0
            go_wp2_with fail
            go_quiet ((go_at_call 40; exact Calls.quiet_of_same ((l01In_any _ _ _ _).mono fun _ _ h => ⟨h.1, h.2.symm⟩)))
            go_wp2_with fail
            clear s1 s2 s3 s4 s5
            go_roundw
            case rel =>
              refine ⟨k + 1, by omega, by rw [HZ.out], by go_num, Lib.hid fun j hj => ?_, Lib.hid fun j h0 hj => by have := H0.out; omega, HLT.out.below (below_drewN (Below.refl _ _) _), below_drewN B _⟩
              by_cases e : j = k
              · subst e; have := HQ.out; omega
              · exact HK.out j (by omega)
            case measure => simp [intOf]; omega
          · obtain ⟨m, rfl⟩ : ∃ m, k = m + 1 := ⟨k - 1, by omega⟩
            have hcm : wr.cell? ⟨b, o + m, none⟩ = some (.int .i64 (gi N m)) := kept_cell B (hcc m (by omega)) hbl
            have hd : decide ((0 : Int) < ((m + 1 : Nat) : Int)) = true := by simp; try omega
            have hd2 : decide ((0 : Int) < (m : Int) + 1) = true := by simp; try omega
            have hdN : decide (0 < m + 1) = true := by simp
            have E1 : IntKind.i64.wrap ((m : Int) + 1 - 1) = (m : Int) := by rw [IntWalk.i64_in _ ⟨by omega, by omega⟩]; omega
            have E2 : IntKind.i64.wrap (m : Int) = (m : Int) := IntWalk.i64_in _ ⟨by omega, by omega⟩
            have j1 : (0 : Int) ≤ (m : Int) := by omega
            have j2 : (m : Int) < (N.length : Int) := by omega
            have j3 : (m : Int) + 1 < (N.length : Int) := by omega
            have j4 : (0 : Int) ≤ (m : Int) + 1 := by omega
            clear hcc h0
            by_cases ha : gi N m < gi N (m + 1)
            · have hda : decide (gi N (m + 1) ≤ gi N m) = false := by simpa using ha
              have HD := Lib.hid ha
              have x0 := HQ.out.1
              obtain ⟨s1, s2, s3, s4, s5⟩ := shl_tw0 (v := gi N (m + 1)) ⟨x0, by have := HQ.out.2; omega⟩
              clear ha
              go_wp2_with fail
              go_quiet ((go_at_call 40; exact Calls.quiet_of_same ((l01In_any _ _ _ _).mono fun _ _ h => ⟨h.1, h.2.symm⟩)))
              clear E1 E2
              go_wp2_with fail
              clear s1 s2 s3 s4 s5
              go_roundw
              case rel =>
                refine ⟨m + 1 + 1, by omega, by rw [HZ.out], by go_num, Lib.hid fun j hj => ?_, Lib.hid fun j h0 hj => ?_, HLT.out.below (below_drewN (Below.refl _ _) _), below_drewN B _⟩
                · by_cases e : j = m + 1
                  · subst e; have := HQ.out; omega
                  · exact HK.out j (by omega)
                · by_cases e : j = m + 1
                  · subst e; exact HD.out
                  · exact HA.out j h0 (by omega)
              case measure => simp [intOf]; omega
            · have hda : decide (gi N (m + 1) ≤ gi N m) = true := by simpa using ha
              obtain ⟨e1, e2⟩ := eTo_bad HG.out (okTo_not (v := v) (p := p) (N := N) fun g => ha (g.2.1 (m + 1) (by omega) hlt))
              have HE := Lib.hid e1
              have HV := Lib.hid e2
              clear ha e1 e2
              go_wp2_with fail
              go_quiet ((go_at_call 40; exact Calls.quiet_of_same ((l01In_any _ _ _ _).mono fun _ _ h => ⟨h.1, h.2.symm⟩)))
              clear E1 E2
              go_wp2_with fail
              go_ret2
              exact ⟨ret_ii HV.out.symm HE.out.symm, below_drewN B _⟩
        · have B2 := inB_false (n := gi N k) (low := 0) (high := v - 1) hq
          obtain ⟨e1, e2⟩ := eTo_bad HG.out (okTo_not (v := v) (p := p) (N := N) fun g => hq (by have := g.2.2 k hlt; omega))
          have HE := Lib.hid e1
          have HV := Lib.hid e2
          clear hq hcc e1 e2
          go_wp2_with fail
          go_quiet ((go_at_call 40; exact Calls.quiet_of_same ((l01In_any _ _ _ _).mono fun _ _ h => ⟨h.1, h.2.symm⟩)))
          go_wp2_with fail
          go_ret2
          exact ⟨ret_ii HV.out.symm HE.out.symm, below_drewN B _⟩
      · have ek : Hid (k = N.length) := Lib.hid (by omega)
        by_cases hl : (N.length : Int) = p
        · obtain ⟨e1, e2⟩ := eTo_ok HG.out ((okTo_iff v p N).2 ⟨hl, fun i h0 hi => HA.out i h0 (by omega), fun i hi => HK.out i (by omega)⟩)
          have HE := Lib.hid e1
          have HV := Lib.hid e2
          have hbe : ((N.length : Int) != p) = false := by simpa using hl
          clear e1 e2 hl
          go_wp2_with fail
          go_ret2
          exact ⟨ret_ii (by rw [HV.out, ek.out]) HE.out.symm, B⟩
        · obtain ⟨e1, e2⟩ := eTo_bad HG.out (okTo_not (v := v) (p := p) (N := N) fun g => hl g.1)
          have HE := Lib.hid e1
          have HV := Lib.hid e2
          have hbe : ((N.length : Int) != p) = true := by simpa using hl
          clear e1 e2 hl
          go_wp2_with fail
          go_ret2
          exact ⟨ret_ii HV.out.symm HE.out.symm, B⟩

end Go.Proofs.Ytclahcnkkkgdhaa
