/-
  The contracts of CommonNumbers and PrizesOf. By an AI agent.
-/
import Derived.Test.YtclahcnkkkgdhaaTm8
namespace Go.Proofs.Ytclahcnkkkgdhaa
open Go.RowKit Cv
set_option linter.unusedVariables false
set_option linter.unusedSimpArgs false
set_option maxRecDepth 100000

theorem bsum_and (a b k : Nat) : bsum (a &&& b) k ≤ bsum a k := by
  induction k with
  | zero => exact Nat.le_refl _
  | succ k ih =>
    rw [bsum, bsum, bit_and]
    have : a / 2 ^ k % 2 * (b / 2 ^ k % 2) ≤ a / 2 ^ k % 2 * 1 := Nat.mul_le_mul_left _ (by omega)
    omega
theorem pc_and (a b : Nat) : pc (a &&& b) ≤ pc a := bsum_and a b 12
theorem setB_nat {v k x : Int} (hv : 1 ≤ v ∧ v ≤ 12) (h : setB v k x = true) : ∃ m : Nat, x = m ∧ m < 4096 ∧ (pc m : Int) = k := by
  have := tw_bd hv
  obtain ⟨h1, h2⟩ := (setB_iff v k x).1 h
  exact ⟨x.toNat, by omega, by omega, h2⟩
theorem eTk_zero {v p d h : Int} {T D : List Int} (e : eTk v p d h T D = 0) : lotB v p d h = true ∧ T.length ≤ 200 ∧ tkB v p T = true ∧ D.all (setB v d) = true := by
  unfold eTk at e
  by_cases g : lotB v p d h = true
  · rw [if_pos g] at e
    split at e
    · next hh => simp only [Bool.and_eq_true, decide_eq_true_iff] at hh; exact ⟨g, hh.1.1, hh.1.2, hh.2⟩
    · cases e
  · rw [if_neg g] at e; cases e
theorem lot_v {v p d h : Int} (g : lotB v p d h = true) : 1 ≤ v ∧ v ≤ 12 := by have l := (lot_iff v p d h).1 g; exact ⟨l.v1, l.v2⟩
theorem eTk_draw {v p d h x : Int} {T : List Int} (e : eTk v p d h T [x] = 0) : ∃ q : Nat, x = q ∧ q < 4096 := by
  obtain ⟨g, _, _, h4⟩ := eTk_zero e
  rw [List.all_cons, List.all_nil, Bool.and_true] at h4
  obtain ⟨q, h5, h6, _⟩ := setB_nat (lot_v g) h4
  exact ⟨q, h5, h6⟩
theorem eTk_at {v p d h : Int} {T D : List Int} (e : eTk v p d h T D = 0) {k : Nat} (hk : k < T.length) : ∃ m : Nat, gi T k = m ∧ m < 4096 ∧ (pc m : Int) = p := by
  obtain ⟨g, _, h3, _⟩ := eTk_zero e
  exact setB_nat (lot_v g) (((tkB_iff v p T).1 h3).2 k hk)
theorem eTk_ne {v p d h : Int} {T D : List Int} : eTk v p d h T D = 0 ∨ eTk v p d h T D = 1 ∨ eTk v p d h T D = 2 := by
  unfold eTk; split
  · split <;> simp
  · simp

/-- how many numbers a ticket and a draw have in common -/
def cmN (t x : Int) : Nat := pc (t.toNat &&& x.toNat)
def vCn (v p d h t x : Int) : Int := if eTk v p d h [t] [x] = 0 then (cmN t x : Nat) else 0

theorem ticketsError_n (v p d h : Int) (a : Option Addr) (T : List Int) (n cap : Nat) (hK : n = T.length) (hn : n ≤ 4294967296) (b : Option Addr) (D : List Int) (m capd : Nat) (hM : m = D.length) (hnd : m ≤ 4294967296) (w : World) (hT : Ints w a T) (hD : Ints w b D) :
    Calls Try.prog 47 #[.agg #[.int .i64 v, .int .i64 p, .int .i64 d, .int .i64 h], .slice a n cap, .slice b m capd] w fun e w' => e = .returned (.int .i64 (eTk v p d h T D)) ∧ Below w.heap.size w w' := by
  subst hK hM; exact ticketsError_any v p d h a T cap hn b D capd hnd w hT hD

set_option maxHeartbeats 1000000 in
theorem impl_CommonNumbers (v p d h t : Int) (ht : -9223372036854775808 ≤ t ∧ t ≤ 9223372036854775807) (x : Int) (hx : -9223372036854775808 ≤ x ∧ x ≤ 9223372036854775807) (w : World) :
    Calls Try.prog 32 #[.agg #[.int .i64 v, .int .i64 p, .int .i64 d, .int .i64 h], .int .i64 t, .int .i64 x] w fun e w' => e = .returned (.tuple #[.int .i64 (vCn v p d h t x), .int .i64 (eTk v p d h [t] [x])]) ∧ Below w.heap.size w w' := by
  have B0 : Below w.heap.size w (((w.alloc (.cells #[.int .i64 v, .int .i64 p, .int .i64 d, .int .i64 h] 25)).alloc (.cells #[.int .i64 t] 2)).alloc (.cells #[.int .i64 x] 2)) := by go_grown
  have I2 := ints_new1 ((w.alloc (.cells #[.int .i64 v, .int .i64 p, .int .i64 d, .int .i64 h] 25)).alloc (.cells #[.int .i64 t] 2)) x 2 (n := w.heap.size + 1 + 1) (by simp)
  have I1 := (ints_new1 (w.alloc (.cells #[.int .i64 v, .int .i64 p, .int .i64 d, .int .i64 h] 25)) t 2 (n := w.heap.size + 1) (by simp)).below ((Below.refl _ _).alloc (Nat.le_refl _) (.cells #[.int .i64 x] 2))
  have hc := ticketsError_n v p d h _ [t] 1 1 rfl (by omega) _ [x] 1 1 rfl (by omega) _ I1 I2
  by_cases hE : eTk v p d h [t] [x] = 0
  · have hV : vCn v p d h t x = (cmN t x : Nat) := by unfold vCn; rw [if_pos hE]
    obtain ⟨m, e1, hm, _⟩ := eTk_at hE (k := 0) (by simp)
    obtain ⟨q, e2, hq⟩ := eTk_draw hE
    have e1' : t = m := by simpa [gi] using e1
    subst e1' e2
    have HE := Lib.hid hE
    rw [hE] at hc
    have hcm : cmN (m : Int) (q : Int) = pc (m &&& q) := by unfold cmN; rw [Int.toNat_natCast, Int.toNat_natCast]
    have hb := bits_andN (a := m) (b := q) (by omega) (by omega)
    have hl : m &&& q < 4096 := Nat.lt_of_le_of_lt Nat.and_le_left hm
    obtain ⟨z, hz⟩ : ∃ z, z = m &&& q := ⟨_, rfl⟩
    rw [← hz] at hb hl hcm
    rw [hcm] at hV
    have HV := Lib.hid hV
    clear hV hE e1 I1 I2 hz hcm
    go_enter Try.func32, Try.ntmps32
    go_wp2_with fail
    refine hc.mono ?_
    rintro e w1 ⟨rfl, hb1⟩
    have B1 := B0.trans (hb1.mono B0.size)
    clear hc
    go_wp2_with fail
    refine (countNumbers_any z hl _).mono ?_
    rintro e w2 ⟨rfl, rfl⟩
    go_wp2_with fail
    go_ret2
    exact ⟨ret_ii HV.out.symm HE.out.symm, B1⟩
  · have hV : vCn v p d h t x = 0 := by unfold vCn; rw [if_neg hE]
    have HV := Lib.hid hV
    clear hV I1 I2
    obtain ⟨E, hEE⟩ : ∃ E, E = eTk v p d h [t] [x] := ⟨_, rfl⟩
    rw [← hEE] at hc hE ⊢
    clear hEE
    go_enter Try.func32, Try.ntmps32
    go_wp2_with fail
    refine hc.mono ?_
    rintro e w1 ⟨rfl, hb1⟩
    have B1 := B0.trans (hb1.mono B0.size)
    clear hc
    go_wp2_with fail
    go_ret2
    exact ⟨ret_ii HV.out.symm rfl, B1⟩

theorem eTk_one (v p d h t x : Int) (g : lotB v p d h = true) : eTk v p d h [t] [x] = if setB v p t = true then (if setB v d x = true then 0 else 2) else 2 := by
  unfold eTk
  rw [if_pos g, tkB_one]
  cases setB v p t <;> cases hs : setB v d x <;> simp [hs]

set_option maxHeartbeats 1000000 in
theorem l08Code_any (v p d h t x : Int) (w : World) :
    Calls Try.prog 50 #[.agg #[.int .i64 v, .int .i64 p, .int .i64 d, .int .i64 h], .int .i64 t, .int .i64 x] w fun e w' => e = .returned (.int .i64 (eTk v p d h [t] [x])) ∧ Below w.heap.size w w' := by
  have B0 : Below w.heap.size w (w.alloc (.cells #[.int .i64 v, .int .i64 p, .int .i64 d, .int .i64 h] 25)) := by go_grown
  have l0 := lotAt_new w v p d h 25
  obtain ⟨c0, c1, c2, c3, l1⟩ := lotAt_new w v p d h 25
  have hc := l08Is_any v p d h (w.alloc (.cells #[.int .i64 v, .int .i64 p, .int .i64 d, .int .i64 h] 25))
  cases hb : lotB v p d h with
  | false =>
    have HE := Lib.hid (eTk_inv hb [t] [x])
    rw [hb] at hc
    clear hb
    go_enter Try.func50, Try.ntmps50
    go_wp2_with fail
    refine hc.mono ?_
    rintro e w1 ⟨rfl, hb⟩
    go_wp2_with fail
    go_ret
    exact ⟨ret_int HE.out.symm, B0.trans (hb.mono B0.size)⟩
  | true =>
    have HV := Lib.hid (lot_v hb)
    have HE := Lib.hid (eTk_one v p d h t x hb)
    rw [hb] at hc
    clear hb
    go_enter Try.func50, Try.ntmps50
    go_wp2_with fail
    refine hc.mono ?_
    rintro e w1 ⟨rfl, hb⟩
    have B1 := B0.trans (hb.mono B0.size)
    clear c0 c1 c2 c3 l1
    obtain ⟨c0, c1, c2, c3, l1⟩ := l0.below hb
    have l2 := l0.below hb
    have hs1 := l08Set_any v p d h t p HV.out w1
    obtain ⟨b1, hb1⟩ : ∃ b, b = setB v p t := ⟨_, rfl⟩
    obtain ⟨b2, hb2⟩ : ∃ b, b = setB v d x := ⟨_, rfl⟩
    rw [← hb1] at hs1 HE
    rw [← hb2] at HE
    have HB2 := Lib.hid hb2
    clear hb hb1 hb2
    cases b1 with
    | false =>
      go_wp2_with fail
      refine hs1.mono ?_
      rintro e w2 ⟨rfl, hb⟩
      go_wp2_with fail
      go_ret
      exact ⟨ret_int HE.out.symm, B1.trans (hb.mono B1.size)⟩
    | true =>
      go_wp2_with fail
      refine hs1.mono ?_
      rintro e w2 ⟨rfl, hb⟩
      have B2 := B1.trans (hb.mono B1.size)
      clear c0 c1 c2 c3 l1
      obtain ⟨c0, c1, c2, c3, l1⟩ := l2.below hb
      have hs2 := l08Set_any v p d h x d HV.out w2
      rw [← HB2.out] at hs2
      clear hb
      cases b2 with
      | false =>
        go_wp2_with fail
        refine hs2.mono ?_
        rintro e w3 ⟨rfl, hb⟩
        go_wp2_with fail
        go_ret
        exact ⟨ret_int HE.out.symm, B2.trans (hb.mono B2.size)⟩
      | true =>
        go_wp2_with fail
        refine hs2.mono ?_
        rintro e w3 ⟨rfl, hb⟩
        go_wp2_with fail
        go_ret
        exact ⟨ret_int HE.out.symm, B2.trans (hb.mono B2.size)⟩

set_option maxHeartbeats 1000000 in
theorem spec_CommonNumbers (v p d h t : Int) (ht : -9223372036854775808 ≤ t ∧ t ≤ 9223372036854775807) (x : Int) (hx : -9223372036854775808 ≤ x ∧ x ≤ 9223372036854775807) (w : World) :
    Calls Try.prog 31 #[.agg #[.int .i64 v, .int .i64 p, .int .i64 d, .int .i64 h], .int .i64 t, .int .i64 x] w fun e w' => e = .returned (.tuple #[.int .i64 (vCn v p d h t x), .int .i64 (eTk v p d h [t] [x])]) ∧ Below w.heap.size w w' := by
  have B0 : Below w.heap.size w (w.alloc (.cells #[.int .i64 v, .int .i64 p, .int .i64 d, .int .i64 h] 25)) := by go_grown
  obtain ⟨c0, c1, c2, c3, l1⟩ := lotAt_new w v p d h 25
  have hc := l08Code_any v p d h t x (w.alloc (.cells #[.int .i64 v, .int .i64 p, .int .i64 d, .int .i64 h] 25))
  by_cases hE : eTk v p d h [t] [x] = 0
  · have hV : vCn v p d h t x = (cmN t x : Nat) := by unfold vCn; rw [if_pos hE]
    obtain ⟨m, e1, hm, _⟩ := eTk_at hE (k := 0) (by simp)
    obtain ⟨q, e2, hq⟩ := eTk_draw hE
    have e1' : t = m := by simpa [gi] using e1
    subst e1' e2
    have HE := Lib.hid hE
    rw [hE] at hc
    have hcm : cmN (m : Int) (q : Int) = pc (m &&& q) := by unfold cmN; rw [Int.toNat_natCast, Int.toNat_natCast]
    have hb := bits_andN (a := m) (b := q) (by omega) (by omega)
    have hl : m &&& q < 4096 := Nat.lt_of_le_of_lt Nat.and_le_left hm
    obtain ⟨z, hz⟩ : ∃ z, z = m &&& q := ⟨_, rfl⟩
    rw [← hz] at hb hl hcm
    rw [hcm] at hV
    have HV := Lib.hid hV
    clear hV hE e1 hz hcm
    go_enter Try.func31, Try.ntmps31
    go_wp2_with fail
    refine hc.mono ?_
    rintro e w1 ⟨rfl, hb1⟩
    have B1 := B0.trans (hb1.mono B0.size)
    clear hc
    go_wp2_with fail
    refine (l08Size_any z hl _).mono ?_
    rintro e w2 ⟨rfl, rfl⟩
    go_wp2_with fail
    go_ret2
    exact ⟨ret_ii HV.out.symm HE.out.symm, B1⟩
  · have hV : vCn v p d h t x = 0 := by unfold vCn; rw [if_neg hE]
    have HV := Lib.hid hV
    clear hV
    obtain ⟨E, hEE⟩ : ∃ E, E = eTk v p d h [t] [x] := ⟨_, rfl⟩
    rw [← hEE] at hc hE ⊢
    clear hEE
    go_enter Try.func31, Try.ntmps31
    go_wp2_with fail
    refine hc.mono ?_
    rintro e w1 ⟨rfl, hb1⟩
    have B1 := B0.trans (hb1.mono B0.size)
    clear hc
    go_wp2_with fail
    go_ret2
    exact ⟨ret_ii HV.out.symm rfl, B1⟩

end Go.Proofs.Ytclahcnkkkgdhaa
