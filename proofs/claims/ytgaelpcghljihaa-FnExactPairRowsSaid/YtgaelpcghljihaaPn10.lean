/-
  The contracts of PairNumber. By an AI agent.
-/
import Derived.Test.YtgaelpcghljihaaCh8
namespace Go.Proofs.Ytgaelpcghljihaa
open Go.RowKit Cv
set_option linter.unusedVariables false
set_option linter.unusedSimpArgs false
set_option maxRecDepth 100000

/-- the pair number of n, for n in 1 .. 8 -/
def pn (n : Nat) : Nat := if n ≤ 1 then 2 else if n ≤ 3 then 4 else if n ≤ 4 then 5 else 6
theorem pn_facts : ∀ n, n < 9 → 1 ≤ n → (∀ c, c < 7 → 1 ≤ c → c < pn n → ch (c - 1) ((c + 1) / 2) < n) ∧ n ≤ ch (pn n - 1) ((pn n + 1) / 2) ∧ 2 ≤ pn n ∧ pn n ≤ 6 := by decide +kernel
def ePn (n : Int) : Int := if 1 ≤ n ∧ n ≤ 8 then 0 else 2
def vPn (n : Int) : Int := if 1 ≤ n ∧ n ≤ 8 then (pn n.toNat : Nat) else 0
theorem ePn_bad {n : Int} (h : ¬ (1 ≤ n ∧ n ≤ 8)) : ePn n = 2 ∧ vPn n = 0 := by unfold ePn vPn; rw [if_neg h, if_neg h]; exact ⟨rfl, rfl⟩
theorem ePn_ok {n : Nat} (h : 1 ≤ n ∧ n ≤ 8) : ePn n = 0 ∧ vPn n = (pn n : Nat) := by unfold ePn vPn; rw [if_pos (by omega), if_pos (by omega)]; exact ⟨rfl, rfl⟩
theorem half_c (c : Nat) : ((c : Int) + 1).tdiv 2 = (((c + 1) / 2 : Nat) : Int) := by
  rw [Int.tdiv_eq_ediv_of_nonneg (by omega)]; omega

set_option maxHeartbeats 1000000 in
theorem l10Pairs_any (n : Nat) (h1 : 1 ≤ n) (h2 : n ≤ 8) (w : World) :
    Calls Try.prog 80 #[.int .i64 (n : Int)] w fun e w' => e = .returned (.int .i64 (pn n : Nat)) ∧ w' = w := by
  obtain ⟨f1, f2, f3, f4⟩ := pn_facts n (by omega) h1
  have F1 := Lib.hid f1
  have F2 := Lib.hid f2
  obtain ⟨P, hP⟩ : ∃ P, P = pn n := ⟨_, rfl⟩
  rw [← hP] at F1 F2 f3 f4 ⊢
  clear f1 f2 hP
  go_enter Try.func80, Try.ntmps80
  go_wp2_with fail
  go_loopw [3] (fun o wr => ∃ c : Nat, c + 1 ≤ P ∧ o = .int .i64 ((c : Int) + 1) ∧ wr = w) (fun o _ => P - (intOf o).toNat)
  case atStart => exact ⟨0, by omega, rfl, rfl⟩
  case round =>
    obtain ⟨c, hc, rfl, rfl⟩ := hrel
    have e2 : ((c : Int) + 1 + 1).tdiv 2 = (((c + 1 + 1) / 2 : Nat) : Int) := half_c (c + 1)
    have hcall := l08Choose_any c ((c + 1 + 1) / 2) (by omega) (by omega) wr
    by_cases hlt : c + 1 < P
    · have F := F1.out (c + 1) (by omega) (by omega) hlt
      rw [Nat.add_sub_cancel] at F
      obtain ⟨z, hz⟩ : ∃ z, z = ch c ((c + 1 + 1) / 2) := ⟨_, rfl⟩
      rw [← hz] at F hcall
      clear hz
      go_wp2_with fail
      refine hcall.mono ?_
      rintro e w2 ⟨rfl, rfl⟩
      clear e2
      go_wp2_with fail
      go_roundw
      case rel => exact ⟨c + 1, by omega, by go_num, by first | rfl | trivial⟩
      case measure => simp [intOf]; omega
    · have hcp : Hid (c + 1 = P) := Lib.hid (by omega)
      have F := F2.out
      rw [← hcp.out, Nat.add_sub_cancel] at F
      obtain ⟨z, hz⟩ : ∃ z, z = ch c ((c + 1 + 1) / 2) := ⟨_, rfl⟩
      rw [← hz] at F hcall
      clear hz
      go_wp2_with fail
      refine hcall.mono ?_
      rintro e w2 ⟨rfl, rfl⟩
      clear e2
      go_wp2_with fail
      go_ret
      exact ⟨ret_int (by rw [← hcp.out]; push_cast; rfl), rfl⟩

set_option maxHeartbeats 1000000 in
/-- no number has a set of one -/
theorem setsOf_0 (w : World) :
    Calls Try.prog 136 #[.int .i64 0, .int .i64 1] w fun e w' => ∃ x, e = .returned x ∧ OwnInts w' w.heap.size x (setsL 0 1) ∧ Below w.heap.size w w' := by
  have HL : Hid (setsL 0 1 = []) := Lib.hid (by decide +kernel)
  have hcn := countNumbers_any 0 (by omega)
  have HC : Hid (pc 0 = 0) := Lib.hid (by decide +kernel)
  go_enter Try.func136, Try.ntmps136
  go_wp2_with fail
  go_loopw [5, 10] (fun x i wr => ∃ m : Nat, m ≤ 1 ∧ i = .int .i64 m ∧ x = .slice (some ⟨w.heap.size, 0, none⟩) 0 0 ∧ wr = w.alloc (.cells #[] 2)) (fun _ i _ => 1 - (intOf i).toNat)
  case atStart => exact ⟨0, Nat.zero_le _, rfl, rfl, rfl⟩
  case round =>
    obtain ⟨m, hm, rfl, rfl, rfl⟩ := hrel
    by_cases hlt : m < 1
    · have : m = 0 := by omega
      subst this
      have hi : ∀ W : World, Calls Try.prog 150 #[.int .i64 0, .int .i64 0, .int .i64 1] W fun e w' => e = .returned (.bool false) ∧ w' = W := fun W => by
        go_enter Try.func150, Try.ntmps150
        go_wp2_with fail
        refine (hcn _).mono ?_
        rw [HC.out]
        rintro e w2 ⟨rfl, rfl⟩
        go_wp2_with fail
        go_ret
        exact ⟨rfl, rfl⟩
      go_wp2_with fail
      refine (hi _).mono ?_
      rintro e w2 ⟨rfl, rfl⟩
      go_wp2_with fail
      go_roundw
      case rel => exact ⟨1, by omega, rfl, rfl, by first | rfl | trivial⟩
      case measure => simp [intOf]
    · have : m = 1 := by omega
      subst this
      go_wp2_with fail
      go_ret
      exact ⟨_, rfl, by rw [HL.out]; exact own_empty w w.heap.size (Nat.le_refl _) rfl, (Below.refl _ w).alloc (Nat.le_refl _) _⟩

set_option maxHeartbeats 1000000 in
theorem pairSets_any (c : Nat) (h : c + 1 ≤ 6) (w : World) :
    Calls Try.prog 85 #[.int .i64 ((c : Int) + 1)] w fun e w' => ∃ x, e = .returned x ∧ OwnInts w' w.heap.size x (setsL c ((c + 1 + 1) / 2)) ∧ Below w.heap.size w w' := by
  have hc : ∀ W : World, Calls Try.prog 136 #[.int .i64 (c : Int), .int .i64 (((c + 1 + 1) / 2 : Nat) : Int)] W fun e w' => ∃ x, e = .returned x ∧ OwnInts w' W.heap.size x (setsL c ((c + 1 + 1) / 2)) ∧ Below W.heap.size W w' := fun W => by
    by_cases h0 : c = 0
    · subst h0; exact setsOf_0 W
    · have := setsOfNumbers_any (c : Int) ((c + 1 + 1) / 2) (by omega) W
      rwa [Int.toNat_natCast] at this
  have e2 : ((c : Int) + 1 + 1).tdiv 2 = (((c + 1 + 1) / 2 : Nat) : Int) := half_c (c + 1)
  go_enter Try.func85, Try.ntmps85
  go_wp2_with fail
  refine (hc _).mono ?_
  rintro e w1 ⟨x, rfl, own, hb⟩
  go_wp2_with fail
  go_ret
  exact ⟨_, rfl, own, hb⟩

set_option maxHeartbeats 1000000 in
theorem impl_PairNumber (n : Int) (hn : -9223372036854775808 ≤ n ∧ n ≤ 9223372036854775807) (w : World) :
    Calls Try.prog 83 #[.int .i64 n] w fun e w' => e = .returned (.tuple #[.int .i64 (vPn n), .int .i64 (ePn n)]) ∧ Below w.heap.size w w' := by
  by_cases h : 1 ≤ n ∧ n ≤ 8
  case neg =>
    obtain ⟨x1, x2⟩ := ePn_bad h
    have HE := Lib.hid x1
    have HV := Lib.hid x2
    clear x1 x2
    by_cases h1 : n < 1
    · go_enter Try.func83, Try.ntmps83
      go_wp2_with fail
      go_ret2
      exact ⟨ret_ii HV.out.symm HE.out.symm, Below.refl _ _⟩
    · have h2 : 8 < n := by omega
      go_enter Try.func83, Try.ntmps83
      go_wp2_with fail
      go_ret2
      exact ⟨ret_ii HV.out.symm HE.out.symm, Below.refl _ _⟩
  obtain ⟨m, rfl⟩ : ∃ m : Nat, n = m := ⟨n.toNat, by omega⟩
  have h1 : 1 ≤ m := by omega
  have h2 : m ≤ 8 := by omega
  have i1 : ¬ (m : Int) < 1 := by omega
  have i2 : ¬ 8 < (m : Int) := by omega
  obtain ⟨x1, x2⟩ := ePn_ok ⟨h1, h2⟩
  have HE := Lib.hid x1
  obtain ⟨f1, f2, f3, f4⟩ := pn_facts m (by omega) h1
  have F1 := Lib.hid f1
  have F2 := Lib.hid f2
  obtain ⟨P, hP⟩ : ∃ P, P = pn m := ⟨_, rfl⟩
  rw [← hP] at F1 F2 f3 f4 x2
  have HV := Lib.hid x2
  clear x1 x2 f1 f2 hP
  go_enter Try.func83, Try.ntmps83
  go_wp2_with fail
  go_loopw [4] (fun o wr => ∃ c : Nat, c + 1 ≤ P ∧ o = .int .i64 ((c : Int) + 1) ∧ Below w.heap.size w wr) (fun o _ => P - (intOf o).toNat)
  case atStart => exact ⟨0, by omega, rfl, Below.refl _ _⟩
  case round =>
    obtain ⟨c, hc, rfl, B⟩ := hrel
    have hcall := pairSets_any c (by omega) wr
    have HLn := Lib.hid (setsL_len (v := c) (k := (c + 1 + 1) / 2) (by omega) (by omega))
    by_cases hlt : c + 1 < P
    · have F := F1.out (c + 1) (by omega) (by omega) hlt
      rw [Nat.add_sub_cancel, ← HLn.out] at F
      go_wp2_with fail
      refine hcall.mono ?_
      rintro e w2 ⟨x, rfl, own, hb⟩
      obtain ⟨a, cp, rfl⟩ := own.shape
      generalize (setsL c ((c + 1 + 1) / 2)).length = z at *
      have F' : (z : Int) < m := by omega
      go_wp2_with fail
      go_roundw
      case rel => exact ⟨c + 1, by omega, by go_num, B.trans (hb.mono B.size)⟩
      case measure => simp [intOf]; omega
    · have hcp : Hid (c + 1 = P) := Lib.hid (by omega)
      have F := F2.out
      rw [← hcp.out, Nat.add_sub_cancel, ← HLn.out] at F
      go_wp2_with fail
      refine hcall.mono ?_
      rintro e w2 ⟨x, rfl, own, hb⟩
      obtain ⟨a, cp, rfl⟩ := own.shape
      generalize (setsL c ((c + 1 + 1) / 2)).length = z at *
      have F' : ¬ (z : Int) < m := by omega
      go_wp2_with fail
      go_ret2
      exact ⟨ret_ii (by rw [HV.out, ← hcp.out]; push_cast; rfl) HE.out.symm, B.trans (hb.mono B.size)⟩

end Go.Proofs.Ytgaelpcghljihaa
