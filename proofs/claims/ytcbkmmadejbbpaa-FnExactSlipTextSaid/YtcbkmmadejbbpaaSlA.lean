/-
  The contracts of the slips' checks, IsSlip and FullSlip. By an AI agent.
-/
import Derived.Test.YtcbkmmadejbbpaaMathU
import Derived.Test.YtcbkmmadejbbpaaWords
import Derived.Test.YtcbkmmadejbbpaaAppendAt
namespace Go.Proofs.Ytcbkmmadejbbpaa
open Go.RowKit Cv
set_option linter.unusedVariables false
set_option linter.unusedSimpArgs false
set_option maxRecDepth 100000

theorem shl_pw {q : Int} (h : 2 ≤ q ∧ q ≤ 4) : IntKind.i64.wrap (1 * 2 ^ q.toNat) = pw q ∧ IntKind.i64.wrap (2 ^ q.toNat) = pw q := by
  rcases (show q = 2 ∨ q = 3 ∨ q = 4 by omega) with rfl | rfl | rfl <;> exact ⟨by decide, by decide⟩

theorem shl_pw2 {q : Int} (h : 2 ≤ q ∧ q ≤ 4) : IntKind.u64.wrap q = q ∧ IntKind.i64.wrap (2 ^ min q.toNat 64) = pw q ∧ IntKind.i64.wrap (pw q - 1) = pw q - 1 ∧ wrap64 (2 ^ q.toNat) = pw q ∧ wrap64 (pw q - 1) = pw q - 1 := by
  rcases (show q = 2 ∨ q = 3 ∨ q = 4 by omega) with rfl | rfl | rfl <;> exact ⟨by decide, by decide, by decide, by unfold wrap64; decide, by unfold wrap64; decide⟩
theorem ret_bis {a b : Bool} {c d : Int} (h1 : a = b) (h2 : c = d) : Ending.returned (.tuple #[.bool a, .int .i64 c]) = .returned (.tuple #[.bool b, .int .i64 d]) := by rw [h1, h2]

set_option maxHeartbeats 1000000 in
theorem isSlip_any (ao : Option Addr) (S : List Int) (cap : Nat) (hSp : Sp S) (at' : Option Addr) (T : List Int) (capt : Nat) (hnt : T.length ≤ 4294967296) (w : World) (hS : Ints w ao S) (hT : Ints w at' T) :
    Calls Try.prog 121 #[.agg #[.slice ao S.length cap], .slice at' T.length capt] w fun e w' => e = .returned (.bool (slB S T)) ∧ Below w.heap.size w w' := by
  have HSp := Lib.hid hSp
  have hhi := hSp.hi
  clear hSp
  have B0 : Below w.heap.size w (w.alloc (.cells #[.slice ao S.length cap] 26)) := by go_grown
  have c0 := cell_new w (.slice ao S.length cap) 26
  have l0 := lt_alloc w (.cells #[.slice ao S.length cap] 26)
  by_cases hl : T.length = S.length
  case neg =>
    have HV := Lib.hid (slB_len hl)
    have e1 : ((T.length : Int) != (S.length : Int)) = true := by simp only [bne_iff_ne, ne_eq]; omega
    clear hl
    go_enter Try.func121, Try.ntmps121
    go_wp2_with fail
    go_ret
    exact ⟨ret_bool HV.out.symm, B0⟩
  have HL := Lib.hid hl
  have e1 : ((T.length : Int) != (S.length : Int)) = false := by simp only [bne_eq_false_iff_eq]; omega
  clear hl
  go_enter Try.func121, Try.ntmps121
  go_wp2_with fail
  go_loopw [16] (fun i wr => ∃ k : Nat, k ≤ S.length ∧ i = .int .i64 k ∧ Hid (∀ j, j < k → 1 ≤ gi T j ∧ gi T j < pw (gi S j)) ∧ wr.cell? ⟨w.heap.size, 0, none⟩ = some (.slice ao S.length cap) ∧ w.heap.size < wr.heap.size ∧ Below w.heap.size w wr) (fun i _ => S.length - (intOf i).toNat)
  case atStart => exact ⟨0, Nat.zero_le _, rfl, Lib.hid fun j h => by omega, c0, l0, B0⟩
  case round =>
    clear c0 l0 B0 e1
    obtain ⟨k, hk, rfl, HK, c, l, B⟩ := hrel
    by_cases hlt : k < S.length
    · obtain ⟨b, o, rfl, hbl, hc⟩ := hS.at hlt
      obtain ⟨b', o', rfl, hbl', hc'⟩ := hT.at (i := k) (by rw [HL.out]; exact hlt)
      have hck := kept_cell B (hc k hlt) hbl
      have hck' := kept_cell B (hc' k (by rw [HL.out]; exact hlt)) hbl'
      obtain ⟨q1, q2⟩ := HSp.out.bd k hlt
      obtain ⟨p1, p2⟩ := pw_bd ⟨q1, q2⟩
      obtain ⟨s1, s2⟩ := shl_pw ⟨q1, q2⟩
      have i1 : (0 : Int) ≤ (k : Int) := by omega
      have i2 : (k : Int) < (S.length : Int) := by omega
      have i3 : (k : Int) < (T.length : Int) := by have := HL.out; omega
      clear hc hc'
      by_cases h1 : 1 ≤ gi T k
      · have d1 : decide (gi T k < 1) = false := by simpa using h1
        by_cases h2 : gi T k < pw (gi S k)
        · have d2 : decide (pw (gi S k) ≤ gi T k) = false := by simpa using h2
          have HQ := Lib.hid (And.intro h1 h2)
          clear h1 h2
          go_wp2_with fail
          go_quiet (fail)
          go_wp2_with fail
          go_roundw
          case rel =>
            refine ⟨k + 1, by omega, by go_num, Lib.hid fun j hj => ?_, c, l, below_drewN B _⟩
            by_cases e : j = k
            · subst e; exact HQ.out
            · exact HK.out j (by omega)
          case measure => simp [intOf]; omega
        · have d2 : decide (pw (gi S k) ≤ gi T k) = true := by simpa using h2
          have HQ := Lib.hid (slB_at hlt (fun g => h2 g.2))
          clear h1 h2
          go_wp2_with fail
          go_quiet (fail)
          go_wp2_with fail
          go_ret
          exact ⟨ret_bool HQ.out.symm, below_drewN B _⟩
      · have d1 : decide (gi T k < 1) = true := by simpa using h1
        have HQ := Lib.hid (slB_at hlt (fun g => h1 g.1))
        clear h1
        go_wp2_with fail
        go_quiet (fail)
        go_wp2_with fail
        go_ret
        exact ⟨ret_bool HQ.out.symm, below_drewN B _⟩
    · have HV : Hid (slB S T = true) := Lib.hid ((slB_iff S T).2 ⟨HL.out, fun j hj => HK.out j (by omega)⟩)
      go_wp2_with fail
      go_ret
      exact ⟨ret_bool HV.out.symm, B⟩

set_option maxHeartbeats 1000000 in
theorem l07Is_any (ao : Option Addr) (S : List Int) (cap : Nat) (hSp : Sp S) (at' : Option Addr) (T : List Int) (capt : Nat) (hnt : T.length ≤ 4294967296) (w : World) (hS : Ints w ao S) (hT : Ints w at' T) :
    Calls Try.prog 120 #[.agg #[.slice ao S.length cap], .slice at' T.length capt] w fun e w' => e = .returned (.bool (slB S T)) ∧ Below w.heap.size w w' := by
  have HSp := Lib.hid hSp
  have hhi := hSp.hi
  clear hSp
  have B0 : Below w.heap.size w (w.alloc (.cells #[.slice ao S.length cap] 26)) := by go_grown
  have c0 := cell_new w (.slice ao S.length cap) 26
  have l0 := lt_alloc w (.cells #[.slice ao S.length cap] 26)
  by_cases hl : T.length = S.length
  case neg =>
    have HV := Lib.hid (slB_len hl)
    have e1 : ((T.length : Int) != (S.length : Int)) = true := by simp only [bne_iff_ne, ne_eq]; omega
    clear hl
    go_enter Try.func120, Try.ntmps120
    go_wp2_with fail
    go_ret
    exact ⟨ret_bool HV.out.symm, B0⟩
  have HL := Lib.hid hl
  have e1 : ((T.length : Int) != (S.length : Int)) = false := by simp only [bne_eq_false_iff_eq]; omega
  clear hl
  go_enter Try.func120, Try.ntmps120
  go_wp2_with fail
  go_loopw [14] (fun i wr => ∃ k : Nat, k ≤ S.length ∧ i = .int .i64 k ∧ Hid (∀ j, j < k → 1 ≤ gi T j ∧ gi T j < pw (gi S j)) ∧ wr.cell? ⟨w.heap.size, 0, none⟩ = some (.slice ao S.length cap) ∧ w.heap.size < wr.heap.size ∧ Below w.heap.size w wr) (fun i _ => S.length - (intOf i).toNat)
  case atStart => exact ⟨0, Nat.zero_le _, rfl, Lib.hid fun j h => by omega, c0, l0, B0⟩
  case round =>
    clear c0 l0 B0 e1
    obtain ⟨k, hk, rfl, HK, c, l, B⟩ := hrel
    have hL2 : (T.length : Int) = (S.length : Int) := by have := HL.out; omega
    by_cases hlt : k < S.length
    · obtain ⟨b, o, rfl, hbl, hc⟩ := hS.at hlt
      obtain ⟨b', o', rfl, hbl', hc'⟩ := hT.at (i := k) (by rw [HL.out]; exact hlt)
      have hck := kept_cell B (hc k hlt) hbl
      have hck' := kept_cell B (hc' k (by rw [HL.out]; exact hlt)) hbl'
      obtain ⟨q1, q2⟩ := HSp.out.bd k hlt
      obtain ⟨p1, p2⟩ := pw_bd ⟨q1, q2⟩
      have i1 : (0 : Int) ≤ (k : Int) := by omega
      have i2 : (k : Int) < (S.length : Int) := by omega
      have i3 : (k : Int) < (T.length : Int) := by omega
      clear hc hc' hL2
      by_cases h1 : 1 ≤ gi T k ∧ gi T k ≤ pw (gi S k) - 1
      · have d1 := inB_true h1.1 h1.2
        have HQ := Lib.hid (And.intro h1.1 (show gi T k < pw (gi S k) by omega))
        clear h1
        obtain ⟨s1, s2, s3, s4, s5⟩ := shl_pw2 ⟨q1, q2⟩
        go_wp2_with fail
        go_quiet ((go_at_call 61; exact Calls.quiet_of_same ((l01In_any _ _ _ _).mono fun _ _ h => ⟨h.1, h.2.symm⟩)))
        go_wp2_with fail
        clear s1 s2 s3 s4 s5
        go_roundw
        case rel =>
          refine ⟨k + 1, by omega, by go_num, Lib.hid fun j hj => ?_, c, l, below_drewN B _⟩
          by_cases e : j = k
          · subst e; exact HQ.out
          · exact HK.out j (by omega)
        case measure => simp [intOf]; omega
      · have d1 := inB_false h1
        have HQ := Lib.hid (slB_at (S := S) (T := T) hlt (fun g => h1 ⟨g.1, by omega⟩))
        clear h1
        obtain ⟨s1, s2, s3, s4, s5⟩ := shl_pw2 ⟨q1, q2⟩
        go_wp2_with fail
        go_quiet ((go_at_call 61; exact Calls.quiet_of_same ((l01In_any _ _ _ _).mono fun _ _ h => ⟨h.1, h.2.symm⟩)))
        go_wp2_with fail
        go_ret
        exact ⟨ret_bool HQ.out.symm, below_drewN B _⟩
    · have HV : Hid (slB S T = true) := Lib.hid ((slB_iff S T).2 ⟨HL.out, fun j hj => HK.out j (by omega)⟩)
      have i4 : ¬ (k : Int) < (T.length : Int) := by omega
      clear hL2
      go_wp2_with fail
      go_ret
      exact ⟨ret_bool HV.out.symm, B⟩

end Go.Proofs.Ytcbkmmadejbbpaa
