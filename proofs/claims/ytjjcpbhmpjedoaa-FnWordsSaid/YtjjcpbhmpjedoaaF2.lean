/-
  The contracts of WordOf, OppositeWord and ChangeDigit. By an AI agent.
-/
import Derived.Test.YtjjcpbhmpjedoaaF1
namespace Go.Proofs.Ytjjcpbhmpjedoaa
open Go.RowKit Cv
set_option linter.unusedVariables false
set_option linter.unusedSimpArgs false
set_option maxRecDepth 100000

set_option maxHeartbeats 1000000 in
theorem areDigits_any (ao : Option Addr) (S : List Int) (cap : Nat) (hn : S.length ≤ 4294967296) (ad : Option Addr) (D : List Int) (capd : Nat) (hnd : D.length ≤ 4294967296) (w : World) (hS : Ints w ao S) (hD : Ints w ad D) :
    Calls Try.prog 59 #[.agg #[.slice ao S.length cap], .slice ad D.length capd] w fun e w' => e = .returned (.bool (dgB S D)) ∧ Below w.heap.size w w' := by
  have Bx : ∀ o, Below w.heap.size w (w.alloc o) := fun o => (Below.refl _ _).alloc (Nat.le_refl _) _
  by_cases hl : D.length = S.length
  · have HL := Lib.hid hl
    rw [hl]
    clear hl
    go_enter Try.func59, Try.ntmps59
    go_wp2_with fail
    go_loop [16] (fun i => ∃ k : Nat, k ≤ S.length ∧ i = .int .i64 k ∧ Hid (∀ j, j < k → 0 ≤ gi D j ∧ gi D j < gi S j)) (fun i => S.length - (intOf i).toNat)
    case atStart => exact ⟨0, Nat.zero_le _, rfl, Lib.hid fun j h => by omega⟩
    case round =>
      obtain ⟨k, hk, rfl, HK⟩ := hrel
      by_cases hlt : k < S.length
      · obtain ⟨b, o, rfl, hbl, hc⟩ := hS.at hlt
        have hck : ∀ x, (w.alloc x).cell? ⟨b, o + k, none⟩ = some (.int .i64 (gi S k)) := fun x => kept_cell (Bx x) (hc k hlt) hbl
        obtain ⟨b', o', rfl, hbl', hc'⟩ := hD.at (i := k) (by rw [HL.out]; exact hlt)
        have hck' : ∀ x, (w.alloc x).cell? ⟨b', o' + k, none⟩ = some (.int .i64 (gi D k)) := fun x => kept_cell (Bx x) (hc' k (by rw [HL.out]; exact hlt)) hbl'
        clear hc hc'
        by_cases hq : 0 ≤ gi D k
        · by_cases hq2 : gi D k < gi S k
          · have HQ := Lib.hid (And.intro hq hq2)
            go_wp2_with fail
            go_round
            case rel =>
              refine ⟨k + 1, by omega, by go_num, Lib.hid fun j hj => ?_⟩
              by_cases e : j = k
              · subst e; exact HQ.out
              · exact HK.out j (by omega)
            case measure => simp [intOf]; omega
          · have HQ := Lib.hid (dgB_bad (S := S) (D := D) hlt (by omega))
            go_wp2_with fail
            go_ret
            exact ⟨ret_bool HQ.out.symm, by go_grown⟩
        · have HQ := Lib.hid (dgB_bad (S := S) (D := D) hlt (by omega))
          go_wp2_with fail
          go_ret
          exact ⟨ret_bool HQ.out.symm, by go_grown⟩
      · have HQ := Lib.hid (dgB_ok HL.out fun i hi => HK.out i (by omega))
        go_wp2_with fail
        go_ret
        exact ⟨ret_bool HQ.out.symm, by go_grown⟩
  · have HQ := Lib.hid (dgB_len hl)
    have hne : ((D.length : Int) == (S.length : Int)) = false := by simp; omega
    have hne2 : ((D.length : Int) != (S.length : Int)) = true := by simp; omega
    go_enter Try.func59, Try.ntmps59
    go_wp2_with fail
    go_ret
    exact ⟨ret_bool HQ.out.symm, by go_grown⟩

set_option maxHeartbeats 1000000 in
theorem impl_WordOf (ao : Option Addr) (S : List Int) (cap : Nat) (hn : S.length ≤ 4294967296) (ad : Option Addr) (D : List Int) (capd : Nat) (hnd : D.length ≤ 4294967296) (w : World) (hS : Ints w ao S) (hD : Ints w ad D) :
    Calls Try.prog 20 #[.agg #[.slice ao S.length cap], .slice ad D.length capd] w fun e w' => e = .returned (.tuple #[.int .i64 (vWordOf S D), .int .i64 (eWordOf S D)]) ∧ Below w.heap.size w w' := by
  have B0 : Below w.heap.size w (w.alloc (.cells #[.slice ao S.length cap] 26)) := by go_grown
  by_cases hsp : isSp S = true
  · have HSp := Lib.hid ((isSp_iff S).1 hsp)
    by_cases hd : dgB S D = true
    · have HV := Lib.hid (show vWordOf S D = wordTo S D S.length from by simp only [vWordOf, if_pos (And.intro hsp hd)])
      have HE := Lib.hid (show eWordOf S D = 0 from by simp only [eWordOf, if_pos hsp, if_pos hd])
      have HD := Lib.hid (dgB_true hd)
      go_enter Try.func20, Try.ntmps20
      go_wp2_with fail
      refine (IsSpace_any ao S cap _ hn (hS.below B0)).mono ?_
      rintro e w1 ⟨rfl, hb⟩
      have c1 := kept_cell hb (cell_new w (.slice ao S.length cap) 26) (lt_alloc _ _)
      have l1 := lt_of_below hb (lt_alloc _ _)
      have B1 : Below w.heap.size w w1 := B0.trans (hb.mono B0.size)
      clear hb
      go_wp2_with fail
      refine (areDigits_any ao S cap hn ad D capd hnd _ (hS.below B1) (hD.below B1)).mono ?_
      rintro e w2 ⟨rfl, hb⟩
      replace c1 := kept_cell hb c1 l1
      have B2 : Below w.heap.size w w2 := B1.trans (hb.mono B1.size)
      clear hb
      go_wp2_with fail
      refine (wordWithDigits_any ao S cap HSp.out.hi HSp.out.bd ad D D.length capd HD.out.1 HD.out _ (hS.below B2) (hD.below B2)).mono ?_
      rintro e w3 ⟨rfl, hb⟩
      go_wp2_with fail
      go_ret2
      exact ⟨ret2 HV.out.symm HE.out.symm, B2.trans (hb.mono B2.size)⟩
    · have hd' : dgB S D = false := by simpa using hd
      have HV := Lib.hid (show vWordOf S D = 0 from by simp only [vWordOf, if_neg (fun h => hd (And.right h))])
      have HE := Lib.hid (show eWordOf S D = 2 from by simp only [eWordOf, if_pos hsp, if_neg hd])
      clear hd
      go_enter Try.func20, Try.ntmps20
      go_wp2_with fail
      refine (IsSpace_any ao S cap _ hn (hS.below B0)).mono ?_
      rintro e w1 ⟨rfl, hb⟩
      have c1 := kept_cell hb (cell_new w (.slice ao S.length cap) 26) (lt_alloc _ _)
      have B1 : Below w.heap.size w w1 := B0.trans (hb.mono B0.size)
      clear hb
      go_wp2_with fail
      refine (areDigits_any ao S cap hn ad D capd hnd _ (hS.below B1) (hD.below B1)).mono ?_
      rintro e w2 ⟨rfl, hb⟩
      go_wp2_with fail
      go_ret2
      exact ⟨ret2 HV.out.symm HE.out.symm, B1.trans (hb.mono B1.size)⟩
  · have hsp' : isSp S = false := by simpa using hsp
    have HV := Lib.hid (show vWordOf S D = 0 from by simp only [vWordOf, if_neg (fun h => hsp (And.left h))])
    have HE := Lib.hid (show eWordOf S D = 1 from by simp only [eWordOf, if_neg hsp])
    clear hsp
    go_enter Try.func20, Try.ntmps20
    go_wp2_with (go_at_call 18; refine (IsSpace_any ao S cap _ hn (hS.below B0)).mono ?_; rintro e w1 ⟨rfl, hb⟩)
    go_ret2
    exact ⟨ret2 HV.out.symm HE.out.symm, B0.trans (hb.mono B0.size)⟩

theorem l01In_w (n low high : Int) (w : World) :
    Calls Try.prog 72 #[.int .i64 n, .int .i64 low, .int .i64 high] w fun e w' => e = .returned (.bool (inB n low high)) ∧ w' = w :=
  (l01In_any n low high w).mono fun _ _ ⟨a, b⟩ => ⟨a, b.symm⟩

set_option maxHeartbeats 2000000 in
theorem spec_WordOf (ao : Option Addr) (S : List Int) (cap : Nat) (hn : S.length ≤ 4294967296) (ad : Option Addr) (D : List Int) (capd : Nat) (hnd : D.length ≤ 4294967296) (w : World) (hS : Ints w ao S) (hD : Ints w ad D) :
    Calls Try.prog 33 #[.agg #[.slice ao S.length cap], .slice ad D.length capd] w fun e w' => e = .returned (.tuple #[.int .i64 (vWordOf S D), .int .i64 (eWordOf S D)]) ∧ Below w.heap.size w w' := by
  have B0 : Below w.heap.size w (w.alloc (.cells #[.slice ao S.length cap] 26)) := by go_grown
  by_cases hsp : isSp S = true
  · have HSp := Lib.hid ((isSp_iff S).1 hsp)
    have HI := Lib.hid hsp
    by_cases hl : D.length = S.length
    · have HL := Lib.hid hl
      rw [hl]
      clear hl
      go_enter Try.func33, Try.ntmps33
      go_wp2_with fail
      refine (l01Is_any ao S cap _ hn (hS.below B0)).mono ?_
      rintro e w1 ⟨rfl, hb⟩
      have c1 := kept_cell hb (cell_new w (.slice ao S.length cap) 26) (lt_alloc _ _)
      have B1 : Below w.heap.size w w1 := B0.trans (hb.mono B0.size)
      clear hb B0
      go_wp2_with fail
      clear hsp
      go_loopw [6] (fun i wr => ∃ k : Nat, k ≤ S.length ∧ i = .int .i64 k ∧ Hid (∀ j, j < k → 0 ≤ gi D j ∧ gi D j < gi S j) ∧ wr.cell? ⟨w.heap.size, 0, none⟩ = some (.slice ao S.length cap) ∧ Below w.heap.size w wr) (fun i _ => S.length - (intOf i).toNat)
      case atStart => exact ⟨0, Nat.zero_le _, rfl, Lib.hid fun j h => by omega, c1, B1⟩
      case round =>
        clear c1 B1
        obtain ⟨k, hk, rfl, HK, c, B⟩ := hrel
        by_cases hlt : k < S.length
        · obtain ⟨b, o, rfl, hbl, hc⟩ := hS.at hlt
          have hck := kept_cell B (hc k hlt) hbl
          obtain ⟨b', o', rfl, hbl', hc'⟩ := hD.at (i := k) (by rw [HL.out]; exact hlt)
          have hck' := kept_cell B (hc' k (by rw [HL.out]; exact hlt)) hbl'
          obtain ⟨s1, s2⟩ := HSp.out.bd k hlt
          clear hc hc'
          by_cases hq : 0 ≤ gi D k ∧ gi D k < gi S k
          · have B2 := inB_true (n := gi D k) (low := 0) (high := gi S k - 1) hq.1 (by omega)
            have HQ := Lib.hid hq
            have EW : IntKind.i64.wrap (gi S k - 1) = gi S k - 1 := IntWalk.i64_in _ ⟨by omega, by omega⟩
            clear hq
            go_wp2_with fail
            go_quiet ((go_at_call 72; exact Calls.quiet_of_same (l01In_w _ _ _ _)))
            clear EW
            go_wp2
            go_roundw
            case rel =>
              refine ⟨k + 1, by omega, by go_num, Lib.hid fun j hj => ?_, c, below_drewN B _⟩
              by_cases e : j = k
              · subst e; exact HQ.out
              · exact HK.out j (by omega)
            case measure => simp [intOf]; omega
          · have B2 := inB_false (n := gi D k) (low := 0) (high := gi S k - 1) (by omega)
            have HV := Lib.hid (show vWordOf S D = 0 from by simp only [vWordOf, dgB_bad hlt hq]; simp)
            have HE := Lib.hid (show eWordOf S D = 2 from by simp only [eWordOf, if_pos HI.out, dgB_bad hlt hq]; simp)
            have EW : IntKind.i64.wrap (gi S k - 1) = gi S k - 1 := IntWalk.i64_in _ ⟨by omega, by omega⟩
            clear hq
            go_wp2_with fail
            go_quiet ((go_at_call 72; exact Calls.quiet_of_same (l01In_w _ _ _ _)))
            clear EW
            go_wp2
            go_ret2
            exact ⟨ret2 HV.out.symm HE.out.symm, below_drewN B _⟩
        · have hd := dgB_ok HL.out fun i hi => HK.out i (by omega)
          have HV := Lib.hid (show vWordOf S D = wordTo S D S.length from by simp only [vWordOf, if_pos (And.intro HI.out hd)])
          have HE := Lib.hid (show eWordOf S D = 0 from by simp only [eWordOf, if_pos HI.out, if_pos hd])
          have HD := Lib.hid (dgB_true hd)
          clear hd
          go_wp2_with fail
          refine (l01Word_any ao S cap HSp.out.hi HSp.out.bd ad D S.length capd rfl HD.out _ (hS.below B) (hD.below B)).mono ?_
          rintro e w3 ⟨rfl, hb⟩
          go_wp2_with fail
          go_ret2
          exact ⟨ret2 HV.out.symm HE.out.symm, B.trans (hb.mono B.size)⟩
    · have HV := Lib.hid (show vWordOf S D = 0 from by simp only [vWordOf, dgB_len hl]; simp)
      have HE := Lib.hid (show eWordOf S D = 2 from by simp only [eWordOf, if_pos hsp, dgB_len hl]; simp)
      have hne : ((D.length : Int) == (S.length : Int)) = false := by simp; omega
      have hne2 : ((D.length : Int) != (S.length : Int)) = true := by simp; omega
      go_enter Try.func33, Try.ntmps33
      go_wp2_with fail
      refine (l01Is_any ao S cap _ hn (hS.below B0)).mono ?_
      rintro e w1 ⟨rfl, hb⟩
      have c1 := kept_cell hb (cell_new w (.slice ao S.length cap) 26) (lt_alloc _ _)
      have B1 : Below w.heap.size w w1 := B0.trans (hb.mono B0.size)
      go_wp2_with fail
      go_ret2
      exact ⟨ret2 HV.out.symm HE.out.symm, B1⟩
  · have hsp' : isSp S = false := by simpa using hsp
    have HV := Lib.hid (show vWordOf S D = 0 from by simp only [vWordOf, if_neg (fun h => hsp (And.left h))])
    have HE := Lib.hid (show eWordOf S D = 1 from by simp only [eWordOf, if_neg hsp])
    clear hsp
    go_enter Try.func33, Try.ntmps33
    go_wp2_with (go_at_call 58; refine (l01Is_any ao S cap _ hn (hS.below B0)).mono ?_; rintro e w1 ⟨rfl, hb⟩)
    go_ret2
    exact ⟨ret2 HV.out.symm HE.out.symm, B0.trans (hb.mono B0.size)⟩

end Go.Proofs.Ytjjcpbhmpjedoaa
