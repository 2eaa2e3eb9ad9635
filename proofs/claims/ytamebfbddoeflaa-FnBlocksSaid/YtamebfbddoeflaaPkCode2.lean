/-
  The contracts of codes: the model's test, and IsCode. By an AI agent.
-/
import Derived.Test.YtamebfbddoeflaaPkCode
import Derived.Test.YtamebfbddoeflaaPkFam
namespace Go.Proofs.Ytamebfbddoeflaa
open Go.RowKit Cv
set_option linter.unusedVariables false
set_option linter.unusedSimpArgs false
set_option maxRecDepth 100000

set_option maxHeartbeats 4000000 in
theorem l01Code_any (ao : Option Addr) (S : List Int) (cap : Nat) (hSp : Sp S) (ac : Option Addr) (C : List Int) (capc : Nat) (hnc : C.length ≤ 4294967296) (w : World) (hS : Ints w ao S) (hC : Ints w ac C) :
    Calls Try.prog 63 #[.agg #[.slice ao S.length cap], .slice ac C.length capc] w fun e w' => e = .returned (.bool (codeB S C)) ∧ Below w.heap.size w w' := by
  obtain ⟨N1, N2⟩ := nW_bd hSp
  have HSp := Lib.hid hSp
  clear hSp
  go_enter Try.func63, Try.ntmps63
  go_wp2_with fail
  go_loopw [5] (fun i wr => ∃ k : Nat, k ≤ C.length ∧ i = .int .i64 k ∧ Hid (∀ j, j < k → 0 ≤ gi C j ∧ gi C j < nW S) ∧ Hid (∀ j, 0 < j → j < k → gi C (j - 1) < gi C j) ∧ wr.cell? ⟨w.heap.size, 0, none⟩ = some (.slice ao S.length cap) ∧ w.heap.size < wr.heap.size ∧ Below w.heap.size w wr)
    (fun i _ => C.length - (intOf i).toNat)
  case atStart => exact ⟨0, Nat.zero_le _, rfl, Lib.hid fun j h => by omega, Lib.hid fun j _ h => by omega, cell_new _ _ _, lt_alloc _ _, by go_grown⟩
  case round =>
    obtain ⟨k, hk, rfl, HK, HA, c, l, B⟩ := hrel
    by_cases hlt : k < C.length
    · obtain ⟨b, o, rfl, hbl, hc⟩ := hC.at hlt
      have hck : wr.cell? ⟨b, o + k, none⟩ = some (.int .i64 (gi C k)) := kept_cell B (hc k hlt) hbl
      have hbr : b < wr.heap.size := lt_of_below B hbl
      have EW : IntKind.i64.wrap (nW S - 1) = nW S - 1 := IntWalk.i64_in _ ⟨by omega, by omega⟩
      by_cases hq : 0 ≤ gi C k ∧ gi C k < nW S
      · have B2 := inB_true (n := gi C k) (low := 0) (high := nW S - 1) hq.1 (by omega)
        have HQ := Lib.hid hq
        clear hq
        by_cases h0 : k = 0
        · have hd : decide ((0 : Int) < (k : Int)) = false := by simp; omega
          have hdN : decide (0 < k) = false := by simp; omega
          have H0 := Lib.hid h0
          clear hc h0
          go_wp2_with fail
          have fc := fam_cell c
          have fk := fam_cell hck
          refine wp_region_fam (by kernel_rfl) (by kernel_rfl) ?_
          repeat (go_big_quiet_step ((first | (go_at_call 42; exact fam_calls (l01N_sp ao S cap _ HSp.out (hS.below (B.trans ((fam_below _).mono B.size))))) | (go_at_call 31; exact fam_same (l01In_any _ _ _ _)))))
          refine wpQuiet_nil ?_
          rintro _ ⟨x, rfl⟩
          have hb2 := fam_below x
          generalize fam wr x = w2 at hb2 ⊢
          clear fc fk
          clear EW
          go_wp2
          go_roundw
          case rel =>
            refine ⟨k + 1, by omega, by go_num, Lib.hid fun j hj => ?_, Lib.hid fun j h0 hj => by have := H0.out; omega, kept_cell hb2 c l, lt_of_below hb2 l, B.trans (hb2.mono B.size)⟩
            by_cases e : j = k
            · subst e; exact HQ.out
            · exact HK.out j (by omega)
          case measure => simp [intOf]; omega
        · obtain ⟨m, rfl⟩ : ∃ m, k = m + 1 := ⟨k - 1, by omega⟩
          have hcm : wr.cell? ⟨b, o + m, none⟩ = some (.int .i64 (gi C m)) := kept_cell B (hc m (by omega)) hbl
          have hd : decide ((0 : Int) < ((m + 1 : Nat) : Int)) = true := by simp; try omega
          have hd2 : decide ((0 : Int) < (m : Int) + 1) = true := by simp; try omega
          have hdN : decide (0 < m + 1) = true := by simp
          have E1 : IntKind.i64.wrap ((m : Int) + 1 - 1) = (m : Int) := by rw [IntWalk.i64_in _ ⟨by omega, by omega⟩]; omega
          have E2 : IntKind.i64.wrap (m : Int) = (m : Int) := IntWalk.i64_in _ ⟨by omega, by omega⟩
          have i1 : (0 : Int) ≤ (m : Int) := by omega
          have i2 : (m : Int) < (C.length : Int) := by omega
          have i3 : (m : Int) + 1 < (C.length : Int) := by omega
          have i4 : (0 : Int) ≤ (m : Int) + 1 := by omega
          clear hc h0
          by_cases ha : gi C m < gi C (m + 1)
          · have hda : decide (gi C (m + 1) ≤ gi C m) = false := by simpa using ha
            have HB := Lib.hid ha
            clear ha
            go_wp2_with fail
            go_region_held3 (fun w' => w'.cell? ⟨b, o + (m + 1), none⟩ = some (.int .i64 (gi C (m + 1))) ∧ w'.cell? ⟨w.heap.size, 0, none⟩ = some (.slice ao S.length cap) ∧ w'.cell? ⟨b, o + m, none⟩ = some (.int .i64 (gi C m))) (first | exact ⟨hck, c, hcm⟩ | exact ⟨kept_cell hb2 hck hbr, kept_cell hb2 c l, kept_cell hb2 hcm hbr⟩) (first | (go_at_call 42; refine (l01N_sp ao S cap _ HSp.out (hS.below B.drew)).mono ?_; rintro e w2 ⟨rfl, hb2'⟩; have hb2 : Below wr.heap.size wr w2 := (Below.refl wr.heap.size wr).drew.trans hb2') | (go_at_call 31; refine (l01In_any _ _ _ _).mono ?_; rintro e w3 ⟨rfl, rfl⟩))
            clear EW E1 E2
            go_wp2
            go_roundw
            case rel =>
              refine ⟨m + 1 + 1, by omega, by go_num, Lib.hid fun j hj => ?_, Lib.hid fun j h0 hj => ?_, kept_cell hb2 c l, lt_of_below hb2 l, B.trans (hb2.mono B.size)⟩
              · by_cases e : j = m + 1
                · subst e; exact HQ.out
                · exact HK.out j (by omega)
              · by_cases e : j = m + 1
                · subst e; exact HB.out
                · exact HA.out j h0 (by omega)
            case measure => simp [intOf]; omega
          · have hda : decide (gi C (m + 1) ≤ gi C m) = true := by simpa using ha
            have HB := Lib.hid (codeB_desc (S := S) (C := C) (k := m + 1) (by omega) hlt ha)
            clear ha
            go_wp2_with fail
            go_region_held3 (fun w' => w'.cell? ⟨b, o + (m + 1), none⟩ = some (.int .i64 (gi C (m + 1))) ∧ w'.cell? ⟨w.heap.size, 0, none⟩ = some (.slice ao S.length cap) ∧ w'.cell? ⟨b, o + m, none⟩ = some (.int .i64 (gi C m))) (first | exact ⟨hck, c, hcm⟩ | exact ⟨kept_cell hb2 hck hbr, kept_cell hb2 c l, kept_cell hb2 hcm hbr⟩) (first | (go_at_call 42; refine (l01N_sp ao S cap _ HSp.out (hS.below B.drew)).mono ?_; rintro e w2 ⟨rfl, hb2'⟩; have hb2 : Below wr.heap.size wr w2 := (Below.refl wr.heap.size wr).drew.trans hb2') | (go_at_call 31; refine (l01In_any _ _ _ _).mono ?_; rintro e w3 ⟨rfl, rfl⟩))
            clear EW E1 E2
            go_wp2
            go_ret
            exact ⟨ret_bool HB.out.symm, B.trans (hb2.mono B.size)⟩
      · have B2 := inB_false (n := gi C k) (low := 0) (high := nW S - 1) (by omega)
        have HB := Lib.hid (codeB_bad (S := S) (C := C) hlt hq)
        clear hq hc
        go_wp2_with fail
        have fc := fam_cell c
        have fk := fam_cell hck
        refine wp_region_fam (by kernel_rfl) (by kernel_rfl) ?_
        repeat (go_big_quiet_step ((first | (go_at_call 42; exact fam_calls (l01N_sp ao S cap _ HSp.out (hS.below (B.trans ((fam_below _).mono B.size))))) | (go_at_call 31; exact fam_same (l01In_any _ _ _ _)))))
        refine wpQuiet_nil ?_
        rintro _ ⟨x, rfl⟩
        have hb2 := fam_below x
        generalize fam wr x = w2 at hb2 ⊢
        clear fc fk
        clear EW
        go_wp2
        go_ret
        exact ⟨ret_bool HB.out.symm, B.trans (hb2.mono B.size)⟩
    · have HB := Lib.hid (codeB_ok (S := S) (C := C) (fun i hi => HK.out i (by omega)) (fun i h0 hi => HA.out i h0 (by omega)))
      go_wp2
      go_ret
      exact ⟨ret_bool HB.out.symm, B⟩

end Go.Proofs.Ytamebfbddoeflaa
