/-
  The contracts of the errors of a space and numbers. By an AI agent.
-/
import Derived.Test.YtamebfbddoeflaaPkSpace
import Derived.Deep.RegionHeld3
namespace Go.Proofs.Ytamebfbddoeflaa
open Go.RowKit Cv
set_option linter.unusedVariables false
set_option linter.unusedSimpArgs false
set_option maxRecDepth 100000

/-- the number of words, in a space -/
theorem l01N_sp (ao : Option Addr) (S : List Int) (cap : Nat) (w : World) (h : Sp S) (hS : Ints w ao S) :
    Calls Try.prog 42 #[.agg #[.slice ao S.length cap]] w fun e w' => e = .returned (.int .i64 (nW S)) ∧ Below w.heap.size w w' := l01N_any ao S cap w h.hi h.bd hS
theorem wordCount_sp (ao : Option Addr) (S : List Int) (cap : Nat) (w : World) (h : Sp S) (hS : Ints w ao S) :
    Calls Try.prog 45 #[.agg #[.slice ao S.length cap]] w fun e w' => e = .returned (.int .i64 (nW S)) ∧ Below w.heap.size w w' := wordCount_any ao S cap w h.hi h.bd hS

set_option maxHeartbeats 400000 in
theorem l01Words_any (ao : Option Addr) (S : List Int) (cap : Nat) (hn : S.length ≤ 4294967296) (at' : Option Addr) (T : List Int) (capt : Nat) (hnt : T.length ≤ 4294967296) (w : World) (hS : Ints w ao S) (hT : Ints w at' T) :
    Calls Try.prog 70 #[.agg #[.slice ao S.length cap], .slice at' T.length capt] w fun e w' => e = .returned (.int .i64 (eWords S T)) ∧ Below w.heap.size w w' := by
  by_cases hsp : isSp S = true
  · have hSp := (isSp_iff S).1 hsp
    obtain ⟨N1, N2⟩ := nW_bd hSp
    have HSp := Lib.hid hSp
    have HI := Lib.hid hsp
    clear hSp
    go_enter Try.func70, Try.ntmps70
    go_wp2_with fail
    refine (l01Is_any ao S cap _ hn (hS.below ((Below.refl _ _).alloc (Nat.le_refl _) _))).mono ?_
    rintro e w1 ⟨rfl, hb⟩
    have c1 := kept_cell hb (cell_new w (.slice ao S.length cap) 26) (lt_alloc _ _)
    have l1 := lt_of_below hb (lt_alloc _ _)
    have B1 : Below w.heap.size w w1 := Below.trans (by go_grown) (hb.mono (by simp))
    clear hb
    go_wp2_with fail
    clear hsp
    go_loopw [5] (fun i wr => ∃ k : Nat, k ≤ T.length ∧ i = .int .i64 k ∧ Hid (∀ j, j < k → 0 ≤ gi T j ∧ gi T j < nW S) ∧ wr.cell? ⟨w.heap.size, 0, none⟩ = some (.slice ao S.length cap) ∧ w.heap.size < wr.heap.size ∧ Below w.heap.size w wr)
      (fun i _ => T.length - (intOf i).toNat)
    case atStart => exact ⟨0, Nat.zero_le _, rfl, Lib.hid fun j h => by omega, c1, l1, B1⟩
    case round =>
      clear c1 l1 B1
      obtain ⟨k, hk, rfl, HK, c, l, B⟩ := hrel
      by_cases hlt : k < T.length
      · obtain ⟨b, o, rfl, hbl, hc⟩ := hT.at hlt
        have hck : wr.cell? ⟨b, o + k, none⟩ = some (.int .i64 (gi T k)) := kept_cell B (hc k hlt) hbl
        have hbr : b < wr.heap.size := lt_of_below B hbl
        clear hc
        by_cases hq : 0 ≤ gi T k ∧ gi T k < nW S
        · have B2 := inB_true (n := gi T k) (low := 0) (high := nW S - 1) hq.1 (by omega)
          have HQ := Lib.hid hq
          clear hq
          go_wp2_with fail
          have EW : IntKind.i64.wrap (nW S - 1) = nW S - 1 := IntWalk.i64_in _ ⟨by omega, by omega⟩
          go_region_held3 (fun w' => w'.cell? ⟨b, o + k, none⟩ = some (.int .i64 (gi T k)) ∧ w'.cell? ⟨w.heap.size, 0, none⟩ = some (.slice ao S.length cap)) (first | exact ⟨hck, c⟩ | exact ⟨kept_cell hb2 hck hbr, kept_cell hb2 c l⟩) (first | (go_at_call 42; refine (l01N_sp ao S cap _ HSp.out (hS.below B.drew)).mono ?_; rintro e w2 ⟨rfl, hb2'⟩; have hb2 : Below wr.heap.size wr w2 := (Below.refl wr.heap.size wr).drew.trans hb2') | (go_at_call 31; refine (l01In_any _ _ _ _).mono ?_; rintro e w3 ⟨rfl, rfl⟩))
          clear EW
          go_wp2
          go_roundw
          case rel =>
            refine ⟨k + 1, by omega, by go_num, Lib.hid fun j hj => ?_, kept_cell hb2 c l, lt_of_below hb2 l, B.trans (hb2.mono B.size)⟩
            by_cases e : j = k
            · subst e; exact HQ.out
            · exact HK.out j (by omega)
          case measure => simp [intOf]; omega
        · have B2 := inB_false (n := gi T k) (low := 0) (high := nW S - 1) (by omega)
          have HQ := Lib.hid (eWords_bad HI.out hlt hq)
          clear hq
          go_wp2_with fail
          have EW : IntKind.i64.wrap (nW S - 1) = nW S - 1 := IntWalk.i64_in _ ⟨by omega, by omega⟩
          go_region_held3 (fun w' => w'.cell? ⟨b, o + k, none⟩ = some (.int .i64 (gi T k)) ∧ w'.cell? ⟨w.heap.size, 0, none⟩ = some (.slice ao S.length cap)) (first | exact ⟨hck, c⟩ | exact ⟨kept_cell hb2 hck hbr, kept_cell hb2 c l⟩) (first | (go_at_call 42; refine (l01N_sp ao S cap _ HSp.out (hS.below B.drew)).mono ?_; rintro e w2 ⟨rfl, hb2'⟩; have hb2 : Below wr.heap.size wr w2 := (Below.refl wr.heap.size wr).drew.trans hb2') | (go_at_call 31; refine (l01In_any _ _ _ _).mono ?_; rintro e w3 ⟨rfl, rfl⟩))
          clear EW
          go_wp2
          go_ret
          exact ⟨ret_int HQ.out.symm, B.trans (hb2.mono B.size)⟩
      · have HQ := Lib.hid (eWords_ok HI.out fun i hi => HK.out i (by omega))
        go_wp2
        go_ret
        exact ⟨ret_int HQ.out.symm, B⟩
  · have hsp' : isSp S = false := by simpa using hsp
    have HQ := Lib.hid (eWords_inv (T := T) hsp')
    clear hsp
    go_enter Try.func70, Try.ntmps70
    go_wp2_with (go_at_call 40; refine (l01Is_any ao S cap _ hn (hS.below ((Below.refl _ _).alloc (Nat.le_refl _) _))).mono ?_; rintro e w1 ⟨rfl, hb⟩)
    go_ret
    exact ⟨ret_int HQ.out.symm, Below.trans (by go_grown) (hb.mono (by simp))⟩

set_option maxHeartbeats 400000 in
theorem wordsError_any (ao : Option Addr) (S : List Int) (cap : Nat) (hn : S.length ≤ 4294967296) (at' : Option Addr) (T : List Int) (capt : Nat) (hnt : T.length ≤ 4294967296) (w : World) (hS : Ints w ao S) (hT : Ints w at' T) :
    Calls Try.prog 74 #[.agg #[.slice ao S.length cap], .slice at' T.length capt] w fun e w' => e = .returned (.int .i64 (eWords S T)) ∧ Below w.heap.size w w' := by
  by_cases hsp : isSp S = true
  · have hSp := (isSp_iff S).1 hsp
    obtain ⟨N1, N2⟩ := nW_bd hSp
    have HSp := Lib.hid hSp
    have HI := Lib.hid hsp
    clear hSp
    go_enter Try.func74, Try.ntmps74
    go_wp2_with fail
    refine (IsSpace_any ao S cap _ hn (hS.below ((Below.refl _ _).alloc (Nat.le_refl _) _))).mono ?_
    rintro e w1 ⟨rfl, hb⟩
    have c1 := kept_cell hb (cell_new w (.slice ao S.length cap) 26) (lt_alloc _ _)
    have B1 : Below w.heap.size w w1 := Below.trans (by go_grown) (hb.mono (by simp))
    clear hb
    go_wp2_with fail
    refine (wordCount_sp ao S cap _ HSp.out (hS.below B1)).mono ?_
    rintro e w2 ⟨rfl, hb⟩
    have B2 : Below w.heap.size w w2 := B1.trans (hb.mono B1.size)
    clear hb c1
    go_wp2_with fail
    clear hsp
    go_loop [15] (fun i => ∃ k : Nat, k ≤ T.length ∧ i = .int .i64 k ∧ Hid (∀ j, j < k → 0 ≤ gi T j ∧ gi T j < nW S)) (fun i => T.length - (intOf i).toNat)
    case atStart => exact ⟨0, Nat.zero_le _, rfl, Lib.hid fun j h => by omega⟩
    case round =>
      obtain ⟨k, hk, rfl, HK⟩ := hrel
      by_cases hlt : k < T.length
      · obtain ⟨b, o, rfl, hbl, hc⟩ := hT.at hlt
        have hck : w2.cell? ⟨b, o + k, none⟩ = some (.int .i64 (gi T k)) := kept_cell B2 (hc k hlt) hbl
        clear hc
        by_cases hq : 0 ≤ gi T k
        · by_cases hq2 : gi T k < nW S
          · have HQ := Lib.hid (And.intro hq hq2)
            go_wp2_with fail
            go_round
            case rel =>
              refine ⟨k + 1, by omega, by go_num, Lib.hid fun j hj => ?_⟩
              by_cases e : j = k
              · subst e; exact HQ.out
              · exact HK.out j (by omega)
            case measure => simp [intOf]; omega
          · have HQ := Lib.hid (eWords_bad HI.out hlt (by omega))
            go_wp2_with fail
            go_ret
            exact ⟨ret_int HQ.out.symm, B2⟩
        · have HQ := Lib.hid (eWords_bad HI.out hlt (by omega))
          go_wp2_with fail
          go_ret
          exact ⟨ret_int HQ.out.symm, B2⟩
      · have HQ := Lib.hid (eWords_ok HI.out fun i hi => HK.out i (by omega))
        go_wp2
        go_ret
        exact ⟨ret_int HQ.out.symm, B2⟩
  · have hsp' : isSp S = false := by simpa using hsp
    have HQ := Lib.hid (eWords_inv (T := T) hsp')
    clear hsp
    go_enter Try.func74, Try.ntmps74
    go_wp2_with (go_at_call 35; refine (IsSpace_any ao S cap _ hn (hS.below ((Below.refl _ _).alloc (Nat.le_refl _) _))).mono ?_; rintro e w1 ⟨rfl, hb⟩)
    go_ret
    exact ⟨ret_int HQ.out.symm, Below.trans (by go_grown) (hb.mono (by simp))⟩

theorem wordsError_n (ao : Option Addr) (S : List Int) (cap : Nat) (hn : S.length ≤ 4294967296) (at' : Option Addr) (T : List Int) (K capt : Nat) (hK : K = T.length) (hnt : K ≤ 4294967296) (w : World) (hS : Ints w ao S) (hT : Ints w at' T) :
    Calls Try.prog 74 #[.agg #[.slice ao S.length cap], .slice at' K capt] w fun e w' => e = .returned (.int .i64 (eWords S T)) ∧ Below w.heap.size w w' := by
  subst hK; exact wordsError_any ao S cap hn at' T capt hnt w hS hT

end Go.Proofs.Ytamebfbddoeflaa
