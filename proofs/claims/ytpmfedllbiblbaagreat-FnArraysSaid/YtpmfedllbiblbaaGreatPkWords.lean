/-
  The contracts of the errors of a space and numbers. By an AI agent.
-/
import Derived.Test.YtpmfedllbiblbaaGreatPkSpace
import Derived.Deep.RegionHeld3
namespace Go.Proofs.YtpmfedllbiblbaaGreat
open Go.RowKit Cv
set_option linter.unusedVariables false
set_option linter.unusedSimpArgs false
set_option maxRecDepth 100000

/-- the number of words, in a space -/
theorem l01N_sp (ao : Option Addr) (S : List Int) (cap : Nat) (w : World) (h : Sp S) (hS : Ints w ao S) :
    Calls Tryz.prog 54 #[.agg #[.slice ao S.length cap]] w fun e w' => e = .returned (.int .i64 (nW S)) ∧ Below w.heap.size w w' := l01N_any ao S cap w h.hi h.bd hS
theorem wordCount_sp (ao : Option Addr) (S : List Int) (cap : Nat) (w : World) (h : Sp S) (hS : Ints w ao S) :
    Calls Tryz.prog 71 #[.agg #[.slice ao S.length cap]] w fun e w' => e = .returned (.int .i64 (nW S)) ∧ Below w.heap.size w w' := wordCount_any ao S cap w h.hi h.bd hS

set_option maxHeartbeats 400000 in
theorem wordsError_any (ao : Option Addr) (S : List Int) (cap : Nat) (hn : S.length ≤ 4294967296) (at' : Option Addr) (T : List Int) (capt : Nat) (hnt : T.length ≤ 4294967296) (w : World) (hS : Ints w ao S) (hT : Ints w at' T) :
    Calls Tryz.prog 63 #[.agg #[.slice ao S.length cap], .slice at' T.length capt] w fun e w' => e = .returned (.int .i64 (eWords S T)) ∧ Below w.heap.size w w' := by
  by_cases hsp : isSp S = true
  · have hSp := (isSp_iff S).1 hsp
    obtain ⟨N1, N2⟩ := nW_bd hSp
    have HSp := Lib.hid hSp
    have HI := Lib.hid hsp
    clear hSp
    go_enter Tryz.func63, Tryz.ntmps63
    go_wp2_with fail
    refine (IsSpace_any ao S cap _ hn (hS.below ((Below.refl _ _).alloc (Nat.le_refl _) _))).mono ?_
    rintro e w1 ⟨rfl, hb⟩
    have c1 := kept_cell hb (cell_new w (.slice ao S.length cap) 26) (lt_alloc _ _)
    have B1 : Below w.heap.size w w1 := Below.trans (by go_grown) (hb.mono (by simp))
    clear hb
    go_wp2_with fail
    refine (wordCount_sp ao S cap _ HSp.out (hS.below B1)).mono ?_
    rintro e w2 ⟨rfl, hb⟩
    have B2 : Below w.heap.size w w2 := B1.trans (hb.mono B1.size)
    clear hb c1
    go_wp2_with fail
    clear hsp
    go_loop [15] (fun i => ∃ k : Nat, k ≤ T.length ∧ i = .int .i64 k ∧ Hid (∀ j, j < k → 0 ≤ gi T j ∧ gi T j < nW S)) (fun i => T.length - (intOf i).toNat)
    case atStart => exact ⟨0, Nat.zero_le _, rfl, Lib.hid fun j h => by omega⟩
    case round =>
      obtain ⟨k, hk, rfl, HK⟩ := hrel
      by_cases hlt : k < T.length
      · obtain ⟨b, o, rfl, hbl, hc⟩ := hT.at hlt
        have hck : w2.cell? ⟨b, o + k, none⟩ = some (.int .i64 (gi T k)) := kept_cell B2 (hc k hlt) hbl
        clear hc
        by_cases hq : 0 ≤ gi T k
        · by_cases hq2 : gi T k < nW S
          · have HQ := Lib.hid (And.intro hq hq2)
            go_wp2_with fail
            go_round
            case rel =>
              refine ⟨k + 1, by omega, by go_num, Lib.hid fun j hj => ?_⟩
              by_cases e : j = k
              · subst e; exact HQ.out
              · exact HK.out j (by omega)
            case measure => simp [intOf]; omega
          · have HQ := Lib.hid (eWords_bad HI.out hlt (by omega))
            go_wp2_with fail
            go_ret
            exact ⟨ret_int HQ.out.symm, B2⟩
        · have HQ := Lib.hid (eWords_bad HI.out hlt (by omega))
          go_wp2_with fail
          go_ret
          exact ⟨ret_int HQ.out.symm, B2⟩
      · have HQ := Lib.hid (eWords_ok HI.out fun i hi => HK.out i (by omega))
        go_wp2
        go_ret
        exact ⟨ret_int HQ.out.symm, B2⟩
  · have hsp' : isSp S = false := by simpa using hsp
    have HQ := Lib.hid (eWords_inv (T := T) hsp')
    clear hsp
    go_enter Tryz.func63, Tryz.ntmps63
    go_wp2_with (go_at_call 95; refine (IsSpace_any ao S cap _ hn (hS.below ((Below.refl _ _).alloc (Nat.le_refl _) _))).mono ?_; rintro e w1 ⟨rfl, hb⟩)
    go_ret
    exact ⟨ret_int HQ.out.symm, Below.trans (by go_grown) (hb.mono (by simp))⟩

theorem wordsError_n (ao : Option Addr) (S : List Int) (cap : Nat) (hn : S.length ≤ 4294967296) (at' : Option Addr) (T : List Int) (K capt : Nat) (hK : K = T.length) (hnt : K ≤ 4294967296) (w : World) (hS : Ints w ao S) (hT : Ints w at' T) :
    Calls Tryz.prog 63 #[.agg #[.slice ao S.length cap], .slice at' K capt] w fun e w' => e = .returned (.int .i64 (eWords S T)) ∧ Below w.heap.size w w' := by
  subst hK; exact wordsError_any ao S cap hn at' T capt hnt w hS hT

end Go.Proofs.YtpmfedllbiblbaaGreat
