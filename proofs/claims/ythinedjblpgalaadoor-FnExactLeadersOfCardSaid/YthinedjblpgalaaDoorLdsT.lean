/-
  The contract of the model of LeadersOf. By an AI agent.
-/
import Derived.Test.YthinedjblpgalaaDoorLdsS
namespace Go.Proofs.YthinedjblpgalaaDoor
open Go.RowKit Cv
set_option linter.unusedVariables false
set_option linter.unusedSimpArgs false
set_option maxRecDepth 100000

theorem spec_LeadersOf (ao : Option Addr) (S : List Int) (cap : Nat) (hn : S.length ≤ 4294967296) (ac : Option Addr) (C : List Int) (capc : Nat) (hnc : C.length ≤ 4294967296) (w : World) (hS : Ints w ao S) (hC : Ints w ac C) :
    Calls Tryd.prog 13 #[.agg #[.slice ao S.length cap], .slice ac C.length capc] w fun e w' => ∃ v, e = .returned (.tuple #[v, .int .i64 (eLin S C)]) ∧ OwnInts w' w.heap.size v (vLds S C) ∧ Below w.heap.size w w' := by
  have B0 : Below w.heap.size w (w.alloc (.cells #[.slice ao S.length cap] 28)) := by go_grown
  have c0 := cell_new w (.slice ao S.length cap) 28
  have l0 := lt_alloc w (.cells #[.slice ao S.length cap] 28)
  have h1 := l05Given_any ao S cap hn ac C capc hnc _ (hS.below B0) (hC.below B0)
  by_cases hz : eLin S C = 0
  · obtain ⟨hc0, hlb⟩ := eLin_zero hz
    obtain ⟨hP, hg⟩ := lin_gp hc0 hlb
    have hlen := code_len0 hc0
    have hpos := List.length_pos_of_mem hg.zero
    have HV : Hid (vLds S C = ldsM S C (nW S).toNat) := Lib.hid (by unfold vLds; rw [if_pos hz])
    rw [hz] at h1
    have HZ := Lib.hid hz
    have H1 := Lib.hid h1
    obtain ⟨b, o, rfl, hbl, hc⟩ := hC.at hpos
    have HA := Lib.hid (fun (W : World) (h1 : Ints W ao S) (h2 : Ints W (some ⟨b, o, none⟩) C) => l05Leaders_any ao S cap hP ⟨b, o, none⟩ C capc hg hlen W h1 h2)
    clear hz h1 hc0 hlb hP hg hc
    go_enter Tryd.func13, Tryd.ntmps13
    go_wp2_with fail
    refine H1.out.mono ?_
    rintro e w1 ⟨rfl, hb⟩
    have c1 := kept_cell hb c0 l0
    have B1 := B0.trans (hb.mono B0.size)
    clear hb c0 l0 B0
    go_wp2_with fail
    refine (HA.out w1 (hS.below B1) (hC.below B1)).mono ?_
    rintro e w2 ⟨g, c, rfl, own, hb2⟩
    go_wp2_with fail
    go_ret2
    exact ⟨_, by rw [HZ.out]; try rfl, by rw [HV.out]; exact own.rebase B1.size, B1.trans (hb2.mono B1.size)⟩
  · have hzn : (eLin S C != 0) = true := by simpa using hz
    have HV : Hid (vLds S C = []) := Lib.hid (by unfold vLds; rw [if_neg hz])
    clear hz
    go_enter Tryd.func13, Tryd.ntmps13
    go_wp2_with fail
    refine h1.mono ?_
    rintro e w1 ⟨rfl, hb⟩
    go_wp2_with fail
    go_ret2
    exact ⟨_, rfl, by rw [HV.out]; exact own_nil _ _, B0.trans (hb.mono B0.size)⟩

end Go.Proofs.YthinedjblpgalaaDoor
