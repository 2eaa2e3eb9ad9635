/-
  The contract of the program's LeadersOf. By an AI agent.
-/
import Derived.Test.YthinedjblpgalaaDoorLdsI
import Derived.Test.YthinedjblpgalaaDoorAsk
namespace Go.Proofs.YthinedjblpgalaaDoor
open Go.RowKit Go.Shelf Cv
set_option linter.unusedVariables false
set_option linter.unusedSimpArgs false
set_option maxRecDepth 100000

theorem impl_LeadersOf (ao : Option Addr) (S : List Int) (cap : Nat) (hn : S.length ≤ 4294967296) (ac : Option Addr) (C : List Int) (capc : Nat) (hnc : C.length ≤ 4294967296) (pv : Value) (w : World) (hG : Glob pv w) (hS : Ints w ao S) (hC : Ints w ac C) :
    Calls Tryd.prog 14 #[.agg #[.slice ao S.length cap], .slice ac C.length capc] w fun e w' => ∃ v, e = .returned (.tuple #[v, .int .i64 (eLin S C)]) ∧ OwnInts w' w.heap.size v (vLds S C) ∧ Below w.heap.size w w' := by
  have B0 : Below w.heap.size w (w.alloc (.cells #[.slice ao S.length cap] 28)) := by go_grown
  have c0 := cell_new w (.slice ao S.length cap) 28
  have hpos := hG.2
  have hG0 := hG.below B0 hpos
  by_cases hc0 : eCode S C = 0
  · cases hlb : linB S C with
    | true =>
      obtain ⟨hP, hg⟩ := lin_gp hc0 hlb
      have hlen := code_len0 hc0
      have HE : Hid (eLin S C = 0) := Lib.hid (by unfold eLin; rw [if_pos hc0, if_pos hlb])
      have HV : Hid (vLds S C = ldsM S C (nW S).toNat) := Lib.hid (by unfold vLds; rw [if_pos HE.out])
      have HA := Lib.hid (askLinearL_yes ao S cap hn ac C capc hnc hc0 hlb 31 (enters_of Tryd.func31 (by kernel_rfl) rfl) #[] #[] (ldsM S C (nW S).toNat) _ (hS.below B0) (hC.below B0) (fun W hb => (leaders_any ao S cap hP ac C capc hg hlen W ((hS.below B0).below hb) ((hC.below B0).below hb)).mono (fun e w' ⟨g, c, h1, h2, h3⟩ => ⟨_, h1, h2, h3⟩)))
      clear hc0 hlb hP hg hlen hG0
      go_enter Tryd.func14, Tryd.ntmps14
      go_wp2_with fail
      refine HA.out.mono ?_
      rintro e w2 ⟨v, rfl, own, hb2⟩
      go_wp2_with fail
      go_ret2
      exact ⟨_, by rw [HE.out]; try rfl, by rw [HV.out]; exact own.rebase B0.size, B0.trans (hb2.mono B0.size)⟩
    | false =>
      have HE : Hid (eLin S C = 5) := Lib.hid (by unfold eLin; rw [if_pos hc0, if_neg (by rw [hlb]; decide)])
      have HV : Hid (vLds S C = []) := Lib.hid (by unfold vLds; rw [if_neg (by rw [HE.out]; decide)])
      have HA := Lib.hid (askLinearL_no ao S cap hn ac C capc hnc hc0 hlb 31 #[] #[] pv _ (hS.below B0) (hC.below B0) hG0)
      clear hc0 hlb hG0
      go_enter Tryd.func14, Tryd.ntmps14
      go_wp2_with fail
      refine HA.out.mono ?_
      rintro e w2 ⟨rfl, hb2⟩
      go_wp2_with fail
      go_ret2
      exact ⟨_, by rw [HE.out]; try rfl, by rw [HV.out]; exact own_nil _ _, B0.trans (hb2.mono B0.size)⟩
  · have HE : Hid (eLin S C = eCode S C) := Lib.hid (by unfold eLin; rw [if_neg hc0])
    have HV : Hid (vLds S C = []) := Lib.hid (by unfold vLds; rw [if_neg (by rw [HE.out]; exact hc0)])
    have HA := Lib.hid (askLinearL_err ao S cap hn ac C capc hnc hc0 31 #[] #[] _ (hS.below B0) (hC.below B0))
    clear hc0 hG0
    go_enter Tryd.func14, Tryd.ntmps14
    go_wp2_with fail
    refine HA.out.mono ?_
    rintro e w2 ⟨rfl, hb2⟩
    go_wp2_with fail
    go_ret2
    exact ⟨_, by rw [HE.out]; try rfl, by rw [HV.out]; exact own_nil _ _, B0.trans (hb2.mono B0.size)⟩

end Go.Proofs.YthinedjblpgalaaDoor
