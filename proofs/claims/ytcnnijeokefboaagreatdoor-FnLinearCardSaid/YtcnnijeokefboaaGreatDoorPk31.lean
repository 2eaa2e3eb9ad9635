/-
  Texts put together: SpnJ, LinI. By an AI agent.
-/
import Derived.Test.YtcnnijeokefboaaGreatDoorPk29
import Derived.Test.YtcnnijeokefboaaGreatDoorPkPlE
import Derived.Test.YtcnnijeokefboaaGreatDoorPk22
namespace Go.Proofs.YtcnnijeokefboaaGreatDoor
open Go.RowKit Cv
set_option linter.unusedVariables false
set_option linter.unusedSimpArgs false
set_option maxRecDepth 100000

theorem own_single (w : World) (base : Nat) (h : base ≤ w.heap.size) (x : Int) : OwnInts (w.alloc (.cells #[.int .i64 x] 2)) base (.slice (some ⟨w.heap.size, 0, none⟩) 1 1) [x] :=
  ⟨by simp, .inr ⟨w.heap.size, 1, #[.int .i64 x], rfl, h, heap_alloc_new w _, by simp, by simp [maxLen], by simp, by simp⟩⟩

set_option maxHeartbeats 2000000 in
theorem spanOf_any (ao : Option Addr) (S : List Int) (cap : Nat) (hP : Pl S) (ag : Option Addr) (G : List Int) (capg : Nat) (hlg : G.length ≤ 1048576) (hG : ∀ i, i < G.length → Wd S (gi G i)) (w : World) (hS : Ints w ao S) (hGI : Ints w ag G) :
    Calls Tryz.prog 50 #[.agg #[.slice ao S.length cap], .slice ag G.length capg] w fun e w' => ∃ g c, e = .returned (.slice (some ⟨g, 0, none⟩) (spTo S G G.length).length c) ∧ OwnInts w' w.heap.size (.slice (some ⟨g, 0, none⟩) (spTo S G G.length).length c) (sorted (spTo S G G.length)) ∧ Below w.heap.size w w' := by
  have HP := Lib.hid hP
  have HG := Lib.hid hG
  have HL := Lib.hid (fun k hk => spTo_len hP hG k hk)
  have HGp := Lib.hid (fun k hk => gp_to hP hG k hk)
  have HWb : Hid (∀ i, i < G.length → 0 ≤ gi G i ∧ gi G i ≤ 9223372036854775807) := Lib.hid fun i hi => by have := hG i hi; unfold Wd at this; have := nW_bd hP.sp; omega
  have B0 : Below w.heap.size w (w.alloc (.cells #[.slice ao S.length cap] 26)) := by go_grown
  have c0 := cell_new w (.slice ao S.length cap) 26
  have l0 := lt_alloc w (.cells #[.slice ao S.length cap] 26)
  have own0 : OwnInts ((w.alloc (.cells #[.slice ao S.length cap] 26)).alloc (.cells #[.int .i64 0] 2)) (w.heap.size + 1) (.slice (some ⟨w.heap.size + 1, 0, none⟩) 1 1) (spTo S G 0) := by
    have h := own_single (w.alloc (.cells #[.slice ao S.length cap] 26)) (w.heap.size + 1) (by rw [World.size_alloc]; omega) 0
    rw [World.size_alloc] at h
    exact h
  have b1 : Below (w.alloc (.cells #[.slice ao S.length cap] 26)).heap.size (w.alloc (.cells #[.slice ao S.length cap] 26)) ((w.alloc (.cells #[.slice ao S.length cap] 26)).alloc (.cells #[.int .i64 0] 2)) := (Below.refl _ _).alloc (Nat.le_refl _) _
  have c1 := kept_cell b1 c0 l0
  have l1 := lt_of_below b1 l0
  have B1 := B0.alloc B0.size (.cells #[.int .i64 0] 2)
  clear hP hG b1 c0 l0 B0
  go_enter Tryz.func50, Tryz.ntmps50
  go_wp2_with fail
  go_loopw [5, 11] (fun v i wr => ∃ k g c : Nat, k ≤ G.length ∧ i = .int .i64 k ∧ v = .slice (some ⟨g, 0, none⟩) (spTo S G k).length c ∧ OwnInts wr (w.heap.size + 1) (.slice (some ⟨g, 0, none⟩) (spTo S G k).length c) (spTo S G k) ∧ wr.cell? ⟨w.heap.size, 0, none⟩ = some (.slice ao S.length cap) ∧ w.heap.size < wr.heap.size ∧ Below w.heap.size w wr) (fun _ i _ => G.length - (intOf i).toNat)
  case atStart => exact ⟨0, w.heap.size + 1, 1, Nat.zero_le _, rfl, rfl, own0, c1, l1, B1⟩
  case round =>
    clear own0 c1 l1 B1
    obtain ⟨k, g, c, hk, rfl, rfl, own, cs, l, B⟩ := hrel
    obtain ⟨n1, n2⟩ := HL.out k hk
    have hI := own_ints own
    have hs := B.size
    by_cases hlt : k < G.length
    · obtain ⟨b, o, rfl, hbl, hc⟩ := hGI.at hlt
      have hck := kept_cell B (hc k hlt) hbl
      obtain ⟨u1, u2⟩ := HWb.out k hlt
      have hcon := contains_any (some ⟨g, 0, none⟩) (spTo S G k) c (gi G k) (by omega) wr hI
      by_cases hm : gi G k ∈ spTo S G k
      · have HS1 : Hid (spTo S G (k + 1) = spTo S G k) := Lib.hid (by rw [spTo, if_pos hm])
        rw [decide_eq_true hm] at hcon
        obtain ⟨P, hPl⟩ : ∃ P, P = (spTo S G k).length := ⟨_, rfl⟩
        rw [← hPl] at own hcon n1 n2 ⊢
        have HPl := Lib.hid hPl
        clear hm hc hPl hI
        go_wp2_with fail
        refine hcon.mono ?_
        rintro e w2 ⟨rfl, rfl⟩
        go_wp2_with fail
        go_roundw
        case rel => exact ⟨k + 1, g, c, by omega, by go_num, by rw [HS1.out, ← HPl.out], by rw [HS1.out, ← HPl.out]; exact own, cs, l, B⟩
        case measure => simp [intOf]; omega
      · have HS1 : Hid (spTo S G (k + 1) = spW S (spTo S G k) (gi G k)) := Lib.hid (by rw [spTo, if_neg hm])
        rw [decide_eq_false hm] at hcon
        have hg := HGp.out k hk
        have hx0 : gi G k ≠ 0 := fun e => hm (by rw [e]; exact hg.zero)
        have hw := spanWith_any ao S cap HP.out ⟨g, 0, none⟩ (spTo S G k) c n1 n2 hg.wd (gi G k) (HG.out k hlt) hx0 wr (hS.below B) hI
        obtain ⟨P, hPl⟩ : ∃ P, P = (spTo S G k).length := ⟨_, rfl⟩
        rw [← hPl] at own hcon hw n1 n2 ⊢
        have HW := Lib.hid hw
        clear hm hc hPl hI hg hx0 hw
        go_wp2_with fail
        refine hcon.mono ?_
        rintro e w2 ⟨rfl, rfl⟩
        go_wp2_with fail
        refine HW.out.mono ?_
        rintro e w3 ⟨v, rfl, own3, hb3⟩
        rw [← HS1.out] at own3
        have c3 := kept_cell hb3 cs l
        have l3 := lt_of_below hb3 l
        have B3 := B.trans (hb3.mono hs)
        obtain ⟨m1, m2⟩ := HL.out (k + 1) (by omega)
        obtain ⟨g', c', hv, _⟩ := own_some own3 (fun e => by rw [e] at m1; simp at m1)
        subst hv
        have hs1 : w.heap.size + 1 ≤ wr.heap.size := l
        clear own cs l B hcon hck
        go_wp2_with fail
        go_roundw
        case rel => exact ⟨k + 1, g', c', by omega, by go_num, rfl, own3.rebase (by omega), c3, l3, B3⟩
        case measure => simp [intOf]; omega
    · have ek : k = G.length := by omega
      subst ek
      have hsrt := sort_any (w.heap.size + 1) g c (spTo S G G.length) wr (by omega) own
      have HSL := Lib.hid (sorted_len (spTo S G G.length))
      obtain ⟨P, hPl⟩ : ∃ P, P = (spTo S G G.length).length := ⟨_, rfl⟩
      rw [← hPl] at own hsrt n1 n2 ⊢
      have HPl := Lib.hid hPl
      clear hPl hI
      have hgb := own.base_le
      go_wp2_with fail
      refine hsrt.mono ?_
      rintro e w2 ⟨rfl, own2, hg2⟩
      go_wp2_with fail
      go_ret
      exact ⟨g, c, by rw [← HPl.out]; rfl, by rw [← HPl.out]; exact own2.rebase (Nat.le_succ _), B.grown hg2 B.size (by intro z hz; simp at hz; omega)⟩

theorem impl_SpanOf (ao : Option Addr) (S : List Int) (cap : Nat) (hn : S.length ≤ 4294967296) (ag : Option Addr) (G : List Int) (capg : Nat) (hng : G.length ≤ 4294967296) (w : World) (hS : Ints w ao S) (hG : Ints w ag G) :
    Calls Tryz.prog 7 #[.agg #[.slice ao S.length cap], .slice ag G.length capg] w fun e w' => ∃ v, e = .returned (.tuple #[v, .int .i64 (eSpan S G)]) ∧ OwnInts w' w.heap.size v (vSpan S G) ∧ Below w.heap.size w w' := by
  have B0 : Below w.heap.size w (w.alloc (.cells #[.slice ao S.length cap] 26)) := by go_grown
  have c0 := cell_new w (.slice ao S.length cap) 26
  have l0 := lt_alloc w (.cells #[.slice ao S.length cap] 26)
  have hpe := plainError_any ao S cap hn ag G capg hng 0 _ (hS.below B0) (hG.below B0)
  rw [eSyn_span] at hpe
  by_cases hz : eSpan S G = 0
  · obtain ⟨h1, h2, h3⟩ := eSpan_zero hz
    obtain ⟨hSp, hw⟩ := eWords_zero h1
    have HP := Lib.hid (pl_of hSp h3)
    have HWd : Hid (∀ i, i < G.length → Wd S (gi G i)) := Lib.hid hw
    have HV : Hid (vSpan S G = sorted (spTo S G G.length)) := Lib.hid (by unfold vSpan; rw [if_pos hz])
    have hzn : (eSpan S G != 0) = false := by simp [hz]
    have HZ := Lib.hid hz
    clear h1 h3 hSp hw hz
    go_enter Tryz.func7, Tryz.ntmps7
    go_wp2_with fail
    refine hpe.mono ?_
    rintro e w1 ⟨rfl, hb⟩
    have c1 := kept_cell hb c0 l0
    have B1 : Below w.heap.size w w1 := B0.trans (hb.mono B0.size)
    have s1 := B1.size
    clear hb B0 c0 l0 hpe
    go_wp2_with fail
    refine (spanOf_any ao S cap HP.out ag G capg (by omega) HWd.out _ (hS.below B1) (hG.below B1)).mono ?_
    rintro e w2 ⟨g, c, rfl, own, hb⟩
    go_wp2_with fail
    go_ret2
    exact ⟨_, by rw [HZ.out]; rfl, by rw [HV.out]; exact own.rebase s1, B1.trans (hb.mono s1)⟩
  · have hzn : (eSpan S G != 0) = true := by simpa using hz
    have HV : Hid (vSpan S G = []) := Lib.hid (by unfold vSpan; rw [if_neg hz])
    clear hz
    go_enter Tryz.func7, Tryz.ntmps7
    go_wp2_with fail
    refine hpe.mono ?_
    rintro e w1 ⟨rfl, hb⟩
    go_wp2_with fail
    go_ret2
    exact ⟨_, rfl, by rw [HV.out]; exact own_nil _ _, B0.trans (hb.mono B0.size)⟩

end Go.Proofs.YtcnnijeokefboaaGreatDoor

namespace Go.Proofs.YtcnnijeokefboaaGreatDoor
open Go.RowKit Cv
set_option linter.unusedVariables false
set_option linter.unusedSimpArgs false
set_option maxRecDepth 100000

set_option maxHeartbeats 1000000 in
theorem isLinear_any (ao : Option Addr) (S : List Int) (cap : Nat) (hn : S.length ≤ 4294967296) (ac : Option Addr) (C : List Int) (capc : Nat) (hE : eCode S C = 0) (w : World) (hS : Ints w ao S) (hC : Ints w ac C) :
    Calls Tryz.prog 58 #[.agg #[.slice ao S.length cap], .slice ac C.length capc] w fun e w' => e = .returned (.bool (linB S C)) ∧ Below w.heap.size w w' := by
  have B0 : Below w.heap.size w (w.alloc (.cells #[.slice ao S.length cap] 26)) := by go_grown
  have c0 := cell_new w (.slice ao S.length cap) 26
  have l0 := lt_alloc w (.cells #[.slice ao S.length cap] 26)
  have hSp := (eCode_zero hE).1
  have hlo := hSp.lo
  have hlen := code_len0 hE
  cases hp : isPl S with
  | true =>
    have HP := Lib.hid (pl_of hSp hp)
    have HW := Lib.hid (code_wd hE)
    have HL : Hid (linB S C = decide ((spTo S C C.length).length = C.length)) := Lib.hid (by unfold linB; rw [hp, Bool.true_and])
    clear hSp hE
    go_enter Tryz.func58, Tryz.ntmps58
    go_wp2_with fail
    refine (isPlain_any ao S cap hlo hn _ (hS.below B0)).mono ?_
    rw [hp]
    rintro e w1 ⟨rfl, hb⟩
    have c1 := kept_cell hb c0 l0
    have B1 := B0.trans (hb.mono B0.size)
    clear hb c0 l0 B0
    go_wp2_with fail
    refine (spanOf_any ao S cap HP.out ac C capc (by omega) HW.out _ (hS.below B1) (hC.below B1)).mono ?_
    rintro e w2 ⟨g, c, rfl, own, hb⟩
    have HB2 := B1.trans (hb.mono B1.size)
    by_cases hq : (spTo S C C.length).length = C.length
    · rw [decide_eq_true hq] at HL
      rw [hq] at own ⊢
      clear hq
      go_wp2_with fail
      go_ret
      exact ⟨ret_bool HL.out.symm, HB2⟩
    · rw [decide_eq_false hq] at HL
      obtain ⟨P, hP⟩ : ∃ P, P = (spTo S C C.length).length := ⟨_, rfl⟩
      rw [← hP] at hq ⊢
      have hq2 : ((P : Int) == (C.length : Int)) = false := by simpa using fun h : (P : Int) = (C.length : Int) => hq (by omega)
      clear hP
      go_wp2_with fail
      go_ret
      exact ⟨ret_bool HL.out.symm, HB2⟩
  | false =>
    have HL : Hid (linB S C = false) := Lib.hid (by unfold linB; rw [hp, Bool.false_and])
    clear hSp hE
    go_enter Tryz.func58, Tryz.ntmps58
    go_wp2_with fail
    refine (isPlain_any ao S cap hlo hn _ (hS.below B0)).mono ?_
    rw [hp]
    rintro e w1 ⟨rfl, hb⟩
    go_wp2_with fail
    go_ret
    exact ⟨ret_bool HL.out.symm, B0.trans (hb.mono B0.size)⟩

theorem impl_IsLinear (ao : Option Addr) (S : List Int) (cap : Nat) (hn : S.length ≤ 4294967296) (ac : Option Addr) (C : List Int) (capc : Nat) (hnc : C.length ≤ 4294967296) (w : World) (hS : Ints w ao S) (hC : Ints w ac C) :
    Calls Tryz.prog 12 #[.agg #[.slice ao S.length cap], .slice ac C.length capc] w fun e w' => e = .returned (.tuple #[.bool (vLin S C), .int .i64 (eCode S C)]) ∧ Below w.heap.size w w' := by
  have B0 : Below w.heap.size w (w.alloc (.cells #[.slice ao S.length cap] 26)) := by go_grown
  have c0 := cell_new w (.slice ao S.length cap) 26
  have l0 := lt_alloc w (.cells #[.slice ao S.length cap] 26)
  by_cases hz : eCode S C = 0
  · have HV : Hid (vLin S C = linB S C) := Lib.hid (by unfold vLin; rw [if_pos hz])
    have hzn : (eCode S C != 0) = false := by simp [hz]
    have HZ := Lib.hid hz
    clear hz
    go_enter Tryz.func12, Tryz.ntmps12
    go_wp2_with fail
    refine (codeError_any ao S cap hn ac C capc hnc _ (hS.below B0) (hC.below B0)).mono ?_
    rintro e w1 ⟨rfl, hb⟩
    have c1 := kept_cell hb c0 l0
    have B1 : Below w.heap.size w w1 := B0.trans (hb.mono B0.size)
    have s1 := B1.size
    clear hb B0 c0 l0
    go_wp2_with fail
    refine (isLinear_any ao S cap hn ac C capc HZ.out _ (hS.below B1) (hC.below B1)).mono ?_
    rintro e w2 ⟨rfl, hb⟩
    go_wp2_with fail
    go_ret2
    exact ⟨by rw [HZ.out, HV.out]; rfl, B1.trans (hb.mono s1)⟩
  · have hzn : (eCode S C != 0) = true := by simpa using hz
    have HV : Hid (vLin S C = false) := Lib.hid (by unfold vLin; rw [if_neg hz])
    clear hz
    go_enter Tryz.func12, Tryz.ntmps12
    go_wp2_with fail
    refine (codeError_any ao S cap hn ac C capc hnc _ (hS.below B0) (hC.below B0)).mono ?_
    rintro e w1 ⟨rfl, hb⟩
    go_wp2_with fail
    go_ret2
    exact ⟨by rw [HV.out]; rfl, B0.trans (hb.mono B0.size)⟩

end Go.Proofs.YtcnnijeokefboaaGreatDoor
