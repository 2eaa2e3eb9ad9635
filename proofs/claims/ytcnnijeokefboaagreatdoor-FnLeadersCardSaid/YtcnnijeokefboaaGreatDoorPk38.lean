/-
  Texts put together: SpnJ, LinI, Door. By an AI agent.
-/
import Derived.Test.YtcnnijeokefboaaGreatDoorPk36
import Derived.Test.YtcnnijeokefboaaGreatDoorPkPlE
import Derived.Test.YtcnnijeokefboaaGreatDoorCode
import Derived.Defers
import Derived.Recover
import Derived.Shelf.Abstract
import Derived.Deep.WholeRow
namespace Go.Proofs.YtcnnijeokefboaaGreatDoor
open Go.RowKit Cv
set_option linter.unusedVariables false
set_option linter.unusedSimpArgs false
set_option maxRecDepth 100000

theorem own_single (w : World) (base : Nat) (h : base ≤ w.heap.size) (x : Int) : OwnInts (w.alloc (.cells #[.int .i64 x] 2)) base (.slice (some ⟨w.heap.size, 0, none⟩) 1 1) [x] :=
  ⟨by simp, .inr ⟨w.heap.size, 1, #[.int .i64 x], rfl, h, heap_alloc_new w _, by simp, by simp [maxLen], by simp, by simp⟩⟩

set_option maxHeartbeats 2000000 in
theorem spanOf_any (ao : Option Addr) (S : List Int) (cap : Nat) (hP : Pl S) (ag : Option Addr) (G : List Int) (capg : Nat) (hlg : G.length ≤ 1048576) (hG : ∀ i, i < G.length → Wd S (gi G i)) (w : World) (hS : Ints w ao S) (hGI : Ints w ag G) :
    Calls Tryz.prog 50 #[.agg #[.slice ao S.length cap], .slice ag G.length capg] w fun e w' => ∃ g c, e = .returned (.slice (some ⟨g, 0, none⟩) (spTo S G G.length).length c) ∧ OwnInts w' w.heap.size (.slice (some ⟨g, 0, none⟩) (spTo S G G.length).length c) (sorted (spTo S G G.length)) ∧ Below w.heap.size w w' := by
  have HP := Lib.hid hP
  have HG := Lib.hid hG
  have HL := Lib.hid (fun k hk => spTo_len hP hG k hk)
  have HGp := Lib.hid (fun k hk => gp_to hP hG k hk)
  have HWb : Hid (∀ i, i < G.length → 0 ≤ gi G i ∧ gi G i ≤ 9223372036854775807) := Lib.hid fun i hi => by have := hG i hi; unfold Wd at this; have := nW_bd hP.sp; omega
  have B0 : Below w.heap.size w (w.alloc (.cells #[.slice ao S.length cap] 26)) := by go_grown
  have c0 := cell_new w (.slice ao S.length cap) 26
  have l0 := lt_alloc w (.cells #[.slice ao S.length cap] 26)
  have own0 : OwnInts ((w.alloc (.cells #[.slice ao S.length cap] 26)).alloc (.cells #[.int .i64 0] 2)) (w.heap.size + 1) (.slice (some ⟨w.heap.size + 1, 0, none⟩) 1 1) (spTo S G 0) := by
    have h := own_single (w.alloc (.cells #[.slice ao S.length cap] 26)) (w.heap.size + 1) (by rw [World.size_alloc]; omega) 0
    rw [World.size_alloc] at h
    exact h
  have b1 : Below (w.alloc (.cells #[.slice ao S.length cap] 26)).heap.size (w.alloc (.cells #[.slice ao S.length cap] 26)) ((w.alloc (.cells #[.slice ao S.length cap] 26)).alloc (.cells #[.int .i64 0] 2)) := (Below.refl _ _).alloc (Nat.le_refl _) _
  have c1 := kept_cell b1 c0 l0
  have l1 := lt_of_below b1 l0
  have B1 := B0.alloc B0.size (.cells #[.int .i64 0] 2)
  clear hP hG b1 c0 l0 B0
  go_enter Tryz.func50, Tryz.ntmps50
  go_wp2_with fail
  go_loopw [5, 11] (fun v i wr => ∃ k g c : Nat, k ≤ G.length ∧ i = .int .i64 k ∧ v = .slice (some ⟨g, 0, none⟩) (spTo S G k).length c ∧ OwnInts wr (w.heap.size + 1) (.slice (some ⟨g, 0, none⟩) (spTo S G k).length c) (spTo S G k) ∧ wr.cell? ⟨w.heap.size, 0, none⟩ = some (.slice ao S.length cap) ∧ w.heap.size < wr.heap.size ∧ Below w.heap.size w wr) (fun _ i _ => G.length - (intOf i).toNat)
  case atStart => exact ⟨0, w.heap.size + 1, 1, Nat.zero_le _, rfl, rfl, own0, c1, l1, B1⟩
  case round =>
    clear own0 c1 l1 B1
    obtain ⟨k, g, c, hk, rfl, rfl, own, cs, l, B⟩ := hrel
    obtain ⟨n1, n2⟩ := HL.out k hk
    have hI := own_ints own
    have hs := B.size
    by_cases hlt : k < G.length
    · obtain ⟨b, o, rfl, hbl, hc⟩ := hGI.at hlt
      have hck := kept_cell B (hc k hlt) hbl
      obtain ⟨u1, u2⟩ := HWb.out k hlt
      have hcon := contains_any (some ⟨g, 0, none⟩) (spTo S G k) c (gi G k) (by omega) wr hI
      by_cases hm : gi G k ∈ spTo S G k
      · have HS1 : Hid (spTo S G (k + 1) = spTo S G k) := Lib.hid (by rw [spTo, if_pos hm])
        rw [decide_eq_true hm] at hcon
        obtain ⟨P, hPl⟩ : ∃ P, P = (spTo S G k).length := ⟨_, rfl⟩
        rw [← hPl] at own hcon n1 n2 ⊢
        have HPl := Lib.hid hPl
        clear hm hc hPl hI
        go_wp2_with fail
        refine hcon.mono ?_
        rintro e w2 ⟨rfl, rfl⟩
        go_wp2_with fail
        go_roundw
        case rel => exact ⟨k + 1, g, c, by omega, by go_num, by rw [HS1.out, ← HPl.out], by rw [HS1.out, ← HPl.out]; exact own, cs, l, B⟩
        case measure => simp [intOf]; omega
      · have HS1 : Hid (spTo S G (k + 1) = spW S (spTo S G k) (gi G k)) := Lib.hid (by rw [spTo, if_neg hm])
        rw [decide_eq_false hm] at hcon
        have hg := HGp.out k hk
        have hx0 : gi G k ≠ 0 := fun e => hm (by rw [e]; exact hg.zero)
        have hw := spanWith_any ao S cap HP.out ⟨g, 0, none⟩ (spTo S G k) c n1 n2 hg.wd (gi G k) (HG.out k hlt) hx0 wr (hS.below B) hI
        obtain ⟨P, hPl⟩ : ∃ P, P = (spTo S G k).length := ⟨_, rfl⟩
        rw [← hPl] at own hcon hw n1 n2 ⊢
        have HW := Lib.hid hw
        clear hm hc hPl hI hg hx0 hw
        go_wp2_with fail
        refine hcon.mono ?_
        rintro e w2 ⟨rfl, rfl⟩
        go_wp2_with fail
        refine HW.out.mono ?_
        rintro e w3 ⟨v, rfl, own3, hb3⟩
        rw [← HS1.out] at own3
        have c3 := kept_cell hb3 cs l
        have l3 := lt_of_below hb3 l
        have B3 := B.trans (hb3.mono hs)
        obtain ⟨m1, m2⟩ := HL.out (k + 1) (by omega)
        obtain ⟨g', c', hv, _⟩ := own_some own3 (fun e => by rw [e] at m1; simp at m1)
        subst hv
        have hs1 : w.heap.size + 1 ≤ wr.heap.size := l
        clear own cs l B hcon hck
        go_wp2_with fail
        go_roundw
        case rel => exact ⟨k + 1, g', c', by omega, by go_num, rfl, own3.rebase (by omega), c3, l3, B3⟩
        case measure => simp [intOf]; omega
    · have ek : k = G.length := by omega
      subst ek
      have hsrt := sort_any (w.heap.size + 1) g c (spTo S G G.length) wr (by omega) own
      have HSL := Lib.hid (sorted_len (spTo S G G.length))
      obtain ⟨P, hPl⟩ : ∃ P, P = (spTo S G G.length).length := ⟨_, rfl⟩
      rw [← hPl] at own hsrt n1 n2 ⊢
      have HPl := Lib.hid hPl
      clear hPl hI
      have hgb := own.base_le
      go_wp2_with fail
      refine hsrt.mono ?_
      rintro e w2 ⟨rfl, own2, hg2⟩
      go_wp2_with fail
      go_ret
      exact ⟨g, c, by rw [← HPl.out]; rfl, by rw [← HPl.out]; exact own2.rebase (Nat.le_succ _), B.grown hg2 B.size (by intro z hz; simp at hz; omega)⟩

theorem impl_SpanOf (ao : Option Addr) (S : List Int) (cap : Nat) (hn : S.length ≤ 4294967296) (ag : Option Addr) (G : List Int) (capg : Nat) (hng : G.length ≤ 4294967296) (w : World) (hS : Ints w ao S) (hG : Ints w ag G) :
    Calls Tryz.prog 7 #[.agg #[.slice ao S.length cap], .slice ag G.length capg] w fun e w' => ∃ v, e = .returned (.tuple #[v, .int .i64 (eSpan S G)]) ∧ OwnInts w' w.heap.size v (vSpan S G) ∧ Below w.heap.size w w' := by
  have B0 : Below w.heap.size w (w.alloc (.cells #[.slice ao S.length cap] 26)) := by go_grown
  have c0 := cell_new w (.slice ao S.length cap) 26
  have l0 := lt_alloc w (.cells #[.slice ao S.length cap] 26)
  have hpe := plainError_any ao S cap hn ag G capg hng 0 _ (hS.below B0) (hG.below B0)
  rw [eSyn_span] at hpe
  by_cases hz : eSpan S G = 0
  · obtain ⟨h1, h2, h3⟩ := eSpan_zero hz
    obtain ⟨hSp, hw⟩ := eWords_zero h1
    have HP := Lib.hid (pl_of hSp h3)
    have HWd : Hid (∀ i, i < G.length → Wd S (gi G i)) := Lib.hid hw
    have HV : Hid (vSpan S G = sorted (spTo S G G.length)) := Lib.hid (by unfold vSpan; rw [if_pos hz])
    have hzn : (eSpan S G != 0) = false := by simp [hz]
    have HZ := Lib.hid hz
    clear h1 h3 hSp hw hz
    go_enter Tryz.func7, Tryz.ntmps7
    go_wp2_with fail
    refine hpe.mono ?_
    rintro e w1 ⟨rfl, hb⟩
    have c1 := kept_cell hb c0 l0
    have B1 : Below w.heap.size w w1 := B0.trans (hb.mono B0.size)
    have s1 := B1.size
    clear hb B0 c0 l0 hpe
    go_wp2_with fail
    refine (spanOf_any ao S cap HP.out ag G capg (by omega) HWd.out _ (hS.below B1) (hG.below B1)).mono ?_
    rintro e w2 ⟨g, c, rfl, own, hb⟩
    go_wp2_with fail
    go_ret2
    exact ⟨_, by rw [HZ.out]; rfl, by rw [HV.out]; exact own.rebase s1, B1.trans (hb.mono s1)⟩
  · have hzn : (eSpan S G != 0) = true := by simpa using hz
    have HV : Hid (vSpan S G = []) := Lib.hid (by unfold vSpan; rw [if_neg hz])
    clear hz
    go_enter Tryz.func7, Tryz.ntmps7
    go_wp2_with fail
    refine hpe.mono ?_
    rintro e w1 ⟨rfl, hb⟩
    go_wp2_with fail
    go_ret2
    exact ⟨_, rfl, by rw [HV.out]; exact own_nil _ _, B0.trans (hb.mono B0.size)⟩

end Go.Proofs.YtcnnijeokefboaaGreatDoor

namespace Go.Proofs.YtcnnijeokefboaaGreatDoor
open Go.RowKit Cv
set_option linter.unusedVariables false
set_option linter.unusedSimpArgs false
set_option maxRecDepth 100000

set_option maxHeartbeats 1000000 in
theorem isLinear_any (ao : Option Addr) (S : List Int) (cap : Nat) (hn : S.length ≤ 4294967296) (ac : Option Addr) (C : List Int) (capc : Nat) (hE : eCode S C = 0) (w : World) (hS : Ints w ao S) (hC : Ints w ac C) :
    Calls Tryz.prog 58 #[.agg #[.slice ao S.length cap], .slice ac C.length capc] w fun e w' => e = .returned (.bool (linB S C)) ∧ Below w.heap.size w w' := by
  have B0 : Below w.heap.size w (w.alloc (.cells #[.slice ao S.length cap] 26)) := by go_grown
  have c0 := cell_new w (.slice ao S.length cap) 26
  have l0 := lt_alloc w (.cells #[.slice ao S.length cap] 26)
  have hSp := (eCode_zero hE).1
  have hlo := hSp.lo
  have hlen := code_len0 hE
  cases hp : isPl S with
  | true =>
    have HP := Lib.hid (pl_of hSp hp)
    have HW := Lib.hid (code_wd hE)
    have HL : Hid (linB S C = decide ((spTo S C C.length).length = C.length)) := Lib.hid (by unfold linB; rw [hp, Bool.true_and])
    clear hSp hE
    go_enter Tryz.func58, Tryz.ntmps58
    go_wp2_with fail
    refine (isPlain_any ao S cap hlo hn _ (hS.below B0)).mono ?_
    rw [hp]
    rintro e w1 ⟨rfl, hb⟩
    have c1 := kept_cell hb c0 l0
    have B1 := B0.trans (hb.mono B0.size)
    clear hb c0 l0 B0
    go_wp2_with fail
    refine (spanOf_any ao S cap HP.out ac C capc (by omega) HW.out _ (hS.below B1) (hC.below B1)).mono ?_
    rintro e w2 ⟨g, c, rfl, own, hb⟩
    have HB2 := B1.trans (hb.mono B1.size)
    by_cases hq : (spTo S C C.length).length = C.length
    · rw [decide_eq_true hq] at HL
      rw [hq] at own ⊢
      clear hq
      go_wp2_with fail
      go_ret
      exact ⟨ret_bool HL.out.symm, HB2⟩
    · rw [decide_eq_false hq] at HL
      obtain ⟨P, hP⟩ : ∃ P, P = (spTo S C C.length).length := ⟨_, rfl⟩
      rw [← hP] at hq ⊢
      have hq2 : ((P : Int) == (C.length : Int)) = false := by simpa using fun h : (P : Int) = (C.length : Int) => hq (by omega)
      clear hP
      go_wp2_with fail
      go_ret
      exact ⟨ret_bool HL.out.symm, HB2⟩
  | false =>
    have HL : Hid (linB S C = false) := Lib.hid (by unfold linB; rw [hp, Bool.false_and])
    clear hSp hE
    go_enter Tryz.func58, Tryz.ntmps58
    go_wp2_with fail
    refine (isPlain_any ao S cap hlo hn _ (hS.below B0)).mono ?_
    rw [hp]
    rintro e w1 ⟨rfl, hb⟩
    go_wp2_with fail
    go_ret
    exact ⟨ret_bool HL.out.symm, B0.trans (hb.mono B0.size)⟩

theorem impl_IsLinear (ao : Option Addr) (S : List Int) (cap : Nat) (hn : S.length ≤ 4294967296) (ac : Option Addr) (C : List Int) (capc : Nat) (hnc : C.length ≤ 4294967296) (w : World) (hS : Ints w ao S) (hC : Ints w ac C) :
    Calls Tryz.prog 12 #[.agg #[.slice ao S.length cap], .slice ac C.length capc] w fun e w' => e = .returned (.tuple #[.bool (vLin S C), .int .i64 (eCode S C)]) ∧ Below w.heap.size w w' := by
  have B0 : Below w.heap.size w (w.alloc (.cells #[.slice ao S.length cap] 26)) := by go_grown
  have c0 := cell_new w (.slice ao S.length cap) 26
  have l0 := lt_alloc w (.cells #[.slice ao S.length cap] 26)
  by_cases hz : eCode S C = 0
  · have HV : Hid (vLin S C = linB S C) := Lib.hid (by unfold vLin; rw [if_pos hz])
    have hzn : (eCode S C != 0) = false := by simp [hz]
    have HZ := Lib.hid hz
    clear hz
    go_enter Tryz.func12, Tryz.ntmps12
    go_wp2_with fail
    refine (codeError_any ao S cap hn ac C capc hnc _ (hS.below B0) (hC.below B0)).mono ?_
    rintro e w1 ⟨rfl, hb⟩
    have c1 := kept_cell hb c0 l0
    have B1 : Below w.heap.size w w1 := B0.trans (hb.mono B0.size)
    have s1 := B1.size
    clear hb B0 c0 l0
    go_wp2_with fail
    refine (isLinear_any ao S cap hn ac C capc HZ.out _ (hS.below B1) (hC.below B1)).mono ?_
    rintro e w2 ⟨rfl, hb⟩
    go_wp2_with fail
    go_ret2
    exact ⟨by rw [HZ.out, HV.out]; rfl, B1.trans (hb.mono s1)⟩
  · have hzn : (eCode S C != 0) = true := by simpa using hz
    have HV : Hid (vLin S C = false) := Lib.hid (by unfold vLin; rw [if_neg hz])
    clear hz
    go_enter Tryz.func12, Tryz.ntmps12
    go_wp2_with fail
    refine (codeError_any ao S cap hn ac C capc hnc _ (hS.below B0) (hC.below B0)).mono ?_
    rintro e w1 ⟨rfl, hb⟩
    go_wp2_with fail
    go_ret2
    exact ⟨by rw [HV.out]; rfl, B0.trans (hb.mono B0.size)⟩

end Go.Proofs.YtcnnijeokefboaaGreatDoor

namespace Go.Proofs.YtcnnijeokefboaaGreatDoor
open Go.RowKit Go.Shelf Cv
set_option linter.unusedVariables false
set_option linter.unusedSimpArgs false
set_option maxRecDepth 100000

/-- the variable that holds the error of a code that is not linear -/
def Glob (pv : Value) (w : World) : Prop := w.cell? ⟨0, 0, none⟩ = some (.iface 153 pv) ∧ 0 < w.heap.size
theorem Glob.below {pv : Value} {w w' : World} {n : Nat} (h : Glob pv w) (hb : Below n w w') (hn : 0 < n) : Glob pv w' := ⟨kept_cell hb h.1 hn, Nat.lt_of_lt_of_le h.2 hb.size⟩

theorem assert_yes (pv : Value) (w : World) : (Instr.typeAssert (.iface 153 pv) 20 97 true).run Tryz.prog w = .ok (.tuple #[.iface 153 pv, .bool true]) w := by kernel_rfl
theorem assert_nil (w : World) : (Instr.typeAssert .nilIface 20 97 true).run Tryz.prog w = .ok (.tuple #[.nilIface, .bool false]) w := by kernel_rfl

theorem catch_panicking (p : Addr) (pv : Value) (older : List PanicEntry) (w : World) (hc : w.cell? p = some (.int .i64 0)) (hz : w.frozen? p = false) :
    CallsD Tryz.prog 118 #[.pointer (some p)] (.panicking ({ v := .iface 153 pv, recovered := false } :: older)) w fun e u' w' =>
      e = .returned (.tuple #[]) ∧ u' = .panicking ({ v := .iface 153 pv, recovered := true } :: older) ∧ w' = w.setCell p (.int .i64 5) := by
  refine callsD_of_wpS Tryz.func118 rfl fun c₀ cs hu => ?_
  apply wpS_seq
  apply wpS_region
  simp [wpOpsS, go_sem, recoverD, hu, Tryz.ntmps118, Exit.thenS, assert_yes]
  apply wpS_seq
  apply wpS_region
  simp [wpOpsS, go_sem, Exit.thenS]
  refine wpS_cond (t := true) (by simp [Act.eval]) ?_
  simp only [if_true]
  apply wpS_region
  simp [wpOpsS, go_sem, hc, hz, bodyPostS, results, Tryz.results118]

theorem catch_idle (p : Addr) (w : World) :
    CallsD Tryz.prog 118 #[.pointer (some p)] .returning w fun e u' w' => e = .returned (.tuple #[]) ∧ u' = .returning ∧ w' = w := by
  refine callsD_of_wpS Tryz.func118 rfl fun c₀ cs hu => ?_
  apply wpS_seq
  apply wpS_region
  simp [wpOpsS, go_sem, recoverD, hu, Tryz.ntmps118, Exit.thenS, assert_nil]
  apply wpS_seq
  apply wpS_region
  simp [wpOpsS, go_sem, Exit.thenS]
  refine wpS_cond (t := false) (by simp [Act.eval]) ?_
  simp only [Bool.false_eq_true, if_false]
  refine wpS_of_wp (wp_skip ?_)
  cases c₀
  simp_all [bodyPostS, results, Tryz.results118]

theorem results_cell1d {fn : Func} {p : Tmp} {ty : TypeId} (h : fn.results = #[.cell p ty]) (tmps : Array Value) (P : Program) (w : World) :
    (results fn tmps).run P w = ((asAddr (tmps.getD p undef)).run P w).andThen fun a w₁ => (loadVar ty a).run P w₁ := by
  simp only [results, h]
  simp [Sem.run_bind, Result.andThen]

theorem box2m (w : World) (a b c : Value) (t u : TypeId) : ∃ W, W = (w.alloc (.cells #[a] t)).alloc (.cells #[b, c] u) ∧ W.cell? ⟨w.heap.size, 0, none⟩ = some a ∧ W.heap[w.heap.size + 1]? = some (.cells #[b, c] u (0, 0)) ∧ W.heap.size = w.heap.size + 2 ∧ Below w.heap.size w W := by
  have s1 : (w.alloc (.cells #[a] t)).heap.size = w.heap.size + 1 := World.size_alloc _ _
  have s2 : ((w.alloc (.cells #[a] t)).alloc (.cells #[b, c] u)).heap.size = w.heap.size + 2 := by rw [World.size_alloc, s1]
  have b1 : Below (w.alloc (.cells #[a] t)).heap.size (w.alloc (.cells #[a] t)) ((w.alloc (.cells #[a] t)).alloc (.cells #[b, c] u)) := (Below.refl _ _).alloc (Nat.le_refl _) _
  have b0 : Below w.heap.size w ((w.alloc (.cells #[a] t)).alloc (.cells #[b, c] u)) := ((Below.refl _ _).alloc (Nat.le_refl _) _).trans (b1.mono (by omega))
  have x1 := kept_cell b1 (cell_new w a t) (lt_alloc _ _)
  have x3 := heap_alloc_last (w.alloc (.cells #[a] t)) (.cells #[b, c] u)
  rw [s1] at x3
  exact ⟨_, rfl, x1, x3, s2, b0⟩

theorem linearCodeOf_yes (ao : Option Addr) (S : List Int) (cap : Nat) (hn : S.length ≤ 4294967296) (ac : Option Addr) (C : List Int) (capc : Nat) (hE : eCode S C = 0) (hl : linB S C = true) (w : World) (hS : Ints w ao S) (hC : Ints w ac C) :
    Calls Tryz.prog 111 #[.agg #[.slice ao S.length cap], .slice ac C.length capc] w fun e w' => e = .returned (.agg #[.slice ao S.length cap, .slice ac C.length capc]) ∧ Below w.heap.size w w' := by
  obtain ⟨W0, hW0, cS, rR, z0, B0⟩ := box2m w (.slice ao S.length cap) (.slice none 0 0) (.slice none 0 0) 26 64
  have HW0 := Lib.hid hW0
  have z0a : w.heap.size + 2 ≤ W0.heap.size := by omega
  have h1 := isLinear_any ao S cap hn ac C capc hE W0 (hS.below B0) (hC.below B0)
  rw [hl] at h1
  have H1 := Lib.hid h1
  clear hW0 z0 h1
  go_enter Tryz.func111, Tryz.ntmps111
  go_wp2_with fail
  rw [← HW0.out]
  refine H1.out.mono ?_
  rintro e w1 ⟨rfl, hb1⟩
  have s1 : w.heap.size + 2 ≤ w1.heap.size := by have := hb1.size; omega
  have cS1 := kept_cell hb1 cS (by omega)
  have rR1 : w1.heap[w.heap.size + 1]? = some (.cells #[.slice none 0 0, .slice none 0 0] 64 (0, 0)) := by rw [hb1.block (w.heap.size + 1) (by omega)]; exact rR
  have B1 := B0.trans (hb1.mono (by omega))
  have d0 : w1.cell? ⟨w.heap.size + 1, 0, none⟩ = some (.slice none 0 0) := by rw [cell_of_row w1 (w.heap.size + 1) 0 _ _ _ rR1]; rfl
  have d1 : w1.cell? ⟨w.heap.size + 1, 1, none⟩ = some (.slice none 0 0) := by rw [cell_of_row w1 (w.heap.size + 1) 1 _ _ _ rR1]; rfl
  have f0 : w1.frozen? ⟨w.heap.size + 1, 0, none⟩ = false := by have h' := rR1; simp [World.frozen?, h']
  have f1 : w1.frozen? ⟨w.heap.size + 1, 1, none⟩ = false := by have h' := rR1; simp [World.frozen?, h']
  clear hb1 cS rR H1
  have q1 : ((w1.setCell ⟨w.heap.size + 1, 0, none⟩ (.slice ao S.length cap)).setCell ⟨w.heap.size + 1, 1, none⟩ (.slice ac C.length capc)).cell? ⟨w.heap.size + 1, 1, none⟩ = some (.slice ac C.length capc) := World.cell?_setCell_same' _ _ _ (by rw [World.cell?_setCell_other _ _ _ _ (by simp)]; rw [d1]; rfl)
  have q0 : ((w1.setCell ⟨w.heap.size + 1, 0, none⟩ (.slice ao S.length cap)).setCell ⟨w.heap.size + 1, 1, none⟩ (.slice ac C.length capc)).cell? ⟨w.heap.size + 1, 0, none⟩ = some (.slice ao S.length cap) := by
    rw [World.cell?_setCell_other _ _ _ _ (by simp)]
    exact World.cell?_setCell_same' _ _ _ (by rw [d0]; rfl)
  have B2 : Below w.heap.size w (w1.setCell ⟨w.heap.size + 1, 0, none⟩ (.slice ao S.length cap)) := B1.setCell (show w.heap.size ≤ w.heap.size + 1 by omega) _
  have B3 : Below w.heap.size w ((w1.setCell ⟨w.heap.size + 1, 0, none⟩ (.slice ao S.length cap)).setCell ⟨w.heap.size + 1, 1, none⟩ (.slice ac C.length capc)) := B2.setCell (show w.heap.size ≤ w.heap.size + 1 by omega) _
  go_wp2_with fail
  refine bodyPost_ret (by rw [results_cell1d rfl]; go_simp; try rfl) rfl ?_
  exact ⟨rfl, B3⟩

theorem linearCodeOf_no (ao : Option Addr) (S : List Int) (cap : Nat) (hn : S.length ≤ 4294967296) (ac : Option Addr) (C : List Int) (capc : Nat) (hE : eCode S C = 0) (hl : linB S C = false) (pv : Value) (w : World) (hS : Ints w ao S) (hC : Ints w ac C) (hG : Glob pv w) :
    Calls Tryz.prog 111 #[.agg #[.slice ao S.length cap], .slice ac C.length capc] w fun e w' => e = .panicked [{ v := .iface 153 pv, recovered := false }] ∧ Below w.heap.size w w' := by
  obtain ⟨W0, hW0, cS, rR, z0, B0⟩ := box2m w (.slice ao S.length cap) (.slice none 0 0) (.slice none 0 0) 26 64
  have HW0 := Lib.hid hW0
  have z0a : w.heap.size + 2 ≤ W0.heap.size := by omega
  have h1 := isLinear_any ao S cap hn ac C capc hE W0 (hS.below B0) (hC.below B0)
  rw [hl] at h1
  have H1 := Lib.hid h1
  have hg0 := hG.below B0 hG.2
  have hpos := hG.2
  clear hW0 z0 h1 hG
  go_enter Tryz.func111, Tryz.ntmps111
  go_wp2_with fail
  rw [← HW0.out]
  refine H1.out.mono ?_
  rintro e w1 ⟨rfl, hb1⟩
  have hg1 := (hg0.below hb1 hg0.2).1
  have B1 := B0.trans (hb1.mono (by omega))
  clear hb1 cS rR H1
  go_wp2_with fail
  exact ⟨rfl, rfl, B1⟩

theorem box2i (w : World) (a b : Value) (t u : TypeId) : ∃ W, W = (w.alloc (.cells #[a] t)).alloc (.cells #[b] u) ∧ W.cell? ⟨w.heap.size, 0, none⟩ = some a ∧ W.heap[w.heap.size + 1]? = some (.cells #[b] u (0, 0)) ∧ W.heap.size = w.heap.size + 2 ∧ Below w.heap.size w W := by
  have s1 : (w.alloc (.cells #[a] t)).heap.size = w.heap.size + 1 := World.size_alloc _ _
  have s2 : ((w.alloc (.cells #[a] t)).alloc (.cells #[b] u)).heap.size = w.heap.size + 2 := by rw [World.size_alloc, s1]
  have b1 : Below (w.alloc (.cells #[a] t)).heap.size (w.alloc (.cells #[a] t)) ((w.alloc (.cells #[a] t)).alloc (.cells #[b] u)) := (Below.refl _ _).alloc (Nat.le_refl _) _
  have b0 : Below w.heap.size w ((w.alloc (.cells #[a] t)).alloc (.cells #[b] u)) := ((Below.refl _ _).alloc (Nat.le_refl _) _).trans (b1.mono (by omega))
  have x1 := kept_cell b1 (cell_new w a t) (lt_alloc _ _)
  have x3 := heap_alloc_last (w.alloc (.cells #[a] t)) (.cells #[b] u)
  rw [s1] at x3
  exact ⟨_, rfl, x1, x3, s2, b0⟩

set_option maxHeartbeats 2000000 in
theorem askLinear_yes (ao : Option Addr) (S : List Int) (cap : Nat) (hn : S.length ≤ 4294967296) (ac : Option Addr) (C : List Int) (capc : Nat) (hnc : C.length ≤ 4294967296) (hE : eCode S C = 0) (hl : linB S C = true) (f : Nat) (eg : ∀ args w, (callFunc f args).run Tryz.prog w = .ok (.enter f args) w) (pre post : Array Value) (X : Int) (w : World) (hS : Ints w ao S) (hC : Ints w ac C)
    (hask : ∀ W, Below w.heap.size w W → Calls Tryz.prog f (pre.push (.agg #[.slice ao S.length cap, .slice ac C.length capc]) ++ post) W fun e w' => e = .returned (.int .i64 X) ∧ Below W.heap.size W w') :
    Calls Tryz.prog 62 #[.agg #[.slice ao S.length cap], .slice ac C.length capc, .func (.func f) pre post] w fun e w' => e = .returned (.tuple #[.int .i64 X, .int .i64 0]) ∧ Below w.heap.size w w' := by
  have hmf : ∀ (fn : Fn) (first cap : Array Value) (w : World), (Instr.makeFunc fn first cap).run Tryz.prog w = .ok (.func fn first cap) w := fun _ _ _ _ => rfl
  obtain ⟨W0, hW0, cS, rR, z0, B0⟩ := box2i w (.slice ao S.length cap) (.int .i64 0) 26 2
  have HW0 := Lib.hid hW0
  have z0a : w.heap.size + 2 ≤ W0.heap.size := by omega
  have h1 := codeError_any ao S cap hn ac C capc hnc W0 (hS.below B0) (hC.below B0)
  rw [hE] at h1
  have H1 := Lib.hid h1
  have HASK := Lib.hid hask
  clear hW0 z0 h1 hask
  go_enter_defers Tryz.func62, Tryz.ntmps62
  go_wp2_with fail
  rw [← HW0.out]
  refine H1.out.mono ?_
  rintro e w1 ⟨rfl, hb1⟩
  have s1 : w.heap.size + 2 ≤ w1.heap.size := by have := hb1.size; omega
  have cS1 := kept_cell hb1 cS (by omega)
  have rR1 : w1.heap[w.heap.size + 1]? = some (.cells #[.int .i64 0] 2 (0, 0)) := by rw [hb1.block (w.heap.size + 1) (by omega)]; exact rR
  have B1 := B0.trans (hb1.mono (by omega))
  have d0 : w1.cell? ⟨w.heap.size + 1, 0, none⟩ = some (.int .i64 0) := by rw [cell_of_row w1 (w.heap.size + 1) 0 _ _ _ rR1]; rfl
  have f0 : w1.frozen? ⟨w.heap.size + 1, 0, none⟩ = false := by have h' := rR1; simp [World.frozen?, h']
  clear hb1 cS rR H1
  have d1 : (w1.setCell ⟨w.heap.size + 1, 0, none⟩ (.int .i64 0)).cell? ⟨w.heap.size + 1, 0, none⟩ = some (.int .i64 0) := World.cell?_setCell_same' _ _ _ (by rw [d0]; rfl)
  have f1 : (w1.setCell ⟨w.heap.size + 1, 0, none⟩ (.int .i64 0)).frozen? ⟨w.heap.size + 1, 0, none⟩ = false := (World.frozen?_setCell _ _ _ _).trans f0
  have cS2 : (w1.setCell ⟨w.heap.size + 1, 0, none⟩ (.int .i64 0)).cell? ⟨w.heap.size, 0, none⟩ = some (.slice ao S.length cap) := cell_set_other cS1 (by simp)
  have B2 : Below w.heap.size w (w1.setCell ⟨w.heap.size + 1, 0, none⟩ (.int .i64 0)) := B1.setCell (show w.heap.size ≤ w.heap.size + 1 by omega) _
  have s2 : w.heap.size + 2 ≤ (w1.setCell ⟨w.heap.size + 1, 0, none⟩ (.int .i64 0)).heap.size := by simpa using s1
  go_wp2_with fail
  obtain ⟨W2, hW2⟩ : ∃ W2, W2 = w1.setCell ⟨w.heap.size + 1, 0, none⟩ (.int .i64 0) := ⟨_, rfl⟩
  rw [← hW2] at d1 f1 cS2 B2 s2 ⊢
  clear hW2 d0 f0 cS1 rR1 B1 s1
  refine (linearCodeOf_yes ao S cap hn ac C capc hE hl W2 (hS.below B2) (hC.below B2)).mono ?_
  rintro e w3 ⟨rfl, hb3⟩
  have d3 := kept_cell hb3 d1 (by omega)
  have f3 : w3.frozen? ⟨w.heap.size + 1, 0, none⟩ = false := (hb3.frozen (p := ⟨w.heap.size + 1, 0, none⟩) (show w.heap.size + 1 < W2.heap.size by omega)).trans f1
  have B3 := B2.trans (hb3.mono (by omega))
  have s3 : w.heap.size + 2 ≤ w3.heap.size := Nat.le_trans s2 hb3.size
  clear hb3 d1 f1 cS2 B2 s2
  go_wp2_with fail
  refine (HASK.out w3 B3).mono ?_
  rintro e w4 ⟨rfl, hb4⟩
  have d4 := kept_cell hb4 d3 (by omega)
  have f4 : w4.frozen? ⟨w.heap.size + 1, 0, none⟩ = false := (hb4.frozen (p := ⟨w.heap.size + 1, 0, none⟩) (show w.heap.size + 1 < w3.heap.size by omega)).trans f3
  have B4 := B3.trans (hb4.mono (by omega))
  have d5 : (w4.setCell ⟨w.heap.size + 1, 0, none⟩ (.int .i64 0)).cell? ⟨w.heap.size + 1, 0, none⟩ = some (.int .i64 0) := World.cell?_setCell_same' _ _ _ (by rw [d4]; rfl)
  have B5 : Below w.heap.size w (w4.setCell ⟨w.heap.size + 1, 0, none⟩ (.int .i64 0)) := B4.setCell (show w.heap.size ≤ w.heap.size + 1 by omega) _
  clear hb4 d3 f3 B3 s3 HASK
  go_wp2_with fail
  refine leaves_cons (f := 118) (args := #[.pointer (some ⟨w.heap.size + 1, 0, none⟩)]) (by simp) (by simp [go_sem]) ?_
  refine (catch_idle _ _).mono ?_
  rintro e u' w'' ⟨rfl, rfl, rfl⟩
  simp [Leaves, settle, results, Tryz.results62, go_sem, d5]
  exact B5

set_option maxHeartbeats 2000000 in
theorem askLinear_no (ao : Option Addr) (S : List Int) (cap : Nat) (hn : S.length ≤ 4294967296) (ac : Option Addr) (C : List Int) (capc : Nat) (hnc : C.length ≤ 4294967296) (hE : eCode S C = 0) (hl : linB S C = false) (f : Nat) (pre post : Array Value) (pv : Value) (w : World) (hS : Ints w ao S) (hC : Ints w ac C) (hG : Glob pv w) :
    Calls Tryz.prog 62 #[.agg #[.slice ao S.length cap], .slice ac C.length capc, .func (.func f) pre post] w fun e w' => e = .returned (.tuple #[.int .i64 0, .int .i64 5]) ∧ Below w.heap.size w w' := by
  have hmf : ∀ (fn : Fn) (first cap : Array Value) (w : World), (Instr.makeFunc fn first cap).run Tryz.prog w = .ok (.func fn first cap) w := fun _ _ _ _ => rfl
  obtain ⟨W0, hW0, cS, rR, z0, B0⟩ := box2i w (.slice ao S.length cap) (.int .i64 0) 26 2
  have HW0 := Lib.hid hW0
  have z0a : w.heap.size + 2 ≤ W0.heap.size := by omega
  have h1 := codeError_any ao S cap hn ac C capc hnc W0 (hS.below B0) (hC.below B0)
  rw [hE] at h1
  have H1 := Lib.hid h1
  have hpos := hG.2
  clear hW0 z0 h1
  go_enter_defers Tryz.func62, Tryz.ntmps62
  go_wp2_with fail
  rw [← HW0.out]
  refine H1.out.mono ?_
  rintro e w1 ⟨rfl, hb1⟩
  have s1 : w.heap.size + 2 ≤ w1.heap.size := by have := hb1.size; omega
  have cS1 := kept_cell hb1 cS (by omega)
  have rR1 : w1.heap[w.heap.size + 1]? = some (.cells #[.int .i64 0] 2 (0, 0)) := by rw [hb1.block (w.heap.size + 1) (by omega)]; exact rR
  have B1 := B0.trans (hb1.mono (by omega))
  have d0 : w1.cell? ⟨w.heap.size + 1, 0, none⟩ = some (.int .i64 0) := by rw [cell_of_row w1 (w.heap.size + 1) 0 _ _ _ rR1]; rfl
  have f0 : w1.frozen? ⟨w.heap.size + 1, 0, none⟩ = false := by have h' := rR1; simp [World.frozen?, h']
  clear hb1 cS rR H1
  have d1 : (w1.setCell ⟨w.heap.size + 1, 0, none⟩ (.int .i64 0)).cell? ⟨w.heap.size + 1, 0, none⟩ = some (.int .i64 0) := World.cell?_setCell_same' _ _ _ (by rw [d0]; rfl)
  have f1 : (w1.setCell ⟨w.heap.size + 1, 0, none⟩ (.int .i64 0)).frozen? ⟨w.heap.size + 1, 0, none⟩ = false := (World.frozen?_setCell _ _ _ _).trans f0
  have cS2 : (w1.setCell ⟨w.heap.size + 1, 0, none⟩ (.int .i64 0)).cell? ⟨w.heap.size, 0, none⟩ = some (.slice ao S.length cap) := cell_set_other cS1 (by simp)
  have B2 : Below w.heap.size w (w1.setCell ⟨w.heap.size + 1, 0, none⟩ (.int .i64 0)) := B1.setCell (show w.heap.size ≤ w.heap.size + 1 by omega) _
  have s2 : w.heap.size + 2 ≤ (w1.setCell ⟨w.heap.size + 1, 0, none⟩ (.int .i64 0)).heap.size := by simpa using s1
  go_wp2_with fail
  obtain ⟨W2, hW2⟩ : ∃ W2, W2 = w1.setCell ⟨w.heap.size + 1, 0, none⟩ (.int .i64 0) := ⟨_, rfl⟩
  rw [← hW2] at d1 f1 cS2 B2 s2 ⊢
  clear hW2 d0 f0 cS1 rR1 B1 s1
  refine (linearCodeOf_no ao S cap hn ac C capc hE hl pv W2 (hS.below B2) (hC.below B2) (hG.below B2 hpos)).mono ?_
  rintro e w3 ⟨rfl, hb3⟩
  have d3 := kept_cell hb3 d1 (by omega)
  have f3 : w3.frozen? ⟨w.heap.size + 1, 0, none⟩ = false := (hb3.frozen (p := ⟨w.heap.size + 1, 0, none⟩) (show w.heap.size + 1 < W2.heap.size by omega)).trans f1
  have B3 := B2.trans (hb3.mono (by omega))
  have d5 : (w3.setCell ⟨w.heap.size + 1, 0, none⟩ (.int .i64 5)).cell? ⟨w.heap.size + 1, 0, none⟩ = some (.int .i64 5) := World.cell?_setCell_same' _ _ _ (by rw [d3]; rfl)
  have B5 : Below w.heap.size w (w3.setCell ⟨w.heap.size + 1, 0, none⟩ (.int .i64 5)) := B3.setCell (show w.heap.size ≤ w.heap.size + 1 by omega) _
  clear hb3 d1 f1 cS2 B2 s2
  go_wp2_with fail
  refine leaves_cons (f := 118) (args := #[.pointer (some ⟨w.heap.size + 1, 0, none⟩)]) (by simp) (by simp [go_sem]) ?_
  refine (catch_panicking _ pv [] _ d3 f3).mono ?_
  rintro e u' w'' ⟨rfl, rfl, rfl⟩
  simp [Leaves, settle, results, Tryz.results62, go_sem, d5]
  exact B5

end Go.Proofs.YtcnnijeokefboaaGreatDoor
