/-
  A number for each element of a list, and the weights of words. By an AI agent.
-/
import Derived.Test.YthinedjblpgalaaDoorMath24
import Derived.Test.YthinedjblpgalaaDoorSums
import Derived.Shelf.Abstract
import Derived.Deep.RegionHeld3
namespace Go.Proofs.YthinedjblpgalaaDoor
open Go.RowKit Go.Shelf Cv
set_option linter.unusedVariables false
set_option linter.unusedSimpArgs false
set_option maxRecDepth 100000

/-- a function value that answers D at the numbers of L, in every world in which what lay below n lies still -/
def FunN (f : Nat) (pre post : Array Value) (D : Int → Int) (n : Nat) (w : World) (L : List Int) : Prop :=
  ∀ (W : World) (x : Int), Below n w W → x ∈ L → Calls Tryd.prog f (pre.push (.int .i64 x) ++ post) W fun e w' => e = .returned (.int .i64 (D x)) ∧ Below W.heap.size W w'

set_option maxHeartbeats 1000000 in
theorem numbers_any (a : Option Addr) (cap : Nat) (L : List Int) (hl : L.length ≤ 1048576) (f : Nat) (eg : ∀ args w, (callFunc f args).run Tryd.prog w = .ok (.enter f args) w) (pre post : Array Value) (D : Int → Int) (w : World) (hL : Ints w a L) (hp : FunN f pre post D w.heap.size w L) :
    Calls Tryd.prog 73 #[.slice a L.length cap, .func (.func f) pre post] w fun e w' => ∃ g, e = .returned (.slice (some ⟨g, 0, none⟩) L.length L.length) ∧ OwnInts w' w.heap.size (.slice (some ⟨g, 0, none⟩) L.length L.length) (L.map D) ∧ Below w.heap.size w w' := by
  obtain ⟨i0, hi, hz0, hz1, hz2⟩ := info_parts infoI64
  have HP := Lib.hid hp
  clear hp
  go_enter Tryd.func73, Tryd.ntmps73
  go_wp2_with (at_make; refine wpList_make_full _ rfl _ _ 22 rfl w.heap.size 2 i0 (.int .i64 0) 1 Tryd.underlying22 hi hz0 hz1 .i64 .i64 _ _ L.length rfl rfl rfl rfl (by rw [hz2]; omega) (by unfold maxLen; omega) (Nat.le_refl _) ?_; intro w1 hown hgrow)
  have B1 : Below w.heap.size w w1 := below_grown0 hgrow
  replace hown := own_made hown
  clear hgrow
  go_loopw [13] (fun i wr => ∃ (k : Nat) (T : List Int), k ≤ L.length ∧ i = .int .i64 k ∧ OwnInts wr w.heap.size (.slice (some ⟨w.heap.size, 0, none⟩) L.length L.length) T ∧ Hid (T.length = L.length ∧ ∀ j, j < k → gi T j = D (gi L j)) ∧ Below w.heap.size w wr) (fun i _ => L.length - (intOf i).toNat)
  case atStart => exact ⟨0, _, Nat.zero_le _, rfl, hown, Lib.hid ⟨by simp, fun j h => by omega⟩, B1⟩
  case round =>
    clear hown B1
    obtain ⟨k, T, hk, rfl, own, HT, B⟩ := hrel
    by_cases hlt : k < L.length
    · obtain ⟨b, o, rfl, hbl, hc⟩ := hL.at hlt
      have hck := kept_cell B (hc k hlt) hbl
      have hcall := HP.out wr (gi L k) B (gi_mem hlt)
      have hs := B.size
      clear hc
      go_wp2_with fail
      refine hcall.mono ?_
      rintro e w2 ⟨rfl, hb⟩
      have own2 := own.below hb
      have B2 := B.trans (hb.mono hs)
      have hc2 := own2.cell (k := k) (by rw [HT.out.1]; exact hlt)
      have hf2 := own2.free k
      clear hb own hck B
      go_wp2_with fail
      go_roundw
      case rel =>
        refine ⟨k + 1, _, by omega, by go_num, own2.stored k (D (gi L k)), Lib.hid ⟨by rw [List.length_set]; exact HT.out.1, fun j hj => ?_⟩, B2.setCell (by simp) _⟩
        rw [gi_set _ _ _ _ (by rw [HT.out.1]; exact hlt)]
        by_cases e : j = k
        · subst e; rw [if_pos rfl]
        · rw [if_neg e]; exact HT.out.2 j (by omega)
      case measure => simp [intOf]; omega
    · have hT : T = L.map D := ext_gi (by rw [List.length_map]; exact HT.out.1) fun j hj => by
        rw [HT.out.1] at hj
        rw [HT.out.2 j (by omega)]; simp [gi, hj]
      rw [hT] at own
      clear hT
      go_wp2_with fail
      go_ret
      exact ⟨_, rfl, own, B⟩

/-- the weight of a word, as a function value over the boxed space -/
theorem weight_fun (sb : Nat) (ao : Option Addr) (S : List Int) (cap : Nat) (hSp : Sp S) (C : List Int) (hC : ∀ x, x ∈ C → 0 ≤ x ∧ x ≤ 9223372036854775807) (n : Nat) (w : World) (hsb : sb < n) (hn : n ≤ w.heap.size) (c : w.cell? ⟨sb, 0, none⟩ = some (.slice ao S.length cap)) (hS : ∀ W, Below n w W → Ints W ao S) :
    FunN 80 #[] #[.pointer (some ⟨sb, 0, none⟩)] (dist S 0) n w C := by
  intro W x hb hx
  obtain ⟨x1, x2⟩ := hC x hx
  have cW := kept_cell hb c hsb
  have hSW := hS W hb
  show Calls Tryd.prog 80 #[.int .i64 x, .pointer (some ⟨sb, 0, none⟩)] W _
  go_enter Tryd.func80, Tryd.ntmps80
  go_wp2_with fail
  refine (distance_any ao S cap hSp 0 x (by omega) (by omega) x1 x2 _ hSW).mono ?_
  rintro e w2 ⟨rfl, hb2⟩
  go_wp2_with fail
  go_ret
  exact ⟨rfl, hb2⟩

theorem weights_any (ao : Option Addr) (S : List Int) (cap : Nat) (hSp : Sp S) (ac : Option Addr) (C : List Int) (capc : Nat) (hl : C.length ≤ 1048576) (hC : ∀ x, x ∈ C → 0 ≤ x ∧ x ≤ 9223372036854775807) (w : World) (hS : Ints w ao S) (hCI : Ints w ac C) :
    Calls Tryd.prog 59 #[.agg #[.slice ao S.length cap], .slice ac C.length capc] w fun e w' => ∃ g, e = .returned (.slice (some ⟨g, 0, none⟩) C.length C.length) ∧ OwnInts w' w.heap.size (.slice (some ⟨g, 0, none⟩) C.length C.length) (C.map (dist S 0)) ∧ Below w.heap.size w w' := by
  have B0 : Below w.heap.size w (w.alloc (.cells #[.slice ao S.length cap] 28)) := by go_grown
  have c0 := cell_new w (.slice ao S.length cap) 28
  have hf := weight_fun w.heap.size ao S cap hSp C hC _ _ (lt_alloc w (.cells #[.slice ao S.length cap] 28)) (Nat.le_refl _) c0 (fun W hb => (hS.below B0).below hb)
  have HF := Lib.hid hf
  clear hf c0
  go_enter Tryd.func59, Tryd.ntmps59
  go_wp2_with fail
  refine (numbers_any ac capc C hl 80 (enters_of Tryd.func80 (by kernel_rfl) rfl) #[] #[.pointer (some ⟨w.heap.size, 0, none⟩)] (dist S 0) _ (hCI.below B0) HF.out).mono ?_
  rintro e w2 ⟨g, rfl, own, hb⟩
  go_wp2_with fail
  go_ret
  exact ⟨_, rfl, own.rebase (by simp), B0.trans (hb.mono B0.size)⟩

end Go.Proofs.YthinedjblpgalaaDoor
