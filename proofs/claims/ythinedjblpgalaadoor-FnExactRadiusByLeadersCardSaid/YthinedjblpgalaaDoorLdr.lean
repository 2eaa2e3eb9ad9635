/-
  The leader of a class, in the program: slices.MinFunc, cmp.Compare, cmp.Or. By an AI agent.
-/
import Derived.Test.YthinedjblpgalaaDoorMath30
import Derived.Test.YthinedjblpgalaaDoorNums
import Derived.Test.YthinedjblpgalaaDoorSums
import Derived.Test.YthinedjblpgalaaDoorMem
import Derived.Shelf.Abstract
import Derived.Deep.RegionHeld3
namespace Go.Proofs.YthinedjblpgalaaDoor
open Go.RowKit Go.Shelf Cv
set_option linter.unusedVariables false
set_option linter.unusedSimpArgs false
set_option maxRecDepth 100000

theorem isNaN_any (x : Int) (w : World) : Calls Tryd.prog 84 #[.int .i64 x] w fun e w' => e = .returned (.bool false) ∧ w = w' := by
  go_enter Tryd.func84, Tryd.ntmps84
  go_wp2
  go_ret
  exact ⟨ret_bool (by simp), rfl⟩

theorem compare_any (x y : Int) (w : World) : Calls Tryd.prog 71 #[.int .i64 x, .int .i64 y] w fun e w' => e = .returned (.int .i64 (cmpI x y)) ∧ w = w' := by
  by_cases h1 : x < y
  · have H : Hid (cmpI x y = -1) := Lib.hid (by unfold cmpI; rw [if_pos h1])
    go_enter Tryd.func71, Tryd.ntmps71
    go_wp2_with fail
    refine (isNaN_any x w).mono ?_
    rintro e w1 ⟨rfl, rfl⟩
    go_wp2_with fail
    refine (isNaN_any y w).mono ?_
    rintro e w1 ⟨rfl, rfl⟩
    go_wp2_with fail
    go_ret
    exact ⟨ret_int H.out.symm, rfl⟩
  · by_cases h2 : y < x
    · have H : Hid (cmpI x y = 1) := Lib.hid (by unfold cmpI; rw [if_neg h1, if_pos h2])
      go_enter Tryd.func71, Tryd.ntmps71
      go_wp2_with fail
      refine (isNaN_any x w).mono ?_
      rintro e w1 ⟨rfl, rfl⟩
      go_wp2_with fail
      refine (isNaN_any y w).mono ?_
      rintro e w1 ⟨rfl, rfl⟩
      go_wp2_with fail
      go_ret
      exact ⟨ret_int H.out.symm, rfl⟩
    · have H : Hid (cmpI x y = 0) := Lib.hid (by unfold cmpI; rw [if_neg h1, if_neg h2])
      go_enter Tryd.func71, Tryd.ntmps71
      go_wp2_with fail
      refine (isNaN_any x w).mono ?_
      rintro e w1 ⟨rfl, rfl⟩
      go_wp2_with fail
      refine (isNaN_any y w).mono ?_
      rintro e w1 ⟨rfl, rfl⟩
      go_wp2_with fail
      go_ret
      exact ⟨ret_int H.out.symm, rfl⟩

theorem cmpOrI2 (ao : Option Addr) (x y : Int) (cap : Nat) (w : World) (h : Ints w ao [x, y]) :
    Calls Tryd.prog 70 #[.slice ao 2 cap] w fun e w' => e = .returned (.int .i64 (orI x y)) ∧ w = w' := by
  obtain ⟨b, o, rfl, hb, hc⟩ := h.at (i := 0) (by simp)
  have c0 : w.cell? ⟨b, o, none⟩ = some (.int .i64 x) := by simpa [gi] using hc 0 (by simp)
  have c1 : w.cell? ⟨b, o + 1, none⟩ = some (.int .i64 y) := by simpa [gi] using hc 1 (by simp)
  clear hc h
  by_cases hx : x = 0
  · subst hx
    have HO : Hid (orI 0 y = y) := Lib.hid rfl
    by_cases hy : y = 0
    · subst hy
      go_enter Tryd.func70, Tryd.ntmps70
      go_wp2
      go_rounds 3
      go_ret
      exact ⟨rfl, rfl⟩
    · have hn : (y != 0) = true := by simpa using hy
      go_enter Tryd.func70, Tryd.ntmps70
      go_wp2
      go_rounds 2
      go_ret
      exact ⟨ret_int HO.out.symm, rfl⟩
  · have HO : Hid (orI x y = x) := Lib.hid (by unfold orI; rw [if_neg hx])
    have hn : (x != 0) = true := by simpa using hx
    clear hx
    go_enter Tryd.func70, Tryd.ntmps70
    go_wp2
    go_rounds 1
    go_ret
    exact ⟨ret_int HO.out.symm, rfl⟩

/-- a function value that compares two numbers of L as words -/
def CmpN (f : Nat) (pre post : Array Value) (S : List Int) (n : Nat) (w : World) (L : List Int) : Prop :=
  ∀ (W : World) (x y : Int), Below n w W → x ∈ L → y ∈ L → Calls Tryd.prog f (pre ++ (#[.int .i64 x, .int .i64 y] ++ post)) W fun e w' => e = .returned (.int .i64 (cmpW S x y)) ∧ Below W.heap.size W w'

set_option maxHeartbeats 1000000 in
theorem minFunc_any (a : Option Addr) (cap : Nat) (L : List Int) (S : List Int) (hl1 : 1 ≤ L.length) (hl : L.length ≤ 1048576) (f : Nat) (eg : ∀ args w, (callFunc f args).run Tryd.prog w = .ok (.enter f args) w) (pre post : Array Value) (w : World) (hL : Ints w a L) (hp : CmpN f pre post S w.heap.size w L) :
    Calls Tryd.prog 68 #[.slice a L.length cap, .func (.func f) pre post] w fun e w' => e = .returned (.int .i64 (ldrTo S L (L.length - 1))) ∧ Below w.heap.size w w' := by
  obtain ⟨b, o, rfl, hbl, hc⟩ := hL.at (show 0 < L.length by omega)
  have hc0 := hc 0 (by omega)
  rw [Nat.add_zero] at hc0
  have HC := Lib.hid hc
  have HP := Lib.hid hp
  have i0 : (0 : Int) < (L.length : Int) := by omega
  have i1 : ¬ (L.length : Int) < 1 := by omega
  clear hp hc hL
  go_enter Tryd.func68, Tryd.ntmps68
  go_wp2_with fail
  go_loopw [5, 6] (fun m i wr => ∃ k : Nat, k < L.length ∧ i = .int .i64 ((k : Int) + 1) ∧ m = .int .i64 (ldrTo S L k) ∧ Below w.heap.size w wr) (fun _ i _ => L.length + 1 - (intOf i).toNat)
  case atStart => exact ⟨0, by omega, rfl, rfl, Below.refl _ _⟩
  case round =>
    obtain ⟨k, hk, rfl, rfl, B⟩ := hrel
    have hs := B.size
    by_cases hlt : k + 1 < L.length
    · have e4 : (k : Int) + 1 < (L.length : Int) := by omega
      have e5 : (0 : Int) ≤ (k : Int) + 1 := by omega
      have e6 : ((k : Int) + 1).toNat = k + 1 := by omega
      have hck := kept_cell B (HC.out (k + 1) hlt) hbl
      have hcall := HP.out wr (gi L (k + 1)) (ldrTo S L k) B (gi_mem hlt) (ldrTo_mem S L k hk)
      have HN := Lib.hid (cmpW_neg S (gi L (k + 1)) (ldrTo S L k))
      have HD : Hid (ldrTo S L (k + 1) = if lgt S (gi L (k + 1)) (ldrTo S L k) = true then gi L (k + 1) else ldrTo S L k) := Lib.hid rfl
      obtain ⟨c, hcc⟩ : ∃ c, c = cmpW S (gi L (k + 1)) (ldrTo S L k) := ⟨_, rfl⟩
      rw [← hcc] at hcall HN
      obtain ⟨m, hm⟩ : ∃ m, m = ldrTo S L k := ⟨_, rfl⟩
      rw [← hm] at hcall HN HD ⊢
      clear hcc hm
      cases hq : lgt S (gi L (k + 1)) m with
      | true =>
        rw [hq] at HN HD
        have hd : decide (c < 0) = true := HN.out
        clear hq
        go_wp2_with fail
        refine hcall.mono ?_
        rintro e w2 ⟨rfl, hb⟩
        have hck2 := kept_cell hb hck (lt_of_below B hbl)
        have B2 := B.trans (hb.mono hs)
        clear hck B hcall hb
        go_wp2_with fail
        go_roundw
        case rel => exact ⟨k + 1, by omega, by go_num, by rw [HD.out]; rfl, B2⟩
        case measure => simp [intOf]; omega
      | false =>
        rw [hq] at HN HD
        have hd : decide (c < 0) = false := HN.out
        clear hq
        go_wp2_with fail
        refine hcall.mono ?_
        rintro e w2 ⟨rfl, hb⟩
        have B2 := B.trans (hb.mono hs)
        clear hck B hcall hb
        go_wp2_with fail
        go_roundw
        case rel => exact ⟨k + 1, by omega, by go_num, by rw [HD.out]; rfl, B2⟩
        case measure => simp [intOf]; omega
    · have ek : Hid (k = L.length - 1) := Lib.hid (by omega)
      have e4 : ¬ (k : Int) + 1 < (L.length : Int) := by omega
      go_wp2_with fail
      go_ret
      exact ⟨by rw [← ek.out]; rfl, B⟩

end Go.Proofs.YthinedjblpgalaaDoor
