/-
  Texts put together: Num, Ctn, IsPl. By an AI agent.
-/
import Derived.Test.YtamebfbddoeflaaPkMath
import Derived.Test.YtamebfbddoeflaaPkErr2
import Derived.Test.YtamebfbddoeflaaPkSpace
import Derived.Shelf.Abstract
import Derived.WalkMore
import Derived.Test.YtamebfbddoeflaaPkMathB
namespace Go.Proofs.Ytamebfbddoeflaa
open Go.RowKit Cv
set_option linter.unusedVariables false
set_option linter.unusedSimpArgs false
set_option maxRecDepth 100000

set_option maxHeartbeats 1000000 in
theorem numberError_any (ao : Option Addr) (S : List Int) (cap : Nat) (hn : S.length ≤ 4294967296) (x lo hi : Int) (w : World) (hS : Ints w ao S) :
    Calls Try.prog 56 #[.agg #[.slice ao S.length cap], .int .i64 x, .int .i64 lo, .int .i64 hi] w fun e w' => e = .returned (.int .i64 (eNum S x lo hi)) ∧ Below w.heap.size w w' := by
  have B0 : Below w.heap.size w (w.alloc (.cells #[.slice ao S.length cap] 26)) := by go_grown
  by_cases hsp : isSp S = true
  · by_cases h1 : x < lo
    · have HE : Hid (eNum S x lo hi = 2) := Lib.hid (eNum_out hsp (by omega))
      have hd : decide (x < lo) = true := by simpa using h1
      go_enter Try.func56, Try.ntmps56
      go_wp2_with fail
      refine (IsSpace_any ao S cap _ hn (hS.below B0)).mono ?_
      rintro e w1 ⟨rfl, hb⟩
      go_wp2_with fail
      go_ret
      exact ⟨ret_int HE.out.symm, B0.trans (hb.mono B0.size)⟩
    · by_cases h2 : hi < x
      · have HE : Hid (eNum S x lo hi = 2) := Lib.hid (eNum_out hsp (by omega))
        have hd : decide (x < lo) = false := by simpa using h1
        have hd2 : decide (hi < x) = true := by simpa using h2
        go_enter Try.func56, Try.ntmps56
        go_wp2_with fail
        refine (IsSpace_any ao S cap _ hn (hS.below B0)).mono ?_
        rintro e w1 ⟨rfl, hb⟩
        go_wp2_with fail
        go_ret
        exact ⟨ret_int HE.out.symm, B0.trans (hb.mono B0.size)⟩
      · have HE : Hid (eNum S x lo hi = 0) := Lib.hid (eNum_ok hsp (by omega) (by omega))
        have hd : decide (x < lo) = false := by simpa using h1
        have hd2 : decide (hi < x) = false := by simpa using h2
        go_enter Try.func56, Try.ntmps56
        go_wp2_with fail
        refine (IsSpace_any ao S cap _ hn (hS.below B0)).mono ?_
        rintro e w1 ⟨rfl, hb⟩
        go_wp2_with fail
        go_ret
        exact ⟨ret_int HE.out.symm, B0.trans (hb.mono B0.size)⟩
  · have hsp' : isSp S = false := by simpa using hsp
    have HE := Lib.hid (eNum_inv (x := x) (lo := lo) (hi := hi) hsp')
    clear hsp
    go_enter Try.func56, Try.ntmps56
    go_wp2_with (go_at_call 35; refine (IsSpace_any ao S cap _ hn (hS.below B0)).mono ?_; rintro e w1 ⟨rfl, hb⟩)
    go_ret
    exact ⟨ret_int HE.out.symm, B0.trans (hb.mono B0.size)⟩

end Go.Proofs.Ytamebfbddoeflaa

namespace Go.Proofs.Ytamebfbddoeflaa
open Go.RowKit Go.Shelf Cv
set_option linter.unusedVariables false
set_option linter.unusedSimpArgs false
set_option maxRecDepth 100000

/-- slices.IndexFunc on a list that came in, with a function that may make memory -/
theorem indexFunc_ints (a : Option Addr) (cap : Nat) (L : List Int) (f : Nat) (eg : ∀ args w, (callFunc f args).run Try.prog w = .ok (.enter f args) w) (pre post : Array Value) (p : Int → Bool) (w : World) (hl : L.length ≤ 4294967296)
    (hL : Ints w a L) (hp : ∀ (W : World) (x : Int), Below w.heap.size w W → x ∈ L → Calls Try.prog f (pre.push (.int .i64 x) ++ post) W fun e w' => e = .returned (.bool (p x)) ∧ Below W.heap.size W w') :
    Calls Try.prog 58 #[.slice a L.length cap, .func (.func f) pre post] w fun e w' => ∃ r : Int, e = .returned (.int .i64 r) ∧ Below w.heap.size w w' ∧
      Hid ((r = -1 ∧ ∀ j, j < L.length → p (gi L j) = false) ∨ ∃ k : Nat, k < L.length ∧ r = k ∧ p (gi L k) = true ∧ ∀ j, j < k → p (gi L j) = false) := by
  have HP := Lib.hid hp
  clear hp
  go_enter Try.func58, Try.ntmps58
  go_wp2_with fail
  go_loopw [8] (fun i wr => ∃ k : Nat, k ≤ L.length ∧ i = .int .i64 k ∧ Below w.heap.size w wr ∧ Hid (∀ j, j < k → p (gi L j) = false)) (fun i _ => L.length - (intOf i).toNat)
  case atStart => exact ⟨0, Nat.zero_le _, rfl, Below.refl _ _, Lib.hid fun j hj => by omega⟩
  case round =>
    obtain ⟨k, hk, rfl, B, HA⟩ := hrel
    by_cases hlt : k < L.length
    · obtain ⟨b, o, rfl, hbl, hc0⟩ := hL.at hlt
      have hc := kept_cell B (hc0 k hlt) hbl
      have hcall := HP.out wr (gi L k) B (gi_mem hlt)
      have hs := B.size
      clear hc0
      cases hq : p (gi L k) with
      | true =>
        rw [hq] at hcall
        have HQ := Lib.hid hq
        clear hq
        go_wp2_with fail
        refine hcall.mono ?_
        rintro e w2 ⟨rfl, hb⟩
        go_wp2_with fail
        go_ret
        exact ⟨k, rfl, B.trans (hb.mono hs), Lib.hid (.inr ⟨k, hlt, rfl, HQ.out, HA.out⟩)⟩
      | false =>
        rw [hq] at hcall
        have HQ := Lib.hid hq
        clear hq
        go_wp2_with fail
        refine hcall.mono ?_
        rintro e w2 ⟨rfl, hb⟩
        go_wp2_with fail
        go_roundw
        case rel =>
          refine ⟨k + 1, by omega, by go_num, B.trans (hb.mono hs), Lib.hid fun j hj => ?_⟩
          by_cases e : j = k
          · subst e; exact HQ.out
          · exact HA.out j (by omega)
        case measure => simp [intOf]; omega
    · have ek : Hid (k = L.length) := Lib.hid (by omega)
      go_wp2_with fail
      go_ret
      exact ⟨-1, rfl, B, Lib.hid (.inl ⟨rfl, by rw [← ek.out]; exact HA.out⟩)⟩

theorem containsFunc_ints (a : Option Addr) (cap : Nat) (L : List Int) (f : Nat) (eg : ∀ args w, (callFunc f args).run Try.prog w = .ok (.enter f args) w) (pre post : Array Value) (p : Int → Bool) (w : World) (hl : L.length ≤ 4294967296)
    (hL : Ints w a L) (hp : ∀ (W : World) (x : Int), Below w.heap.size w W → x ∈ L → Calls Try.prog f (pre.push (.int .i64 x) ++ post) W fun e w' => e = .returned (.bool (p x)) ∧ Below W.heap.size W w') :
    Calls Try.prog 76 #[.slice a L.length cap, .func (.func f) pre post] w fun e w' => e = .returned (.bool (L.any p)) ∧ Below w.heap.size w w' := by
  have hidx := indexFunc_ints a cap L f eg pre post p w hl hL hp
  clear hp
  go_enter Try.func76, Try.ntmps76
  go_wp2_with fail
  refine hidx.mono ?_
  rintro e w1 ⟨r, rfl, hb, H⟩
  have hany : Hid (L.any p = decide (0 ≤ r)) := Lib.hid (by
    rw [Bool.eq_iff_iff, List.any_eq_true, decide_eq_true_eq]
    rcases H.out with ⟨h1, h2⟩ | ⟨k, h1, h2, h3, _⟩
    · constructor
      · rintro ⟨x, hx, hp⟩
        obtain ⟨j, hj, e⟩ := mem_gi hx
        have := h2 j hj
        rw [e, hp] at this; cases this
      · omega
    · exact ⟨fun _ => by omega, fun _ => ⟨_, gi_mem h1, h3⟩⟩)
  go_wp2_with fail
  go_ret
  exact ⟨ret_bool hany.out.symm, hb⟩

end Go.Proofs.Ytamebfbddoeflaa

namespace Go.Proofs.Ytamebfbddoeflaa
open Go.RowKit Go.Shelf Cv
set_option linter.unusedVariables false
set_option linter.unusedSimpArgs false
set_option maxRecDepth 100000

theorem isOther_any (qb : Nat) (q x : Int) (W : World) (h : W.cell? ⟨qb, 0, none⟩ = some (.int .i64 q)) :
    Calls Try.prog 75 #[.int .i64 x, .pointer (some ⟨qb, 0, none⟩)] W fun e w' => e = .returned (.bool (x != q)) ∧ Below W.heap.size W w' := by
  go_enter Try.func75, Try.ntmps75
  go_wp2
  go_ret
  exact ⟨rfl, Below.refl _ _⟩

set_option maxHeartbeats 1000000 in
theorem isPlain_any (ao : Option Addr) (S : List Int) (cap : Nat) (h1 : 1 ≤ S.length) (hn : S.length ≤ 4294967296) (w : World) (hS : Ints w ao S) :
    Calls Try.prog 57 #[.agg #[.slice ao S.length cap]] w fun e w' => e = .returned (.bool (isPl S)) ∧ Below w.heap.size w w' := by
  obtain ⟨b, o, rfl, hbl, hc⟩ := hS.at (show 0 < S.length by omega)
  have hc0 := hc 0 (by omega)
  have hk0 : (w.alloc (.cells #[.slice (some ⟨b, o, none⟩) S.length cap] 26)).cell? ⟨b, o + 0, none⟩ = some (.int .i64 (gi S 0)) := kept_cell ((Below.refl _ _).alloc (Nat.le_refl _) _) hc0 hbl
  rw [Nat.add_zero] at hk0
  clear hc hc0
  have HP := Lib.hid (isPl_any h1)
  by_cases hq : gi S 0 ≤ 3
  · obtain ⟨W2, hW2⟩ : ∃ W2, W2 = (w.alloc (.cells #[.slice (some ⟨b, o, none⟩) S.length cap] 26)).alloc (.cells #[.int .i64 (gi S 0)] 2) := ⟨_, rfl⟩
    have B2 : Below w.heap.size w W2 := by rw [hW2]; go_grown
    have s2 : W2.heap.size = w.heap.size + 1 + 1 := by rw [hW2]; simp
    have hnb : W2.cell? ⟨w.heap.size + 1, 0, none⟩ = some (.int .i64 (gi S 0)) := by
      have h := cell_new (w.alloc (.cells #[.slice (some ⟨b, o, none⟩) S.length cap] 26)) (.int .i64 (gi S 0)) 2
      rw [World.size_alloc] at h; rw [hW2]; exact h
    have HW2 := Lib.hid hW2
    have hcont := containsFunc_ints (some ⟨b, o, none⟩) cap S 75 (enters_of Try.func75 (by kernel_rfl) rfl) #[] #[.pointer (some ⟨w.heap.size + 1, 0, none⟩)] (fun x => x != gi S 0) W2 hn (hS.below B2) (fun W' x hb' _ => isOther_any (w.heap.size + 1) (gi S 0) x W' (kept_cell hb' hnb (by omega)))
    clear hW2
    go_enter Try.func57, Try.ntmps57
    go_wp2_with fail
    rw [← HW2.out]
    refine hcont.mono ?_
    rintro e w3 ⟨rfl, hb3⟩
    go_wp2_with fail
    go_ret
    exact ⟨ret_bool (by rw [HP.out, decide_eq_true hq]; rfl), B2.trans (hb3.mono (by omega))⟩
  · go_enter Try.func57, Try.ntmps57
    go_wp2_with fail
    go_ret
    exact ⟨ret_bool (by rw [HP.out, decide_eq_false (by omega)]; rfl), by go_grown⟩

set_option maxHeartbeats 1000000 in
theorem l05Plain_any (ao : Option Addr) (S : List Int) (cap : Nat) (hn : S.length ≤ 4294967296) (w : World) (hS : Ints w ao S) :
    Calls Try.prog 71 #[.agg #[.slice ao S.length cap]] w fun e w' => e = .returned (.bool (isPl S)) ∧ Below w.heap.size w w' := by
  have B0 : Below w.heap.size w (w.alloc (.cells #[.slice ao S.length cap] 26)) := by go_grown
  have c0 := cell_new w (.slice ao S.length cap) 26
  have l0 := lt_alloc w (.cells #[.slice ao S.length cap] 26)
  go_enter Try.func71, Try.ntmps71
  go_wp2_with fail
  go_loopw [7] (fun i wr => ∃ k : Nat, k ≤ S.length ∧ i = .int .i64 k ∧ Hid (∀ j, j < k → gi S j = gi S 0 ∧ gi S j ≤ 3) ∧ wr.cell? ⟨w.heap.size, 0, none⟩ = some (.slice ao S.length cap) ∧ w.heap.size < wr.heap.size ∧ Below w.heap.size w wr) (fun i _ => S.length - (intOf i).toNat)
  case atStart => exact ⟨0, Nat.zero_le _, rfl, Lib.hid fun j h => by omega, c0, l0, B0⟩
  case round =>
    clear c0 l0 B0
    obtain ⟨k, hk, rfl, HK, c, l, B⟩ := hrel
    by_cases hlt : k < S.length
    · obtain ⟨b, o, rfl, hbl, hc⟩ := hS.at hlt
      have hck := kept_cell B (hc k hlt) hbl
      have hc0 := kept_cell B (hc 0 (by omega)) hbl
      rw [Nat.add_zero] at hc0
      have i1 : (0 : Int) ≤ (k : Int) := by omega
      have i2 : (k : Int) < (S.length : Int) := by omega
      have i3 : (0 : Int) < (S.length : Int) := by omega
      clear hc
      by_cases hq : gi S k = gi S 0
      · have e1 : (gi S k != gi S 0) = false := by simp [hq]
        by_cases hq3 : 3 < gi S k
        · have HQ := Lib.hid (isPl_not hlt (by omega))
          have hd : decide (3 < gi S k) = true := by simpa using hq3
          clear hq hq3
          go_wp2_with fail
          go_quiet (fail)
          go_wp2_with fail
          go_ret
          exact ⟨ret_bool HQ.out.symm, below_drewN B _⟩
        · have HQ := Lib.hid (And.intro hq (show gi S k ≤ 3 by omega))
          have hd : decide (3 < gi S k) = false := by simpa using hq3
          clear hq hq3
          go_wp2_with fail
          go_quiet (fail)
          go_wp2_with fail
          go_roundw
          case rel =>
            refine ⟨k + 1, by omega, by go_num, Lib.hid fun j hj => ?_, c, l, below_drewN B _⟩
            by_cases e : j = k
            · subst e; exact HQ.out
            · exact HK.out j (by omega)
          case measure => simp [intOf]; omega
      · have HQ := Lib.hid (isPl_not hlt (by omega))
        have e1 : (gi S k != gi S 0) = true := by simpa using hq
        clear hq
        go_wp2_with fail
        go_quiet (fail)
        go_wp2_with fail
        go_ret
        exact ⟨ret_bool HQ.out.symm, below_drewN B _⟩
    · have HP : Hid (isPl S = true) := Lib.hid ((isPl_iff S).2 fun j hj => HK.out j (by omega))
      go_wp2_with fail
      go_ret
      exact ⟨ret_bool HP.out.symm, B⟩

end Go.Proofs.Ytamebfbddoeflaa
