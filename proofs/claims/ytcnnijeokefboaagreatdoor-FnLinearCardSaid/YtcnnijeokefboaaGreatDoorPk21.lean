/-
  Texts put together: Ctn, IsPl, Del. By an AI agent.
-/
import Derived.Test.YtcnnijeokefboaaGreatDoorMath
import Derived.Test.YtcnnijeokefboaaGreatDoorPk11
import Derived.Shelf.Abstract
import Derived.WalkMore
import Derived.Test.YtcnnijeokefboaaGreatDoorMathB
import Derived.Test.YtcnnijeokefboaaGreatDoorAppend
import Derived.Test.YtcnnijeokefboaaGreatDoorPut
import Derived.Lib.SliceRun
import Derived.Deep.WholeRow
namespace Go.Proofs.YtcnnijeokefboaaGreatDoor
open Go.RowKit Go.Shelf Cv
set_option linter.unusedVariables false
set_option linter.unusedSimpArgs false
set_option maxRecDepth 100000

/-- slices.IndexFunc on a list that came in, with a function that may make memory -/
theorem indexFunc_ints (a : Option Addr) (cap : Nat) (L : List Int) (f : Nat) (eg : ∀ args w, (callFunc f args).run Tryz.prog w = .ok (.enter f args) w) (pre post : Array Value) (p : Int → Bool) (w : World) (hl : L.length ≤ 4294967296)
    (hL : Ints w a L) (hp : ∀ (W : World) (x : Int), Below w.heap.size w W → x ∈ L → Calls Tryz.prog f (pre.push (.int .i64 x) ++ post) W fun e w' => e = .returned (.bool (p x)) ∧ Below W.heap.size W w') :
    Calls Tryz.prog 141 #[.slice a L.length cap, .func (.func f) pre post] w fun e w' => ∃ r : Int, e = .returned (.int .i64 r) ∧ Below w.heap.size w w' ∧
      Hid ((r = -1 ∧ ∀ j, j < L.length → p (gi L j) = false) ∨ ∃ k : Nat, k < L.length ∧ r = k ∧ p (gi L k) = true ∧ ∀ j, j < k → p (gi L j) = false) := by
  have HP := Lib.hid hp
  clear hp
  go_enter Tryz.func141, Tryz.ntmps141
  go_wp2_with fail
  go_loopw [8] (fun i wr => ∃ k : Nat, k ≤ L.length ∧ i = .int .i64 k ∧ Below w.heap.size w wr ∧ Hid (∀ j, j < k → p (gi L j) = false)) (fun i _ => L.length - (intOf i).toNat)
  case atStart => exact ⟨0, Nat.zero_le _, rfl, Below.refl _ _, Lib.hid fun j hj => by omega⟩
  case round =>
    obtain ⟨k, hk, rfl, B, HA⟩ := hrel
    by_cases hlt : k < L.length
    · obtain ⟨b, o, rfl, hbl, hc0⟩ := hL.at hlt
      have hc := kept_cell B (hc0 k hlt) hbl
      have hcall := HP.out wr (gi L k) B (gi_mem hlt)
      have hs := B.size
      clear hc0
      cases hq : p (gi L k) with
      | true =>
        rw [hq] at hcall
        have HQ := Lib.hid hq
        clear hq
        go_wp2_with fail
        refine hcall.mono ?_
        rintro e w2 ⟨rfl, hb⟩
        go_wp2_with fail
        go_ret
        exact ⟨k, rfl, B.trans (hb.mono hs), Lib.hid (.inr ⟨k, hlt, rfl, HQ.out, HA.out⟩)⟩
      | false =>
        rw [hq] at hcall
        have HQ := Lib.hid hq
        clear hq
        go_wp2_with fail
        refine hcall.mono ?_
        rintro e w2 ⟨rfl, hb⟩
        go_wp2_with fail
        go_roundw
        case rel =>
          refine ⟨k + 1, by omega, by go_num, B.trans (hb.mono hs), Lib.hid fun j hj => ?_⟩
          by_cases e : j = k
          · subst e; exact HQ.out
          · exact HA.out j (by omega)
        case measure => simp [intOf]; omega
    · have ek : Hid (k = L.length) := Lib.hid (by omega)
      go_wp2_with fail
      go_ret
      exact ⟨-1, rfl, B, Lib.hid (.inl ⟨rfl, by rw [← ek.out]; exact HA.out⟩)⟩

theorem containsFunc_ints (a : Option Addr) (cap : Nat) (L : List Int) (f : Nat) (eg : ∀ args w, (callFunc f args).run Tryz.prog w = .ok (.enter f args) w) (pre post : Array Value) (p : Int → Bool) (w : World) (hl : L.length ≤ 4294967296)
    (hL : Ints w a L) (hp : ∀ (W : World) (x : Int), Below w.heap.size w W → x ∈ L → Calls Tryz.prog f (pre.push (.int .i64 x) ++ post) W fun e w' => e = .returned (.bool (p x)) ∧ Below W.heap.size W w') :
    Calls Tryz.prog 107 #[.slice a L.length cap, .func (.func f) pre post] w fun e w' => e = .returned (.bool (L.any p)) ∧ Below w.heap.size w w' := by
  have hidx := indexFunc_ints a cap L f eg pre post p w hl hL hp
  clear hp
  go_enter Tryz.func107, Tryz.ntmps107
  go_wp2_with fail
  refine hidx.mono ?_
  rintro e w1 ⟨r, rfl, hb, H⟩
  have hany : Hid (L.any p = decide (0 ≤ r)) := Lib.hid (by
    rw [Bool.eq_iff_iff, List.any_eq_true, decide_eq_true_eq]
    rcases H.out with ⟨h1, h2⟩ | ⟨k, h1, h2, h3, _⟩
    · constructor
      · rintro ⟨x, hx, hp⟩
        obtain ⟨j, hj, e⟩ := mem_gi hx
        have := h2 j hj
        rw [e, hp] at this; cases this
      · omega
    · exact ⟨fun _ => by omega, fun _ => ⟨_, gi_mem h1, h3⟩⟩)
  go_wp2_with fail
  go_ret
  exact ⟨ret_bool hany.out.symm, hb⟩

end Go.Proofs.YtcnnijeokefboaaGreatDoor

namespace Go.Proofs.YtcnnijeokefboaaGreatDoor
open Go.RowKit Go.Shelf Cv
set_option linter.unusedVariables false
set_option linter.unusedSimpArgs false
set_option maxRecDepth 100000

theorem isOther_any (qb : Nat) (q x : Int) (W : World) (h : W.cell? ⟨qb, 0, none⟩ = some (.int .i64 q)) :
    Calls Tryz.prog 106 #[.int .i64 x, .pointer (some ⟨qb, 0, none⟩)] W fun e w' => e = .returned (.bool (x != q)) ∧ Below W.heap.size W w' := by
  go_enter Tryz.func106, Tryz.ntmps106
  go_wp2
  go_ret
  exact ⟨rfl, Below.refl _ _⟩

set_option maxHeartbeats 1000000 in
theorem isPlain_any (ao : Option Addr) (S : List Int) (cap : Nat) (h1 : 1 ≤ S.length) (hn : S.length ≤ 4294967296) (w : World) (hS : Ints w ao S) :
    Calls Tryz.prog 54 #[.agg #[.slice ao S.length cap]] w fun e w' => e = .returned (.bool (isPl S)) ∧ Below w.heap.size w w' := by
  obtain ⟨b, o, rfl, hbl, hc⟩ := hS.at (show 0 < S.length by omega)
  have hc0 := hc 0 (by omega)
  have hk0 : (w.alloc (.cells #[.slice (some ⟨b, o, none⟩) S.length cap] 26)).cell? ⟨b, o + 0, none⟩ = some (.int .i64 (gi S 0)) := kept_cell ((Below.refl _ _).alloc (Nat.le_refl _) _) hc0 hbl
  rw [Nat.add_zero] at hk0
  clear hc hc0
  have HP := Lib.hid (isPl_any h1)
  by_cases hq : gi S 0 ≤ 3
  · obtain ⟨W2, hW2⟩ : ∃ W2, W2 = (w.alloc (.cells #[.slice (some ⟨b, o, none⟩) S.length cap] 26)).alloc (.cells #[.int .i64 (gi S 0)] 2) := ⟨_, rfl⟩
    have B2 : Below w.heap.size w W2 := by rw [hW2]; go_grown
    have s2 : W2.heap.size = w.heap.size + 1 + 1 := by rw [hW2]; simp
    have hnb : W2.cell? ⟨w.heap.size + 1, 0, none⟩ = some (.int .i64 (gi S 0)) := by
      have h := cell_new (w.alloc (.cells #[.slice (some ⟨b, o, none⟩) S.length cap] 26)) (.int .i64 (gi S 0)) 2
      rw [World.size_alloc] at h; rw [hW2]; exact h
    have HW2 := Lib.hid hW2
    have hcont := containsFunc_ints (some ⟨b, o, none⟩) cap S 106 (enters_of Tryz.func106 (by kernel_rfl) rfl) #[] #[.pointer (some ⟨w.heap.size + 1, 0, none⟩)] (fun x => x != gi S 0) W2 hn (hS.below B2) (fun W' x hb' _ => isOther_any (w.heap.size + 1) (gi S 0) x W' (kept_cell hb' hnb (by omega)))
    clear hW2
    go_enter Tryz.func54, Tryz.ntmps54
    go_wp2_with fail
    rw [← HW2.out]
    refine hcont.mono ?_
    rintro e w3 ⟨rfl, hb3⟩
    go_wp2_with fail
    go_ret
    exact ⟨ret_bool (by rw [HP.out, decide_eq_true hq]; rfl), B2.trans (hb3.mono (by omega))⟩
  · go_enter Tryz.func54, Tryz.ntmps54
    go_wp2_with fail
    go_ret
    exact ⟨ret_bool (by rw [HP.out, decide_eq_false (by omega)]; rfl), by go_grown⟩

set_option maxHeartbeats 1000000 in
theorem l05Plain_any (ao : Option Addr) (S : List Int) (cap : Nat) (hn : S.length ≤ 4294967296) (w : World) (hS : Ints w ao S) :
    Calls Tryz.prog 56 #[.agg #[.slice ao S.length cap]] w fun e w' => e = .returned (.bool (isPl S)) ∧ Below w.heap.size w w' := by
  have B0 : Below w.heap.size w (w.alloc (.cells #[.slice ao S.length cap] 26)) := by go_grown
  have c0 := cell_new w (.slice ao S.length cap) 26
  have l0 := lt_alloc w (.cells #[.slice ao S.length cap] 26)
  go_enter Tryz.func56, Tryz.ntmps56
  go_wp2_with fail
  go_loopw [7] (fun i wr => ∃ k : Nat, k ≤ S.length ∧ i = .int .i64 k ∧ Hid (∀ j, j < k → gi S j = gi S 0 ∧ gi S j ≤ 3) ∧ wr.cell? ⟨w.heap.size, 0, none⟩ = some (.slice ao S.length cap) ∧ w.heap.size < wr.heap.size ∧ Below w.heap.size w wr) (fun i _ => S.length - (intOf i).toNat)
  case atStart => exact ⟨0, Nat.zero_le _, rfl, Lib.hid fun j h => by omega, c0, l0, B0⟩
  case round =>
    clear c0 l0 B0
    obtain ⟨k, hk, rfl, HK, c, l, B⟩ := hrel
    by_cases hlt : k < S.length
    · obtain ⟨b, o, rfl, hbl, hc⟩ := hS.at hlt
      have hck := kept_cell B (hc k hlt) hbl
      have hc0 := kept_cell B (hc 0 (by omega)) hbl
      rw [Nat.add_zero] at hc0
      have i1 : (0 : Int) ≤ (k : Int) := by omega
      have i2 : (k : Int) < (S.length : Int) := by omega
      have i3 : (0 : Int) < (S.length : Int) := by omega
      clear hc
      by_cases hq : gi S k = gi S 0
      · have e1 : (gi S k != gi S 0) = false := by simp [hq]
        by_cases hq3 : 3 < gi S k
        · have HQ := Lib.hid (isPl_not hlt (by omega))
          have hd : decide (3 < gi S k) = true := by simpa using hq3
          clear hq hq3
          go_wp2_with fail
          go_quiet (fail)
          go_wp2_with fail
          go_ret
          exact ⟨ret_bool HQ.out.symm, below_drewN B _⟩
        · have HQ := Lib.hid (And.intro hq (show gi S k ≤ 3 by omega))
          have hd : decide (3 < gi S k) = false := by simpa using hq3
          clear hq hq3
          go_wp2_with fail
          go_quiet (fail)
          go_wp2_with fail
          go_roundw
          case rel =>
            refine ⟨k + 1, by omega, by go_num, Lib.hid fun j hj => ?_, c, l, below_drewN B _⟩
            by_cases e : j = k
            · subst e; exact HQ.out
            · exact HK.out j (by omega)
          case measure => simp [intOf]; omega
      · have HQ := Lib.hid (isPl_not hlt (by omega))
        have e1 : (gi S k != gi S 0) = true := by simpa using hq
        clear hq
        go_wp2_with fail
        go_quiet (fail)
        go_wp2_with fail
        go_ret
        exact ⟨ret_bool HQ.out.symm, below_drewN B _⟩
    · have HP : Hid (isPl S = true) := Lib.hid ((isPl_iff S).2 fun j hj => HK.out j (by omega))
      go_wp2_with fail
      go_ret
      exact ⟨ret_bool HP.out.symm, B⟩

theorem impl_IsPlain (ao : Option Addr) (S : List Int) (cap : Nat) (hn : S.length ≤ 4294967296) (w : World) (hS : Ints w ao S) :
    Calls Tryz.prog 9 #[.agg #[.slice ao S.length cap]] w fun e w' => e = .returned (.tuple #[.bool (vIsPl S), .int .i64 (eSp S)]) ∧ Below w.heap.size w w' := by
  have B0 : Below w.heap.size w (w.alloc (.cells #[.slice ao S.length cap] 26)) := by go_grown
  cases hsp : isSp S with
  | true =>
    have HV : Hid (vIsPl S = isPl S) := Lib.hid (by unfold vIsPl; rw [if_pos hsp])
    have HE : Hid (eSp S = 0) := Lib.hid (by unfold eSp; rw [if_pos hsp])
    have hlo := ((isSp_iff S).1 hsp).lo
    go_enter Tryz.func9, Tryz.ntmps9
    go_wp2_with fail
    refine (IsSpace_any ao S cap _ hn (hS.below B0)).mono ?_
    rw [hsp]
    rintro e w1 ⟨rfl, hb1⟩
    have B1 := B0.trans (hb1.mono (by simp))
    have c0 := kept_cell hb1 (cell_new w (.slice ao S.length cap) 26) (lt_alloc _ _)
    clear hb1 B0
    go_wp2_with fail
    refine (isPlain_any ao S cap hlo hn _ (hS.below B1)).mono ?_
    rintro e w2 ⟨rfl, hb2⟩
    go_wp2_with fail
    go_ret2
    exact ⟨by rw [HV.out, HE.out]; rfl, B1.trans (hb2.mono B1.size)⟩
  | false =>
    have HV : Hid (vIsPl S = false) := Lib.hid (by unfold vIsPl; rw [if_neg (by rw [hsp]; decide)])
    have HE : Hid (eSp S = 1) := Lib.hid (by unfold eSp; rw [if_neg (by rw [hsp]; decide)])
    go_enter Tryz.func9, Tryz.ntmps9
    go_wp2_with fail
    refine (IsSpace_any ao S cap _ hn (hS.below B0)).mono ?_
    rw [hsp]
    rintro e w1 ⟨rfl, hb1⟩
    have B1 := B0.trans (hb1.mono (by simp))
    go_wp2_with fail
    go_ret2
    exact ⟨by rw [HV.out, HE.out]; rfl, B1⟩

theorem spec_IsPlain (ao : Option Addr) (S : List Int) (cap : Nat) (hn : S.length ≤ 4294967296) (w : World) (hS : Ints w ao S) :
    Calls Tryz.prog 10 #[.agg #[.slice ao S.length cap]] w fun e w' => e = .returned (.tuple #[.bool (vIsPl S), .int .i64 (eSp S)]) ∧ Below w.heap.size w w' := by
  have B0 : Below w.heap.size w (w.alloc (.cells #[.slice ao S.length cap] 26)) := by go_grown
  cases hsp : isSp S with
  | true =>
    have HV : Hid (vIsPl S = isPl S) := Lib.hid (by unfold vIsPl; rw [if_pos hsp])
    have HE : Hid (eSp S = 0) := Lib.hid (by unfold eSp; rw [if_pos hsp])
    go_enter Tryz.func10, Tryz.ntmps10
    go_wp2_with fail
    refine (l01Is_any ao S cap _ hn (hS.below B0)).mono ?_
    rw [hsp]
    rintro e w1 ⟨rfl, hb1⟩
    have B1 := B0.trans (hb1.mono (by simp))
    have c0 := kept_cell hb1 (cell_new w (.slice ao S.length cap) 26) (lt_alloc _ _)
    clear hb1 B0
    go_wp2_with fail
    refine (l05Plain_any ao S cap hn _ (hS.below B1)).mono ?_
    rintro e w2 ⟨rfl, hb2⟩
    go_wp2_with fail
    go_ret2
    exact ⟨by rw [HV.out, HE.out]; rfl, B1.trans (hb2.mono B1.size)⟩
  | false =>
    have HV : Hid (vIsPl S = false) := Lib.hid (by unfold vIsPl; rw [if_neg (by rw [hsp]; decide)])
    have HE : Hid (eSp S = 1) := Lib.hid (by unfold eSp; rw [if_neg (by rw [hsp]; decide)])
    go_enter Tryz.func10, Tryz.ntmps10
    go_wp2_with fail
    refine (l01Is_any ao S cap _ hn (hS.below B0)).mono ?_
    rw [hsp]
    rintro e w1 ⟨rfl, hb1⟩
    have B1 := B0.trans (hb1.mono (by simp))
    go_wp2_with fail
    go_ret2
    exact ⟨by rw [HV.out, HE.out]; rfl, B1⟩

end Go.Proofs.YtcnnijeokefboaaGreatDoor

namespace Go.Proofs.YtcnnijeokefboaaGreatDoor
open Go.RowKit Cv
set_option linter.unusedVariables false
set_option linter.unusedSimpArgs false
set_option maxRecDepth 100000

/-- a function value that answers p at the numbers of L, in every world in which what lay below n lies still -/
def PredN (f : Nat) (pre post : Array Value) (p : Int → Bool) (n : Nat) (w : World) (L : List Int) : Prop :=
  ∀ (W : World) (x : Int), Below n w W → x ∈ L → Calls Tryz.prog f (pre.push (.int .i64 x) ++ post) W fun e w' => e = .returned (.bool (p x)) ∧ Below W.heap.size W w'

theorem indexFunc_any (n g cap : Nat) (L : List Int) (f : Nat) (eg : ∀ args w, (callFunc f args).run Tryz.prog w = .ok (.enter f args) w) (pre post : Array Value) (p : Int → Bool) (w : World) (hl : L.length ≤ 4294967296)
    (hrow : OwnInts w n (.slice (some ⟨g, 0, none⟩) L.length cap) L) (hp : PredN f pre post p n w L) :
    Calls Tryz.prog 141 #[.slice (some ⟨g, 0, none⟩) L.length cap, .func (.func f) pre post] w fun e w' => ∃ r : Int, e = .returned (.int .i64 r) ∧ Below w.heap.size w w' ∧
      Hid ((r = -1 ∧ ∀ j, j < L.length → p (gi L j) = false) ∨ ∃ k : Nat, k < L.length ∧ r = k ∧ p (gi L k) = true ∧ ∀ j, j < k → p (gi L j) = false) := by
  obtain ⟨hb1, hb2⟩ := hrow.base_le
  have hcell : ∀ j, j < L.length → w.cell? ⟨g, j, none⟩ = some (.int .i64 (gi L j)) := fun j hj => hrow.cell hj
  have HP := Lib.hid hp
  clear hp
  go_enter Tryz.func141, Tryz.ntmps141
  go_wp2_with fail
  go_loopw [8] (fun i wr => ∃ k : Nat, k ≤ L.length ∧ i = .int .i64 k ∧ Below w.heap.size w wr ∧ Hid (∀ j, j < k → p (gi L j) = false)) (fun i _ => L.length - (intOf i).toNat)
  case atStart => exact ⟨0, Nat.zero_le _, rfl, Below.refl _ _, Lib.hid fun j hj => by omega⟩
  case round =>
    obtain ⟨k, hk, rfl, B, HA⟩ := hrel
    by_cases hlt : k < L.length
    · have hc := kept_cell B (hcell k hlt) hb2
      have hcall := HP.out wr (gi L k) (B.mono (by omega)) (gi_mem hlt)
      have hs := B.size
      cases hq : p (gi L k) with
      | true =>
        rw [hq] at hcall
        have HQ := Lib.hid hq
        clear hq
        go_wp2_with fail
        refine hcall.mono ?_
        rintro e w2 ⟨rfl, hb⟩
        go_wp2_with fail
        go_ret
        exact ⟨k, rfl, B.trans (hb.mono hs), Lib.hid (.inr ⟨k, hlt, rfl, HQ.out, HA.out⟩)⟩
      | false =>
        rw [hq] at hcall
        have HQ := Lib.hid hq
        clear hq
        go_wp2_with fail
        refine hcall.mono ?_
        rintro e w2 ⟨rfl, hb⟩
        go_wp2_with fail
        go_roundw
        case rel =>
          refine ⟨k + 1, by omega, by go_num, B.trans (hb.mono hs), Lib.hid fun j hj => ?_⟩
          by_cases e : j = k
          · subst e; exact HQ.out
          · exact HA.out j (by omega)
        case measure => simp [intOf]; omega
    · have ek : Hid (k = L.length) := Lib.hid (by omega)
      go_wp2_with fail
      go_ret
      exact ⟨-1, rfl, B, Lib.hid (.inl ⟨rfl, by rw [← ek.out]; exact HA.out⟩)⟩

/-- what DeleteFunc has done with the first j numbers: i of them are kept -/
def DelI (q : Int → Bool) (L R : List Int) (i j : Nat) : Prop :=
  R.length = L.length ∧ i < j ∧ R.take i = (L.take j).filter q ∧ ((L.take j).filter q).length = i ∧ ∀ t, j ≤ t → gi R t = gi L t
theorem delI_start {q : Int → Bool} {L : List Int} {k : Nat} (hk : k < L.length) (ht : ∀ j, j < k → q (gi L j) = true) (hf : q (gi L k) = false) : DelI q L L k (k + 1) := by
  have e : (L.take (k + 1)).filter q = L.take k := by
    rw [take_snoc L k hk, List.filter_append]
    have e1 : (L.take k).filter q = L.take k := List.filter_eq_self.2 fun x hx => by
      obtain ⟨j, hj, e⟩ := mem_gi hx
      rw [List.length_take] at hj
      rw [gi_take L k j (by omega)] at e
      rw [← e]; exact ht j (by omega)
    rw [e1]; simp [hf]
  exact ⟨rfl, by omega, e.symm, by rw [e, List.length_take]; omega, fun _ _ => rfl⟩
theorem delI_skip {q : Int → Bool} {L R : List Int} {i j : Nat} (h : DelI q L R i j) (hj : j < L.length) (hf : q (gi L j) = false) : DelI q L R i (j + 1) := by
  obtain ⟨h1, h2, h3, h4, h5⟩ := h
  have e : (L.take (j + 1)).filter q = (L.take j).filter q := by rw [take_snoc L j hj, List.filter_append]; simp [hf]
  exact ⟨h1, by omega, by rw [e]; exact h3, by rw [e]; exact h4, fun t ht => h5 t (by omega)⟩
theorem delI_keep {q : Int → Bool} {L R : List Int} {i j : Nat} (h : DelI q L R i j) (hj : j < L.length) (hf : q (gi L j) = true) : DelI q L (R.set i (gi L j)) (i + 1) (j + 1) := by
  obtain ⟨h1, h2, h3, h4, h5⟩ := h
  have e : (L.take (j + 1)).filter q = (L.take j).filter q ++ [gi L j] := by rw [take_snoc L j hj, List.filter_append]; simp [hf]
  refine ⟨by rw [List.length_set]; exact h1, by omega, ?_, by rw [e, List.length_append, h4]; rfl, fun t ht => ?_⟩
  · rw [e, ← h3, take_snoc _ i (by rw [List.length_set]; omega), gi_set R i _ i (by omega), if_pos rfl]
    congr 1
    refine ext_gi (by simp) fun t ht => ?_
    rw [List.length_take, List.length_set] at ht
    rw [gi_take _ i t (by omega), gi_take _ i t (by omega), gi_set R i _ t (by omega), if_neg (by omega)]
  · rw [gi_set R i _ t (by omega), if_neg (by omega)]; exact h5 t (by omega)
theorem delI_end {q : Int → Bool} {L R : List Int} {i : Nat} (h : DelI q L R i L.length) : R.take i = L.filter q ∧ (L.filter q).length = i ∧ i < L.length := by
  obtain ⟨h1, h2, h3, h4, h5⟩ := h
  rw [List.take_length] at h3 h4
  exact ⟨h3, h4, h2⟩

theorem own_take {w : World} {base g n cap : Nat} {T : List Int} (h : OwnInts w base (.slice (some ⟨g, 0, none⟩) n cap) T) (k : Nat) (hk : k ≤ T.length) : OwnInts w base (.slice (some ⟨g, 0, none⟩) k cap) (T.take k) := by
  rcases h.2 with ⟨hv, _⟩ | ⟨g', c', cur, hv, hb, hh, hle, hm, hs, ht⟩
  · simp at hv
  · simp only [Value.slice.injEq, Option.some.injEq, Addr.mk.injEq, and_true, true_and] at hv
    obtain ⟨rfl, rfl, rfl⟩ := hv
    have e : (T.take k).length = k := by rw [List.length_take]; omega
    refine ⟨by simp, .inr ⟨g, cap, cur, by rw [e], hb, hh, by omega, hm, hs, ?_⟩⟩
    rw [e, List.map_take, ← ht, List.take_take]
    congr 1; omega
theorem own_zeros (g : Nat) (m : Nat) : ∀ (o : Nat) (w : World) (base n cap : Nat) (T : List Int), OwnInts w base (.slice (some ⟨g, 0, none⟩) n cap) T →
    ∃ T' : List Int, OwnInts (w.setCells g o (List.replicate m (.int .i64 0))) base (.slice (some ⟨g, 0, none⟩) n cap) T' ∧ T'.length = T.length ∧ T'.take o = T.take o := by
  induction m with
  | zero => intro o w base n cap T h; exact ⟨T, h, rfl, rfl⟩
  | succ m ih =>
    intro o w base n cap T h
    obtain ⟨T', h1, h2, h3⟩ := ih (o + 1) _ base n cap _ (h.stored o 0)
    refine ⟨T', h1, by rw [h2, List.length_set], ?_⟩
    have e := congrArg (List.take o) h3
    rw [List.take_take, List.take_take, Nat.min_eq_left (by omega)] at e
    rw [e, List.take_set_of_le (Nat.le_refl _)]
theorem below_zeros (g : Nat) (m : Nat) : ∀ (o n : Nat) (w0 w : World), Below n w0 w → n ≤ g → Below n w0 (w.setCells g o (List.replicate m (.int .i64 0))) := by
  induction m with
  | zero => intro o n w0 w h _; exact h
  | succ m ih => intro o n w0 w h hg; exact ih (o + 1) n w0 _ (h.setCell (by simpa using hg) _) hg

theorem below_of_grown {w w' : World} {g n : Nat} (hg : w.grownBy w' (some g)) (h1 : n ≤ g) (h2 : n ≤ w.heap.size) : Below n w w' := (Below.refl n w).grown hg h2 fun j hj => by cases hj; exact h1
theorem grown_zeros (g : Nat) (m : Nat) : ∀ (o : Nat) (w0 w : World), w0.grownBy w (some g) → w0.grownBy (w.setCells g o (List.replicate m (.int .i64 0))) (some g) := by
  induction m with
  | zero => intro o w0 w h; exact h
  | succ m ih => intro o w0 w h; exact ih (o + 1) w0 _ (grown_setCell h _ _)

set_option maxHeartbeats 1000000 in
theorem deleteFunc_any (n g cap : Nat) (L : List Int) (f : Nat) (eg : ∀ args w, (callFunc f args).run Tryz.prog w = .ok (.enter f args) w) (pre post : Array Value) (p : Int → Bool) (w : World) (hl : L.length ≤ 4294967296)
    (hrow : OwnInts w n (.slice (some ⟨g, 0, none⟩) L.length cap) L) (hp : PredN f pre post p n w L) :
    Calls Tryz.prog 112 #[.slice (some ⟨g, 0, none⟩) L.length cap, .func (.func f) pre post] w fun e w' => ∃ v, e = .returned v ∧ OwnInts w' n v (L.filter fun x => !p x) ∧ w.grownBy w' (some g) := by
  obtain ⟨hb1, hb2⟩ := hrow.base_le
  obtain ⟨hcap, hcm⟩ := own_cap hrow
  unfold maxLen at hcm
  have HP := Lib.hid hp
  have hIF := indexFunc_any n g cap L f eg pre post p w hl hrow hp
  clear hp
  go_enter Tryz.func112, Tryz.ntmps112
  go_wp2_with fail
  refine hIF.mono ?_
  rintro e w1 ⟨r, rfl, hb, HR⟩
  have own := hrow.below hb
  have B : w.grownBy w1 (some g) := grown_of_below hb _
  rcases HR.out with ⟨hr, hall⟩ | ⟨k0, hk0, hr, ht, hall⟩
  · subst hr
    have HE : Hid ((L.filter fun x => !p x) = L) := Lib.hid (List.filter_eq_self.2 fun x hx => by obtain ⟨j, hj, e⟩ := mem_gi hx; rw [← e, hall j hj]; rfl)
    clear hall
    go_wp2_with fail
    go_ret
    exact ⟨_, rfl, by rw [HE.out]; exact own, B⟩
  · subst hr
    have HS : Hid (DelI (fun x => !p x) L L k0 (k0 + 1)) := Lib.hid (delI_start hk0 (fun j hj => by rw [hall j hj]; rfl) (by rw [ht]; rfl))
    have hne : ((k0 : Int) == -1) = false := beq_eq_false_iff_ne.2 (by omega)
    clear hall ht
    go_wp2_with fail
    go_loopw [5, 6] (fun vi vj wr => ∃ (i j : Nat) (R : List Int), vi = .int .i64 i ∧ vj = .int .i64 j ∧ j ≤ L.length ∧ Hid (DelI (fun x => !p x) L R i j) ∧ OwnInts wr n (.slice (some ⟨g, 0, none⟩) L.length cap) R ∧ w.grownBy wr (some g)) (fun _ vj _ => L.length - (intOf vj).toNat)
    case atStart => exact ⟨k0, k0 + 1, L, rfl, by go_num, by omega, HS, own, B⟩
    case round =>
      clear own B
      obtain ⟨i, j, R, rfl, rfl, hj, HI, own, B⟩ := hrel
      have hij := HI.out.2.1
      have hRl := HI.out.1
      by_cases hlt : j < L.length
      · have hcj := own.cell (k := j) (by omega)
        have hci := own.cell (k := i) (by omega)
        have hfi := own.free i
        rw [HI.out.2.2.2.2 j (Nat.le_refl _)] at hcj
        have hcall := HP.out wr (gi L j) (below_of_grown B hb1 (by omega)) (gi_mem hlt)
        obtain ⟨x, hx⟩ : ∃ x, x = gi L j := ⟨_, rfl⟩
        rw [← hx] at hcj hcall
        have HX := Lib.hid hx
        have hs : w.heap.size ≤ wr.heap.size := B.size
        cases hq : p x with
        | true =>
          rw [hq] at hcall
          have HK : Hid (DelI (fun x => !p x) L R i (j + 1)) := Lib.hid (delI_skip HI.out hlt (by rw [← hx, hq]; rfl))
          clear hq hx
          go_wp2_with fail
          refine hcall.mono ?_
          rintro e w2 ⟨rfl, hb2'⟩
          go_wp2_with fail
          go_roundw
          case rel => exact ⟨i, j + 1, R, rfl, by go_num, by omega, HK, own.below hb2', grown_trans B (grown_of_below hb2' _)⟩
          case measure => simp [intOf]; omega
        | false =>
          rw [hq] at hcall
          have HK : Hid (DelI (fun x => !p x) L (R.set i x) (i + 1) (j + 1)) := Lib.hid (by rw [hx]; exact delI_keep HI.out hlt (by rw [← hx, hq]; rfl))
          clear hq hx
          go_wp2_with fail
          refine hcall.mono ?_
          rintro e w2 ⟨rfl, hb2'⟩
          have own2 := own.below hb2'
          have hci2 := own2.cell (k := i) (by omega)
          have hfi2 := own2.free i
          clear hci hfi hcj
          go_wp2_with fail
          go_roundw
          case rel => exact ⟨i + 1, j + 1, R.set i x, by go_num, by go_num, by omega, HK, own2.stored i x, grown_setCell (grown_trans B (grown_of_below hb2' _)) _ _⟩
          case measure => simp [intOf]; omega
      · obtain rfl : j = L.length := by omega
        obtain ⟨e1, e2, e3⟩ := delI_end HI.out
        have hce : ¬ cap = i := by omega
        have hcl : ∀ ty, (Builtin.clear_ #[24] ty #[.slice (some ⟨g, i, none⟩) (L.length - i) (cap - i)]).run Tryz.prog wr = .ok (.tuple #[]) (wr.setCells g i (List.replicate (L.length - i) (.int .i64 0))) :=
          fun ty => Lib.run_clear_slice wr _ _ ty _ Tryz.underlying24 (zero_of_info (n := 1) (v := .int .i64 0) (by kernel_rfl)).1 rfl rfl g i _ _ (by omega) (fun t ht => by rw [own.cell (k := i + t) (by omega)]; rfl) (fun t ht => own.free (i + t))
        obtain ⟨T', t1, t2, t3⟩ := own_zeros g (L.length - i) i wr n L.length cap R own
        have HB := grown_zeros g (L.length - i) i w wr B
        have HT : Hid (T'.take i = L.filter fun x => !p x) := Lib.hid (by rw [t3, e1])
        have t4 := own_take t1 i (by omega)
        clear own B e1 e2 t3 hrow hIF
        go_wp2_with fail
        go_ret
        exact ⟨_, rfl, by rw [← HT.out]; exact t4, HB⟩

end Go.Proofs.YtcnnijeokefboaaGreatDoor
