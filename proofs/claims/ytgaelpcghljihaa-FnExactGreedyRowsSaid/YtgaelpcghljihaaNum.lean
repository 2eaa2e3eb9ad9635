/-
  The contracts of what tells the errors of chapter 4. By an AI agent.
-/
import Derived.Test.YtgaelpcghljihaaMath
import Derived.Test.YtgaelpcghljihaaErr2
namespace Go.Proofs.Ytgaelpcghljihaa
open Go.RowKit Cv
set_option linter.unusedVariables false
set_option linter.unusedSimpArgs false
set_option maxRecDepth 100000

set_option maxHeartbeats 1000000 in
theorem l04Code_any (ao : Option Addr) (S : List Int) (cap : Nat) (hn : S.length ≤ 4294967296) (x lo hi : Int) (w : World) (hS : Ints w ao S) :
    Calls Try.prog 105 #[.agg #[.slice ao S.length cap], .int .i64 x, .int .i64 lo, .int .i64 hi] w fun e w' => e = .returned (.int .i64 (eNum S x lo hi)) ∧ Below w.heap.size w w' := by
  have B0 : Below w.heap.size w (w.alloc (.cells #[.slice ao S.length cap] 24)) := by go_grown
  by_cases hsp : isSp S = true
  · by_cases hx : lo ≤ x ∧ x ≤ hi
    · have HE := Lib.hid (eNum_ok hsp hx.1 hx.2)
      have B2 := inB_true (n := x) (low := lo) (high := hi) hx.1 hx.2
      clear hx
      go_enter Try.func105, Try.ntmps105
      go_wp2_with fail
      refine (l01Is_any ao S cap _ hn (hS.below B0)).mono ?_
      rintro e w1 ⟨rfl, hb⟩
      go_wp2_with (go_at_call 62; refine (l01In_any _ _ _ _).mono ?_; rintro e w' ⟨rfl, rfl⟩)
      go_ret
      exact ⟨ret_int HE.out.symm, B0.trans (hb.mono B0.size)⟩
    · have HE := Lib.hid (eNum_out hsp hx)
      have B2 := inB_false (n := x) (low := lo) (high := hi) hx
      clear hx
      go_enter Try.func105, Try.ntmps105
      go_wp2_with fail
      refine (l01Is_any ao S cap _ hn (hS.below B0)).mono ?_
      rintro e w1 ⟨rfl, hb⟩
      go_wp2_with (go_at_call 62; refine (l01In_any _ _ _ _).mono ?_; rintro e w' ⟨rfl, rfl⟩)
      go_ret
      exact ⟨ret_int HE.out.symm, B0.trans (hb.mono B0.size)⟩
  · have hsp' : isSp S = false := by simpa using hsp
    have HE := Lib.hid (eNum_inv (x := x) (lo := lo) (hi := hi) hsp')
    clear hsp
    go_enter Try.func105, Try.ntmps105
    go_wp2_with (go_at_call 100; refine (l01Is_any ao S cap _ hn (hS.below B0)).mono ?_; rintro e w1 ⟨rfl, hb⟩)
    go_ret
    exact ⟨ret_int HE.out.symm, B0.trans (hb.mono B0.size)⟩

set_option maxHeartbeats 1000000 in
theorem numberError_any (ao : Option Addr) (S : List Int) (cap : Nat) (hn : S.length ≤ 4294967296) (x lo hi : Int) (w : World) (hS : Ints w ao S) :
    Calls Try.prog 127 #[.agg #[.slice ao S.length cap], .int .i64 x, .int .i64 lo, .int .i64 hi] w fun e w' => e = .returned (.int .i64 (eNum S x lo hi)) ∧ Below w.heap.size w w' := by
  have B0 : Below w.heap.size w (w.alloc (.cells #[.slice ao S.length cap] 24)) := by go_grown
  by_cases hsp : isSp S = true
  · by_cases h1 : x < lo
    · have HE : Hid (eNum S x lo hi = 2) := Lib.hid (eNum_out hsp (by omega))
      have hd : decide (x < lo) = true := by simpa using h1
      go_enter Try.func127, Try.ntmps127
      go_wp2_with fail
      refine (IsSpace_any ao S cap _ hn (hS.below B0)).mono ?_
      rintro e w1 ⟨rfl, hb⟩
      go_wp2_with fail
      go_ret
      exact ⟨ret_int HE.out.symm, B0.trans (hb.mono B0.size)⟩
    · by_cases h2 : hi < x
      · have HE : Hid (eNum S x lo hi = 2) := Lib.hid (eNum_out hsp (by omega))
        have hd : decide (x < lo) = false := by simpa using h1
        have hd2 : decide (hi < x) = true := by simpa using h2
        go_enter Try.func127, Try.ntmps127
        go_wp2_with fail
        refine (IsSpace_any ao S cap _ hn (hS.below B0)).mono ?_
        rintro e w1 ⟨rfl, hb⟩
        go_wp2_with fail
        go_ret
        exact ⟨ret_int HE.out.symm, B0.trans (hb.mono B0.size)⟩
      · have HE : Hid (eNum S x lo hi = 0) := Lib.hid (eNum_ok hsp (by omega) (by omega))
        have hd : decide (x < lo) = false := by simpa using h1
        have hd2 : decide (hi < x) = false := by simpa using h2
        go_enter Try.func127, Try.ntmps127
        go_wp2_with fail
        refine (IsSpace_any ao S cap _ hn (hS.below B0)).mono ?_
        rintro e w1 ⟨rfl, hb⟩
        go_wp2_with fail
        go_ret
        exact ⟨ret_int HE.out.symm, B0.trans (hb.mono B0.size)⟩
  · have hsp' : isSp S = false := by simpa using hsp
    have HE := Lib.hid (eNum_inv (x := x) (lo := lo) (hi := hi) hsp')
    clear hsp
    go_enter Try.func127, Try.ntmps127
    go_wp2_with (go_at_call 121; refine (IsSpace_any ao S cap _ hn (hS.below B0)).mono ?_; rintro e w1 ⟨rfl, hb⟩)
    go_ret
    exact ⟨ret_int HE.out.symm, B0.trans (hb.mono B0.size)⟩

set_option maxHeartbeats 1000000 in
theorem l04Given_any (ao : Option Addr) (S : List Int) (cap : Nat) (hn : S.length ≤ 4294967296) (ac : Option Addr) (C : List Int) (capc : Nat) (hnc : C.length ≤ 4294967296) (d : Int) (w : World) (hS : Ints w ao S) (hC : Ints w ac C) :
    Calls Try.prog 111 #[.agg #[.slice ao S.length cap], .slice ac C.length capc, .int .i64 d] w fun e w' => e = .returned (.int .i64 (eAp S C d)) ∧ Below w.heap.size w w' := by
  have B0 : Below w.heap.size w (w.alloc (.cells #[.slice ao S.length cap] 24)) := by go_grown
  by_cases hz : eCode S C = 0
  · have hzb : (eCode S C == 0) = true := by simp [hz]
    by_cases hr : 1 ≤ d ∧ d ≤ 9
    · have HE : Hid (eAp S C d = eCode S C) := Lib.hid (by rw [eAp_ok hz hr.1 hr.2, hz])
      have B2 := inB_true (n := d) (low := 1) (high := 9) hr.1 hr.2
      clear hz hr
      go_enter Try.func111, Try.ntmps111
      go_wp2_with fail
      refine (l01Given_any ao S cap hn ac C capc hnc _ (hS.below B0) (hC.below B0)).mono ?_
      rintro e w1 ⟨rfl, hb⟩
      go_wp2_with (go_at_call 62; refine (l01In_any _ _ _ _).mono ?_; rintro e w' ⟨rfl, rfl⟩)
      go_ret
      exact ⟨ret_int HE.out.symm, B0.trans (hb.mono B0.size)⟩
    · have HE : Hid (eAp S C d = 2) := Lib.hid (eAp_out hz hr)
      have B2 := inB_false (n := d) (low := 1) (high := 9) hr
      clear hz hr
      go_enter Try.func111, Try.ntmps111
      go_wp2_with fail
      refine (l01Given_any ao S cap hn ac C capc hnc _ (hS.below B0) (hC.below B0)).mono ?_
      rintro e w1 ⟨rfl, hb⟩
      go_wp2_with (go_at_call 62; refine (l01In_any _ _ _ _).mono ?_; rintro e w' ⟨rfl, rfl⟩)
      go_ret
      exact ⟨ret_int HE.out.symm, B0.trans (hb.mono B0.size)⟩
  · have hzb : (eCode S C == 0) = false := by simpa using hz
    have HE : Hid (eAp S C d = eCode S C) := Lib.hid (eAp_bad hz)
    clear hz
    go_enter Try.func111, Try.ntmps111
    go_wp2_with fail
    refine (l01Given_any ao S cap hn ac C capc hnc _ (hS.below B0) (hC.below B0)).mono ?_
    rintro e w1 ⟨rfl, hb⟩
    go_wp2_with fail
    go_ret
    exact ⟨ret_int HE.out.symm, B0.trans (hb.mono B0.size)⟩

set_option maxHeartbeats 1000000 in
theorem apartError_any (ao : Option Addr) (S : List Int) (cap : Nat) (hn : S.length ≤ 4294967296) (ac : Option Addr) (C : List Int) (capc : Nat) (hnc : C.length ≤ 4294967296) (d : Int) (w : World) (hS : Ints w ao S) (hC : Ints w ac C) :
    Calls Try.prog 107 #[.agg #[.slice ao S.length cap], .slice ac C.length capc, .int .i64 d] w fun e w' => e = .returned (.int .i64 (eAp S C d)) ∧ Below w.heap.size w w' := by
  go_enter Try.func107, Try.ntmps107
  go_wp2_with fail
  have c0 := cell_new w (.slice ao S.length cap) 24
  have B0 : Below w.heap.size w (w.alloc (.cells #[.slice ao S.length cap] 24)) := by go_grown
  go_region_held3 (fun w' => w'.cell? ⟨w.heap.size, 0, none⟩ = some (.slice ao S.length cap)) (first | exact c0 | exact kept_cell hb1 c0 (lt_alloc _ _) | exact kept_cell hb2 (kept_cell hb1 c0 (lt_alloc _ _)) (lt_of_below hb1 (lt_alloc _ _)) | exact kept_cell hb3 (kept_cell hb1 c0 (lt_alloc _ _)) (lt_of_below hb1 (lt_alloc _ _))) (first | (go_at_call 59; refine (codeError_any ao S cap hn ac C capc hnc _ (hS.below B0.drew) (hC.below B0.drew)).mono ?_; rintro e w1 ⟨rfl, hb1'⟩; have hb1 := (Below.refl _ (w.alloc (.cells #[.slice ao S.length cap] 24))).drew.trans hb1'; have B1 := B0.trans (hb1.mono B0.size)) | (go_at_call 127; refine (numberError_any ao S cap hn d 1 9 _ (hS.below B1)).mono ?_; rintro e w2 ⟨rfl, hb2⟩; have hb3 := hb2.alloc (o := .cells #[.int .i64 (eCode S C), .int .i64 (eNum S d 1 9)] 2) hb2.size) | (go_at_call 65; refine (cmpOr2 _ (eCode S C) (eNum S d 1 9) _ _ (ints_new2 _ _ _ _ rfl)).mono ?_; rintro e w3 ⟨rfl, rfl⟩))
  go_wp2
  go_ret
  exact ⟨rfl, B1.trans (hb3.mono B1.size)⟩

theorem apartError_nil (ao : Option Addr) (S : List Int) (cap : Nat) (hn : S.length ≤ 4294967296) (d : Int) (w : World) (hS : Ints w ao S) :
    Calls Try.prog 107 #[.agg #[.slice ao S.length cap], .slice none 0 0, .int .i64 d] w fun e w' => e = .returned (.int .i64 (eNum S d 1 9)) ∧ Below w.heap.size w w' := by
  rw [← eAp_nil]
  exact apartError_any ao S cap hn none [] 0 (by simp) d w hS (.inl rfl)

end Go.Proofs.Ytgaelpcghljihaa
