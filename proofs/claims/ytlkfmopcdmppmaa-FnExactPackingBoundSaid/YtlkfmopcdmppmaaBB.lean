/-
  The contracts of BallBound and PackingBound. By an AI agent.
-/
import Derived.Test.YtlkfmopcdmppmaaNum
import Derived.Test.YtlkfmopcdmppmaaSize
import Derived.Test.YtlkfmopcdmppmaaSize2
namespace Go.Proofs.Ytlkfmopcdmppmaa
open Go.RowKit Cv
set_option linter.unusedVariables false
set_option linter.unusedSimpArgs false
set_option maxRecDepth 100000

set_option maxHeartbeats 1000000 in
theorem spec_BallBound (ao : Option Addr) (S : List Int) (cap : Nat) (hn : S.length ≤ 4294967296) (r : Int) (hr : -9223372036854775808 ≤ r ∧ r ≤ 9223372036854775807) (w : World) (hS : Ints w ao S) :
    Calls Try.prog 16 #[.agg #[.slice ao S.length cap], .int .i64 r] w fun e w' => e = .returned (.tuple #[.int .i64 (vBB S r), .int .i64 (eNum S r 0 8)]) ∧ Below w.heap.size w w' := by
  have B0 : Below w.heap.size w (w.alloc (.cells #[.slice ao S.length cap] 28)) := by go_grown
  by_cases he : eNum S r 0 8 = 0
  · obtain ⟨hSp, r0, r8⟩ := eNum_zero he
    have HSp := Lib.hid hSp
    have hen : (eNum S r 0 8 != 0) = false := by simp [he]
    have HE := Lib.hid he
    have HV : Hid (vBB S r = (nW S + sizeN S r - 1) / sizeN S r) := Lib.hid (by unfold vBB; rw [if_pos he])
    obtain ⟨N1, N2⟩ := nW_bd hSp
    obtain ⟨Z1, Z2⟩ := size_bd hSp r r0 r8
    clear he hSp
    go_enter Try.func16, Try.ntmps16
    go_wp2_with fail
    refine (l04Code_any ao S cap hn r 0 8 _ (hS.below B0)).mono ?_
    rintro e w1 ⟨rfl, hb⟩
    have c1 := kept_cell hb (cell_new w (.slice ao S.length cap) 28) (lt_alloc _ _)
    have l1 := lt_of_below hb (lt_alloc w (.cells #[.slice ao S.length cap] 28))
    have B1 : Below w.heap.size w w1 := B0.trans (hb.mono B0.size)
    clear hb B0
    go_wp2_with fail
    refine (l01Size_any ao S cap HSp.out r r0 r8 _ (hS.below B1)).mono ?_
    rintro e w2 ⟨rfl, hb2⟩
    have c2 := kept_cell hb2 c1 l1
    have B2 := B1.trans (hb2.mono B1.size)
    have E1 : IntKind.i64.wrap (nW S + sizeN S r) = nW S + sizeN S r := IntWalk.i64_in _ ⟨by omega, by omega⟩
    have E2 : IntKind.i64.wrap (nW S + sizeN S r - 1) = nW S + sizeN S r - 1 := IntWalk.i64_in _ ⟨by omega, by omega⟩
    have q0 : 0 ≤ (nW S + sizeN S r - 1) / sizeN S r := Int.ediv_nonneg (by omega) (by omega)
    have q1 : (nW S + sizeN S r - 1) / sizeN S r ≤ nW S + sizeN S r - 1 := Int.ediv_le_self _ (by omega)
    have E3 : IntKind.i64.wrap ((nW S + sizeN S r - 1) / sizeN S r) = (nW S + sizeN S r - 1) / sizeN S r := IntWalk.i64_in _ ⟨by omega, by omega⟩
    have E4 : (nW S + sizeN S r - 1).tdiv (sizeN S r) = (nW S + sizeN S r - 1) / sizeN S r := Int.tdiv_eq_ediv_of_nonneg (by omega)
    have hz : (sizeN S r == 0) = false := by simp; omega
    have hz2 : ¬ sizeN S r = 0 := by omega
    clear hb2 c1 l1 B1 q0 q1
    go_wp2_with fail
    refine (l01N_sp ao S cap _ HSp.out (hS.below B2)).mono ?_
    rintro e w3 ⟨rfl, hb3⟩
    go_wp2_with fail
    go_ret2
    exact ⟨by rw [HE.out, HV.out]; try rfl, B2.trans (hb3.mono B2.size)⟩
  · have hen : (eNum S r 0 8 != 0) = true := by simpa using he
    have HV : Hid (vBB S r = 0) := Lib.hid (by unfold vBB; rw [if_neg he])
    clear he
    go_enter Try.func16, Try.ntmps16
    go_wp2_with fail
    refine (l04Code_any ao S cap hn r 0 8 _ (hS.below B0)).mono ?_
    rintro e w1 ⟨rfl, hb⟩
    go_wp2_with fail
    go_ret2
    exact ⟨by rw [HV.out]; try rfl, B0.trans (hb.mono B0.size)⟩

set_option maxHeartbeats 1000000 in
theorem impl_BallBound (ao : Option Addr) (S : List Int) (cap : Nat) (hn : S.length ≤ 4294967296) (r : Int) (hr : -9223372036854775808 ≤ r ∧ r ≤ 9223372036854775807) (w : World) (hS : Ints w ao S) :
    Calls Try.prog 18 #[.agg #[.slice ao S.length cap], .int .i64 r] w fun e w' => e = .returned (.tuple #[.int .i64 (vBB S r), .int .i64 (eNum S r 0 8)]) ∧ Below w.heap.size w w' := by
  have B0 : Below w.heap.size w (w.alloc (.cells #[.slice ao S.length cap] 28)) := by go_grown
  have HEB := Lib.hid (eBall_num S r)
  by_cases he : eNum S r 0 8 = 0
  · obtain ⟨hSp, r0, r8⟩ := eNum_zero he
    have HSp := Lib.hid hSp
    have hen : (eNum S r 0 8 != 0) = false := by simp [he]
    have HE := Lib.hid he
    have HV : Hid (vBB S r = (nW S + sizeN S r - 1) / sizeN S r) := Lib.hid (by unfold vBB; rw [if_pos he])
    have HZ : Hid (vSize S r = sizeN S r) := Lib.hid (by unfold vSize; rw [if_pos (by rw [eBall_num]; exact he)])
    obtain ⟨N1, N2⟩ := nW_bd hSp
    obtain ⟨Z1, Z2⟩ := size_bd hSp r r0 r8
    clear he hSp
    go_enter Try.func18, Try.ntmps18
    go_wp2_with fail
    refine (impl_BallSize ao S cap hn r hr _ (hS.below B0)).mono ?_
    rintro e w1 ⟨rfl, hb⟩
    rw [HEB.out, HZ.out]
    have c1 := kept_cell hb (cell_new w (.slice ao S.length cap) 28) (lt_alloc _ _)
    have B1 : Below w.heap.size w w1 := B0.trans (hb.mono B0.size)
    have E1 : IntKind.i64.wrap (nW S + sizeN S r) = nW S + sizeN S r := IntWalk.i64_in _ ⟨by omega, by omega⟩
    have E2 : IntKind.i64.wrap (nW S + sizeN S r - 1) = nW S + sizeN S r - 1 := IntWalk.i64_in _ ⟨by omega, by omega⟩
    have q0 : 0 ≤ (nW S + sizeN S r - 1) / sizeN S r := Int.ediv_nonneg (by omega) (by omega)
    have q1 : (nW S + sizeN S r - 1) / sizeN S r ≤ nW S + sizeN S r - 1 := Int.ediv_le_self _ (by omega)
    have E3 : IntKind.i64.wrap ((nW S + sizeN S r - 1) / sizeN S r) = (nW S + sizeN S r - 1) / sizeN S r := IntWalk.i64_in _ ⟨by omega, by omega⟩
    have E4 : (nW S + sizeN S r - 1).tdiv (sizeN S r) = (nW S + sizeN S r - 1) / sizeN S r := Int.tdiv_eq_ediv_of_nonneg (by omega)
    have hz : (sizeN S r == 0) = false := by simp; omega
    have hz2 : ¬ sizeN S r = 0 := by omega
    clear hb B0 q0 q1
    go_wp2_with fail
    refine (wordCount_sp ao S cap _ HSp.out (hS.below B1)).mono ?_
    rintro e w3 ⟨rfl, hb3⟩
    go_wp2_with fail
    go_ret2
    exact ⟨by rw [HE.out, HV.out]; try rfl, B1.trans (hb3.mono B1.size)⟩
  · have hen : (eNum S r 0 8 != 0) = true := by simpa using he
    have HV : Hid (vBB S r = 0) := Lib.hid (by unfold vBB; rw [if_neg he])
    have HZ : Hid (vSize S r = 0) := Lib.hid (by unfold vSize; rw [if_neg (by rw [eBall_num]; exact he)])
    clear he
    go_enter Try.func18, Try.ntmps18
    go_wp2_with fail
    refine (impl_BallSize ao S cap hn r hr _ (hS.below B0)).mono ?_
    rintro e w1 ⟨rfl, hb⟩
    rw [HEB.out, HZ.out]
    go_wp2_with fail
    go_ret2
    exact ⟨by rw [HV.out]; try rfl, B0.trans (hb.mono B0.size)⟩

set_option maxHeartbeats 1000000 in
theorem spec_PackingBound (ao : Option Addr) (S : List Int) (cap : Nat) (hn : S.length ≤ 4294967296) (d : Int) (hd : -9223372036854775808 ≤ d ∧ d ≤ 9223372036854775807) (w : World) (hS : Ints w ao S) :
    Calls Try.prog 20 #[.agg #[.slice ao S.length cap], .int .i64 d] w fun e w' => e = .returned (.tuple #[.int .i64 (vPack S d), .int .i64 (eNum S d 1 9)]) ∧ Below w.heap.size w w' := by
  have B0 : Below w.heap.size w (w.alloc (.cells #[.slice ao S.length cap] 28)) := by go_grown
  by_cases he : eNum S d 1 9 = 0
  · obtain ⟨hSp, d1, d9⟩ := eNum_zero he
    have HSp := Lib.hid hSp
    have hen : (eNum S d 1 9 != 0) = false := by simp [he]
    have HE := Lib.hid he
    have HV : Hid (vPack S d = nW S / sizeN S ((d - 1) / 2)) := Lib.hid (by unfold vPack; rw [if_pos he])
    obtain ⟨N1, N2⟩ := nW_bd hSp
    have F1 : IntKind.i64.wrap (d - 1) = d - 1 := IntWalk.i64_in _ ⟨by omega, by omega⟩
    have F2 : (d - 1).tdiv 2 = (d - 1) / 2 := Int.tdiv_eq_ediv_of_nonneg (by omega)
    have F3 : IntKind.i64.wrap ((d - 1) / 2) = (d - 1) / 2 := IntWalk.i64_in _ ⟨by omega, by omega⟩
    have r0 : 0 ≤ (d - 1) / 2 := by omega
    have r8 : (d - 1) / 2 ≤ 8 := by omega
    obtain ⟨r, hr⟩ : ∃ r, r = (d - 1) / 2 := ⟨_, rfl⟩
    rw [← hr] at F2 F3 r0 r8 HV
    obtain ⟨Z1, Z2⟩ := size_bd hSp r r0 r8
    have q0 : 0 ≤ nW S / sizeN S r := Int.ediv_nonneg (by omega) (by omega)
    have q1 : nW S / sizeN S r ≤ nW S := Int.ediv_le_self _ (by omega)
    have E3 : IntKind.i64.wrap (nW S / sizeN S r) = nW S / sizeN S r := IntWalk.i64_in _ ⟨by omega, by omega⟩
    have E4 : (nW S).tdiv (sizeN S r) = nW S / sizeN S r := Int.tdiv_eq_ediv_of_nonneg (by omega)
    have hz : (sizeN S r == 0) = false := by simp; omega
    have hz2 : ¬ sizeN S r = 0 := by omega
    clear he hSp hr q0 q1
    go_enter Try.func20, Try.ntmps20
    go_wp2_with fail
    refine (l04Code_any ao S cap hn d 1 9 _ (hS.below B0)).mono ?_
    rintro e w1 ⟨rfl, hb⟩
    have c1 := kept_cell hb (cell_new w (.slice ao S.length cap) 28) (lt_alloc _ _)
    have l1 := lt_of_below hb (lt_alloc w (.cells #[.slice ao S.length cap] 28))
    have B1 : Below w.heap.size w w1 := B0.trans (hb.mono B0.size)
    clear hb B0
    go_wp2_with fail
    have fc := fam_cell c1
    refine wp_region_fam (by kernel_rfl) (by kernel_rfl) ?_
    repeat (go_big_quiet_step (first | (go_at_call 51; exact fam_calls (l01N_sp ao S cap _ HSp.out (hS.below (B1.trans ((fam_below _).mono B1.size))))) | (go_at_call 50; exact fam_calls (l01Size_any ao S cap HSp.out r r0 r8 _ (hS.below (B1.trans ((fam_below _).mono B1.size)))))))
    refine wpQuiet_nil ?_
    rintro _ ⟨y, rfl⟩
    have hb2 := fam_below y
    generalize fam w1 y = w2 at hb2 ⊢
    clear fc
    go_wp2_with fail
    go_ret2
    exact ⟨by rw [HE.out, HV.out]; try rfl, B1.trans (hb2.mono B1.size)⟩
  · have hen : (eNum S d 1 9 != 0) = true := by simpa using he
    have HV : Hid (vPack S d = 0) := Lib.hid (by unfold vPack; rw [if_neg he])
    clear he
    go_enter Try.func20, Try.ntmps20
    go_wp2_with fail
    refine (l04Code_any ao S cap hn d 1 9 _ (hS.below B0)).mono ?_
    rintro e w1 ⟨rfl, hb⟩
    go_wp2_with fail
    go_ret2
    exact ⟨by rw [HV.out]; try rfl, B0.trans (hb.mono B0.size)⟩

set_option maxHeartbeats 1000000 in
theorem impl_PackingBound (ao : Option Addr) (S : List Int) (cap : Nat) (hn : S.length ≤ 4294967296) (d : Int) (hd : -9223372036854775808 ≤ d ∧ d ≤ 9223372036854775807) (w : World) (hS : Ints w ao S) :
    Calls Try.prog 21 #[.agg #[.slice ao S.length cap], .int .i64 d] w fun e w' => e = .returned (.tuple #[.int .i64 (vPack S d), .int .i64 (eNum S d 1 9)]) ∧ Below w.heap.size w w' := by
  have B0 : Below w.heap.size w (w.alloc (.cells #[.slice ao S.length cap] 28)) := by go_grown
  by_cases he : eNum S d 1 9 = 0
  · obtain ⟨hSp, d1, d9⟩ := eNum_zero he
    have HSp := Lib.hid hSp
    have hen : (eNum S d 1 9 != 0) = false := by simp [he]
    have HE := Lib.hid he
    have HV : Hid (vPack S d = nW S / sizeN S ((d - 1) / 2)) := Lib.hid (by unfold vPack; rw [if_pos he])
    obtain ⟨N1, N2⟩ := nW_bd hSp
    have F1 : IntKind.i64.wrap (d - 1) = d - 1 := IntWalk.i64_in _ ⟨by omega, by omega⟩
    have F2 : (d - 1).tdiv 2 = (d - 1) / 2 := Int.tdiv_eq_ediv_of_nonneg (by omega)
    have F3 : IntKind.i64.wrap ((d - 1) / 2) = (d - 1) / 2 := IntWalk.i64_in _ ⟨by omega, by omega⟩
    have r0 : 0 ≤ (d - 1) / 2 := by omega
    have r8 : (d - 1) / 2 ≤ 8 := by omega
    obtain ⟨r, hr⟩ : ∃ r, r = (d - 1) / 2 := ⟨_, rfl⟩
    rw [← hr] at F2 F3 r0 r8 HV
    obtain ⟨Z1, Z2⟩ := size_bd hSp r r0 r8
    have he2 : eNum S r 0 8 = 0 := eNum_ok ((isSp_iff S).2 hSp) r0 r8
    have HEB : Hid (eBall S 0 r = 0) := Lib.hid (by rw [eBall_num]; exact he2)
    have HZ : Hid (vSize S r = sizeN S r) := Lib.hid (by unfold vSize; rw [if_pos HEB.out])
    have q0 : 0 ≤ nW S / sizeN S r := Int.ediv_nonneg (by omega) (by omega)
    have q1 : nW S / sizeN S r ≤ nW S := Int.ediv_le_self _ (by omega)
    have E3 : IntKind.i64.wrap (nW S / sizeN S r) = nW S / sizeN S r := IntWalk.i64_in _ ⟨by omega, by omega⟩
    have E4 : (nW S).tdiv (sizeN S r) = nW S / sizeN S r := Int.tdiv_eq_ediv_of_nonneg (by omega)
    have hz : (sizeN S r == 0) = false := by simp; omega
    have hz2 : ¬ sizeN S r = 0 := by omega
    clear he hSp hr q0 q1 he2
    go_enter Try.func21, Try.ntmps21
    go_wp2_with fail
    refine (apartError_nil ao S cap hn d _ (hS.below B0)).mono ?_
    rintro e w1 ⟨rfl, hb⟩
    have c1 := kept_cell hb (cell_new w (.slice ao S.length cap) 28) (lt_alloc _ _)
    have l1 := lt_of_below hb (lt_alloc w (.cells #[.slice ao S.length cap] 28))
    have B1 : Below w.heap.size w w1 := B0.trans (hb.mono B0.size)
    clear hb B0
    go_wp2_with fail
    refine (impl_BallSize ao S cap hn r ⟨by omega, by omega⟩ _ (hS.below B1)).mono ?_
    rintro e w2 ⟨rfl, hb2⟩
    rw [HEB.out, HZ.out]
    have c2 := kept_cell hb2 c1 l1
    have B2 := B1.trans (hb2.mono B1.size)
    clear hb2 c1 l1 B1
    go_wp2_with fail
    refine (wordCount_sp ao S cap _ HSp.out (hS.below B2)).mono ?_
    rintro e w3 ⟨rfl, hb3⟩
    go_wp2_with fail
    go_ret2
    exact ⟨by rw [HE.out, HV.out]; try rfl, B2.trans (hb3.mono B2.size)⟩
  · have hen : (eNum S d 1 9 != 0) = true := by simpa using he
    have HV : Hid (vPack S d = 0) := Lib.hid (by unfold vPack; rw [if_neg he])
    clear he
    go_enter Try.func21, Try.ntmps21
    go_wp2_with fail
    refine (apartError_nil ao S cap hn d _ (hS.below B0)).mono ?_
    rintro e w1 ⟨rfl, hb⟩
    go_wp2_with fail
    go_ret2
    exact ⟨by rw [HV.out]; try rfl, B0.trans (hb.mono B0.size)⟩

end Go.Proofs.Ytlkfmopcdmppmaa
