/-
  The contracts of the functions of the first chapter that check words and hand on. By an AI agent.
-/
import Derived.Test.YtjjcpbhmpjedoaaSums2
import Derived.Test.YtjjcpbhmpjedoaaMath
namespace Go.Proofs.Ytjjcpbhmpjedoaa
open Go.RowKit Cv
set_option linter.unusedVariables false
set_option linter.unusedSimpArgs false
set_option maxRecDepth 100000

theorem ret2 {a b c d : Int} (h1 : a = b) (h2 : c = d) : Ending.returned (.tuple #[.int .i64 a, .int .i64 c]) = .returned (.tuple #[.int .i64 b, .int .i64 d]) := by rw [h1, h2]
theorem own_nil (w : World) (base : Nat) : OwnInts w base (.slice none 0 0) [] := World.ownsRow_nil _ _ _ _

set_option maxHeartbeats 1000000 in
theorem spec_DigitsOf (ao : Option Addr) (S : List Int) (cap : Nat) (hn : S.length ≤ 4294967296) (x : Int) (hx : -9223372036854775808 ≤ x ∧ x ≤ 9223372036854775807) (w : World) (hS : Ints w ao S) :
    Calls Try.prog 16 #[.agg #[.slice ao S.length cap], .int .i64 x] w fun e w' => ∃ v, e = .returned (.tuple #[v, .int .i64 (eWords S [x])]) ∧ OwnInts w' w.heap.size v (vDigits S x) ∧ Below w.heap.size w w' := by
  by_cases hz : eWords S [x] = 0
  · obtain ⟨hSp, x1, x2⟩ := eWords1 hz
    obtain ⟨N1, N2⟩ := nW_bd hSp
    have HV := Lib.hid (show vDigits S x = digs S x from by simp only [vDigits, if_pos hz])
    have HSp := Lib.hid hSp
    have hlo := hSp.lo
    have hhi := hSp.hi
    have hzb : (eWords S [x] == 0) = true := by simp [hz]
    have hzn : (eWords S [x] != 0) = false := by simp [hz]
    have HZ := Lib.hid hz
    clear hz hSp
    go_enter Try.func16, Try.ntmps16
    go_wp2_with fail
    have B0 : Below w.heap.size w ((w.alloc (.cells #[.slice ao S.length cap] 26)).alloc (.cells #[.int .i64 x] 2)) := by go_grown
    have c0 : (((w.alloc (.cells #[.slice ao S.length cap] 26)).alloc (.cells #[.int .i64 x] 2))).cell? ⟨w.heap.size, 0, none⟩ = some (.slice ao S.length cap) := kept_cell ((Below.refl _ (w.alloc (.cells #[.slice ao S.length cap] 26))).alloc (Nat.le_refl _) _) (cell_new _ _ _) (lt_alloc _ _)
    refine (l01Words_n ao S cap hn _ [x] 1 _ rfl (by omega) _ (hS.below B0) (ints_new1 _ x _ (by simp))).mono ?_
    rintro e w1 ⟨rfl, hb⟩
    have c1 := kept_cell hb c0 (by simp; omega)
    have B1 : Below w.heap.size w w1 := B0.trans (hb.mono (by simp; omega))
    clear hb c0 B0
    go_wp2_with fail
    refine (l01Digits_any ao S cap hhi HSp.out.bd x x1 (by omega) _ (hS.below B1)).mono ?_
    rintro e w2 ⟨g, rfl, own, hb⟩
    go_wp2_with fail
    go_ret2
    exact ⟨_, by rw [HZ.out]; rfl, by rw [HV.out]; exact own.rebase B1.size, B1.trans (hb.mono B1.size)⟩
  · have HV := Lib.hid (show vDigits S x = [] from by simp only [vDigits, if_neg hz])
    have hzb : (eWords S [x] == 0) = false := by simpa using hz
    have hzn : (eWords S [x] != 0) = true := by simpa using hz
    clear hz
    go_enter Try.func16, Try.ntmps16
    go_wp2_with fail
    have B0 : Below w.heap.size w ((w.alloc (.cells #[.slice ao S.length cap] 26)).alloc (.cells #[.int .i64 x] 2)) := by go_grown
    have c0 : (((w.alloc (.cells #[.slice ao S.length cap] 26)).alloc (.cells #[.int .i64 x] 2))).cell? ⟨w.heap.size, 0, none⟩ = some (.slice ao S.length cap) := kept_cell ((Below.refl _ (w.alloc (.cells #[.slice ao S.length cap] 26))).alloc (Nat.le_refl _) _) (cell_new _ _ _) (lt_alloc _ _)
    refine (l01Words_n ao S cap hn _ [x] 1 _ rfl (by omega) _ (hS.below B0) (ints_new1 _ x _ (by simp))).mono ?_
    rintro e w1 ⟨rfl, hb⟩
    have c1 := kept_cell hb c0 (by simp; omega)
    have B1 : Below w.heap.size w w1 := B0.trans (hb.mono (by simp; omega))
    clear hb c0 B0
    go_wp2_with fail
    go_ret2
    exact ⟨_, rfl, by rw [HV.out]; exact own_nil _ _, B1⟩

set_option maxHeartbeats 1000000 in
theorem impl_DigitsOf (ao : Option Addr) (S : List Int) (cap : Nat) (hn : S.length ≤ 4294967296) (x : Int) (hx : -9223372036854775808 ≤ x ∧ x ≤ 9223372036854775807) (w : World) (hS : Ints w ao S) :
    Calls Try.prog 15 #[.agg #[.slice ao S.length cap], .int .i64 x] w fun e w' => ∃ v, e = .returned (.tuple #[v, .int .i64 (eWords S [x])]) ∧ OwnInts w' w.heap.size v (vDigits S x) ∧ Below w.heap.size w w' := by
  by_cases hz : eWords S [x] = 0
  · obtain ⟨hSp, x1, x2⟩ := eWords1 hz
    obtain ⟨N1, N2⟩ := nW_bd hSp
    have HV := Lib.hid (show vDigits S x = digs S x from by simp only [vDigits, if_pos hz])
    have HSp := Lib.hid hSp
    have hlo := hSp.lo
    have hhi := hSp.hi
    have hzb : (eWords S [x] == 0) = true := by simp [hz]
    have hzn : (eWords S [x] != 0) = false := by simp [hz]
    have HZ := Lib.hid hz
    clear hz hSp
    go_enter Try.func15, Try.ntmps15
    go_wp2_with fail
    have B0 : Below w.heap.size w ((w.alloc (.cells #[.slice ao S.length cap] 26)).alloc (.cells #[.int .i64 x] 2)) := by go_grown
    have c0 : (((w.alloc (.cells #[.slice ao S.length cap] 26)).alloc (.cells #[.int .i64 x] 2))).cell? ⟨w.heap.size, 0, none⟩ = some (.slice ao S.length cap) := kept_cell ((Below.refl _ (w.alloc (.cells #[.slice ao S.length cap] 26))).alloc (Nat.le_refl _) _) (cell_new _ _ _) (lt_alloc _ _)
    refine (wordsError_n ao S cap hn _ [x] 1 _ rfl (by omega) _ (hS.below B0) (ints_new1 _ x _ (by simp))).mono ?_
    rintro e w1 ⟨rfl, hb⟩
    have c1 := kept_cell hb c0 (by simp; omega)
    have B1 : Below w.heap.size w w1 := B0.trans (hb.mono (by simp; omega))
    clear hb c0 B0
    go_wp2_with fail
    refine (digitParts_n ao S cap hlo hhi HSp.out.bd _ [x] 1 _ rfl (by omega) (by intro i hi; match i, hi with | 0, _ => exact ⟨x1, by rw [gi1]; omega⟩) _ (hS.below (B1.alloc B1.size _)) (ints_new1 _ x _ (by rfl))).mono ?_
    rintro e w2 ⟨P, g, U, rfl, hp, hb⟩
    have r0 := hp.row 0 (by simp)
    rw [Nat.zero_mul] at r0
    go_wp2_with fail
    go_ret2
    have hU : U = digs S x := ext_gi (by rw [hp.len, digs_length]; simp) fun j hj => by
      rw [hp.len] at hj
      have := hp.dg 0 j (by simp) (by simpa using hj)
      rw [Nat.zero_mul, Nat.zero_add, gi1] at this
      rw [this, gi_digs S x j (by simpa using hj)]
    have own := hp.own
    rw [hU, digs_length] at own
    have hs : w.heap.size ≤ w1.heap.size + 1 := by have := B1.size; omega
    exact ⟨_, by rw [HZ.out]; rfl, by rw [HV.out]; exact own.rebase (by simp; omega), B1.trans (Below.trans ((Below.refl _ w1).alloc (Nat.le_refl _) _) (hb.mono (by simp)) |>.mono B1.size)⟩
  · have HV := Lib.hid (show vDigits S x = [] from by simp only [vDigits, if_neg hz])
    have hzb : (eWords S [x] == 0) = false := by simpa using hz
    have hzn : (eWords S [x] != 0) = true := by simpa using hz
    clear hz
    go_enter Try.func15, Try.ntmps15
    go_wp2_with fail
    have B0 : Below w.heap.size w ((w.alloc (.cells #[.slice ao S.length cap] 26)).alloc (.cells #[.int .i64 x] 2)) := by go_grown
    have c0 : (((w.alloc (.cells #[.slice ao S.length cap] 26)).alloc (.cells #[.int .i64 x] 2))).cell? ⟨w.heap.size, 0, none⟩ = some (.slice ao S.length cap) := kept_cell ((Below.refl _ (w.alloc (.cells #[.slice ao S.length cap] 26))).alloc (Nat.le_refl _) _) (cell_new _ _ _) (lt_alloc _ _)
    refine (wordsError_n ao S cap hn _ [x] 1 _ rfl (by omega) _ (hS.below B0) (ints_new1 _ x _ (by simp))).mono ?_
    rintro e w1 ⟨rfl, hb⟩
    have c1 := kept_cell hb c0 (by simp; omega)
    have B1 : Below w.heap.size w w1 := B0.trans (hb.mono (by simp; omega))
    clear hb c0 B0
    go_wp2_with fail
    go_ret2
    exact ⟨_, rfl, by rw [HV.out]; exact own_nil _ _, B1⟩

set_option maxHeartbeats 1000000 in
theorem spec_DistanceOf (ao : Option Addr) (S : List Int) (cap : Nat) (hn : S.length ≤ 4294967296) (u : Int) (hu : -9223372036854775808 ≤ u ∧ u ≤ 9223372036854775807) (x : Int) (hx : -9223372036854775808 ≤ x ∧ x ≤ 9223372036854775807) (w : World) (hS : Ints w ao S) :
    Calls Try.prog 10 #[.agg #[.slice ao S.length cap], .int .i64 u, .int .i64 x] w fun e w' => e = .returned (.tuple #[.int .i64 (vDist S u x), .int .i64 (eWords S [u, x])]) ∧ Below w.heap.size w w' := by
  by_cases hz : eWords S [u, x] = 0
  · obtain ⟨hSp, ⟨u1, u2⟩, x1, x2⟩ := eWords2 hz
    obtain ⟨N1, N2⟩ := nW_bd hSp
    have HV := Lib.hid (show vDist S u x = dist S u x from by simp only [vDist, if_pos hz])
    have HSp := Lib.hid hSp
    have hlo := hSp.lo
    have hhi := hSp.hi
    have hzb : (eWords S [u, x] == 0) = true := by simp [hz]
    have hzn : (eWords S [u, x] != 0) = false := by simp [hz]
    have HZ := Lib.hid hz
    clear hz hSp
    go_enter Try.func10, Try.ntmps10
    go_wp2_with fail
    have B0 : Below w.heap.size w ((w.alloc (.cells #[.slice ao S.length cap] 26)).alloc (.cells #[.int .i64 u, .int .i64 x] 2)) := by go_grown
    have c0 : (((w.alloc (.cells #[.slice ao S.length cap] 26)).alloc (.cells #[.int .i64 u, .int .i64 x] 2))).cell? ⟨w.heap.size, 0, none⟩ = some (.slice ao S.length cap) := kept_cell ((Below.refl _ (w.alloc (.cells #[.slice ao S.length cap] 26))).alloc (Nat.le_refl _) _) (cell_new _ _ _) (lt_alloc _ _)
    refine (l01Words_n ao S cap hn _ [u, x] 2 _ rfl (by omega) _ (hS.below B0) (ints_new2 _ u x _ (by simp))).mono ?_
    rintro e w1 ⟨rfl, hb⟩
    have c1 := kept_cell hb c0 (by simp; omega)
    have B1 : Below w.heap.size w w1 := B0.trans (hb.mono (by simp; omega))
    clear hb c0 B0
    go_wp2_with fail
    refine (l01Distance_any ao S cap hhi HSp.out.bd u x u1 (by omega) x1 (by omega) _ (hS.below B1)).mono ?_
    rintro e w2 ⟨rfl, hb⟩
    go_wp2_with fail
    go_ret2
    exact ⟨ret2 HV.out.symm HZ.out.symm, B1.trans (hb.mono B1.size)⟩
  · have HV := Lib.hid (show vDist S u x = 0 from by simp only [vDist, if_neg hz])
    have hzb : (eWords S [u, x] == 0) = false := by simpa using hz
    have hzn : (eWords S [u, x] != 0) = true := by simpa using hz
    clear hz
    go_enter Try.func10, Try.ntmps10
    go_wp2_with fail
    have B0 : Below w.heap.size w ((w.alloc (.cells #[.slice ao S.length cap] 26)).alloc (.cells #[.int .i64 u, .int .i64 x] 2)) := by go_grown
    have c0 : (((w.alloc (.cells #[.slice ao S.length cap] 26)).alloc (.cells #[.int .i64 u, .int .i64 x] 2))).cell? ⟨w.heap.size, 0, none⟩ = some (.slice ao S.length cap) := kept_cell ((Below.refl _ (w.alloc (.cells #[.slice ao S.length cap] 26))).alloc (Nat.le_refl _) _) (cell_new _ _ _) (lt_alloc _ _)
    refine (l01Words_n ao S cap hn _ [u, x] 2 _ rfl (by omega) _ (hS.below B0) (ints_new2 _ u x _ (by simp))).mono ?_
    rintro e w1 ⟨rfl, hb⟩
    have c1 := kept_cell hb c0 (by simp; omega)
    have B1 : Below w.heap.size w w1 := B0.trans (hb.mono (by simp; omega))
    clear hb c0 B0
    go_wp2_with fail
    go_ret2
    exact ⟨ret2 HV.out.symm rfl, B1⟩

set_option maxHeartbeats 1000000 in
theorem impl_DistanceOf (ao : Option Addr) (S : List Int) (cap : Nat) (hn : S.length ≤ 4294967296) (u : Int) (hu : -9223372036854775808 ≤ u ∧ u ≤ 9223372036854775807) (x : Int) (hx : -9223372036854775808 ≤ x ∧ x ≤ 9223372036854775807) (w : World) (hS : Ints w ao S) :
    Calls Try.prog 9 #[.agg #[.slice ao S.length cap], .int .i64 u, .int .i64 x] w fun e w' => e = .returned (.tuple #[.int .i64 (vDist S u x), .int .i64 (eWords S [u, x])]) ∧ Below w.heap.size w w' := by
  by_cases hz : eWords S [u, x] = 0
  · obtain ⟨hSp, ⟨u1, u2⟩, x1, x2⟩ := eWords2 hz
    obtain ⟨N1, N2⟩ := nW_bd hSp
    have HV := Lib.hid (show vDist S u x = dist S u x from by simp only [vDist, if_pos hz])
    have HSp := Lib.hid hSp
    have hlo := hSp.lo
    have hhi := hSp.hi
    have hzb : (eWords S [u, x] == 0) = true := by simp [hz]
    have hzn : (eWords S [u, x] != 0) = false := by simp [hz]
    have HZ := Lib.hid hz
    clear hz hSp
    go_enter Try.func9, Try.ntmps9
    go_wp2_with fail
    have B0 : Below w.heap.size w ((w.alloc (.cells #[.slice ao S.length cap] 26)).alloc (.cells #[.int .i64 u, .int .i64 x] 2)) := by go_grown
    have c0 : (((w.alloc (.cells #[.slice ao S.length cap] 26)).alloc (.cells #[.int .i64 u, .int .i64 x] 2))).cell? ⟨w.heap.size, 0, none⟩ = some (.slice ao S.length cap) := kept_cell ((Below.refl _ (w.alloc (.cells #[.slice ao S.length cap] 26))).alloc (Nat.le_refl _) _) (cell_new _ _ _) (lt_alloc _ _)
    refine (wordsError_n ao S cap hn _ [u, x] 2 _ rfl (by omega) _ (hS.below B0) (ints_new2 _ u x _ (by simp))).mono ?_
    rintro e w1 ⟨rfl, hb⟩
    have c1 := kept_cell hb c0 (by simp; omega)
    have B1 : Below w.heap.size w w1 := B0.trans (hb.mono (by simp; omega))
    clear hb c0 B0
    go_wp2_with fail
    refine (distance_any ao S cap HSp.out u x u1 (by omega) x1 (by omega) _ (hS.below B1)).mono ?_
    rintro e w2 ⟨rfl, hb⟩
    go_wp2_with fail
    go_ret2
    exact ⟨ret2 HV.out.symm HZ.out.symm, B1.trans (hb.mono B1.size)⟩
  · have HV := Lib.hid (show vDist S u x = 0 from by simp only [vDist, if_neg hz])
    have hzb : (eWords S [u, x] == 0) = false := by simpa using hz
    have hzn : (eWords S [u, x] != 0) = true := by simpa using hz
    clear hz
    go_enter Try.func9, Try.ntmps9
    go_wp2_with fail
    have B0 : Below w.heap.size w ((w.alloc (.cells #[.slice ao S.length cap] 26)).alloc (.cells #[.int .i64 u, .int .i64 x] 2)) := by go_grown
    have c0 : (((w.alloc (.cells #[.slice ao S.length cap] 26)).alloc (.cells #[.int .i64 u, .int .i64 x] 2))).cell? ⟨w.heap.size, 0, none⟩ = some (.slice ao S.length cap) := kept_cell ((Below.refl _ (w.alloc (.cells #[.slice ao S.length cap] 26))).alloc (Nat.le_refl _) _) (cell_new _ _ _) (lt_alloc _ _)
    refine (wordsError_n ao S cap hn _ [u, x] 2 _ rfl (by omega) _ (hS.below B0) (ints_new2 _ u x _ (by simp))).mono ?_
    rintro e w1 ⟨rfl, hb⟩
    have c1 := kept_cell hb c0 (by simp; omega)
    have B1 : Below w.heap.size w w1 := B0.trans (hb.mono (by simp; omega))
    clear hb c0 B0
    go_wp2_with fail
    go_ret2
    exact ⟨ret2 HV.out.symm rfl, B1⟩

set_option maxHeartbeats 1000000 in
theorem spec_SumOfWords (ao : Option Addr) (S : List Int) (cap : Nat) (hn : S.length ≤ 4294967296) (u : Int) (hu : -9223372036854775808 ≤ u ∧ u ≤ 9223372036854775807) (x : Int) (hx : -9223372036854775808 ≤ x ∧ x ≤ 9223372036854775807) (w : World) (hS : Ints w ao S) :
    Calls Try.prog 8 #[.agg #[.slice ao S.length cap], .int .i64 u, .int .i64 x] w fun e w' => e = .returned (.tuple #[.int .i64 (vSum S u x), .int .i64 (eWords S [u, x])]) ∧ Below w.heap.size w w' := by
  by_cases hz : eWords S [u, x] = 0
  · obtain ⟨hSp, ⟨u1, u2⟩, x1, x2⟩ := eWords2 hz
    obtain ⟨N1, N2⟩ := nW_bd hSp
    have HV := Lib.hid (show vSum S u x = sumW S u x from by simp only [vSum, if_pos hz])
    have HSp := Lib.hid hSp
    have hlo := hSp.lo
    have hhi := hSp.hi
    have hzb : (eWords S [u, x] == 0) = true := by simp [hz]
    have hzn : (eWords S [u, x] != 0) = false := by simp [hz]
    have HZ := Lib.hid hz
    clear hz hSp
    go_enter Try.func8, Try.ntmps8
    go_wp2_with fail
    have B0 : Below w.heap.size w ((w.alloc (.cells #[.slice ao S.length cap] 26)).alloc (.cells #[.int .i64 u, .int .i64 x] 2)) := by go_grown
    have c0 : (((w.alloc (.cells #[.slice ao S.length cap] 26)).alloc (.cells #[.int .i64 u, .int .i64 x] 2))).cell? ⟨w.heap.size, 0, none⟩ = some (.slice ao S.length cap) := kept_cell ((Below.refl _ (w.alloc (.cells #[.slice ao S.length cap] 26))).alloc (Nat.le_refl _) _) (cell_new _ _ _) (lt_alloc _ _)
    refine (l01Words_n ao S cap hn _ [u, x] 2 _ rfl (by omega) _ (hS.below B0) (ints_new2 _ u x _ (by simp))).mono ?_
    rintro e w1 ⟨rfl, hb⟩
    have c1 := kept_cell hb c0 (by simp; omega)
    have B1 : Below w.heap.size w w1 := B0.trans (hb.mono (by simp; omega))
    clear hb c0 B0
    go_wp2_with fail
    refine (l01Sum_any ao S cap HSp.out u x u1 (by omega) x1 (by omega) _ (hS.below B1)).mono ?_
    rintro e w2 ⟨rfl, hb⟩
    go_wp2_with fail
    go_ret2
    exact ⟨ret2 HV.out.symm HZ.out.symm, B1.trans (hb.mono B1.size)⟩
  · have HV := Lib.hid (show vSum S u x = 0 from by simp only [vSum, if_neg hz])
    have hzb : (eWords S [u, x] == 0) = false := by simpa using hz
    have hzn : (eWords S [u, x] != 0) = true := by simpa using hz
    clear hz
    go_enter Try.func8, Try.ntmps8
    go_wp2_with fail
    have B0 : Below w.heap.size w ((w.alloc (.cells #[.slice ao S.length cap] 26)).alloc (.cells #[.int .i64 u, .int .i64 x] 2)) := by go_grown
    have c0 : (((w.alloc (.cells #[.slice ao S.length cap] 26)).alloc (.cells #[.int .i64 u, .int .i64 x] 2))).cell? ⟨w.heap.size, 0, none⟩ = some (.slice ao S.length cap) := kept_cell ((Below.refl _ (w.alloc (.cells #[.slice ao S.length cap] 26))).alloc (Nat.le_refl _) _) (cell_new _ _ _) (lt_alloc _ _)
    refine (l01Words_n ao S cap hn _ [u, x] 2 _ rfl (by omega) _ (hS.below B0) (ints_new2 _ u x _ (by simp))).mono ?_
    rintro e w1 ⟨rfl, hb⟩
    have c1 := kept_cell hb c0 (by simp; omega)
    have B1 : Below w.heap.size w w1 := B0.trans (hb.mono (by simp; omega))
    clear hb c0 B0
    go_wp2_with fail
    go_ret2
    exact ⟨ret2 HV.out.symm rfl, B1⟩

set_option maxHeartbeats 1000000 in
theorem impl_SumOfWords (ao : Option Addr) (S : List Int) (cap : Nat) (hn : S.length ≤ 4294967296) (u : Int) (hu : -9223372036854775808 ≤ u ∧ u ≤ 9223372036854775807) (x : Int) (hx : -9223372036854775808 ≤ x ∧ x ≤ 9223372036854775807) (w : World) (hS : Ints w ao S) :
    Calls Try.prog 7 #[.agg #[.slice ao S.length cap], .int .i64 u, .int .i64 x] w fun e w' => e = .returned (.tuple #[.int .i64 (vSum S u x), .int .i64 (eWords S [u, x])]) ∧ Below w.heap.size w w' := by
  by_cases hz : eWords S [u, x] = 0
  · obtain ⟨hSp, ⟨u1, u2⟩, x1, x2⟩ := eWords2 hz
    obtain ⟨N1, N2⟩ := nW_bd hSp
    have HV := Lib.hid (show vSum S u x = sumW S u x from by simp only [vSum, if_pos hz])
    have HSp := Lib.hid hSp
    have hlo := hSp.lo
    have hhi := hSp.hi
    have hzb : (eWords S [u, x] == 0) = true := by simp [hz]
    have hzn : (eWords S [u, x] != 0) = false := by simp [hz]
    have HZ := Lib.hid hz
    clear hz hSp
    go_enter Try.func7, Try.ntmps7
    go_wp2_with fail
    have B0 : Below w.heap.size w ((w.alloc (.cells #[.slice ao S.length cap] 26)).alloc (.cells #[.int .i64 u, .int .i64 x] 2)) := by go_grown
    have c0 : (((w.alloc (.cells #[.slice ao S.length cap] 26)).alloc (.cells #[.int .i64 u, .int .i64 x] 2))).cell? ⟨w.heap.size, 0, none⟩ = some (.slice ao S.length cap) := kept_cell ((Below.refl _ (w.alloc (.cells #[.slice ao S.length cap] 26))).alloc (Nat.le_refl _) _) (cell_new _ _ _) (lt_alloc _ _)
    refine (wordsError_n ao S cap hn _ [u, x] 2 _ rfl (by omega) _ (hS.below B0) (ints_new2 _ u x _ (by simp))).mono ?_
    rintro e w1 ⟨rfl, hb⟩
    have c1 := kept_cell hb c0 (by simp; omega)
    have B1 : Below w.heap.size w w1 := B0.trans (hb.mono (by simp; omega))
    clear hb c0 B0
    go_wp2_with fail
    refine (sumOfWords_any ao S cap HSp.out u x u1 (by omega) x1 (by omega) _ (hS.below B1)).mono ?_
    rintro e w2 ⟨rfl, hb⟩
    go_wp2_with fail
    go_ret2
    exact ⟨ret2 HV.out.symm HZ.out.symm, B1.trans (hb.mono B1.size)⟩
  · have HV := Lib.hid (show vSum S u x = 0 from by simp only [vSum, if_neg hz])
    have hzb : (eWords S [u, x] == 0) = false := by simpa using hz
    have hzn : (eWords S [u, x] != 0) = true := by simpa using hz
    clear hz
    go_enter Try.func7, Try.ntmps7
    go_wp2_with fail
    have B0 : Below w.heap.size w ((w.alloc (.cells #[.slice ao S.length cap] 26)).alloc (.cells #[.int .i64 u, .int .i64 x] 2)) := by go_grown
    have c0 : (((w.alloc (.cells #[.slice ao S.length cap] 26)).alloc (.cells #[.int .i64 u, .int .i64 x] 2))).cell? ⟨w.heap.size, 0, none⟩ = some (.slice ao S.length cap) := kept_cell ((Below.refl _ (w.alloc (.cells #[.slice ao S.length cap] 26))).alloc (Nat.le_refl _) _) (cell_new _ _ _) (lt_alloc _ _)
    refine (wordsError_n ao S cap hn _ [u, x] 2 _ rfl (by omega) _ (hS.below B0) (ints_new2 _ u x _ (by simp))).mono ?_
    rintro e w1 ⟨rfl, hb⟩
    have c1 := kept_cell hb c0 (by simp; omega)
    have B1 : Below w.heap.size w w1 := B0.trans (hb.mono (by simp; omega))
    clear hb c0 B0
    go_wp2_with fail
    go_ret2
    exact ⟨ret2 HV.out.symm rfl, B1⟩

set_option maxHeartbeats 1000000 in
theorem spec_WeightOf (ao : Option Addr) (S : List Int) (cap : Nat) (hn : S.length ≤ 4294967296) (x : Int) (hx : -9223372036854775808 ≤ x ∧ x ≤ 9223372036854775807) (w : World) (hS : Ints w ao S) :
    Calls Try.prog 14 #[.agg #[.slice ao S.length cap], .int .i64 x] w fun e w' => e = .returned (.tuple #[.int .i64 (vWeight S x), .int .i64 (eWords S [x])]) ∧ Below w.heap.size w w' := by
  by_cases hz : eWords S [x] = 0
  · obtain ⟨hSp, x1, x2⟩ := eWords1 hz
    obtain ⟨N1, N2⟩ := nW_bd hSp
    have HV := Lib.hid (show vWeight S x = dist S 0 x from by simp only [vWeight, if_pos hz])
    have HSp := Lib.hid hSp
    have hlo := hSp.lo
    have hhi := hSp.hi
    have hzb : (eWords S [x] == 0) = true := by simp [hz]
    have hzn : (eWords S [x] != 0) = false := by simp [hz]
    have HZ := Lib.hid hz
    clear hz hSp
    go_enter Try.func14, Try.ntmps14
    go_wp2_with fail
    have B0 : Below w.heap.size w ((w.alloc (.cells #[.slice ao S.length cap] 26)).alloc (.cells #[.int .i64 x] 2)) := by go_grown
    have c0 : (((w.alloc (.cells #[.slice ao S.length cap] 26)).alloc (.cells #[.int .i64 x] 2))).cell? ⟨w.heap.size, 0, none⟩ = some (.slice ao S.length cap) := kept_cell ((Below.refl _ (w.alloc (.cells #[.slice ao S.length cap] 26))).alloc (Nat.le_refl _) _) (cell_new _ _ _) (lt_alloc _ _)
    refine (l01Words_n ao S cap hn _ [x] 1 _ rfl (by omega) _ (hS.below B0) (ints_new1 _ x _ (by simp))).mono ?_
    rintro e w1 ⟨rfl, hb⟩
    have c1 := kept_cell hb c0 (by simp; omega)
    have B1 : Below w.heap.size w w1 := B0.trans (hb.mono (by simp; omega))
    clear hb c0 B0
    go_wp2_with fail
    refine (l01Distance_any ao S cap hhi HSp.out.bd 0 x (by omega) (by omega) x1 (by omega) _ (hS.below B1)).mono ?_
    rintro e w2 ⟨rfl, hb⟩
    go_wp2_with fail
    go_ret2
    exact ⟨ret2 HV.out.symm HZ.out.symm, B1.trans (hb.mono B1.size)⟩
  · have HV := Lib.hid (show vWeight S x = 0 from by simp only [vWeight, if_neg hz])
    have hzb : (eWords S [x] == 0) = false := by simpa using hz
    have hzn : (eWords S [x] != 0) = true := by simpa using hz
    clear hz
    go_enter Try.func14, Try.ntmps14
    go_wp2_with fail
    have B0 : Below w.heap.size w ((w.alloc (.cells #[.slice ao S.length cap] 26)).alloc (.cells #[.int .i64 x] 2)) := by go_grown
    have c0 : (((w.alloc (.cells #[.slice ao S.length cap] 26)).alloc (.cells #[.int .i64 x] 2))).cell? ⟨w.heap.size, 0, none⟩ = some (.slice ao S.length cap) := kept_cell ((Below.refl _ (w.alloc (.cells #[.slice ao S.length cap] 26))).alloc (Nat.le_refl _) _) (cell_new _ _ _) (lt_alloc _ _)
    refine (l01Words_n ao S cap hn _ [x] 1 _ rfl (by omega) _ (hS.below B0) (ints_new1 _ x _ (by simp))).mono ?_
    rintro e w1 ⟨rfl, hb⟩
    have c1 := kept_cell hb c0 (by simp; omega)
    have B1 : Below w.heap.size w w1 := B0.trans (hb.mono (by simp; omega))
    clear hb c0 B0
    go_wp2_with fail
    go_ret2
    exact ⟨ret2 HV.out.symm rfl, B1⟩

theorem impl_WeightOf (ao : Option Addr) (S : List Int) (cap : Nat) (hn : S.length ≤ 4294967296) (x : Int) (hx : -9223372036854775808 ≤ x ∧ x ≤ 9223372036854775807) (w : World) (hS : Ints w ao S) :
    Calls Try.prog 13 #[.agg #[.slice ao S.length cap], .int .i64 x] w fun e w' => e = .returned (.tuple #[.int .i64 (vWeight S x), .int .i64 (eWords S [x])]) ∧ Below w.heap.size w w' := by
  have HE := Lib.hid (eWords_0x S x)
  have HV : Hid (vDist S 0 x = vWeight S x) := Lib.hid (by simp only [vDist, vWeight, HE.out])
  have B0 : Below w.heap.size w (w.alloc (.cells #[.slice ao S.length cap] 26)) := by go_grown
  go_enter Try.func13, Try.ntmps13
  go_wp2_with (go_at_call 9; refine (impl_DistanceOf ao S cap hn 0 (by omega) x hx _ (hS.below B0)).mono ?_; rintro e w2 ⟨rfl, hb⟩)
  go_ret2
  exact ⟨ret2 HV.out HE.out, B0.trans (hb.mono B0.size)⟩

end Go.Proofs.Ytjjcpbhmpjedoaa
