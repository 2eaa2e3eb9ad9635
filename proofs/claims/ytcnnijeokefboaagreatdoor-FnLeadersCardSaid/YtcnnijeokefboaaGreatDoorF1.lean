/-
  The contracts of the functions of the first chapter that check words and hand on. By an AI agent.
-/
import Derived.Test.YtcnnijeokefboaaGreatDoorSums2
import Derived.Test.YtcnnijeokefboaaGreatDoorMath
namespace Go.Proofs.YtcnnijeokefboaaGreatDoor
open Go.RowKit Cv
set_option linter.unusedVariables false
set_option linter.unusedSimpArgs false
set_option maxRecDepth 100000

theorem ret2 {a b c d : Int} (h1 : a = b) (h2 : c = d) : Ending.returned (.tuple #[.int .i64 a, .int .i64 c]) = .returned (.tuple #[.int .i64 b, .int .i64 d]) := by rw [h1, h2]
theorem own_nil (w : World) (base : Nat) : OwnInts w base (.slice none 0 0) [] := World.ownsRow_nil _ _ _ _

set_option maxHeartbeats 1000000 in
theorem impl_DistanceOf (ao : Option Addr) (S : List Int) (cap : Nat) (hn : S.length ≤ 4294967296) (u : Int) (hu : -9223372036854775808 ≤ u ∧ u ≤ 9223372036854775807) (x : Int) (hx : -9223372036854775808 ≤ x ∧ x ≤ 9223372036854775807) (w : World) (hS : Ints w ao S) :
    Calls Tryz.prog 40 #[.agg #[.slice ao S.length cap], .int .i64 u, .int .i64 x] w fun e w' => e = .returned (.tuple #[.int .i64 (vDist S u x), .int .i64 (eWords S [u, x])]) ∧ Below w.heap.size w w' := by
  by_cases hz : eWords S [u, x] = 0
  · obtain ⟨hSp, ⟨u1, u2⟩, x1, x2⟩ := eWords2 hz
    obtain ⟨N1, N2⟩ := nW_bd hSp
    have HV := Lib.hid (show vDist S u x = dist S u x from by simp only [vDist, if_pos hz])
    have HSp := Lib.hid hSp
    have hlo := hSp.lo
    have hhi := hSp.hi
    have hzb : (eWords S [u, x] == 0) = true := by simp [hz]
    have hzn : (eWords S [u, x] != 0) = false := by simp [hz]
    have HZ := Lib.hid hz
    clear hz hSp
    go_enter Tryz.func40, Tryz.ntmps40
    go_wp2_with fail
    have B0 : Below w.heap.size w ((w.alloc (.cells #[.slice ao S.length cap] 26)).alloc (.cells #[.int .i64 u, .int .i64 x] 2)) := by go_grown
    have c0 : (((w.alloc (.cells #[.slice ao S.length cap] 26)).alloc (.cells #[.int .i64 u, .int .i64 x] 2))).cell? ⟨w.heap.size, 0, none⟩ = some (.slice ao S.length cap) := kept_cell ((Below.refl _ (w.alloc (.cells #[.slice ao S.length cap] 26))).alloc (Nat.le_refl _) _) (cell_new _ _ _) (lt_alloc _ _)
    refine (wordsError_n ao S cap hn _ [u, x] 2 _ rfl (by omega) _ (hS.below B0) (ints_new2 _ u x _ (by simp))).mono ?_
    rintro e w1 ⟨rfl, hb⟩
    have c1 := kept_cell hb c0 (by simp; omega)
    have B1 : Below w.heap.size w w1 := B0.trans (hb.mono (by simp; omega))
    clear hb c0 B0
    go_wp2_with fail
    refine (distance_any ao S cap HSp.out u x u1 (by omega) x1 (by omega) _ (hS.below B1)).mono ?_
    rintro e w2 ⟨rfl, hb⟩
    go_wp2_with fail
    go_ret2
    exact ⟨ret2 HV.out.symm HZ.out.symm, B1.trans (hb.mono B1.size)⟩
  · have HV := Lib.hid (show vDist S u x = 0 from by simp only [vDist, if_neg hz])
    have hzb : (eWords S [u, x] == 0) = false := by simpa using hz
    have hzn : (eWords S [u, x] != 0) = true := by simpa using hz
    clear hz
    go_enter Tryz.func40, Tryz.ntmps40
    go_wp2_with fail
    have B0 : Below w.heap.size w ((w.alloc (.cells #[.slice ao S.length cap] 26)).alloc (.cells #[.int .i64 u, .int .i64 x] 2)) := by go_grown
    have c0 : (((w.alloc (.cells #[.slice ao S.length cap] 26)).alloc (.cells #[.int .i64 u, .int .i64 x] 2))).cell? ⟨w.heap.size, 0, none⟩ = some (.slice ao S.length cap) := kept_cell ((Below.refl _ (w.alloc (.cells #[.slice ao S.length cap] 26))).alloc (Nat.le_refl _) _) (cell_new _ _ _) (lt_alloc _ _)
    refine (wordsError_n ao S cap hn _ [u, x] 2 _ rfl (by omega) _ (hS.below B0) (ints_new2 _ u x _ (by simp))).mono ?_
    rintro e w1 ⟨rfl, hb⟩
    have c1 := kept_cell hb c0 (by simp; omega)
    have B1 : Below w.heap.size w w1 := B0.trans (hb.mono (by simp; omega))
    clear hb c0 B0
    go_wp2_with fail
    go_ret2
    exact ⟨ret2 HV.out.symm rfl, B1⟩

theorem impl_CountWords (ao : Option Addr) (S : List Int) (cap : Nat) (hn : S.length ≤ 4294967296) (w : World) (hS : Ints w ao S) :
    Calls Tryz.prog 18 #[.agg #[.slice ao S.length cap]] w fun e w' => e = .returned (.tuple #[.int .i64 (vCount S), .int .i64 (eSp S)]) ∧ Below w.heap.size w w' := by
  have B0 : Below w.heap.size w (w.alloc (.cells #[.slice ao S.length cap] 26)) := by go_grown
  by_cases hsp : isSp S = true
  · have HV := Lib.hid (show vCount S = nW S from by simp only [vCount, if_pos hsp])
    have HE := Lib.hid (show eSp S = 0 from by simp only [eSp, if_pos hsp])
    have HSp := Lib.hid ((isSp_iff S).1 hsp)
    go_enter Tryz.func18, Tryz.ntmps18
    go_wp2_with fail
    refine (IsSpace_any ao S cap _ hn (hS.below B0)).mono ?_
    rintro e w1 ⟨rfl, hb⟩
    have c1 := kept_cell hb (cell_new w (.slice ao S.length cap) 26) (lt_alloc _ _)
    have B1 : Below w.heap.size w w1 := B0.trans (hb.mono B0.size)
    go_wp2_with fail
    refine (wordCount_sp ao S cap _ HSp.out (hS.below B1)).mono ?_
    rintro e w2 ⟨rfl, hb2⟩
    go_wp2_with fail
    go_ret2
    exact ⟨ret2 HV.out.symm HE.out.symm, B1.trans (hb2.mono B1.size)⟩
  · have HV := Lib.hid (show vCount S = 0 from by simp only [vCount, if_neg hsp])
    have HE := Lib.hid (show eSp S = 1 from by simp only [eSp, if_neg hsp])
    have hsp' : isSp S = false := by simpa using hsp
    clear hsp
    go_enter Tryz.func18, Tryz.ntmps18
    go_wp2_with (go_at_call 53; refine (IsSpace_any ao S cap _ hn (hS.below B0)).mono ?_; rintro e w1 ⟨rfl, hb⟩)
    go_ret2
    exact ⟨ret2 HV.out.symm HE.out.symm, B0.trans (hb.mono B0.size)⟩

end Go.Proofs.YtcnnijeokefboaaGreatDoor
