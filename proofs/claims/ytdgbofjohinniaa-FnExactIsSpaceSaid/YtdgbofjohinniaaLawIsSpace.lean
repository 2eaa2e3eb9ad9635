/-
  IsSpace answers as its model at every argument, and leaves it alone. By an AI agent.
-/
import Derived.Test.YtdgbofjohinniaaSpace
import Derived.Deep.RegionHeld3
import Derived.Deep.RegionWith
namespace Go.Proofs.Ytdgbofjohinniaa
open Go.RowKit Cv
set_option linter.unusedVariables false
set_option linter.unusedSimpArgs false

theorem law_IsSpace (ao : Option Addr) (S : List Int) (cap : Nat) (hn : S.length ≤ 9223372036854775807) (w : World) (hS : Ints w ao S) :
    Calls Try.prog 3 #[.agg #[.slice ao S.length cap]] w fun e w' => e = .returned (.bool true) ∧ Below w.heap.size w w' := by
  by_cases hbig : S.length ≤ 1048576
  · have hsz : szOf S.length 1048576 = 1048576 - S.length := by simp [szOf]; omega
    have hsp : 0 ≤ szOf S.length 1048576 := by rw [hsz]; omega
    clear hsz
    go_enter Try.func3, Try.ntmps3
    go_wp2_with fail
    refine (szSpace_any _ _ _ _ _ hn (by omega) (by omega)).mono ?_
    rintro e w1 ⟨rfl, hb1⟩
    have c1 := kept_cell hb1 (cell_new w (.slice ao S.length cap) 24) (lt_alloc _ _)
    have l1 := lt_of_below hb1 (lt_alloc _ _)
    have B1 : Below w.heap.size w w1 := Below.trans (by go_grown) (hb1.mono (by simp))
    clear hb1
    go_wp2_with fail
    refine (toSpace_any ao S cap _ hbig (hS.below B1)).mono ?_
    rintro e w2 ⟨b2, rfl, o2, hb2⟩
    have c2 := kept_cell hb2 c1 l1
    have l2 := lt_of_below hb2 l1
    have B2 : Below w.heap.size w w2 := B1.trans (hb2.mono B1.size)
    have i2 : Ints w2 (some ⟨b2, 0, none⟩) S := own_ints o2
    clear hb2 c1 l1
    go_wp2_with fail
    refine (specIsSpace_any _ S _ _ (by omega) i2).mono ?_
    rintro e w3 ⟨rfl, hb3⟩
    have c3 := kept_cell hb3 c2 l2
    have l3 := lt_of_below hb3 l2
    have B3 : Below w.heap.size w w3 := B2.trans (hb3.mono B2.size)
    clear hb3 c2 l2 i2 o2
    go_wp2_with fail
    refine (toSpace_any ao S cap _ hbig (hS.below B3)).mono ?_
    rintro e w4 ⟨b4, rfl, o4, hb4⟩
    have c4 := kept_cell hb4 c3 l3
    have l4 := lt_of_below hb4 l3
    have B4 : Below w.heap.size w w4 := B3.trans (hb4.mono B3.size)
    have i4 : Ints w4 (some ⟨b4, 0, none⟩) S := own_ints o4
    clear hb4 c3 l3
    go_wp2_with fail
    have x4 := cell_new w4 (.slice (some ⟨b4, 0, none⟩) S.length S.length) 27
    have c5 : (w4.alloc (.cells #[.slice (some ⟨b4, 0, none⟩) S.length S.length] 27)).cell? ⟨w.heap.size, 0, none⟩ = some (.slice ao S.length cap) := kept_cell ((Below.refl w4.heap.size w4).alloc (Nat.le_refl _) _) c4 l4
    have l5 := lt_of_below ((Below.refl w4.heap.size w4).alloc (Nat.le_refl _) (.cells #[.slice (some ⟨b4, 0, none⟩) S.length S.length] 27)) l4
    have y5 := lt_alloc w4 (.cells #[.slice (some ⟨b4, 0, none⟩) S.length S.length] 27)
    have B5 : Below w.heap.size w (w4.alloc (.cells #[.slice (some ⟨b4, 0, none⟩) S.length S.length] 27)) := B4.alloc B4.size _
    have i5 : Ints (w4.alloc (.cells #[.slice (some ⟨b4, 0, none⟩) S.length S.length] 27)) (some ⟨b4, 0, none⟩) S := i4.below ((Below.refl w4.heap.size w4).alloc (Nat.le_refl _) _)
    clear c4 l4 i4 o4 B4
    obtain ⟨w5, hw5⟩ : ∃ w5, w5 = w4.alloc (.cells #[.slice (some ⟨b4, 0, none⟩) S.length S.length] 27) := ⟨_, rfl⟩
    rw [← hw5] at x4 c5 l5 y5 B5 i5 ⊢
    clear hw5
    refine (IsSpace_any _ S _ _ (by omega) i5).mono ?_
    rintro e w6 ⟨rfl, hb6⟩
    have c6 := kept_cell hb6 c5 l5
    have x6 := kept_cell hb6 x4 y5
    have l6 := lt_of_below hb6 l5
    have y6 := lt_of_below hb6 y5
    have B6 : Below w.heap.size w w6 := B5.trans (hb6.mono B5.size)
    have i6 := i5.below hb6
    clear hb6 c5 l5 x4 y5 i5 B5
    go_wp2_with fail
    go_region_held3 (fun w' => w'.cell? ⟨w.heap.size, 0, none⟩ = some (.slice ao S.length cap) ∧ w'.cell? ⟨w4.heap.size, 0, none⟩ = some (.slice (some ⟨b4, 0, none⟩) S.length S.length)) (first | exact ⟨c6, x6⟩ | exact ⟨c6, x6⟩ | exact ⟨kept_cell hb7 c6 l6, kept_cell hb7 x6 y6⟩ | exact ⟨kept_cell hb8 (kept_cell hb7 c6 l6) (lt_of_below hb7 l6), kept_cell hb8 (kept_cell hb7 x6 y6) (lt_of_below hb7 y6)⟩) (first | (go_at_call 17; refine (toSpace_any ao S cap _ hbig (hS.below (B6.drew))).mono ?_; rintro e w7 ⟨b7, rfl, o7, hb7'⟩; have hb7 : Below w6.heap.size w6 w7 := (Below.refl w6.heap.size w6).drew.trans hb7') | (go_at_call 19; refine (eqSpace_same _ _ S _ _ _ (by omega) (i6.below hb7) (own_ints o7)).mono ?_; rintro e w8 ⟨rfl, hb8⟩))
    go_wp2
    go_ret
    exact ⟨rfl, (B6.trans (hb7.mono B6.size)).trans (hb8.mono (Nat.le_trans B6.size hb7.size))⟩
  · have hsz : szOf S.length 1048576 = -1 := by simp [szOf]; omega
    go_enter Try.func3, Try.ntmps3
    go_wp2_with (go_at_call 15; refine (szSpace_any _ _ _ _ _ hn (by omega) (by omega)).mono ?_; rintro e w1 ⟨rfl, hb1⟩)
    go_ret
    exact ⟨rfl, Below.trans (by go_grown) (hb1.mono (by simp))⟩

end Go.Proofs.Ytdgbofjohinniaa
