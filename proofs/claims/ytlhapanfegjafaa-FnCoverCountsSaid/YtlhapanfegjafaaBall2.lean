/-
  The contracts of the model's balls and spheres. By an AI agent.
-/
import Derived.Test.YtlhapanfegjafaaMath
import Derived.Test.YtlhapanfegjafaaErr2
import Derived.Test.YtlhapanfegjafaaAppend
import Derived.Test.YtlhapanfegjafaaDist
namespace Go.Proofs.Ytlhapanfegjafaa
open Go.RowKit Cv
set_option linter.unusedVariables false
set_option linter.unusedSimpArgs false
set_option maxRecDepth 100000

theorem l01N_nat (ao : Option Addr) (S : List Int) (cap : Nat) (N : Nat) (hN : Hid (nW S = (N : Int))) (w : World) (h : Sp S) (hS : Ints w ao S) :
    Calls Try.prog 33 #[.agg #[.slice ao S.length cap]] w fun e w' => e = .returned (.int .i64 (N : Int)) ∧ Below w.heap.size w w' := by
  rw [← hN.out]; exact l01N_sp ao S cap w h hS

set_option maxHeartbeats 1000000 in
theorem l01Ball_any (ao : Option Addr) (S : List Int) (cap : Nat) (hSp : Sp S) (x : Int) (hx : 0 ≤ x) (hx2 : x ≤ 9223372036854775807) (r : Int) (w : World) (hS : Ints w ao S) :
    Calls Try.prog 45 #[.agg #[.slice ao S.length cap], .int .i64 x, .int .i64 r] w fun e w' => ∃ v, e = .returned v ∧ OwnInts w' w.heap.size v (ballW S x r) ∧ Below w.heap.size w w' := by
  obtain ⟨N, hN⟩ : ∃ N : Nat, nW S = (N : Int) := ⟨(nW S).toNat, by have := (nW_bd hSp).1; omega⟩
  have N2 : N ≤ 1024 := by have := (nW_bd hSp).2; omega
  have HW : Hid (ballW S x r = selTo (ballB S x r) N) := Lib.hid (by unfold ballW; rw [hN]; rfl)
  have HN := Lib.hid hN
  have hhi := hSp.hi
  have HSp := Lib.hid hSp
  clear hSp hN
  go_enter Try.func45, Try.ntmps45
  go_wp2_with fail
  go_loopw [7, 8] (fun v i wr => ∃ k : Nat, k ≤ N ∧ i = .int .i64 k ∧ OwnInts wr (w.heap.size + 1) v (selTo (ballB S x r) k) ∧ wr.cell? ⟨w.heap.size, 0, none⟩ = some (.slice ao S.length cap) ∧ w.heap.size < wr.heap.size ∧ Below w.heap.size w wr) (fun _ i _ => N - (intOf i).toNat)
  case atStart => exact ⟨0, by omega, rfl, own_empty _ _ (by simp) (by simp), by simp, by simp; try omega, by go_grown⟩
  case round =>
    obtain ⟨k, hk, rfl, own, c, l, B⟩ := hrel
    by_cases hlt : k < N
    · have hlenk := selTo_len (ballB S x r) k
      by_cases hd : dist S (k : Int) x ≤ r
      · have HS2 := Lib.hid (selTo_yes (p := ballB S x r) (k := k) (by simpa [ballB] using hd))
        skip
        go_wp2_with fail
        refine (l01N_nat ao S cap N HN _ HSp.out (hS.below B)).mono ?_
        rintro e w2 ⟨rfl, hb2⟩
        replace c := kept_cell hb2 c l
        replace l := lt_of_below hb2 l
        replace own := own.below hb2
        replace B := B.trans (hb2.mono B.size)
        clear hb2
        go_wp2_with fail
        refine (l01Distance_any ao S cap hhi HSp.out.bd (k : Int) x (by omega) (by omega) hx hx2 _ (hS.below B)).mono ?_
        rintro e w3 ⟨rfl, hb3⟩
        replace c := kept_cell hb3 c l
        replace l := lt_of_below hb3 l
        replace own := own.below hb3
        replace B := B.trans (hb3.mono B.size)
        clear hb3
        go_wp2_with (at_builtin; refine wpList_append_int rfl _ _ rfl (w.heap.size + 1) _ _ rfl (own.alloc _) w3.heap.size _ rfl (cell_new _ _ _) (by omega) (by simp; omega) ?_; intro v' w4 hown' hgrow)
        have hgb := grown_below (B.alloc B.size _) (by simp; omega) hgrow (own.alloc _) (Nat.le_succ _)
        have hc4 := hgrow.cell (a := ⟨w.heap.size, 0, none⟩) (kept_cell ((Below.refl w3.heap.size w3).alloc (Nat.le_refl _) _) c l) (fun e => by have := World.ownsRow.lt own _ e.symm; simp at this; omega)
        have hl4 : w.heap.size < w4.heap.size := by have := hgrow.size; simp at this; omega
        clear own hgrow
        go_wp2_with fail
        go_roundw
        case rel => exact ⟨k + 1, by omega, by go_num, by rw [HS2.out]; exact hown', hc4, hl4, hgb⟩
        case measure => simp [intOf]; omega
      · have HS2 := Lib.hid (selTo_no (p := ballB S x r) (k := k) (by simpa [ballB] using hd))
        skip
        go_wp2_with fail
        refine (l01N_nat ao S cap N HN _ HSp.out (hS.below B)).mono ?_
        rintro e w2 ⟨rfl, hb2⟩
        replace c := kept_cell hb2 c l
        replace l := lt_of_below hb2 l
        replace own := own.below hb2
        replace B := B.trans (hb2.mono B.size)
        clear hb2
        go_wp2_with fail
        refine (l01Distance_any ao S cap hhi HSp.out.bd (k : Int) x (by omega) (by omega) hx hx2 _ (hS.below B)).mono ?_
        rintro e w3 ⟨rfl, hb3⟩
        go_wp2
        go_roundw
        case rel => exact ⟨k + 1, by omega, by go_num, by rw [HS2.out]; exact own.below hb3, kept_cell hb3 c l, lt_of_below hb3 l, B.trans (hb3.mono B.size)⟩
        case measure => simp [intOf]; omega
    · have ek : k = N := by omega
      go_wp2_with fail
      refine (l01N_nat ao S cap N HN _ HSp.out (hS.below B)).mono ?_
      rintro e w2 ⟨rfl, hb2⟩
      go_wp2
      go_ret
      exact ⟨_, rfl, by rw [HW.out, ← ek]; exact (own.below hb2).rebase (by omega), B.trans (hb2.mono B.size)⟩

end Go.Proofs.Ytlhapanfegjafaa
