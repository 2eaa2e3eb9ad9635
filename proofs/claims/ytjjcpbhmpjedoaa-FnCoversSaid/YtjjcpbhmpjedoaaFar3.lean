/-
  The contracts of the model's distances from a code, and of the words of a space in a list. By an AI agent.
-/
import Derived.Test.YtjjcpbhmpjedoaaFar
import Derived.Deep.RegionHeld3
namespace Go.Proofs.Ytjjcpbhmpjedoaa
open Go.RowKit Cv
set_option linter.unusedVariables false
set_option linter.unusedSimpArgs false
set_option maxRecDepth 100000

set_option maxHeartbeats 1000000 in
theorem l02To_any (ao : Option Addr) (S : List Int) (cap : Nat) (hSp : Sp S) (ac : Option Addr) (C : List Int) (capc : Nat) (h1 : 1 ≤ C.length) (hlen : C.length ≤ 1048576) (hC0 : ∀ i, i < C.length → 0 ≤ gi C i ∧ gi C i ≤ 9223372036854775807) (x : Int) (hx : 0 ≤ x) (hx2 : x ≤ 9223372036854775807) (w : World) (hS : Ints w ao S) (hC : Ints w ac C) :
    Calls Try.prog 114 #[.agg #[.slice ao S.length cap], .slice ac C.length capc, .int .i64 x] w fun e w' => e = .returned (.int .i64 (toW S C x)) ∧ Below w.heap.size w w' := by
  have hhi := hSp.hi
  have HSp := Lib.hid hSp
  have HC0 := Lib.hid hC0
  obtain ⟨b, o, rfl, hbl, hc⟩ := hC.at (i := 0) (by omega)
  have hck : ∀ o', (w.alloc o').cell? ⟨b, o, none⟩ = some (.int .i64 (gi C 0)) := fun o' => ((Below.refl w.heap.size w).alloc (Nat.le_refl _) o').cell (p := ⟨b, o, none⟩) hbl |>.trans (by simpa using hc 0 (by omega))
  have hk0 := hck (.cells #[.slice ao S.length cap] 26)
  have HC := Lib.hid hc
  obtain ⟨z1, z2⟩ := hC0 0 (by omega)
  have hp0 : (0 : Int) < (C.length : Int) := by omega
  have hp1 : 0 < C.length := by omega
  clear hSp hC0 hc hck
  go_enter Try.func114, Try.ntmps114
  go_wp2_with fail
  have c0 := cell_new w (.slice ao S.length cap) 26
  have l0 := lt_alloc w (.cells #[.slice ao S.length cap] 26)
  have B0 : Below w.heap.size w (w.alloc (.cells #[.slice ao S.length cap] 26)) := by go_grown
  go_region_held3 (fun w' => w'.cell? ⟨w.heap.size, 0, none⟩ = some (.slice ao S.length cap) ∧ w'.cell? ⟨b, o, none⟩ = some (.int .i64 (gi C 0))) (first | exact ⟨c0, hk0⟩ | exact ⟨kept_cell hb1 c0 l0, kept_cell hb1 hk0 (by simp; omega)⟩) (first | (go_at_call 52; refine (l01Distance_any ao S cap hhi HSp.out.bd (gi C 0) x z1 z2 hx hx2 _ (hS.below B0.drew)).mono ?_; rintro e w1 ⟨rfl, hb1'⟩; have hb1 := (Below.refl _ (w.alloc (.cells #[.slice ao S.length cap] 26))).drew.trans hb1'))
  have B1 := B0.trans (hb1.mono B0.size)
  have c1 := kept_cell hb1 c0 l0
  have l1 := lt_of_below hb1 l0
  clear hb1 hb1' c0 l0 B0 hk0
  go_wp2_with fail
  go_loopw [7, 8] (fun t i wr => ∃ k : Nat, 1 ≤ k ∧ k ≤ C.length ∧ i = .int .i64 k ∧ t = .int .i64 (minTo (fun k => dist S (gi C k) x) (k - 1)) ∧ wr.cell? ⟨w.heap.size, 0, none⟩ = some (.slice ao S.length cap) ∧ w.heap.size < wr.heap.size ∧ Below w.heap.size w wr) (fun _ i _ => C.length - (intOf i).toNat)
  case atStart => exact ⟨1, Nat.le_refl _, h1, rfl, rfl, c1, l1, B1⟩
  case round =>
    clear c1 l1 B1
    obtain ⟨k, hk1, hk, rfl, rfl, c, l, B⟩ := hrel
    by_cases hlt : k < C.length
    · have hck : wr.cell? ⟨b, o + k, none⟩ = some (.int .i64 (gi C k)) := kept_cell B (HC.out k hlt) hbl
      obtain ⟨x1, x2⟩ := HC0.out k hlt
      have HM := Lib.hid (minTo_if (fun k => dist S (gi C k) x) k hk1)
      go_wp2_with fail
      have fc := fam_cell c
      have fk := fam_cell hck
      refine wp_region_fam (by kernel_rfl) (by kernel_rfl) ?_
      repeat (go_big_quiet_step ((go_at_call 52; exact fam_calls (l01Distance_any ao S cap hhi HSp.out.bd (gi C k) x x1 x2 hx hx2 _ (hS.below (B.trans ((fam_below _).mono B.size)))))))
      refine wpQuiet_nil ?_
      rintro _ ⟨y, rfl⟩
      have hb2 := fam_below y
      generalize fam wr y = w2 at hb2 ⊢
      clear fc fk hck
      go_wp2
      go_roundw
      case rel => exact ⟨k + 1, by omega, by omega, by go_num, by rw [HM.out]; rfl, kept_cell hb2 c l, lt_of_below hb2 l, B.trans (hb2.mono B.size)⟩
      case measure => simp [intOf]; omega
    · have ek : k = C.length := by omega
      go_wp2
      go_ret
      exact ⟨ret_int (by rw [ek]; rfl), B⟩

end Go.Proofs.Ytjjcpbhmpjedoaa
