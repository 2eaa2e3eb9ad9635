/-
  The contracts of AreApart. By an AI agent.
-/
import Derived.Test.YtgaelpcghljihaaNum
import Derived.Test.YtgaelpcghljihaaLeast
import Derived.Test.YtgaelpcghljihaaFam
namespace Go.Proofs.Ytgaelpcghljihaa
open Go.RowKit Cv
set_option linter.unusedVariables false
set_option linter.unusedSimpArgs false
set_option maxRecDepth 100000

set_option maxHeartbeats 2000000 in
/-- whether the first n words of a list are far from x -/
theorem l04Far_n (ao : Option Addr) (S : List Int) (cap : Nat) (hSp : Sp S) (ac : Option Addr) (C : List Int) (n capc : Nat) (hn : n ≤ C.length) (hl : C.length ≤ 1048576) (hC0 : ∀ i, i < C.length → 0 ≤ gi C i ∧ gi C i ≤ 9223372036854775807) (x : Int) (hx : 0 ≤ x ∧ x ≤ 9223372036854775807) (d : Int) (w : World) (hS : Ints w ao S) (hC : Ints w ac C) :
    Calls Try.prog 106 #[.agg #[.slice ao S.length cap], .slice ac n capc, .int .i64 x, .int .i64 d] w fun e w' => e = .returned (.bool (farTo S C x d n)) ∧ Below w.heap.size w w' := by
  have HSp := Lib.hid hSp
  have HC0 := Lib.hid hC0
  have hhi := hSp.hi
  obtain ⟨x0, x1⟩ := hx
  clear hSp hC0
  go_enter Try.func106, Try.ntmps106
  go_wp2_with fail
  go_loopw [9] (fun i wr => ∃ k : Nat, k ≤ n ∧ i = .int .i64 k ∧ Hid (farTo S C x d k = true) ∧ wr.cell? ⟨w.heap.size, 0, none⟩ = some (.slice ao S.length cap) ∧ w.heap.size < wr.heap.size ∧ Below w.heap.size w wr) (fun i _ => n - (intOf i).toNat)
  case atStart => exact ⟨0, Nat.zero_le _, rfl, Lib.hid rfl, cell_new _ _ _, lt_alloc _ _, by go_grown⟩
  case round =>
    obtain ⟨k, hk, rfl, HF, c, l, B⟩ := hrel
    by_cases hlt : k < n
    · obtain ⟨b, o, rfl, hbl, hc⟩ := hC.at (i := k) (by omega)
      have hck : wr.cell? ⟨b, o + k, none⟩ = some (.int .i64 (gi C k)) := kept_cell B (hc k (by omega)) hbl
      obtain ⟨y1, y2⟩ := HC0.out k (by omega)
      obtain ⟨D, hD⟩ : ∃ D, D = dist S (gi C k) x := ⟨_, rfl⟩
      have HD := Lib.hid hD
      clear hc hD
      by_cases hd : D < d
      · have hdb : decide (D < d) = true := by simpa using hd
        have HN : Hid (farTo S C x d n = false) := Lib.hid (farTo_no hlt (by rw [← HD.out]; exact hd))
        clear hd
        go_wp2_with fail
        have fc := fam_cell c
        have fk := fam_cell hck
        refine wp_region_fam (by kernel_rfl) (by kernel_rfl) ?_
        repeat (go_big_quiet_step ((go_at_call 144; exact fam_calls (HD.out ▸ l01Distance_any ao S cap hhi HSp.out.bd (gi C k) x y1 y2 x0 x1 _ (hS.below (B.trans ((fam_below _).mono B.size)))))))
        refine wpQuiet_nil ?_
        rintro _ ⟨y, rfl⟩
        have hb2 := fam_below y
        generalize fam wr y = w2 at hb2 ⊢
        clear fc fk hck
        go_wp2
        go_ret
        exact ⟨ret_bool HN.out.symm, B.trans (hb2.mono B.size)⟩
      · have hdb : decide (D < d) = false := by simpa using hd
        have HN : Hid (farTo S C x d (k + 1) = true) := Lib.hid (by rw [farTo, HF.out]; simp; rw [← HD.out]; omega)
        clear hd
        go_wp2_with fail
        have fc := fam_cell c
        have fk := fam_cell hck
        refine wp_region_fam (by kernel_rfl) (by kernel_rfl) ?_
        repeat (go_big_quiet_step ((go_at_call 144; exact fam_calls (HD.out ▸ l01Distance_any ao S cap hhi HSp.out.bd (gi C k) x y1 y2 x0 x1 _ (hS.below (B.trans ((fam_below _).mono B.size)))))))
        refine wpQuiet_nil ?_
        rintro _ ⟨y, rfl⟩
        have hb2 := fam_below y
        generalize fam wr y = w2 at hb2 ⊢
        clear fc fk hck
        go_wp2
        go_roundw
        case rel => exact ⟨k + 1, by omega, by go_num, HN, kept_cell hb2 c l, lt_of_below hb2 l, B.trans (hb2.mono B.size)⟩
        case measure => simp [intOf]; omega
    · have ek : k = n := by omega
      go_wp2
      go_ret
      exact ⟨ret_bool (by rw [← ek]; exact HF.out.symm), B⟩

end Go.Proofs.Ytgaelpcghljihaa
