/-
  Merged texts: Drw8, Drw9, DrwL. Never import this beside one of them. By an AI agent.
-/
import Derived.Test.YtjjcpbhmpjedoaaDrw7
import Derived.Test.YtjjcpbhmpjedoaaFcC
namespace Go.Proofs.Ytjjcpbhmpjedoaa
open Go.RowKit Cv
set_option linter.unusedVariables false
set_option linter.unusedSimpArgs false
set_option maxRecDepth 100000

theorem l02With_any (a : Option Addr) (n cap : Nat) (hn : n ≤ 4096) (w : World) (hY : Byts w w.heap.size a n) :
    Calls Try.prog 74 #[.slice a n cap] w fun e w' => ∃ ax T cx g cg F r, e = .returned (.tuple #[.agg #[.slice ax T.length cx], .slice (some ⟨g, 0, none⟩) F.length cg, .int .i64 r]) ∧ Ints w' ax T ∧ (∀ g o, ax = some ⟨g, o, none⟩ → w.heap.size ≤ g) ∧ T.length ≤ 8 ∧ OwnInts w' w.heap.size (.slice (some ⟨g, 0, none⟩) F.length cg) F ∧ F.length ≤ 1048577 ∧ (-9223372036854775808 ≤ r ∧ r ≤ 9223372036854775807) ∧ Below w.heap.size w w' :=
  l02With_of (fun ao S cap r w hSp h1 h8 hS => (spec_GreedyCode ao S cap (by have := hSp.hi; omega) r (by omega) w hS).mono fun e w' ⟨v, he, ho, hb⟩ => ⟨v, vGr S r, _, he, ho, vGr_len S r, hb⟩) a n cap hn w hY

end Go.Proofs.Ytjjcpbhmpjedoaa

namespace Go.Proofs.Ytjjcpbhmpjedoaa
open Go.RowKit Cv
set_option linter.unusedVariables false
set_option linter.unusedSimpArgs false
set_option maxRecDepth 100000

theorem results_cell_tmp1w {fn : Func} {p u1 : Tmp} {ty : TypeId} (h : fn.results = #[.cell p ty, .tmp u1]) (tmps : Array Value) (P : Program) (w : World) :
    (results fn tmps).run P w =
      ((asAddr (tmps.getD p undef)).run P w).andThen fun a w₁ => ((loadVar ty a).run P w₁).andThen fun v w₂ => .ok (.tuple #[v, tmps.getD u1 undef]) w₂ := by
  simp only [results, h]
  simp [Sem.run_bind, Result.andThen]

set_option maxHeartbeats 4000000 in
theorem drawRadius2_any (a : Option Addr) (n cap : Nat) (hn : n ≤ 4096) (w : World) (hY : Byts w w.heap.size a n) :
    Calls Try.prog 43 #[.slice a n cap] w fun e w' => ∃ ax T cx g cg F, e = .returned (.tuple #[.agg #[.slice ax T.length cx], .slice (some ⟨g, 0, none⟩) F.length cg]) ∧ Ints w' ax T ∧ (∀ g o, ax = some ⟨g, o, none⟩ → w.heap.size ≤ g) ∧ T.length ≤ 8 ∧ OwnInts w' w.heap.size (.slice (some ⟨g, 0, none⟩) F.length cg) F ∧ F.length ≤ 1048577 ∧ Below w.heap.size w w' := by
  obtain ⟨A, hA⟩ : ∃ A, A = w.heap.size := ⟨_, rfl⟩
  obtain ⟨W, hW⟩ : ∃ W, W = w.alloc (.cells #[.slice none 0 0] 26) := ⟨_, rfl⟩
  have zW : W.heap.size = A + 1 := by rw [hW, hA]; simp
  have RA0 : W.heap[A]? = some (.cells #[.slice none 0 0] 26 (0, 0)) := by rw [hW, hA]; exact heap_alloc_new w _
  have B0 : Below A w W := by rw [hW, hA]; exact (Below.refl _ w).alloc (Nat.le_refl _) _
  have hY0 : Byts W W.heap.size a n := by rw [zW]; exact ((hY.mono (by omega)).keep fun b o v hb h => by rw [hW]; exact kept_cell ((Below.refl w.heap.size w).alloc (Nat.le_refl _) _) h (by have := World.block_lt_of_cell? w _ h; exact this))
  have hc := l02With_any a n cap hn W hY0
  have HA := Lib.hid hA
  have HW := Lib.hid hW
  clear hA hW hY0
  go_enter Try.func43, Try.ntmps43
  go_wp2_with fail
  rw [← HW.out, ← HA.out]
  refine hc.mono ?_
  rintro e w1 ⟨ax, T, cx, g, cg, E, r, rfl, hI, hax, hT, ownE, hE, hr, hb1⟩
  have RA1 := row_g RA0 (grown_of_below hb1 none) (by simp)
  have B1 : Below A w w1 := B0.trans (hb1.mono (by omega))
  have hax' : ∀ g o, ax = some ⟨g, o, none⟩ → A + 1 ≤ g := fun g o e => by have := hax g o e; omega
  have hgA : A + 1 ≤ g := by have : W.heap.size ≤ g := ownBlock_ge5 ownE rfl; omega
  have ownW := ownE.rebase (base' := w.heap.size) (by have := HA.out; omega)
  have hAx : ∀ g o, ax = some ⟨g, o, none⟩ → g ≠ A := fun g o e => by have := hax' g o e; omega
  clear hc hb1 RA0 B0 hax ownE zW
  obtain ⟨W3, hW3⟩ : ∃ W3, W3 = w1.alloc (.cells #[.slice ax T.length cx] 26) := ⟨_, rfl⟩
  have RX3 : W3.heap[w1.heap.size]? = some (.cells #[.slice ax T.length cx] 26 (0, 0)) := by rw [hW3]; exact heap_alloc_new _ _
  have RA3 : W3.heap[A]? = some (.cells #[.slice none 0 0] 26 (0, 0)) := by rw [hW3]; exact row_g RA1 (World.grownBy_alloc w1 _ none) (by simp)
  have hI3 : Ints W3 ax T := by rw [hW3]; exact hI.below ((Below.refl _ _).alloc (Nat.le_refl _) _)
  have own3 : OwnInts W3 w.heap.size (.slice (some ⟨g, 0, none⟩) E.length cg) E := by rw [hW3]; exact ownW.alloc _
  have B3 : Below A w W3 := by rw [hW3]; exact B1.alloc (by have := row_lt RA1; have := HA.out; omega) _
  have xX3 := cell_of1' RX3
  have HW3 := Lib.hid hW3
  clear hW3 RA1 B1 hI ownW RX3
  have xA := cell_of1' RA3
  have fA := frozen_of_row W3 A 0 _ _ RA3
  have zA := row_lt RA3
  have HIe : Ints (W3.setCell ⟨A, 0, none⟩ (.slice ax T.length cx)) ax T := ints_setA hI3 hAx
  have owne := own_setO own3 A (fun e => by simp [Value.ownBlock] at e; omega) (.slice ax T.length cx)
  have Be : Below A w (W3.setCell ⟨A, 0, none⟩ (.slice ax T.length cx)) := B3.setCell (by simp) _
  rw [HW3.out] at xX3 xA fA zA HIe owne Be
  go_wp2_with fail
  refine bodyPost_ret (by rw [results_cell_tmp1w rfl]; go_simp; try rfl) rfl ?_
  exact ⟨ax, T, cx, g, cg, E, rfl, HIe, (fun g o e => by have := hax' g o e; have := HA.out; omega), hT, owne, hE, by rw [← HA.out]; exact Be⟩

end Go.Proofs.Ytjjcpbhmpjedoaa

namespace Go.Proofs.Ytjjcpbhmpjedoaa
open Go.RowKit Cv
set_option linter.unusedVariables false
set_option linter.unusedSimpArgs false
set_option maxRecDepth 100000

set_option maxHeartbeats 4000000 in
theorem drawLean_any (a : Option Addr) (n cap : Nat) (hn : n ≤ 4096) (w : World) (hY : Byts w w.heap.size a n) :
    Calls Try.prog 34 #[.slice a n cap] w fun e w' => ∃ ax T cx g cg F r, e = .returned (.tuple #[.agg #[.slice ax T.length cx], .slice (some ⟨g, 0, none⟩) F.length cg, .int .i64 r]) ∧ Ints w' ax T ∧ (∀ g o, ax = some ⟨g, o, none⟩ → w.heap.size ≤ g) ∧ T.length ≤ 8 ∧ OwnInts w' w.heap.size (.slice (some ⟨g, 0, none⟩) F.length cg) F ∧ F.length ≤ 1048577 ∧ (-9223372036854775808 ≤ r ∧ r ≤ 9223372036854775807) ∧ Below w.heap.size w w' := by
  obtain ⟨A, hA⟩ : ∃ A, A = w.heap.size := ⟨_, rfl⟩
  obtain ⟨W, hW⟩ : ∃ W, W = w.alloc (.cells #[.slice none 0 0] 26) := ⟨_, rfl⟩
  have zW : W.heap.size = A + 1 := by rw [hW, hA]; simp
  have RA0 : W.heap[A]? = some (.cells #[.slice none 0 0] 26 (0, 0)) := by rw [hW, hA]; exact heap_alloc_new w _
  have B0 : Below A w W := by rw [hW, hA]; exact (Below.refl _ w).alloc (Nat.le_refl _) _
  have hY0 : Byts W W.heap.size a n := by rw [zW]; exact ((hY.mono (by omega)).keep fun b o v hb h => by rw [hW]; exact kept_cell ((Below.refl w.heap.size w).alloc (Nat.le_refl _) _) h (by have := World.block_lt_of_cell? w _ h; exact this))
  have hc := l02With_any a n cap hn W hY0
  have HA := Lib.hid hA
  have HW := Lib.hid hW
  clear hA hW hY0
  go_enter Try.func34, Try.ntmps34
  go_wp2_with fail
  rw [← HW.out, ← HA.out]
  refine hc.mono ?_
  rintro e w1 ⟨ax, T, cx, g, cg, E, r, rfl, hI, hax, hT, ownE, hE, hr, hb1⟩
  have RA1 := row_g RA0 (grown_of_below hb1 none) (by simp)
  have B1 : Below A w w1 := B0.trans (hb1.mono (by omega))
  have hax' : ∀ g o, ax = some ⟨g, o, none⟩ → A + 1 ≤ g := fun g o e => by have := hax g o e; omega
  have hgA : A + 1 ≤ g := by have : W.heap.size ≤ g := ownBlock_ge5 ownE rfl; omega
  have ownW := ownE.rebase (base' := w.heap.size) (by have := HA.out; omega)
  have hAx : ∀ g o, ax = some ⟨g, o, none⟩ → g ≠ A := fun g o e => by have := hax' g o e; omega
  clear hc hb1 RA0 B0 hax ownE zW
  have xA := cell_of1' RA1
  have fA := frozen_of_row w1 A 0 _ _ RA1
  have zA := row_lt RA1
  have HIe : Ints (w1.setCell ⟨A, 0, none⟩ (.slice ax T.length cx)) ax T := ints_setA hI hAx
  have owne := own_setO ownW A (fun e => by simp [Value.ownBlock] at e; omega) (.slice ax T.length cx)
  have Be : Below A w (w1.setCell ⟨A, 0, none⟩ (.slice ax T.length cx)) := B1.setCell (by simp) _
  go_wp2_with fail
  refine bodyPost_ret (by rw [results_cell_tmp2w rfl]; go_simp; try rfl) rfl ?_
  exact ⟨ax, T, cx, g, cg, E, r, rfl, HIe, (fun g o e => by have := hax' g o e; have := HA.out; omega), hT, owne, hE, hr, by rw [← HA.out]; exact Be⟩

end Go.Proofs.Ytjjcpbhmpjedoaa
