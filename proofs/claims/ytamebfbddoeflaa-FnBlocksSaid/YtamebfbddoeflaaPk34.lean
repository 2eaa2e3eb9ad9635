/-
  Texts put together: Rep, Least, Counts, Rch9, AllW, Plc, Nrm9. By an AI agent.
-/
import Derived.Test.YtamebfbddoeflaaPkMathB
import Derived.Test.YtamebfbddoeflaaPkMem
import Derived.Deep.RegionHeld3
import Derived.Laws.CopyOwn
import Derived.Deep.RegionLaw
import Derived.Test.YtamebfbddoeflaaPkCode2
import Derived.Test.YtamebfbddoeflaaPkMath
import Derived.Test.YtamebfbddoeflaaPkSums
import Derived.Lib.MinMax
import Derived.Deep.RegionWith
import Derived.Test.YtamebfbddoeflaaPkMth9
import Derived.Test.YtamebfbddoeflaaPkFar
import Derived.Test.YtamebfbddoeflaaPkWords
import Derived.Test.YtamebfbddoeflaaPkAppend
import Derived.Test.YtamebfbddoeflaaPkCode
import Derived.Shelf.Abstract
import Derived.Test.YtamebfbddoeflaaPkErr
import Derived.Test.YtamebfbddoeflaaPk20
namespace Go.Proofs.Ytamebfbddoeflaa
open Go.RowKit Cv
set_option linter.unusedVariables false
set_option linter.unusedSimpArgs false
set_option maxRecDepth 100000

theorem mul64_c (c : Nat) (hc : 1 ≤ c ∧ c ≤ 8) (w : World) :
    Calls Try.prog 86 #[.int .u64 1, .int .u64 (c : Int)] w fun e w' => e = .returned (.tuple #[.int .u64 0, .int .u64 (c : Int)]) ∧ w' = w := by
  rcases (show c = 1 ∨ c = 2 ∨ c = 3 ∨ c = 4 ∨ c = 5 ∨ c = 6 ∨ c = 7 ∨ c = 8 by omega) with rfl | rfl | rfl | rfl | rfl | rfl | rfl | rfl
  all_goals
    go_enter Try.func86, Try.ntmps86
    go_wp2_with fail
    go_ret2
    exact ⟨rfl, rfl⟩

theorem mul_c (c : Nat) (hc : 1 ≤ c ∧ c ≤ 8) (w : World) :
    Calls Try.prog 79 #[.int .u64 1, .int .u64 (c : Int)] w fun e w' => e = .returned (.tuple #[.int .u64 0, .int .u64 (c : Int)]) ∧ w' = w := by
  go_enter Try.func79, Try.ntmps79
  go_wp2_with fail
  refine (mul64_c c hc _).mono ?_
  rintro e w1 ⟨rfl, rfl⟩
  go_wp2_with fail
  go_ret2
  exact ⟨rfl, rfl⟩

/-- k numbers q, then zeros -/
def rowK (q : Int) (c k : Nat) : List Value := List.replicate k (.int .i64 q) ++ List.replicate (c - k) (.int .i64 0)
theorem rowK_len (q : Int) (c k : Nat) (h : k ≤ c) : (rowK q c k).length = c := by simp [rowK]; omega
theorem rowK_splice (q : Int) (c k j : Nat) (h : k + j ≤ c) : splice (rowK q c k) k (List.replicate j (.int .i64 q)) = rowK q c (k + j) := by
  unfold splice rowK
  have e1 : (List.replicate k (Value.int .i64 q) ++ List.replicate (c - k) (Value.int .i64 0)).take k = List.replicate k (.int .i64 q) := by simp
  have e2 : (List.replicate k (Value.int .i64 q) ++ List.replicate (c - k) (Value.int .i64 0)).drop (k + (List.replicate j (Value.int .i64 q)).length) = List.replicate (c - (k + j)) (.int .i64 0) := by
    rw [List.length_replicate, List.drop_append]
    simp
    omega
  rw [e1, e2, ← List.append_assoc, List.replicate_append_replicate]
theorem rowK_get (q : Int) (c k j : Nat) (h : j < k) (hk : k ≤ c) : (rowK q c k)[j]? = some (.int .i64 q) := by
  unfold rowK
  rw [List.getElem?_append_left (by simpa using h)]
  simp [h]
theorem rowK_zero (q : Int) (c : Nat) : rowK q c 0 = List.replicate c (.int .i64 0) := by simp [rowK]
theorem row_ownR {w : World} {base g c : Nat} {q : Int} (hb : base ≤ g) (hc : c ≤ maxLen) (h : w.heap[g]? = some (.cells (rowK q c c).toArray 2 (0, 0))) : OwnInts w base (.slice (some ⟨g, 0, none⟩) c c) (List.replicate c q) := by
  have e : rowK q c c = (List.replicate c q).map (Value.int .i64) := by simp [rowK]
  unfold OwnInts
  refine ⟨by simp, .inr ⟨g, c, (rowK q c c).toArray, by simp, hb, h, by simp, hc, by simp [rowK_len q c c (Nat.le_refl _)], ?_⟩⟩
  simp only [List.length_replicate, Nat.mul_one]
  rw [List.take_of_length_le (by simp [rowK_len q c c (Nat.le_refl _)])]
  exact e

theorem made_row {w w2 : World} {c : Nat} (q : Int) (h : w2.ownsRow w.heap.size 2 1 (.slice (some ⟨w.heap.size, 0, none⟩) c c) c (madeCells (Value.int .i64 0).cells (c * 1)).toList) : w2.heap[w.heap.size]? = some (.cells (rowK q c 0).toArray 2 (0, 0)) ∧ w.heap.size < w2.heap.size := by
  rcases h.2 with ⟨h, _⟩ | ⟨g', cap', cur, h', _, hh, hle, hm, hs, ht⟩
  · simp at h
  · simp only [Value.slice.injEq, Option.some.injEq, Addr.mk.injEq, and_true, true_and] at h'
    obtain ⟨rfl, rfl⟩ := h'
    have e : cur = (rowK q c 0).toArray := by
      have h2 : cur.toList = List.replicate c (Value.int .i64 0) := by
        rw [List.take_of_length_le (by simp [hs])] at ht
        rw [ht, Nat.mul_one]; exact toList_madeCells_one _ _
      rw [rowK_zero, ← h2]
    rw [e] at hh
    exact ⟨hh, (Array.getElem?_eq_some_iff.1 hh).1⟩
theorem copy_at (w w0 : World) (B0 G k c j : Nat) (q : Int) (src : Addr) (dLen dCap sLen sCap : Nat) (hr : w.heap[G]? = some (.cells (rowK q c k).toArray 2 (0, 0))) (hj : j = Nat.min sLen dLen) (hkj : k + j ≤ c)
    (hsrc : ∀ i, i < j → w.cell? (src.add i) = some (.int .i64 q)) (hb : Below B0 w0 w) (hBG : B0 ≤ G) :
    ∃ w4, Sem.run Try.prog (Builtin.copy_ #[24, 24] 3 #[.slice (some ⟨G, k, none⟩) dLen dCap, .slice (some src) sLen sCap]) w = .ok (goInt (j : Int)) w4 ∧ Hid (w4.heap[G]? = some (.cells (rowK q c (k + j)).toArray 2 (0, 0))) ∧ Below B0 w0 w4 := by
  obtain ⟨i0, hi, hz0, hz1, hz2⟩ := info_parts infoI64
  have hu : Try.prog.underlying 24 = some (.slice 2) := Try.underlying24
  have hsz : (Try.prog.info? 2).map (·.size) = some 1 := by rw [hi]; simp [hz1]
  have hrun := run_copy_row (P := Try.prog) w 24 24 3 2 G k dLen dCap src sLen sCap (rowK q c k).toArray 2 (List.replicate j (.int .i64 q)) hu hsz hr (by simpa using hj)
    (fun i v hv => by
      have hlt : i < j := by have := (List.getElem?_eq_some_iff.1 hv).1; simpa using this
      simp [hlt] at hv
      subst hv
      exact hsrc i hlt)
    (by simp [rowK_len q c k (by omega)]; exact hkj) (by intro v hv; rw [List.eq_of_mem_replicate hv]; rfl)
  have hlen : ((List.replicate j (Value.int .i64 q)).length : Int) = (j : Int) := by simp
  rw [hlen] at hrun
  refine ⟨_, hrun, Lib.hid ?_, below_setRow hb hBG _⟩
  have e := rowK_splice q c k j hkj
  unfold splice at e
  rw [← e]
  rw [List.append_assoc]
  exact setRow_heap w G _ _ _ _ hr
theorem row_cell {w : World} {G c k i : Nat} {q : Int} (hr : w.heap[G]? = some (.cells (rowK q c k).toArray 2 (0, 0))) (hi : i < k) (hk : k ≤ c) : w.cell? ⟨G, i, none⟩ = some (.int .i64 q) := by
  rw [cell_of_row w G i _ _ _ hr]
  simpa using rowK_get q c k i hi hk

set_option maxHeartbeats 1000000 in
theorem repeat_any (b : Nat) (q : Int) (c : Nat) (hc : 1 ≤ c ∧ c ≤ 8) (w : World) (hbl : b < w.heap.size) (hq : w.cell? ⟨b, 0, none⟩ = some (.int .i64 q)) :
    Calls Try.prog 65 #[.slice (some ⟨b, 0, none⟩) 1 1, .int .i64 (c : Int)] w fun e w' => ∃ g, e = .returned (.slice (some ⟨g, 0, none⟩) c c) ∧ OwnInts w' w.heap.size (.slice (some ⟨g, 0, none⟩) c c) (List.replicate c q) ∧ Below w.heap.size w w' := by
  obtain ⟨i0, hi, hz0, hz1, hz2⟩ := info_parts infoI64
  have HC := Lib.hid hc
  have c1 : 1 ≤ c := by omega
  have c3 : c ≤ 8 := by omega
  clear hc
  have hu : Try.prog.underlying 24 = some (.slice 2) := Try.underlying24
  have hsz : (Try.prog.info? 2).map (·.size) = some 1 := by rw [hi]; simp [hz1]
  go_enter Try.func65, Try.ntmps65
  go_wp2_with fail
  refine (mul_c c HC.out _).mono ?_
  rintro e w1 ⟨rfl, rfl⟩
  go_wp2_with (at_make; refine wpList_make_full _ rfl _ _ 24 rfl w1.heap.size 2 i0 (.int .i64 0) 1 Try.underlying24 hi hz0 hz1 .i64 .i64 _ _ c rfl rfl rfl rfl (by rw [hz2]; omega) (by unfold maxLen; omega) (Nat.le_refl _) ?_; intro w2 hown hgrow; have hmr := made_row q hown; have hb2 := below_grown0 hgrow; have hq2 := kept_cell hb2 hq hbl; obtain ⟨w4, hrun, hr4, hb4⟩ := copy_at w2 w1 w1.heap.size w1.heap.size 0 c 1 q ⟨b, 0, none⟩ c c 1 1 hmr.1 (Nat.min_eq_left c1).symm (by omega) (fun i hi => by obtain rfl : i = 0 := (by omega); simpa [Addr.add] using hq2) hb2 (Nat.le_refl _); clear hown hgrow hq2 hmr hb2)
  clear hrun
  obtain ⟨G, hGe⟩ : ∃ G, G = w1.heap.size := ⟨_, rfl⟩
  rw [← hGe] at hr4 ⊢
  have HGe := Lib.hid hGe
  clear hGe
  go_loopw [8] (fun n wr => ∃ k : Nat, 1 ≤ k ∧ k ≤ c ∧ n = .int .i64 k ∧ Hid (wr.heap[G]? = some (.cells (rowK q c k).toArray 2 (0, 0))) ∧ Below w1.heap.size w1 wr) (fun n _ => c - (intOf n).toNat)
  case atStart => exact ⟨1, Nat.le_refl _, c1, rfl, hr4, hb4⟩
  case round =>
    clear hr4 hb4
    obtain ⟨k, hk1, hk, rfl, hr, B⟩ := hrel
    by_cases hlt : k < c
    · obtain ⟨j, hj⟩ : ∃ j, j = Nat.min k (c - k) := ⟨_, rfl⟩
      have hj1 : 1 ≤ j := by rw [hj]; exact Nat.le_min.2 ⟨hk1, by omega⟩
      have hj2 : k + j ≤ c := by have : Nat.min k (c - k) ≤ c - k := Nat.min_le_right _ _; omega
      have hjk : j ≤ k := by rw [hj]; exact Nat.min_le_left _ _
      obtain ⟨w5, hrun, hr5, hb5⟩ := copy_at wr.drew w1 w1.heap.size G k c j q ⟨G, 0, none⟩ (c - k) (c - k) k c hr.out hj hj2 (fun i hi => by
        have := row_cell hr.out (show i < k by omega) hk
        by_cases e : i = 0
        · subst e; simpa [Addr.add] using this
        · simpa [Addr.add, e] using this) B.drew (by rw [HGe.out]; exact Nat.le_refl _)
      have hne : ¬ c = k := by omega
      have EW : IntKind.i64.wrap ((k : Int) + (j : Int)) = (k : Int) + (j : Int) := IntWalk.i64_in _ ⟨by omega, by omega⟩
      clear hj
      go_wp2_with fail
      refine wp_region_held_drew (S := fun _ => True) (by kernel_rfl) trivial (fun hHeld => ?_)
      refine wpAnyH_take (i := 0) (v := ?_) rfl (by kernel_rfl) (by kernel_rfl) (by kernel_rfl) (fun _ _ _ h => h) (Or.inl ⟨by rfl, ?_⟩) (by assumption) ?_
      rotate_left
      · (intro w hSw; (try dsimp only at hSw); go_simp; try (with_reducible rfl))
      (try simp only [Act.put, List.setIfInBounds_toArray, List.set_cons_zero, List.set_cons_succ, List.getElem_toArray, List.getElem_cons_succ, List.getElem_cons_zero])
      refine wpAnyH_take (i := 1) (v := ?_) rfl (by kernel_rfl) (by kernel_rfl) (by kernel_rfl) (fun _ _ _ h => h) (Or.inl ⟨by rfl, ?_⟩) (by assumption) ?_
      rotate_left
      · (intro w hSw; (try dsimp only at hSw); go_simp; try (with_reducible rfl))
      (try simp only [Act.put, List.setIfInBounds_toArray, List.set_cons_zero, List.set_cons_succ, List.getElem_toArray, List.getElem_cons_succ, List.getElem_cons_zero])
      refine wpAnyH_take (i := 2) (v := ?_) rfl (by kernel_rfl) (by kernel_rfl) (by kernel_rfl) (fun _ _ _ h => h) (Or.inl ⟨by rfl, ?_⟩) (by assumption) ?_
      rotate_left
      · (intro w hSw; (try dsimp only at hSw); go_simp; try (with_reducible rfl))
      (try simp only [Act.put, List.setIfInBounds_toArray, List.set_cons_zero, List.set_cons_succ, List.getElem_toArray, List.getElem_cons_succ, List.getElem_cons_zero])
      refine wpAnyH_take (i := 3) (v := ?_) rfl (by kernel_rfl) (by kernel_rfl) (by kernel_rfl) (fun _ _ _ h => h) (Or.inl ⟨by rfl, ?_⟩) (by assumption) ?_
      rotate_left
      · (intro w hSw; (try dsimp only at hSw); go_simp; try (with_reducible rfl))
      (try simp only [Act.put, List.setIfInBounds_toArray, List.set_cons_zero, List.set_cons_succ, List.getElem_toArray, List.getElem_cons_succ, List.getElem_cons_zero])
      refine wpAnyH_take (i := 4) (v := ?_) rfl (by kernel_rfl) (by kernel_rfl) (by kernel_rfl) (fun _ _ _ h => h) (Or.inl ⟨by rfl, ?_⟩) (by assumption) ?_
      rotate_left
      · (intro w hSw; (try dsimp only at hSw); go_simp; try (with_reducible rfl))
      (try simp only [Act.put, List.setIfInBounds_toArray, List.set_cons_zero, List.set_cons_succ, List.getElem_toArray, List.getElem_cons_succ, List.getElem_cons_zero])
      refine wpAnyH_take (i := 5) (v := ?_) rfl (by kernel_rfl) (by kernel_rfl) (by kernel_rfl) (fun _ _ _ h => h) (Or.inl ⟨by rfl, ?_⟩) (by assumption) ?_
      rotate_left
      · (intro w hSw; (try dsimp only at hSw); go_simp; try (with_reducible rfl))
      (try simp only [Act.put, List.setIfInBounds_toArray, List.set_cons_zero, List.set_cons_succ, List.getElem_toArray, List.getElem_cons_succ, List.getElem_cons_zero])
      refine wpAnyH_take (i := 6) (v := ?_) rfl (by kernel_rfl) (by kernel_rfl) (by kernel_rfl) (fun _ _ _ h => h) (Or.inl ⟨by rfl, ?_⟩) (by assumption) ?_
      rotate_left
      · (intro w hSw; (try dsimp only at hSw); go_simp; try (with_reducible rfl))
      (try simp only [Act.put, List.setIfInBounds_toArray, List.set_cons_zero, List.set_cons_succ, List.getElem_toArray, List.getElem_cons_succ, List.getElem_cons_zero])
      refine wpAnyH_ready (rs := [7]) (by kernel_rfl) (by simp) ?_
      refine AllReadyH.cons rfl (fun K hK => ?_) AllReadyH.nil
      go_simp
      refine hK.out _ _ (trivial) (fun hHeld => ?_)
      clear hK K
      (try simp only [Act.put, List.setIfInBounds_toArray, List.set_cons_zero, List.set_cons_succ, List.getElem_toArray, List.getElem_cons_succ, List.getElem_cons_zero])
      clear hrun
      refine wpAnyH_take (i := 8) (v := ?_) rfl (by kernel_rfl) (by kernel_rfl) (by kernel_rfl) (fun _ _ _ h => h) (Or.inl ⟨by rfl, ?_⟩) (by assumption) ?_
      rotate_left
      · (intro w hSw; (try dsimp only at hSw); go_simp; try (with_reducible rfl))
      (try simp only [Act.put, List.setIfInBounds_toArray, List.set_cons_zero, List.set_cons_succ, List.getElem_toArray, List.getElem_cons_succ, List.getElem_cons_zero])
      refine wpAnyH_take (i := 9) (v := ?_) rfl (by kernel_rfl) (by kernel_rfl) (by kernel_rfl) (fun _ _ _ h => h) (Or.inl ⟨by rfl, ?_⟩) (by assumption) ?_
      rotate_left
      · (intro w hSw; (try dsimp only at hSw); go_simp; try (with_reducible rfl))
      (try simp only [Act.put, List.setIfInBounds_toArray, List.set_cons_zero, List.set_cons_succ, List.getElem_toArray, List.getElem_cons_succ, List.getElem_cons_zero])
      refine wpAnyH_done (by kernel_rfl) ?_ _
      (try simp only [Act.put, List.setIfInBounds_toArray, List.set_cons_zero, List.set_cons_succ, List.getElem_toArray, List.getElem_cons_succ, List.getElem_cons_zero])
      go_wp2_with fail
      go_roundw
      case rel => exact ⟨k + j, by omega, hj2, by go_num, hr5, hb5⟩
      case measure => simp [intOf]; omega
    · have hkc : Hid (k = c) := Lib.hid (by omega)
      go_wp2_with fail
      go_ret
      have hr6 := hr.out
      rw [hkc.out] at hr6
      exact ⟨_, rfl, row_ownR (by rw [HGe.out]; exact Nat.le_refl _) (by unfold maxLen; omega) hr6, B⟩

set_option maxHeartbeats 1000000 in
theorem plainSpaceOf_any (q : Int) (c : Nat) (hc : 1 ≤ c ∧ c ≤ 8) (w : World) :
    Calls Try.prog 34 #[.int .i64 q, .int .i64 (c : Int)] w fun e w' => ∃ g, e = .returned (.agg #[.slice (some ⟨g, 0, none⟩) c c]) ∧ OwnInts w' w.heap.size (.slice (some ⟨g, 0, none⟩) c c) (List.replicate c q) ∧ Below w.heap.size w w' := by
  have HC := Lib.hid hc
  have c3 : c ≤ 8 := by omega
  clear hc
  obtain ⟨W, hW⟩ : ∃ W, W = w.alloc (.cells #[.slice none 0 0] 26) := ⟨_, rfl⟩
  have hWs : W.heap.size = w.heap.size + 1 := by rw [hW]; simp
  have B0 : Below w.heap.size w W := by rw [hW]; go_grown
  have HW := Lib.hid hW
  clear hW
  go_enter Try.func34, Try.ntmps34
  go_wp2_with fail
  rw [← HW.out]
  have BQ := B0.alloc B0.size (.cells #[.int .i64 q] 2)
  have hcq : (W.alloc (.cells #[.int .i64 q] 2)).cell? ⟨w.heap.size + 1, 0, none⟩ = some (.int .i64 q) := by rw [← hWs]; exact cell_new _ _ _
  have hsz : (W.alloc (.cells #[.int .i64 q] 2)).heap.size = w.heap.size + 2 := by simp [hWs]
  refine (repeat_any (w.heap.size + 1) q c HC.out _ (by omega) hcq).mono ?_
  rintro e w1 ⟨g, rfl, hown, hb⟩
  obtain ⟨hc, hf⟩ := bcell hb
  have hc0 : (W.alloc (.cells #[.int .i64 q] 2)).cell? ⟨w.heap.size, 0, none⟩ = some (.slice none 0 0) := by rw [HW.out]; simp
  have hf0 : (W.alloc (.cells #[.int .i64 q] 2)).frozen? ⟨w.heap.size, 0, none⟩ = false := by
    have hfa : W.frozen? ⟨w.heap.size, 0, none⟩ = false := by rw [HW.out]; exact frozen_of_row _ _ 0 _ _ (heap_alloc_new w _)
    exact ((bcell ((Below.refl _ W).alloc (Nat.le_refl _) (.cells #[.int .i64 q] 2))).2 w.heap.size 0 (by omega)).trans hfa
  have hc1 := hc w.heap.size 0 (by omega)
  have hf1 := hf w.heap.size 0 (by omega)
  rw [hc0] at hc1
  rw [hf0] at hf1
  have hz : w.heap.size < w1.heap.size := by have := hb.size; omega
  clear hc hf hc0 hf0 hcq
  go_wp2_with fail
  refine bodyPost_ret (v := .agg #[.slice (some ⟨g, 0, none⟩) c c]) (by simp [results, Try.results34, go_sem, hc1, hf1, hz]) rfl ?_
  exact ⟨g, rfl, (hown.setBelow (a := ⟨w.heap.size, 0, none⟩) (by simp; omega) _).rebase (by omega), (BQ.trans (hb.mono (by omega))).setCell (by simp) _⟩

end Go.Proofs.Ytamebfbddoeflaa

namespace Go.Proofs.Ytamebfbddoeflaa
open Go.RowKit Cv
set_option linter.unusedVariables false
set_option linter.unusedSimpArgs false
set_option maxRecDepth 100000

end Go.Proofs.Ytamebfbddoeflaa

namespace Go.Proofs.Ytamebfbddoeflaa
open Go.RowKit Cv
set_option linter.unusedVariables false
set_option linter.unusedSimpArgs false
set_option maxRecDepth 100000

theorem Ints.grown {w w' : World} {ao : Option Addr} {S : List Int} {r : Nat} (h : Ints w ao S) (hg : w.grownBy w' (some r)) (hne : ∀ b o, ao = some ⟨b, o, none⟩ → b ≠ r) : Ints w' ao S := by
  rcases h with h | ⟨b, o, rfl, hlt, hc⟩
  · exact .inl h
  · exact .inr ⟨b, o, rfl, Nat.lt_of_lt_of_le hlt hg.size, fun i hi => hg.cell (a := ⟨b, o + i, none⟩) (hc i hi) (by have := hne b o rfl; simpa using this)⟩

end Go.Proofs.Ytamebfbddoeflaa

namespace Go.Proofs.Ytamebfbddoeflaa
open Go.RowKit Cv
set_option linter.unusedVariables false
set_option linter.unusedSimpArgs false
set_option maxRecDepth 100000

end Go.Proofs.Ytamebfbddoeflaa

namespace Go.Proofs.Ytamebfbddoeflaa
open Go.RowKit Cv
set_option linter.unusedVariables false
set_option linter.unusedSimpArgs false
set_option maxRecDepth 100000

theorem wordCount_nat (ao : Option Addr) (S : List Int) (cap : Nat) (N : Nat) (hN : Hid (nW S = (N : Int))) (w : World) (h : Sp S) (hS : Ints w ao S) :
    Calls Try.prog 45 #[.agg #[.slice ao S.length cap]] w fun e w' => e = .returned (.int .i64 (N : Int)) ∧ Below w.heap.size w w' := by
  rw [← hN.out]; exact wordCount_sp ao S cap w h hS

set_option maxHeartbeats 1000000 in
theorem allWords_any (ao : Option Addr) (S : List Int) (cap : Nat) (hSp : Sp S) (N : Nat) (hN : Hid (nW S = (N : Int))) (w : World) (hS : Ints w ao S) :
    Calls Try.prog 27 #[.agg #[.slice ao S.length cap]] w fun e w' =>
      ∃ q, e = .returned (.slice (some ⟨q, 0, none⟩) N N) ∧ OwnInts w' w.heap.size (.slice (some ⟨q, 0, none⟩) N N) (upto N) ∧ Below w.heap.size w w' := by
  obtain ⟨i0, hi, hz0, hz1, hz2⟩ := info_parts infoI64
  have N2 : N ≤ 1024 := by have := (nW_bd hSp).2; have := hN.out; omega
  have HSp := Lib.hid hSp
  clear hSp
  go_enter Try.func27, Try.ntmps27
  go_wp2_with fail
  have B0 : Below w.heap.size w (w.alloc (.cells #[.slice ao S.length cap] 26)) := by go_grown
  refine (wordCount_nat ao S cap N hN _ HSp.out (hS.below B0)).mono ?_
  rintro e w1 ⟨rfl, hb1⟩
  have B1 := B0.trans (hb1.mono B0.size)
  have hs1 : w.heap.size < w1.heap.size := lt_of_below hb1 (lt_alloc _ _)
  clear hb1 B0
  go_wp2_with (at_make; refine wpList_make_full _ rfl _ _ 24 rfl w.heap.size 2 i0 (.int .i64 0) 1 Try.underlying24 hi hz0 hz1 .i64 .i64 _ _ N rfl rfl rfl rfl (by rw [hz2]; omega) (by unfold maxLen; omega) (by omega) ?_; intro w2 hown hgrow)
  have B2 : Below w.heap.size w w2 := B1.grown hgrow B1.size (by intro k h; cases h)
  replace hown := own_made hown
  have g1 : w1.heap.size ≠ w.heap.size := by omega
  clear hgrow
  go_loopw [10] (fun i wr => ∃ (k : Nat) (D : List Int), k ≤ N ∧ i = .int .i64 k ∧ OwnInts wr w.heap.size (.slice (some ⟨w1.heap.size, 0, none⟩) N N) D ∧ Hid (D.length = N ∧ ∀ j, j < k → gi D j = j) ∧ Below w.heap.size w wr)
    (fun i _ => N - (intOf i).toNat)
  case atStart => exact ⟨0, _, Nat.zero_le _, rfl, hown, Lib.hid ⟨by simp, fun j h => by omega⟩, B2⟩
  case round =>
    clear hown B2
    obtain ⟨k, D, hk, rfl, hown, HD, B⟩ := hrel
    by_cases hlt : k < N
    · have hcell := hown.cell (k := k) (by rw [HD.out.1]; exact hlt)
      have hfree := hown.free k
      go_wp2
      go_roundw
      case rel =>
        refine ⟨k + 1, _, by omega, by go_num, hown.stored k (k : Int), Lib.hid ⟨by rw [List.length_set]; exact HD.out.1, ?_⟩, B.setCell (by simp; omega) _⟩
        intro j hj
        rw [gi_set _ _ _ _ (by rw [HD.out.1]; exact hlt)]
        by_cases e : j = k
        · rw [if_pos e, e]
        · rw [if_neg e]; exact HD.out.2 j (by omega)
      case measure => simp [intOf]; omega
    · go_wp2
      go_ret
      have e : D = upto N := ext_gi (by rw [HD.out.1, upto_len]) fun i hi => by rw [HD.out.1] at hi; rw [HD.out.2 i (by omega), gi_upto _ _ hi]
      rw [e] at hown
      exact ⟨_, rfl, hown, B⟩

end Go.Proofs.Ytamebfbddoeflaa

namespace Go.Proofs.Ytamebfbddoeflaa
open Go.RowKit Go.Shelf Cv
set_option linter.unusedVariables false
set_option linter.unusedSimpArgs false
set_option maxRecDepth 100000

end Go.Proofs.Ytamebfbddoeflaa

namespace Go.Proofs.Ytamebfbddoeflaa
open Go.RowKit Cv
set_option linter.unusedVariables false
set_option linter.unusedSimpArgs false
set_option maxRecDepth 100000

theorem l01N_natz (ao : Option Addr) (S : List Int) (cap : Nat) (N : Nat) (hN : Hid (nW S = (N : Int))) (w : World) (h : Sp S) (hS : Ints w ao S) :
    Calls Try.prog 42 #[.agg #[.slice ao S.length cap]] w fun e w' => e = .returned (.int .i64 (N : Int)) ∧ Below w.heap.size w w' := by
  rw [← hN.out]; exact l01N_sp ao S cap w h hS

theorem PartsAt.rebase {w : World} {base base' P g : Nat} {S T U : List Int} (h : PartsAt w base P g S T U) (hb : base' ≤ base) : PartsAt w base' P g S T U :=
  ⟨h.len, h.dg, h.own.rebase hb, h.row, Nat.le_trans hb h.bp, h.pl, h.ne⟩

end Go.Proofs.Ytamebfbddoeflaa
