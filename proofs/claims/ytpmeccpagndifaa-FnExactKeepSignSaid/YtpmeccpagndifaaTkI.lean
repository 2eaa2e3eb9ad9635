/-
  The contract of the program's TakeOutPlace. By an AI agent.
-/
import Derived.Test.YtpmeccpagndifaaTkA
namespace Go.Proofs.Ytpmeccpagndifaa
open Go.RowKit Go.Shelf Cv
set_option linter.unusedVariables false
set_option linter.unusedSimpArgs false
set_option maxRecDepth 100000

theorem results_cell_tmp2k {fn : Func} {p u1 u2 : Tmp} {ty : TypeId} (h : fn.results = #[.cell p ty, .tmp u1, .tmp u2]) (tmps : Array Value) (P : Program) (w : World) :
    (results fn tmps).run P w =
      ((asAddr (tmps.getD p undef)).run P w).andThen fun a w₁ => ((loadVar ty a).run P w₁).andThen fun v w₂ => .ok (.tuple #[v, tmps.getD u1 undef, tmps.getD u2 undef]) w₂ := by
  simp only [results, h]
  simp [Sem.run_bind, Result.andThen]

theorem box2k (w : World) (a c : Value) (t : TypeId) : ∃ W, W = (w.alloc (.cells #[a] t)).alloc (.cells #[c] t) ∧ W.cell? ⟨w.heap.size, 0, none⟩ = some a ∧ W.heap[w.heap.size + 1]? = some (.cells #[c] t (0, 0)) ∧ W.heap.size = w.heap.size + 2 ∧ Below w.heap.size w W := by
  have s1 : (w.alloc (.cells #[a] t)).heap.size = w.heap.size + 1 := World.size_alloc _ _
  have s2 : ((w.alloc (.cells #[a] t)).alloc (.cells #[c] t)).heap.size = w.heap.size + 2 := by rw [World.size_alloc, s1]
  have b1 : Below (w.alloc (.cells #[a] t)).heap.size (w.alloc (.cells #[a] t)) ((w.alloc (.cells #[a] t)).alloc (.cells #[c] t)) := (Below.refl _ _).alloc (Nat.le_refl _) _
  have b0 : Below w.heap.size w ((w.alloc (.cells #[a] t)).alloc (.cells #[c] t)) := ((Below.refl _ _).alloc (Nat.le_refl _) _).trans (b1.mono (by omega))
  have x1 := kept_cell b1 (cell_new w a t) (lt_alloc _ _)
  have x3 := heap_alloc_last (w.alloc (.cells #[a] t)) (.cells #[c] t)
  rw [s1] at x3
  exact ⟨_, rfl, x1, x3, s2, b0⟩

theorem placeError_any (ao : Option Addr) (S : List Int) (cap : Nat) (hn : S.length ≤ 4294967296) (ac : Option Addr) (C : List Int) (capc : Nat) (hnc : C.length ≤ 4294967296) (i : Int) (w : World) (hS : Ints w ao S) (hC : Ints w ac C) :
    Calls Try.prog 62 #[.agg #[.slice ao S.length cap], .slice ac C.length capc, .int .i64 i] w fun e w' => e = .returned (.int .i64 (ePlc S C i)) ∧ Below w.heap.size w w' := by
  have B0 : Below w.heap.size w (w.alloc (.cells #[.slice ao S.length cap] 28)) := by go_grown
  have c0 := cell_new w (.slice ao S.length cap) 28
  have l0 := lt_alloc w (.cells #[.slice ao S.length cap] 28)
  have h1 := codeError_any ao S cap hn ac C capc hnc _ (hS.below B0) (hC.below B0)
  by_cases hz : eCode S C = 0
  · rw [hz] at h1
    have H1 := Lib.hid h1
    have HE : Hid (ePlc S C i = if 0 ≤ i ∧ i < S.length then 0 else 2) := Lib.hid (by unfold ePlc; rw [if_pos hz])
    clear hz h1
    by_cases i0 : i < 0
    · have HR : Hid (ePlc S C i = 2) := Lib.hid (by rw [HE.out, if_neg (by omega)])
      have hd : decide (i < 0) = true := by simpa using i0
      go_enter Try.func62, Try.ntmps62
      go_wp2_with fail
      refine H1.out.mono ?_
      rintro e w1 ⟨rfl, hb⟩
      have c1 := kept_cell hb c0 l0
      go_wp2_with fail
      go_ret
      exact ⟨ret_int HR.out.symm, B0.trans (hb.mono B0.size)⟩
    · have hd : decide (i < 0) = false := by simpa using i0
      by_cases i1 : (S.length : Int) ≤ i
      · have HR : Hid (ePlc S C i = 2) := Lib.hid (by rw [HE.out, if_neg (by omega)])
        have hd1 : decide ((S.length : Int) ≤ i) = true := by simpa using i1
        go_enter Try.func62, Try.ntmps62
        go_wp2_with fail
        refine H1.out.mono ?_
        rintro e w1 ⟨rfl, hb⟩
        have c1 := kept_cell hb c0 l0
        go_wp2_with fail
        go_ret
        exact ⟨ret_int HR.out.symm, B0.trans (hb.mono B0.size)⟩
      · have HR : Hid (ePlc S C i = 0) := Lib.hid (by rw [HE.out, if_pos (by omega)])
        have hd1 : decide ((S.length : Int) ≤ i) = false := by simpa using i1
        go_enter Try.func62, Try.ntmps62
        go_wp2_with fail
        refine H1.out.mono ?_
        rintro e w1 ⟨rfl, hb⟩
        have c1 := kept_cell hb c0 l0
        go_wp2_with fail
        go_ret
        exact ⟨ret_int HR.out.symm, B0.trans (hb.mono B0.size)⟩
  · have HR : Hid (ePlc S C i = eCode S C) := Lib.hid (by unfold ePlc; rw [if_neg hz])
    have hq : (eCode S C == 0) = false := by simpa using hz
    clear hz
    go_enter Try.func62, Try.ntmps62
    go_wp2_with fail
    refine h1.mono ?_
    rintro e w1 ⟨rfl, hb⟩
    go_wp2_with fail
    go_ret
    exact ⟨ret_int HR.out.symm, B0.trans (hb.mono B0.size)⟩

set_option maxHeartbeats 4000000 in
theorem impl_TakeOutPlace_e1 (as0 : Addr) (S : List Int) (cap : Nat) (hn : S.length ≤ 4294967296) (ac : Option Addr) (C : List Int) (capc : Nat) (hnc : C.length ≤ 4294967296) (i : Int) (w : World) (hS : Ints w (some as0) S) (hC : Ints w ac C) (E : Int) (hE : ePlc S C i = E) (hE0 : E ≠ 0) :
    Calls Try.prog 31 #[.agg #[.slice (some as0) S.length cap], .slice ac C.length capc, .int .i64 i] w fun e w' => ∃ m vs v, e = .returned (.tuple #[.agg #[vs], v, .int .i64 (eTk S C i)]) ∧ w.heap.size ≤ m ∧ RowIn vs w.heap.size m ∧ OwnInts w' w.heap.size vs (vTkS S C i) ∧ OwnInts w' m v (vTkC S C i) ∧ m ≤ w'.heap.size ∧ Below w.heap.size w w' := by
  obtain ⟨W0, hW0, cS, rR, z0, B0⟩ := box2k w (.slice (some as0) S.length cap) (.slice none 0 0) 28
  have HW0 := Lib.hid hW0
  have z0a : w.heap.size + 2 ≤ W0.heap.size := by omega
  have hEb : (E != 0) = true := by simpa using hE0
  have HE : Hid (eTk S C i = E) := Lib.hid (by unfold eTk; rw [if_neg (by rw [hE]; exact hE0), hE])
  have HS0 : Hid (vTkS S C i = []) := Lib.hid (by unfold vTkS; rw [if_neg (by rw [HE.out]; exact hE0)])
  have HC0 : Hid (vTkC S C i = []) := Lib.hid (by unfold vTkC; rw [if_neg (by rw [HE.out]; exact hE0)])
  have h1 := placeError_any (some as0) S cap hn ac C capc hnc i W0 (hS.below B0) (hC.below B0)
  rw [hE] at h1
  have H1 := Lib.hid h1
  clear hW0 z0 hE hE0 h1
  go_enter Try.func31, Try.ntmps31
  go_wp2_with fail
  rw [← HW0.out]
  refine H1.out.mono ?_
  rintro e w1 ⟨rfl, hb1⟩
  have s1 : w.heap.size + 2 ≤ w1.heap.size := by have := hb1.size; omega
  have cS1 := kept_cell hb1 cS (by omega)
  have rR1 := row_below rR hb1 (by omega)
  have B1 := B0.trans (hb1.mono (by omega))
  clear H1 hb1
  have rc : w1.cell? ⟨w.heap.size + 1, 0, none⟩ = some (.slice none 0 0) := by rw [cell_of_row w1 (w.heap.size + 1) 0 _ _ _ rR1]; rfl
  have rf : w1.frozen? ⟨w.heap.size + 1, 0, none⟩ = false := by have h' := rR1; simp [World.frozen?, h']
  have rs : (w1.setCell ⟨w.heap.size + 1, 0, none⟩ (.slice none 0 0)).cell? ⟨w.heap.size + 1, 0, none⟩ = some (.slice none 0 0) := World.cell?_setCell_same' _ _ _ (by rw [rc]; rfl)
  have B9 : Below w.heap.size w (w1.setCell ⟨w.heap.size + 1, 0, none⟩ (.slice none 0 0)) := B1.setCell (show w.heap.size ≤ w.heap.size + 1 by omega) _
  go_wp2_with fail
  refine bodyPost_ret (by rw [results_cell_tmp2k rfl]; go_simp; try rfl) rfl ?_
  exact ⟨w.heap.size, .slice none 0 0, _, by rw [HE.out], Nat.le_refl _, fun k hk => (by cases hk), by rw [HS0.out]; exact own_nil _ _, by rw [HC0.out]; exact own_nil _ _, B9.size, B9⟩

set_option maxHeartbeats 4000000 in
theorem impl_TakeOutPlace_e2 (as0 : Addr) (S : List Int) (cap : Nat) (hn : S.length ≤ 4294967296) (ac : Option Addr) (C : List Int) (capc : Nat) (hnc : C.length ≤ 4294967296) (i : Int) (w : World) (hS : Ints w (some as0) S) (hC : Ints w ac C) (hE : ePlc S C i = 0) (hone : S.length = 1) :
    Calls Try.prog 31 #[.agg #[.slice (some as0) S.length cap], .slice ac C.length capc, .int .i64 i] w fun e w' => ∃ m vs v, e = .returned (.tuple #[.agg #[vs], v, .int .i64 (eTk S C i)]) ∧ w.heap.size ≤ m ∧ RowIn vs w.heap.size m ∧ OwnInts w' w.heap.size vs (vTkS S C i) ∧ OwnInts w' m v (vTkC S C i) ∧ m ≤ w'.heap.size ∧ Below w.heap.size w w' := by
  obtain ⟨W0, hW0, cS, rR, z0, B0⟩ := box2k w (.slice (some as0) S.length cap) (.slice none 0 0) 28
  have HW0 := Lib.hid hW0
  have z0a : w.heap.size + 2 ≤ W0.heap.size := by omega
  have HE : Hid (eTk S C i = 5) := Lib.hid (by unfold eTk; rw [if_pos hE, if_pos hone])
  have HS0 : Hid (vTkS S C i = []) := Lib.hid (by unfold vTkS; rw [if_neg (by rw [HE.out]; decide)])
  have HC0 : Hid (vTkC S C i = []) := Lib.hid (by unfold vTkC; rw [if_neg (by rw [HE.out]; decide)])
  have h1 := placeError_any (some as0) S cap hn ac C capc hnc i W0 (hS.below B0) (hC.below B0)
  rw [hE] at h1
  have hl1 : ((S.length : Int) == 1) = true := by simp [hone]
  obtain ⟨n, hnn⟩ : ∃ n, n = S.length := ⟨_, rfl⟩
  rw [← hnn] at h1 hl1 hone cS hW0 ⊢
  replace HW0 := Lib.hid hW0
  have H1 := Lib.hid h1
  clear hW0 z0 hE h1 hone hnn
  go_enter Try.func31, Try.ntmps31
  go_wp2_with fail
  rw [← HW0.out]
  refine H1.out.mono ?_
  rintro e w1 ⟨rfl, hb1⟩
  have s1 : w.heap.size + 2 ≤ w1.heap.size := by have := hb1.size; omega
  have cS1 := kept_cell hb1 cS (by omega)
  have rR1 := row_below rR hb1 (by omega)
  have B1 := B0.trans (hb1.mono (by omega))
  clear H1 hb1
  have rc : w1.cell? ⟨w.heap.size + 1, 0, none⟩ = some (.slice none 0 0) := by rw [cell_of_row w1 (w.heap.size + 1) 0 _ _ _ rR1]; rfl
  have rf : w1.frozen? ⟨w.heap.size + 1, 0, none⟩ = false := by have h' := rR1; simp [World.frozen?, h']
  have rs : (w1.setCell ⟨w.heap.size + 1, 0, none⟩ (.slice none 0 0)).cell? ⟨w.heap.size + 1, 0, none⟩ = some (.slice none 0 0) := World.cell?_setCell_same' _ _ _ (by rw [rc]; rfl)
  have B9 : Below w.heap.size w (w1.setCell ⟨w.heap.size + 1, 0, none⟩ (.slice none 0 0)) := B1.setCell (show w.heap.size ≤ w.heap.size + 1 by omega) _
  go_wp2_with fail
  refine bodyPost_ret (by rw [results_cell_tmp2k rfl]; go_simp; try rfl) rfl ?_
  exact ⟨w.heap.size, .slice none 0 0, _, by rw [HE.out], Nat.le_refl _, fun k hk => (by cases hk), by rw [HS0.out]; exact own_nil _ _, by rw [HC0.out]; exact own_nil _ _, B9.size, B9⟩

set_option maxHeartbeats 4000000 in
theorem impl_TakeOutPlace_ok (as0 : Addr) (S : List Int) (cap : Nat) (hn : S.length ≤ 4294967296) (hcap : S.length ≤ cap) (ac : Option Addr) (C : List Int) (capc : Nat) (hnc : C.length ≤ 4294967296) (k : Nat) (w : World) (hS : Ints w (some as0) S) (hC : Ints w ac C) (hE : ePlc S C k = 0) (hone : S.length ≠ 1) :
    Calls Try.prog 31 #[.agg #[.slice (some as0) S.length cap], .slice ac C.length capc, .int .i64 (k : Int)] w fun e w' => ∃ m vs v, e = .returned (.tuple #[.agg #[vs], v, .int .i64 (eTk S C k)]) ∧ w.heap.size ≤ m ∧ RowIn vs w.heap.size m ∧ OwnInts w' w.heap.size vs (vTkS S C k) ∧ OwnInts w' m v (vTkC S C k) ∧ m ≤ w'.heap.size ∧ Below w.heap.size w w' := by
  obtain ⟨W0, hW0, cS, rR, z0, B0⟩ := box2k w (.slice (some as0) S.length cap) (.slice none 0 0) 28
  have HW0 := Lib.hid hW0
  have z0a : w.heap.size + 2 ≤ W0.heap.size := by omega
  have HE : Hid (eTk S C k = 0) := Lib.hid (by unfold eTk; rw [if_pos hE, if_neg hone])
  have HS0 : Hid (vTkS S C k = dropI k S) := Lib.hid (by unfold vTkS; rw [if_pos HE.out, Int.toNat_natCast])
  have HC0 : Hid (vTkC S C k = outTo S C k (-1) C.length) := Lib.hid (by unfold vTkC; rw [if_pos HE.out, Int.toNat_natCast])
  obtain ⟨hc0, k0, k1⟩ := ePlc_zero hE
  obtain ⟨hSp, c1, c2⟩ := eCode_zero hc0
  have hlc := code_len0 hc0
  have N := nW_bd hSp
  have hlo := hSp.lo
  have HW := Lib.hid (fun (W : World) (h1 : Ints W (some as0) S) (h2 : Ints W ac C) => withoutPlace_any as0 S cap hcap hSp (by omega) ac C capc hlc (fun j hj => by have := c1 j hj; omega) k (by omega) W h1 h2)
  have h1 := placeError_any (some as0) S cap hn ac C capc hnc k W0 (hS.below B0) (hC.below B0)
  rw [hE] at h1
  have hl1 : ((S.length : Int) == 1) = false := by simpa using fun h : (S.length : Int) = 1 => hone (by omega)
  have HDn : Hid (dropI k S ≠ []) := Lib.hid fun h => by
    have h2 := dropI_len k S (by omega)
    rw [h] at h2; simp at h2; omega
  have H1 := Lib.hid h1
  clear hW0 z0 hE h1 hone c1 c2 hc0 hSp
  go_enter Try.func31, Try.ntmps31
  go_wp2_with fail
  rw [← HW0.out]
  refine H1.out.mono ?_
  rintro e w1 ⟨rfl, hb1⟩
  have s1 : w.heap.size + 2 ≤ w1.heap.size := by have := hb1.size; omega
  have cS1 := kept_cell hb1 cS (by omega)
  have rR1 := row_below rR hb1 (by omega)
  have B1 := B0.trans (hb1.mono (by omega))
  have hw := HW.out w1 (hS.below B1) (hC.below B1)
  clear H1 hb1 cS rR B0 HW
  go_wp2_with fail
  refine hw.mono ?_
  rintro e w3 ⟨m, vs, v, rfl, hm, row, ownS, ownC, hm3, hb3⟩
  obtain ⟨g, cg, hv, _⟩ := own_some ownS HDn.out
  obtain ⟨M, hM⟩ : ∃ M, M = (dropI k S).length := ⟨_, rfl⟩
  rw [← hM] at hv
  subst hv
  clear hM
  have rR3 := row_below rR1 hb3 (by omega)
  have B3 := B1.trans (hb3.mono (by omega))
  have s3 := hb3.size
  have h35 : Below w3.heap.size w3 (w3.alloc (.cells #[.slice (some ⟨g, 0, none⟩) M cg] 28)) := (Below.refl _ w3).alloc (Nat.le_refl _) _
  have ownS5 := ownS.below h35
  have ownC5 := ownC.below h35
  have hs5 := h35.size
  have rR5 := row_alloc rR3 (.cells #[.slice (some ⟨g, 0, none⟩) M cg] 28)
  have rc : (w3.alloc (.cells #[.slice (some ⟨g, 0, none⟩) M cg] 28)).cell? ⟨w.heap.size + 1, 0, none⟩ = some (.slice none 0 0) := by rw [cell_of_row _ (w.heap.size + 1) 0 _ _ _ rR5]; rfl
  have rf : (w3.alloc (.cells #[.slice (some ⟨g, 0, none⟩) M cg] 28)).frozen? ⟨w.heap.size + 1, 0, none⟩ = false := by have h' := rR5; simp only [World.frozen?, h']; simp
  have rs : ((w3.alloc (.cells #[.slice (some ⟨g, 0, none⟩) M cg] 28)).setCell ⟨w.heap.size + 1, 0, none⟩ (.slice (some ⟨g, 0, none⟩) M cg)).cell? ⟨w.heap.size + 1, 0, none⟩ = some (.slice (some ⟨g, 0, none⟩) M cg) := World.cell?_setCell_same' _ _ _ (by rw [rc]; rfl)
  have B5 := B3.alloc B3.size (.cells #[.slice (some ⟨g, 0, none⟩) M cg] 28)
  have B9 : Below w.heap.size w ((w3.alloc (.cells #[.slice (some ⟨g, 0, none⟩) M cg] 28)).setCell ⟨w.heap.size + 1, 0, none⟩ (.slice (some ⟨g, 0, none⟩) M cg)) := B5.setCell (show w.heap.size ≤ w.heap.size + 1 by omega) _
  have rxf : (w3.alloc (.cells #[.slice none 0 0] 28)).frozen? ⟨w3.heap.size, 0, none⟩ = false := by have h' := heap_alloc_last w3 (.cells #[.slice none 0 0] 28); simp only [World.frozen?, h']; simp
  clear hw hb3 cS1 rR1 B1 ownS ownC rR3 rR5 B3 B5 h35
  go_wp2_with fail
  refine bodyPost_ret (by rw [results_cell_tmp2k rfl]; go_simp; try rfl) rfl ?_
  refine ⟨m, .slice (some ⟨g, 0, none⟩) M cg, v, by rw [HE.out], by omega, fun z hz => by have := row z hz; omega, ?_, ?_, by simp; omega, B9⟩
  · rw [HS0.out]; exact (ownS5.setBelow (by simp; omega) _).rebase (by omega)
  · rw [HC0.out]; exact ownC5.setBelow (show w.heap.size + 1 < m by omega) _

theorem impl_TakeOutPlace (as0 : Addr) (S : List Int) (cap : Nat) (hn : S.length ≤ 4294967296) (hcap : S.length ≤ cap) (ac : Option Addr) (C : List Int) (capc : Nat) (hnc : C.length ≤ 4294967296) (i : Int) (hib : -9223372036854775808 ≤ i ∧ i ≤ 9223372036854775807) (w : World) (hS : Ints w (some as0) S) (hC : Ints w ac C) :
    Calls Try.prog 31 #[.agg #[.slice (some as0) S.length cap], .slice ac C.length capc, .int .i64 i] w fun e w' => ∃ m vs v, e = .returned (.tuple #[.agg #[vs], v, .int .i64 (eTk S C i)]) ∧ w.heap.size ≤ m ∧ RowIn vs w.heap.size m ∧ OwnInts w' w.heap.size vs (vTkS S C i) ∧ OwnInts w' m v (vTkC S C i) ∧ m ≤ w'.heap.size ∧ Below w.heap.size w w' := by
  by_cases h1 : ePlc S C i = 0
  · by_cases h2 : S.length = 1
    · exact impl_TakeOutPlace_e2 as0 S cap hn ac C capc hnc i w hS hC h1 h2
    · have := ePlc_zero h1
      obtain ⟨k, rfl⟩ : ∃ k : Nat, i = (k : Int) := ⟨i.toNat, by omega⟩
      exact impl_TakeOutPlace_ok as0 S cap hn hcap ac C capc hnc k w hS hC h1 h2
  · exact impl_TakeOutPlace_e1 as0 S cap hn ac C capc hnc i w hS hC _ rfl h1

end Go.Proofs.Ytpmeccpagndifaa
