/-
  The contract of the program's KeepSign. By an AI agent.
-/
import Derived.Test.YtpmeccpagndifaaKsF
namespace Go.Proofs.Ytpmeccpagndifaa
open Go.RowKit Go.Shelf Cv
set_option linter.unusedVariables false
set_option linter.unusedSimpArgs false
set_option maxRecDepth 100000

theorem box4k (w : World) (a b d c : Value) (t u : TypeId) : ∃ W, W = (((w.alloc (.cells #[a] t)).alloc (.cells #[b] u)).alloc (.cells #[d] u)).alloc (.cells #[c] t) ∧ W.cell? ⟨w.heap.size, 0, none⟩ = some a ∧ W.cell? ⟨w.heap.size + 1, 0, none⟩ = some b ∧ W.cell? ⟨w.heap.size + 2, 0, none⟩ = some d ∧ W.heap[w.heap.size + 3]? = some (.cells #[c] t (0, 0)) ∧ W.heap.size = w.heap.size + 4 ∧ Below w.heap.size w W := by
  obtain ⟨V, hV, v1, v2, v3, v4, v5⟩ := box3k w a b d t u
  have s1 : (w.alloc (.cells #[a] t)).heap.size = w.heap.size + 1 := World.size_alloc _ _
  have s2 : ((w.alloc (.cells #[a] t)).alloc (.cells #[b] u)).heap.size = w.heap.size + 2 := by rw [World.size_alloc, s1]
  have s3 : (((w.alloc (.cells #[a] t)).alloc (.cells #[b] u)).alloc (.cells #[d] u)).heap.size = w.heap.size + 3 := by rw [World.size_alloc, s2]
  have s4 : ((((w.alloc (.cells #[a] t)).alloc (.cells #[b] u)).alloc (.cells #[d] u)).alloc (.cells #[c] t)).heap.size = w.heap.size + 4 := by rw [World.size_alloc, s3]
  have b3 : Below (((w.alloc (.cells #[a] t)).alloc (.cells #[b] u)).alloc (.cells #[d] u)).heap.size (((w.alloc (.cells #[a] t)).alloc (.cells #[b] u)).alloc (.cells #[d] u)) ((((w.alloc (.cells #[a] t)).alloc (.cells #[b] u)).alloc (.cells #[d] u)).alloc (.cells #[c] t)) := (Below.refl _ _).alloc (Nat.le_refl _) _
  have b2 : Below ((w.alloc (.cells #[a] t)).alloc (.cells #[b] u)).heap.size ((w.alloc (.cells #[a] t)).alloc (.cells #[b] u)) ((((w.alloc (.cells #[a] t)).alloc (.cells #[b] u)).alloc (.cells #[d] u)).alloc (.cells #[c] t)) := ((Below.refl _ _).alloc (Nat.le_refl _) _).trans (b3.mono (by omega))
  have b1 : Below (w.alloc (.cells #[a] t)).heap.size (w.alloc (.cells #[a] t)) ((((w.alloc (.cells #[a] t)).alloc (.cells #[b] u)).alloc (.cells #[d] u)).alloc (.cells #[c] t)) := ((Below.refl _ _).alloc (Nat.le_refl _) _).trans (b2.mono (by omega))
  have b0 : Below w.heap.size w ((((w.alloc (.cells #[a] t)).alloc (.cells #[b] u)).alloc (.cells #[d] u)).alloc (.cells #[c] t)) := ((Below.refl _ _).alloc (Nat.le_refl _) _).trans (b1.mono (by omega))
  have x1 := kept_cell b1 (cell_new w a t) (lt_alloc _ _)
  have x2 := kept_cell b2 (cell_new (w.alloc (.cells #[a] t)) b u) (lt_alloc _ _)
  have x3 := kept_cell b3 (cell_new ((w.alloc (.cells #[a] t)).alloc (.cells #[b] u)) d u) (lt_alloc _ _)
  have x4 := heap_alloc_last (((w.alloc (.cells #[a] t)).alloc (.cells #[b] u)).alloc (.cells #[d] u)) (.cells #[c] t)
  rw [s1] at x2
  rw [s2] at x3
  rw [s3] at x4
  exact ⟨_, rfl, x1, x2, x3, x4, s4, b0⟩

set_option maxHeartbeats 4000000 in
theorem impl_KeepSign_e1 (as0 : Addr) (S : List Int) (cap : Nat) (hn : S.length ≤ 4294967296) (ac : Option Addr) (C : List Int) (capc : Nat) (hnc : C.length ≤ 4294967296) (i d : Int) (w : World) (hS : Ints w (some as0) S) (hC : Ints w ac C) (E : Int) (hE : ePlc S C i = E) (hE0 : E ≠ 0) :
    Calls Try.prog 34 #[.agg #[.slice (some as0) S.length cap], .slice ac C.length capc, .int .i64 i, .int .i64 d] w fun e w' => ∃ m vs v, e = .returned (.tuple #[.agg #[vs], v, .int .i64 (eKs S C i d)]) ∧ w.heap.size ≤ m ∧ RowIn vs w.heap.size m ∧ OwnInts w' w.heap.size vs (vKsS S C i d) ∧ OwnInts w' m v (vKsC S C i d) ∧ m ≤ w'.heap.size ∧ Below w.heap.size w w' := by
  obtain ⟨W0, hW0, cS, cI, cD, rR, z0, B0⟩ := box4k w (.slice (some as0) S.length cap) (.int .i64 i) (.int .i64 d) (.slice none 0 0) 28 2
  have HW0 := Lib.hid hW0
  have z0a : w.heap.size + 4 ≤ W0.heap.size := by omega
  have hEb : (E != 0) = true := by simpa using hE0
  have HE : Hid (eKs S C i d = E) := Lib.hid (by unfold eKs; rw [if_neg (by rw [hE]; exact hE0), hE])
  have HS0 : Hid (vKsS S C i d = []) := Lib.hid (by unfold vKsS; rw [if_neg (by rw [HE.out]; exact hE0)])
  have HC0 : Hid (vKsC S C i d = []) := Lib.hid (by unfold vKsC; rw [if_neg (by rw [HE.out]; exact hE0)])
  have h1 := placeError_any (some as0) S cap hn ac C capc hnc i W0 (hS.below B0) (hC.below B0)
  rw [hE] at h1
  have H1 := Lib.hid h1
  clear hW0 z0 hE hE0 h1
  go_enter Try.func34, Try.ntmps34
  go_wp2_with fail
  rw [← HW0.out]
  refine H1.out.mono ?_
  rintro e w1 ⟨rfl, hb1⟩
  have s1 : w.heap.size + 4 ≤ w1.heap.size := by have := hb1.size; omega
  have rR1 := row_below rR hb1 (by omega)
  have B1 := B0.trans (hb1.mono (by omega))
  clear H1 hb1
  have rc : w1.cell? ⟨w.heap.size + 1 + 1 + 1, 0, none⟩ = some (.slice none 0 0) := by rw [cell_of_row w1 (w.heap.size + 3) 0 _ _ _ rR1]; rfl
  have rf : w1.frozen? ⟨w.heap.size + 1 + 1 + 1, 0, none⟩ = false := by have h' := rR1; simp [World.frozen?, h']
  have rs : (w1.setCell ⟨w.heap.size + 1 + 1 + 1, 0, none⟩ (.slice none 0 0)).cell? ⟨w.heap.size + 1 + 1 + 1, 0, none⟩ = some (.slice none 0 0) := World.cell?_setCell_same' _ _ _ (by rw [rc]; rfl)
  have B9 : Below w.heap.size w (w1.setCell ⟨w.heap.size + 1 + 1 + 1, 0, none⟩ (.slice none 0 0)) := B1.setCell (show w.heap.size ≤ w.heap.size + 1 + 1 + 1 by omega) _
  go_wp2_with fail
  refine bodyPost_ret (by rw [results_cell_tmp2k rfl]; go_simp; try rfl) rfl ?_
  exact ⟨w.heap.size, .slice none 0 0, _, by rw [HE.out], Nat.le_refl _, fun k hk => (by cases hk), by rw [HS0.out]; exact own_nil _ _, by rw [HC0.out]; exact own_nil _ _, B9.size, B9⟩

set_option maxHeartbeats 4000000 in
theorem impl_KeepSign_e2 (as0 : Addr) (S : List Int) (cap : Nat) (hn : S.length ≤ 4294967296) (ac : Option Addr) (C : List Int) (capc : Nat) (hnc : C.length ≤ 4294967296) (k : Nat) (d : Int) (w : World) (hS : Ints w (some as0) S) (hC : Ints w ac C) (hE : ePlc S C k = 0) (hd : ¬ (0 ≤ d ∧ d < gi S k)) :
    Calls Try.prog 34 #[.agg #[.slice (some as0) S.length cap], .slice ac C.length capc, .int .i64 (k : Int), .int .i64 d] w fun e w' => ∃ m vs v, e = .returned (.tuple #[.agg #[vs], v, .int .i64 (eKs S C k d)]) ∧ w.heap.size ≤ m ∧ RowIn vs w.heap.size m ∧ OwnInts w' w.heap.size vs (vKsS S C k d) ∧ OwnInts w' m v (vKsC S C k d) ∧ m ≤ w'.heap.size ∧ Below w.heap.size w w' := by
  obtain ⟨W0, hW0, cS, cI, cD, rR, z0, B0⟩ := box4k w (.slice (some as0) S.length cap) (.int .i64 (k : Int)) (.int .i64 d) (.slice none 0 0) 28 2
  have HW0 := Lib.hid hW0
  have z0a : w.heap.size + 4 ≤ W0.heap.size := by omega
  have HE : Hid (eKs S C k d = 2) := Lib.hid (by unfold eKs; rw [if_pos hE, if_neg (by rw [Int.toNat_natCast]; exact hd)])
  have HS0 : Hid (vKsS S C k d = []) := Lib.hid (by unfold vKsS; rw [if_neg (by rw [HE.out]; decide)])
  have HC0 : Hid (vKsC S C k d = []) := Lib.hid (by unfold vKsC; rw [if_neg (by rw [HE.out]; decide)])
  have h1 := placeError_any (some as0) S cap hn ac C capc hnc k W0 (hS.below B0) (hC.below B0)
  obtain ⟨_, k0, k1⟩ := ePlc_zero hE
  rw [hE] at h1
  have H1 := Lib.hid h1
  obtain ⟨b, o, he, hbl, hcs⟩ := hS.at (show k < S.length by omega)
  obtain rfl : as0 = ⟨b, o, none⟩ := by simpa using he
  have hck := hcs k (by omega)
  clear hW0 z0 hE h1 he hcs
  by_cases d0 : d < 0
  · have hd1 : decide (d < 0) = true := by simpa using d0
    clear hd d0
    go_enter Try.func34, Try.ntmps34
    go_wp2_with fail
    rw [← HW0.out]
    refine H1.out.mono ?_
    rintro e w1 ⟨rfl, hb1⟩
    have s1 : w.heap.size + 4 ≤ w1.heap.size := by have := hb1.size; omega
    have cD1 : w1.cell? ⟨w.heap.size + 1 + 1, 0, none⟩ = some (.int .i64 d) := kept_cell hb1 cD (by omega)
    have rR1 := row_below rR hb1 (by omega)
    have B1 := B0.trans (hb1.mono (by omega))
    clear H1 hb1 cS cI cD rR B0
    go_wp2_with fail
    have rc0 : w1.cell? ⟨w.heap.size + 1 + 1 + 1, 0, none⟩ = some (.slice none 0 0) := by rw [cell_of_row w1 (w.heap.size + 3) 0 _ _ _ rR1]; rfl
    have rf0 : w1.frozen? ⟨w.heap.size + 1 + 1 + 1, 0, none⟩ = false := by have h' := rR1; simp [World.frozen?, h']
    have rc : ∀ n, (w1.drewN n).cell? ⟨w.heap.size + 1 + 1 + 1, 0, none⟩ = some (.slice none 0 0) := fun n => rc0
    have rf : ∀ n, (w1.drewN n).frozen? ⟨w.heap.size + 1 + 1 + 1, 0, none⟩ = false := fun n => rf0
    have rs : ∀ n, ((w1.drewN n).setCell ⟨w.heap.size + 1 + 1 + 1, 0, none⟩ (.slice none 0 0)).cell? ⟨w.heap.size + 1 + 1 + 1, 0, none⟩ = some (.slice none 0 0) := fun n => World.cell?_setCell_same' _ _ _ (by rw [rc n]; rfl)
    have B9 : ∀ n, Below w.heap.size w ((w1.drewN n).setCell ⟨w.heap.size + 1 + 1 + 1, 0, none⟩ (.slice none 0 0)) := fun n => (below_drewN B1 n).setCell (show w.heap.size ≤ w.heap.size + 1 + 1 + 1 by omega) _
    go_quiet (fail)
    go_wp2_with fail
    refine bodyPost_ret (by rw [results_cell_tmp2k rfl]; go_simp; try rfl) rfl ?_
    exact ⟨w.heap.size, .slice none 0 0, _, by rw [HE.out], Nat.le_refl _, fun k hk => (by cases hk), by rw [HS0.out]; exact own_nil _ _, by rw [HC0.out]; exact own_nil _ _, (B9 _).size, B9 _⟩
  · have hd1 : decide (d < 0) = false := by simpa using d0
    have hd2 : decide (gi S k ≤ d) = true := by simp; omega
    have i1 : (0 : Int) ≤ (k : Int) := by omega
    have i2 : (k : Int) < (S.length : Int) := by omega
    clear hd d0
    go_enter Try.func34, Try.ntmps34
    go_wp2_with fail
    rw [← HW0.out]
    refine H1.out.mono ?_
    rintro e w1 ⟨rfl, hb1⟩
    have s1 : w.heap.size + 4 ≤ w1.heap.size := by have := hb1.size; omega
    have cS1 := kept_cell hb1 cS (by omega)
    have cI1 := kept_cell hb1 cI (by omega)
    have hk1 := kept_cell (B0.trans (hb1.mono (by omega))) hck hbl
    have cD1 : w1.cell? ⟨w.heap.size + 1 + 1, 0, none⟩ = some (.int .i64 d) := kept_cell hb1 cD (by omega)
    have rR1 := row_below rR hb1 (by omega)
    have B1 := B0.trans (hb1.mono (by omega))
    clear H1 hb1 cS cI cD rR B0
    go_wp2_with fail
    have rc0 : w1.cell? ⟨w.heap.size + 1 + 1 + 1, 0, none⟩ = some (.slice none 0 0) := by rw [cell_of_row w1 (w.heap.size + 3) 0 _ _ _ rR1]; rfl
    have rf0 : w1.frozen? ⟨w.heap.size + 1 + 1 + 1, 0, none⟩ = false := by have h' := rR1; simp [World.frozen?, h']
    have rc : ∀ n, (w1.drewN n).cell? ⟨w.heap.size + 1 + 1 + 1, 0, none⟩ = some (.slice none 0 0) := fun n => rc0
    have rf : ∀ n, (w1.drewN n).frozen? ⟨w.heap.size + 1 + 1 + 1, 0, none⟩ = false := fun n => rf0
    have rs : ∀ n, ((w1.drewN n).setCell ⟨w.heap.size + 1 + 1 + 1, 0, none⟩ (.slice none 0 0)).cell? ⟨w.heap.size + 1 + 1 + 1, 0, none⟩ = some (.slice none 0 0) := fun n => World.cell?_setCell_same' _ _ _ (by rw [rc n]; rfl)
    have B9 : ∀ n, Below w.heap.size w ((w1.drewN n).setCell ⟨w.heap.size + 1 + 1 + 1, 0, none⟩ (.slice none 0 0)) := fun n => (below_drewN B1 n).setCell (show w.heap.size ≤ w.heap.size + 1 + 1 + 1 by omega) _
    go_quiet (fail)
    go_wp2_with fail
    refine bodyPost_ret (by rw [results_cell_tmp2k rfl]; go_simp; try rfl) rfl ?_
    exact ⟨w.heap.size, .slice none 0 0, _, by rw [HE.out], Nat.le_refl _, fun k hk => (by cases hk), by rw [HS0.out]; exact own_nil _ _, by rw [HC0.out]; exact own_nil _ _, (B9 _).size, B9 _⟩

set_option maxHeartbeats 4000000 in
theorem impl_KeepSign_ok (as0 : Addr) (S : List Int) (cap : Nat) (hn : S.length ≤ 4294967296) (hcap : S.length ≤ cap) (ac : Addr) (C : List Int) (capc : Nat) (hnc : C.length ≤ 4294967296) (k : Nat) (d : Int) (w : World) (hS : Ints w (some as0) S) (hC : Ints w (some ac) C) (hE : ePlc S C k = 0) (hd : 0 ≤ d ∧ d < gi S k) :
    Calls Try.prog 34 #[.agg #[.slice (some as0) S.length cap], .slice (some ac) C.length capc, .int .i64 (k : Int), .int .i64 d] w fun e w' => ∃ m vs v, e = .returned (.tuple #[.agg #[vs], v, .int .i64 (eKs S C k d)]) ∧ w.heap.size ≤ m ∧ RowIn vs w.heap.size m ∧ OwnInts w' w.heap.size vs (vKsS S C k d) ∧ OwnInts w' m v (vKsC S C k d) ∧ m ≤ w'.heap.size ∧ Below w.heap.size w w' := by
  obtain ⟨W0, hW0, cS, cI, cD, rR, z0, B0⟩ := box4k w (.slice (some as0) S.length cap) (.int .i64 (k : Int)) (.int .i64 d) (.slice none 0 0) 28 2
  have HW0 := Lib.hid hW0
  have z0a : w.heap.size + 4 ≤ W0.heap.size := by omega
  have hd' : 0 ≤ d ∧ d < gi S (k : Int).toNat := by rw [Int.toNat_natCast]; exact hd
  have HE : Hid (eTk S (keepL S C k d) k = eKs S C k d) := Lib.hid (by have := ks_e hE hd'; rwa [Int.toNat_natCast] at this)
  have HS0 : Hid (vTkS S (keepL S C k d) k = vKsS S C k d) := Lib.hid (by have := ks_s hE hd'; rwa [Int.toNat_natCast] at this)
  have HC0 : Hid (vTkC S (keepL S C k d) k = vKsC S C k d) := Lib.hid (by have := ks_c hE hd'; rwa [Int.toNat_natCast] at this)
  obtain ⟨hc0, k0, k1⟩ := ePlc_zero hE
  obtain ⟨hSp, c1, c2⟩ := eCode_zero hc0
  have hlc := code_len0 hc0
  have N := nW_bd hSp
  have HSp := Lib.hid hSp
  have HCb : Hid (∀ x, x ∈ C → 0 ≤ x ∧ x ≤ 9223372036854775807) := Lib.hid fun x hx => by obtain ⟨j, hj, e⟩ := mem_gi hx; have := c1 j hj; omega
  have h1 := placeError_any (some as0) S cap hn (some ac) C capc hnc k W0 (hS.below B0) (hC.below B0)
  rw [hE] at h1
  have H1 := Lib.hid h1
  obtain ⟨b, o, he, hbl, hcs⟩ := hS.at (show k < S.length by omega)
  obtain rfl : as0 = ⟨b, o, none⟩ := by simpa using he
  have hck := hcs k (by omega)
  have hd1 : decide (d < 0) = false := by simp; omega
  have hd2 : decide (gi S k ≤ d) = false := by simp; omega
  have i1 : (0 : Int) ≤ (k : Int) := by omega
  have i2 : (k : Int) < (S.length : Int) := by omega
  have hks : k < S.length := by omega
  clear hW0 z0 hE h1 he hcs c1 c2 hc0 hSp hd hd' N
  go_enter Try.func34, Try.ntmps34
  go_wp2_with fail
  rw [← HW0.out]
  refine H1.out.mono ?_
  rintro e w1 ⟨rfl, hb1⟩
  have s1 : w.heap.size + 4 ≤ w1.heap.size := by have := hb1.size; omega
  have cS1 := kept_cell hb1 cS (by omega)
  have cI1 := kept_cell hb1 cI (by omega)
  have cD1 : w1.cell? ⟨w.heap.size + 1 + 1, 0, none⟩ = some (.int .i64 d) := kept_cell hb1 cD (by omega)
  have rR1 := row_below rR hb1 (by omega)
  have B1 := B0.trans (hb1.mono (by omega))
  have hk1 := kept_cell B1 hck hbl
  clear H1 hb1 cS cI cD rR B0
  go_wp2_with fail
  go_quiet (fail)
  go_wp2_with fail
  refine (clone_any 0 C capc 0 _ (by omega) (Nat.zero_le _) ac (hC.below (below_drewN B1 _))).mono ?_
  rintro e w2 ⟨g2, c2, rfl, own2', hb2'⟩
  have hb2 : Below w1.heap.size w1 w2 := (below_drewN (Below.refl _ w1) _).trans hb2'
  have own2 : OwnInts w2 w1.heap.size (.slice (some ⟨g2, 0, none⟩) C.length c2) C := own2'
  have cS2 := kept_cell hb2 cS1 (by omega)
  have cI2 := kept_cell hb2 cI1 (by omega)
  have cD2 := kept_cell hb2 cD1 (by omega)
  have rR2 := row_below rR1 hb2 (by omega)
  have B2 := B1.trans (hb2.mono (by omega))
  have s2 := hb2.size
  have hg2 := own2.base_le
  clear own2' hb2' hb2 cS1 cI1 cD1 rR1 B1 hk1
  have hdf := deleteFunc_any w1.heap.size g2 c2 C 67 (enters_of Try.func67 (by kernel_rfl) rfl) #[] #[.pointer (some ⟨w.heap.size, 0, none⟩), .pointer (some ⟨w.heap.size + 1, 0, none⟩), .pointer (some ⟨w.heap.size + 2, 0, none⟩)] (fun x => dig S x k != d) w2 (by omega) own2 (keepSign_fun w.heap.size (some ⟨b, o, none⟩) S cap HSp.out k hks d C HCb.out w1.heap.size w2 (by omega) s2 cS2 cI2 cD2 (hS.below B2) (fun W hb => hS.below (B2.trans (hb.mono (by omega)))))
  have HDF := Lib.hid hdf
  clear hdf
  go_wp2_with fail
  refine HDF.out.mono ?_
  rintro e w3 ⟨vk, rfl, own3', hg3⟩
  have own3 : OwnInts w3 w1.heap.size vk (keepL S C k d) := own3'
  have hb3 := below_of_grown hg3 hg2.1 s2
  have s3 : w1.heap.size ≤ w3.heap.size := Nat.le_trans s2 hg3.size
  have cS3 := kept_cell hb3 cS2 (by omega)
  have cI3 := kept_cell hb3 cI2 (by omega)
  have rR3 := row_below rR2 hb3 (by omega)
  have B3 := B2.trans (hb3.mono (by omega))
  obtain ⟨ak, ck, hv, hIk⟩ := own3.ints
  subst hv
  have hkl := keepL_len S C k d
  have hto := impl_TakeOutPlace ⟨b, o, none⟩ S cap hn hcap ak (keepL S C k d) ck (by omega) k ⟨by omega, by omega⟩ w3 (hS.below B3) hIk
  rw [HE.out, HS0.out, HC0.out] at hto
  obtain ⟨K, hK⟩ : ∃ K, K = (keepL S C k d).length := ⟨_, rfl⟩
  rw [← hK] at hto ⊢
  have HTO := Lib.hid hto
  clear own3' hg3 hb3 cS2 cI2 cD2 rR2 B2 own2 HDF own3 hIk hto hK hkl
  go_wp2_with fail
  refine HTO.out.mono ?_
  rintro e w4 ⟨m, vs, v, rfl, hm, row, ownS, ownC, hm4, hb4⟩
  obtain ⟨as4, cs4, hv, _⟩ := ownS.ints
  obtain ⟨M, hM⟩ : ∃ M, M = (vKsS S C k d).length := ⟨_, rfl⟩
  rw [← hM] at hv
  subst hv
  clear hM
  have rR4 := row_below rR3 hb4 (by omega)
  have B4 := B3.trans (hb4.mono (by omega))
  have rc : w4.cell? ⟨w.heap.size + 1 + 1 + 1, 0, none⟩ = some (.slice none 0 0) := by rw [cell_of_row w4 (w.heap.size + 3) 0 _ _ _ rR4]; rfl
  have rf : w4.frozen? ⟨w.heap.size + 1 + 1 + 1, 0, none⟩ = false := by have h' := rR4; simp [World.frozen?, h']
  have rs : (w4.setCell ⟨w.heap.size + 1 + 1 + 1, 0, none⟩ (.slice as4 M cs4)).cell? ⟨w.heap.size + 1 + 1 + 1, 0, none⟩ = some (.slice as4 M cs4) := World.cell?_setCell_same' _ _ _ (by rw [rc]; rfl)
  have B9 : Below w.heap.size w (w4.setCell ⟨w.heap.size + 1 + 1 + 1, 0, none⟩ (.slice as4 M cs4)) := B4.setCell (show w.heap.size ≤ w.heap.size + 1 + 1 + 1 by omega) _
  clear rR3 B3 B4 HTO cS3 cI3 hb4
  go_wp2_with fail
  refine bodyPost_ret (by rw [results_cell_tmp2k rfl]; go_simp; try rfl) rfl ?_
  refine ⟨m, .slice as4 M cs4, v, rfl, by omega, fun z hz => by have := row z hz; omega, ?_, ?_, by simpa using hm4, B9⟩
  · exact (ownS.setBelow (by simp; omega) _).rebase (by omega)
  · exact ownC.setBelow (show w.heap.size + 1 + 1 + 1 < m by omega) _

theorem impl_KeepSign (as0 : Addr) (S : List Int) (cap : Nat) (hn : S.length ≤ 4294967296) (hcap : S.length ≤ cap) (ac : Addr) (C : List Int) (capc : Nat) (hnc : C.length ≤ 4294967296) (i : Int) (hib : -9223372036854775808 ≤ i ∧ i ≤ 9223372036854775807) (d : Int) (hdb : -9223372036854775808 ≤ d ∧ d ≤ 9223372036854775807) (w : World) (hS : Ints w (some as0) S) (hC : Ints w (some ac) C) :
    Calls Try.prog 34 #[.agg #[.slice (some as0) S.length cap], .slice (some ac) C.length capc, .int .i64 i, .int .i64 d] w fun e w' => ∃ m vs v, e = .returned (.tuple #[.agg #[vs], v, .int .i64 (eKs S C i d)]) ∧ w.heap.size ≤ m ∧ RowIn vs w.heap.size m ∧ OwnInts w' w.heap.size vs (vKsS S C i d) ∧ OwnInts w' m v (vKsC S C i d) ∧ m ≤ w'.heap.size ∧ Below w.heap.size w w' := by
  by_cases h1 : ePlc S C i = 0
  · have := ePlc_zero h1
    obtain ⟨k, rfl⟩ : ∃ k : Nat, i = (k : Int) := ⟨i.toNat, by omega⟩
    by_cases h2 : 0 ≤ d ∧ d < gi S k
    · exact impl_KeepSign_ok as0 S cap hn hcap ac C capc hnc k d w hS hC h1 h2
    · exact impl_KeepSign_e2 as0 S cap hn (some ac) C capc hnc k d w hS hC h1 h2
  · exact impl_KeepSign_e1 as0 S cap hn (some ac) C capc hnc i d w hS hC _ rfl h1

end Go.Proofs.Ytpmeccpagndifaa
