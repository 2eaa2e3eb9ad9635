/-
  The contract of the program's CodeByColumns. By an AI agent.
-/
import Derived.Test.YtamebfbddoeflaaPk41
import Derived.Test.YtamebfbddoeflaaPk34
namespace Go.Proofs.Ytamebfbddoeflaa
open Go.RowKit Cv
set_option linter.unusedVariables false
set_option linter.unusedSimpArgs false
set_option maxRecDepth 100000

theorem exec_ld16z {a : Act} {w : World} {b : Nat} {p : Nat → Bool} (hr : RowAt w b p) (o : Oper) (x : Operand) (ho : o.op = .load 58 x) (hx : a.eval x = .pointer (some ⟨b, 0, none⟩)) : (execOp a.eval o).run Try.prog w = .ok (.value (.agg (setA p))) w := by
  unfold execOp
  simp only [ho, hx, Instr.loadAt, Instr.sureAddr, Sem.run_bind, Sem.run_pure, Result.andThen_ok, ldVar hr]
theorem allWords_n9 (ao : Option Addr) (S : List Int) (K cap : Nat) (hK : K = S.length) (hSp : Sp S) (N : Nat) (hN : Hid (nW S = (N : Int))) (w : World) (hS : Ints w ao S) :
    Calls Try.prog 27 #[.agg #[.slice ao K cap]] w fun e w' =>
      ∃ q, e = .returned (.slice (some ⟨q, 0, none⟩) N N) ∧ OwnInts w' w.heap.size (.slice (some ⟨q, 0, none⟩) N N) (upto N) ∧ Below w.heap.size w w' := by
  subst hK; exact allWords_any ao S cap hSp N hN w hS
theorem own_stored_oth9 {w : World} {base : Nat} {v : Value} {T : List Int} (h : OwnInts w base v T) {g : Nat} (hne : v.ownBlock = none ∨ v.ownBlock ≠ some g) (k : Nat) (u : Value) : OwnInts (w.setCell ⟨g, k, none⟩ u) base v T :=
  h.kept (grown_setCell (World.grownBy.refl w (some g)) k u) hne
set_option maxHeartbeats 2000000 in
theorem ccFun_any (blkW blkL : Nat) (p : Nat → Bool) (ga : Option Addr) (L : List Int) (n kv : Nat) (hn : n = L.length) (hl : ∀ i, i < L.length → 0 ≤ gi L i ∧ gi L i < 1024) (u : Nat) (hu : u < L.length) (W : World) (hr : RowAt W blkW p) (hc : W.cell? ⟨blkL, 0, none⟩ = some (.slice ga n kv)) (hL : Ints W ga L) :
    Calls Try.prog 38 #[.int .i64 (u : Int), .pointer (some ⟨blkW, 0, none⟩), .pointer (some ⟨blkL, 0, none⟩)] W fun e w' => e = .returned (.bool (!p (gi L u).toNat)) ∧ Below W.heap.size W w' := by
  subst hn
  obtain ⟨b, o, rfl, hbl, hcc⟩ := hL.at hu
  have hcu := hcc u hu
  obtain ⟨x1, x2⟩ := hl u hu
  obtain ⟨t, ht⟩ : ∃ t : Nat, gi L u = (t : Int) := ⟨_, (Int.toNat_of_nonneg x1).symm⟩
  rw [ht] at hcu x2 ⊢
  have ht2 : t < 1024 := by omega
  have i1 : (u : Int) < (L.length : Int) := by omega
  have i2 : (0 : Int) ≤ (u : Int) := by omega
  clear hcc ht
  go_enter Try.func38, Try.ntmps38
  go_wp2_with fail
  refine wp_region_held_drew (S := fun w' => RowAt w' blkW p ∧ w'.cell? ⟨blkL, 0, none⟩ = some (.slice (some ⟨b, o, none⟩) L.length kv) ∧ w'.cell? ⟨b, o + u, none⟩ = some (.int .i64 (t : Int))) (by kernel_rfl) (⟨hr, hc, hcu⟩) (fun hHeld => ?_)
  refine wpAnyH_take (i := 0) (v := .agg (setA p)) rfl (by kernel_rfl) (by kernel_rfl) (by kernel_rfl) (fun _ _ _ h => h) (Or.inl ⟨by rfl, ?_⟩) (by assumption) ?_
  · (intro w hSw; obtain ⟨hSw0, hSw1, hSw2⟩ := hSw; (try dsimp only at hSw0 hSw1 hSw2); first | exact exec_ld16z hSw0 _ (.tmp 1) (by rfl) (by rfl) | (go_simp; try (with_reducible rfl)))
  (try simp only [Act.put, List.setIfInBounds_toArray, List.set_cons_zero, List.set_cons_succ, List.getElem_toArray, List.getElem_cons_succ, List.getElem_cons_zero])
  refine wpAnyH_take (i := 1) (v := ?_) rfl (by kernel_rfl) (by kernel_rfl) (by kernel_rfl) (fun _ _ _ h => h) (Or.inl ⟨by rfl, ?_⟩) (by assumption) ?_
  rotate_left
  · (intro w hSw; obtain ⟨hSw0, hSw1, hSw2⟩ := hSw; (try dsimp only at hSw0 hSw1 hSw2); first | exact exec_ld16z hSw0 _ (.tmp 1) (by rfl) (by rfl) | (go_simp; try (with_reducible rfl)))
  (try simp only [Act.put, List.setIfInBounds_toArray, List.set_cons_zero, List.set_cons_succ, List.getElem_toArray, List.getElem_cons_succ, List.getElem_cons_zero])
  refine wpAnyH_take (i := 2) (v := ?_) rfl (by kernel_rfl) (by kernel_rfl) (by kernel_rfl) (fun _ _ _ h => h) (Or.inl ⟨by rfl, ?_⟩) (by assumption) ?_
  rotate_left
  · (intro w hSw; obtain ⟨hSw0, hSw1, hSw2⟩ := hSw; (try dsimp only at hSw0 hSw1 hSw2); first | exact exec_ld16z hSw0 _ (.tmp 1) (by rfl) (by rfl) | (go_simp; try (with_reducible rfl)))
  (try simp only [Act.put, List.setIfInBounds_toArray, List.set_cons_zero, List.set_cons_succ, List.getElem_toArray, List.getElem_cons_succ, List.getElem_cons_zero])
  refine wpAnyH_take (i := 3) (v := ?_) rfl (by kernel_rfl) (by kernel_rfl) (by kernel_rfl) (fun _ _ _ h => h) (Or.inl ⟨by rfl, ?_⟩) (by assumption) ?_
  rotate_left
  · (intro w hSw; obtain ⟨hSw0, hSw1, hSw2⟩ := hSw; (try dsimp only at hSw0 hSw1 hSw2); first | exact exec_ld16z hSw0 _ (.tmp 1) (by rfl) (by rfl) | (go_simp; try (with_reducible rfl)))
  (try simp only [Act.put, List.setIfInBounds_toArray, List.set_cons_zero, List.set_cons_succ, List.getElem_toArray, List.getElem_cons_succ, List.getElem_cons_zero])
  refine wpAnyH_take (i := 4) (v := ?_) rfl (by kernel_rfl) (by kernel_rfl) (by kernel_rfl) (fun _ _ _ h => h) (Or.inl ⟨by rfl, ?_⟩) (by assumption) ?_
  rotate_left
  · (intro w hSw; obtain ⟨hSw0, hSw1, hSw2⟩ := hSw; (try dsimp only at hSw0 hSw1 hSw2); first | exact exec_ld16z hSw0 _ (.tmp 1) (by rfl) (by rfl) | (go_simp; try (with_reducible rfl)))
  (try simp only [Act.put, List.setIfInBounds_toArray, List.set_cons_zero, List.set_cons_succ, List.getElem_toArray, List.getElem_cons_succ, List.getElem_cons_zero])
  refine wpAnyH_ready (rs := [5]) (by kernel_rfl) (by simp) ?_
  refine AllReadyH.cons rfl (fun K hK => ?_) AllReadyH.nil
  go_simp
  (go_at_call 29; refine (lacks_any p t ht2 _).mono ?_)
  rintro e x1 ⟨rfl, hb1⟩
  have H1 : Below W.heap.size W x1 := Below.trans (Below.refl W.heap.size W).drew (hb1.mono (Below.size (Below.refl W.heap.size W).drew))
  refine hK.out _ _ (⟨hr.below H1 hr.lt, kept_cell H1 hc (World.block_lt_of_cell? W _ hc), kept_cell H1 hcu hbl⟩) (fun hHeld => ?_)
  clear hK K
  (try simp only [Act.put, List.setIfInBounds_toArray, List.set_cons_zero, List.set_cons_succ, List.getElem_toArray, List.getElem_cons_succ, List.getElem_cons_zero])
  refine wpAnyH_take (i := 6) (v := ?_) rfl (by kernel_rfl) (by kernel_rfl) (by kernel_rfl) (fun _ _ _ h => h) (Or.inl ⟨by rfl, ?_⟩) (by assumption) ?_
  rotate_left
  · (intro w hSw; obtain ⟨hSw0, hSw1, hSw2⟩ := hSw; (try dsimp only at hSw0 hSw1 hSw2); first | exact exec_ld16z hSw0 _ (.tmp 1) (by rfl) (by rfl) | (go_simp; try (with_reducible rfl)))
  (try simp only [Act.put, List.setIfInBounds_toArray, List.set_cons_zero, List.set_cons_succ, List.getElem_toArray, List.getElem_cons_succ, List.getElem_cons_zero])
  refine wpAnyH_done (by kernel_rfl) ?_ _
  (try simp only [Act.put, List.setIfInBounds_toArray, List.set_cons_zero, List.set_cons_succ, List.getElem_toArray, List.getElem_cons_succ, List.getElem_cons_zero])
  go_wp2_with fail
  go_ret
  exact ⟨ret_bool (by simp), H1⟩

set_option maxHeartbeats 4000000 in
theorem impl_CodeByColumns_e1 (as0 : Addr) (S : List Int) (cap : Nat) (hn : S.length ≤ 4294967296) (ac : Option Addr) (C : List Int) (capc : Nat) (hnc : C.length ≤ 4294967296) (at' : Option Addr) (T : List Int) (capt : Nat) (hnt : T.length ≤ 4294967296) (hct : T.length ≤ capt) (w : World) (hS : Ints w (some as0) S) (hC : Ints w ac C) (hT : Ints w at' T) (hz : eCs S C T 0 ≠ 0) :
    Calls Try.prog 11 #[.agg #[.slice (some as0) S.length cap], .slice ac C.length capc, .slice at' T.length capt] w fun e w' => ∃ m vs v, e = .returned (.tuple #[.agg #[vs], v, .int .i64 (eCc S C T)]) ∧ w.heap.size ≤ m ∧ RowIn vs w.heap.size m ∧ OwnInts w' w.heap.size vs (vCcS S C T) ∧ OwnInts w' m v (vCcC S C T) ∧ m ≤ w'.heap.size ∧ Below w.heap.size w w' := by
  obtain ⟨W0, hW0, cS, rR, z0, B0⟩ := box2_9 w (.slice (some as0) S.length cap) (.slice none 0 0) 26
  have HW0 := Lib.hid hW0
  have z0a : w.heap.size + 2 ≤ W0.heap.size := by omega
  have hce := columnsError_any (some as0) S cap hn ac C capc hnc at' T capt hnt 0 W0 (hS.below B0) (hC.below B0) (hT.below B0)
  obtain ⟨x1, x2, x3⟩ := eCc_1 hz
  have HE := Lib.hid x1
  have HS0 := Lib.hid x2
  have HC0 := Lib.hid x3
  have hzn : (eCs S C T 0 != 0) = true := by simpa using hz
  have HCE := Lib.hid hce
  clear hW0 z0 hce hz x1 x2 x3
  go_enter Try.func11, Try.ntmps11
  go_wp2_with fail
  rw [← HW0.out]
  refine HCE.out.mono ?_
  rintro e w1 ⟨rfl, hb1⟩
  have s1 : w.heap.size + 2 ≤ w1.heap.size := by have := hb1.size; omega
  have cS1 := kept_cell hb1 cS (by omega)
  have rR1 := row_below9 rR hb1 (by omega)
  have B1 := B0.trans (hb1.mono (by omega))
  clear HCE hb1
  have rc : w1.cell? ⟨w.heap.size + 1, 0, none⟩ = some (.slice none 0 0) := by rw [cell_of_row w1 (w.heap.size + 1) 0 _ _ _ rR1]; rfl
  have rf : w1.frozen? ⟨w.heap.size + 1, 0, none⟩ = false := by have h' := rR1; simp [World.frozen?, h']
  have rs : (w1.setCell ⟨w.heap.size + 1, 0, none⟩ (.slice none 0 0)).cell? ⟨w.heap.size + 1, 0, none⟩ = some (.slice none 0 0) := World.cell?_setCell_same' _ _ _ (by rw [rc]; rfl)
  have B9 : Below w.heap.size w (w1.setCell ⟨w.heap.size + 1, 0, none⟩ (.slice none 0 0)) := B1.setCell (show w.heap.size ≤ w.heap.size + 1 by omega) _
  go_wp2_with fail
  refine bodyPost_ret (by rw [results_sp9 rfl]; go_simp; try rfl) rfl ?_
  exact ⟨w.heap.size, .slice none 0 0, _, by rw [HE.out], Nat.le_refl _, fun k hk => (by cases hk), by rw [HS0.out]; exact own_nil _ _, by rw [HC0.out]; exact own_nil _ _, B9.size, B9⟩

set_option maxHeartbeats 4000000 in
theorem impl_CodeByColumns_e2 (as0 : Addr) (S : List Int) (cap : Nat) (hn : S.length ≤ 4294967296) (ac : Option Addr) (C : List Int) (capc : Nat) (hnc : C.length ≤ 4294967296) (at' : Option Addr) (T : List Int) (capt : Nat) (hnt : T.length ≤ 4294967296) (hct : T.length ≤ capt) (w : World) (hS : Ints w (some as0) S) (hC : Ints w ac C) (hT : Ints w at' T) (hz : eCs S C T 0 = 0) (hl : ldB S T = false) :
    Calls Try.prog 11 #[.agg #[.slice (some as0) S.length cap], .slice ac C.length capc, .slice at' T.length capt] w fun e w' => ∃ m vs v, e = .returned (.tuple #[.agg #[vs], v, .int .i64 (eCc S C T)]) ∧ w.heap.size ≤ m ∧ RowIn vs w.heap.size m ∧ OwnInts w' w.heap.size vs (vCcS S C T) ∧ OwnInts w' m v (vCcC S C T) ∧ m ≤ w'.heap.size ∧ Below w.heap.size w w' := by
  obtain ⟨W0, hW0, cS, rR, z0, B0⟩ := box2_9 w (.slice (some as0) S.length cap) (.slice none 0 0) 26
  have HW0 := Lib.hid hW0
  have z0a : w.heap.size + 2 ≤ W0.heap.size := by omega
  have hce := columnsError_any (some as0) S cap hn ac C capc hnc at' T capt hnt 0 W0 (hS.below B0) (hC.below B0) (hT.below B0)
  obtain ⟨x1, x2, x3⟩ := eCc_2 hz hl
  have HE := Lib.hid x1
  have HS0 := Lib.hid x2
  have HC0 := Lib.hid x3
  have HP := Lib.hid (eCs_zero hz).1
  rw [hz] at hce
  have HCE := Lib.hid hce
  have HLD := Lib.hid hl
  clear hW0 z0 hce hz hl x1 x2 x3
  go_enter Try.func11, Try.ntmps11
  go_wp2_with fail
  rw [← HW0.out]
  refine HCE.out.mono ?_
  rintro e w1 ⟨rfl, hb1⟩
  have s1 : w.heap.size + 2 ≤ w1.heap.size := by have := hb1.size; omega
  have cS1 := kept_cell hb1 cS (by omega)
  have rR1 := row_below9 rR hb1 (by omega)
  have B1 := B0.trans (hb1.mono (by omega))
  clear HCE hb1
  have hle := areLed_any (some as0) S cap HP.out at' T capt hnt hct w1 (hS.below B1) (hT.below B1)
  rw [HLD.out] at hle
  have HLE := Lib.hid hle
  clear hle
  go_wp2_with fail
  refine HLE.out.mono ?_
  rintro e w2 ⟨rfl, hb2⟩
  have s2 : w.heap.size + 2 ≤ w2.heap.size := by have := hb2.size; omega
  have cS2 := kept_cell hb2 cS1 (by omega)
  have rR2 := row_below9 rR1 hb2 (by omega)
  have B2 := B1.trans (hb2.mono B1.size)
  clear hb2 HLE cS1 rR1
  have rc : w2.cell? ⟨w.heap.size + 1, 0, none⟩ = some (.slice none 0 0) := by rw [cell_of_row w2 (w.heap.size + 1) 0 _ _ _ rR2]; rfl
  have rf : w2.frozen? ⟨w.heap.size + 1, 0, none⟩ = false := by have h' := rR2; simp [World.frozen?, h']
  have rs : (w2.setCell ⟨w.heap.size + 1, 0, none⟩ (.slice none 0 0)).cell? ⟨w.heap.size + 1, 0, none⟩ = some (.slice none 0 0) := World.cell?_setCell_same' _ _ _ (by rw [rc]; rfl)
  have B9 : Below w.heap.size w (w2.setCell ⟨w.heap.size + 1, 0, none⟩ (.slice none 0 0)) := B2.setCell (show w.heap.size ≤ w.heap.size + 1 by omega) _
  go_wp2_with fail
  refine bodyPost_ret (by rw [results_sp9 rfl]; go_simp; try rfl) rfl ?_
  exact ⟨w.heap.size, .slice none 0 0, _, by rw [HE.out], Nat.le_refl _, fun k hk => (by cases hk), by rw [HS0.out]; exact own_nil _ _, by rw [HC0.out]; exact own_nil _ _, B9.size, B9⟩

set_option maxHeartbeats 4000000 in
theorem impl_CodeByColumns_e3 (as0 : Addr) (S : List Int) (cap : Nat) (hn : S.length ≤ 4294967296) (ac : Option Addr) (C : List Int) (capc : Nat) (hnc : C.length ≤ 4294967296) (at' : Option Addr) (T : List Int) (capt : Nat) (hnt : T.length ≤ 4294967296) (hct : T.length ≤ capt) (w : World) (hS : Ints w (some as0) S) (hC : Ints w ac C) (hT : Ints w at' T) (hz : eCs S C T 0 = 0) (hl : ldB S T = true) (hs : isSp (plS T.length (gi S 0)) = false) :
    Calls Try.prog 11 #[.agg #[.slice (some as0) S.length cap], .slice ac C.length capc, .slice at' T.length capt] w fun e w' => ∃ m vs v, e = .returned (.tuple #[.agg #[vs], v, .int .i64 (eCc S C T)]) ∧ w.heap.size ≤ m ∧ RowIn vs w.heap.size m ∧ OwnInts w' w.heap.size vs (vCcS S C T) ∧ OwnInts w' m v (vCcC S C T) ∧ m ≤ w'.heap.size ∧ Below w.heap.size w w' := by
  obtain ⟨W0, hW0, cS, rR, z0, B0⟩ := box2_9 w (.slice (some as0) S.length cap) (.slice none 0 0) 26
  have HW0 := Lib.hid hW0
  have z0a : w.heap.size + 2 ≤ W0.heap.size := by omega
  have hce := columnsError_any (some as0) S cap hn ac C capc hnc at' T capt hnt 0 W0 (hS.below B0) (hC.below B0) (hT.below B0)
  obtain ⟨x1, x2, x3⟩ := eCc_3 hz hl hs
  have HE := Lib.hid x1
  have HS0 := Lib.hid x2
  have HC0 := Lib.hid x3
  have HP := Lib.hid (eCs_zero hz).1
  have h8 := (eCs_zero hz).2.2.2.1
  have hlo := (eCs_zero hz).1.sp.lo
  have hst := ((ldB_iff S T).1 hl).1
  have h1T : 1 ≤ T.length := by omega
  obtain ⟨Q, hQ⟩ : ∃ Q : Nat, gi S 0 = (Q : Int) := ⟨(gi S 0).toNat, by have := (eCs_zero hz).1.q; omega⟩
  have HQ := Lib.hid hQ
  obtain ⟨sb, so, hso, hsbl, hsc⟩ := hS.at (i := 0) (by omega)
  obtain rfl := Option.some.inj hso
  have hs0 := hsc 0 (by omega)
  rw [Nat.add_zero, hQ] at hs0
  rw [hQ] at hs
  have HIS := Lib.hid hs
  rw [hz] at hce
  have HCE := Lib.hid hce
  have HLD := Lib.hid hl
  clear hW0 z0 hce hz hl hs hsc hso hQ x1 x2 x3
  go_enter Try.func11, Try.ntmps11
  go_wp2_with fail
  rw [← HW0.out]
  refine HCE.out.mono ?_
  rintro e w1 ⟨rfl, hb1⟩
  have s1 : w.heap.size + 2 ≤ w1.heap.size := by have := hb1.size; omega
  have cS1 := kept_cell hb1 cS (by omega)
  have rR1 := row_below9 rR hb1 (by omega)
  have B1 := B0.trans (hb1.mono (by omega))
  clear HCE hb1
  have hle := areLed_any _ S cap HP.out at' T capt hnt hct w1 (hS.below B1) (hT.below B1)
  rw [HLD.out] at hle
  have HLE := Lib.hid hle
  clear hle
  go_wp2_with fail
  refine HLE.out.mono ?_
  rintro e w2 ⟨rfl, hb2⟩
  have s2 : w.heap.size + 2 ≤ w2.heap.size := by have := hb2.size; omega
  have cS2 := kept_cell hb2 cS1 (by omega)
  have rR2 := row_below9 rR1 hb2 (by omega)
  have B2 := B1.trans (hb2.mono B1.size)
  clear hb2 HLE cS1 rR1
  have hcs2 := kept_cell B2 hs0 hsbl
  go_wp2_with fail
  refine (plainSpaceOf_any (Q : Int) T.length ⟨h1T, h8⟩ w2).mono ?_
  rintro e w3 ⟨g, rfl, ownY, hb3⟩
  have s3 : w.heap.size + 2 ≤ w3.heap.size := by have := hb3.size; omega
  have cS3 := kept_cell hb3 cS2 (by omega)
  have rR3 := row_below9 rR2 hb3 (by omega)
  have B3 := B2.trans (hb3.mono B2.size)
  have hg0 : w2.heap.size ≤ g ∧ g < w3.heap.size := ownY.base_le
  replace ownY : OwnInts w3 w.heap.size (.slice (some ⟨g, 0, none⟩) T.length T.length) (plS T.length (Q : Int)) := ownY.rebase B2.size
  obtain ⟨W4, hW4⟩ : ∃ W4, W4 = w3.alloc (.cells #[.slice (some ⟨g, 0, none⟩) T.length T.length] 26) := ⟨_, rfl⟩
  have h34 : Below w3.heap.size w3 W4 := by rw [hW4]; exact (Below.refl _ w3).alloc (Nat.le_refl _) _
  have cY4 : W4.cell? ⟨w3.heap.size, 0, none⟩ = some (.slice (some ⟨g, 0, none⟩) T.length T.length) := by rw [hW4]; exact cell_new _ _ _
  have l4 : w3.heap.size < W4.heap.size := by rw [hW4]; exact lt_alloc _ _
  have rxf : (w3.alloc (.cells #[.slice none 0 0] 26)).frozen? ⟨w3.heap.size, 0, none⟩ = false := by have h' := heap_alloc_last w3 (.cells #[.slice none 0 0] 26); simp only [World.frozen?, h']; simp
  have cS4 := kept_cell h34 cS3 (by omega)
  have rR4 := row_below9 rR3 h34 (by omega)
  have B4 := B3.trans (h34.mono B3.size)
  have ownY4 := ownY.below h34
  have HW4 := Lib.hid hW4
  clear hb3 h34 hW4 ownY B3 cS3 rR3 cS2 rR2 hcs2
  go_wp2_with fail
  rw [← HW4.out]
  refine (IsSpace_n9 _ (plS T.length (Q : Int)) T.length T.length (plS_len _ _).symm W4 (by omega) (own_ints ownY4)).mono ?_
  rw [HIS.out]
  rintro e w5 ⟨rfl, hb5⟩
  have s5 : w3.heap.size < w5.heap.size := Nat.lt_of_lt_of_le l4 hb5.size
  have cS5 := kept_cell hb5 cS4 (by omega)
  have rR5 := row_below9 rR4 hb5 (by omega)
  have cY5 := kept_cell hb5 cY4 l4
  have ownY5 := ownY4.below hb5
  have B5 := B4.trans (hb5.mono B4.size)
  clear hb5 cS4 rR4 cY4 ownY4 B4 l4 rxf
  have rc : w5.cell? ⟨w.heap.size + 1, 0, none⟩ = some (.slice none 0 0) := by rw [cell_of_row w5 (w.heap.size + 1) 0 _ _ _ rR5]; rfl
  have rf : w5.frozen? ⟨w.heap.size + 1, 0, none⟩ = false := by have h' := rR5; simp [World.frozen?, h']
  have rs : (w5.setCell ⟨w.heap.size + 1, 0, none⟩ (.slice none 0 0)).cell? ⟨w.heap.size + 1, 0, none⟩ = some (.slice none 0 0) := World.cell?_setCell_same' _ _ _ (by rw [rc]; rfl)
  have B9 : Below w.heap.size w (w5.setCell ⟨w.heap.size + 1, 0, none⟩ (.slice none 0 0)) := B5.setCell (show w.heap.size ≤ w.heap.size + 1 by omega) _
  go_wp2_with fail
  refine bodyPost_ret (by rw [results_sp9 rfl]; go_simp; try rfl) rfl ?_
  exact ⟨w.heap.size, .slice none 0 0, _, by rw [HE.out], Nat.le_refl _, fun k hk => (by cases hk), by rw [HS0.out]; exact own_nil _ _, by rw [HC0.out]; exact own_nil _ _, B9.size, B9⟩

set_option maxHeartbeats 4000000 in
theorem impl_CodeByColumns_ok (as0 : Addr) (S : List Int) (cap : Nat) (hn : S.length ≤ 4294967296) (ac : Option Addr) (C : List Int) (capc : Nat) (hnc : C.length ≤ 4294967296) (at' : Option Addr) (T : List Int) (capt : Nat) (hnt : T.length ≤ 4294967296) (hct : T.length ≤ capt) (w : World) (hS : Ints w (some as0) S) (hC : Ints w ac C) (hT : Ints w at' T) (hz : eCs S C T 0 = 0) (hl : ldB S T = true) (hs : isSp (plS T.length (gi S 0)) = true) :
    Calls Try.prog 11 #[.agg #[.slice (some as0) S.length cap], .slice ac C.length capc, .slice at' T.length capt] w fun e w' => ∃ m vs v, e = .returned (.tuple #[.agg #[vs], v, .int .i64 (eCc S C T)]) ∧ w.heap.size ≤ m ∧ RowIn vs w.heap.size m ∧ OwnInts w' w.heap.size vs (vCcS S C T) ∧ OwnInts w' m v (vCcC S C T) ∧ m ≤ w'.heap.size ∧ Below w.heap.size w w' := by
  obtain ⟨W0, hW0, cS, rR, z0, B0⟩ := box2_9 w (.slice (some as0) S.length cap) (.slice none 0 0) 26
  have HW0 := Lib.hid hW0
  have z0a : w.heap.size + 2 ≤ W0.heap.size := by omega
  have hce := columnsError_any (some as0) S cap hn ac C capc hnc at' T capt hnt 0 W0 (hS.below B0) (hC.below B0) (hT.below B0)
  obtain ⟨x1, x2, x3⟩ := eCc_ok hz hl hs
  have HE := Lib.hid x1
  obtain ⟨_, hcz, hwz, _, _, _⟩ := eCs_zero hz
  have HTW : Hid (∀ i, i < T.length → Wd S (gi T i)) := Lib.hid (eWords_zero hwz).2
  obtain ⟨_, hc1, _⟩ := eCode_zero hcz
  have HP := Lib.hid (eCs_zero hz).1
  have h8 := (eCs_zero hz).2.2.2.1
  have hlo := (eCs_zero hz).1.sp.lo
  have hst := ((ldB_iff S T).1 hl).1
  have h1T : 1 ≤ T.length := by omega
  obtain ⟨Q, hQ⟩ : ∃ Q : Nat, gi S 0 = (Q : Int) := ⟨(gi S 0).toNat, by have := (eCs_zero hz).1.q; omega⟩
  have HQ := Lib.hid hQ
  obtain ⟨sb, so, hso, hsbl, hsc⟩ := hS.at (i := 0) (by omega)
  obtain rfl := Option.some.inj hso
  have hs0 := hsc 0 (by omega)
  rw [Nat.add_zero, hQ] at hs0
  rw [hQ] at hs x2 x3
  have HS0 := Lib.hid x2
  have hSY := (isSp_iff _).1 hs
  have hNY := nW_bd hSY
  have hNe := plS_nW T.length Q
  obtain ⟨N, hN⟩ : ∃ N, N = Q ^ T.length := ⟨_, rfl⟩
  rw [← hN] at hNe
  rw [hNe] at hNY x3
  rw [Int.toNat_natCast] at x3
  have HN := Lib.hid hNe
  have hN2 : N ≤ 1024 := by omega
  have HSY := Lib.hid hSY
  have HSS := Lib.hid (eCs_zero hz).1.sp
  have hNS := nW_bd HSS.out
  have HCb : Hid (∀ i, i < C.length → 0 ≤ gi C i ∧ gi C i < 1024) := Lib.hid fun i hi => by have := hc1 i hi; omega
  have hcl := code_len0 hcz
  have HSB := Lib.hid (sumsByDigits_any (some ⟨sb, so, none⟩) S cap (eCs_zero hz).1 Q hQ at' T capt h8 HTW.out (by rw [← hN]; exact hN2))
  have HC0 := Lib.hid x3
  rw [← hN] at HSB
  obtain ⟨L, hL⟩ : ∃ L, L = csL S T (Q : Int) T.length N := ⟨_, rfl⟩
  have HLn : Hid (N = L.length) := Lib.hid (by rw [hL, csL_len])
  have HLb : Hid (∀ i, i < L.length → 0 ≤ gi L i ∧ gi L i < 1024) := Lib.hid fun i hi => by
    rw [hL, csL_len] at hi
    rw [hL, gi_csL _ _ _ _ _ _ hi]
    have := csF_wd HSS.out T (Q : Int) T.length (i : Int)
    unfold Wd at this; omega
  have HFL : Hid ((upto N).filter (fun x => !!inL C (gi L x.toNat).toNat) = selL (ccB S C T) N) := Lib.hid (by
    rw [upto_filter9 N (fun u => inL C (gi L u).toNat)]
    unfold selL
    congr 1
    apply List.filter_congr
    intro u hu
    rw [List.mem_range] at hu
    rw [hL, gi_csL _ _ _ _ _ _ hu]
    unfold ccB
    rw [hQ])
  rw [← hL] at HSB
  have HIS := Lib.hid hs
  rw [hz] at hce
  have HCE := Lib.hid hce
  have HLD := Lib.hid hl
  clear hW0 z0 hce hz hl hs hsc hso hQ x1 x2 x3 hcz hwz hc1 hSY hNY hNe hN hL hNS
  go_enter Try.func11, Try.ntmps11
  go_wp2_with fail
  rw [← HW0.out]
  refine HCE.out.mono ?_
  rintro e w1 ⟨rfl, hb1⟩
  have s1 : w.heap.size + 2 ≤ w1.heap.size := by have := hb1.size; omega
  have cS1 := kept_cell hb1 cS (by omega)
  have rR1 := row_below9 rR hb1 (by omega)
  have B1 := B0.trans (hb1.mono (by omega))
  clear HCE hb1
  have hle := areLed_any _ S cap HP.out at' T capt hnt hct w1 (hS.below B1) (hT.below B1)
  rw [HLD.out] at hle
  have HLE := Lib.hid hle
  clear hle
  go_wp2_with fail
  refine HLE.out.mono ?_
  rintro e w2 ⟨rfl, hb2⟩
  have s2 : w.heap.size + 2 ≤ w2.heap.size := by have := hb2.size; omega
  have cS2 := kept_cell hb2 cS1 (by omega)
  have rR2 := row_below9 rR1 hb2 (by omega)
  have B2 := B1.trans (hb2.mono B1.size)
  clear hb2 HLE cS1 rR1
  have hcs2 := kept_cell B2 hs0 hsbl
  go_wp2_with fail
  refine (plainSpaceOf_any (Q : Int) T.length ⟨h1T, h8⟩ w2).mono ?_
  rintro e w3 ⟨g, rfl, ownY, hb3⟩
  have s3 : w.heap.size + 2 ≤ w3.heap.size := by have := hb3.size; omega
  have cS3 := kept_cell hb3 cS2 (by omega)
  have rR3 := row_below9 rR2 hb3 (by omega)
  have B3 := B2.trans (hb3.mono B2.size)
  have hg0 : w2.heap.size ≤ g ∧ g < w3.heap.size := ownY.base_le
  replace ownY : OwnInts w3 w.heap.size (.slice (some ⟨g, 0, none⟩) T.length T.length) (plS T.length (Q : Int)) := ownY.rebase B2.size
  obtain ⟨W4, hW4⟩ : ∃ W4, W4 = w3.alloc (.cells #[.slice (some ⟨g, 0, none⟩) T.length T.length] 26) := ⟨_, rfl⟩
  have h34 : Below w3.heap.size w3 W4 := by rw [hW4]; exact (Below.refl _ w3).alloc (Nat.le_refl _) _
  have cY4 : W4.cell? ⟨w3.heap.size, 0, none⟩ = some (.slice (some ⟨g, 0, none⟩) T.length T.length) := by rw [hW4]; exact cell_new _ _ _
  have l4 : w3.heap.size < W4.heap.size := by rw [hW4]; exact lt_alloc _ _
  have rxf : (w3.alloc (.cells #[.slice none 0 0] 26)).frozen? ⟨w3.heap.size, 0, none⟩ = false := by have h' := heap_alloc_last w3 (.cells #[.slice none 0 0] 26); simp only [World.frozen?, h']; simp
  have cS4 := kept_cell h34 cS3 (by omega)
  have rR4 := row_below9 rR3 h34 (by omega)
  have B4 := B3.trans (h34.mono B3.size)
  have ownY4 := ownY.below h34
  have HW4 := Lib.hid hW4
  clear hb3 h34 hW4 ownY B3 cS3 rR3 cS2 rR2 hcs2
  go_wp2_with fail
  rw [← HW4.out]
  refine (IsSpace_n9 _ (plS T.length (Q : Int)) T.length T.length (plS_len _ _).symm W4 (by omega) (own_ints ownY4)).mono ?_
  rw [HIS.out]
  rintro e w5 ⟨rfl, hb5⟩
  have s5 : w3.heap.size < w5.heap.size := Nat.lt_of_lt_of_le l4 hb5.size
  have cS5 := kept_cell hb5 cS4 (by omega)
  have rR5 := row_below9 rR4 hb5 (by omega)
  have cY5 := kept_cell hb5 cY4 l4
  have ownY5 := ownY4.below hb5
  have B5 := B4.trans (hb5.mono B4.size)
  clear hb5 cS4 rR4 cY4 ownY4 B4 l4 rxf
  go_wp2_with fail
  refine (HSB.out w5 (hS.below B5) (hT.below B5)).mono ?_
  rintro e w6 ⟨v6, rfl, ownL, hb6⟩
  obtain ⟨ga, gk, rfl⟩ := ownL.shape
  rw [← HLn.out] at ownL ⊢
  have s6 : w3.heap.size < w6.heap.size := Nat.lt_of_lt_of_le s5 hb6.size
  have rR6 := row_below9 rR5 hb6 (by omega)
  have cY6 := kept_cell hb6 cY5 s5
  have ownY6 := ownY5.below hb6
  have B6 := B5.trans (hb6.mono B5.size)
  clear hb6 rR5 cY5 ownY5 B5 cS5
  go_wp2_with fail
  refine (setOf_any ac C capc (by omega) HCb.out _ (hC.below B6)).mono ?_
  rintro e w7 ⟨rfl, hb7⟩
  have s7 : w3.heap.size < w7.heap.size := Nat.lt_of_lt_of_le s6 hb7.size
  have rR7 := row_below9 rR6 hb7 (by omega)
  have cY7 := kept_cell hb7 cY6 s6
  have ownY7 := ownY6.below hb7
  have ownL7 := ownL.below hb7
  have B7 := B6.trans (hb7.mono B6.size)
  clear hb7 rR6 cY6 ownY6 B6 ownL
  have hz8 := rowz_new (w7.alloc (.cells #[.slice ga N gk] 24)) (n := w7.heap.size + 1) (by simp)
  obtain ⟨W9, hW9⟩ : ∃ W9, W9 = ((w7.alloc (.cells #[.slice ga N gk] 24)).alloc (.cells #[.int .u64 0, .int .u64 0, .int .u64 0, .int .u64 0, .int .u64 0, .int .u64 0, .int .u64 0, .int .u64 0, .int .u64 0, .int .u64 0, .int .u64 0, .int .u64 0, .int .u64 0, .int .u64 0, .int .u64 0, .int .u64 0] 58)).setRow (w7.heap.size + 1) (setA (inL C)) := ⟨_, rfl⟩
  have hr9 : RowAt W9 (w7.heap.size + 1) (inL C) := by rw [hW9]; exact row_set hz8
  have h79 : Below w7.heap.size w7 W9 := by
    rw [hW9]
    exact (((Below.refl _ w7).alloc (Nat.le_refl _) (.cells #[.slice ga N gk] 24)).alloc (by simp) _).grown (grown_setRow _) (by simp; omega) fun j hj => by cases hj; omega
  have hc9 : W9.cell? ⟨w7.heap.size, 0, none⟩ = some (.slice ga N gk) := by
    rw [hW9]
    have e1 : (((w7.alloc (.cells #[.slice ga N gk] 24)).alloc (.cells #[.int .u64 0, .int .u64 0, .int .u64 0, .int .u64 0, .int .u64 0, .int .u64 0, .int .u64 0, .int .u64 0, .int .u64 0, .int .u64 0, .int .u64 0, .int .u64 0, .int .u64 0, .int .u64 0, .int .u64 0, .int .u64 0] 58)).setRow (w7.heap.size + 1) (setA (inL C))).cell? ⟨w7.heap.size, 0, none⟩ = _ := (grown_setRow (b := w7.heap.size + 1) (w := (w7.alloc (.cells #[.slice ga N gk] 24)).alloc (.cells #[.int .u64 0, .int .u64 0, .int .u64 0, .int .u64 0, .int .u64 0, .int .u64 0, .int .u64 0, .int .u64 0, .int .u64 0, .int .u64 0, .int .u64 0, .int .u64 0, .int .u64 0, .int .u64 0, .int .u64 0, .int .u64 0] 58)) (setA (inL C))).cell (a := ⟨w7.heap.size, 0, none⟩) (kept_cell ((Below.refl _ (w7.alloc (.cells #[.slice ga N gk] 24))).alloc (Nat.le_refl _) _) (cell_new _ _ _) (lt_alloc _ _)) (by simp)
    exact e1
  have hl9 : w7.heap.size < W9.heap.size := by have := hr9.lt; omega
  have hL9 := (own_ints ownL7).below h79
  have cY9 := kept_cell h79 cY7 s7
  have lY9 := lt_of_below h79 s7
  have rR9 := row_below9 rR7 h79 (by omega)
  have ownY9 := ownY7.below h79
  have B9 := B7.trans (h79.mono B7.size)
  have z9 : w7.heap.size + 1 < W9.heap.size := hr9.lt
  have HW9 := Lib.hid hW9
  have HFr : Hid ((w7.alloc (.cells #[.slice none 0 0] 24)).frozen? ⟨w7.heap.size, 0, none⟩ = false) := Lib.hid (by have h' := heap_alloc_last w7 (.cells #[.slice none 0 0] 24); simp only [World.frozen?, h']; simp)
  have hfr := HFr.out
  clear hW9 cY7 ownY7 rR7 B7 ownL7 h79 s5 s6 cS HSB
  go_wp2_with (first | (refine wpList_st16 rfl _ _ rfl hz8 (inL C) rfl rfl ?_; rw [← HW9.out]))
  clear hz8
  refine wp_region_held_drew (S := fun w' => w'.cell? ⟨w3.heap.size, 0, none⟩ = some (.slice (some ⟨g, 0, none⟩) T.length T.length)) (by kernel_rfl) (cY9) (fun hHeld => ?_)
  refine wpAnyH_take (i := 0) (v := ?_) rfl (by kernel_rfl) (by kernel_rfl) (by kernel_rfl) (fun _ _ _ h => h) (Or.inl ⟨by rfl, ?_⟩) (by assumption) ?_
  rotate_left
  · (intro w hSw; obtain hSw := hSw; (try dsimp only at hSw); go_simp; try (with_reducible rfl))
  (try simp only [Act.put, List.setIfInBounds_toArray, List.set_cons_zero, List.set_cons_succ, List.getElem_toArray, List.getElem_cons_succ, List.getElem_cons_zero])
  refine wpAnyH_take (i := 1) (v := ?_) rfl (by kernel_rfl) (by kernel_rfl) (by kernel_rfl) (fun _ _ _ h => h) (Or.inl ⟨by rfl, ?_⟩) (by assumption) ?_
  rotate_left
  · (intro w hSw; obtain hSw := hSw; (try dsimp only at hSw); go_simp; try (with_reducible rfl))
  (try simp only [Act.put, List.setIfInBounds_toArray, List.set_cons_zero, List.set_cons_succ, List.getElem_toArray, List.getElem_cons_succ, List.getElem_cons_zero])
  refine wpAnyH_take (i := 3) (v := ?_) rfl (by kernel_rfl) (by kernel_rfl) (by kernel_rfl) (fun _ _ _ h => h) (Or.inl ⟨by rfl, ?_⟩) (by assumption) ?_
  rotate_left
  · (intro w hSw; obtain hSw := hSw; (try dsimp only at hSw); go_simp; try (with_reducible rfl))
  (try simp only [Act.put, List.setIfInBounds_toArray, List.set_cons_zero, List.set_cons_succ, List.getElem_toArray, List.getElem_cons_succ, List.getElem_cons_zero])
  refine wpAnyH_ready (rs := [2]) (by kernel_rfl) (by simp) ?_
  refine AllReadyH.cons rfl (fun K hK => ?_) AllReadyH.nil
  go_simp
  (go_at_call 27; refine (allWords_n9 _ (plS T.length (Q : Int)) T.length T.length (plS_len _ _).symm HSY.out N HN _ (own_ints (ownY9.below (Below.refl W9.heap.size W9).drew))).mono ?_)
  rintro e x1 ⟨q1, rfl, own1, hb1⟩
  have H1 : Below W9.heap.size W9 x1 := Below.trans (Below.refl W9.heap.size W9).drew (hb1.mono (Below.size (Below.refl W9.heap.size W9).drew))
  refine hK.out _ _ (kept_cell H1 cY9 lY9) (fun hHeld => ?_)
  clear hK K
  (try simp only [Act.put, List.setIfInBounds_toArray, List.set_cons_zero, List.set_cons_succ, List.getElem_toArray, List.getElem_cons_succ, List.getElem_cons_zero])
  refine wpAnyH_ready (rs := [4]) (by kernel_rfl) (by simp) ?_
  refine AllReadyH.cons rfl (fun K hK => ?_) AllReadyH.nil
  go_simp
  have hq2 : W9.heap.size ≤ q1 := own1.base_le.1
  have hdel := deleteFunc_n9 W9.heap.size q1 N N (upto N) (upto_len N).symm 38 (enters_of Try.func38 (by kernel_rfl) rfl) #[] #[.pointer (some ⟨w7.heap.size + 1, 0, none⟩), .pointer (some ⟨w7.heap.size, 0, none⟩)] (fun x => !inL C (gi L x.toNat).toNat) x1 (by rw [upto_len]; omega) own1 (fun W x hW hx => by obtain ⟨u, hu, e⟩ := mem_gi hx; rw [upto_len] at hu; rw [gi_upto N u hu] at e; subst e; exact ccFun_any (w7.heap.size + 1) w7.heap.size (inL C) ga L _ gk HLn.out HLb.out u (by rw [← HLn.out]; exact hu) W (hr9.below (Below.trans H1 hW) hr9.lt) (kept_cell (Below.trans H1 hW) hc9 hl9) (hL9.below (Below.trans H1 hW)))
  (go_at_call 26; refine hdel.mono ?_)
  rintro e x2 ⟨v2, rfl, own2, hg2⟩
  have H2 : Below W9.heap.size W9 x2 := Below.trans H1 (below_of_grown hg2 (show W9.heap.size ≤ q1 by omega) (Below.size H1))
  refine hK.out _ _ (kept_cell H2 cY9 lY9) (fun hHeld => ?_)
  clear hK K
  (try simp only [Act.put, List.setIfInBounds_toArray, List.set_cons_zero, List.set_cons_succ, List.getElem_toArray, List.getElem_cons_succ, List.getElem_cons_zero])
  refine wpAnyH_ready (rs := [5]) (by kernel_rfl) (by simp) ?_
  refine AllReadyH.cons rfl (fun K hK => ?_) AllReadyH.nil
  go_simp
  have rRx := row_below9 rR9 H2 (by omega)
  have rc : x2.cell? ⟨w.heap.size + 1, 0, none⟩ = some (.slice none 0 0) := by rw [cell_of_row x2 (w.heap.size + 1) 0 _ _ _ rRx]; rfl
  have rf : x2.frozen? ⟨w.heap.size + 1, 0, none⟩ = false := by have h' := rRx; simp [World.frozen?, h']
  go_simp
  have rs : (x2.setCell ⟨w.heap.size + 1, 0, none⟩ (.slice (some ⟨g, 0, none⟩) T.length T.length)).cell? ⟨w.heap.size + 1, 0, none⟩ = some (.slice (some ⟨g, 0, none⟩) T.length T.length) := World.cell?_setCell_same' _ _ _ (by rw [rc]; rfl)
  refine hK.out _ _ (cell_set_other (kept_cell H2 cY9 lY9) (by simp; omega)) (fun hHeld => ?_)
  clear hK K
  (try simp only [Act.put, List.setIfInBounds_toArray, List.set_cons_zero, List.set_cons_succ, List.getElem_toArray, List.getElem_cons_succ, List.getElem_cons_zero])
  refine wpAnyH_take (i := 6) (v := ?_) rfl (by kernel_rfl) (by kernel_rfl) (by kernel_rfl) (fun _ _ _ h => h) (Or.inl ⟨by rfl, ?_⟩) (by assumption) ?_
  rotate_left
  · (intro w hSw; obtain hSw := hSw; (try dsimp only at hSw); go_simp; try (with_reducible rfl))
  (try simp only [Act.put, List.setIfInBounds_toArray, List.set_cons_zero, List.set_cons_succ, List.getElem_toArray, List.getElem_cons_succ, List.getElem_cons_zero])
  refine wpAnyH_take (i := 7) (v := ?_) rfl (by kernel_rfl) (by kernel_rfl) (by kernel_rfl) (fun _ _ _ h => h) (Or.inl ⟨by rfl, ?_⟩) (by assumption) ?_
  rotate_left
  · (intro w hSw; obtain hSw := hSw; (try dsimp only at hSw); go_simp; try (with_reducible rfl))
  (try simp only [Act.put, List.setIfInBounds_toArray, List.set_cons_zero, List.set_cons_succ, List.getElem_toArray, List.getElem_cons_succ, List.getElem_cons_zero])
  refine wpAnyH_done (by kernel_rfl) ?_ _
  (try simp only [Act.put, List.setIfInBounds_toArray, List.set_cons_zero, List.set_cons_succ, List.getElem_toArray, List.getElem_cons_succ, List.getElem_cons_zero])
  have B10 : Below w.heap.size w (x2.setCell ⟨w.heap.size + 1, 0, none⟩ (.slice (some ⟨g, 0, none⟩) T.length T.length)) := (B9.trans (Below.mono H2 B9.size)).setCell (show w.heap.size ≤ w.heap.size + 1 by omega) _
  have ownF := own2
  have ownYF := ownY9.below H2
  have hszF := Below.size H2
  go_wp2_with fail
  refine bodyPost_ret (by rw [results_sp9 rfl]; go_simp; try rfl) rfl ?_
  refine ⟨W9.heap.size, .slice (some ⟨g, 0, none⟩) T.length T.length, _, by rw [HE.out], by have := B9.size; omega, fun z hz => by simp [Value.ownBlock] at hz; omega, ?_, ?_, by simp; omega, B10⟩
  · rw [HS0.out]; exact own_stored_oth9 ownYF (.inr (by simp [Value.ownBlock]; omega)) 0 _
  · rw [HC0.out, ← HFL.out]; exact ownF.setBelow (show w.heap.size + 1 < W9.heap.size by omega) _

theorem impl_CodeByColumns (as0 : Addr) (S : List Int) (cap : Nat) (hn : S.length ≤ 4294967296) (ac : Option Addr) (C : List Int) (capc : Nat) (hnc : C.length ≤ 4294967296) (at' : Option Addr) (T : List Int) (capt : Nat) (hnt : T.length ≤ 4294967296) (hct : T.length ≤ capt) (w : World) (hS : Ints w (some as0) S) (hC : Ints w ac C) (hT : Ints w at' T) :
    Calls Try.prog 11 #[.agg #[.slice (some as0) S.length cap], .slice ac C.length capc, .slice at' T.length capt] w fun e w' => ∃ m vs v, e = .returned (.tuple #[.agg #[vs], v, .int .i64 (eCc S C T)]) ∧ w.heap.size ≤ m ∧ RowIn vs w.heap.size m ∧ OwnInts w' w.heap.size vs (vCcS S C T) ∧ OwnInts w' m v (vCcC S C T) ∧ m ≤ w'.heap.size ∧ Below w.heap.size w w' := by
  by_cases h1 : eCs S C T 0 = 0
  · cases h2 : ldB S T with
    | true =>
      cases h3 : isSp (plS T.length (gi S 0)) with
      | true => exact impl_CodeByColumns_ok as0 S cap hn ac C capc hnc at' T capt hnt hct w hS hC hT h1 h2 h3
      | false => exact impl_CodeByColumns_e3 as0 S cap hn ac C capc hnc at' T capt hnt hct w hS hC hT h1 h2 h3
    | false => exact impl_CodeByColumns_e2 as0 S cap hn ac C capc hnc at' T capt hnt hct w hS hC hT h1 h2
  · exact impl_CodeByColumns_e1 as0 S cap hn ac C capc hnc at' T capt hnt hct w hS hC hT h1

end Go.Proofs.Ytamebfbddoeflaa
