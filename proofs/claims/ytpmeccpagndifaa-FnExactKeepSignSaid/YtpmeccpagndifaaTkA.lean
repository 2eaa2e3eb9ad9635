/-
  The contracts of what takes a place out, in the program. By an AI agent.
-/
import Derived.Test.YtpmeccpagndifaaMath27
import Derived.Test.YtpmeccpagndifaaSlc
import Derived.Test.YtpmeccpagndifaaChg
import Derived.Test.YtpmeccpagndifaaCat
import Derived.Test.YtpmeccpagndifaaPlus
import Derived.Test.YtpmeccpagndifaaMark
import Derived.Shelf.Abstract
import Derived.Deep.RegionHeld3
namespace Go.Proofs.Ytpmeccpagndifaa
open Go.RowKit Go.Shelf Cv
set_option linter.unusedVariables false
set_option linter.unusedSimpArgs false
set_option maxRecDepth 100000

def twoT (k : Nat) (T : List Int) : Nat → List Int := fun j => if j = 0 then T.take k else T.drop (k + 1)
theorem cat_twoT (k : Nat) (T : List Int) : catTo (twoT k T) 2 = dropI k T := by simp [catTo, twoT, dropI]

set_option maxHeartbeats 4000000 in
theorem leaveOut_any (ib k n : Nat) (ad : Addr) (T : List Int) (cap : Nat) (hnT : n = T.length) (hk : k < n) (h2 : 2 ≤ n) (h8 : n ≤ 8) (hcap : n ≤ cap) (W : World) (hI : Ints W (some ad) T) (hc : W.cell? ⟨ib, 0, none⟩ = some (.int .i64 (k : Int))) (hib : ib < W.heap.size) :
    Calls Try.prog 105 #[.slice (some ad) n cap, .pointer (some ⟨ib, 0, none⟩)] W fun e w' => ∃ g c, e = .returned (.slice (some ⟨g, 0, none⟩) (n - 1) c) ∧ OwnInts w' W.heap.size (.slice (some ⟨g, 0, none⟩) (n - 1) c) (dropI k T) ∧ Below W.heap.size W w' := by
  have E1 : IntKind.i64.wrap ((k : Int) + 1) = ((k + 1 : Nat) : Int) := by rw [IntWalk.i64_in _ ⟨by omega, by omega⟩]; rfl
  have HF := Lib.hid (ints_front (m := k) hI)
  have HB : Hid (Ints W (some (behind ad cap (k + 1))) (T.drop (k + 1))) := Lib.hid (by
    rcases hI with h | ⟨b, o, e, hb, h⟩
    · omega
    · obtain rfl : ad = ⟨b, o, none⟩ := by simpa using e
      exact ints_behind (.inr ⟨b, o, rfl, hb, h⟩) (by omega))
  have HD : Hid ((dropI k T).length = n - 1) := Lib.hid (by rw [dropI_len k T (by omega), ← hnT])
  have HT1 : Hid ((T.take k).length = k) := Lib.hid (by rw [List.length_take]; omega)
  have HT2 : Hid ((T.drop (k + 1)).length = n - (k + 1)) := Lib.hid (by rw [List.length_drop]; omega)
  obtain ⟨bd, hbd⟩ : ∃ bd, bd = behind ad cap (k + 1) := ⟨_, rfl⟩
  have HBD := Lib.hid hbd
  rw [← hbd] at HB
  have hcat := concat_n W.heap.size 2 (by omega) (fun j => if j = 0 then ad else bd) (twoT k T) (fun j => if j = 0 then cap else cap - (k + 1)) (W.alloc (.cells #[.slice (some ad) k cap, .slice (some bd) (n - (k + 1)) (cap - (k + 1))] 22)).drew (by simp)
    (fun j hj => by
      have : j = 0 ∨ j = 1 := by omega
      rcases this with rfl | rfl
      · simp [twoT, HT1.out]
      · have := HT2.out; simp [twoT]; omega)
    (fun j hj => by
      have : j = 0 ∨ j = 1 := by omega
      rcases this with rfl | rfl
      · exact ⟨HF.out.below (((Below.refl _ _).alloc (Nat.le_refl _) _).drew), by show (T.take k).length ≤ 65536; have := HT1.out; omega⟩
      · exact ⟨HB.out.below (((Below.refl _ _).alloc (Nat.le_refl _) _).drew), by show (T.drop (k + 1)).length ≤ 65536; have := HT2.out; omega⟩)
    (by rw [cat_twoT, HD.out]; omega)
  rw [cat_twoT, HD.out] at hcat
  have HC := Lib.hid hcat
  have hcpos : 0 < cap := by omega
  clear hcat hnT hI hbd
  go_enter Try.func105, Try.ntmps105
  go_wp2_with fail
  refine wp_region_held_drew (S := fun w' => w'.cell? ⟨ib, 0, none⟩ = some (.int .i64 (k : Int))) (by kernel_rfl) hc (fun hHeld => ?_)
  refine wpAnyH_take (i := 0) (v := ?_) rfl (by kernel_rfl) (by kernel_rfl) (by kernel_rfl) (fun _ _ _ h => h) (Or.inl ⟨by rfl, ?_⟩) (by assumption) ?_
  rotate_left
  · (intro w hSw; (try dsimp only at hSw); go_simp; try (with_reducible rfl))
  (try simp only [Act.put, List.setIfInBounds_toArray, List.set_cons_zero, List.set_cons_succ])
  refine wpAnyH_take (i := 1) (v := ?_) rfl (by kernel_rfl) (by kernel_rfl) (by kernel_rfl) (fun _ _ _ h => h) (Or.inl ⟨by rfl, ?_⟩) (by assumption) ?_
  rotate_left
  · (intro w hSw; (try dsimp only at hSw); go_simp; try (with_reducible rfl))
  (try simp only [Act.put, List.setIfInBounds_toArray, List.set_cons_zero, List.set_cons_succ])
  refine wpAnyH_take (i := 2) (v := .slice (some ad) k cap) rfl (by kernel_rfl) (by kernel_rfl) (by kernel_rfl) (fun _ _ _ h => h) (Or.inl ⟨by rfl, ?_⟩) (by assumption) ?_
  · (intro W1 hSw; exact exec_take _ _ _ rfl ad n cap k rfl rfl (by omega) hcpos)
  (try simp only [Act.put, List.setIfInBounds_toArray, List.set_cons_zero, List.set_cons_succ])
  refine wpAnyH_take (i := 3) (v := ?_) rfl (by kernel_rfl) (by kernel_rfl) (by kernel_rfl) (fun _ _ _ h => h) (Or.inl ⟨by rfl, ?_⟩) (by assumption) ?_
  rotate_left
  · (intro w hSw; (try dsimp only at hSw); go_simp; try (with_reducible rfl))
  (try simp only [Act.put, List.setIfInBounds_toArray, List.set_cons_zero, List.set_cons_succ])
  refine wpAnyH_take (i := 4) (v := ?_) rfl (by kernel_rfl) (by kernel_rfl) (by kernel_rfl) (fun _ _ _ h => h) (Or.inl ⟨by rfl, ?_⟩) (by assumption) ?_
  rotate_left
  · (intro w hSw; (try dsimp only at hSw); go_simp; try (with_reducible rfl))
  (try simp only [Act.put, List.setIfInBounds_toArray, List.set_cons_zero, List.set_cons_succ])
  refine wpAnyH_take (i := 5) (v := .int .i64 ((k + 1 : Nat) : Int)) rfl (by kernel_rfl) (by kernel_rfl) (by kernel_rfl) (fun _ _ _ h => h) (Or.inl ⟨by rfl, ?_⟩) (by assumption) ?_
  · (intro W1 hSw; rw [← E1]; go_simp)
  (try simp only [Act.put, List.setIfInBounds_toArray, List.set_cons_zero, List.set_cons_succ])
  refine wpAnyH_take (i := 6) (v := .slice (some bd) (n - (k + 1)) (cap - (k + 1))) rfl (by kernel_rfl) (by kernel_rfl) (by kernel_rfl) (fun _ _ _ h => h) (Or.inl ⟨by rfl, ?_⟩) (by assumption) ?_
  · (intro W1 hSw; rw [HBD.out]; exact exec_drop _ _ _ rfl ad n cap (k + 1) rfl rfl (by omega) hcap)
  (try simp only [Act.put, List.setIfInBounds_toArray, List.set_cons_zero, List.set_cons_succ])
  refine wpAnyH_ready (rs := [7]) (by kernel_rfl) (by simp) ?_
  refine AllReadyH.cons rfl (fun K hK => ?_) AllReadyH.nil
  go_simp
  refine hK.out _ _ (kept_cell ((Below.refl W.heap.size W).drew.alloc (Nat.le_refl _) _) hc hib) (fun hHeld => ?_)
  clear hK K
  (try simp only [Act.put, List.setIfInBounds_toArray, List.set_cons_zero, List.set_cons_succ])
  refine wpAnyH_ready (rs := [8]) (by kernel_rfl) (by simp) ?_
  refine AllReadyH.cons rfl (fun K hK => ?_) AllReadyH.nil
  go_simp
  refine HC.out.mono ?_
  rintro e w3 ⟨g, c, rfl, own, hb3⟩
  have hb : Below W.heap.size W w3 := Below.trans (((Below.refl _ W).alloc (Nat.le_refl _) _).drew) (hb3.mono (by simp))
  refine hK.out _ _ (kept_cell hb hc hib) (fun hHeld => ?_)
  clear hK K
  (try simp only [Act.put, List.setIfInBounds_toArray, List.set_cons_zero, List.set_cons_succ])
  refine wpAnyH_take (i := 9) (v := ?_) rfl (by kernel_rfl) (by kernel_rfl) (by kernel_rfl) (fun _ _ _ h => h) (Or.inl ⟨by rfl, ?_⟩) (by assumption) ?_
  rotate_left
  · (intro w hSw; (try dsimp only at hSw); go_simp; try (with_reducible rfl))
  (try simp only [Act.put, List.setIfInBounds_toArray, List.set_cons_zero, List.set_cons_succ])
  refine wpAnyH_done (by kernel_rfl) ?_ _
  simp only [List.getElem_toArray, List.getElem_cons_succ, List.getElem_cons_zero, Act.put, List.setIfInBounds_toArray, List.set_cons_zero, List.set_cons_succ]
  go_wp2_with fail
  go_ret
  exact ⟨g, c, rfl, own.rebase (by simp), hb⟩

theorem leave_chg (S : List Int) (k : Nat) (hk : k < S.length) (h2 : 2 ≤ S.length) (h8 : S.length ≤ 8) (ib : Nat) (w : World) (hc : w.cell? ⟨ib, 0, none⟩ = some (.int .i64 (k : Int))) (hib : ib < w.heap.size) :
    ChgN 105 #[] #[.pointer (some ⟨ib, 0, none⟩)] S (dropI k S) (dropI k) w := by
  intro W g o T hW hT hTI
  have hl : T.length = S.length := hT.1
  refine (leaveOut_any ib k S.length ⟨g, o, none⟩ T S.length hl.symm hk h2 h8 (Nat.le_refl _) W hTI (kept_cell hW hc hib) (Nat.lt_of_lt_of_le hib hW.size)).mono ?_
  rintro e w1 ⟨g1, c1, rfl, own, hb⟩
  exact ⟨some ⟨g1, 0, none⟩, c1, by rw [dropI_len k S hk], own_ints own, dropI_dg hT hk, hb⟩

theorem results_cell_tmp1 {fn : Func} {p u1 : Tmp} {ty : TypeId} (h : fn.results = #[.cell p ty, .tmp u1]) (tmps : Array Value) (P : Program) (w : World) :
    (results fn tmps).run P w =
      ((asAddr (tmps.getD p undef)).run P w).andThen fun a w₁ => ((loadVar ty a).run P w₁).andThen fun v w₂ => .ok (.tuple #[v, tmps.getD u1 undef]) w₂ := by
  simp only [results, h]
  simp [Sem.run_bind, Result.andThen]

theorem box3k (w : World) (a b c : Value) (t u : TypeId) : ∃ W, W = ((w.alloc (.cells #[a] t)).alloc (.cells #[b] u)).alloc (.cells #[c] t) ∧ W.cell? ⟨w.heap.size, 0, none⟩ = some a ∧ W.cell? ⟨w.heap.size + 1, 0, none⟩ = some b ∧ W.heap[w.heap.size + 2]? = some (.cells #[c] t (0, 0)) ∧ W.heap.size = w.heap.size + 3 ∧ Below w.heap.size w W := by
  have s1 : (w.alloc (.cells #[a] t)).heap.size = w.heap.size + 1 := World.size_alloc _ _
  have s2 : ((w.alloc (.cells #[a] t)).alloc (.cells #[b] u)).heap.size = w.heap.size + 2 := by rw [World.size_alloc, s1]
  have s3 : (((w.alloc (.cells #[a] t)).alloc (.cells #[b] u)).alloc (.cells #[c] t)).heap.size = w.heap.size + 3 := by rw [World.size_alloc, s2]
  have b2 : Below ((w.alloc (.cells #[a] t)).alloc (.cells #[b] u)).heap.size ((w.alloc (.cells #[a] t)).alloc (.cells #[b] u)) (((w.alloc (.cells #[a] t)).alloc (.cells #[b] u)).alloc (.cells #[c] t)) := (Below.refl _ _).alloc (Nat.le_refl _) _
  have b1 : Below (w.alloc (.cells #[a] t)).heap.size (w.alloc (.cells #[a] t)) (((w.alloc (.cells #[a] t)).alloc (.cells #[b] u)).alloc (.cells #[c] t)) := ((Below.refl _ _).alloc (Nat.le_refl _) _).trans (b2.mono (by omega))
  have b0 : Below w.heap.size w (((w.alloc (.cells #[a] t)).alloc (.cells #[b] u)).alloc (.cells #[c] t)) := ((Below.refl _ _).alloc (Nat.le_refl _) _).trans (b1.mono (by omega))
  have x1 := kept_cell b1 (cell_new w a t) (lt_alloc _ _)
  have x2 := kept_cell b2 (cell_new (w.alloc (.cells #[a] t)) b u) (lt_alloc _ _)
  have x3 := heap_alloc_last ((w.alloc (.cells #[a] t)).alloc (.cells #[b] u)) (.cells #[c] t)
  rw [s1] at x2
  rw [s2] at x3
  exact ⟨_, rfl, x1, x2, x3, s3, b0⟩

set_option maxHeartbeats 4000000 in
theorem withoutPlace_any (as0 : Addr) (S : List Int) (cap : Nat) (hcap : S.length ≤ cap) (hSp : Sp S) (h2 : 2 ≤ S.length) (ac : Option Addr) (C : List Int) (capc : Nat) (hlc : C.length ≤ 1024) (hC0 : ∀ i, i < C.length → 0 ≤ gi C i ∧ gi C i ≤ 9223372036854775807) (k : Nat) (hk : k < S.length) (w : World) (hS : Ints w (some as0) S) (hC : Ints w ac C) :
    Calls Try.prog 63 #[.agg #[.slice (some as0) S.length cap], .slice ac C.length capc, .int .i64 (k : Int)] w fun e w' => ∃ m vs v, e = .returned (.tuple #[.agg #[vs], v]) ∧ w.heap.size ≤ m ∧ RowIn vs w.heap.size m ∧ OwnInts w' w.heap.size vs (dropI k S) ∧ OwnInts w' m v (outTo S C k (-1) C.length) ∧ m ≤ w'.heap.size ∧ Below w.heap.size w w' := by
  have h8 := hSp.hi
  have HSp := Lib.hid hSp
  have HC0 := Lib.hid hC0
  have HD : Hid ((dropI k S).length = S.length - 1) := Lib.hid (dropI_len k S hk)
  have HX : Hid (∀ i, i < (dropI k S).length → 2 ≤ gi (dropI k S) i ∧ gi (dropI k S) i ≤ 4) := Lib.hid (dropI_bd hSp.bd hk)
  have HO : Hid (cmpT (sorted (C.map fun c => wordTo (dropI k S) (dropI k (digs S c)) (dropI k S).length)) C.length = outTo S C k (-1) C.length) := Lib.hid (out_all S C k (-1) (by omega))
  obtain ⟨W0, hW0, cS, cI, rR, z0, B0⟩ := box3k w (.slice (some as0) S.length cap) (.int .i64 (k : Int)) (.slice none 0 0) 28 2
  have HW0 := Lib.hid hW0
  have z0a : w.heap.size + 3 ≤ W0.heap.size := by omega
  have hlo := leaveOut_any (w.heap.size + 1) k S.length as0 S cap rfl hk h2 h8 hcap W0 (hS.below B0) cI (by omega)
  have HLO := Lib.hid hlo
  clear hSp hC0 hW0 z0 hlo
  go_enter Try.func63, Try.ntmps63
  go_wp2_with fail
  rw [← HW0.out]
  refine HLO.out.mono ?_
  rintro e w1 ⟨g, c, rfl, own1, hb1⟩
  have s1 : w.heap.size + 3 ≤ w1.heap.size := by have := hb1.size; omega
  have cS1 := kept_cell hb1 cS (by omega)
  have cI1 := kept_cell hb1 cI (by omega)
  have rR1 := row_below rR hb1 (by omega)
  have B1 := B0.trans (hb1.mono (by omega))
  have row1 := own1.rowIn
  have hg1 := own1.base_le
  clear hb1 cS cI rR B0 HLO
  have h12 : Below w1.heap.size w1 (w1.alloc (.cells #[.slice (some ⟨g, 0, none⟩) (S.length - 1) c] 28)) := (Below.refl _ _).alloc (Nat.le_refl _) _
  have cX := cell_new w1 (.slice (some ⟨g, 0, none⟩) (S.length - 1) c) 28
  obtain ⟨W2, hW2⟩ : ∃ W2, W2 = w1.alloc (.cells #[.slice (some ⟨g, 0, none⟩) (S.length - 1) c] 28) := ⟨_, rfl⟩
  have z2 : W2.heap.size = w1.heap.size + 1 := by rw [hW2, World.size_alloc]
  have HW2 := Lib.hid hW2
  rw [← hW2] at h12 cX
  have cS2 := kept_cell h12 cS1 (by omega)
  have cI2 := kept_cell h12 cI1 (by omega)
  have rR2 := row_below rR1 h12 (by omega)
  have own2 := own1.below h12
  have B2 := B1.trans (h12.mono (by omega))
  have s2 : w1.heap.size < W2.heap.size ∧ g < w1.heap.size := by omega
  clear hW2 h12 cS1 cI1 rR1 own1 B1 z2
  have hch := leave_chg S k hk h2 h8 (w.heap.size + 1) W2.drew cI2 (show w.heap.size + 1 < W2.heap.size by omega)
  have hcc := changedCode_any (some as0) S cap HSp.out.lo HSp.out.hi HSp.out.bd ac C capc (by omega) HC0.out (some ⟨g, 0, none⟩) (dropI k S) c (by rw [HD.out]; omega) HX.out 105 (enters_of Try.func105 (by kernel_rfl) rfl) #[] #[.pointer (some ⟨w.heap.size + 1, 0, none⟩)] (dropI k) W2.drew (hS.below B2.drew) (hC.below B2.drew) (own_ints (own2.drew)) hch
  rw [HO.out, HD.out] at hcc
  have HCC := Lib.hid hcc
  clear hch hcc
  go_wp2_with fail
  rw [← HW2.out]
  refine wp_region_held_drew (S := fun w' => w'.cell? ⟨w1.heap.size, 0, none⟩ = some (.slice (some ⟨g, 0, none⟩) (S.length - 1) c) ∧ w'.cell? ⟨w.heap.size, 0, none⟩ = some (.slice (some as0) S.length cap)) (by kernel_rfl) ⟨cX, cS2⟩ (fun hHeld => ?_)
  refine wpAnyH_take (i := 0) (v := ?_) rfl (by kernel_rfl) (by kernel_rfl) (by kernel_rfl) (fun _ _ _ h => h) (Or.inl ⟨by rfl, ?_⟩) (by assumption) ?_
  rotate_left
  · (intro w hSw; (try dsimp only at hSw); go_simp; try (with_reducible rfl))
  (try simp only [Act.put, List.setIfInBounds_toArray, List.set_cons_zero, List.set_cons_succ])
  refine wpAnyH_take (i := 1) (v := ?_) rfl (by kernel_rfl) (by kernel_rfl) (by kernel_rfl) (fun _ _ _ h => h) (Or.inl ⟨by rfl, ?_⟩) (by assumption) ?_
  rotate_left
  · (intro w hSw; (try dsimp only at hSw); go_simp; try (with_reducible rfl))
  (try simp only [Act.put, List.setIfInBounds_toArray, List.set_cons_zero, List.set_cons_succ])
  refine wpAnyH_take (i := 2) (v := ?_) rfl (by kernel_rfl) (by kernel_rfl) (by kernel_rfl) (fun _ _ _ h => h) (Or.inl ⟨by rfl, ?_⟩) (by assumption) ?_
  rotate_left
  · (intro w hSw; (try dsimp only at hSw); go_simp; try (with_reducible rfl))
  (try simp only [Act.put, List.setIfInBounds_toArray, List.set_cons_zero, List.set_cons_succ])
  refine wpAnyH_take (i := 3) (v := ?_) rfl (by kernel_rfl) (by kernel_rfl) (by kernel_rfl) (fun _ _ _ h => h) (Or.inl ⟨by rfl, ?_⟩) (by assumption) ?_
  rotate_left
  · (intro w hSw; (try dsimp only at hSw); go_simp; try (with_reducible rfl))
  (try simp only [Act.put, List.setIfInBounds_toArray, List.set_cons_zero, List.set_cons_succ])
  refine wpAnyH_take (i := 4) (v := ?_) rfl (by kernel_rfl) (by kernel_rfl) (by kernel_rfl) (fun _ _ _ h => h) (Or.inl ⟨by rfl, ?_⟩) (by assumption) ?_
  rotate_left
  · (intro w hSw; (try dsimp only at hSw); go_simp; try (with_reducible rfl))
  (try simp only [Act.put, List.setIfInBounds_toArray, List.set_cons_zero, List.set_cons_succ])
  refine wpAnyH_ready (rs := [5]) (by kernel_rfl) (by simp) ?_
  refine AllReadyH.cons rfl (fun K hK => ?_) AllReadyH.nil
  go_simp
  refine HCC.out.mono ?_
  rintro e w3 ⟨v, rfl, own3, hb3'⟩
  have hb3 : Below W2.heap.size W2 w3 := (Below.refl _ W2).drew.trans hb3'
  clear hb3'
  have rR3 := row_below rR2 hb3 (by omega)
  have own1x := own2.below hb3
  have B3 := B2.trans (hb3.mono (by omega))
  have cX3 := kept_cell hb3 cX (by omega)
  have cS3 := kept_cell hb3 cS2 (by omega)
  have s3 := hb3.size
  have own3' : OwnInts w3 W2.heap.size v (outTo S C k (-1) C.length) := own3
  refine hK.out _ _ (⟨cX3, cS3⟩) (fun hHeld => ?_)
  clear hK K
  (try simp only [Act.put, List.setIfInBounds_toArray, List.set_cons_zero, List.set_cons_succ])
  have rc : w3.cell? ⟨w.heap.size + 1 + 1, 0, none⟩ = some (.slice none 0 0) := by rw [cell_of_row w3 (w.heap.size + 2) 0 _ _ _ rR3]; rfl
  have rf : w3.frozen? ⟨w.heap.size + 1 + 1, 0, none⟩ = false := by have h' := rR3; simp [World.frozen?, h']
  have rs : (w3.setCell ⟨w.heap.size + 1 + 1, 0, none⟩ (.slice (some ⟨g, 0, none⟩) (S.length - 1) c)).cell? ⟨w.heap.size + 1 + 1, 0, none⟩ = some (.slice (some ⟨g, 0, none⟩) (S.length - 1) c) := World.cell?_setCell_same' _ _ _ (by rw [rc]; rfl)
  refine wpAnyH_ready (rs := [6]) (by kernel_rfl) (by simp) ?_
  refine AllReadyH.cons rfl (fun K hK => ?_) AllReadyH.nil
  go_simp
  refine hK.out _ _ (⟨cell_set_other cX3 (by simp; omega), cell_set_other cS3 (by simp; omega)⟩) (fun hHeld => ?_)
  clear hK K
  (try simp only [Act.put, List.setIfInBounds_toArray, List.set_cons_zero, List.set_cons_succ])
  refine wpAnyH_take (i := 7) (v := ?_) rfl (by kernel_rfl) (by kernel_rfl) (by kernel_rfl) (fun _ _ _ h => h) (Or.inl ⟨by rfl, ?_⟩) (by assumption) ?_
  rotate_left
  · (intro w hSw; (try dsimp only at hSw); go_simp; try (with_reducible rfl))
  (try simp only [Act.put, List.setIfInBounds_toArray, List.set_cons_zero, List.set_cons_succ])
  refine wpAnyH_done (by kernel_rfl) ?_ _
  simp only [List.getElem_toArray, List.getElem_cons_succ, List.getElem_cons_zero, Act.put, List.setIfInBounds_toArray, List.set_cons_zero, List.set_cons_succ]
  have B10 : Below w.heap.size w (w3.setCell ⟨w.heap.size + 1 + 1, 0, none⟩ (.slice (some ⟨g, 0, none⟩) (S.length - 1) c)) := B3.setCell (show w.heap.size ≤ w.heap.size + 1 + 1 by omega) _
  go_wp2_with fail
  refine bodyPost_ret (by rw [results_cell_tmp1 rfl]; go_simp; try rfl) rfl ?_
  refine ⟨W2.heap.size, .slice (some ⟨g, 0, none⟩) (S.length - 1) c, v, rfl, by omega, fun z hz => by simp [Value.ownBlock] at hz; omega, ?_, ?_, by simpa using s3, B10⟩
  · exact (own1x.setBelow (by simp; omega) _).rebase (by omega)
  · exact own3'.setBelow (show w.heap.size + 1 + 1 < W2.heap.size by omega) _

end Go.Proofs.Ytpmeccpagndifaa
