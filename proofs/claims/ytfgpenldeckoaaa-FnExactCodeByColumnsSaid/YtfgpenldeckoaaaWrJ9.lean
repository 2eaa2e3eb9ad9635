/-
  The contract of the program's WordsReached. By an AI agent.
-/
import Derived.Test.YtfgpenldeckoaaaWrI9
import Derived.Test.YtfgpenldeckoaaaDel
import Derived.Test.YtfgpenldeckoaaaAllW
namespace Go.Proofs.Ytfgpenldeckoaaa
open Go.RowKit Cv
set_option linter.unusedVariables false
set_option linter.unusedSimpArgs false
set_option maxRecDepth 100000

theorem enter_lacks9 : ∀ args w, (callFunc 81 args).run Try.prog w = .ok (.enter 81 args) w := enters_of Try.func81 (by kernel_rfl) rfl
theorem upto_filter9 (N : Nat) (p : Nat → Bool) : (upto N).filter (fun x => !!p x.toNat) = selL p N := by
  unfold upto selL
  rw [List.filter_map]
  congr 1
  exact List.filter_congr fun i hi => by simp
theorem deleteFunc_n9 (n g cap K : Nat) (L : List Int) (hK : K = L.length) (f : Nat) (eg : ∀ args w, (callFunc f args).run Try.prog w = .ok (.enter f args) w) (pre post : Array Value) (p : Int → Bool) (w : World) (hl : L.length ≤ 4294967296)
    (hrow : OwnInts w n (.slice (some ⟨g, 0, none⟩) K cap) L) (hp : PredN f pre post p n w L) :
    Calls Try.prog 78 #[.slice (some ⟨g, 0, none⟩) K cap, .func (.func f) pre post] w fun e w' => ∃ v, e = .returned v ∧ OwnInts w' n v (L.filter fun x => !p x) ∧ w.grownBy w' (some g) := by
  subst hK; exact deleteFunc_any n g cap L f eg pre post p w hl hrow hp

set_option maxHeartbeats 2000000 in
theorem impl_WordsReached (ao : Option Addr) (S : List Int) (cap : Nat) (hn : S.length ≤ 4294967296) (ac : Option Addr) (C : List Int) (capc : Nat) (hnc : C.length ≤ 4294967296) (at' : Option Addr) (T : List Int) (capt : Nat) (hnt : T.length ≤ 4294967296) (m : Int) (hmr : -9223372036854775808 ≤ m ∧ m ≤ 9223372036854775807) (w : World) (hS : Ints w ao S) (hC : Ints w ac C) (hT : Ints w at' T) :
    Calls Try.prog 39 #[.agg #[.slice ao S.length cap], .slice ac C.length capc, .slice at' T.length capt, .int .i64 m] w fun e w' => ∃ v, e = .returned (.tuple #[v, .int .i64 (eCs S C T m)]) ∧ OwnInts w' w.heap.size v (vWr S C T m) ∧ Below w.heap.size w w' := by
  obtain ⟨W0, hW0⟩ : ∃ W0, W0 = w.alloc (.cells #[.slice ao S.length cap] 28) := ⟨_, rfl⟩
  have B0 : Below w.heap.size w W0 := by rw [hW0]; go_grown
  have c0 : W0.cell? ⟨w.heap.size, 0, none⟩ = some (.slice ao S.length cap) := by rw [hW0]; exact cell_new _ _ _
  have l0 : w.heap.size < W0.heap.size := by rw [hW0]; exact lt_alloc _ _
  have HW0 := Lib.hid hW0
  have hce := columnsError_any ao S cap hn ac C capc hnc at' T capt hnt m W0 (hS.below B0) (hC.below B0) (hT.below B0)
  by_cases hz : eCs S C T m = 0
  · obtain ⟨hP, hcz, hwz, h8, hm0, hm8⟩ := eCs_zero hz
    have HP := Lib.hid hP
    have HSp := Lib.hid hP.sp
    have HCZ := Lib.hid hcz
    have HT : Hid (∀ i, i < T.length → Wd S (gi T i)) := Lib.hid (eWords_zero hwz).2
    have hNN := nW_bd hP.sp
    obtain ⟨N, hNe⟩ : ∃ N : Nat, nW S = (N : Int) := ⟨(nW S).toNat, by omega⟩
    have hN2 : N ≤ 1024 := by omega
    have HN := Lib.hid hNe
    have HV : Hid (vWr S C T m = selL (wrB S C T m) N) := Lib.hid (by unfold vWr; rw [if_pos hz, hNe]; rfl)
    rw [hz] at hce
    obtain ⟨j, rfl⟩ : ∃ j : Nat, m = (j : Int) := ⟨m.toNat, by omega⟩
    have hm2 : j ≤ 8 := by omega
    have HZ := Lib.hid hz
    have HCE := Lib.hid hce
    clear hz hce hP hcz hwz hNN hNe hW0
    go_enter Try.func39, Try.ntmps39
    go_wp2_with fail
    rw [← HW0.out]
    refine HCE.out.mono ?_
    rintro e w1 ⟨rfl, hb1⟩
    have B1 := B0.trans (hb1.mono B0.size)
    have c1 := kept_cell hb1 c0 l0
    have l1 := lt_of_below hb1 l0
    clear hb1 c0 l0 B0 HCE
    go_wp2_with fail
    refine wp_region_held_drew (S := fun w' => w'.cell? ⟨w.heap.size, 0, none⟩ = some (.slice ao S.length cap)) (by kernel_rfl) (c1) (fun hHeld => ?_)
    refine wpAnyH_take (i := 0) (v := ?_) rfl (by kernel_rfl) (by kernel_rfl) (by kernel_rfl) (fun _ _ _ h => h) (Or.inl ⟨by rfl, ?_⟩) (by assumption) ?_
    rotate_left
    · (intro w hSw; obtain hSw := hSw; (try dsimp only at hSw); go_simp; try (with_reducible rfl))
    (try simp only [Act.put, List.setIfInBounds_toArray, List.set_cons_zero, List.set_cons_succ, List.getElem_toArray, List.getElem_cons_succ, List.getElem_cons_zero])
    refine wpAnyH_take (i := 2) (v := ?_) rfl (by kernel_rfl) (by kernel_rfl) (by kernel_rfl) (fun _ _ _ h => h) (Or.inl ⟨by rfl, ?_⟩) (by assumption) ?_
    rotate_left
    · (intro w hSw; obtain hSw := hSw; (try dsimp only at hSw); go_simp; try (with_reducible rfl))
    (try simp only [Act.put, List.setIfInBounds_toArray, List.set_cons_zero, List.set_cons_succ, List.getElem_toArray, List.getElem_cons_succ, List.getElem_cons_zero])
    refine wpAnyH_take (i := 3) (v := ?_) rfl (by kernel_rfl) (by kernel_rfl) (by kernel_rfl) (fun _ _ _ h => h) (Or.inl ⟨by rfl, ?_⟩) (by assumption) ?_
    rotate_left
    · (intro w hSw; obtain hSw := hSw; (try dsimp only at hSw); go_simp; try (with_reducible rfl))
    (try simp only [Act.put, List.setIfInBounds_toArray, List.set_cons_zero, List.set_cons_succ, List.getElem_toArray, List.getElem_cons_succ, List.getElem_cons_zero])
    refine wpAnyH_take (i := 4) (v := ?_) rfl (by kernel_rfl) (by kernel_rfl) (by kernel_rfl) (fun _ _ _ h => h) (Or.inl ⟨by rfl, ?_⟩) (by assumption) ?_
    rotate_left
    · (intro w hSw; obtain hSw := hSw; (try dsimp only at hSw); go_simp; try (with_reducible rfl))
    (try simp only [Act.put, List.setIfInBounds_toArray, List.set_cons_zero, List.set_cons_succ, List.getElem_toArray, List.getElem_cons_succ, List.getElem_cons_zero])
    refine wpAnyH_take (i := 5) (v := ?_) rfl (by kernel_rfl) (by kernel_rfl) (by kernel_rfl) (fun _ _ _ h => h) (Or.inl ⟨by rfl, ?_⟩) (by assumption) ?_
    rotate_left
    · (intro w hSw; obtain hSw := hSw; (try dsimp only at hSw); go_simp; try (with_reducible rfl))
    (try simp only [Act.put, List.setIfInBounds_toArray, List.set_cons_zero, List.set_cons_succ, List.getElem_toArray, List.getElem_cons_succ, List.getElem_cons_zero])
    refine wpAnyH_ready (rs := [1]) (by kernel_rfl) (by simp) ?_
    refine AllReadyH.cons rfl (fun K hK => ?_) AllReadyH.nil
    go_simp
    (go_at_call 79; refine (allWords_any ao S cap HSp.out N HN _ (hS.below (B1.trans (Below.mono (Below.refl w1.heap.size w1).drew B1.size)))).mono ?_)
    rintro e x1 ⟨q1, rfl, own1, hb1⟩
    have H1 : Below w1.heap.size w1 x1 := Below.trans (Below.refl w1.heap.size w1).drew (hb1.mono (Below.size (Below.refl w1.heap.size w1).drew))
    refine hK.out _ _ (kept_cell H1 c1 l1) (fun hHeld => ?_)
    clear hK K
    (try simp only [Act.put, List.setIfInBounds_toArray, List.set_cons_zero, List.set_cons_succ, List.getElem_toArray, List.getElem_cons_succ, List.getElem_cons_zero])
    refine wpAnyH_ready (rs := [6]) (by kernel_rfl) (by simp) ?_
    refine AllReadyH.cons rfl (fun K hK => ?_) AllReadyH.nil
    go_simp
    (go_at_call 80; refine (wordsReached_any ao S cap HP.out ac C capc HCZ.out at' T capt h8 HT.out j hm2 _ (hS.below (B1.trans (Below.mono H1 B1.size))) (hC.below (B1.trans (Below.mono H1 B1.size))) (hT.below (B1.trans (Below.mono H1 B1.size)))).mono ?_)
    rintro e x2 ⟨rfl, hb2⟩
    have H2 : Below w1.heap.size w1 x2 := Below.trans H1 (hb2.mono (Below.size H1))
    replace own1 := own1.below hb2
    refine hK.out _ _ (kept_cell H2 c1 l1) (fun hHeld => ?_)
    clear hK K
    (try simp only [Act.put, List.setIfInBounds_toArray, List.set_cons_zero, List.set_cons_succ, List.getElem_toArray, List.getElem_cons_succ, List.getElem_cons_zero])
    refine wpAnyH_take (i := 7) (v := ?_) rfl (by kernel_rfl) (by kernel_rfl) (by kernel_rfl) (fun _ _ _ h => h) (Or.inl ⟨by rfl, ?_⟩) (by assumption) ?_
    rotate_left
    · (intro w hSw; obtain hSw := hSw; (try dsimp only at hSw); go_simp; try (with_reducible rfl))
    (try simp only [Act.put, List.setIfInBounds_toArray, List.set_cons_zero, List.set_cons_succ, List.getElem_toArray, List.getElem_cons_succ, List.getElem_cons_zero])
    refine wpAnyH_ready (rs := [8]) (by kernel_rfl) (by simp) ?_
    refine AllReadyH.cons rfl (fun K hK => ?_) AllReadyH.nil
    go_simp
    have hq3 : w1.heap.size ≤ q1 := own1.base_le.1
    have hdel := deleteFunc_n9 w1.heap.size q1 N N (upto N) (upto_len N).symm 81 enter_lacks9 #[.agg (setA (wrB S C T (j : Int)))] #[] (fun x => !wrB S C T (j : Int) x.toNat) x2 (by rw [upto_len]; omega) own1 (fun W x hW hx => by obtain ⟨u, hu, e⟩ := mem_gi hx; rw [upto_len] at hu; rw [gi_upto N u hu] at e; subst e; exact lacks_any _ u (by omega) W)
    (go_at_call 78; refine hdel.mono ?_)
    rintro e x3 ⟨v3, rfl, own3, hg3⟩
    have H3 : Below w1.heap.size w1 x3 := Below.trans H2 (below_of_grown hg3 (show w1.heap.size ≤ q1 by omega) (Below.size H2))
    refine hK.out _ _ (kept_cell H3 c1 l1) (fun hHeld => ?_)
    clear hK K
    (try simp only [Act.put, List.setIfInBounds_toArray, List.set_cons_zero, List.set_cons_succ, List.getElem_toArray, List.getElem_cons_succ, List.getElem_cons_zero])
    refine wpAnyH_take (i := 9) (v := ?_) rfl (by kernel_rfl) (by kernel_rfl) (by kernel_rfl) (fun _ _ _ h => h) (Or.inl ⟨by rfl, ?_⟩) (by assumption) ?_
    rotate_left
    · (intro w hSw; obtain hSw := hSw; (try dsimp only at hSw); go_simp; try (with_reducible rfl))
    (try simp only [Act.put, List.setIfInBounds_toArray, List.set_cons_zero, List.set_cons_succ, List.getElem_toArray, List.getElem_cons_succ, List.getElem_cons_zero])
    refine wpAnyH_take (i := 10) (v := ?_) rfl (by kernel_rfl) (by kernel_rfl) (by kernel_rfl) (fun _ _ _ h => h) (Or.inl ⟨by rfl, ?_⟩) (by assumption) ?_
    rotate_left
    · (intro w hSw; obtain hSw := hSw; (try dsimp only at hSw); go_simp; try (with_reducible rfl))
    (try simp only [Act.put, List.setIfInBounds_toArray, List.set_cons_zero, List.set_cons_succ, List.getElem_toArray, List.getElem_cons_succ, List.getElem_cons_zero])
    refine wpAnyH_done (by kernel_rfl) ?_ _
    (try simp only [Act.put, List.setIfInBounds_toArray, List.set_cons_zero, List.set_cons_succ, List.getElem_toArray, List.getElem_cons_succ, List.getElem_cons_zero])
    go_wp2_with fail
    go_ret2
    exact ⟨_, by rw [HZ.out]; try rfl, by rw [HV.out, ← upto_filter9]; exact OwnInts.rebase own3 B1.size, (B1.trans (Below.mono H3 B1.size))⟩
  · have hzn : (eCs S C T m != 0) = true := by simpa using hz
    have HV : Hid (vWr S C T m = []) := Lib.hid (by unfold vWr; rw [if_neg hz])
    have HCE := Lib.hid hce
    clear hz hce hW0
    go_enter Try.func39, Try.ntmps39
    go_wp2_with fail
    rw [← HW0.out]
    refine HCE.out.mono ?_
    rintro e w1 ⟨rfl, hb1⟩
    go_wp2_with fail
    go_ret2
    exact ⟨_, rfl, by rw [HV.out]; exact own_nil _ _, B0.trans (hb1.mono B0.size)⟩

end Go.Proofs.Ytfgpenldeckoaaa
