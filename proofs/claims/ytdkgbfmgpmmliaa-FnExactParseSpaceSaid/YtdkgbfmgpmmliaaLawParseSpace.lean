/-
  ParseSpace answers as its model at every argument. By an AI agent.
-/
import Derived.Test.YtdkgbfmgpmmliaaPSp
import Derived.Test.YtdkgbfmgpmmliaaPSq
import Derived.Test.YtdkgbfmgpmmliaaMark
namespace Go.Proofs.Ytdkgbfmgpmmliaa
open Go.RowKit Cv
set_option linter.unusedVariables false
set_option linter.unusedSimpArgs false
set_option maxRecDepth 100000

theorem vPS_len (t : ByteArray) : (vPS t).length ≤ 8 := by
  unfold vPS
  split
  · rename_i h
    have h1 : (decide (t.size ≤ 8) && isSp (pS t)) = true := h
    simp at h1
    rw [pS_len]; exact h1.1
  · simp
theorem markSpace_gen (ao : Option Addr) (base cap n : Nat) (T : List Int) (k0 : Int) (w : World) (hn : n ≤ 4294967296) (h0 : 0 ≤ k0) (h1 : k0 ≤ 4294967296) (hT : T.length = n) (h : OwnInts w base (.slice ao n cap) T) :
    Calls Try.prog 21 #[.agg #[.slice ao n cap], .int .i64 k0] w fun e w' => e = .returned (.int .i64 (k0 + n)) ∧
      OwnInts w' base (.slice ao n cap) (marks k0 n) ∧ w.grownBy w' (Value.slice ao n cap).ownBlock := by
  have HN := Lib.hid hT
  clear hT
  go_enter Try.func21, Try.ntmps21
  go_wp2_with fail
  refine (markInt64S_own ao base cap n T k0 _ hn h0 h1 HN.out (h.alloc _)).mono ?_
  rintro e w1 ⟨rfl, hown, hg⟩
  go_wp2
  go_ret
  exact ⟨rfl, hown, grown_trans (World.grownBy_alloc w _ _) hg⟩

theorem heldSpace_any (ao : Option Addr) (cap n : Nat) (k0 : Int) (w : World) (hn : n ≤ 4294967296) (h0 : 0 ≤ k0) (h1 : k0 ≤ 4294967296) (h : Ints w ao (marks k0 n)) :
    Calls Try.prog 43 #[.agg #[.slice ao n cap], .int .i64 k0] w fun e w' => e = .returned (.int .i64 (k0 + n)) ∧ Below w.heap.size w w' := by
  have B0 : Below w.heap.size w (w.alloc (.cells #[.slice ao n cap] 28)) := by go_grown
  go_enter Try.func43, Try.ntmps43
  go_wp2_with fail
  refine (heldInt64S_any ao cap n k0 _ hn h0 h1 (h.below B0)).mono ?_
  rintro e w1 ⟨rfl, rfl⟩
  go_wp2
  go_ret
  exact ⟨rfl, B0⟩

theorem law_ParseSpace_neg0 (s0 : ByteArray) (hs0 : s0.size ≤ maxLen) (w : World) (hneg : 1048576 < s0.size) :
    Calls Try.prog 12 #[.string s0] w fun e w' => e = .returned (.bool true) ∧ Below w.heap.size w w' := by
  go_enter Try.func12, Try.ntmps12
  go_wp2_with fail
  go_ret
  exact ⟨rfl, by go_grown⟩

set_option maxHeartbeats 2000000 in
theorem law_ParseSpace_main (s0 : ByteArray) (hs0 : s0.size ≤ maxLen) (w : World) (hk0 : s0.size ≤ 1048576) :
    Calls Try.prog 12 #[.string s0] w fun e w' => e = .returned (.bool true) ∧ Below w.heap.size w w' := by
  have HL : Hid ((vPS s0).length ≤ 8) := Lib.hid (vPS_len s0)
  have hln := HL.out
  go_enter Try.func12, Try.ntmps12
  go_wp2_with fail
  refine (spec_ParseSpace s0 (by omega) _).mono ?_
  rintro e w1 ⟨v1, rfl, o1, hb1⟩
  obtain ⟨a1, k1, hv⟩ := o1.shape
  subst hv
  have B : Below w.heap.size w w1 := hb1
  have s1 := B.size
  have R1 := o1.rowIn
  go_wp2_with fail
  refine (impl_ParseSpace s0 hs0 _).mono ?_
  rintro e w2 ⟨v2, rfl, o2, hb2⟩
  obtain ⟨a2, k2, hv⟩ := o2.shape
  subst hv
  rw [World.size_alloc] at o2
  have R2 := o2.rowIn
  have c1 := kept_cell hb2 (cell_new w1 (.slice a1 (vPS s0).length k1) 28) (lt_alloc _ _)
  have l1 := lt_of_below hb2 (lt_alloc w1 (.cells #[.slice a1 (vPS s0).length k1] 28))
  have hq : Below w1.heap.size w1 w2 := Below.trans ((Below.refl _ w1).alloc (Nat.le_refl _) _) (hb2.mono (by simp))
  replace o1 := o1.below hq
  replace B := B.trans (hq.mono s1)
  have s2 := hq.size
  clear hb1 hb2 hq
  have d1 := kept_cell ((Below.refl w2.heap.size w2).alloc (Nat.le_refl _) (.cells #[.slice a2 (vPS s0).length k2] 28)) c1 l1
  go_wp2_with fail
  refine (eqSpace_same a2 a1 (vPS s0) k2 k1 _ (by omega) (own_ints (o2.alloc _)) (own_ints (o1.alloc _))).mono ?_
  rintro e w3 ⟨rfl, hb3⟩
  have c2 := kept_cell hb3 (cell_new w2 (.slice a2 (vPS s0).length k2) 28) (lt_alloc _ _)
  have l2 := lt_of_below hb3 (lt_alloc w2 (.cells #[.slice a2 (vPS s0).length k2] 28))
  have hq : Below w2.heap.size w2 w3 := Below.trans ((Below.refl _ w2).alloc (Nat.le_refl _) _) (hb3.mono (by simp))
  replace c1 := kept_cell hq c1 l1
  replace l1 := lt_of_below hq l1
  replace o1 := o1.below hq
  replace o2 := o2.below hq
  replace B := B.trans (hq.mono B.size)
  have s3 := hq.size
  have hne : (ePS s0 != ePS s0) = false := by simp
  clear hb3 hq d1
  go_wp2_with fail
  refine (markSpace_gen a2 _ k2 _ _ 1 _ (by omega) (by omega) (by omega) rfl o2).mono ?_
  clear o2
  rintro e w4 ⟨rfl, o2, hg⟩
  replace c1 := hg.cell (a := ⟨w1.heap.size, 0, none⟩) c1 (row_ne_box (b := w1.heap.size) R2 (by omega))
  replace l1 : w1.heap.size < w4.heap.size := Nat.lt_of_lt_of_le l1 hg.size
  replace c2 := hg.cell (a := ⟨w2.heap.size, 0, none⟩) c2 (row_ne_box (b := w2.heap.size) R2 (by omega))
  replace l2 : w2.heap.size < w4.heap.size := Nat.lt_of_lt_of_le l2 hg.size
  replace o1 := o1.kept hg (row_ne_row R1 R2 (by omega))
  replace B := below_mark B B.size hg R2 (by omega)
  clear hg
  go_wp2_with fail
  refine (heldSpace_any _ _ _ 1 _ (by omega) (by omega) (by omega) (own_ints o2)).mono ?_
  rintro e w5 ⟨rfl, hb⟩
  replace c1 := kept_cell hb c1 l1
  replace l1 := lt_of_below hb l1
  replace c2 := kept_cell hb c2 l2
  replace l2 := lt_of_below hb l2
  replace o1 := o1.below hb
  replace o2 := o2.below hb
  replace B := B.trans (hb.mono B.size)
  clear hb
  go_wp2_with fail
  refine (impl_ParseSpace s0 hs0 _).mono ?_
  rintro e w6 ⟨v3, rfl, o3, hb⟩
  obtain ⟨a3, k3, hv⟩ := o3.shape
  subst hv
  replace c1 := kept_cell hb c1 l1
  replace l1 := lt_of_below hb l1
  replace c2 := kept_cell hb c2 l2
  replace l2 := lt_of_below hb l2
  replace o1 := o1.below hb
  replace o2 := o2.below hb
  replace B := B.trans (hb.mono B.size)
  clear hb
  have d1 := kept_cell ((Below.refl w6.heap.size w6).alloc (Nat.le_refl _) (.cells #[.slice a3 (vPS s0).length k3] 28)) c1 l1
  have d2 := kept_cell ((Below.refl w6.heap.size w6).alloc (Nat.le_refl _) (.cells #[.slice a3 (vPS s0).length k3] 28)) c2 l2
  go_wp2_with fail
  refine (eqSpace_same a3 a1 (vPS s0) k3 k1 _ (by omega) (own_ints (o3.alloc _)) (own_ints (o1.alloc _))).mono ?_
  rintro e w7 ⟨rfl, hb⟩
  have hq : Below w6.heap.size w6 w7 := Below.trans ((Below.refl _ w6).alloc (Nat.le_refl _) _) (hb.mono (by simp))
  replace c2 := kept_cell hq c2 l2
  replace l2 := lt_of_below hq l2
  replace o2 := o2.below hq
  replace B := B.trans (hq.mono B.size)
  clear hb hq d1 d2 c1
  go_wp2_with fail
  refine (heldSpace_any _ _ _ 1 _ (by omega) (by omega) (by omega) (own_ints o2)).mono ?_
  rintro e w8 ⟨rfl, hb⟩
  go_wp2_with fail
  go_ret
  exact ⟨rfl, B.trans (hb.mono B.size)⟩

theorem law_ParseSpace (s0 : ByteArray) (hs0 : s0.size ≤ maxLen) (w : World) :
    Calls Try.prog 12 #[.string s0] w fun e w' => e = .returned (.bool true) ∧ Below w.heap.size w w' := by
  by_cases hk0 : s0.size ≤ 1048576
  · exact law_ParseSpace_main s0 hs0 w hk0
  · exact law_ParseSpace_neg0 s0 hs0 w (by omega)

end Go.Proofs.Ytdkgbfmgpmmliaa
