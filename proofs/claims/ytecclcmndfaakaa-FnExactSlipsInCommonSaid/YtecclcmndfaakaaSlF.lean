/-
  The contracts of FullSlip. By an AI agent.
-/
import Derived.Test.YtecclcmndfaakaaSlA
import Derived.Test.YtecclcmndfaakaaSlAp
namespace Go.Proofs.Ytecclcmndfaakaa
open Go.RowKit Cv
set_option linter.unusedVariables false
set_option linter.unusedSimpArgs false
set_option maxRecDepth 100000

theorem fullTo_set (S : List Int) (T : List Int) (k : Nat) (hk : k < S.length) (hT : T.length = S.length) (h : ∀ j, j < k → gi T j = pw (gi S j) - 1) : ∀ j, j < k + 1 → gi (T.set k (pw (gi S k) - 1)) j = pw (gi S j) - 1 := fun j hj => by
  rw [gi_set _ _ _ _ (by rw [hT]; exact hk)]
  by_cases e : j = k
  · rw [if_pos e, e]
  · rw [if_neg e]; exact h j (by omega)
theorem fullL_of (S : List Int) (T : List Int) (hT : T.length = S.length) (h : ∀ j, j < S.length → gi T j = pw (gi S j) - 1) : T = fullL S :=
  ext_gi (by rw [hT, fullL_len]) fun i hi => by rw [h i (by omega), fullL, gi_map_range _ _ _ (by omega)]

set_option maxHeartbeats 1000000 in
theorem impl_FullSlip (ao : Option Addr) (S : List Int) (cap : Nat) (hn : S.length ≤ 4294967296) (w : World) (hS : Ints w ao S) :
    Calls Try.prog 22 #[.agg #[.slice ao S.length cap]] w fun e w' => ∃ v, e = .returned (.tuple #[v, .int .i64 (eSp S)]) ∧ OwnInts w' w.heap.size v (vFull S) ∧ Below w.heap.size w w' := by
  obtain ⟨i0, hi, hz0, hz1, hz2⟩ := info_parts infoI64
  have B0 : Below w.heap.size w (w.alloc (.cells #[.slice ao S.length cap] 28)) := by go_grown
  have c0 := cell_new w (.slice ao S.length cap) 28
  have l0 := lt_alloc w (.cells #[.slice ao S.length cap] 28)
  cases hsp : isSp S with
  | false =>
    have HV : Hid (vFull S = []) := Lib.hid (by unfold vFull; rw [hsp]; rfl)
    have HE : Hid (eSp S = 1) := Lib.hid (by unfold eSp; rw [hsp]; rfl)
    clear hi hz0 hz1 hz2
    go_enter Try.func22, Try.ntmps22
    go_wp2_with fail
    refine (IsSpace_any ao S cap _ hn (hS.below B0)).mono ?_
    rintro e w1 ⟨rfl, hb⟩
    go_wp2_with fail
    go_ret2
    exact ⟨_, by rw [HE.out]; rfl, by rw [HV.out]; exact own_nils _ _, B0.trans (hb.mono B0.size)⟩
  | true =>
    have HV : Hid (vFull S = fullL S) := Lib.hid (by unfold vFull; rw [if_pos hsp])
    have HE : Hid (eSp S = 0) := Lib.hid (by unfold eSp; rw [if_pos hsp])
    have hSp := (isSp_iff S).1 hsp
    have hhi := hSp.hi
    have HSp := Lib.hid hSp
    clear hSp
    go_enter Try.func22, Try.ntmps22
    go_wp2_with fail
    refine (IsSpace_any ao S cap _ hn (hS.below B0)).mono ?_
    rintro e w1 ⟨rfl, hb⟩
    have c1 := kept_cell hb c0 l0
    have l1 := lt_of_below hb l0
    have B1 : Below w.heap.size w w1 := B0.trans (hb.mono B0.size)
    clear hb c0 B0 l0
    go_wp2_with (at_make; refine wpList_make_full _ rfl _ _ 30 rfl w1.heap.size 2 i0 (.int .i64 0) 1 Try.underlying30 hi hz0 hz1 .i64 .i64 _ _ S.length rfl rfl rfl rfl (by rw [hz2]; omega) (by unfold maxLen; omega) (Nat.le_refl _) ?_; intro w2 hown hgrow; have c2 := kept_cell (below_grown0 hgrow) c1 l1)
    have l2 : w.heap.size < w2.heap.size := Nat.lt_of_lt_of_le l1 hgrow.size
    have B2 : Below w.heap.size w w2 := B1.trans ((below_grown0 hgrow).mono B1.size)
    replace hown := own_made hown
    clear hgrow c1
    obtain ⟨G, hG⟩ : ∃ G, G = w1.heap.size := ⟨_, rfl⟩
    rw [← hG] at l1 hown ⊢
    clear hi hz0 hz1 hz2 B1 hG
    go_loopw [17] (fun i wr => ∃ (k : Nat) (T : List Int), k ≤ S.length ∧ i = .int .i64 k ∧ OwnInts wr G (.slice (some ⟨G, 0, none⟩) S.length S.length) T ∧ Hid (T.length = S.length ∧ ∀ j, j < k → gi T j = pw (gi S j) - 1) ∧ wr.cell? ⟨w.heap.size, 0, none⟩ = some (.slice ao S.length cap) ∧ w.heap.size < wr.heap.size ∧ Below w.heap.size w wr)
      (fun i _ => S.length - (intOf i).toNat)
    case atStart => exact ⟨0, _, Nat.zero_le _, rfl, hown, Lib.hid ⟨by simp, fun j h => by omega⟩, c2, l2, B2⟩
    case round =>
      clear c2 l2 B2 hown
      obtain ⟨k, T, hk, rfl, own, HT, c, l, B⟩ := hrel
      by_cases hlt : k < S.length
      · obtain ⟨b, o, rfl, hbl, hc⟩ := hS.at hlt
        have hck := kept_cell B (hc k hlt) hbl
        obtain ⟨q1, q2⟩ := HSp.out.bd k hlt
        have hfree := own.free k
        have hcell := own.cell (k := k) (by rw [HT.out.1]; exact hlt)
        clear hc
        obtain ⟨s1, s2⟩ := shl_pw ⟨q1, q2⟩
        obtain ⟨_, s2', s3, s4, s5⟩ := shl_pw2 ⟨q1, q2⟩
        go_wp2_with fail
        clear s1 s2 s2' s3 s4 s5
        go_roundw
        case rel => exact ⟨k + 1, _, by omega, by go_num, own.stored k _, Lib.hid ⟨by rw [List.length_set]; exact HT.out.1, fullTo_set S T k hlt HT.out.1 HT.out.2⟩, cell_set_other c (by simp; omega), by simpa using l, B.setCell (by simp; omega) _⟩
        case measure => simp [intOf]; omega
      · have HF := Lib.hid (fullL_of S T HT.out.1 fun j hj => HT.out.2 j (by omega))
        go_wp2_with fail
        go_ret2
        exact ⟨_, by rw [HE.out]; rfl, by rw [HV.out, ← HF.out]; exact own.rebase (by omega), B⟩

set_option maxHeartbeats 1000000 in
theorem l07Full_any (ao : Option Addr) (S : List Int) (cap : Nat) (hSp : Sp S) (w : World) (hS : Ints w ao S) :
    Calls Try.prog 59 #[.agg #[.slice ao S.length cap]] w fun e w' => ∃ v, e = .returned v ∧ OwnInts w' w.heap.size v (fullL S) ∧ Below w.heap.size w w' := by
  have hhi := hSp.hi
  have HSp := Lib.hid hSp
  clear hSp
  have B0 : Below w.heap.size w (w.alloc (.cells #[.slice ao S.length cap] 28)) := by go_grown
  have c0 := cell_new w (.slice ao S.length cap) 28
  have l0 := lt_alloc w (.cells #[.slice ao S.length cap] 28)
  obtain ⟨W, hW⟩ : ∃ W, W = w.alloc (.cells #[.slice ao S.length cap] 28) := ⟨_, rfl⟩
  have hWs : W.heap.size = w.heap.size + 1 := by rw [hW]; simp
  have HW := Lib.hid hW
  rw [← hW] at c0 l0 B0
  clear hW
  go_enter Try.func59, Try.ntmps59
  go_wp2_with fail
  rw [← HW.out]
  go_wp2_with fail
  go_loopw [3, 9] (fun v i wr => ∃ (k : Nat) (T : List Int), k ≤ S.length ∧ i = .int .i64 k ∧ OwnInts wr (w.heap.size + 1) v T ∧ Hid (T.length = k ∧ ∀ j, j < k → gi T j = pw (gi S j) - 1) ∧ wr.cell? ⟨w.heap.size, 0, none⟩ = some (.slice ao S.length cap) ∧ w.heap.size < wr.heap.size ∧ Below w.heap.size w wr)
    (fun _ i _ => S.length - (intOf i).toNat)
  case atStart => exact ⟨0, _, Nat.zero_le _, rfl, own_empty W (w.heap.size + 1) (by omega) hWs.symm, Lib.hid ⟨rfl, fun j h => by omega⟩, kept_cell ((Below.refl W.heap.size W).alloc (Nat.le_refl _) _) c0 l0, lt_of_below ((Below.refl W.heap.size W).alloc (Nat.le_refl _) _) l0, B0.alloc B0.size _⟩
  case round =>
    clear c0 l0 B0
    obtain ⟨k, T, hk, rfl, own, HT, c, l, B⟩ := hrel
    by_cases hlt : k < S.length
    · obtain ⟨b, o, rfl, hbl, hc⟩ := hS.at hlt
      have hck := kept_cell B (hc k hlt) hbl
      obtain ⟨q1, q2⟩ := HSp.out.bd k hlt
      have hTl : T.length ≤ 8 := by have := HT.out.1; omega
      clear hc
      obtain ⟨s1, s2⟩ := shl_pw ⟨q1, q2⟩
      obtain ⟨s0, s2', s3, s4, s5⟩ := shl_pw2 ⟨q1, q2⟩
      go_wp2_with (at_builtin; clear s1 s2 s0 s2' s3 s4 s5; refine wpList_append_slip rfl _ _ rfl (w.heap.size + 1) _ _ rfl (own.alloc _) wr.heap.size _ rfl (cell_new _ _ _) (by omega) (by simp; omega) ?_; intro v' w4 hown' hgrow _)
      have hgb := grown_below (B.alloc B.size _) (by simp; omega) hgrow (own.alloc _) (Nat.le_succ _)
      have hc4 := hgrow.cell (a := ⟨w.heap.size, 0, none⟩) (kept_cell ((Below.refl wr.heap.size wr).alloc (Nat.le_refl _) _) c l) (fun e => by have := World.ownsRow.lt own _ e.symm; simp at this; omega)
      have hl4 : w.heap.size < w4.heap.size := by have := hgrow.size; simp at this; omega
      clear own hgrow
      go_wp2_with fail
      go_roundw
      case rel =>
        refine ⟨k + 1, _, by omega, by go_num, hown', Lib.hid ⟨by simp [HT.out.1], fun j hj => ?_⟩, hc4, hl4, hgb⟩
        by_cases e : j = k
        · subst e
          rw [← HT.out.1]; simp [gi]
        · have := HT.out.2 j (by omega)
          rw [← this]; simp only [gi, List.getD]
          rw [List.getElem?_append_left (by rw [HT.out.1]; omega)]
      case measure => simp [intOf]; omega
    · have HF := Lib.hid (fullL_of S T (by have := HT.out.1; omega) fun j hj => HT.out.2 j (by omega))
      go_wp2_with fail
      go_ret
      exact ⟨_, rfl, by rw [← HF.out]; exact own.rebase (by omega), B⟩

theorem spec_FullSlip (ao : Option Addr) (S : List Int) (cap : Nat) (hn : S.length ≤ 4294967296) (w : World) (hS : Ints w ao S) :
    Calls Try.prog 21 #[.agg #[.slice ao S.length cap]] w fun e w' => ∃ v, e = .returned (.tuple #[v, .int .i64 (eSp S)]) ∧ OwnInts w' w.heap.size v (vFull S) ∧ Below w.heap.size w w' := by
  have B0 : Below w.heap.size w (w.alloc (.cells #[.slice ao S.length cap] 28)) := by go_grown
  have c0 := cell_new w (.slice ao S.length cap) 28
  have l0 := lt_alloc w (.cells #[.slice ao S.length cap] 28)
  cases hsp : isSp S with
  | false =>
    have HV : Hid (vFull S = []) := Lib.hid (by unfold vFull; rw [hsp]; rfl)
    have HE : Hid (eSp S = 1) := Lib.hid (by unfold eSp; rw [hsp]; rfl)
    go_enter Try.func21, Try.ntmps21
    go_wp2_with fail
    refine (l01Is_any ao S cap _ hn (hS.below B0)).mono ?_
    rintro e w1 ⟨rfl, hb⟩
    go_wp2_with fail
    go_ret2
    exact ⟨_, by rw [HE.out]; rfl, by rw [HV.out]; exact own_nils _ _, B0.trans (hb.mono B0.size)⟩
  | true =>
    have HV : Hid (vFull S = fullL S) := Lib.hid (by unfold vFull; rw [if_pos hsp])
    have HE : Hid (eSp S = 0) := Lib.hid (by unfold eSp; rw [if_pos hsp])
    have HSp := Lib.hid ((isSp_iff S).1 hsp)
    go_enter Try.func21, Try.ntmps21
    go_wp2_with fail
    refine (l01Is_any ao S cap _ hn (hS.below B0)).mono ?_
    rintro e w1 ⟨rfl, hb⟩
    have c1 := kept_cell hb c0 l0
    have B1 : Below w.heap.size w w1 := B0.trans (hb.mono B0.size)
    clear hb c0 B0 l0
    go_wp2_with fail
    refine (l07Full_any ao S cap HSp.out _ (hS.below B1)).mono ?_
    rintro e w2 ⟨v, rfl, own, hb⟩
    go_wp2_with fail
    go_ret2
    exact ⟨_, by rw [HE.out]; rfl, by rw [HV.out]; exact own.rebase B1.size, B1.trans (hb.mono B1.size)⟩

end Go.Proofs.Ytecclcmndfaakaa
