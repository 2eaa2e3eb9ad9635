/-
  The contracts of OppositeCode. By an AI agent.
-/
import Derived.Test.YtdgbofjohinniabCode2
import Derived.Test.YtdgbofjohinniabAppend
namespace Go.Proofs.Ytdgbofjohinniab
open Go.RowKit Cv
set_option linter.unusedVariables false
set_option linter.unusedSimpArgs false
set_option maxRecDepth 100000

set_option maxHeartbeats 4000000 in
theorem spec_OppositeCode (ao : Option Addr) (S : List Int) (cap : Nat) (hn : S.length ≤ 4294967296) (ac : Option Addr) (C : List Int) (capc : Nat) (hnc : C.length ≤ 4294967296) (w : World) (hS : Ints w ao S) (hC : Ints w ac C) :
    Calls Try.prog 28 #[.agg #[.slice ao S.length cap], .slice ac C.length capc] w fun e w' => ∃ v, e = .returned (.tuple #[v, .int .i64 (eCode S C)]) ∧ OwnInts w' w.heap.size v (vOppC S C) ∧ Below w.heap.size w w' := by
  have B0 : Below w.heap.size w (w.alloc (.cells #[.slice ao S.length cap] 28)) := by go_grown
  by_cases hz : eCode S C = 0
  · obtain ⟨hSp, hc1, hc2⟩ := eCode_zero hz
    obtain ⟨N1, N2⟩ := nW_bd hSp
    have HSp := Lib.hid hSp
    have HV := Lib.hid (show vOppC S C = oppOut C (nW S).toNat from by simp only [vOppC, if_pos hz])
    have hzb : (eCode S C == 0) = true := by simp [hz]
    have hzn : (eCode S C != 0) = false := by simp [hz]
    have HZ := Lib.hid hz
    obtain ⟨N, hN⟩ : ∃ N : Nat, N = (nW S).toNat := ⟨_, rfl⟩
    have hNa : nW S ≤ (N : Int) := by omega
    have hNb : (N : Int) ≤ nW S := by omega
    have hN1 : N ≤ 1024 := by omega
    rw [← hN] at HV
    clear hz hSp hc1 hc2 hN
    go_enter Try.func28, Try.ntmps28
    go_wp2_with fail
    refine (l01Given_any ao S cap hn ac C capc hnc _ (hS.below B0) (hC.below B0)).mono ?_
    rintro e w1 ⟨rfl, hb⟩
    have c1 := kept_cell hb (cell_new w (.slice ao S.length cap) 28) (lt_alloc _ _)
    have l1 := lt_of_below hb (lt_alloc _ _)
    have B1 : Below w.heap.size w w1 := B0.trans (hb.mono B0.size)
    clear hb B0
    go_wp2_with fail
    go_loopw [7, 8, 9] (fun v t i wr => ∃ k : Nat, k ≤ N ∧ i = .int .i64 k ∧ t = .int .i64 (oppAt C k) ∧ OwnInts wr (w.heap.size + 1) v (oppOut C k) ∧ wr.cell? ⟨w.heap.size, 0, none⟩ = some (.slice ao S.length cap) ∧ w.heap.size < wr.heap.size ∧ Below w.heap.size w wr) (fun _ _ i _ => N - (intOf i).toNat)
    case atStart => exact ⟨0, Nat.zero_le _, rfl, rfl, own_empty w1 (w.heap.size + 1) (by omega) rfl, kept_cell ((Below.refl w1.heap.size w1).alloc (Nat.le_refl _) _) c1 l1, lt_of_below ((Below.refl w1.heap.size w1).alloc (Nat.le_refl _) _) l1, B1.alloc B1.size _⟩
    case round =>
      clear c1 l1 B1
      obtain ⟨k, hk, rfl, rfl, own, c, l, B⟩ := hrel
      obtain ⟨a1, a2⟩ := oppAt_le C k
      have ol := oppOut_len C k
      obtain ⟨p, hp⟩ : ∃ p, p = oppAt C k := ⟨_, rfl⟩
      rw [← hp] at a1 a2 ⊢
      have HP := Lib.hid hp
      clear hp
      by_cases hlt : k < N
      · go_wp2_with fail
        refine (l01N_sp ao S cap _ HSp.out (hS.below B)).mono ?_
        rintro e w2 ⟨rfl, hb⟩
        replace c := kept_cell hb c l
        replace l := lt_of_below hb l
        replace own := own.below hb
        replace B := B.trans (hb.mono B.size)
        clear hb
        by_cases hat : p < C.length
        · obtain ⟨b, o, rfl, hbl, hc⟩ := hC.at hat
          have hck : w2.cell? ⟨b, o + p, none⟩ = some (.int .i64 (gi C p)) := kept_cell B (hc p hat) hbl
          clear hc
          by_cases heq : gi C p = (k : Int)
          · have hq : (gi C p == (k : Int)) = true := by simp [heq]
            have H1 : Hid (oppAt C (k + 1) = p + 1) := Lib.hid (by simp only [oppAt, ← HP.out]; rw [if_pos ⟨hat, heq⟩])
            have H2 : Hid (oppOut C (k + 1) = oppOut C k) := Lib.hid (by simp only [oppOut, ← HP.out]; rw [if_pos ⟨hat, heq⟩])
            clear heq
            go_wp2_with fail
            go_roundw
            case rel => exact ⟨k + 1, by omega, by go_num, by rw [H1.out]; go_num, by rw [H2.out]; exact own, c, l, B⟩
            case measure => simp [intOf]; omega
          · have hq : (gi C p == (k : Int)) = false := by simpa using heq
            have H1 : Hid (oppAt C (k + 1) = p) := Lib.hid (by simp only [oppAt, ← HP.out]; rw [if_neg (fun h => heq h.2)])
            have H2 : Hid (oppOut C (k + 1) = oppOut C k ++ [(k : Int)]) := Lib.hid (by simp only [oppOut, ← HP.out]; rw [if_neg (fun h => heq h.2)])
            clear heq
            go_wp2_with (at_builtin; refine wpList_append_int rfl _ _ rfl (w.heap.size + 1) _ _ rfl (own.alloc _) w2.heap.size _ rfl (cell_new _ _ _) (by omega) (by simp; omega) ?_; intro v' w4 hown' hgrow)
            have hgb := grown_below (B.alloc B.size _) (by simp; omega) hgrow (own.alloc _) (Nat.le_succ _)
            have hc4 := hgrow.cell (a := ⟨w.heap.size, 0, none⟩) (kept_cell ((Below.refl w2.heap.size w2).alloc (Nat.le_refl _) _) c l) (fun e => by have := World.ownsRow.lt own _ e.symm; simp at this; omega)
            have hl4 : w.heap.size < w4.heap.size := by have := hgrow.size; simp at this; omega
            clear own hgrow
            go_wp2_with fail
            go_roundw
            case rel => exact ⟨k + 1, by omega, by go_num, by rw [H1.out], by rw [H2.out]; exact hown', hc4, hl4, hgb⟩
            case measure => simp [intOf]; omega
        · have H1 : Hid (oppAt C (k + 1) = p) := Lib.hid (by simp only [oppAt, ← HP.out]; rw [if_neg (fun h => hat h.1)])
          have H2 : Hid (oppOut C (k + 1) = oppOut C k ++ [(k : Int)]) := Lib.hid (by simp only [oppOut, ← HP.out]; rw [if_neg (fun h => hat h.1)])
          go_wp2_with (at_builtin; refine wpList_append_int rfl _ _ rfl (w.heap.size + 1) _ _ rfl (own.alloc _) w2.heap.size _ rfl (cell_new _ _ _) (by omega) (by simp; omega) ?_; intro v' w4 hown' hgrow)
          have hgb := grown_below (B.alloc B.size _) (by simp; omega) hgrow (own.alloc _) (Nat.le_succ _)
          have hc4 := hgrow.cell (a := ⟨w.heap.size, 0, none⟩) (kept_cell ((Below.refl w2.heap.size w2).alloc (Nat.le_refl _) _) c l) (fun e => by have := World.ownsRow.lt own _ e.symm; simp at this; omega)
          have hl4 : w.heap.size < w4.heap.size := by have := hgrow.size; simp at this; omega
          clear own hgrow
          go_wp2_with fail
          go_roundw
          case rel => exact ⟨k + 1, by omega, by go_num, by rw [H1.out], by rw [H2.out]; exact hown', hc4, hl4, hgb⟩
          case measure => simp [intOf]; omega
      · have ek : Hid (k = N) := Lib.hid (by omega)
        go_wp2_with fail
        refine (l01N_sp ao S cap _ HSp.out (hS.below B)).mono ?_
        rintro e w2 ⟨rfl, hb⟩
        replace c := kept_cell hb c l
        replace l := lt_of_below hb l
        replace own := own.below hb
        replace B := B.trans (hb.mono B.size)
        clear hb
        go_wp2_with fail
        go_ret2
        exact ⟨_, by rw [HZ.out]; rfl, by rw [HV.out, ← ek.out]; exact own.rebase (Nat.le_succ _), B⟩
  · have HV := Lib.hid (show vOppC S C = [] from by simp only [vOppC, if_neg hz])
    have hzb : (eCode S C == 0) = false := by simpa using hz
    have hzn : (eCode S C != 0) = true := by simpa using hz
    clear hz
    go_enter Try.func28, Try.ntmps28
    go_wp2_with fail
    refine (l01Given_any ao S cap hn ac C capc hnc _ (hS.below B0) (hC.below B0)).mono ?_
    rintro e w1 ⟨rfl, hb⟩
    go_wp2_with fail
    go_ret2
    exact ⟨_, rfl, by rw [HV.out]; exact own_nil _ _, B0.trans (hb.mono B0.size)⟩

set_option maxHeartbeats 4000000 in
theorem impl_OppositeCode (ao : Option Addr) (S : List Int) (cap : Nat) (hn : S.length ≤ 4294967296) (ac : Option Addr) (C : List Int) (capc : Nat) (hnc : C.length ≤ 4294967296) (w : World) (hS : Ints w ao S) (hC : Ints w ac C) :
    Calls Try.prog 29 #[.agg #[.slice ao S.length cap], .slice ac C.length capc] w fun e w' => ∃ v, e = .returned (.tuple #[v, .int .i64 (eCode S C)]) ∧ OwnInts w' w.heap.size v (vOppC S C) ∧ Below w.heap.size w w' := by
  have B0 : Below w.heap.size w (w.alloc (.cells #[.slice ao S.length cap] 28)) := by go_grown
  by_cases hz : eCode S C = 0
  · obtain ⟨hSp, hc1, hc2⟩ := eCode_zero hz
    obtain ⟨N1, N2⟩ := nW_bd hSp
    have HSp := Lib.hid hSp
    have HV := Lib.hid (show vOppC S C = oppOut C (nW S).toNat from by simp only [vOppC, if_pos hz])
    have hzb : (eCode S C == 0) = true := by simp [hz]
    have hzn : (eCode S C != 0) = false := by simp [hz]
    have HZ := Lib.hid hz
    obtain ⟨N, hN⟩ : ∃ N : Nat, N = (nW S).toNat := ⟨_, rfl⟩
    have hNa : nW S ≤ (N : Int) := by omega
    have hNb : (N : Int) ≤ nW S := by omega
    have hN1 : N ≤ 1024 := by omega
    rw [← hN] at HV
    clear hz hSp hc1 hc2 hN
    go_enter Try.func29, Try.ntmps29
    go_wp2_with fail
    refine (codeError_any ao S cap hn ac C capc hnc _ (hS.below B0) (hC.below B0)).mono ?_
    rintro e w1 ⟨rfl, hb⟩
    have c1 := kept_cell hb (cell_new w (.slice ao S.length cap) 28) (lt_alloc _ _)
    have l1 := lt_of_below hb (lt_alloc _ _)
    have B1 : Below w.heap.size w w1 := B0.trans (hb.mono B0.size)
    clear hb B0
    go_wp2_with fail
    refine (wordCount_sp ao S cap _ HSp.out (hS.below (B1.alloc B1.size _))).mono ?_
    rintro e w3 ⟨rfl, hb⟩
    have hq : Below w1.heap.size w1 w3 := Below.trans ((Below.refl _ w1).alloc (Nat.le_refl _) _) (hb.mono (by simp))
    have own := (own_empty w1 (w.heap.size + 1) (by omega) rfl).below hb
    replace c1 := kept_cell hq c1 l1
    replace l1 := lt_of_below hq l1
    replace B1 := B1.trans (hq.mono B1.size)
    clear hb hq
    go_wp2_with fail
    go_loopw [7, 8, 19] (fun v t i wr => ∃ k : Nat, k ≤ N ∧ i = .int .i64 k ∧ t = .int .i64 (oppAt C k) ∧ OwnInts wr (w.heap.size + 1) v (oppOut C k) ∧ wr.cell? ⟨w.heap.size, 0, none⟩ = some (.slice ao S.length cap) ∧ w.heap.size < wr.heap.size ∧ Below w.heap.size w wr) (fun _ _ i _ => N - (intOf i).toNat)
    case atStart => exact ⟨0, Nat.zero_le _, rfl, rfl, own, c1, l1, B1⟩
    case round =>
      clear c1 l1 B1 own
      obtain ⟨k, hk, rfl, rfl, own, c, l, B⟩ := hrel
      obtain ⟨a1, a2⟩ := oppAt_le C k
      have ol := oppOut_len C k
      obtain ⟨p, hp⟩ : ∃ p, p = oppAt C k := ⟨_, rfl⟩
      rw [← hp] at a1 a2 ⊢
      have HP := Lib.hid hp
      clear hp
      by_cases hlt : k < N
      · 
        by_cases hat : p < C.length
        · obtain ⟨b, o, rfl, hbl, hc⟩ := hC.at hat
          have hck : wr.cell? ⟨b, o + p, none⟩ = some (.int .i64 (gi C p)) := kept_cell B (hc p hat) hbl
          clear hc
          by_cases heq : gi C p = (k : Int)
          · have hq : (gi C p == (k : Int)) = true := by simp [heq]
            have H1 : Hid (oppAt C (k + 1) = p + 1) := Lib.hid (by simp only [oppAt, ← HP.out]; rw [if_pos ⟨hat, heq⟩])
            have H2 : Hid (oppOut C (k + 1) = oppOut C k) := Lib.hid (by simp only [oppOut, ← HP.out]; rw [if_pos ⟨hat, heq⟩])
            clear heq
            go_wp2_with fail
            go_roundw
            case rel => exact ⟨k + 1, by omega, by go_num, by rw [H1.out]; go_num, by rw [H2.out]; exact own, c, l, B⟩
            case measure => simp [intOf]; omega
          · have hq : (gi C p == (k : Int)) = false := by simpa using heq
            have H1 : Hid (oppAt C (k + 1) = p) := Lib.hid (by simp only [oppAt, ← HP.out]; rw [if_neg (fun h => heq h.2)])
            have H2 : Hid (oppOut C (k + 1) = oppOut C k ++ [(k : Int)]) := Lib.hid (by simp only [oppOut, ← HP.out]; rw [if_neg (fun h => heq h.2)])
            clear heq
            go_wp2_with (at_builtin; refine wpList_append_int rfl _ _ rfl (w.heap.size + 1) _ _ rfl (own.alloc _) wr.heap.size _ rfl (cell_new _ _ _) (by omega) (by simp; omega) ?_; intro v' w4 hown' hgrow)
            have hgb := grown_below (B.alloc B.size _) (by simp; omega) hgrow (own.alloc _) (Nat.le_succ _)
            have hc4 := hgrow.cell (a := ⟨w.heap.size, 0, none⟩) (kept_cell ((Below.refl wr.heap.size wr).alloc (Nat.le_refl _) _) c l) (fun e => by have := World.ownsRow.lt own _ e.symm; simp at this; omega)
            have hl4 : w.heap.size < w4.heap.size := by have := hgrow.size; simp at this; omega
            clear own hgrow
            go_wp2_with fail
            go_roundw
            case rel => exact ⟨k + 1, by omega, by go_num, by rw [H1.out], by rw [H2.out]; exact hown', hc4, hl4, hgb⟩
            case measure => simp [intOf]; omega
        · have H1 : Hid (oppAt C (k + 1) = p) := Lib.hid (by simp only [oppAt, ← HP.out]; rw [if_neg (fun h => hat h.1)])
          have H2 : Hid (oppOut C (k + 1) = oppOut C k ++ [(k : Int)]) := Lib.hid (by simp only [oppOut, ← HP.out]; rw [if_neg (fun h => hat h.1)])
          go_wp2_with (at_builtin; refine wpList_append_int rfl _ _ rfl (w.heap.size + 1) _ _ rfl (own.alloc _) wr.heap.size _ rfl (cell_new _ _ _) (by omega) (by simp; omega) ?_; intro v' w4 hown' hgrow)
          have hgb := grown_below (B.alloc B.size _) (by simp; omega) hgrow (own.alloc _) (Nat.le_succ _)
          have hc4 := hgrow.cell (a := ⟨w.heap.size, 0, none⟩) (kept_cell ((Below.refl wr.heap.size wr).alloc (Nat.le_refl _) _) c l) (fun e => by have := World.ownsRow.lt own _ e.symm; simp at this; omega)
          have hl4 : w.heap.size < w4.heap.size := by have := hgrow.size; simp at this; omega
          clear own hgrow
          go_wp2_with fail
          go_roundw
          case rel => exact ⟨k + 1, by omega, by go_num, by rw [H1.out], by rw [H2.out]; exact hown', hc4, hl4, hgb⟩
          case measure => simp [intOf]; omega
      · have ek : Hid (k = N) := Lib.hid (by omega)
        go_wp2_with fail
        go_ret2
        exact ⟨_, by rw [HZ.out]; rfl, by rw [HV.out, ← ek.out]; exact own.rebase (Nat.le_succ _), B⟩
  · have HV := Lib.hid (show vOppC S C = [] from by simp only [vOppC, if_neg hz])
    have hzb : (eCode S C == 0) = false := by simpa using hz
    have hzn : (eCode S C != 0) = true := by simpa using hz
    clear hz
    go_enter Try.func29, Try.ntmps29
    go_wp2_with fail
    refine (codeError_any ao S cap hn ac C capc hnc _ (hS.below B0) (hC.below B0)).mono ?_
    rintro e w1 ⟨rfl, hb⟩
    go_wp2_with fail
    go_ret2
    exact ⟨_, rfl, by rw [HV.out]; exact own_nil _ _, B0.trans (hb.mono B0.size)⟩

end Go.Proofs.Ytdgbofjohinniab
