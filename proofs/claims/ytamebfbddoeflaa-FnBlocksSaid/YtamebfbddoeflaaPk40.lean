/-
  Texts put together: F2, WrT9. By an AI agent.
-/
import Derived.Test.YtamebfbddoeflaaPkF1
import Derived.Test.YtamebfbddoeflaaPkWrS9
import Derived.Test.YtamebfbddoeflaaPkCode2
namespace Go.Proofs.Ytamebfbddoeflaa
open Go.RowKit Cv
set_option linter.unusedVariables false
set_option linter.unusedSimpArgs false
set_option maxRecDepth 100000

end Go.Proofs.Ytamebfbddoeflaa

namespace Go.Proofs.Ytamebfbddoeflaa
open Go.RowKit Cv
set_option linter.unusedVariables false
set_option linter.unusedSimpArgs false
set_option maxRecDepth 100000

set_option maxHeartbeats 1000000 in
theorem l09Set_any (ao : Option Addr) (S : List Int) (cap : Nat) (hn : S.length ≤ 4294967296) (ac : Option Addr) (C : List Int) (capc : Nat) (hnc : C.length ≤ 4294967296) (at' : Option Addr) (T : List Int) (capt : Nat) (hnt : T.length ≤ 4294967296) (w : World) (hS : Ints w ao S) (hC : Ints w ac C) (hT : Ints w at' T) :
    Calls Try.prog 30 #[.agg #[.slice ao S.length cap], .slice ac C.length capc, .slice at' T.length capt] w fun e w' => e = .returned (.int .i64 (eCs S C T 0)) ∧ Below w.heap.size w w' := by
  obtain ⟨W0, hW0⟩ : ∃ W0, W0 = w.alloc (.cells #[.slice ao S.length cap] 26) := ⟨_, rfl⟩
  have B0 : Below w.heap.size w W0 := by rw [hW0]; go_grown
  have c0 : W0.cell? ⟨w.heap.size, 0, none⟩ = some (.slice ao S.length cap) := by rw [hW0]; exact cell_new _ _ _
  have l0 : w.heap.size < W0.heap.size := by rw [hW0]; exact lt_alloc _ _
  have HW0 := Lib.hid hW0
  have hv := eCs_set S C T
  have hc := l09Columns_any ao S cap hn at' T capt hnt W0 (hS.below B0) (hT.below B0)
  obtain ⟨E, hE⟩ : ∃ E, E = eCs S [] T 0 := ⟨_, rfl⟩
  rw [← hE] at hv hc
  have HC := Lib.hid hc
  by_cases h1 : E = 1
  · have HF : Hid (eCs S C T 0 = 1) := Lib.hid (by rw [hv, h1, if_neg (by simp)])
    subst h1
    clear hv hc hE hW0
    go_enter Try.func30, Try.ntmps30
    go_wp2_with fail
    rw [← HW0.out]
    refine HC.out.mono ?_
    rintro e w1 ⟨rfl, hb1⟩
    go_wp2_with fail
    go_ret
    exact ⟨ret_int HF.out.symm, B0.trans (hb1.mono B0.size)⟩
  · have hSp := Lib.hid ((isSp_iff S).1 (eCs_ne1 (S := S) (C := []) (T := T) (m := 0) (by rw [← hE]; exact h1)))
    have hb : (E != 1) = true := by simpa using h1
    have HV : Hid (eCs S C T 0 = if codeB S C = false then 2 else E) := Lib.hid (by rw [hv]; cases codeB S C <;> simp [h1])
    clear hv hc hE hW0 h1
    go_enter Try.func30, Try.ntmps30
    go_wp2_with fail
    rw [← HW0.out]
    refine HC.out.mono ?_
    rintro e w1 ⟨rfl, hb1⟩
    have B1 := B0.trans (hb1.mono B0.size)
    have c1 := kept_cell hb1 c0 l0
    clear hb1 c0 l0 B0 HC
    go_wp2_with fail
    refine (l01Code_any ao S cap hSp.out ac C capc hnc _ (hS.below B1) (hC.below B1)).mono ?_
    cases hcb : codeB S C with
    | true =>
      rintro e w2 ⟨rfl, hb2⟩
      have HF : Hid (eCs S C T 0 = E) := Lib.hid (by rw [HV.out, hcb]; rfl)
      go_wp2_with fail
      go_ret
      exact ⟨ret_int HF.out.symm, B1.trans (hb2.mono B1.size)⟩
    | false =>
      rintro e w2 ⟨rfl, hb2⟩
      have HF : Hid (eCs S C T 0 = 2) := Lib.hid (by rw [HV.out, hcb]; rfl)
      go_wp2_with fail
      go_ret
      exact ⟨ret_int HF.out.symm, B1.trans (hb2.mono B1.size)⟩

set_option maxHeartbeats 2000000 in
theorem spec_WordsReached (ao : Option Addr) (S : List Int) (cap : Nat) (hn : S.length ≤ 4294967296) (ac : Option Addr) (C : List Int) (capc : Nat) (hnc : C.length ≤ 4294967296) (at' : Option Addr) (T : List Int) (capt : Nat) (hnt : T.length ≤ 4294967296) (m : Int) (hmr : -9223372036854775808 ≤ m ∧ m ≤ 9223372036854775807) (w : World) (hS : Ints w ao S) (hC : Ints w ac C) (hT : Ints w at' T) :
    Calls Try.prog 7 #[.agg #[.slice ao S.length cap], .slice ac C.length capc, .slice at' T.length capt, .int .i64 m] w fun e w' => ∃ v, e = .returned (.tuple #[v, .int .i64 (eCs S C T m)]) ∧ OwnInts w' w.heap.size v (vWr S C T m) ∧ Below w.heap.size w w' := by
  obtain ⟨W0, hW0⟩ : ∃ W0, W0 = w.alloc (.cells #[.slice ao S.length cap] 26) := ⟨_, rfl⟩
  have B0 : Below w.heap.size w W0 := by rw [hW0]; go_grown
  have c0 : W0.cell? ⟨w.heap.size, 0, none⟩ = some (.slice ao S.length cap) := by rw [hW0]; exact cell_new _ _ _
  have l0 : w.heap.size < W0.heap.size := by rw [hW0]; exact lt_alloc _ _
  have HW0 := Lib.hid hW0
  have hv := eCs_m S C T m
  have hc := l09Set_any ao S cap hn ac C capc hnc at' T capt hnt W0 (hS.below B0) (hC.below B0) (hT.below B0)
  obtain ⟨E, hE⟩ : ∃ E, E = eCs S C T 0 := ⟨_, rfl⟩
  rw [← hE] at hv hc
  have HC := Lib.hid hc
  by_cases h1 : E = 1
  · have HF : Hid (eCs S C T m = 1) := Lib.hid (by rw [hv, h1, if_neg (by simp)])
    have HV : Hid (vWr S C T m = []) := Lib.hid (by unfold vWr; rw [if_neg (by rw [HF.out]; decide)])
    subst h1
    clear hv hc hE hW0
    go_enter Try.func7, Try.ntmps7
    go_wp2_with fail
    rw [← HW0.out]
    refine HC.out.mono ?_
    rintro e w1 ⟨rfl, hb1⟩
    go_wp2_with fail
    go_ret2
    exact ⟨_, by rw [HF.out]; rfl, by rw [HV.out]; exact own_nil _ _, B0.trans (hb1.mono B0.size)⟩
  have hb : (E != 1) = true := by simpa using h1
  by_cases hm : 0 ≤ m ∧ m ≤ 8
  case neg =>
    have HF : Hid (eCs S C T m = 2) := Lib.hid (by rw [hv, if_pos ⟨h1, hm⟩])
    have HV : Hid (vWr S C T m = []) := Lib.hid (by unfold vWr; rw [if_neg (by rw [HF.out]; decide)])
    have HB : Hid (inB m 0 8 = false) := Lib.hid (by unfold inB; simp; omega)
    clear hv hc hE hW0 h1 hm
    go_enter Try.func7, Try.ntmps7
    go_wp2_with fail
    rw [← HW0.out]
    refine HC.out.mono ?_
    rintro e w1 ⟨rfl, hb1⟩
    go_wp2_with fail
    refine (l01In_any m 0 8 _).mono ?_
    rw [HB.out]
    rintro e w2 ⟨rfl, rfl⟩
    go_wp2_with fail
    go_ret2
    exact ⟨_, by rw [HF.out]; rfl, by rw [HV.out]; exact own_nil _ _, B0.trans (hb1.mono B0.size)⟩
  have HF : Hid (eCs S C T m = E) := Lib.hid (by rw [hv, if_neg (fun g => g.2 hm)])
  have HB : Hid (inB m 0 8 = true) := Lib.hid (by unfold inB; simp; omega)
  by_cases hz : E = 0
  case neg =>
    have HV : Hid (vWr S C T m = []) := Lib.hid (by unfold vWr; rw [if_neg (by rw [HF.out]; exact hz)])
    have hzn : (E != 0) = true := by simpa using hz
    clear hv hc hE hW0 h1 hm hz
    go_enter Try.func7, Try.ntmps7
    go_wp2_with fail
    rw [← HW0.out]
    refine HC.out.mono ?_
    rintro e w1 ⟨rfl, hb1⟩
    go_wp2_with fail
    refine (l01In_any m 0 8 _).mono ?_
    rw [HB.out]
    rintro e w2 ⟨rfl, rfl⟩
    go_wp2_with fail
    go_ret2
    exact ⟨_, by rw [HF.out]; rfl, by rw [HV.out]; exact own_nil _ _, B0.trans (hb1.mono B0.size)⟩
  subst hz
  have hz := HF.out
  obtain ⟨hP, hcz, hwz, h8, hm0, hm8⟩ := eCs_zero hz
  have HP := Lib.hid hP
  have HCZ := Lib.hid hcz
  have HT : Hid (∀ i, i < T.length → Wd S (gi T i)) := Lib.hid (eWords_zero hwz).2
  have hNN := nW_bd hP.sp
  obtain ⟨N, hNe⟩ : ∃ N : Nat, nW S = (N : Int) := ⟨(nW S).toNat, by omega⟩
  have hN2 : N ≤ 1024 := by omega
  have HN := Lib.hid hNe
  have HV : Hid (vWr S C T m = selL (wrB S C T m) N) := Lib.hid (by unfold vWr; rw [if_pos hz, hNe]; rfl)
  have HBD := Lib.hid (rdC_bd S C T T.length)
  have HIN : Hid (∀ u : Nat, inB (rdC S C T T.length u) 0 m = wrB S C T m u) := Lib.hid fun u => by
    unfold inB wrB
    rw [Bool.eq_iff_iff, decide_eq_true_eq, Bool.and_eq_true, decide_eq_true_eq, decide_eq_true_eq]
  clear hv hc hE hW0 h1 hm hz hP hcz hwz hNN hNe hb
  go_enter Try.func7, Try.ntmps7
  go_wp2_with fail
  rw [← HW0.out]
  refine HC.out.mono ?_
  rintro e w1 ⟨rfl, hb1⟩
  have B1 := B0.trans (hb1.mono B0.size)
  have c1 := kept_cell hb1 c0 l0
  have l1 := lt_of_below hb1 l0
  clear hb1 c0 l0 B0 HC
  go_wp2_with fail
  refine (l01In_any m 0 8 _).mono ?_
  rw [HB.out]
  rintro e w2 ⟨rfl, rfl⟩
  go_wp2_with fail
  refine (l09Reached_any ao S cap HP.out ac C capc HCZ.out at' T capt h8 HT.out N HN _ (hS.below B1) (hC.below B1) (hT.below B1)).mono ?_
  rintro e w3 ⟨v, rfl, own, hb3⟩
  have B3 := B1.trans (hb3.mono B1.size)
  obtain ⟨va, vk, rfl⟩ := own.shape
  obtain ⟨L, hL⟩ : ∃ L, L = tbZ (rdC S C T T.length) N := ⟨_, rfl⟩
  have HLn : Hid (L.length = N) := Lib.hid (by rw [hL, tbZ_len])
  have HLg : Hid (∀ u, u < N → gi L u = rdC S C T T.length u) := Lib.hid fun u hu => by rw [hL, gi_tbZ _ _ _ hu]
  rw [← hL] at own ⊢
  have hI := own_ints own
  have hs1 := B3.size
  clear hL own hb3 c1 l1 B1
  have B4 : Below w.heap.size w (w3.alloc (.cells #[] 2)) := B3.alloc hs1 _
  have own0 := own_empty w3 w.heap.size hs1 rfl
  have hI4 := hI.below ((Below.refl _ w3).alloc (Nat.le_refl _) (.cells #[] 2))
  rw [HLn.out]
  go_wp2_with fail
  go_loopw [12, 35] (fun v i wr => ∃ k : Nat, k ≤ N ∧ i = .int .i64 k ∧ OwnInts wr w3.heap.size v (selL (wrB S C T m) k) ∧ Below w3.heap.size w3 wr) (fun _ i _ => N - (intOf i).toNat)
  case atStart => exact ⟨0, Nat.zero_le _, rfl, own_empty w3 w3.heap.size (Nat.le_refl _) rfl, (Below.refl _ w3).alloc (Nat.le_refl _) _⟩
  case round =>
    clear own0 hI4 B4
    obtain ⟨k, hk, rfl, own, B⟩ := hrel
    by_cases hlt : k < N
    · obtain ⟨b, o, rfl, hbl, hcc⟩ := (hI.below B).at (i := k) (by rw [HLn.out]; exact hlt)
      have hck := hcc k (by rw [HLn.out]; exact hlt)
      rw [HLg.out k hlt] at hck
      have hst := selL_step (wrB S C T m) k
      have hin := HIN.out k
      have hle := selL_le (wrB S C T m) k
      have hlx : (selL (wrB S C T m) k).length ≤ 1073741824 := by omega
      obtain ⟨x, hx⟩ : ∃ x, x = rdC S C T T.length k := ⟨_, rfl⟩
      rw [← hx] at hck hin
      clear hcc hx hle
      cases hwb : wrB S C T m k with
      | true =>
        rw [hwb, if_pos rfl] at hst
        rw [hwb] at hin
        have HST := Lib.hid hst
        have HI2 := Lib.hid hin
        clear hst hin hwb
        go_wp2_with fail
        refine (l01In_any x 0 m _).mono ?_
        rw [HI2.out]
        rintro e w5 ⟨rfl, rfl⟩
        go_wp2_with (at_builtin; refine wpList_append_int rfl _ _ rfl w3.heap.size _ _ rfl (own.alloc _) wr.heap.size _ rfl (cell_new _ _ _) hlx (by have := B.size; simp; omega) ?_; intro v' w6 hown' hgrow)
        have B6 : Below w3.heap.size w3 w6 := grown_below (B.alloc B.size _) (by have := B.size; simp; omega) hgrow (own.alloc _) (Nat.le_refl _)
        go_roundw
        case rel => exact ⟨k + 1, by omega, by go_num, by rw [HST.out]; exact hown', B6⟩
        case measure => simp [intOf]; omega
      | false =>
        rw [hwb, if_neg (by decide), List.append_nil] at hst
        rw [hwb] at hin
        have HST := Lib.hid hst
        have HI2 := Lib.hid hin
        clear hst hin hwb
        go_wp2_with fail
        refine (l01In_any x 0 m _).mono ?_
        rw [HI2.out]
        rintro e w5 ⟨rfl, rfl⟩
        go_wp2_with fail
        go_roundw
        case rel => exact ⟨k + 1, by omega, by go_num, by rw [HST.out]; exact own, B⟩
        case measure => simp [intOf]; omega
    · have hkn : Hid (k = N) := Lib.hid (by omega)
      rw [hkn.out] at own
      go_wp2_with fail
      go_ret2
      exact ⟨_, by rw [HF.out]; try rfl, by rw [HV.out]; exact own.rebase hs1, B3.trans (B.mono hs1)⟩

end Go.Proofs.Ytamebfbddoeflaa
