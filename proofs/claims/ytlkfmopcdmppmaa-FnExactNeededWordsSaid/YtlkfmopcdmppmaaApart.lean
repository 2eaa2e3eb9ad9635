/-
  The contracts of AreApart. By an AI agent.
-/
import Derived.Test.YtlkfmopcdmppmaaNum
import Derived.Test.YtlkfmopcdmppmaaLeast
import Derived.Test.YtlkfmopcdmppmaaFam
namespace Go.Proofs.Ytlkfmopcdmppmaa
open Go.RowKit Cv
set_option linter.unusedVariables false
set_option linter.unusedSimpArgs false
set_option maxRecDepth 100000

set_option maxHeartbeats 2000000 in
/-- whether the first n words of a list are far from x -/
theorem l04Far_n (ao : Option Addr) (S : List Int) (cap : Nat) (hSp : Sp S) (ac : Option Addr) (C : List Int) (n capc : Nat) (hn : n ≤ C.length) (hl : C.length ≤ 1048576) (hC0 : ∀ i, i < C.length → 0 ≤ gi C i ∧ gi C i ≤ 9223372036854775807) (x : Int) (hx : 0 ≤ x ∧ x ≤ 9223372036854775807) (d : Int) (w : World) (hS : Ints w ao S) (hC : Ints w ac C) :
    Calls Try.prog 56 #[.agg #[.slice ao S.length cap], .slice ac n capc, .int .i64 x, .int .i64 d] w fun e w' => e = .returned (.bool (farTo S C x d n)) ∧ Below w.heap.size w w' := by
  have HSp := Lib.hid hSp
  have HC0 := Lib.hid hC0
  have hhi := hSp.hi
  obtain ⟨x0, x1⟩ := hx
  clear hSp hC0
  go_enter Try.func56, Try.ntmps56
  go_wp2_with fail
  go_loopw [9] (fun i wr => ∃ k : Nat, k ≤ n ∧ i = .int .i64 k ∧ Hid (farTo S C x d k = true) ∧ wr.cell? ⟨w.heap.size, 0, none⟩ = some (.slice ao S.length cap) ∧ w.heap.size < wr.heap.size ∧ Below w.heap.size w wr) (fun i _ => n - (intOf i).toNat)
  case atStart => exact ⟨0, Nat.zero_le _, rfl, Lib.hid rfl, cell_new _ _ _, lt_alloc _ _, by go_grown⟩
  case round =>
    obtain ⟨k, hk, rfl, HF, c, l, B⟩ := hrel
    by_cases hlt : k < n
    · obtain ⟨b, o, rfl, hbl, hc⟩ := hC.at (i := k) (by omega)
      have hck : wr.cell? ⟨b, o + k, none⟩ = some (.int .i64 (gi C k)) := kept_cell B (hc k (by omega)) hbl
      obtain ⟨y1, y2⟩ := HC0.out k (by omega)
      obtain ⟨D, hD⟩ : ∃ D, D = dist S (gi C k) x := ⟨_, rfl⟩
      have HD := Lib.hid hD
      clear hc hD
      by_cases hd : D < d
      · have hdb : decide (D < d) = true := by simpa using hd
        have HN : Hid (farTo S C x d n = false) := Lib.hid (farTo_no hlt (by rw [← HD.out]; exact hd))
        clear hd
        go_wp2_with fail
        have fc := fam_cell c
        have fk := fam_cell hck
        refine wp_region_fam (by kernel_rfl) (by kernel_rfl) ?_
        repeat (go_big_quiet_step ((go_at_call 91; exact fam_calls (HD.out ▸ l01Distance_any ao S cap hhi HSp.out.bd (gi C k) x y1 y2 x0 x1 _ (hS.below (B.trans ((fam_below _).mono B.size)))))))
        refine wpQuiet_nil ?_
        rintro _ ⟨y, rfl⟩
        have hb2 := fam_below y
        generalize fam wr y = w2 at hb2 ⊢
        clear fc fk hck
        go_wp2
        go_ret
        exact ⟨ret_bool HN.out.symm, B.trans (hb2.mono B.size)⟩
      · have hdb : decide (D < d) = false := by simpa using hd
        have HN : Hid (farTo S C x d (k + 1) = true) := Lib.hid (by rw [farTo, HF.out]; simp; rw [← HD.out]; omega)
        clear hd
        go_wp2_with fail
        have fc := fam_cell c
        have fk := fam_cell hck
        refine wp_region_fam (by kernel_rfl) (by kernel_rfl) ?_
        repeat (go_big_quiet_step ((go_at_call 91; exact fam_calls (HD.out ▸ l01Distance_any ao S cap hhi HSp.out.bd (gi C k) x y1 y2 x0 x1 _ (hS.below (B.trans ((fam_below _).mono B.size)))))))
        refine wpQuiet_nil ?_
        rintro _ ⟨y, rfl⟩
        have hb2 := fam_below y
        generalize fam wr y = w2 at hb2 ⊢
        clear fc fk hck
        go_wp2
        go_roundw
        case rel => exact ⟨k + 1, by omega, by go_num, HN, kept_cell hb2 c l, lt_of_below hb2 l, B.trans (hb2.mono B.size)⟩
        case measure => simp [intOf]; omega
    · have ek : k = n := by omega
      go_wp2
      go_ret
      exact ⟨ret_bool (by rw [← ek]; exact HF.out.symm), B⟩

set_option maxHeartbeats 2000000 in
theorem spec_AreApart (ao : Option Addr) (S : List Int) (cap : Nat) (hn : S.length ≤ 4294967296) (ac : Option Addr) (C : List Int) (capc : Nat) (hnc : C.length ≤ 4294967296 ∧ C.length ≤ capc) (d : Int) (hd : -9223372036854775808 ≤ d ∧ d ≤ 9223372036854775807) (w : World) (hS : Ints w ao S) (hC : Ints w ac C) :
    Calls Try.prog 22 #[.agg #[.slice ao S.length cap], .slice ac C.length capc, .int .i64 d] w fun e w' => e = .returned (.tuple #[.bool (vApart S C d), .int .i64 (eAp S C d)]) ∧ Below w.heap.size w w' := by
  have B0 : Below w.heap.size w (w.alloc (.cells #[.slice ao S.length cap] 28)) := by go_grown
  by_cases he : eAp S C d = 0
  · obtain ⟨hz, d1, d9⟩ := eAp_zero he
    obtain ⟨hSp, hc1, hc2⟩ := eCode_zero hz
    have hlen := code_len hSp hc1 hc2
    obtain ⟨N1, N2⟩ := nW_bd hSp
    have HSp := Lib.hid hSp
    have HC1 : Hid (∀ i, i < C.length → 0 ≤ gi C i ∧ gi C i ≤ 9223372036854775807) := Lib.hid fun i h => by have := hc1 i h; omega
    have hen : (eAp S C d != 0) = false := by simp [he]
    have HE := Lib.hid he
    have HV : Hid (vApart S C d = apTo S C d C.length) := Lib.hid (by unfold vApart; rw [if_pos he])
    clear he hz hSp hc1 hc2
    go_enter Try.func22, Try.ntmps22
    go_wp2_with fail
    refine (l04Given_any ao S cap hn ac C capc hnc.1 d _ (hS.below B0) (hC.below B0)).mono ?_
    rintro e w1 ⟨rfl, hb⟩
    have c1 := kept_cell hb (cell_new w (.slice ao S.length cap) 28) (lt_alloc _ _)
    have l1 := lt_of_below hb (lt_alloc w (.cells #[.slice ao S.length cap] 28))
    have B1 : Below w.heap.size w w1 := B0.trans (hb.mono B0.size)
    clear hb B0
    go_wp2_with fail
    go_loopw [9] (fun i wr => ∃ k : Nat, k ≤ C.length ∧ i = .int .i64 k ∧ Hid (apTo S C d k = true) ∧ wr.cell? ⟨w.heap.size, 0, none⟩ = some (.slice ao S.length cap) ∧ w.heap.size < wr.heap.size ∧ Below w.heap.size w wr) (fun i _ => C.length - (intOf i).toNat)
    case atStart => exact ⟨0, Nat.zero_le _, rfl, Lib.hid rfl, c1, l1, B1⟩
    case round =>
      clear c1 l1 B1
      obtain ⟨k, hk, rfl, HF, c, l, B⟩ := hrel
      by_cases hlt : k < C.length
      · obtain ⟨b, o, rfl, hbl, hc⟩ := hC.at (i := k) (by omega)
        have hck : wr.cell? ⟨b, o + k, none⟩ = some (.int .i64 (gi C k)) := kept_cell B (hc k (by omega)) hbl
        obtain ⟨y1, y2⟩ := HC1.out k hlt
        clear hc
        have hkc : k ≤ capc := by omega
        have hkz : (k : Int) ≤ (capc : Int) := by omega
        have hk0 : (0 : Int) ≤ (k : Int) := by omega
        cases hf : farTo S C (gi C k) d k with
        | true =>
          have HN : Hid (apTo S C d (k + 1) = true) := Lib.hid (by rw [apTo, HF.out, hf]; rfl)
          go_wp2_with fail
          have fc := fam_cell c
          have fk := fam_cell hck
          refine wp_region_fam (by kernel_rfl) (by kernel_rfl) ?_
          repeat (go_big_quiet_step ((go_at_call 56; exact fam_calls (hf ▸ l04Far_n ao S cap HSp.out (some ⟨b, o, none⟩) C k _ hk (by omega) HC1.out (gi C k) ⟨y1, y2⟩ d _ (hS.below (B.trans ((fam_below _).mono B.size))) (hC.below (B.trans ((fam_below _).mono B.size)))))))
          refine wpQuiet_nil ?_
          rintro _ ⟨y, rfl⟩
          have hb2 := fam_below y
          generalize fam wr y = w2 at hb2 ⊢
          clear fc fk hck
          go_wp2
          go_roundw
          case rel => exact ⟨k + 1, by omega, by go_num, HN, kept_cell hb2 c l, lt_of_below hb2 l, B.trans (hb2.mono B.size)⟩
          case measure => simp [intOf]; omega
        | false =>
          have HN : Hid (apTo S C d C.length = false) := Lib.hid (apTo_no hlt hf)
          go_wp2_with fail
          have fc := fam_cell c
          have fk := fam_cell hck
          refine wp_region_fam (by kernel_rfl) (by kernel_rfl) ?_
          repeat (go_big_quiet_step ((go_at_call 56; exact fam_calls (hf ▸ l04Far_n ao S cap HSp.out (some ⟨b, o, none⟩) C k _ hk (by omega) HC1.out (gi C k) ⟨y1, y2⟩ d _ (hS.below (B.trans ((fam_below _).mono B.size))) (hC.below (B.trans ((fam_below _).mono B.size)))))))
          refine wpQuiet_nil ?_
          rintro _ ⟨y, rfl⟩
          have hb2 := fam_below y
          generalize fam wr y = w2 at hb2 ⊢
          clear fc fk hck
          go_wp2
          go_ret2
          exact ⟨by rw [HE.out, HV.out, HN.out]; try rfl, B.trans (hb2.mono B.size)⟩
      · have ek : k = C.length := by omega
        go_wp2_with fail
        go_ret2
        exact ⟨by rw [HE.out, HV.out, ← ek, HF.out]; rfl, B⟩
  · have hen : (eAp S C d != 0) = true := by simpa using he
    have HV : Hid (vApart S C d = false) := Lib.hid (by unfold vApart; rw [if_neg he])
    clear he
    go_enter Try.func22, Try.ntmps22
    go_wp2_with fail
    refine (l04Given_any ao S cap hn ac C capc hnc.1 d _ (hS.below B0) (hC.below B0)).mono ?_
    rintro e w1 ⟨rfl, hb⟩
    go_wp2_with fail
    go_ret2
    exact ⟨by rw [HV.out]; try rfl, B0.trans (hb.mono B0.size)⟩

set_option maxHeartbeats 1000000 in
theorem impl_AreApart (ao : Option Addr) (S : List Int) (cap : Nat) (hn : S.length ≤ 4294967296) (ac : Option Addr) (C : List Int) (capc : Nat) (hnc : C.length ≤ 4294967296) (d : Int) (hd : -9223372036854775808 ≤ d ∧ d ≤ 9223372036854775807) (w : World) (hS : Ints w ao S) (hC : Ints w ac C) :
    Calls Try.prog 24 #[.agg #[.slice ao S.length cap], .slice ac C.length capc, .int .i64 d] w fun e w' => e = .returned (.tuple #[.bool (vApart S C d), .int .i64 (eAp S C d)]) ∧ Below w.heap.size w w' := by
  have B0 : Below w.heap.size w (w.alloc (.cells #[.slice ao S.length cap] 28)) := by go_grown
  by_cases he : eAp S C d = 0
  · obtain ⟨hz, d1, d9⟩ := eAp_zero he
    have hen : (eAp S C d != 0) = false := by simp [he]
    have HE := Lib.hid he
    have HV : Hid (vApart S C d = apTo S C d C.length) := Lib.hid (by unfold vApart; rw [if_pos he])
    have HZ := Lib.hid hz
    clear he hz
    go_enter Try.func24, Try.ntmps24
    go_wp2_with fail
    refine (apartError_any ao S cap hn ac C capc hnc d _ (hS.below B0) (hC.below B0)).mono ?_
    rintro e w1 ⟨rfl, hb⟩
    have c1 := kept_cell hb (cell_new w (.slice ao S.length cap) 28) (lt_alloc _ _)
    have B1 : Below w.heap.size w w1 := B0.trans (hb.mono B0.size)
    clear hb B0
    go_wp2_with fail
    refine (impl_LeastDistance ao S cap hn ac C capc hnc _ (hS.below B1) (hC.below B1)).mono ?_
    rintro e w2 ⟨rfl, hb2⟩
    by_cases h2 : C.length < 2
    · have HL : Hid (eLeast S C = 5) := Lib.hid (by unfold eLeast; rw [if_pos HZ.out, if_pos h2])
      have HA := Lib.hid (apart_few S C d h2)
      rw [HL.out]
      clear h2
      go_wp2_with fail
      go_ret2
      exact ⟨by rw [HE.out, HV.out, HA.out]; try rfl, B1.trans (hb2.mono B1.size)⟩
    · have HL : Hid (eLeast S C = 0) := Lib.hid (by unfold eLeast; rw [if_pos HZ.out, if_neg h2])
      have HM : Hid (vLeast S C = lstAll S C S.length C.length) := Lib.hid (by unfold vLeast; rw [if_pos HZ.out, if_neg h2])
      have HA := Lib.hid (apart_least S C d (by omega))
      rw [HL.out, HM.out]
      clear h2
      go_wp2_with fail
      go_ret2
      exact ⟨by rw [HE.out, HV.out, ← HA.out]; try rfl, B1.trans (hb2.mono B1.size)⟩
  · have hen : (eAp S C d != 0) = true := by simpa using he
    have HV : Hid (vApart S C d = false) := Lib.hid (by unfold vApart; rw [if_neg he])
    clear he
    go_enter Try.func24, Try.ntmps24
    go_wp2_with fail
    refine (apartError_any ao S cap hn ac C capc hnc d _ (hS.below B0) (hC.below B0)).mono ?_
    rintro e w1 ⟨rfl, hb⟩
    go_wp2_with fail
    go_ret2
    exact ⟨by rw [HV.out]; try rfl, B0.trans (hb.mono B0.size)⟩

end Go.Proofs.Ytlkfmopcdmppmaa
