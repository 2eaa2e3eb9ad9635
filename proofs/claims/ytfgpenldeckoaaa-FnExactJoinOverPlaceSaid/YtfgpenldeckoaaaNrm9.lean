/-
  The contracts of NormAt and ReachesOf, in the program and in the model. By an AI agent.
-/
import Derived.Test.YtfgpenldeckoaaaRch9
import Derived.Test.YtfgpenldeckoaaaAllW
import Derived.Test.YtfgpenldeckoaaaPlc
import Derived.Test.YtfgpenldeckoaaaErr
import Derived.Test.YtfgpenldeckoaaaMark
import Derived.Deep.RegionHeld3
namespace Go.Proofs.Ytfgpenldeckoaaa
open Go.RowKit Cv
set_option linter.unusedVariables false
set_option linter.unusedSimpArgs false
set_option maxRecDepth 100000

theorem l01N_natz (ao : Option Addr) (S : List Int) (cap : Nat) (N : Nat) (hN : Hid (nW S = (N : Int))) (w : World) (h : Sp S) (hS : Ints w ao S) :
    Calls Try.prog 60 #[.agg #[.slice ao S.length cap]] w fun e w' => e = .returned (.int .i64 (N : Int)) ∧ Below w.heap.size w w' := by
  rw [← hN.out]; exact l01N_sp ao S cap w h hS

set_option maxHeartbeats 1000000 in
theorem l09Norm_any (ao : Option Addr) (S : List Int) (cap : Nat) (hSp : Sp S) (ac : Option Addr) (C : List Int) (capc : Nat) (hnc : C.length ≤ 1048576) (hC0 : ∀ k, k < C.length → 0 ≤ gi C k ∧ gi C k ≤ 9223372036854775807) (i : Nat) (hi : i < S.length) (w : World) (hS : Ints w ao S) (hC : Ints w ac C) :
    Calls Try.prog 51 #[.agg #[.slice ao S.length cap], .slice ac C.length capc, .int .i64 (i : Int)] w fun e w' =>
      e = .returned (.int .i64 (nrm S C i)) ∧ Below w.heap.size w w' := by
  have hN := nW_bd hSp
  obtain ⟨N, hNe⟩ : ∃ N : Nat, nW S = (N : Int) := ⟨(nW S).toNat, by omega⟩
  have N1 : N ≤ 1024 := by omega
  have HN := Lib.hid hNe
  have HV : Hid (nrK S C i N = nrm S C i) := Lib.hid (by unfold nrm; rw [hNe]; rfl)
  have hq := hSp.bd i hi
  obtain ⟨Q, hQe⟩ : ∃ Q : Nat, gi S i = (Q : Int) := ⟨(gi S i).toNat, by omega⟩
  have HQ := Lib.hid hQe
  have q2 : Q ≤ 4 := by omega
  have HQt : Hid ((gi S i).toNat = Q) := Lib.hid (by omega)
  have HSp := Lib.hid hSp
  have HC0 := Lib.hid hC0
  have B0 : Below w.heap.size w (w.alloc (.cells #[.slice ao S.length cap] 28)) := by go_grown
  have c0 := cell_new w (.slice ao S.length cap) 28
  have l0 := lt_alloc w (.cells #[.slice ao S.length cap] 28)
  clear hSp hC0 hq hN hNe hQe
  go_enter Try.func51, Try.ntmps51
  go_wp2_with fail
  go_loopw [7, 8] (fun t u wr => ∃ k : Nat, k ≤ N ∧ u = .int .i64 k ∧ t = .int .i64 (nrK S C i k) ∧ wr.cell? ⟨w.heap.size, 0, none⟩ = some (.slice ao S.length cap) ∧ w.heap.size < wr.heap.size ∧ Below w.heap.size w wr) (fun _ u _ => N - (intOf u).toNat)
  case atStart => exact ⟨0, Nat.zero_le _, rfl, rfl, c0, l0, B0⟩
  case round =>
    clear c0 l0 B0
    obtain ⟨k, hk, rfl, rfl, c, l, B⟩ := hrel
    go_wp2_with fail
    refine (l01N_natz ao S cap N HN _ HSp.out (hS.below B)).mono ?_
    rintro e w1 ⟨rfl, hb⟩
    replace c := kept_cell hb c l
    replace l := lt_of_below hb l
    replace B := B.trans (hb.mono B.size)
    clear hb
    by_cases hlt : k < N
    · have hkb : (k : Int) ≤ 1024 := by omega
      obtain ⟨n1, n2⟩ := nrK_bd S C i HSp.out hi k
      obtain ⟨s1, s2⟩ := rcS_bd S C i (k : Int) HSp.out hi
      have HR : Hid (nrK S C i (k + 1) = max (nrK S C i k) (rcS S C i (k : Int))) := Lib.hid rfl
      go_wp2_with fail
      refine (l09Reaches_any ao S cap HSp.out ac C capc hnc HC0.out i hi Q HQ (k : Int) ⟨by omega, by omega⟩ _ (hS.below B) (hC.below B)).mono ?_
      rintro e w2 ⟨q, rfl, hown, hb⟩
      replace c := kept_cell hb c l
      replace l := lt_of_below hb l
      replace B := B.trans (hb.mono B.size)
      clear hb
      go_wp2_with fail
      go_loopw [10, 25] (fun t j wr => ∃ m : Nat, m ≤ Q ∧ j = .int .i64 m ∧ t = .int .i64 (lsT (rcL S C i (k : Int) C.length) m) ∧ wr = w2) (fun _ j _ => Q - (intOf j).toNat)
      case atStart => exact ⟨0, Nat.zero_le _, rfl, rfl, rfl⟩
      case round =>
        obtain ⟨m, hm, rfl, rfl, rfl⟩ := hrel
        by_cases hlm : m < Q
        · have hcell := hown.cell (k := m) (by rw [rcL_len, HQt.out]; exact hlm)
          obtain ⟨t1, t2⟩ := lsT_rc_bd S C i (k : Int) HSp.out hi m (by rw [HQt.out]; omega)
          have t3 := lsT_rc_bd S C i (k : Int) HSp.out hi (m + 1) (by rw [HQt.out]; omega)
          have HE : Hid (lsT (rcL S C i (k : Int) C.length) (m + 1) = lsT (rcL S C i (k : Int) C.length) m + gi (rcL S C i (k : Int) C.length) m) := Lib.hid rfl
          rw [HE.out] at t3
          go_wp2_with fail
          go_roundw
          case rel => exact ⟨m + 1, by omega, by go_num, by rw [HE.out], trivial⟩
          case measure => simp [intOf]; omega
        · have em : m = Q := by omega
          have HF : Hid (lsT (rcL S C i (k : Int) C.length) m = rcS S C i (k : Int)) := Lib.hid (by rw [em]; unfold rcS; rw [HQt.out])
          rw [HF.out]
          go_wp2_with fail
          go_roundw
          case rel => exact ⟨k + 1, by omega, by go_num, by rw [HR.out], c, l, B⟩
          case measure => simp [intOf]; omega
    · have ek : k = N := by omega
      subst ek
      go_wp2_with fail
      go_ret
      exact ⟨ret_int HV.out, B⟩

theorem PartsAt.rebase {w : World} {base base' P g : Nat} {S T U : List Int} (h : PartsAt w base P g S T U) (hb : base' ≤ base) : PartsAt w base' P g S T U :=
  ⟨h.len, h.dg, h.own.rebase hb, h.row, Nat.le_trans hb h.bp, h.pl, h.ne⟩

set_option maxHeartbeats 1000000 in
theorem normAt_any (ao : Option Addr) (S : List Int) (cap : Nat) (hSp : Sp S) (ac : Option Addr) (C : List Int) (capc : Nat) (hnc : C.length ≤ 1048576) (hC0 : ∀ k, k < C.length → 0 ≤ gi C k ∧ gi C k ≤ 9223372036854775807) (i : Nat) (hi : i < S.length) (w : World) (hS : Ints w ao S) (hC : Ints w ac C) :
    Calls Try.prog 52 #[.agg #[.slice ao S.length cap], .slice ac C.length capc, .int .i64 (i : Int)] w fun e w' =>
      e = .returned (.int .i64 (nrm S C i)) ∧ Below w.heap.size w w' := by
  have hN := nW_bd hSp
  obtain ⟨N, hNe⟩ : ∃ N : Nat, nW S = (N : Int) := ⟨(nW S).toNat, by omega⟩
  have N1 : N ≤ 1024 := by omega
  have HN := Lib.hid hNe
  have HV : Hid (nrK S C i N = nrm S C i) := Lib.hid (by unfold nrm; rw [hNe]; rfl)
  have hq := hSp.bd i hi
  obtain ⟨Q, hQe⟩ : ∃ Q : Nat, gi S i = (Q : Int) := ⟨(gi S i).toNat, by omega⟩
  have HQ := Lib.hid hQe
  have q2 : Q ≤ 4 := by omega
  have HQt : Hid ((gi S i).toNat = Q) := Lib.hid (by omega)
  have HSp := Lib.hid hSp
  have hlo := hSp.lo
  have hhi := hSp.hi
  have HC0 := Lib.hid hC0
  have HU : Hid (∀ k, k < (upto N).length → 0 ≤ gi (upto N) k ∧ gi (upto N) k ≤ 9223372036854775807) := Lib.hid fun k hk => by
    rw [upto_len] at hk; rw [gi_upto _ _ hk]; omega
  have B0 : Below w.heap.size w (w.alloc (.cells #[.slice ao S.length cap] 28)) := by go_grown
  have c0 := cell_new w (.slice ao S.length cap) 28
  have l0 := lt_alloc w (.cells #[.slice ao S.length cap] 28)
  clear hSp hC0 hq hN hNe hQe
  go_enter Try.func52, Try.ntmps52
  go_wp2_with fail
  refine (digitParts_any ao S cap hlo hhi HSp.out.bd ac C capc (by omega) HC0.out _ (hS.below B0) (hC.below B0)).mono ?_
  rintro e w1 ⟨P, g, U, rfl, hp, hb⟩
  have c1 := kept_cell hb c0 l0
  have l1 := lt_of_below hb l0
  have B1 := B0.trans (hb.mono B0.size)
  clear hb c0 l0 B0
  go_wp2_with fail
  go_region_held3 (fun w' => w'.cell? ⟨w.heap.size, 0, none⟩ = some (.slice ao S.length cap)) (first | exact c1 | exact kept_cell hb2 c1 l1 | exact kept_cell hb3 (kept_cell hb2 c1 l1) (lt_of_below hb2 l1)) (first | (go_at_call 79; refine (allWords_any ao S cap HSp.out N HN _ (hS.below B1.drew)).mono ?_; rintro e w2 ⟨qa, rfl, owna, hb2'⟩; have hb2 : Below w1.heap.size w1 w2 := (Below.refl _ w1).drew.trans hb2'; have B2 := B1.trans (hb2.mono B1.size)) | (go_at_call 50; refine (digitParts_n ao S cap hlo hhi HSp.out.bd _ (upto N) N _ (upto_len N).symm (by omega) HU.out _ (hS.below B2) (own_ints owna)).mono ?_; rintro e w3 ⟨P3, g3, U3, rfl, hp3, hb3⟩))
  have c3 := kept_cell hb3 (kept_cell hb2 c1 l1) (lt_of_below hb2 l1)
  have l3 := lt_of_below hb3 (lt_of_below hb2 l1)
  have B3 := B2.trans (hb3.mono B2.size)
  replace hp := (hp.below hb2).below hb3
  have s2 := B2.size
  clear hb2 hb3 c1 l1 B1 B2 owna hb2'
  go_wp2_with fail
  go_loopw [7, 22] (fun t u wr => ∃ k : Nat, k ≤ N ∧ u = .int .i64 k ∧ t = .int .i64 (nrK S C i k) ∧ wr.cell? ⟨w.heap.size, 0, none⟩ = some (.slice ao S.length cap) ∧ w.heap.size < wr.heap.size ∧ PartsAt wr w.heap.size P g S C U ∧ PartsAt wr w.heap.size P3 g3 S (upto N) U3 ∧ Below w.heap.size w wr) (fun _ u _ => N - (intOf u).toNat)
  case atStart => exact ⟨0, Nat.zero_le _, rfl, rfl, c3, l3, hp.rebase (by simp), hp3.rebase (by omega), B3⟩
  case round =>
    clear c3 l3 B3 hp hp3
    obtain ⟨k, hk, rfl, rfl, c, l, hp, hp3, B⟩ := hrel
    by_cases hlt : k < N
    · have hkb : (k : Int) ≤ 1024 := by omega
      obtain ⟨n1, n2⟩ := nrK_bd S C i HSp.out hi k
      obtain ⟨s1, s2⟩ := rcS_bd S C i (k : Int) HSp.out hi
      have HR : Hid (nrK S C i (k + 1) = max (nrK S C i k) (rcS S C i (k : Int))) := Lib.hid rfl
      have hrk := hp3.row k (by rw [upto_len]; exact hlt)
      have hik := hp3.ints (k := k) (by rw [upto_len]; exact hlt)
      rw [gi_upto _ _ hlt] at hik
      go_wp2_with fail
      refine (reaches_any ao S cap HSp.out w.heap.size P g C U _ rfl hnc i hi Q HQ (k : Int) _ _ _ rfl _ (hS.below B) hp hik).mono ?_
      rintro e w2 ⟨q, rfl, hown, hb⟩
      replace c := kept_cell hb c l
      replace l := lt_of_below hb l
      replace B := B.trans (hb.mono B.size)
      replace hp := hp.below hb
      replace hp3 := hp3.below hb
      clear hb hrk hik
      go_wp2_with fail
      go_loopw [11, 32] (fun t j wr => ∃ m : Nat, m ≤ Q ∧ j = .int .i64 m ∧ t = .int .i64 (lsT (rcL S C i (k : Int) C.length) m) ∧ wr = w2) (fun _ j _ => Q - (intOf j).toNat)
      case atStart => exact ⟨0, Nat.zero_le _, rfl, rfl, rfl⟩
      case round =>
        obtain ⟨m, hm, rfl, rfl, rfl⟩ := hrel
        by_cases hlm : m < Q
        · have hcell := hown.cell (k := m) (by rw [rcL_len, HQt.out]; exact hlm)
          obtain ⟨t1, t2⟩ := lsT_rc_bd S C i (k : Int) HSp.out hi m (by rw [HQt.out]; omega)
          have t3 := lsT_rc_bd S C i (k : Int) HSp.out hi (m + 1) (by rw [HQt.out]; omega)
          have HE : Hid (lsT (rcL S C i (k : Int) C.length) (m + 1) = lsT (rcL S C i (k : Int) C.length) m + gi (rcL S C i (k : Int) C.length) m) := Lib.hid rfl
          rw [HE.out] at t3
          go_wp2_with fail
          go_roundw
          case rel => exact ⟨m + 1, by omega, by go_num, by rw [HE.out], trivial⟩
          case measure => simp [intOf]; omega
        · have em : m = Q := by omega
          have HF : Hid (lsT (rcL S C i (k : Int) C.length) m = rcS S C i (k : Int)) := Lib.hid (by rw [em]; unfold rcS; rw [HQt.out])
          rw [HF.out]
          go_wp2_with fail
          go_roundw
          case rel => exact ⟨k + 1, by omega, by go_num, by rw [HR.out], c, l, hp, hp3, B⟩
          case measure => simp [intOf]; omega
    · have ek : k = N := by omega
      subst ek
      go_wp2_with fail
      go_ret
      exact ⟨ret_int HV.out, B⟩



-- the exact functions
set_option maxHeartbeats 1000000 in
theorem spec_NormAt (ao : Option Addr) (S : List Int) (cap : Nat) (hn : S.length ≤ 4294967296) (ac : Option Addr) (C : List Int) (capc : Nat) (hnc : C.length ≤ 4294967296) (i : Int) (hi : -9223372036854775808 ≤ i ∧ i ≤ 9223372036854775807) (w : World) (hS : Ints w ao S) (hC : Ints w ac C) :
    Calls Try.prog 22 #[.agg #[.slice ao S.length cap], .slice ac C.length capc, .int .i64 i] w fun e w' => e = .returned (.tuple #[.int .i64 (vNrm S C i), .int .i64 (ePlc S C i)]) ∧ Below w.heap.size w w' := by
  obtain ⟨W0, hW0⟩ : ∃ W0, W0 = w.alloc (.cells #[.slice ao S.length cap] 28) := ⟨_, rfl⟩
  have B0 : Below w.heap.size w W0 := by rw [hW0]; go_grown
  have c0 : W0.cell? ⟨w.heap.size, 0, none⟩ = some (.slice ao S.length cap) := by rw [hW0]; exact cell_new _ _ _
  have l0 : w.heap.size < W0.heap.size := by rw [hW0]; exact lt_alloc _ _
  have HW0 := Lib.hid hW0
  have hpe := l03Place_any ao S cap hn ac C capc hnc i W0 (hS.below B0) (hC.below B0)
  by_cases hz : ePlc S C i = 0
  · rw [hz] at hpe
    obtain ⟨h1, h2, h3⟩ := ePlc_zero hz
    obtain ⟨hSp, hc1, _⟩ := eCode_zero h1
    have hcl := code_len0 h1
    have hN := nW_bd hSp
    obtain ⟨j, rfl⟩ : ∃ j : Nat, i = (j : Int) := ⟨i.toNat, by omega⟩
    have hj : j < S.length := by omega
    have HC1 : Hid (∀ k, k < C.length → 0 ≤ gi C k ∧ gi C k ≤ 9223372036854775807) := Lib.hid fun k hk => by have := hc1 k hk; omega
    have HSp := Lib.hid hSp
    have HZ := Lib.hid hz
    have HV : Hid (vNrm S C (j : Int) = nrm S C j) := Lib.hid (by unfold vNrm; rw [if_pos hz]; rfl)
    have HPE := Lib.hid hpe
    clear hz hpe h1 hSp hc1 hW0 hN
    go_enter Try.func22, Try.ntmps22
    go_wp2_with fail
    rw [← HW0.out]
    refine HPE.out.mono ?_
    rintro e w1 ⟨rfl, hb1⟩
    have c1 := kept_cell hb1 c0 l0
    have B1 := B0.trans (hb1.mono B0.size)
    clear hb1 c0 l0 B0
    go_wp2_with fail
    refine (l09Norm_any ao S cap HSp.out ac C capc (by omega) HC1.out j hj _ (hS.below B1) (hC.below B1)).mono ?_
    rintro e w2 ⟨rfl, hb2⟩
    go_wp2_with fail
    go_ret2
    exact ⟨by rw [HZ.out, HV.out]; rfl, B1.trans (hb2.mono B1.size)⟩
  · have hzn : (ePlc S C i != 0) = true := by simpa using hz
    have HV : Hid (vNrm S C i = 0) := Lib.hid (by unfold vNrm; rw [if_neg hz])
    have HPE := Lib.hid hpe
    clear hz hpe hW0
    go_enter Try.func22, Try.ntmps22
    go_wp2_with fail
    rw [← HW0.out]
    refine HPE.out.mono ?_
    rintro e w1 ⟨rfl, hb1⟩
    go_wp2_with fail
    go_ret2
    exact ⟨by rw [HV.out]; rfl, B0.trans (hb1.mono B0.size)⟩

set_option maxHeartbeats 1000000 in
theorem impl_NormAt (ao : Option Addr) (S : List Int) (cap : Nat) (hn : S.length ≤ 4294967296) (ac : Option Addr) (C : List Int) (capc : Nat) (hnc : C.length ≤ 4294967296) (i : Int) (hi : -9223372036854775808 ≤ i ∧ i ≤ 9223372036854775807) (w : World) (hS : Ints w ao S) (hC : Ints w ac C) :
    Calls Try.prog 23 #[.agg #[.slice ao S.length cap], .slice ac C.length capc, .int .i64 i] w fun e w' => e = .returned (.tuple #[.int .i64 (vNrm S C i), .int .i64 (ePlc S C i)]) ∧ Below w.heap.size w w' := by
  obtain ⟨W0, hW0⟩ : ∃ W0, W0 = w.alloc (.cells #[.slice ao S.length cap] 28) := ⟨_, rfl⟩
  have B0 : Below w.heap.size w W0 := by rw [hW0]; go_grown
  have c0 : W0.cell? ⟨w.heap.size, 0, none⟩ = some (.slice ao S.length cap) := by rw [hW0]; exact cell_new _ _ _
  have l0 : w.heap.size < W0.heap.size := by rw [hW0]; exact lt_alloc _ _
  have HW0 := Lib.hid hW0
  have hpe := placeError_any ao S cap hn ac C capc hnc i W0 (hS.below B0) (hC.below B0)
  by_cases hz : ePlc S C i = 0
  · rw [hz] at hpe
    obtain ⟨h1, h2, h3⟩ := ePlc_zero hz
    obtain ⟨hSp, hc1, _⟩ := eCode_zero h1
    have hcl := code_len0 h1
    have hN := nW_bd hSp
    obtain ⟨j, rfl⟩ : ∃ j : Nat, i = (j : Int) := ⟨i.toNat, by omega⟩
    have hj : j < S.length := by omega
    have HC1 : Hid (∀ k, k < C.length → 0 ≤ gi C k ∧ gi C k ≤ 9223372036854775807) := Lib.hid fun k hk => by have := hc1 k hk; omega
    have HSp := Lib.hid hSp
    have HZ := Lib.hid hz
    have HV : Hid (vNrm S C (j : Int) = nrm S C j) := Lib.hid (by unfold vNrm; rw [if_pos hz]; rfl)
    have HPE := Lib.hid hpe
    clear hz hpe h1 hSp hc1 hW0 hN
    go_enter Try.func23, Try.ntmps23
    go_wp2_with fail
    rw [← HW0.out]
    refine HPE.out.mono ?_
    rintro e w1 ⟨rfl, hb1⟩
    have c1 := kept_cell hb1 c0 l0
    have B1 := B0.trans (hb1.mono B0.size)
    clear hb1 c0 l0 B0
    go_wp2_with fail
    refine (normAt_any ao S cap HSp.out ac C capc (by omega) HC1.out j hj _ (hS.below B1) (hC.below B1)).mono ?_
    rintro e w2 ⟨rfl, hb2⟩
    go_wp2_with fail
    go_ret2
    exact ⟨by rw [HZ.out, HV.out]; rfl, B1.trans (hb2.mono B1.size)⟩
  · have hzn : (ePlc S C i != 0) = true := by simpa using hz
    have HV : Hid (vNrm S C i = 0) := Lib.hid (by unfold vNrm; rw [if_neg hz])
    have HPE := Lib.hid hpe
    clear hz hpe hW0
    go_enter Try.func23, Try.ntmps23
    go_wp2_with fail
    rw [← HW0.out]
    refine HPE.out.mono ?_
    rintro e w1 ⟨rfl, hb1⟩
    go_wp2_with fail
    go_ret2
    exact ⟨by rw [HV.out]; rfl, B0.trans (hb1.mono B0.size)⟩

set_option maxHeartbeats 1000000 in
theorem spec_ReachesOf (ao : Option Addr) (S : List Int) (cap : Nat) (hn : S.length ≤ 4294967296) (ac : Option Addr) (C : List Int) (capc : Nat) (hnc : C.length ≤ 4294967296) (i : Int) (hi : -9223372036854775808 ≤ i ∧ i ≤ 9223372036854775807) (x : Int) (hx : -9223372036854775808 ≤ x ∧ x ≤ 9223372036854775807) (w : World) (hS : Ints w ao S) (hC : Ints w ac C) :
    Calls Try.prog 13 #[.agg #[.slice ao S.length cap], .slice ac C.length capc, .int .i64 i, .int .i64 x] w fun e w' => ∃ v, e = .returned (.tuple #[v, .int .i64 (eRch S C i x)]) ∧ OwnInts w' w.heap.size v (vRch S C i x) ∧ Below w.heap.size w w' := by
  obtain ⟨W0, hW0⟩ : ∃ W0, W0 = w.alloc (.cells #[.slice ao S.length cap] 28) := ⟨_, rfl⟩
  have B0 : Below w.heap.size w W0 := by rw [hW0]; go_grown
  have c0 : W0.cell? ⟨w.heap.size, 0, none⟩ = some (.slice ao S.length cap) := by rw [hW0]; exact cell_new _ _ _
  have l0 : w.heap.size < W0.heap.size := by rw [hW0]; exact lt_alloc _ _
  have HW0 := Lib.hid hW0
  have hpe := l03Place_any ao S cap hn ac C capc hnc i W0 (hS.below B0) (hC.below B0)
  by_cases hp : ePlc S C i = 0
  · have HE : Hid (eRch S C i x = eWords S [x]) := Lib.hid (by unfold eRch orI; rw [if_pos hp])
    rw [hp] at hpe
    by_cases hz : eRch S C i x = 0
    · have HZ := Lib.hid hz
      have HZ2 : Hid (eWords S [x] = 0) := Lib.hid (by rw [← HE.out]; exact hz)
      obtain ⟨h0, hw0⟩ := eRch_zero hz
      obtain ⟨h1, h2, h3⟩ := ePlc_zero h0
      obtain ⟨hSp, hc1, _⟩ := eCode_zero h1
      obtain ⟨_, x1, x2⟩ := eWords1 hw0
      have hcl := code_len0 h1
      have hN := nW_bd hSp
      obtain ⟨j, rfl⟩ : ∃ j : Nat, i = (j : Int) := ⟨i.toNat, by omega⟩
      have hj : j < S.length := by omega
      have HC1 : Hid (∀ k, k < C.length → 0 ≤ gi C k ∧ gi C k ≤ 9223372036854775807) := Lib.hid fun k hk => by have := hc1 k hk; omega
      have HSp := Lib.hid hSp
      have hq := hSp.bd j hj
      obtain ⟨Q, hQe⟩ : ∃ Q : Nat, gi S j = (Q : Int) := ⟨(gi S j).toNat, by omega⟩
      have HQ := Lib.hid hQe
      have HV : Hid (vRch S C (j : Int) x = rcL S C j x C.length) := Lib.hid (by unfold vRch; rw [if_pos hz]; rfl)
      have hx9 : 0 ≤ x ∧ x ≤ 9223372036854775807 := by omega
      have hlo := hSp.lo
      have hhi := hSp.hi
      have HPE := Lib.hid hpe
      clear hz hpe h0 h1 hSp hc1 hW0 hN hp hw0 x1 x2 hQe hq HE
      go_enter Try.func13, Try.ntmps13
      go_wp2_with fail
      rw [← HW0.out]
      refine HPE.out.mono ?_
      rintro e w1 ⟨rfl, hb1⟩
      have c1 := kept_cell hb1 c0 l0
      have l1 := lt_of_below hb1 l0
      have B1 := B0.trans (hb1.mono B0.size)
      clear hb1 c0 l0 B0
      go_wp2_with fail
      have hwe := l01Words_n ao S cap hn (some ⟨w1.heap.size, 0, none⟩) [x] 1 1 rfl (by omega) _ (hS.below (B1.alloc B1.size (.cells #[.int .i64 x] 2))) (ints_new1 w1 x 2 rfl)
      rw [HZ2.out] at hwe
      refine hwe.mono ?_
      rintro e w2 ⟨rfl, hb2⟩
      have c2 := kept_cell hb2 (kept_cell ((Below.refl _ w1).alloc (Nat.le_refl _) (.cells #[.int .i64 x] 2)) c1 l1) (by simp; omega)
      have B2 : Below w.heap.size w w2 := (B1.alloc B1.size (.cells #[.int .i64 x] 2)).trans (hb2.mono (by have := B1.size; simp; omega))
      clear hb2 hwe c1 l1 B1
      go_wp2_with fail
      refine (l09Reaches_any ao S cap HSp.out ac C capc (by omega) HC1.out j hj Q HQ x hx9 _ (hS.below B2) (hC.below B2)).mono ?_
      rintro e w3 ⟨q, rfl, own, hb3⟩
      go_wp2_with fail
      go_ret2
      exact ⟨_, by rw [HZ.out]; try rfl, by rw [HV.out]; exact own.rebase B2.size, B2.trans (hb3.mono B2.size)⟩
    · have HV : Hid (vRch S C i x = []) := Lib.hid (by unfold vRch; rw [if_neg hz])
      have HPE := Lib.hid hpe
      have hzn : (eWords S [x] != 0) = true := by rw [← HE.out]; simpa using hz
      clear hz hpe hW0 hp
      go_enter Try.func13, Try.ntmps13
      go_wp2_with fail
      rw [← HW0.out]
      refine HPE.out.mono ?_
      rintro e w1 ⟨rfl, hb1⟩
      have c1 := kept_cell hb1 c0 l0
      have l1 := lt_of_below hb1 l0
      have B1 := B0.trans (hb1.mono B0.size)
      clear hb1 c0 l0 B0
      go_wp2_with fail
      refine (l01Words_n ao S cap hn (some ⟨w1.heap.size, 0, none⟩) [x] 1 1 rfl (by omega) _ (hS.below (B1.alloc B1.size (.cells #[.int .i64 x] 2))) (ints_new1 w1 x 2 rfl)).mono ?_
      rintro e w2 ⟨rfl, hb2⟩
      have B2 : Below w.heap.size w w2 := (B1.alloc B1.size (.cells #[.int .i64 x] 2)).trans (hb2.mono (by have := B1.size; simp; omega))
      clear hb2
      go_wp2_with fail
      go_ret2
      exact ⟨_, by rw [HE.out]; rfl, by rw [HV.out]; exact own_nil _ _, B2⟩
  · have HE : Hid (eRch S C i x = ePlc S C i) := Lib.hid (by unfold eRch orI; rw [if_neg hp])
    have HV : Hid (vRch S C i x = []) := Lib.hid (by unfold vRch; rw [HE.out, if_neg hp])
    have hzn : (ePlc S C i != 0) = true := by simpa using hp
    have hzb : (ePlc S C i == 0) = false := by simpa using hp
    have HPE := Lib.hid hpe
    clear hpe hW0 hp
    go_enter Try.func13, Try.ntmps13
    go_wp2_with fail
    rw [← HW0.out]
    refine HPE.out.mono ?_
    rintro e w1 ⟨rfl, hb1⟩
    go_wp2_with fail
    go_ret2
    exact ⟨_, by rw [HE.out]; rfl, by rw [HV.out]; exact own_nil _ _, B0.trans (hb1.mono B0.size)⟩

set_option maxHeartbeats 8000000 in
theorem impl_ReachesOf (ao : Option Addr) (S : List Int) (cap : Nat) (hn : S.length ≤ 4294967296) (ac : Option Addr) (C : List Int) (capc : Nat) (hnc : C.length ≤ 4294967296) (i : Int) (hi : -9223372036854775808 ≤ i ∧ i ≤ 9223372036854775807) (x : Int) (hx : -9223372036854775808 ≤ x ∧ x ≤ 9223372036854775807) (w : World) (hS : Ints w ao S) (hC : Ints w ac C) :
    Calls Try.prog 16 #[.agg #[.slice ao S.length cap], .slice ac C.length capc, .int .i64 i, .int .i64 x] w fun e w' => ∃ v, e = .returned (.tuple #[v, .int .i64 (eRch S C i x)]) ∧ OwnInts w' w.heap.size v (vRch S C i x) ∧ Below w.heap.size w w' := by
  obtain ⟨W0, hW0⟩ : ∃ W0, W0 = w.alloc (.cells #[.slice ao S.length cap] 28) := ⟨_, rfl⟩
  have B0 : Below w.heap.size w W0 := by rw [hW0]; go_grown
  have c0 : W0.cell? ⟨w.heap.size, 0, none⟩ = some (.slice ao S.length cap) := by rw [hW0]; exact cell_new _ _ _
  have l0 : w.heap.size < W0.heap.size := by rw [hW0]; exact lt_alloc _ _
  have HW0 := Lib.hid hW0
  obtain ⟨E, hE⟩ : ∃ E, E = eRch S C i x := ⟨_, rfl⟩
  have HE : Hid (orI (ePlc S C i) (eWords S [x]) = E) := Lib.hid (by rw [hE]; rfl)
  by_cases hz : eRch S C i x = 0
  · have HZ := Lib.hid hz
    rw [hz] at hE
    subst hE
    obtain ⟨h0, hw0⟩ := eRch_zero hz
    obtain ⟨h1, h2, h3⟩ := ePlc_zero h0
    obtain ⟨hSp, hc1, _⟩ := eCode_zero h1
    obtain ⟨_, x1, x2⟩ := eWords1 hw0
    have hcl := code_len0 h1
    have hN := nW_bd hSp
    obtain ⟨j, rfl⟩ : ∃ j : Nat, i = (j : Int) := ⟨i.toNat, by omega⟩
    have hj : j < S.length := by omega
    have HC1 : Hid (∀ k, k < C.length → 0 ≤ gi C k ∧ gi C k ≤ 9223372036854775807) := Lib.hid fun k hk => by have := hc1 k hk; omega
    have HSp := Lib.hid hSp
    have hq := hSp.bd j hj
    obtain ⟨Q, hQe⟩ : ∃ Q : Nat, gi S j = (Q : Int) := ⟨(gi S j).toNat, by omega⟩
    have HQ := Lib.hid hQe
    have HV : Hid (vRch S C (j : Int) x = rcL S C j x C.length) := Lib.hid (by unfold vRch; rw [if_pos hz]; rfl)
    have hx9 : 0 ≤ x ∧ x ≤ 9223372036854775807 := by omega
    have hlo := hSp.lo
    have hhi := hSp.hi
    rw [hz]
    clear hz h0 h1 hSp hc1 hW0 hN hw0 x1 x2 hQe hq
    go_enter Try.func16, Try.ntmps16
    go_wp2_with fail
    rw [← HW0.out]
    refine wp_region_held_drew (S := fun w' => w'.cell? ⟨w.heap.size, 0, none⟩ = some (.slice ao S.length cap)) (by kernel_rfl) (c0) (fun hHeld => ?_)
    refine wpAnyH_take (i := 0) (v := ?_) rfl (by kernel_rfl) (by kernel_rfl) (by kernel_rfl) (fun _ _ _ h => h) (Or.inl ⟨by rfl, ?_⟩) (by assumption) ?_
    rotate_left
    · (intro w hSw; obtain hSw := hSw; (try dsimp only at hSw); go_simp; try (with_reducible rfl))
    (try simp only [Act.put, List.setIfInBounds_toArray, List.set_cons_zero, List.set_cons_succ, List.getElem_toArray, List.getElem_cons_succ, List.getElem_cons_zero])
    refine wpAnyH_take (i := 1) (v := ?_) rfl (by kernel_rfl) (by kernel_rfl) (by kernel_rfl) (fun _ _ _ h => h) (Or.inl ⟨by rfl, ?_⟩) (by assumption) ?_
    rotate_left
    · (intro w hSw; obtain hSw := hSw; (try dsimp only at hSw); go_simp; try (with_reducible rfl))
    (try simp only [Act.put, List.setIfInBounds_toArray, List.set_cons_zero, List.set_cons_succ, List.getElem_toArray, List.getElem_cons_succ, List.getElem_cons_zero])
    refine wpAnyH_take (i := 2) (v := ?_) rfl (by kernel_rfl) (by kernel_rfl) (by kernel_rfl) (fun _ _ _ h => h) (Or.inl ⟨by rfl, ?_⟩) (by assumption) ?_
    rotate_left
    · (intro w hSw; obtain hSw := hSw; (try dsimp only at hSw); go_simp; try (with_reducible rfl))
    (try simp only [Act.put, List.setIfInBounds_toArray, List.set_cons_zero, List.set_cons_succ, List.getElem_toArray, List.getElem_cons_succ, List.getElem_cons_zero])
    refine wpAnyH_take (i := 4) (v := ?_) rfl (by kernel_rfl) (by kernel_rfl) (by kernel_rfl) (fun _ _ _ h => h) (Or.inl ⟨by rfl, ?_⟩) (by assumption) ?_
    rotate_left
    · (intro w hSw; obtain hSw := hSw; (try dsimp only at hSw); go_simp; try (with_reducible rfl))
    (try simp only [Act.put, List.setIfInBounds_toArray, List.set_cons_zero, List.set_cons_succ, List.getElem_toArray, List.getElem_cons_succ, List.getElem_cons_zero])
    refine wpAnyH_take (i := 5) (v := ?_) rfl (by kernel_rfl) (by kernel_rfl) (by kernel_rfl) (fun _ _ _ h => h) (Or.inl ⟨by rfl, ?_⟩) (by assumption) ?_
    rotate_left
    · (intro w hSw; obtain hSw := hSw; (try dsimp only at hSw); go_simp; try (with_reducible rfl))
    (try simp only [Act.put, List.setIfInBounds_toArray, List.set_cons_zero, List.set_cons_succ, List.getElem_toArray, List.getElem_cons_succ, List.getElem_cons_zero])
    refine wpAnyH_ready (rs := [3, 6]) (by kernel_rfl) (by simp) ?_
    refine AllReadyH.cons rfl (fun K hK => ?_) ?_
    · go_simp
      (go_at_call 47; refine (placeError_any ao S cap hn ac C capc hnc (j : Int) _ (hS.below (B0.trans (Below.mono (Below.refl W0.heap.size W0).drew B0.size))) (hC.below (B0.trans (Below.mono (Below.refl W0.heap.size W0).drew B0.size)))).mono ?_)
      rintro e x1 ⟨rfl, hb1⟩
      have H1 : Below W0.heap.size W0 x1 := Below.trans (Below.refl W0.heap.size W0).drew (hb1.mono (Below.size (Below.refl W0.heap.size W0).drew))
      refine hK.out _ _ (kept_cell H1 c0 l0) (fun hHeld => ?_)
      clear hK K
      (try simp only [Act.put, List.setIfInBounds_toArray, List.set_cons_zero, List.set_cons_succ, List.getElem_toArray, List.getElem_cons_succ, List.getElem_cons_zero])
      refine wpAnyH_ready (rs := [6]) (by kernel_rfl) (by simp) ?_
      refine AllReadyH.cons rfl (fun K hK => ?_) AllReadyH.nil
      go_simp
      have H2 : Below W0.heap.size W0 (x1.alloc (.cells #[.int .i64 x] 2)) := Below.alloc H1 (Below.size H1) _
      have hx2 : Ints (x1.alloc (.cells #[.int .i64 x] 2)) (some ⟨x1.heap.size, 0, none⟩) [x] := ints_new1 _ x _ rfl
      refine hK.out _ _ (kept_cell H2 c0 l0) (fun hHeld => ?_)
      clear hK K
      (try simp only [Act.put, List.setIfInBounds_toArray, List.set_cons_zero, List.set_cons_succ, List.getElem_toArray, List.getElem_cons_succ, List.getElem_cons_zero])
      refine wpAnyH_ready (rs := [7]) (by kernel_rfl) (by simp) ?_
      refine AllReadyH.cons rfl (fun K hK => ?_) AllReadyH.nil
      go_simp
      (go_at_call 48; refine (wordsError_n ao S cap hn _ [x] 1 _ rfl (by omega) _ (hS.below (B0.trans (Below.mono H2 B0.size))) hx2).mono ?_)
      rintro e x3 ⟨rfl, hb3⟩
      have H3 : Below W0.heap.size W0 x3 := Below.trans H2 (hb3.mono (Below.size H2))
      replace hx2 := hx2.below hb3
      refine hK.out _ _ (kept_cell H3 c0 l0) (fun hHeld => ?_)
      clear hK K
      (try simp only [Act.put, List.setIfInBounds_toArray, List.set_cons_zero, List.set_cons_succ, List.getElem_toArray, List.getElem_cons_succ, List.getElem_cons_zero])
      refine wpAnyH_ready (rs := [8]) (by kernel_rfl) (by simp) ?_
      refine AllReadyH.cons rfl (fun K hK => ?_) AllReadyH.nil
      go_simp
      have H4 : Below W0.heap.size W0 (x3.alloc (.cells #[.int .i64 (ePlc S C (j : Int)), .int .i64 (eWords S [x])] 2)) := Below.alloc H3 (Below.size H3) _
      replace hx2 := hx2.below ((Below.refl _ x3).alloc (Nat.le_refl _) (.cells #[.int .i64 (ePlc S C (j : Int)), .int .i64 (eWords S [x])] 2))
      have he4 : Ints (x3.alloc (.cells #[.int .i64 (ePlc S C (j : Int)), .int .i64 (eWords S [x])] 2)) (some ⟨x3.heap.size, 0, none⟩) [ePlc S C (j : Int), eWords S [x]] := ints_new2 _ _ _ _ rfl
      refine hK.out _ _ (kept_cell H4 c0 l0) (fun hHeld => ?_)
      clear hK K
      (try simp only [Act.put, List.setIfInBounds_toArray, List.set_cons_zero, List.set_cons_succ, List.getElem_toArray, List.getElem_cons_succ, List.getElem_cons_zero])
      refine wpAnyH_ready (rs := [9]) (by kernel_rfl) (by simp) ?_
      refine AllReadyH.cons rfl (fun K hK => ?_) AllReadyH.nil
      go_simp
      (go_at_call 46; refine (cmpOr2 _ (ePlc S C (j : Int)) (eWords S [x]) _ _ he4).mono ?_)
      rintro e x5 ⟨rfl, rfl⟩
      refine hK.out _ _ (kept_cell H4 c0 l0) (fun hHeld => ?_)
      clear hK K
      (try simp only [Act.put, List.setIfInBounds_toArray, List.set_cons_zero, List.set_cons_succ, List.getElem_toArray, List.getElem_cons_succ, List.getElem_cons_zero])
      refine wpAnyH_take (i := 10) (v := ?_) rfl (by kernel_rfl) (by kernel_rfl) (by kernel_rfl) (fun _ _ _ h => h) (Or.inl ⟨by rfl, ?_⟩) (by assumption) ?_
      rotate_left
      · (intro w hSw; obtain hSw := hSw; (try dsimp only at hSw); go_simp; try (with_reducible rfl))
      (try simp only [Act.put, List.setIfInBounds_toArray, List.set_cons_zero, List.set_cons_succ, List.getElem_toArray, List.getElem_cons_succ, List.getElem_cons_zero])
      refine wpAnyH_done (by kernel_rfl) ?_ _
      (try simp only [Act.put, List.setIfInBounds_toArray, List.set_cons_zero, List.set_cons_succ, List.getElem_toArray, List.getElem_cons_succ, List.getElem_cons_zero])
      obtain ⟨W5, hW5⟩ : ∃ W5, W5 = (x3.alloc (.cells #[.int .i64 (ePlc S C (j : Int)), .int .i64 (eWords S [x])] 2)) := ⟨_, rfl⟩
      have B5 : Below w.heap.size w W5 := by rw [hW5]; exact B0.trans (Below.mono H4 B0.size)
      have c5 : W5.cell? ⟨w.heap.size, 0, none⟩ = some (.slice ao S.length cap) := by rw [hW5]; exact kept_cell H4 c0 l0
      have l5 : w.heap.size < W5.heap.size := by rw [hW5]; exact lt_of_below H4 l0
      rw [← hW5]
      rw [HE.out]
      clear hW5 H1 H2 H3 H4 c0 l0
      go_wp2_with fail
      refine wp_region_held_drew (S := fun w' => w'.cell? ⟨w.heap.size, 0, none⟩ = some (.slice ao S.length cap)) (by kernel_rfl) (c5) (fun hHeld => ?_)
      refine wpAnyH_take (i := 0) (v := ?_) rfl (by kernel_rfl) (by kernel_rfl) (by kernel_rfl) (fun _ _ _ h => h) (Or.inl ⟨by rfl, ?_⟩) (by assumption) ?_
      rotate_left
      · (intro w hSw; obtain hSw := hSw; (try dsimp only at hSw); go_simp; try (with_reducible rfl))
      (try simp only [Act.put, List.setIfInBounds_toArray, List.set_cons_zero, List.set_cons_succ, List.getElem_toArray, List.getElem_cons_succ, List.getElem_cons_zero])
      refine wpAnyH_take (i := 1) (v := ?_) rfl (by kernel_rfl) (by kernel_rfl) (by kernel_rfl) (fun _ _ _ h => h) (Or.inl ⟨by rfl, ?_⟩) (by assumption) ?_
      rotate_left
      · (intro w hSw; obtain hSw := hSw; (try dsimp only at hSw); go_simp; try (with_reducible rfl))
      (try simp only [Act.put, List.setIfInBounds_toArray, List.set_cons_zero, List.set_cons_succ, List.getElem_toArray, List.getElem_cons_succ, List.getElem_cons_zero])
      refine wpAnyH_take (i := 2) (v := ?_) rfl (by kernel_rfl) (by kernel_rfl) (by kernel_rfl) (fun _ _ _ h => h) (Or.inl ⟨by rfl, ?_⟩) (by assumption) ?_
      rotate_left
      · (intro w hSw; obtain hSw := hSw; (try dsimp only at hSw); go_simp; try (with_reducible rfl))
      (try simp only [Act.put, List.setIfInBounds_toArray, List.set_cons_zero, List.set_cons_succ, List.getElem_toArray, List.getElem_cons_succ, List.getElem_cons_zero])
      refine wpAnyH_take (i := 4) (v := ?_) rfl (by kernel_rfl) (by kernel_rfl) (by kernel_rfl) (fun _ _ _ h => h) (Or.inl ⟨by rfl, ?_⟩) (by assumption) ?_
      rotate_left
      · (intro w hSw; obtain hSw := hSw; (try dsimp only at hSw); go_simp; try (with_reducible rfl))
      (try simp only [Act.put, List.setIfInBounds_toArray, List.set_cons_zero, List.set_cons_succ, List.getElem_toArray, List.getElem_cons_succ, List.getElem_cons_zero])
      refine wpAnyH_take (i := 5) (v := ?_) rfl (by kernel_rfl) (by kernel_rfl) (by kernel_rfl) (fun _ _ _ h => h) (Or.inl ⟨by rfl, ?_⟩) (by assumption) ?_
      rotate_left
      · (intro w hSw; obtain hSw := hSw; (try dsimp only at hSw); go_simp; try (with_reducible rfl))
      (try simp only [Act.put, List.setIfInBounds_toArray, List.set_cons_zero, List.set_cons_succ, List.getElem_toArray, List.getElem_cons_succ, List.getElem_cons_zero])
      refine wpAnyH_take (i := 6) (v := ?_) rfl (by kernel_rfl) (by kernel_rfl) (by kernel_rfl) (fun _ _ _ h => h) (Or.inl ⟨by rfl, ?_⟩) (by assumption) ?_
      rotate_left
      · (intro w hSw; obtain hSw := hSw; (try dsimp only at hSw); go_simp; try (with_reducible rfl))
      (try simp only [Act.put, List.setIfInBounds_toArray, List.set_cons_zero, List.set_cons_succ, List.getElem_toArray, List.getElem_cons_succ, List.getElem_cons_zero])
      refine wpAnyH_ready (rs := [3, 7]) (by kernel_rfl) (by simp) ?_
      refine AllReadyH.cons rfl (fun K hK => ?_) ?_
      · go_simp
        (go_at_call 50; refine (digitParts_any ao S cap hlo hhi HSp.out.bd ac C capc (by omega) HC1.out _ (hS.below (B5.trans (Below.mono (Below.refl W5.heap.size W5).drew B5.size))) (hC.below (B5.trans (Below.mono (Below.refl W5.heap.size W5).drew B5.size)))).mono ?_)
        rintro e x1 ⟨P1, g1, U1, rfl, hp1, hb1⟩
        have H1 : Below W5.heap.size W5 x1 := Below.trans (Below.refl W5.heap.size W5).drew (hb1.mono (Below.size (Below.refl W5.heap.size W5).drew))
        refine hK.out _ _ (kept_cell H1 c5 l5) (fun hHeld => ?_)
        clear hK K
        (try simp only [Act.put, List.setIfInBounds_toArray, List.set_cons_zero, List.set_cons_succ, List.getElem_toArray, List.getElem_cons_succ, List.getElem_cons_zero])
        refine wpAnyH_ready (rs := [7]) (by kernel_rfl) (by simp) ?_
        refine AllReadyH.cons rfl (fun K hK => ?_) AllReadyH.nil
        go_simp
        have H2 : Below W5.heap.size W5 (x1.alloc (.cells #[.int .i64 x] 2)) := Below.alloc H1 (Below.size H1) _
        replace hp1 := hp1.below ((Below.refl _ x1).alloc (Nat.le_refl _) (.cells #[.int .i64 x] 2))
        have hx2 : Ints (x1.alloc (.cells #[.int .i64 x] 2)) (some ⟨x1.heap.size, 0, none⟩) [x] := ints_new1 _ x _ rfl
        refine hK.out _ _ (kept_cell H2 c5 l5) (fun hHeld => ?_)
        clear hK K
        (try simp only [Act.put, List.setIfInBounds_toArray, List.set_cons_zero, List.set_cons_succ, List.getElem_toArray, List.getElem_cons_succ, List.getElem_cons_zero])
        refine wpAnyH_ready (rs := [8]) (by kernel_rfl) (by simp) ?_
        refine AllReadyH.cons rfl (fun K hK => ?_) AllReadyH.nil
        go_simp
        (go_at_call 50; refine (digitParts_1 ao S cap HSp.out x hx9.1 hx9.2 _ 1 _ (hS.below (B5.trans (Below.mono H2 B5.size))) hx2).mono ?_)
        rintro e x3 ⟨P3, g3, rfl, hr3, own3, hl3, hb3⟩
        have H3 : Below W5.heap.size W5 x3 := Below.trans H2 (hb3.mono (Below.size H2))
        replace hp1 := hp1.below hb3
        replace hx2 := hx2.below hb3
        refine hK.out _ _ (kept_cell H3 c5 l5) (fun hHeld => ?_)
        clear hK K
        (try simp only [Act.put, List.setIfInBounds_toArray, List.set_cons_zero, List.set_cons_succ, List.getElem_toArray, List.getElem_cons_succ, List.getElem_cons_zero])
        refine wpAnyH_take (i := 9) (v := ?_) rfl (by kernel_rfl) (by kernel_rfl) (by kernel_rfl) (fun _ _ _ h => h) (Or.inl ⟨by rfl, ?_⟩) (by assumption) ?_
        rotate_left
        · (intro w hSw; obtain hSw := hSw; (try dsimp only at hSw); go_simp; try (with_reducible rfl))
        (try simp only [Act.put, List.setIfInBounds_toArray, List.set_cons_zero, List.set_cons_succ, List.getElem_toArray, List.getElem_cons_succ, List.getElem_cons_zero])
        refine wpAnyH_ready (rs := [10]) (by kernel_rfl) (by simp) ?_
        refine AllReadyH.cons rfl (fun K hK => ?_) AllReadyH.nil
        go_simp
        refine hK.out _ _ (kept_cell H3 c5 l5) (fun hHeld => ?_)
        clear hK K
        (try simp only [Act.put, List.setIfInBounds_toArray, List.set_cons_zero, List.set_cons_succ, List.getElem_toArray, List.getElem_cons_succ, List.getElem_cons_zero])
        refine wpAnyH_ready (rs := [11]) (by kernel_rfl) (by simp) ?_
        refine AllReadyH.cons rfl (fun K hK => ?_) AllReadyH.nil
        go_simp
        (go_at_call 49; refine (reaches_any ao S cap HSp.out _ P1 g1 C U1 _ rfl (by omega) j hj Q HQ x _ _ _ rfl _ (hS.below (B5.trans (Below.mono H3 B5.size))) hp1 (own_ints own3)).mono ?_)
        rintro e x4 ⟨q4, rfl, own4, hb4⟩
        have H4 : Below W5.heap.size W5 x4 := Below.trans H3 (hb4.mono (Below.size H3))
        replace hp1 := hp1.below hb4
        replace hx2 := hx2.below hb4
        replace own3 := own3.below hb4
        skip
        refine hK.out _ _ (kept_cell H4 c5 l5) (fun hHeld => ?_)
        clear hK K
        (try simp only [Act.put, List.setIfInBounds_toArray, List.set_cons_zero, List.set_cons_succ, List.getElem_toArray, List.getElem_cons_succ, List.getElem_cons_zero])
        refine wpAnyH_take (i := 12) (v := ?_) rfl (by kernel_rfl) (by kernel_rfl) (by kernel_rfl) (fun _ _ _ h => h) (Or.inl ⟨by rfl, ?_⟩) (by assumption) ?_
        rotate_left
        · (intro w hSw; obtain hSw := hSw; (try dsimp only at hSw); go_simp; try (with_reducible rfl))
        (try simp only [Act.put, List.setIfInBounds_toArray, List.set_cons_zero, List.set_cons_succ, List.getElem_toArray, List.getElem_cons_succ, List.getElem_cons_zero])
        refine wpAnyH_take (i := 13) (v := ?_) rfl (by kernel_rfl) (by kernel_rfl) (by kernel_rfl) (fun _ _ _ h => h) (Or.inl ⟨by rfl, ?_⟩) (by assumption) ?_
        rotate_left
        · (intro w hSw; obtain hSw := hSw; (try dsimp only at hSw); go_simp; try (with_reducible rfl))
        (try simp only [Act.put, List.setIfInBounds_toArray, List.set_cons_zero, List.set_cons_succ, List.getElem_toArray, List.getElem_cons_succ, List.getElem_cons_zero])
        refine wpAnyH_done (by kernel_rfl) ?_ _
        (try simp only [Act.put, List.setIfInBounds_toArray, List.set_cons_zero, List.set_cons_succ, List.getElem_toArray, List.getElem_cons_succ, List.getElem_cons_zero])
        go_wp2_with fail
        go_ret2
        exact ⟨_, rfl, by rw [HV.out]; exact OwnInts.rebase own4 (Nat.le_trans B5.size (Below.size H3)), (B5.trans (Below.mono H4 B5.size))⟩
      refine AllReadyH.cons rfl (fun K hK => ?_) AllReadyH.nil
      go_simp
      have H1 : Below W5.heap.size W5 (W5.drew.alloc (.cells #[.int .i64 x] 2)) := Below.alloc (Below.refl W5.heap.size W5).drew (Below.size (Below.refl W5.heap.size W5).drew) _
      have hx1 : Ints (W5.drew.alloc (.cells #[.int .i64 x] 2)) (some ⟨W5.drew.heap.size, 0, none⟩) [x] := ints_new1 _ x _ rfl
      refine hK.out _ _ (kept_cell H1 c5 l5) (fun hHeld => ?_)
      clear hK K
      (try simp only [Act.put, List.setIfInBounds_toArray, List.set_cons_zero, List.set_cons_succ, List.getElem_toArray, List.getElem_cons_succ, List.getElem_cons_zero])
      refine wpAnyH_ready (rs := [3]) (by kernel_rfl) (by simp) ?_
      refine AllReadyH.cons rfl (fun K hK => ?_) AllReadyH.nil
      go_simp
      (go_at_call 50; refine (digitParts_any ao S cap hlo hhi HSp.out.bd ac C capc (by omega) HC1.out _ (hS.below (B5.trans (Below.mono H1 B5.size))) (hC.below (B5.trans (Below.mono H1 B5.size)))).mono ?_)
      rintro e x2 ⟨P2, g2, U2, rfl, hp2, hb2⟩
      have H2 : Below W5.heap.size W5 x2 := Below.trans H1 (hb2.mono (Below.size H1))
      replace hx1 := hx1.below hb2
      refine hK.out _ _ (kept_cell H2 c5 l5) (fun hHeld => ?_)
      clear hK K
      (try simp only [Act.put, List.setIfInBounds_toArray, List.set_cons_zero, List.set_cons_succ, List.getElem_toArray, List.getElem_cons_succ, List.getElem_cons_zero])
      refine wpAnyH_ready (rs := [8]) (by kernel_rfl) (by simp) ?_
      refine AllReadyH.cons rfl (fun K hK => ?_) AllReadyH.nil
      go_simp
      (go_at_call 50; refine (digitParts_1 ao S cap HSp.out x hx9.1 hx9.2 _ 1 _ (hS.below (B5.trans (Below.mono H2 B5.size))) hx1).mono ?_)
      rintro e x3 ⟨P3, g3, rfl, hr3, own3, hl3, hb3⟩
      have H3 : Below W5.heap.size W5 x3 := Below.trans H2 (hb3.mono (Below.size H2))
      replace hx1 := hx1.below hb3
      replace hp2 := hp2.below hb3
      refine hK.out _ _ (kept_cell H3 c5 l5) (fun hHeld => ?_)
      clear hK K
      (try simp only [Act.put, List.setIfInBounds_toArray, List.set_cons_zero, List.set_cons_succ, List.getElem_toArray, List.getElem_cons_succ, List.getElem_cons_zero])
      refine wpAnyH_take (i := 9) (v := ?_) rfl (by kernel_rfl) (by kernel_rfl) (by kernel_rfl) (fun _ _ _ h => h) (Or.inl ⟨by rfl, ?_⟩) (by assumption) ?_
      rotate_left
      · (intro w hSw; obtain hSw := hSw; (try dsimp only at hSw); go_simp; try (with_reducible rfl))
      (try simp only [Act.put, List.setIfInBounds_toArray, List.set_cons_zero, List.set_cons_succ, List.getElem_toArray, List.getElem_cons_succ, List.getElem_cons_zero])
      refine wpAnyH_ready (rs := [10]) (by kernel_rfl) (by simp) ?_
      refine AllReadyH.cons rfl (fun K hK => ?_) AllReadyH.nil
      go_simp
      refine hK.out _ _ (kept_cell H3 c5 l5) (fun hHeld => ?_)
      clear hK K
      (try simp only [Act.put, List.setIfInBounds_toArray, List.set_cons_zero, List.set_cons_succ, List.getElem_toArray, List.getElem_cons_succ, List.getElem_cons_zero])
      refine wpAnyH_ready (rs := [11]) (by kernel_rfl) (by simp) ?_
      refine AllReadyH.cons rfl (fun K hK => ?_) AllReadyH.nil
      go_simp
      (go_at_call 49; refine (reaches_any ao S cap HSp.out _ P2 g2 C U2 _ rfl (by omega) j hj Q HQ x _ _ _ rfl _ (hS.below (B5.trans (Below.mono H3 B5.size))) hp2 (own_ints own3)).mono ?_)
      rintro e x4 ⟨q4, rfl, own4, hb4⟩
      have H4 : Below W5.heap.size W5 x4 := Below.trans H3 (hb4.mono (Below.size H3))
      replace hx1 := hx1.below hb4
      replace hp2 := hp2.below hb4
      replace own3 := own3.below hb4
      skip
      refine hK.out _ _ (kept_cell H4 c5 l5) (fun hHeld => ?_)
      clear hK K
      (try simp only [Act.put, List.setIfInBounds_toArray, List.set_cons_zero, List.set_cons_succ, List.getElem_toArray, List.getElem_cons_succ, List.getElem_cons_zero])
      refine wpAnyH_take (i := 12) (v := ?_) rfl (by kernel_rfl) (by kernel_rfl) (by kernel_rfl) (fun _ _ _ h => h) (Or.inl ⟨by rfl, ?_⟩) (by assumption) ?_
      rotate_left
      · (intro w hSw; obtain hSw := hSw; (try dsimp only at hSw); go_simp; try (with_reducible rfl))
      (try simp only [Act.put, List.setIfInBounds_toArray, List.set_cons_zero, List.set_cons_succ, List.getElem_toArray, List.getElem_cons_succ, List.getElem_cons_zero])
      refine wpAnyH_take (i := 13) (v := ?_) rfl (by kernel_rfl) (by kernel_rfl) (by kernel_rfl) (fun _ _ _ h => h) (Or.inl ⟨by rfl, ?_⟩) (by assumption) ?_
      rotate_left
      · (intro w hSw; obtain hSw := hSw; (try dsimp only at hSw); go_simp; try (with_reducible rfl))
      (try simp only [Act.put, List.setIfInBounds_toArray, List.set_cons_zero, List.set_cons_succ, List.getElem_toArray, List.getElem_cons_succ, List.getElem_cons_zero])
      refine wpAnyH_done (by kernel_rfl) ?_ _
      (try simp only [Act.put, List.setIfInBounds_toArray, List.set_cons_zero, List.set_cons_succ, List.getElem_toArray, List.getElem_cons_succ, List.getElem_cons_zero])
      go_wp2_with fail
      go_ret2
      exact ⟨_, rfl, by rw [HV.out]; exact OwnInts.rebase own4 (Nat.le_trans B5.size (Below.size H3)), (B5.trans (Below.mono H4 B5.size))⟩
    refine AllReadyH.cons rfl (fun K hK => ?_) AllReadyH.nil
    go_simp
    have H1 : Below W0.heap.size W0 (W0.drew.alloc (.cells #[.int .i64 x] 2)) := Below.alloc (Below.refl W0.heap.size W0).drew (Below.size (Below.refl W0.heap.size W0).drew) _
    have hx1 : Ints (W0.drew.alloc (.cells #[.int .i64 x] 2)) (some ⟨W0.drew.heap.size, 0, none⟩) [x] := ints_new1 _ x _ rfl
    refine hK.out _ _ (kept_cell H1 c0 l0) (fun hHeld => ?_)
    clear hK K
    (try simp only [Act.put, List.setIfInBounds_toArray, List.set_cons_zero, List.set_cons_succ, List.getElem_toArray, List.getElem_cons_succ, List.getElem_cons_zero])
    refine wpAnyH_ready (rs := [3]) (by kernel_rfl) (by simp) ?_
    refine AllReadyH.cons rfl (fun K hK => ?_) AllReadyH.nil
    go_simp
    (go_at_call 47; refine (placeError_any ao S cap hn ac C capc hnc (j : Int) _ (hS.below (B0.trans (Below.mono H1 B0.size))) (hC.below (B0.trans (Below.mono H1 B0.size)))).mono ?_)
    rintro e x2 ⟨rfl, hb2⟩
    have H2 : Below W0.heap.size W0 x2 := Below.trans H1 (hb2.mono (Below.size H1))
    replace hx1 := hx1.below hb2
    refine hK.out _ _ (kept_cell H2 c0 l0) (fun hHeld => ?_)
    clear hK K
    (try simp only [Act.put, List.setIfInBounds_toArray, List.set_cons_zero, List.set_cons_succ, List.getElem_toArray, List.getElem_cons_succ, List.getElem_cons_zero])
    refine wpAnyH_ready (rs := [7]) (by kernel_rfl) (by simp) ?_
    refine AllReadyH.cons rfl (fun K hK => ?_) AllReadyH.nil
    go_simp
    (go_at_call 48; refine (wordsError_n ao S cap hn _ [x] 1 _ rfl (by omega) _ (hS.below (B0.trans (Below.mono H2 B0.size))) hx1).mono ?_)
    rintro e x3 ⟨rfl, hb3⟩
    have H3 : Below W0.heap.size W0 x3 := Below.trans H2 (hb3.mono (Below.size H2))
    replace hx1 := hx1.below hb3
    refine hK.out _ _ (kept_cell H3 c0 l0) (fun hHeld => ?_)
    clear hK K
    (try simp only [Act.put, List.setIfInBounds_toArray, List.set_cons_zero, List.set_cons_succ, List.getElem_toArray, List.getElem_cons_succ, List.getElem_cons_zero])
    refine wpAnyH_ready (rs := [8]) (by kernel_rfl) (by simp) ?_
    refine AllReadyH.cons rfl (fun K hK => ?_) AllReadyH.nil
    go_simp
    have H4 : Below W0.heap.size W0 (x3.alloc (.cells #[.int .i64 (ePlc S C (j : Int)), .int .i64 (eWords S [x])] 2)) := Below.alloc H3 (Below.size H3) _
    replace hx1 := hx1.below ((Below.refl _ x3).alloc (Nat.le_refl _) (.cells #[.int .i64 (ePlc S C (j : Int)), .int .i64 (eWords S [x])] 2))
    have he4 : Ints (x3.alloc (.cells #[.int .i64 (ePlc S C (j : Int)), .int .i64 (eWords S [x])] 2)) (some ⟨x3.heap.size, 0, none⟩) [ePlc S C (j : Int), eWords S [x]] := ints_new2 _ _ _ _ rfl
    refine hK.out _ _ (kept_cell H4 c0 l0) (fun hHeld => ?_)
    clear hK K
    (try simp only [Act.put, List.setIfInBounds_toArray, List.set_cons_zero, List.set_cons_succ, List.getElem_toArray, List.getElem_cons_succ, List.getElem_cons_zero])
    refine wpAnyH_ready (rs := [9]) (by kernel_rfl) (by simp) ?_
    refine AllReadyH.cons rfl (fun K hK => ?_) AllReadyH.nil
    go_simp
    (go_at_call 46; refine (cmpOr2 _ (ePlc S C (j : Int)) (eWords S [x]) _ _ he4).mono ?_)
    rintro e x5 ⟨rfl, rfl⟩
    refine hK.out _ _ (kept_cell H4 c0 l0) (fun hHeld => ?_)
    clear hK K
    (try simp only [Act.put, List.setIfInBounds_toArray, List.set_cons_zero, List.set_cons_succ, List.getElem_toArray, List.getElem_cons_succ, List.getElem_cons_zero])
    refine wpAnyH_take (i := 10) (v := ?_) rfl (by kernel_rfl) (by kernel_rfl) (by kernel_rfl) (fun _ _ _ h => h) (Or.inl ⟨by rfl, ?_⟩) (by assumption) ?_
    rotate_left
    · (intro w hSw; obtain hSw := hSw; (try dsimp only at hSw); go_simp; try (with_reducible rfl))
    (try simp only [Act.put, List.setIfInBounds_toArray, List.set_cons_zero, List.set_cons_succ, List.getElem_toArray, List.getElem_cons_succ, List.getElem_cons_zero])
    refine wpAnyH_done (by kernel_rfl) ?_ _
    (try simp only [Act.put, List.setIfInBounds_toArray, List.set_cons_zero, List.set_cons_succ, List.getElem_toArray, List.getElem_cons_succ, List.getElem_cons_zero])
    obtain ⟨W5, hW5⟩ : ∃ W5, W5 = (x3.alloc (.cells #[.int .i64 (ePlc S C (j : Int)), .int .i64 (eWords S [x])] 2)) := ⟨_, rfl⟩
    have B5 : Below w.heap.size w W5 := by rw [hW5]; exact B0.trans (Below.mono H4 B0.size)
    have c5 : W5.cell? ⟨w.heap.size, 0, none⟩ = some (.slice ao S.length cap) := by rw [hW5]; exact kept_cell H4 c0 l0
    have l5 : w.heap.size < W5.heap.size := by rw [hW5]; exact lt_of_below H4 l0
    rw [← hW5]
    rw [HE.out]
    clear hW5 H1 H2 H3 H4 c0 l0
    go_wp2_with fail
    refine wp_region_held_drew (S := fun w' => w'.cell? ⟨w.heap.size, 0, none⟩ = some (.slice ao S.length cap)) (by kernel_rfl) (c5) (fun hHeld => ?_)
    refine wpAnyH_take (i := 0) (v := ?_) rfl (by kernel_rfl) (by kernel_rfl) (by kernel_rfl) (fun _ _ _ h => h) (Or.inl ⟨by rfl, ?_⟩) (by assumption) ?_
    rotate_left
    · (intro w hSw; obtain hSw := hSw; (try dsimp only at hSw); go_simp; try (with_reducible rfl))
    (try simp only [Act.put, List.setIfInBounds_toArray, List.set_cons_zero, List.set_cons_succ, List.getElem_toArray, List.getElem_cons_succ, List.getElem_cons_zero])
    refine wpAnyH_take (i := 1) (v := ?_) rfl (by kernel_rfl) (by kernel_rfl) (by kernel_rfl) (fun _ _ _ h => h) (Or.inl ⟨by rfl, ?_⟩) (by assumption) ?_
    rotate_left
    · (intro w hSw; obtain hSw := hSw; (try dsimp only at hSw); go_simp; try (with_reducible rfl))
    (try simp only [Act.put, List.setIfInBounds_toArray, List.set_cons_zero, List.set_cons_succ, List.getElem_toArray, List.getElem_cons_succ, List.getElem_cons_zero])
    refine wpAnyH_take (i := 2) (v := ?_) rfl (by kernel_rfl) (by kernel_rfl) (by kernel_rfl) (fun _ _ _ h => h) (Or.inl ⟨by rfl, ?_⟩) (by assumption) ?_
    rotate_left
    · (intro w hSw; obtain hSw := hSw; (try dsimp only at hSw); go_simp; try (with_reducible rfl))
    (try simp only [Act.put, List.setIfInBounds_toArray, List.set_cons_zero, List.set_cons_succ, List.getElem_toArray, List.getElem_cons_succ, List.getElem_cons_zero])
    refine wpAnyH_take (i := 4) (v := ?_) rfl (by kernel_rfl) (by kernel_rfl) (by kernel_rfl) (fun _ _ _ h => h) (Or.inl ⟨by rfl, ?_⟩) (by assumption) ?_
    rotate_left
    · (intro w hSw; obtain hSw := hSw; (try dsimp only at hSw); go_simp; try (with_reducible rfl))
    (try simp only [Act.put, List.setIfInBounds_toArray, List.set_cons_zero, List.set_cons_succ, List.getElem_toArray, List.getElem_cons_succ, List.getElem_cons_zero])
    refine wpAnyH_take (i := 5) (v := ?_) rfl (by kernel_rfl) (by kernel_rfl) (by kernel_rfl) (fun _ _ _ h => h) (Or.inl ⟨by rfl, ?_⟩) (by assumption) ?_
    rotate_left
    · (intro w hSw; obtain hSw := hSw; (try dsimp only at hSw); go_simp; try (with_reducible rfl))
    (try simp only [Act.put, List.setIfInBounds_toArray, List.set_cons_zero, List.set_cons_succ, List.getElem_toArray, List.getElem_cons_succ, List.getElem_cons_zero])
    refine wpAnyH_take (i := 6) (v := ?_) rfl (by kernel_rfl) (by kernel_rfl) (by kernel_rfl) (fun _ _ _ h => h) (Or.inl ⟨by rfl, ?_⟩) (by assumption) ?_
    rotate_left
    · (intro w hSw; obtain hSw := hSw; (try dsimp only at hSw); go_simp; try (with_reducible rfl))
    (try simp only [Act.put, List.setIfInBounds_toArray, List.set_cons_zero, List.set_cons_succ, List.getElem_toArray, List.getElem_cons_succ, List.getElem_cons_zero])
    refine wpAnyH_ready (rs := [3, 7]) (by kernel_rfl) (by simp) ?_
    refine AllReadyH.cons rfl (fun K hK => ?_) ?_
    · go_simp
      (go_at_call 50; refine (digitParts_any ao S cap hlo hhi HSp.out.bd ac C capc (by omega) HC1.out _ (hS.below (B5.trans (Below.mono (Below.refl W5.heap.size W5).drew B5.size))) (hC.below (B5.trans (Below.mono (Below.refl W5.heap.size W5).drew B5.size)))).mono ?_)
      rintro e x1 ⟨P1, g1, U1, rfl, hp1, hb1⟩
      have H1 : Below W5.heap.size W5 x1 := Below.trans (Below.refl W5.heap.size W5).drew (hb1.mono (Below.size (Below.refl W5.heap.size W5).drew))
      refine hK.out _ _ (kept_cell H1 c5 l5) (fun hHeld => ?_)
      clear hK K
      (try simp only [Act.put, List.setIfInBounds_toArray, List.set_cons_zero, List.set_cons_succ, List.getElem_toArray, List.getElem_cons_succ, List.getElem_cons_zero])
      refine wpAnyH_ready (rs := [7]) (by kernel_rfl) (by simp) ?_
      refine AllReadyH.cons rfl (fun K hK => ?_) AllReadyH.nil
      go_simp
      have H2 : Below W5.heap.size W5 (x1.alloc (.cells #[.int .i64 x] 2)) := Below.alloc H1 (Below.size H1) _
      replace hp1 := hp1.below ((Below.refl _ x1).alloc (Nat.le_refl _) (.cells #[.int .i64 x] 2))
      have hx2 : Ints (x1.alloc (.cells #[.int .i64 x] 2)) (some ⟨x1.heap.size, 0, none⟩) [x] := ints_new1 _ x _ rfl
      refine hK.out _ _ (kept_cell H2 c5 l5) (fun hHeld => ?_)
      clear hK K
      (try simp only [Act.put, List.setIfInBounds_toArray, List.set_cons_zero, List.set_cons_succ, List.getElem_toArray, List.getElem_cons_succ, List.getElem_cons_zero])
      refine wpAnyH_ready (rs := [8]) (by kernel_rfl) (by simp) ?_
      refine AllReadyH.cons rfl (fun K hK => ?_) AllReadyH.nil
      go_simp
      (go_at_call 50; refine (digitParts_1 ao S cap HSp.out x hx9.1 hx9.2 _ 1 _ (hS.below (B5.trans (Below.mono H2 B5.size))) hx2).mono ?_)
      rintro e x3 ⟨P3, g3, rfl, hr3, own3, hl3, hb3⟩
      have H3 : Below W5.heap.size W5 x3 := Below.trans H2 (hb3.mono (Below.size H2))
      replace hp1 := hp1.below hb3
      replace hx2 := hx2.below hb3
      refine hK.out _ _ (kept_cell H3 c5 l5) (fun hHeld => ?_)
      clear hK K
      (try simp only [Act.put, List.setIfInBounds_toArray, List.set_cons_zero, List.set_cons_succ, List.getElem_toArray, List.getElem_cons_succ, List.getElem_cons_zero])
      refine wpAnyH_take (i := 9) (v := ?_) rfl (by kernel_rfl) (by kernel_rfl) (by kernel_rfl) (fun _ _ _ h => h) (Or.inl ⟨by rfl, ?_⟩) (by assumption) ?_
      rotate_left
      · (intro w hSw; obtain hSw := hSw; (try dsimp only at hSw); go_simp; try (with_reducible rfl))
      (try simp only [Act.put, List.setIfInBounds_toArray, List.set_cons_zero, List.set_cons_succ, List.getElem_toArray, List.getElem_cons_succ, List.getElem_cons_zero])
      refine wpAnyH_ready (rs := [10]) (by kernel_rfl) (by simp) ?_
      refine AllReadyH.cons rfl (fun K hK => ?_) AllReadyH.nil
      go_simp
      refine hK.out _ _ (kept_cell H3 c5 l5) (fun hHeld => ?_)
      clear hK K
      (try simp only [Act.put, List.setIfInBounds_toArray, List.set_cons_zero, List.set_cons_succ, List.getElem_toArray, List.getElem_cons_succ, List.getElem_cons_zero])
      refine wpAnyH_ready (rs := [11]) (by kernel_rfl) (by simp) ?_
      refine AllReadyH.cons rfl (fun K hK => ?_) AllReadyH.nil
      go_simp
      (go_at_call 49; refine (reaches_any ao S cap HSp.out _ P1 g1 C U1 _ rfl (by omega) j hj Q HQ x _ _ _ rfl _ (hS.below (B5.trans (Below.mono H3 B5.size))) hp1 (own_ints own3)).mono ?_)
      rintro e x4 ⟨q4, rfl, own4, hb4⟩
      have H4 : Below W5.heap.size W5 x4 := Below.trans H3 (hb4.mono (Below.size H3))
      replace hp1 := hp1.below hb4
      replace hx2 := hx2.below hb4
      replace own3 := own3.below hb4
      skip
      refine hK.out _ _ (kept_cell H4 c5 l5) (fun hHeld => ?_)
      clear hK K
      (try simp only [Act.put, List.setIfInBounds_toArray, List.set_cons_zero, List.set_cons_succ, List.getElem_toArray, List.getElem_cons_succ, List.getElem_cons_zero])
      refine wpAnyH_take (i := 12) (v := ?_) rfl (by kernel_rfl) (by kernel_rfl) (by kernel_rfl) (fun _ _ _ h => h) (Or.inl ⟨by rfl, ?_⟩) (by assumption) ?_
      rotate_left
      · (intro w hSw; obtain hSw := hSw; (try dsimp only at hSw); go_simp; try (with_reducible rfl))
      (try simp only [Act.put, List.setIfInBounds_toArray, List.set_cons_zero, List.set_cons_succ, List.getElem_toArray, List.getElem_cons_succ, List.getElem_cons_zero])
      refine wpAnyH_take (i := 13) (v := ?_) rfl (by kernel_rfl) (by kernel_rfl) (by kernel_rfl) (fun _ _ _ h => h) (Or.inl ⟨by rfl, ?_⟩) (by assumption) ?_
      rotate_left
      · (intro w hSw; obtain hSw := hSw; (try dsimp only at hSw); go_simp; try (with_reducible rfl))
      (try simp only [Act.put, List.setIfInBounds_toArray, List.set_cons_zero, List.set_cons_succ, List.getElem_toArray, List.getElem_cons_succ, List.getElem_cons_zero])
      refine wpAnyH_done (by kernel_rfl) ?_ _
      (try simp only [Act.put, List.setIfInBounds_toArray, List.set_cons_zero, List.set_cons_succ, List.getElem_toArray, List.getElem_cons_succ, List.getElem_cons_zero])
      go_wp2_with fail
      go_ret2
      exact ⟨_, rfl, by rw [HV.out]; exact OwnInts.rebase own4 (Nat.le_trans B5.size (Below.size H3)), (B5.trans (Below.mono H4 B5.size))⟩
    refine AllReadyH.cons rfl (fun K hK => ?_) AllReadyH.nil
    go_simp
    have H1 : Below W5.heap.size W5 (W5.drew.alloc (.cells #[.int .i64 x] 2)) := Below.alloc (Below.refl W5.heap.size W5).drew (Below.size (Below.refl W5.heap.size W5).drew) _
    have hx1 : Ints (W5.drew.alloc (.cells #[.int .i64 x] 2)) (some ⟨W5.drew.heap.size, 0, none⟩) [x] := ints_new1 _ x _ rfl
    refine hK.out _ _ (kept_cell H1 c5 l5) (fun hHeld => ?_)
    clear hK K
    (try simp only [Act.put, List.setIfInBounds_toArray, List.set_cons_zero, List.set_cons_succ, List.getElem_toArray, List.getElem_cons_succ, List.getElem_cons_zero])
    refine wpAnyH_ready (rs := [3]) (by kernel_rfl) (by simp) ?_
    refine AllReadyH.cons rfl (fun K hK => ?_) AllReadyH.nil
    go_simp
    (go_at_call 50; refine (digitParts_any ao S cap hlo hhi HSp.out.bd ac C capc (by omega) HC1.out _ (hS.below (B5.trans (Below.mono H1 B5.size))) (hC.below (B5.trans (Below.mono H1 B5.size)))).mono ?_)
    rintro e x2 ⟨P2, g2, U2, rfl, hp2, hb2⟩
    have H2 : Below W5.heap.size W5 x2 := Below.trans H1 (hb2.mono (Below.size H1))
    replace hx1 := hx1.below hb2
    refine hK.out _ _ (kept_cell H2 c5 l5) (fun hHeld => ?_)
    clear hK K
    (try simp only [Act.put, List.setIfInBounds_toArray, List.set_cons_zero, List.set_cons_succ, List.getElem_toArray, List.getElem_cons_succ, List.getElem_cons_zero])
    refine wpAnyH_ready (rs := [8]) (by kernel_rfl) (by simp) ?_
    refine AllReadyH.cons rfl (fun K hK => ?_) AllReadyH.nil
    go_simp
    (go_at_call 50; refine (digitParts_1 ao S cap HSp.out x hx9.1 hx9.2 _ 1 _ (hS.below (B5.trans (Below.mono H2 B5.size))) hx1).mono ?_)
    rintro e x3 ⟨P3, g3, rfl, hr3, own3, hl3, hb3⟩
    have H3 : Below W5.heap.size W5 x3 := Below.trans H2 (hb3.mono (Below.size H2))
    replace hx1 := hx1.below hb3
    replace hp2 := hp2.below hb3
    refine hK.out _ _ (kept_cell H3 c5 l5) (fun hHeld => ?_)
    clear hK K
    (try simp only [Act.put, List.setIfInBounds_toArray, List.set_cons_zero, List.set_cons_succ, List.getElem_toArray, List.getElem_cons_succ, List.getElem_cons_zero])
    refine wpAnyH_take (i := 9) (v := ?_) rfl (by kernel_rfl) (by kernel_rfl) (by kernel_rfl) (fun _ _ _ h => h) (Or.inl ⟨by rfl, ?_⟩) (by assumption) ?_
    rotate_left
    · (intro w hSw; obtain hSw := hSw; (try dsimp only at hSw); go_simp; try (with_reducible rfl))
    (try simp only [Act.put, List.setIfInBounds_toArray, List.set_cons_zero, List.set_cons_succ, List.getElem_toArray, List.getElem_cons_succ, List.getElem_cons_zero])
    refine wpAnyH_ready (rs := [10]) (by kernel_rfl) (by simp) ?_
    refine AllReadyH.cons rfl (fun K hK => ?_) AllReadyH.nil
    go_simp
    refine hK.out _ _ (kept_cell H3 c5 l5) (fun hHeld => ?_)
    clear hK K
    (try simp only [Act.put, List.setIfInBounds_toArray, List.set_cons_zero, List.set_cons_succ, List.getElem_toArray, List.getElem_cons_succ, List.getElem_cons_zero])
    refine wpAnyH_ready (rs := [11]) (by kernel_rfl) (by simp) ?_
    refine AllReadyH.cons rfl (fun K hK => ?_) AllReadyH.nil
    go_simp
    (go_at_call 49; refine (reaches_any ao S cap HSp.out _ P2 g2 C U2 _ rfl (by omega) j hj Q HQ x _ _ _ rfl _ (hS.below (B5.trans (Below.mono H3 B5.size))) hp2 (own_ints own3)).mono ?_)
    rintro e x4 ⟨q4, rfl, own4, hb4⟩
    have H4 : Below W5.heap.size W5 x4 := Below.trans H3 (hb4.mono (Below.size H3))
    replace hx1 := hx1.below hb4
    replace hp2 := hp2.below hb4
    replace own3 := own3.below hb4
    skip
    refine hK.out _ _ (kept_cell H4 c5 l5) (fun hHeld => ?_)
    clear hK K
    (try simp only [Act.put, List.setIfInBounds_toArray, List.set_cons_zero, List.set_cons_succ, List.getElem_toArray, List.getElem_cons_succ, List.getElem_cons_zero])
    refine wpAnyH_take (i := 12) (v := ?_) rfl (by kernel_rfl) (by kernel_rfl) (by kernel_rfl) (fun _ _ _ h => h) (Or.inl ⟨by rfl, ?_⟩) (by assumption) ?_
    rotate_left
    · (intro w hSw; obtain hSw := hSw; (try dsimp only at hSw); go_simp; try (with_reducible rfl))
    (try simp only [Act.put, List.setIfInBounds_toArray, List.set_cons_zero, List.set_cons_succ, List.getElem_toArray, List.getElem_cons_succ, List.getElem_cons_zero])
    refine wpAnyH_take (i := 13) (v := ?_) rfl (by kernel_rfl) (by kernel_rfl) (by kernel_rfl) (fun _ _ _ h => h) (Or.inl ⟨by rfl, ?_⟩) (by assumption) ?_
    rotate_left
    · (intro w hSw; obtain hSw := hSw; (try dsimp only at hSw); go_simp; try (with_reducible rfl))
    (try simp only [Act.put, List.setIfInBounds_toArray, List.set_cons_zero, List.set_cons_succ, List.getElem_toArray, List.getElem_cons_succ, List.getElem_cons_zero])
    refine wpAnyH_done (by kernel_rfl) ?_ _
    (try simp only [Act.put, List.setIfInBounds_toArray, List.set_cons_zero, List.set_cons_succ, List.getElem_toArray, List.getElem_cons_succ, List.getElem_cons_zero])
    go_wp2_with fail
    go_ret2
    exact ⟨_, rfl, by rw [HV.out]; exact OwnInts.rebase own4 (Nat.le_trans B5.size (Below.size H3)), (B5.trans (Below.mono H4 B5.size))⟩
  · have HV : Hid (vRch S C i x = []) := Lib.hid (by unfold vRch; rw [if_neg hz])
    have hzn : (E != 0) = true := by rw [hE]; simpa using hz
    rw [← hE]
    clear hz hW0 hE
    go_enter Try.func16, Try.ntmps16
    go_wp2_with fail
    rw [← HW0.out]
    refine wp_region_held_drew (S := fun w' => w'.cell? ⟨w.heap.size, 0, none⟩ = some (.slice ao S.length cap)) (by kernel_rfl) (c0) (fun hHeld => ?_)
    refine wpAnyH_take (i := 0) (v := ?_) rfl (by kernel_rfl) (by kernel_rfl) (by kernel_rfl) (fun _ _ _ h => h) (Or.inl ⟨by rfl, ?_⟩) (by assumption) ?_
    rotate_left
    · (intro w hSw; obtain hSw := hSw; (try dsimp only at hSw); go_simp; try (with_reducible rfl))
    (try simp only [Act.put, List.setIfInBounds_toArray, List.set_cons_zero, List.set_cons_succ, List.getElem_toArray, List.getElem_cons_succ, List.getElem_cons_zero])
    refine wpAnyH_take (i := 1) (v := ?_) rfl (by kernel_rfl) (by kernel_rfl) (by kernel_rfl) (fun _ _ _ h => h) (Or.inl ⟨by rfl, ?_⟩) (by assumption) ?_
    rotate_left
    · (intro w hSw; obtain hSw := hSw; (try dsimp only at hSw); go_simp; try (with_reducible rfl))
    (try simp only [Act.put, List.setIfInBounds_toArray, List.set_cons_zero, List.set_cons_succ, List.getElem_toArray, List.getElem_cons_succ, List.getElem_cons_zero])
    refine wpAnyH_take (i := 2) (v := ?_) rfl (by kernel_rfl) (by kernel_rfl) (by kernel_rfl) (fun _ _ _ h => h) (Or.inl ⟨by rfl, ?_⟩) (by assumption) ?_
    rotate_left
    · (intro w hSw; obtain hSw := hSw; (try dsimp only at hSw); go_simp; try (with_reducible rfl))
    (try simp only [Act.put, List.setIfInBounds_toArray, List.set_cons_zero, List.set_cons_succ, List.getElem_toArray, List.getElem_cons_succ, List.getElem_cons_zero])
    refine wpAnyH_take (i := 4) (v := ?_) rfl (by kernel_rfl) (by kernel_rfl) (by kernel_rfl) (fun _ _ _ h => h) (Or.inl ⟨by rfl, ?_⟩) (by assumption) ?_
    rotate_left
    · (intro w hSw; obtain hSw := hSw; (try dsimp only at hSw); go_simp; try (with_reducible rfl))
    (try simp only [Act.put, List.setIfInBounds_toArray, List.set_cons_zero, List.set_cons_succ, List.getElem_toArray, List.getElem_cons_succ, List.getElem_cons_zero])
    refine wpAnyH_take (i := 5) (v := ?_) rfl (by kernel_rfl) (by kernel_rfl) (by kernel_rfl) (fun _ _ _ h => h) (Or.inl ⟨by rfl, ?_⟩) (by assumption) ?_
    rotate_left
    · (intro w hSw; obtain hSw := hSw; (try dsimp only at hSw); go_simp; try (with_reducible rfl))
    (try simp only [Act.put, List.setIfInBounds_toArray, List.set_cons_zero, List.set_cons_succ, List.getElem_toArray, List.getElem_cons_succ, List.getElem_cons_zero])
    refine wpAnyH_ready (rs := [3, 6]) (by kernel_rfl) (by simp) ?_
    refine AllReadyH.cons rfl (fun K hK => ?_) ?_
    · go_simp
      (go_at_call 47; refine (placeError_any ao S cap hn ac C capc hnc i _ (hS.below (B0.trans (Below.mono (Below.refl W0.heap.size W0).drew B0.size))) (hC.below (B0.trans (Below.mono (Below.refl W0.heap.size W0).drew B0.size)))).mono ?_)
      rintro e x1 ⟨rfl, hb1⟩
      have H1 : Below W0.heap.size W0 x1 := Below.trans (Below.refl W0.heap.size W0).drew (hb1.mono (Below.size (Below.refl W0.heap.size W0).drew))
      refine hK.out _ _ (kept_cell H1 c0 l0) (fun hHeld => ?_)
      clear hK K
      (try simp only [Act.put, List.setIfInBounds_toArray, List.set_cons_zero, List.set_cons_succ, List.getElem_toArray, List.getElem_cons_succ, List.getElem_cons_zero])
      refine wpAnyH_ready (rs := [6]) (by kernel_rfl) (by simp) ?_
      refine AllReadyH.cons rfl (fun K hK => ?_) AllReadyH.nil
      go_simp
      have H2 : Below W0.heap.size W0 (x1.alloc (.cells #[.int .i64 x] 2)) := Below.alloc H1 (Below.size H1) _
      have hx2 : Ints (x1.alloc (.cells #[.int .i64 x] 2)) (some ⟨x1.heap.size, 0, none⟩) [x] := ints_new1 _ x _ rfl
      refine hK.out _ _ (kept_cell H2 c0 l0) (fun hHeld => ?_)
      clear hK K
      (try simp only [Act.put, List.setIfInBounds_toArray, List.set_cons_zero, List.set_cons_succ, List.getElem_toArray, List.getElem_cons_succ, List.getElem_cons_zero])
      refine wpAnyH_ready (rs := [7]) (by kernel_rfl) (by simp) ?_
      refine AllReadyH.cons rfl (fun K hK => ?_) AllReadyH.nil
      go_simp
      (go_at_call 48; refine (wordsError_n ao S cap hn _ [x] 1 _ rfl (by omega) _ (hS.below (B0.trans (Below.mono H2 B0.size))) hx2).mono ?_)
      rintro e x3 ⟨rfl, hb3⟩
      have H3 : Below W0.heap.size W0 x3 := Below.trans H2 (hb3.mono (Below.size H2))
      replace hx2 := hx2.below hb3
      refine hK.out _ _ (kept_cell H3 c0 l0) (fun hHeld => ?_)
      clear hK K
      (try simp only [Act.put, List.setIfInBounds_toArray, List.set_cons_zero, List.set_cons_succ, List.getElem_toArray, List.getElem_cons_succ, List.getElem_cons_zero])
      refine wpAnyH_ready (rs := [8]) (by kernel_rfl) (by simp) ?_
      refine AllReadyH.cons rfl (fun K hK => ?_) AllReadyH.nil
      go_simp
      have H4 : Below W0.heap.size W0 (x3.alloc (.cells #[.int .i64 (ePlc S C i), .int .i64 (eWords S [x])] 2)) := Below.alloc H3 (Below.size H3) _
      replace hx2 := hx2.below ((Below.refl _ x3).alloc (Nat.le_refl _) (.cells #[.int .i64 (ePlc S C i), .int .i64 (eWords S [x])] 2))
      have he4 : Ints (x3.alloc (.cells #[.int .i64 (ePlc S C i), .int .i64 (eWords S [x])] 2)) (some ⟨x3.heap.size, 0, none⟩) [ePlc S C i, eWords S [x]] := ints_new2 _ _ _ _ rfl
      refine hK.out _ _ (kept_cell H4 c0 l0) (fun hHeld => ?_)
      clear hK K
      (try simp only [Act.put, List.setIfInBounds_toArray, List.set_cons_zero, List.set_cons_succ, List.getElem_toArray, List.getElem_cons_succ, List.getElem_cons_zero])
      refine wpAnyH_ready (rs := [9]) (by kernel_rfl) (by simp) ?_
      refine AllReadyH.cons rfl (fun K hK => ?_) AllReadyH.nil
      go_simp
      (go_at_call 46; refine (cmpOr2 _ (ePlc S C i) (eWords S [x]) _ _ he4).mono ?_)
      rintro e x5 ⟨rfl, rfl⟩
      refine hK.out _ _ (kept_cell H4 c0 l0) (fun hHeld => ?_)
      clear hK K
      (try simp only [Act.put, List.setIfInBounds_toArray, List.set_cons_zero, List.set_cons_succ, List.getElem_toArray, List.getElem_cons_succ, List.getElem_cons_zero])
      refine wpAnyH_take (i := 10) (v := ?_) rfl (by kernel_rfl) (by kernel_rfl) (by kernel_rfl) (fun _ _ _ h => h) (Or.inl ⟨by rfl, ?_⟩) (by assumption) ?_
      rotate_left
      · (intro w hSw; obtain hSw := hSw; (try dsimp only at hSw); go_simp; try (with_reducible rfl))
      (try simp only [Act.put, List.setIfInBounds_toArray, List.set_cons_zero, List.set_cons_succ, List.getElem_toArray, List.getElem_cons_succ, List.getElem_cons_zero])
      refine wpAnyH_done (by kernel_rfl) ?_ _
      (try simp only [Act.put, List.setIfInBounds_toArray, List.set_cons_zero, List.set_cons_succ, List.getElem_toArray, List.getElem_cons_succ, List.getElem_cons_zero])
      rw [HE.out]
      go_wp2_with fail
      go_ret2
      exact ⟨_, rfl, by rw [HV.out]; exact own_nil _ _, B0.trans (Below.mono H4 B0.size)⟩
    refine AllReadyH.cons rfl (fun K hK => ?_) AllReadyH.nil
    go_simp
    have H1 : Below W0.heap.size W0 (W0.drew.alloc (.cells #[.int .i64 x] 2)) := Below.alloc (Below.refl W0.heap.size W0).drew (Below.size (Below.refl W0.heap.size W0).drew) _
    have hx1 : Ints (W0.drew.alloc (.cells #[.int .i64 x] 2)) (some ⟨W0.drew.heap.size, 0, none⟩) [x] := ints_new1 _ x _ rfl
    refine hK.out _ _ (kept_cell H1 c0 l0) (fun hHeld => ?_)
    clear hK K
    (try simp only [Act.put, List.setIfInBounds_toArray, List.set_cons_zero, List.set_cons_succ, List.getElem_toArray, List.getElem_cons_succ, List.getElem_cons_zero])
    refine wpAnyH_ready (rs := [3]) (by kernel_rfl) (by simp) ?_
    refine AllReadyH.cons rfl (fun K hK => ?_) AllReadyH.nil
    go_simp
    (go_at_call 47; refine (placeError_any ao S cap hn ac C capc hnc i _ (hS.below (B0.trans (Below.mono H1 B0.size))) (hC.below (B0.trans (Below.mono H1 B0.size)))).mono ?_)
    rintro e x2 ⟨rfl, hb2⟩
    have H2 : Below W0.heap.size W0 x2 := Below.trans H1 (hb2.mono (Below.size H1))
    replace hx1 := hx1.below hb2
    refine hK.out _ _ (kept_cell H2 c0 l0) (fun hHeld => ?_)
    clear hK K
    (try simp only [Act.put, List.setIfInBounds_toArray, List.set_cons_zero, List.set_cons_succ, List.getElem_toArray, List.getElem_cons_succ, List.getElem_cons_zero])
    refine wpAnyH_ready (rs := [7]) (by kernel_rfl) (by simp) ?_
    refine AllReadyH.cons rfl (fun K hK => ?_) AllReadyH.nil
    go_simp
    (go_at_call 48; refine (wordsError_n ao S cap hn _ [x] 1 _ rfl (by omega) _ (hS.below (B0.trans (Below.mono H2 B0.size))) hx1).mono ?_)
    rintro e x3 ⟨rfl, hb3⟩
    have H3 : Below W0.heap.size W0 x3 := Below.trans H2 (hb3.mono (Below.size H2))
    replace hx1 := hx1.below hb3
    refine hK.out _ _ (kept_cell H3 c0 l0) (fun hHeld => ?_)
    clear hK K
    (try simp only [Act.put, List.setIfInBounds_toArray, List.set_cons_zero, List.set_cons_succ, List.getElem_toArray, List.getElem_cons_succ, List.getElem_cons_zero])
    refine wpAnyH_ready (rs := [8]) (by kernel_rfl) (by simp) ?_
    refine AllReadyH.cons rfl (fun K hK => ?_) AllReadyH.nil
    go_simp
    have H4 : Below W0.heap.size W0 (x3.alloc (.cells #[.int .i64 (ePlc S C i), .int .i64 (eWords S [x])] 2)) := Below.alloc H3 (Below.size H3) _
    replace hx1 := hx1.below ((Below.refl _ x3).alloc (Nat.le_refl _) (.cells #[.int .i64 (ePlc S C i), .int .i64 (eWords S [x])] 2))
    have he4 : Ints (x3.alloc (.cells #[.int .i64 (ePlc S C i), .int .i64 (eWords S [x])] 2)) (some ⟨x3.heap.size, 0, none⟩) [ePlc S C i, eWords S [x]] := ints_new2 _ _ _ _ rfl
    refine hK.out _ _ (kept_cell H4 c0 l0) (fun hHeld => ?_)
    clear hK K
    (try simp only [Act.put, List.setIfInBounds_toArray, List.set_cons_zero, List.set_cons_succ, List.getElem_toArray, List.getElem_cons_succ, List.getElem_cons_zero])
    refine wpAnyH_ready (rs := [9]) (by kernel_rfl) (by simp) ?_
    refine AllReadyH.cons rfl (fun K hK => ?_) AllReadyH.nil
    go_simp
    (go_at_call 46; refine (cmpOr2 _ (ePlc S C i) (eWords S [x]) _ _ he4).mono ?_)
    rintro e x5 ⟨rfl, rfl⟩
    refine hK.out _ _ (kept_cell H4 c0 l0) (fun hHeld => ?_)
    clear hK K
    (try simp only [Act.put, List.setIfInBounds_toArray, List.set_cons_zero, List.set_cons_succ, List.getElem_toArray, List.getElem_cons_succ, List.getElem_cons_zero])
    refine wpAnyH_take (i := 10) (v := ?_) rfl (by kernel_rfl) (by kernel_rfl) (by kernel_rfl) (fun _ _ _ h => h) (Or.inl ⟨by rfl, ?_⟩) (by assumption) ?_
    rotate_left
    · (intro w hSw; obtain hSw := hSw; (try dsimp only at hSw); go_simp; try (with_reducible rfl))
    (try simp only [Act.put, List.setIfInBounds_toArray, List.set_cons_zero, List.set_cons_succ, List.getElem_toArray, List.getElem_cons_succ, List.getElem_cons_zero])
    refine wpAnyH_done (by kernel_rfl) ?_ _
    (try simp only [Act.put, List.setIfInBounds_toArray, List.set_cons_zero, List.set_cons_succ, List.getElem_toArray, List.getElem_cons_succ, List.getElem_cons_zero])
    rw [HE.out]
    go_wp2_with fail
    go_ret2
    exact ⟨_, rfl, by rw [HV.out]; exact own_nil _ _, B0.trans (Below.mono H4 B0.size)⟩

end Go.Proofs.Ytfgpenldeckoaaa
