/-
  The contracts of LeastDistance. By an AI agent.
-/
import Derived.Test.YtlkfmopcdmppmaaCode2
import Derived.Test.YtlkfmopcdmppmaaMath
import Derived.Test.YtlkfmopcdmppmaaSums
import Derived.Lib.MinMax
namespace Go.Proofs.Ytlkfmopcdmppmaa
open Go.RowKit Cv
set_option linter.unusedVariables false
set_option linter.unusedSimpArgs false
set_option maxRecDepth 100000

set_option maxHeartbeats 4000000 in
theorem impl_LeastDistance (ao : Option Addr) (S : List Int) (cap : Nat) (hn : S.length ≤ 4294967296) (ac : Option Addr) (C : List Int) (capc : Nat) (hnc : C.length ≤ 4294967296) (w : World) (hS : Ints w ao S) (hC : Ints w ac C) :
    Calls Try.prog 57 #[.agg #[.slice ao S.length cap], .slice ac C.length capc] w fun e w' => e = .returned (.tuple #[.int .i64 (vLeast S C), .int .i64 (eLeast S C)]) ∧ Below w.heap.size w w' := by
  have B0 : Below w.heap.size w (w.alloc (.cells #[.slice ao S.length cap] 28)) := by go_grown
  by_cases hz : eCode S C = 0
  · obtain ⟨hSp, hc1, hc2⟩ := eCode_zero hz
    obtain ⟨N1, N2⟩ := nW_bd hSp
    have hlen := code_len hSp hc1 hc2
    have hlo := hSp.lo
    have hhi := hSp.hi
    have HSp := Lib.hid hSp
    have HC1 : Hid (∀ i, i < C.length → 0 ≤ gi C i ∧ gi C i ≤ 9223372036854775807) := Lib.hid fun i h => by have := hc1 i h; omega
    have hzb : (eCode S C == 0) = true := by simp [hz]
    have hzn : (eCode S C != 0) = false := by simp [hz]
    have HZ := Lib.hid hz
    clear hSp hc1 hc2 N1 N2
    by_cases h2 : C.length < 2
    · have HV : Hid (vLeast S C = 0) := Lib.hid (by simp only [vLeast, if_pos hz, if_pos h2])
      have HE : Hid (eLeast S C = 5) := Lib.hid (by simp only [eLeast, if_pos hz, if_pos h2])
      have hd : decide ((C.length : Int) < 2) = true := by simp; omega
      clear hz
      go_enter Try.func57, Try.ntmps57
      go_wp2_with fail
      refine (codeError_any ao S cap hn ac C capc hnc _ (hS.below B0) (hC.below B0)).mono ?_
      rintro e w1 ⟨rfl, hb⟩
      go_wp2_with fail
      go_ret2
      exact ⟨by rw [HV.out, HE.out]; rfl, B0.trans (hb.mono B0.size)⟩
    · have HV : Hid (vLeast S C = lstAll S C S.length C.length) := Lib.hid (by simp only [vLeast, if_pos hz, if_neg h2])
      have HE : Hid (eLeast S C = 0) := Lib.hid (by simp only [eLeast, if_pos hz, if_neg h2])
      have hd : decide ((C.length : Int) < 2) = false := by simp; omega
      clear hz
      go_enter Try.func57, Try.ntmps57
      go_wp2_with fail
      refine (codeError_any ao S cap hn ac C capc hnc _ (hS.below B0) (hC.below B0)).mono ?_
      rintro e w1 ⟨rfl, hb⟩
      have c1 := kept_cell hb (cell_new w (.slice ao S.length cap) 28) (lt_alloc _ _)
      have B1 : Below w.heap.size w w1 := B0.trans (hb.mono B0.size)
      clear hb B0
      go_wp2_with fail
      refine (digitParts_any ao S cap hlo hhi HSp.out.bd ac C capc (by omega) HC1.out _ (hS.below B1) (hC.below B1)).mono ?_
      rintro e w2 ⟨P, g, U, rfl, hp, hb2⟩
      have B2 : Below w.heap.size w w2 := B1.trans (hb2.mono B1.size)
      clear hb2 B1 c1
      go_wp2_with fail
      go_loopw [7, 27] (fun t i wr => ∃ k : Nat, k ≤ C.length ∧ i = .int .i64 k ∧ t = .int .i64 (lstAll S C 8 k) ∧ Below w2.heap.size w2 wr) (fun _ i _ => C.length - (intOf i).toNat)
      case atStart => exact ⟨0, Nat.zero_le _, rfl, rfl, Below.refl _ _⟩
      case round =>
        obtain ⟨k, hk, rfl, rfl, B⟩ := hrel
        by_cases hlt : k < C.length
        · have hck := kept_cell B (hp.row k hlt) hp.pl
          have hik := hp.ints hlt
          go_wp2_with fail
          go_loopw [7, 36] (fun t j wi => ∃ m : Nat, m ≤ k ∧ j = .int .i64 m ∧ t = .int .i64 (lstRow S C k (lstAll S C 8 k) m) ∧ Below w2.heap.size w2 wi) (fun _ j _ => k - (intOf j).toNat)
          case atStart => exact ⟨0, Nat.zero_le _, rfl, rfl, B⟩
          case round =>
            clear B hck
            obtain ⟨m, hm, rfl, rfl, B⟩ := hrel
            by_cases hlm : m < k
            · have hcm := kept_cell B (hp.row m (by omega)) hp.pl
              have him := hp.ints (k := m) (by omega)
              have HD := Lib.hid (diff_digs S (gi C k) (gi C m))
              go_wp2_with fail
              refine (differences_any _ _ (digs S (gi C k)) (digs S (gi C m)) S.length _ S.length _ _ (by omega) (digs_length _ _) (digs_length _ _) (Nat.le_refl _) (hik.below B) (him.below B)).mono ?_
              rintro e w3 ⟨rfl, hb3⟩
              rw [HD.out]
              replace B := B.trans (hb3.mono B.size)
              clear hb3 hcm
              go_wp2
              go_roundw
              case rel => exact ⟨m + 1, by omega, by go_num, rfl, B⟩
              case measure => simp [intOf]; omega
            · have em : m = k := by omega
              subst em
              go_wp2
              go_roundw
              case rel => exact ⟨m + 1, by omega, by go_num, rfl, B⟩
              case measure => simp [intOf]; omega
        · have ek : k = C.length := by omega
          have HL := Lib.hid (lstAll_start S C hhi (by omega))
          go_wp2
          go_ret2
          exact ⟨by rw [HV.out, HE.out, ← HL.out, ← ek]; rfl, B2.trans (B.mono B2.size)⟩
  · have HV : Hid (vLeast S C = 0) := Lib.hid (by simp only [vLeast, if_neg hz])
    have HE : Hid (eLeast S C = eCode S C) := Lib.hid (by simp only [eLeast, if_neg hz])
    have hzb : (eCode S C == 0) = false := by simpa using hz
    have hzn : (eCode S C != 0) = true := by simpa using hz
    clear hz
    go_enter Try.func57, Try.ntmps57
    go_wp2_with fail
    refine (codeError_any ao S cap hn ac C capc hnc _ (hS.below B0) (hC.below B0)).mono ?_
    rintro e w1 ⟨rfl, hb⟩
    go_wp2_with fail
    go_ret2
    exact ⟨by rw [HV.out, HE.out]; rfl, B0.trans (hb.mono B0.size)⟩

end Go.Proofs.Ytlkfmopcdmppmaa
