/-
  The contract of the model of DimensionOf. By an AI agent.
-/
import Derived.Test.YtcnnijeokefboaaGreatDoorMathB
import Derived.Test.YtcnnijeokefboaaGreatDoorPkNrS
namespace Go.Proofs.YtcnnijeokefboaaGreatDoor
open Go.RowKit Cv
set_option linter.unusedVariables false
set_option linter.unusedSimpArgs false
set_option maxRecDepth 100000

theorem l05Dimension_any (ao : Option Addr) (S : List Int) (cap : Nat) (hP : Pl S) (ac : Option Addr) (C : List Int) (capc : Nat) (hg : Gp S C) (hl : C.length ≤ 1024) (w : World) (hS : Ints w ao S) :
    Calls Tryz.prog 77 #[.agg #[.slice ao S.length cap], .slice ac C.length capc] w fun e w' => e = .returned (.int .i64 (basUp S C S.length).length) ∧ Below w.heap.size w w' := by
  have hlo := hP.sp.lo
  have hq := q_bd hP
  obtain ⟨d, hd⟩ : ∃ d, d = (basUp S C S.length).length := ⟨_, rfl⟩
  have hcp := code_pw hP hg
  have hle := basUp_len S C S.length
  have hhi := hP.sp.hi
  rw [← hd] at hcp hle ⊢
  have HLT : Hid (∀ j, pwI (gi S 0) j < (C.length : Int) ↔ j < d) := Lib.hid fun j => by rw [hcp]; exact pwI_lt hP j d
  have HPS := Lib.hid (fun j => pwI_pos hP j)
  obtain ⟨bS, oS, rfl, hbS, hcS⟩ := hS.at (show 0 < S.length by omega)
  have hcS0 := hcS 0 (by omega)
  rw [Nat.add_zero] at hcS0
  obtain ⟨q, hqq⟩ : ∃ q, q = gi S 0 := ⟨_, rfl⟩
  rw [← hqq] at hcS0 hq HLT HPS
  have B0 : Below w.heap.size w (w.alloc (.cells #[.slice (some ⟨bS, oS, none⟩) S.length cap] 26)) := by go_grown
  have c0 := cell_new w (.slice (some ⟨bS, oS, none⟩) S.length cap) 26
  have l0 := lt_alloc w (.cells #[.slice (some ⟨bS, oS, none⟩) S.length cap] 26)
  have HS : Hid (∀ j, pwI q (j + 1) = pwI q j * q) := Lib.hid fun j => rfl
  have HQ : Hid (q = 2 ∨ q = 3) := Lib.hid (by omega)
  clear hcp hqq hcS hP hg hd
  go_enter Tryz.func77, Tryz.ntmps77
  go_wp2_with fail
  go_loopw [5, 6] (fun c p wr => ∃ j : Nat, j ≤ d ∧ c = .int .i64 j ∧ p = .int .i64 (pwI q j) ∧ wr.cell? ⟨w.heap.size, 0, none⟩ = some (.slice (some ⟨bS, oS, none⟩) S.length cap) ∧ Below w.heap.size w wr) (fun c _ _ => d - (intOf c).toNat)
  case atStart => exact ⟨0, Nat.zero_le _, rfl, rfl, c0, B0⟩
  case round =>
    obtain ⟨j, hj, rfl, rfl, cs, B⟩ := hrel
    have h1 := HPS.out j
    have h2 := HLT.out j
    have h3 := HS.out j
    have hck := kept_cell B hcS0 hbS
    obtain ⟨p, hp⟩ : ∃ p, p = pwI q j := ⟨_, rfl⟩
    rw [← hp] at h1 h2 h3 ⊢
    have H3 := Lib.hid h3
    clear h3 hp
    by_cases hlt : p < (C.length : Int)
    · have hjd := h2.1 hlt
      have hpq : p * q ≤ 3072 := by rcases HQ.out with h | h <;> rw [h] <;> omega
      have hpq0 : 0 ≤ p * q := Int.mul_nonneg (by omega) (by omega)
      have hw : IntKind.i64.wrap (p * q) = p * q := IntWalk.i64_in _ ⟨by omega, by omega⟩
      clear h2
      go_wp2_with fail
      go_roundw
      case rel => exact ⟨j + 1, by omega, by go_num, by rw [H3.out], cs, B⟩
      case measure => simp [intOf]; omega
    · have ek : Hid (j = d) := Lib.hid (by have : ¬ j < d := fun h => hlt (h2.2 h); omega)
      clear h2
      go_wp2_with fail
      go_ret
      exact ⟨ret_int (by rw [ek.out]), B⟩

theorem spec_DimensionOf (ao : Option Addr) (S : List Int) (cap : Nat) (hn : S.length ≤ 4294967296) (ac : Option Addr) (C : List Int) (capc : Nat) (hnc : C.length ≤ 4294967296) (w : World) (hS : Ints w ao S) (hC : Ints w ac C) :
    Calls Tryz.prog 28 #[.agg #[.slice ao S.length cap], .slice ac C.length capc] w fun e w' => e = .returned (.tuple #[.int .i64 (vDim S C), .int .i64 (eLin S C)]) ∧ Below w.heap.size w w' := by
  have B0 : Below w.heap.size w (w.alloc (.cells #[.slice ao S.length cap] 26)) := by go_grown
  have c0 := cell_new w (.slice ao S.length cap) 26
  have l0 := lt_alloc w (.cells #[.slice ao S.length cap] 26)
  have h1 := l05Given_any ao S cap hn ac C capc hnc _ (hS.below B0) (hC.below B0)
  by_cases hz : eLin S C = 0
  · have hc0 : eCode S C = 0 := by have h := hz; unfold eLin at h; split at h; assumption; omega
    have hlb : linB S C = true := by
      have h := hz
      unfold eLin at h
      rw [if_pos hc0] at h
      split at h
      · assumption
      · cases h
    obtain ⟨hP, hg⟩ := lin_gp hc0 hlb
    have hlen := code_len0 hc0
    have HV : Hid (vDim S C = (basUp S C S.length).length) := Lib.hid (by unfold vDim; rw [if_pos hz])
    rw [hz] at h1
    have HZ := Lib.hid hz
    have H1 := Lib.hid h1
    have HA := Lib.hid (fun (W : World) (h1 : Ints W ao S) => l05Dimension_any ao S cap hP ac C capc hg hlen W h1)
    clear hz h1 hc0 hlb hP hg
    go_enter Tryz.func28, Tryz.ntmps28
    go_wp2_with fail
    refine H1.out.mono ?_
    rintro e w1 ⟨rfl, hb⟩
    have c1 := kept_cell hb c0 l0
    have B1 := B0.trans (hb.mono B0.size)
    clear hb c0 l0 B0
    go_wp2_with fail
    refine (HA.out w1 (hS.below B1)).mono ?_
    rintro e w2 ⟨rfl, hb2⟩
    go_wp2_with fail
    go_ret2
    exact ⟨by rw [HZ.out, HV.out]; rfl, B1.trans (hb2.mono B1.size)⟩
  · have hzn : (eLin S C != 0) = true := by simpa using hz
    have HV : Hid (vDim S C = 0) := Lib.hid (by unfold vDim; rw [if_neg hz])
    clear hz
    go_enter Tryz.func28, Tryz.ntmps28
    go_wp2_with fail
    refine h1.mono ?_
    rintro e w1 ⟨rfl, hb⟩
    go_wp2_with fail
    go_ret2
    exact ⟨by rw [HV.out]; rfl, B0.trans (hb.mono B0.size)⟩

end Go.Proofs.YtcnnijeokefboaaGreatDoor
