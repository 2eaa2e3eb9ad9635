/-
  The contracts of CountBets. By an AI agent.
-/
import Derived.Test.YtecclcmndfaakaaSlE
import Derived.Test.YtecclcmndfaakaaSlS
import Derived.Test.YtecclcmndfaakaaOnesA
namespace Go.Proofs.Ytecclcmndfaakaa
open Go.RowKit Cv
set_option linter.unusedVariables false
set_option linter.unusedSimpArgs false
set_option maxRecDepth 100000

theorem ret_ii {a b c d : Int} (h1 : a = b) (h2 : c = d) : Ending.returned (.tuple #[.int .i64 a, .int .i64 c]) = .returned (.tuple #[.int .i64 b, .int .i64 d]) := by rw [h1, h2]
theorem ones_all : ∀ (m : Fin 16), ((bsum (m : Nat) 64 : Nat) : Int) = ones ((m : Nat) : Int) := by decide
theorem ones_bsum {m : Nat} (h : m < 16) : ((bsum m 64 : Nat) : Int) = ones (m : Int) := ones_all ⟨m, h⟩
theorem sl_bd {S T : List Int} (h : Sl S T) {k : Nat} (hk : k < T.length) : 0 ≤ gi T k ∧ gi T k < 16 := by
  have := h.bd k (by have := h.len; omega)
  omega

set_option maxHeartbeats 1000000 in
theorem betCount_any (a : Option Addr) (T : List Int) (c : Nat) (hl : T.length ≤ 8) (hb : ∀ k, k < T.length → 0 ≤ gi T k ∧ gi T k < 16) (w : World) (hT : Ints w a T) :
    Calls Try.prog 63 #[.slice a T.length c] w fun e w' => e = .returned (.int .i64 (prF (cbF T) T.length)) ∧ w' = w := by
  have HB := Lib.hid hb
  clear hb
  go_enter Try.func63, Try.ntmps63
  go_wp2_with fail
  go_loopw [3, 8] (fun p i wr => ∃ k : Nat, k ≤ T.length ∧ i = .int .i64 k ∧ p = .int .i64 (prF (cbF T) k) ∧ wr = w) (fun _ i _ => T.length - (intOf i).toNat)
  case atStart => exact ⟨0, Nat.zero_le _, rfl, rfl, rfl⟩
  case round =>
    obtain ⟨k, hk, rfl, rfl, hw⟩ := hrel
    subst hw
    obtain ⟨p1, p2⟩ := prF_small (cbF T) (fun j => ones_bd) k (by omega)
    by_cases hlt : k < T.length
    · obtain ⟨b, o, rfl, hbl, hc⟩ := hT.at hlt
      have hck := hc k hlt
      obtain ⟨t0, t1⟩ := HB.out k hlt
      have HO : Hid (prF (cbF T) (k + 1) = prF (cbF T) k * ones (gi T k)) := Lib.hid rfl
      obtain ⟨p3, p4⟩ := prF_small (cbF T) (fun j => ones_bd) (k + 1) (by omega)
      rw [HO.out] at p3 p4
      obtain ⟨m, hm⟩ := Int.eq_ofNat_of_zero_le t0
      rw [hm] at hck t1 p3 p4 HO
      have hm1 : m < 16 := by omega
      obtain ⟨p, hp⟩ : ∃ p, p = prF (cbF T) k := ⟨_, rfl⟩
      rw [← hp] at p1 p2 p3 p4 HO ⊢
      have hu : IntKind.u64.wrap (m : Int) = (m : Int) := by unfold IntKind.wrap; simp [IntKind.signed, IntKind.bits]; omega
      have HS := Lib.hid (ones_bsum hm1)
      obtain ⟨z, hz⟩ : ∃ z, z = ones (m : Int) := ⟨_, rfl⟩
      rw [← hz] at p3 p4 HO HS
      clear hc hp hm hz
      go_wp2_with fail
      refine (ones_any m (by omega) _).mono ?_
      rintro e w2 ⟨rfl, rfl⟩
      rw [HS.out]
      go_wp2_with fail
      go_roundw
      case rel => exact ⟨k + 1, by omega, by go_num, by rw [HO.out], by first | rfl | trivial⟩
      case measure => simp [intOf]; omega
    · have ek : Hid (k = T.length) := Lib.hid (by omega)
      go_wp2_with fail
      go_ret
      exact ⟨ret_int (by rw [ek.out]), rfl⟩

set_option maxHeartbeats 1000000 in
theorem impl_CountBets (ao : Option Addr) (S : List Int) (cap : Nat) (hn : S.length ≤ 4294967296) (at' : Option Addr) (T : List Int) (capt : Nat) (hnt : T.length ≤ 4294967296) (w : World) (hS : Ints w ao S) (hT : Ints w at' T) :
    Calls Try.prog 27 #[.agg #[.slice ao S.length cap], .slice at' T.length capt] w fun e w' => e = .returned (.tuple #[.int .i64 (vCb S T), .int .i64 (eSls S [T])]) ∧ Below w.heap.size w w' := by
  obtain ⟨W, hW⟩ : ∃ W, W = w.alloc (.cells #[.slice ao S.length cap] 28) := ⟨_, rfl⟩
  have hWs : W.heap.size = w.heap.size + 1 := by rw [hW]; simp
  have B0 : Below w.heap.size w W := by rw [hW]; go_grown
  have HW := Lib.hid hW
  clear hW
  have hsl := slips_one (c := capt) hnt (hT.below B0) 30 hWs.symm
  have B1 := B0.alloc B0.size (.cells #[.slice at' T.length capt] 30)
  by_cases hz : eSls S [T] = 0
  · obtain ⟨hSp, hSl⟩ := eSls1 hz
    have hlen := hSl.len
    have hhi := hSp.hi
    have hT8 : T.length ≤ 8 := by omega
    have HSl := Lib.hid hSl
    have HV : Hid (vCb S T = prF (cbF T) T.length) := Lib.hid (by unfold vCb; rw [if_pos hz])
    have HZ := Lib.hid hz
    have hzn : (eSls S [T] != 0) = false := by simp [hz]
    clear hz hSp hSl hlen
    go_enter Try.func27, Try.ntmps27
    go_wp2_with fail
    rw [← HW.out]
    refine (slipsError_any ao S cap hn _ [T] 1 1 rfl (by simp) _ (hS.below B1) hsl).mono ?_
    rintro e w1 ⟨rfl, hb⟩
    have B2 := B1.trans (hb.mono B1.size)
    clear hb hsl B1
    go_wp2_with fail
    refine (betCount_any at' T capt hT8 (fun k hk => sl_bd HSl.out hk) _ (hT.below B2)).mono ?_
    rintro e w2 ⟨rfl, rfl⟩
    go_wp2_with fail
    go_ret2
    exact ⟨ret_ii HV.out.symm HZ.out.symm, B2⟩
  · have HV : Hid (vCb S T = 0) := Lib.hid (by unfold vCb; rw [if_neg hz])
    have hzn : (eSls S [T] != 0) = true := by simpa using hz
    clear hz
    go_enter Try.func27, Try.ntmps27
    go_wp2_with fail
    rw [← HW.out]
    refine (slipsError_any ao S cap hn _ [T] 1 1 rfl (by simp) _ (hS.below B1) hsl).mono ?_
    rintro e w1 ⟨rfl, hb⟩
    go_wp2_with fail
    go_ret2
    exact ⟨ret_ii HV.out.symm rfl, B1.trans (hb.mono B1.size)⟩

set_option maxHeartbeats 1000000 in
theorem spec_CountBets (ao : Option Addr) (S : List Int) (cap : Nat) (hn : S.length ≤ 4294967296) (at' : Option Addr) (T : List Int) (capt : Nat) (hnt : T.length ≤ 4294967296) (w : World) (hS : Ints w ao S) (hT : Ints w at' T) :
    Calls Try.prog 26 #[.agg #[.slice ao S.length cap], .slice at' T.length capt] w fun e w' => e = .returned (.tuple #[.int .i64 (vCb S T), .int .i64 (eSls S [T])]) ∧ Below w.heap.size w w' := by
  obtain ⟨W, hW⟩ : ∃ W, W = w.alloc (.cells #[.slice ao S.length cap] 28) := ⟨_, rfl⟩
  have hWs : W.heap.size = w.heap.size + 1 := by rw [hW]; simp
  have B0 : Below w.heap.size w W := by rw [hW]; go_grown
  have HW := Lib.hid hW
  clear hW
  have hsl := slips_one (c := capt) hnt (hT.below B0) 30 hWs.symm
  have B1 := B0.alloc B0.size (.cells #[.slice at' T.length capt] 30)
  by_cases hz : eSls S [T] = 0
  · obtain ⟨hSp, hSl⟩ := eSls1 hz
    have hlen := hSl.len
    have hhi := hSp.hi
    have hT8 : T.length ≤ 8 := by omega
    have HSl := Lib.hid hSl
    have HV : Hid (vCb S T = prF (cbF T) T.length) := Lib.hid (by unfold vCb; rw [if_pos hz])
    have HZ := Lib.hid hz
    have hzn : (eSls S [T] != 0) = false := by simp [hz]
    clear hz hSp hSl hlen
    go_enter Try.func26, Try.ntmps26
    go_wp2_with fail
    rw [← HW.out]
    refine (l07Code_any ao S cap hn _ [T] 1 1 rfl (by simp) _ (hS.below B1) hsl).mono ?_
    rintro e w1 ⟨rfl, hb⟩
    have B2 := B1.trans (hb.mono B1.size)
    clear hb hsl B1
    go_wp2_with fail
    go_loopw [7, 18] (fun p i wr => ∃ k : Nat, k ≤ T.length ∧ i = .int .i64 k ∧ p = .int .i64 (prF (cbF T) k) ∧ Below w.heap.size w wr) (fun _ i _ => T.length - (intOf i).toNat)
    case atStart => exact ⟨0, Nat.zero_le _, rfl, rfl, B2⟩
    case round =>
      clear B2
      obtain ⟨k, hk, rfl, rfl, B⟩ := hrel
      obtain ⟨p1, p2⟩ := prF_small (cbF T) (fun j => ones_bd) k (by omega)
      by_cases hlt : k < T.length
      · obtain ⟨b, o, rfl, hbl, hc⟩ := hT.at hlt
        have hck := kept_cell B (hc k hlt) hbl
        obtain ⟨t0, t1⟩ := sl_bd HSl.out hlt
        have HO : Hid (prF (cbF T) (k + 1) = prF (cbF T) k * ones (gi T k)) := Lib.hid rfl
        obtain ⟨p3, p4⟩ := prF_small (cbF T) (fun j => ones_bd) (k + 1) (by omega)
        rw [HO.out] at p3 p4
        obtain ⟨p, hp⟩ : ∃ p, p = prF (cbF T) k := ⟨_, rfl⟩
        rw [← hp] at p1 p2 p3 p4 HO ⊢
        have p5 : 0 ≤ p * ((sgL (gi T k)).length : Int) := p3
        have p6 : p * ((sgL (gi T k)).length : Int) ≤ 65536 := p4
        clear hc hp p3 p4
        go_wp2_with fail
        refine (l07Signs_any (gi T k) t0 t1 _).mono ?_
        rintro e w2 ⟨v, rfl, own, hb⟩
        obtain ⟨av, cv, hv⟩ : ∃ ao cap, v = .slice ao (sgL (gi T k)).length cap := by obtain ⟨x, y, z, _⟩ := own.ints; exact ⟨x, y, z⟩
        subst hv
        replace B := B.trans (hb.mono B.size)
        clear hb own
        go_wp2_with fail
        go_roundw
        case rel => exact ⟨k + 1, by omega, by go_num, by rw [HO.out]; rfl, B⟩
        case measure => simp [intOf]; omega
      · have ek : Hid (k = T.length) := Lib.hid (by omega)
        go_wp2_with fail
        go_ret2
        exact ⟨ret_ii (by rw [HV.out, ek.out]) HZ.out.symm, B⟩
  · have HV : Hid (vCb S T = 0) := Lib.hid (by unfold vCb; rw [if_neg hz])
    have hzn : (eSls S [T] != 0) = true := by simpa using hz
    clear hz
    go_enter Try.func26, Try.ntmps26
    go_wp2_with fail
    rw [← HW.out]
    refine (l07Code_any ao S cap hn _ [T] 1 1 rfl (by simp) _ (hS.below B1) hsl).mono ?_
    rintro e w1 ⟨rfl, hb⟩
    go_wp2_with fail
    go_ret2
    exact ⟨ret_ii HV.out.symm rfl, B1.trans (hb.mono B1.size)⟩

end Go.Proofs.Ytecclcmndfaakaa
