/-
  The contract of the model's l03Order. By an AI agent.
-/
import Derived.Test.YtdacokgmcenjoaaMathC
import Derived.Test.YtdacokgmcenjoaaBool
import Derived.Test.YtdacokgmcenjoaaF2
namespace Go.Proofs.Ytdacokgmcenjoaa
open Go.RowKit Cv
set_option linter.unusedVariables false
set_option linter.unusedSimpArgs false
set_option maxRecDepth 100000

theorem ordTo_0 (p : List Int) (n : Int) : ordTo p n 0 = true := by unfold ordTo; rw [decide_eq_true]; intro i hi; omega
theorem ordTo_fail {p : List Int} {n : Int} {k : Nat} (hk : k < p.length) (h : ¬ ((0 ≤ gi p k ∧ gi p k < n) ∧ ∀ j, j < k → gi p j ≠ gi p k)) : isOrd p n = false := by
  rw [← Bool.not_eq_true, ord_iff]
  rintro ⟨_, g⟩
  unfold ordTo at g
  rw [decide_eq_true_eq] at g
  exact h (g k hk)
theorem mem_take_gi {p : List Int} {k : Nat} (hk : k ≤ p.length) (x : Int) : x ∈ p.take k ↔ ∃ j, j < k ∧ gi p j = x := by
  constructor
  · intro h
    obtain ⟨j, hj, e⟩ := mem_gi h
    rw [List.length_take] at hj
    exact ⟨j, by omega, by rw [← e, gi_take p k j (by omega)]⟩
  · rintro ⟨j, hj, rfl⟩
    rw [← gi_take p k j hj]
    exact gi_mem (by rw [List.length_take]; omega)

set_option maxHeartbeats 2000000 in
theorem l03Order_any (ap : Option Addr) (p : List Int) (capp : Nat) (hp32 : p.length ≤ 4294967296) (n : Nat) (hn1 : 1 ≤ n) (hn8 : n ≤ 8) (w : World) (hp : Ints w ap p) :
    Calls Try.prog 40 #[.slice ap p.length capp, .int .i64 (n : Int)] w fun e w' => e = .returned (.bool (isOrd p (n : Int))) ∧ Below w.heap.size w w' := by
  obtain ⟨i0, hi, hz0, hz1, hz2⟩ := info_parts infoBool
  have HST := Lib.hid (fun k => ordTo_step p n k)
  have HF := Lib.hid (fun k (hk : k < p.length) h => ordTo_fail (p := p) (n := n) hk h)
  have HO := Lib.hid (ord_iff p n)
  have E1 : IntKind.i64.wrap ((n : Int) - 1) = (n : Int) - 1 := IntWalk.i64_in _ ⟨by omega, by omega⟩
  go_enter Try.func40, Try.ntmps40
  go_wp2_with (at_make; refine wpList_make_full _ rfl _ _ 46 rfl w.heap.size 4 i0 (.bool false) 1 Try.underlying46 hi hz0 hz1 .i64 .i64 (n : Int) (n : Int) n rfl rfl rfl rfl (by rw [hz2]; omega) (by unfold maxLen; omega) (Nat.le_refl _) ?_; intro w1 hown hgrow)
  have B1 : Below w.heap.size w w1 := below_grown0 hgrow
  replace hown := ownb_made hown
  rw [← marB_0 p n] at hown
  clear hgrow
  go_loopw [6] (fun i wr => ∃ k : Nat, k ≤ p.length ∧ i = .int .i64 k ∧ Hid (ordTo p n k = true) ∧ OwnBools wr w.heap.size (.slice (some ⟨w.heap.size, 0, none⟩) n n) (marB p n k) ∧ Below w.heap.size w wr) (fun i _ => p.length - (intOf i).toNat)
  case atStart => exact ⟨0, Nat.zero_le _, rfl, Lib.hid (ordTo_0 _ _), hown, B1⟩
  case round =>
    clear hown B1
    obtain ⟨k, hk, rfl, HK, own, B⟩ := hrel
    by_cases hlt : k < p.length
    · obtain ⟨b, o, rfl, hbl, hc⟩ := hp.at hlt
      have hck := kept_cell B (hc k hlt) hbl
      have kI : (k : Int) < (p.length : Int) := by omega
      have k0 : (0 : Int) ≤ (k : Int) := by omega
      have HMT := Lib.hid (mem_take_gi (p := p) (k := k) hk)
      clear hc
      by_cases hr : 0 ≤ gi p k ∧ gi p k < n
      · have hin : inB (gi p k) 0 ((n : Int) - 1) = true := by simp [inB]; omega
        obtain ⟨D, hD⟩ : ∃ D : Nat, gi p k = (D : Int) := ⟨(gi p k).toNat, by omega⟩
        have hDn : D < n := by omega
        have hcell := own.cell (k := D) (by rw [marB_len]; exact hDn)
        rw [gb_marB p n k D hDn] at hcell
        have hf := own.free D
        rw [hD] at hck hin
        have D0 : (0 : Int) ≤ (D : Int) := by omega
        have D1 : (D : Int) < (n : Int) := by omega
        by_cases hm : (D : Int) ∈ p.take k
        · rw [decide_eq_true hm] at hcell
          have HFF : Hid (isOrd p n = false) := Lib.hid (HF.out k hlt (by
            rintro ⟨_, g⟩
            obtain ⟨j, hj, e⟩ := (HMT.out _).1 hm
            exact g j hj (by rw [e, hD])))
          clear hm hD hr
          go_wp2_with (first | (go_at_call 26; refine (l01In_any _ _ _ _).mono ?_; rw [hin]; rintro e w' ⟨rfl, rfl⟩) | fail)
          go_ret
          exact ⟨ret_bool HFF.out.symm, B⟩
        · rw [decide_eq_false hm] at hcell
          have HKS : Hid (ordTo p n (k + 1) = true) := Lib.hid ((HST.out k).2 ⟨HK.out, hr, fun j hj e => hm ((HMT.out _).2 ⟨j, hj, by rw [e, hD]⟩)⟩)
          have HMS := Lib.hid (marB_step p n k D hlt hD hDn)
          clear hm hD hr
          go_wp2_with (first | (go_at_call 26; refine (l01In_any _ _ _ _).mono ?_; rw [hin]; rintro e w' ⟨rfl, rfl⟩) | fail)
          go_roundw
          case rel => exact ⟨k + 1, by omega, by go_num, HKS, by rw [← HMS.out]; exact own.stored D true, B.setCell (by simp) _⟩
          case measure => simp [intOf]; omega
      · have hin : inB (gi p k) 0 ((n : Int) - 1) = false := by simp [inB]; omega
        have HFF : Hid (isOrd p n = false) := Lib.hid (HF.out k hlt (fun h => hr h.1))
        clear hr
        go_wp2_with (first | (go_at_call 26; refine (l01In_any _ _ _ _).mono ?_; rw [hin]; rintro e w' ⟨rfl, rfl⟩) | fail)
        go_ret
        exact ⟨ret_bool HFF.out.symm, B⟩
    · have ek : Hid (k = p.length) := Lib.hid (by omega)
      have kI : ¬ (k : Int) < (p.length : Int) := by omega
      have HE : Hid (isOrd p n = ((p.length : Int) == (n : Int))) := Lib.hid (by
        rw [Bool.eq_iff_iff, ord_iff, beq_iff_eq]
        exact ⟨fun h => h.1, fun h => ⟨h, by rw [← ek.out]; exact HK.out⟩⟩)
      go_wp2_with fail
      go_ret
      exact ⟨ret_bool HE.out.symm, B⟩

end Go.Proofs.Ytdacokgmcenjoaa
