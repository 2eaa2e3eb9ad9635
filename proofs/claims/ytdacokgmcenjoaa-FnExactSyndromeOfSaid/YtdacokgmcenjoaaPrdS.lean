/-
  The contract of the model's product of two words. By an AI agent.
-/
import Derived.Test.YtdacokgmcenjoaaMathB
import Derived.Test.YtdacokgmcenjoaaSums2
import Derived.Deep.RegionHeld3
import Derived.Deep.QuietTactic
namespace Go.Proofs.Ytdacokgmcenjoaa
open Go.RowKit Cv
set_option linter.unusedVariables false
set_option linter.unusedSimpArgs false
set_option maxRecDepth 100000

set_option maxHeartbeats 2000000 in
theorem l05Product_any (ao : Option Addr) (S : List Int) (cap : Nat) (hP : Pl S) (u x : Int) (hu : Wd S u) (hx : Wd S x) (w : World) (hS : Ints w ao S) :
    Calls Try.prog 54 #[.agg #[.slice ao S.length cap], .int .i64 u, .int .i64 x] w fun e w' => e = .returned (.int .i64 (prW S u x)) ∧ Below w.heap.size w w' := by
  have HP := Lib.hid hP
  have HSp := Lib.hid hP.sp
  have hlo := hP.sp.lo
  have hhi := hP.sp.hi
  have N := nW_bd hP.sp
  have hq := q_bd hP
  have hu1 := hu.1
  have hu2 : u ≤ 9223372036854775807 := by have := hu.2; omega
  have hx1 := hx.1
  have hx2 : x ≤ 9223372036854775807 := by have := hx.2; omega
  obtain ⟨bS, oS, rfl, hbS, hcS⟩ := hS.at (show 0 < S.length by omega)
  have hcS0 := hcS 0 (by omega)
  rw [Nat.add_zero] at hcS0
  obtain ⟨q, hqq⟩ : ∃ q, q = gi S 0 := ⟨_, rfl⟩
  rw [← hqq] at hcS0 hq
  have HQQ := Lib.hid hqq
  clear hP hu hx hqq hcS
  go_enter Try.func54, Try.ntmps54
  go_wp2_with fail
  have c0 := cell_new w (.slice (some ⟨bS, oS, none⟩) S.length cap) 28
  have B0 : Below w.heap.size w (w.alloc (.cells #[.slice (some ⟨bS, oS, none⟩) S.length cap] 28)) := by go_grown
  go_region_held3 (fun w' => w'.cell? ⟨w.heap.size, 0, none⟩ = some (.slice (some ⟨bS, oS, none⟩) S.length cap)) (first | exact c0 | exact kept_cell hb1 c0 (lt_alloc _ _) | exact kept_cell hb2 (kept_cell hb1 c0 (lt_alloc _ _)) (lt_of_below hb1 (lt_alloc _ _))) (first | (go_at_call_of 48 u; refine (l01Digits_any (some ⟨bS, oS, none⟩) S cap hhi HSp.out.bd u hu1 hu2 _ (hS.below B0.drew)).mono ?_; rintro e w1 ⟨g1, rfl, o1, hb1'⟩; have hb1 := (Below.refl _ (w.alloc (.cells #[.slice (some ⟨bS, oS, none⟩) S.length cap] 28))).drew.trans hb1'; have B1 := B0.trans (hb1.mono B0.size)) | (go_at_call_of 48 x; refine (l01Digits_any (some ⟨bS, oS, none⟩) S cap hhi HSp.out.bd x hx1 hx2 _ (hS.below B1)).mono ?_; rintro e w2 ⟨g2, rfl, o2, hb2⟩))
  have c2 := kept_cell hb2 (kept_cell hb1 c0 (lt_alloc _ _)) (lt_of_below hb1 (lt_alloc _ _))
  have B2 := B1.trans (hb2.mono B1.size)
  have q1 := o1.base_le
  replace o1 := o1.below hb2
  have q2 := o2.base_le
  have l2 : w.heap.size < w2.heap.size := by have := q2.1; have := hb1.size; simp at this; omega
  have D1 : Hid (∀ k, k < S.length → w2.cell? ⟨g1, k, none⟩ = some (.int .i64 (dig S u k)) ∧ g1 < w2.heap.size) := Lib.hid fun k hk => ⟨by have h := o1.cell (k := k) (by rw [digs_length]; exact hk); rwa [gi_digs _ _ _ hk] at h, o1.base_le.2⟩
  have D2 : Hid (∀ k, k < S.length → w2.cell? ⟨g2, k, none⟩ = some (.int .i64 (dig S x k)) ∧ g2 < w2.heap.size) := Lib.hid fun k hk => ⟨by have h := o2.cell (k := k) (by rw [digs_length]; exact hk); rwa [gi_digs _ _ _ hk] at h, o2.base_le.2⟩
  clear hb1 hb1' hb2 c0 B0 B1 q1 q2 o2 o1
  go_wp2_with fail
  go_loopw [9, 19] (fun v i wr => ∃ k : Nat, k ≤ S.length ∧ i = .int .i64 k ∧ v = .int .i64 (prTo S u x k) ∧ Below w2.heap.size w2 wr) (fun _ i _ => S.length - (intOf i).toNat)
  case atStart => exact ⟨0, Nat.zero_le _, rfl, rfl, Below.refl _ _⟩
  case round =>
    obtain ⟨k, hk, rfl, rfl, B⟩ := hrel
    by_cases hlt : k < S.length
    · obtain ⟨h1, l1⟩ := D1.out k hlt
      obtain ⟨h2, l2'⟩ := D2.out k hlt
      have hc1 := kept_cell B h1 l1
      have hc2 := kept_cell B h2 l2'
      obtain ⟨p1, p2⟩ := prTo_bd HP.out u x k hk
      obtain ⟨d1, d2⟩ := dig_2 HP.out u k hlt
      obtain ⟨e1, e2⟩ := dig_2 HP.out x k hlt
      obtain ⟨m1, m2⟩ := mul_small d1 d2 e1 e2
      have E1 : IntKind.i64.wrap (dig S u k * dig S x k) = dig S u k * dig S x k := IntWalk.i64_in _ ⟨by omega, by omega⟩
      have E2 : IntKind.i64.wrap (prTo S u x k + dig S u k * dig S x k) = prTo S u x k + dig S u k * dig S x k := IntWalk.i64_in _ ⟨by omega, by omega⟩
      have kI : (k : Int) < (S.length : Int) := by omega
      have k0 : (0 : Int) ≤ (k : Int) := by omega
      clear h1 h2 l1 l2'
      go_wp2_with fail
      go_quiet (fail)
      go_wp2_with fail
      go_roundw
      case rel => exact ⟨k + 1, by omega, by go_num, rfl, below_drewN B _⟩
      case measure => simp [intOf]; omega
    · have ek : k = S.length := by omega
      have kI : ¬ (k : Int) < (S.length : Int) := by omega
      have cw := kept_cell B c2 l2
      have hcq := kept_cell (B2.trans (B.mono B2.size)) hcS0 hbS
      obtain ⟨p1, p2⟩ := prTo_bd HP.out u x k hk
      have E2 : (prTo S u x k).tmod q = prTo S u x k % q := Int.tmod_eq_emod_of_nonneg p1
      have hz : (q == 0) = false := by simp; omega
      have hz2 : ¬ q = 0 := by omega
      have n0 : (0 : Int) < (S.length : Int) := by omega
      have HR : Hid (prTo S u x k % q = prW S u x) := Lib.hid (by unfold prW; rw [← HQQ.out, ← ek])
      clear ek hlt
      go_wp2_with fail
      go_ret
      exact ⟨ret_int HR.out, B2.trans (B.mono B2.size)⟩

end Go.Proofs.Ytdacokgmcenjoaa
