/-
  The contracts of slices.BinarySearch on ascending numbers. By an AI agent.
-/
import Derived.Test.YtclahcnkkkgdhaaCh8
namespace Go.Proofs.Ytclahcnkkkgdhaa
open Go.RowKit Cv
set_option linter.unusedVariables false
set_option linter.unusedSimpArgs false
set_option maxRecDepth 100000

theorem isNaN_any (x : Int) (w : World) : Calls Try.prog 63 #[.int .i64 x] w fun e w' => e = .returned (.bool false) ∧ w' = w := by
  go_enter Try.func63, Try.ntmps63
  go_wp2_with fail
  go_ret
  exact ⟨by first | rfl | simp, rfl⟩

theorem less_any (x y : Int) (w : World) : Calls Try.prog 59 #[.int .i64 x, .int .i64 y] w fun e w' => e = .returned (.bool (decide (x < y))) ∧ w' = w := by
  go_enter Try.func59, Try.ntmps59
  go_wp2_with fail
  refine (isNaN_any x _).mono ?_
  rintro e w1 ⟨rfl, rfl⟩
  go_wp2_with fail
  go_ret
  exact ⟨rfl, rfl⟩

theorem asc_lt {L : List Int} (hA : Asc L) {i j : Nat} (h : i < j) (hj : j < L.length) : gi L i < gi L j := by
  have h2 := List.pairwise_iff_getElem.1 hA i j (by omega) hj h
  rw [gi_lt L i (by omega), gi_lt L j hj]
  exact h2

set_option maxHeartbeats 2000000 in
theorem binarySearch_any (a : Option Addr) (L : List Int) (cap : Nat) (hn : L.length ≤ 4096) (hA : Asc L) (r : Nat) (hr : r < L.length) (w : World) (hL : Ints w a L) :
    Calls Try.prog 48 #[.slice a L.length cap, .int .i64 (gi L r)] w fun e w' => e = .returned (.tuple #[.int .i64 (r : Int), .bool true]) ∧ w' = w := by
  obtain ⟨b, o, rfl, hbl, hcc⟩ := hL.at hr
  obtain ⟨x, hx⟩ : ∃ x, x = gi L r := ⟨_, rfl⟩
  have HB : Hid (∀ i, i < L.length → decide (gi L i < x) = decide (i < r)) := Lib.hid fun i hi => by
    rw [Bool.eq_iff_iff, decide_eq_true_iff, decide_eq_true_iff, hx]
    constructor
    · intro h
      rcases Nat.lt_or_ge i r with g | g
      · exact g
      · rcases Nat.eq_or_lt_of_le g with g | g
        · rw [g] at h; omega
        · have := asc_lt hA g hi; omega
    · intro h; exact asc_lt hA h hr
  have HX := Lib.hid hx
  have hcr := hcc r hr
  rw [← hx] at hcr ⊢
  have HC := Lib.hid hcc
  clear hx hcc hL hA
  go_enter Try.func48, Try.ntmps48
  go_wp2_with fail
  go_loopw [7, 8] (fun i j wr => ∃ p q : Nat, p ≤ r ∧ r ≤ q ∧ q ≤ L.length ∧ i = .int .i64 (p : Int) ∧ j = .int .i64 (q : Int) ∧ wr = w) (fun i j _ => (intOf j).toNat - (intOf i).toNat)
  case atStart => exact ⟨0, L.length, Nat.zero_le _, by omega, Nat.le_refl _, rfl, rfl, rfl⟩
  case round =>
    obtain ⟨p, q, h1, h2, h3, rfl, rfl, hw⟩ := hrel
    subst hw
    by_cases hlt : p < q
    · obtain ⟨m, hm⟩ : ∃ m, m = (p + q) / 2 := ⟨_, rfl⟩
      have m1 : p ≤ m := by omega
      have m2 : m < q := by omega
      have m3 : m < L.length := by omega
      have hck := HC.out m m3
      have hls := less_any (gi L m) x
      have E1 : IntKind.i64.wrap ((p : Int) + (q : Int)) = (p : Int) + (q : Int) := IntWalk.i64_in _ ⟨by omega, by omega⟩
      have E2 : IntKind.u64.wrap ((p : Int) + (q : Int)) = (p : Int) + (q : Int) := by unfold IntKind.wrap; simp [IntKind.signed, IntKind.bits]; omega
      have E3 : ((p : Int) + (q : Int)) / 2 = (m : Int) := by omega
      have E4 : IntKind.i64.wrap (m : Int) = (m : Int) := IntWalk.i64_in _ ⟨by omega, by omega⟩
      have E5 : IntKind.u64.wrap (m : Int) = (m : Int) := by unfold IntKind.wrap; simp [IntKind.signed, IntKind.bits]; omega
      have i1 : (0 : Int) ≤ (m : Int) := by omega
      have i2 : (m : Int) < (L.length : Int) := by omega
      have HM := Lib.hid hm
      clear hm
      by_cases hmr : m < r
      · rw [HB.out m m3, decide_eq_true hmr] at hls
        have HMR := Lib.hid hmr
        clear hmr
        go_wp2_with fail
        refine (hls _).mono ?_
        rintro e w2 ⟨rfl, rfl⟩
        clear E1 E2 E3 E5 hls
        go_wp2_with fail
        clear E4
        go_roundw
        case rel => exact ⟨m + 1, q, by have := HMR.out; omega, h2, h3, by go_num, rfl, by first | rfl | trivial⟩
        case measure => simp [intOf]; omega
      · rw [HB.out m m3, decide_eq_false hmr] at hls
        have HMR := Lib.hid hmr
        clear hmr
        go_wp2_with fail
        refine (hls _).mono ?_
        rintro e w2 ⟨rfl, rfl⟩
        clear E1 E2 E3 E5 hls
        go_wp2_with fail
        clear E4
        go_roundw
        case rel => exact ⟨p, m, h1, by have := HMR.out; omega, by omega, rfl, rfl, by first | rfl | trivial⟩
        case measure => simp [intOf]; omega
    · obtain rfl : p = r := by omega
      have i1 : (0 : Int) ≤ (p : Int) := by omega
      have i2 : (p : Int) < (L.length : Int) := by omega
      go_wp2_with fail
      go_ret2
      exact ⟨by first | rfl | simp, rfl⟩

end Go.Proofs.Ytclahcnkkkgdhaa
