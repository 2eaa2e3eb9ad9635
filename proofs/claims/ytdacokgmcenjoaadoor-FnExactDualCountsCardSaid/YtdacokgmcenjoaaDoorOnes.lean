/-
  The contract of math/bits.OnesCount64 on small numbers, and of a check of bits. By an AI agent.
-/
import Derived.Test.YtdacokgmcenjoaaDoorMathB
import Derived.Test.YtdacokgmcenjoaaDoorHelp
import Derived.Test.YtdacokgmcenjoaaDoorBits
namespace Go.Proofs.YtdacokgmcenjoaaDoor
open Go.RowKit Cv
set_option linter.unusedVariables false
set_option linter.unusedSimpArgs false
set_option maxRecDepth 100000

theorem ones_small (m : Nat) (hm : m < 256) (w : World) :
    Calls Tryd.prog 116 #[.int .u64 (m : Int)] w fun e w' => e = .returned (.int .i64 (bsum m 8)) ∧ w' = w := by
  go_enter Tryd.func116, Tryd.ntmps116
  go_wp2
  go_ret
  refine ⟨ret_int ?_, rfl⟩
  revert m
  decide +kernel

theorem bits_small {c x : Int} (hc : 0 ≤ c) (hc2 : c ≤ 9223372036854775807) (hx : 0 ≤ x) (hx2 : x ≤ 9223372036854775807) : IntKind.u64.wrap (bits .and .i64 c x) = ((c.toNat &&& x.toNat : Nat) : Int) := by
  obtain ⟨a, rfl⟩ : ∃ a : Nat, c = a := ⟨c.toNat, by omega⟩
  obtain ⟨b, rfl⟩ : ∃ b : Nat, x = b := ⟨x.toNat, by omega⟩
  have h : a &&& b ≤ a := Nat.and_le_left
  show IntKind.u64.wrap (IntKind.i64.wrap (((BitVec.ofInt 64 (a : Int) &&& BitVec.ofInt 64 (b : Int)).toNat : Nat) : Int)) = _
  rw [BitVec.toNat_and, bv_nat a (by omega), bv_nat b (by omega), IntWalk.i64_in _ ⟨by omega, by omega⟩, wrap_nat _ (by omega)]
  rfl

theorem bitRest_any (S : List Int) (hP : Pl S) (h2 : gi S 0 = 2) (c x : Int) (hc : Wd S c) (hx : Wd S x) (w : World) :
    Calls Tryd.prog 115 #[.int .i64 c, .int .i64 x] w fun e w' => e = .returned (.int .i64 (prW S c x)) ∧ Below w.heap.size w w' := by
  obtain ⟨m, hm, hm2, hpr⟩ := pr_bits hP h2 hc hx
  have N := nW_bd hP.sp
  have hb : IntKind.u64.wrap (bits .and .i64 c x) = (m : Int) := by rw [hm]; exact bits_small hc.1 (by have := hc.2; omega) hx.1 (by have := hx.2; omega)
  have hr : ((bsum m 8 : Nat) : Int).tmod 2 = prW S c x := by rw [hpr, Int.tmod_eq_emod_of_nonneg (by omega)]; omega
  have HR := Lib.hid hr
  clear hm hpr hc hx hP h2 hr
  go_enter Tryd.func115, Tryd.ntmps115
  go_wp2_with fail
  refine (ones_small m hm2 w).mono ?_
  rintro e w1 ⟨rfl, rfl⟩
  go_wp2_with fail
  go_ret
  exact ⟨ret_int HR.out, Below.refl _ _⟩

end Go.Proofs.YtdacokgmcenjoaaDoor
