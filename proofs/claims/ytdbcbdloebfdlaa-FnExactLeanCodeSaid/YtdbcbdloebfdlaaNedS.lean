/-
  The contract of the model of NeededWords. By an AI agent.
-/
import Derived.Test.YtdbcbdloebfdlaaTimes
import Derived.Test.YtdbcbdloebfdlaaErr2
import Derived.Test.YtdbcbdloebfdlaaMath20
import Derived.Test.YtdbcbdloebfdlaaAppend
import Derived.Deep.RegionHeld3
namespace Go.Proofs.Ytdbcbdloebfdlaa
open Go.RowKit Cv
set_option linter.unusedVariables false
set_option linter.unusedSimpArgs false
set_option maxRecDepth 100000

set_option maxHeartbeats 2000000 in
theorem l02Needed_any (ao : Option Addr) (S : List Int) (cap : Nat) (hSp : Sp S) (aT : Option Addr) (T : List Int) (N capT : Nat) (hT : Hid (T.length = N)) (x : Int) (hx : 0 ≤ x) (hx2 : x ≤ 9223372036854775807) (r : Int) (hN : Hid (nW S = (N : Int))) (w : World) (hS : Ints w ao S) (hTm : Ints w aT T) :
    Calls Try.prog 17 #[.agg #[.slice ao S.length cap], .slice aT N capT, .int .i64 x, .int .i64 r] w fun e w' => e = .returned (.bool (needB T S x r)) ∧ Below w.heap.size w w' := by
  have HSp := Lib.hid hSp
  have N2 : N ≤ 1024 := by have := (nW_bd hSp).2; have := hN.out; omega
  have hlb := ballW_len hSp x r
  have HB : Hid (∀ t, t < (ballW S x r).length → 0 ≤ gi (ballW S x r) t ∧ gi (ballW S x r) t < N) := Lib.hid fun t ht => by
    have h1 : 0 ≤ gi (ballW S x r) t ∧ gi (ballW S x r) t < ((nW S).toNat : Nat) := selTo_bd _ _ t ht
    have h2 := hN.out
    exact ⟨h1.1, by omega⟩
  clear hSp
  have B0 : Below w.heap.size w (w.alloc (.cells #[.slice ao S.length cap] 28)) := by go_grown
  go_enter Try.func17, Try.ntmps17
  go_wp2_with fail
  refine (l01Ball_any ao S cap HSp.out x hx hx2 r _ (hS.below B0)).mono ?_
  rintro e w1 ⟨v, rfl, ob, hb1⟩
  have B1 := B0.trans (hb1.mono B0.size)
  have s1 := B1.size
  obtain ⟨a_, k_, hv⟩ := ob.shape
  subst hv
  clear hb1 B0
  go_wp2_with fail
  go_loopw [10] (fun i wi => ∃ j : Nat, j ≤ (ballW S x r).length ∧ i = .int .i64 j ∧ Hid (oneTo T (ballW S x r) j = false) ∧ wi = w1) (fun i _ => (ballW S x r).length - (intOf i).toNat)
  case atStart => exact ⟨0, Nat.zero_le _, rfl, Lib.hid rfl, rfl⟩
  case round =>
    obtain ⟨j, hj, rfl, HO, rfl⟩ := hrel
    by_cases hlj : j < (ballW S x r).length
    · obtain ⟨bb, bo, rfl, hbb, hcb⟩ := (own_ints ob).at hlj
      obtain ⟨y1, y2⟩ := HB.out j hlj
      obtain ⟨u, hu⟩ : ∃ u : Nat, gi (ballW S x r) j = (u : Int) := ⟨(gi (ballW S x r) j).toNat, by omega⟩
      have hcj := hcb j hlj
      rw [hu] at hcj
      have hun : u < N := by omega
      obtain ⟨tb, to, rfl, htb, htc⟩ := (hTm.below B1).at (i := u) (by rw [hT.out]; exact hun)
      have hcu := htc u (by rw [hT.out]; exact hun)
      have HU := Lib.hid hu
      obtain ⟨t, ht⟩ : ∃ t, t = gi T u := ⟨_, rfl⟩
      rw [← ht] at hcu
      clear hcb htc hu y1 y2
      by_cases h1 : t = 1
      · have hd : (t == 1) = true := by simpa using h1
        have HR : Hid (needB T S x r = true) := Lib.hid (oneTo_mono (k := j + 1) (by omega) (by rw [oneTo, HU.out]; simp [← ht, h1]))
        clear h1 ht
        go_wp2_with fail
        go_ret
        exact ⟨by rw [HR.out]; rfl, B1⟩
      · have hd : (t == 1) = false := by simpa using h1
        have HO2 : Hid (oneTo T (ballW S x r) (j + 1) = false) := Lib.hid (by rw [oneTo, HO.out, HU.out]; simp [← ht, h1])
        clear h1 ht
        go_wp2_with fail
        go_roundw
        case rel => exact ⟨j + 1, by omega, by go_num, HO2, trivial⟩
        case measure => simp [intOf]; omega
    · have HR : Hid (needB T S x r = false) := Lib.hid (by unfold needB; rw [show (ballW S x r).length = j by omega]; exact HO.out)
      go_wp2_with fail
      go_ret
      exact ⟨by rw [HR.out]; rfl, B1⟩

end Go.Proofs.Ytdbcbdloebfdlaa
