/-
  The contracts of IsPlain. By an AI agent.
-/
import Derived.Test.YtfgpenldeckoaaaMathB
import Derived.Test.YtfgpenldeckoaaaCtn
import Derived.Shelf.Abstract
namespace Go.Proofs.Ytfgpenldeckoaaa
open Go.RowKit Go.Shelf Cv
set_option linter.unusedVariables false
set_option linter.unusedSimpArgs false
set_option maxRecDepth 100000

theorem isOther_any (qb : Nat) (q x : Int) (W : World) (h : W.cell? ⟨qb, 0, none⟩ = some (.int .i64 q)) :
    Calls Try.prog 119 #[.int .i64 x, .pointer (some ⟨qb, 0, none⟩)] W fun e w' => e = .returned (.bool (x != q)) ∧ Below W.heap.size W w' := by
  go_enter Try.func119, Try.ntmps119
  go_wp2
  go_ret
  exact ⟨rfl, Below.refl _ _⟩

set_option maxHeartbeats 1000000 in
theorem isPlain_any (ao : Option Addr) (S : List Int) (cap : Nat) (h1 : 1 ≤ S.length) (hn : S.length ≤ 4294967296) (w : World) (hS : Ints w ao S) :
    Calls Try.prog 104 #[.agg #[.slice ao S.length cap]] w fun e w' => e = .returned (.bool (isPl S)) ∧ Below w.heap.size w w' := by
  obtain ⟨b, o, rfl, hbl, hc⟩ := hS.at (show 0 < S.length by omega)
  have hc0 := hc 0 (by omega)
  have hk0 : (w.alloc (.cells #[.slice (some ⟨b, o, none⟩) S.length cap] 28)).cell? ⟨b, o + 0, none⟩ = some (.int .i64 (gi S 0)) := kept_cell ((Below.refl _ _).alloc (Nat.le_refl _) _) hc0 hbl
  rw [Nat.add_zero] at hk0
  clear hc hc0
  have HP := Lib.hid (isPl_any h1)
  by_cases hq : gi S 0 ≤ 3
  · obtain ⟨W2, hW2⟩ : ∃ W2, W2 = (w.alloc (.cells #[.slice (some ⟨b, o, none⟩) S.length cap] 28)).alloc (.cells #[.int .i64 (gi S 0)] 2) := ⟨_, rfl⟩
    have B2 : Below w.heap.size w W2 := by rw [hW2]; go_grown
    have s2 : W2.heap.size = w.heap.size + 1 + 1 := by rw [hW2]; simp
    have hnb : W2.cell? ⟨w.heap.size + 1, 0, none⟩ = some (.int .i64 (gi S 0)) := by
      have h := cell_new (w.alloc (.cells #[.slice (some ⟨b, o, none⟩) S.length cap] 28)) (.int .i64 (gi S 0)) 2
      rw [World.size_alloc] at h; rw [hW2]; exact h
    have HW2 := Lib.hid hW2
    have hcont := containsFunc_ints (some ⟨b, o, none⟩) cap S 119 (enters_of Try.func119 (by kernel_rfl) rfl) #[] #[.pointer (some ⟨w.heap.size + 1, 0, none⟩)] (fun x => x != gi S 0) W2 hn (hS.below B2) (fun W' x hb' _ => isOther_any (w.heap.size + 1) (gi S 0) x W' (kept_cell hb' hnb (by omega)))
    clear hW2
    go_enter Try.func104, Try.ntmps104
    go_wp2_with fail
    rw [← HW2.out]
    refine hcont.mono ?_
    rintro e w3 ⟨rfl, hb3⟩
    go_wp2_with fail
    go_ret
    exact ⟨ret_bool (by rw [HP.out, decide_eq_true hq]; rfl), B2.trans (hb3.mono (by omega))⟩
  · go_enter Try.func104, Try.ntmps104
    go_wp2_with fail
    go_ret
    exact ⟨ret_bool (by rw [HP.out, decide_eq_false (by omega)]; rfl), by go_grown⟩

set_option maxHeartbeats 1000000 in
theorem l05Plain_any (ao : Option Addr) (S : List Int) (cap : Nat) (hn : S.length ≤ 4294967296) (w : World) (hS : Ints w ao S) :
    Calls Try.prog 103 #[.agg #[.slice ao S.length cap]] w fun e w' => e = .returned (.bool (isPl S)) ∧ Below w.heap.size w w' := by
  have B0 : Below w.heap.size w (w.alloc (.cells #[.slice ao S.length cap] 28)) := by go_grown
  have c0 := cell_new w (.slice ao S.length cap) 28
  have l0 := lt_alloc w (.cells #[.slice ao S.length cap] 28)
  go_enter Try.func103, Try.ntmps103
  go_wp2_with fail
  go_loopw [7] (fun i wr => ∃ k : Nat, k ≤ S.length ∧ i = .int .i64 k ∧ Hid (∀ j, j < k → gi S j = gi S 0 ∧ gi S j ≤ 3) ∧ wr.cell? ⟨w.heap.size, 0, none⟩ = some (.slice ao S.length cap) ∧ w.heap.size < wr.heap.size ∧ Below w.heap.size w wr) (fun i _ => S.length - (intOf i).toNat)
  case atStart => exact ⟨0, Nat.zero_le _, rfl, Lib.hid fun j h => by omega, c0, l0, B0⟩
  case round =>
    clear c0 l0 B0
    obtain ⟨k, hk, rfl, HK, c, l, B⟩ := hrel
    by_cases hlt : k < S.length
    · obtain ⟨b, o, rfl, hbl, hc⟩ := hS.at hlt
      have hck := kept_cell B (hc k hlt) hbl
      have hc0 := kept_cell B (hc 0 (by omega)) hbl
      rw [Nat.add_zero] at hc0
      have i1 : (0 : Int) ≤ (k : Int) := by omega
      have i2 : (k : Int) < (S.length : Int) := by omega
      have i3 : (0 : Int) < (S.length : Int) := by omega
      clear hc
      by_cases hq : gi S k = gi S 0
      · have e1 : (gi S k != gi S 0) = false := by simp [hq]
        by_cases hq3 : 3 < gi S k
        · have HQ := Lib.hid (isPl_not hlt (by omega))
          have hd : decide (3 < gi S k) = true := by simpa using hq3
          clear hq hq3
          go_wp2_with fail
          go_quiet (fail)
          go_wp2_with fail
          go_ret
          exact ⟨ret_bool HQ.out.symm, below_drewN B _⟩
        · have HQ := Lib.hid (And.intro hq (show gi S k ≤ 3 by omega))
          have hd : decide (3 < gi S k) = false := by simpa using hq3
          clear hq hq3
          go_wp2_with fail
          go_quiet (fail)
          go_wp2_with fail
          go_roundw
          case rel =>
            refine ⟨k + 1, by omega, by go_num, Lib.hid fun j hj => ?_, c, l, below_drewN B _⟩
            by_cases e : j = k
            · subst e; exact HQ.out
            · exact HK.out j (by omega)
          case measure => simp [intOf]; omega
      · have HQ := Lib.hid (isPl_not hlt (by omega))
        have e1 : (gi S k != gi S 0) = true := by simpa using hq
        clear hq
        go_wp2_with fail
        go_quiet (fail)
        go_wp2_with fail
        go_ret
        exact ⟨ret_bool HQ.out.symm, below_drewN B _⟩
    · have HP : Hid (isPl S = true) := Lib.hid ((isPl_iff S).2 fun j hj => HK.out j (by omega))
      go_wp2_with fail
      go_ret
      exact ⟨ret_bool HP.out.symm, B⟩

end Go.Proofs.Ytfgpenldeckoaaa
