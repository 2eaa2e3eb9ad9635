/-
  The contract of slices.Compact on numbers. By an AI agent.
-/
import Derived.Test.YtdacokgmcenjoaaDel
import Derived.Test.YtdacokgmcenjoaaMathB
import Derived.BigQuiet
namespace Go.Proofs.Ytdacokgmcenjoaa
open Go.RowKit Cv
set_option linter.unusedVariables false
set_option linter.unusedSimpArgs false
set_option maxRecDepth 100000

set_option maxHeartbeats 1000000 in
theorem compact_any (n g cap : Nat) (L : List Int) (w : World) (hl : L.length ≤ 1048576) (hrow : OwnInts w n (.slice (some ⟨g, 0, none⟩) L.length cap) L) :
    Calls Try.prog 81 #[.slice (some ⟨g, 0, none⟩) L.length cap] w fun e w' => ∃ v, e = .returned v ∧ OwnInts w' n v (cmpT L L.length) ∧ w.grownBy w' (some g) := by
  obtain ⟨hb1, hb2⟩ := hrow.base_le
  obtain ⟨hcap, hcm⟩ := own_cap hrow
  unfold maxLen at hcm
  have B0 : w.grownBy w (some g) := ⟨rfl, rfl, rfl, Nat.le_refl _, fun _ _ _ => rfl⟩
  by_cases h2 : L.length < 2
  · have HV : Hid (cmpT L L.length = L) := Lib.hid (by rw [cmpT_take L _ (Nat.le_refl _) (fun i h1 h3 => by omega), List.take_length])
    go_enter Try.func81, Try.ntmps81
    go_wp2_with fail
    go_ret
    exact ⟨_, rfl, by rw [HV.out]; exact hrow, B0⟩
  · go_enter Try.func81, Try.ntmps81
    go_wp2_with fail
    go_loopw [3] (fun vi wr => ∃ k : Nat, vi = .int .i64 k ∧ 1 ≤ k ∧ k ≤ L.length ∧ Hid (∀ i, 0 < i → i < k → gi L i ≠ gi L (i - 1)) ∧ OwnInts wr n (.slice (some ⟨g, 0, none⟩) L.length cap) L ∧ w.grownBy wr (some g)) (fun vi _ => L.length - (intOf vi).toNat)
    case atStart => exact ⟨1, rfl, by omega, by omega, Lib.hid fun i h1 h3 => by omega, hrow, B0⟩
    case round =>
      clear hrow B0
      obtain ⟨k, rfl, hk1, hk, HA, own, B⟩ := hrel
      by_cases hlt : k < L.length
      · have hc1 := own.cell (k := k) hlt
        have hc2 := own.cell (k := k - 1) (by omega)
        have E1 : IntKind.i64.wrap ((k : Int) - 1) = (k : Int) - 1 := IntWalk.i64_in _ ⟨by omega, by omega⟩
        have E2 : ((k : Int) - 1).toNat = k - 1 := by omega
        obtain ⟨x, hx⟩ : ∃ x, x = gi L k := ⟨_, rfl⟩
        obtain ⟨y, hy⟩ : ∃ y, y = gi L (k - 1) := ⟨_, rfl⟩
        rw [← hx] at hc1
        rw [← hy] at hc2
        have HX := Lib.hid hx
        have HY := Lib.hid hy
        clear hx hy
        by_cases he : x = y
        · have hd : (x == y) = true := by simpa using he
          have HS : Hid (CmpI L L k (k + 1)) := Lib.hid (cmpI_start hk1 hlt HA.out (by rw [← HX.out, ← HY.out, he]))
          clear he
          go_wp2_with fail
          go_quiet (fail)
          go_wp2_with fail
          have own2 := own.below (below_drewN (Below.refl wr.heap.size wr) nq)
          have B2 := grown_trans B (grown_of_below (below_drewN (Below.refl wr.heap.size wr) nq) (some g))
          clear hc1 hc2 own B
          go_loopw [3, 5] (fun vi vj w2 => ∃ (i j : Nat) (R : List Int), vi = .int .i64 i ∧ vj = .int .i64 j ∧ 1 ≤ j ∧ k + j ≤ L.length ∧ Hid (CmpI L R i (k + j)) ∧ OwnInts w2 n (.slice (some ⟨g, 0, none⟩) L.length cap) R ∧ w.grownBy w2 (some g)) (fun _ vj _ => L.length - k - (intOf vj).toNat)
          case atStart => exact ⟨k, 1, L, rfl, rfl, by omega, by omega, HS, own2, B2⟩
          case round =>
            clear own2 B2 HS
            obtain ⟨i, j, R, rfl, rfl, hj1, hj, HI, own, B⟩ := hrel
            have hij := HI.out.2.1
            have hRl := HI.out.1
            by_cases hlj : k + j < L.length
            · have hl2 : (j : Int) < ((L.length - k : Nat) : Int) := by omega
              have d1 := own.cell (k := k + j) (by omega)
              have d2 := own.cell (k := k + (j - 1)) (by omega)
              have d3 := own.cell (k := i) (by omega)
              have hfi := own.free i
              rw [HI.out.2.2.2 (k + j) (by omega)] at d1
              rw [HI.out.2.2.2 (k + (j - 1)) (by omega)] at d2
              have E3 : IntKind.i64.wrap ((j : Int) - 1) = (j : Int) - 1 := IntWalk.i64_in _ ⟨by omega, by omega⟩
              have E4 : ((j : Int) - 1).toNat = j - 1 := by omega
              have E5 : (0 : Int) ≤ (j : Int) - 1 := by omega
              have E6 : (j : Int) - 1 < ((L.length - k : Nat) : Int) := by omega
              obtain ⟨p, hp⟩ : ∃ p, p = gi L (k + j) := ⟨_, rfl⟩
              obtain ⟨q, hq⟩ : ∃ q, q = gi L (k + (j - 1)) := ⟨_, rfl⟩
              rw [← hp] at d1
              rw [← hq] at d2
              have HP := Lib.hid hp
              have HQ : Hid (q = gi L (k + j - 1)) := Lib.hid (by rw [hq, show k + (j - 1) = k + j - 1 by omega])
              clear hp hq
              by_cases he2 : p = q
              · have hd2 : (p != q) = false := by simpa using he2
                have hh : gi L (k + j) = gi L (k + j - 1) := by rw [← HP.out, ← HQ.out, he2]
                have HK : Hid (CmpI L R i (k + (j + 1))) := Lib.hid (cmpI_skip HI.out hh)
                clear hh
                clear he2
                go_wp2_with fail
                go_quiet (fail)
                go_wp2_with fail
                go_roundw
                case rel => exact ⟨i, j + 1, R, rfl, by go_num, by omega, by omega, HK, own.below (below_drewN (Below.refl wr.heap.size wr) _), grown_trans B (grown_of_below (below_drewN (Below.refl wr.heap.size wr) _) _)⟩
                case measure => simp [intOf]; omega
              · have hd2 : (p != q) = true := by simpa using he2
                have hh : gi L (k + j) ≠ gi L (k + j - 1) := by rw [← HP.out, ← HQ.out]; exact he2
                have HK : Hid (CmpI L (R.set i p) (i + 1) (k + (j + 1))) := Lib.hid (by rw [HP.out]; exact cmpI_keep HI.out hlj hh)
                clear hh
                have hi1 : (i : Int) < (L.length : Int) := by omega
                clear he2
                go_wp2_with fail
                go_quiet (fail)
                go_wp2_with fail
                go_roundw
                case rel => exact ⟨i + 1, j + 1, R.set i p, by go_num, by go_num, by omega, by omega, HK, (own.below (below_drewN (Below.refl wr.heap.size wr) nq)).stored i p, grown_setCell (grown_trans B (grown_of_below (below_drewN (Below.refl wr.heap.size wr) nq) _)) _ _⟩
                case measure => simp [intOf]; omega
            · have ej : k + j = L.length := by omega
              rw [ej] at HI hij
              obtain ⟨e1, e3⟩ := cmpI_end HI.out
              have hce : ¬ cap = i := by omega
              have hl2 : ¬ (j : Int) < ((L.length - k : Nat) : Int) := by omega
              have hcl : ∀ ty, (Builtin.clear_ #[22] ty #[.slice (some ⟨g, i, none⟩) (L.length - i) (cap - i)]).run Try.prog wr = .ok (.tuple #[]) (wr.setCells g i (List.replicate (L.length - i) (.int .i64 0))) :=
                fun ty => Lib.run_clear_slice wr _ _ ty _ Try.underlying22 (zero_of_info (n := 1) (v := .int .i64 0) (by kernel_rfl)).1 rfl rfl g i _ _ (by omega) (fun t ht => by rw [own.cell (k := i + t) (by omega)]; rfl) (fun t ht => own.free (i + t))
              obtain ⟨T', t1, t2, t3⟩ := own_zeros g (L.length - i) i wr n L.length cap R own
              have HB := grown_zeros g (L.length - i) i w wr B
              have HT : Hid (T'.take i = cmpT L L.length) := Lib.hid (by rw [t3, e1])
              have t4 := own_take t1 i (by omega)
              clear own B e1 t3 ej HI
              go_wp2_with fail
              go_ret
              exact ⟨_, rfl, by rw [← HT.out]; exact t4, HB⟩
        · have hd : (x == y) = false := by simpa using he
          have HA2 : Hid (∀ i, 0 < i → i < k + 1 → gi L i ≠ gi L (i - 1)) := Lib.hid fun i h1 h3 => by
            by_cases e : i = k
            · subst e; rw [← HX.out, ← HY.out]; exact he
            · exact HA.out i h1 (by omega)
          clear he
          go_wp2_with fail
          go_quiet (fail)
          go_wp2_with fail
          go_roundw
          case rel => exact ⟨k + 1, by go_num, by omega, by omega, HA2, own.below (below_drewN (Below.refl wr.heap.size wr) _), grown_trans B (grown_of_below (below_drewN (Below.refl wr.heap.size wr) _) _)⟩
          case measure => simp [intOf]; omega
      · have HV : Hid (cmpT L L.length = L) := Lib.hid (by rw [cmpT_take L _ (Nat.le_refl _) (fun i h1 h3 => HA.out i h1 (by omega)), List.take_length])
        go_wp2_with fail
        go_ret
        exact ⟨_, rfl, by rw [HV.out]; exact own, B⟩

end Go.Proofs.Ytdacokgmcenjoaa
