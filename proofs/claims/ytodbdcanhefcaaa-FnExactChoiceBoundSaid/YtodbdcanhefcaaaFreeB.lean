/-
  The contracts of FreeBound and PlaceBound. By an AI agent.
-/
import Derived.Test.YtodbdcanhefcaaaMath
import Derived.Test.YtodbdcanhefcaaaNum
import Derived.Test.YtodbdcanhefcaaaSeq
import Derived.Test.YtodbdcanhefcaaaAppendAt
import Derived.Test.YtodbdcanhefcaaaMark
import Derived.Test.YtodbdcanhefcaaaSums2
import Derived.StillTailTactics
import Derived.BigRegion
import Derived.IntWalk
namespace Go.Proofs.Ytodbdcanhefcaaa
open Go.RowKit Cv
set_option linter.unusedVariables false
set_option linter.unusedSimpArgs false
set_option maxRecDepth 100000

set_option maxHeartbeats 4000000 in
theorem l04Over_any (ao : Option Addr) (S : List Int) (cap : Nat) (hSp : Sp S) (r : Int) (hr0 : 0 ≤ r) (hr8 : r ≤ 8) (w : World) (hS : Ints w ao S) :
    Calls Try.prog 67 #[.agg #[.slice ao S.length cap], .int .i64 r] w fun e w' => e = .returned (.int .i64 (overN S r)) ∧ Below w.heap.size w w' := by
  have hlo := hSp.lo
  have hhi := hSp.hi
  have HSp := Lib.hid hSp
  have B0 : Below w.heap.size w ((w.alloc (.cells #[.slice ao S.length cap] 28)).alloc (.cells #[] 2)) := by go_grown
  have c0 : ((w.alloc (.cells #[.slice ao S.length cap] 28)).alloc (.cells #[] 2)).cell? ⟨w.heap.size, 0, none⟩ = some (.slice ao S.length cap) := kept_cell ((Below.refl _ (w.alloc (.cells #[.slice ao S.length cap] 28))).alloc (Nat.le_refl _) _) (cell_new _ _ _) (lt_alloc _ _)
  have oo := own_empty (w.alloc (.cells #[.slice ao S.length cap] 28)) (w.heap.size + 1) (by simp) rfl
  simp only [World.size_alloc] at oo
  clear hSp
  go_enter Try.func67, Try.ntmps67
  go_wp2_with fail
  refine (l01N_sp ao S cap _ HSp.out (hS.below B0)).mono ?_
  rintro e w1 ⟨rfl, hb⟩
  have c1 := kept_cell hb c0 (by simp; omega)
  have B1 := B0.trans (hb.mono B0.size)
  have o1 := oo.below hb
  have s1 : w.heap.size < w1.heap.size := by have := hb.size; simp at this; omega
  clear hb c0 B0 oo
  go_wp2_with fail
  go_loopw [5, 7] (fun v i wr => ∃ (k : Nat) (D : List Int), k ≤ S.length ∧ i = .int .i64 k ∧ OwnInts wr (w.heap.size + 1) v D ∧ Hid (D.Perm (S.take k) ∧ Desc D) ∧ wr.cell? ⟨w.heap.size, 0, none⟩ = some (.slice ao S.length cap) ∧ w.heap.size < wr.heap.size ∧ Below w.heap.size w wr) (fun _ i _ => S.length - (intOf i).toNat)
  case atStart => exact ⟨0, [], Nat.zero_le _, rfl, o1, Lib.hid ⟨by simp, List.Pairwise.nil⟩, c1, s1, B1⟩
  case round =>
    clear c1 s1 B1 o1
    obtain ⟨k, D, hk, rfl, own, HD, c, l, B⟩ := hrel
    obtain ⟨ad, kd, hv⟩ := own.shape
    subst hv
    by_cases hlt : k < S.length
    · obtain ⟨b, o, rfl, hbl, hc⟩ := hS.at hlt
      have hck : wr.cell? ⟨b, o + k, none⟩ = some (.int .i64 (gi S k)) := kept_cell B (hc k hlt) hbl
      have hcA : ∀ o', (wr.alloc o').cell? ⟨b, o + k, none⟩ = some (.int .i64 (gi S k)) := fun o' => kept_cell (B.alloc B.size o') (hc k hlt) hbl
      have HCK := Lib.hid (hc k hlt)
      obtain ⟨q1, q2⟩ := HSp.out.bd k hlt
      obtain ⟨x, hx⟩ : ∃ x, x = gi S k := ⟨_, rfl⟩
      rw [← hx] at hck hcA HCK q1 q2
      have HX := Lib.hid hx
      obtain ⟨m, hm⟩ : ∃ m, m = D.length := ⟨_, rfl⟩
      have HM := Lib.hid hm
      have hmk : m ≤ 8 := by have := HD.out.1.length_eq; simp at this; omega
      rw [← hm] at own ⊢
      have hs := B.size
      clear hc hx hm
      go_wp2_with (at_builtin; refine wpList_append_int rfl _ _ rfl (w.heap.size + 1) _ _ rfl (own.alloc _) wr.heap.size _ rfl (cell_new _ _ _) (by have := HM.out; omega) (by rw [World.size_alloc]; omega) ?_; intro v' w3 hown' hgrow)
      have B3 := grown_below (B.alloc hs _) (by rw [World.size_alloc]; omega) hgrow (own.alloc _) (by omega)
      have c3 : w3.cell? ⟨w.heap.size, 0, none⟩ = some (.slice (some ⟨b, o, none⟩) S.length cap) := hgrow.cell (a := ⟨w.heap.size, 0, none⟩) (kept_cell ((Below.refl wr.heap.size wr).alloc (Nat.le_refl _) _) c l) (fun e => by have := World.ownsRow.lt own _ e.symm; simp at this; omega)
      have l3 : w.heap.size < w3.heap.size := by have := hgrow.size; simp at this; omega
      obtain ⟨g, kg, hv⟩ := own_snoc hown'
      subst hv
      rw [← HM.out] at hown' ⊢
      have HI0 : Hid (InsI D x (D ++ [x]) m) := Lib.hid (by rw [HM.out]; exact insI_start D x)
      clear own hgrow c l B hck hcA
      go_wp2_with fail
      go_loopw [8] (fun t wi => ∃ (a : Nat) (T : List Int), t = .int .i64 a ∧ a ≤ m ∧ Hid (InsI D x T a) ∧ OwnInts wi (w.heap.size + 1) (.slice (some ⟨g, 0, none⟩) (m + 1) kg) T ∧ wi.cell? ⟨w.heap.size, 0, none⟩ = some (.slice (some ⟨b, o, none⟩) S.length cap) ∧ w.heap.size < wi.heap.size ∧ Below w.heap.size w wi) (fun t _ => (intOf t).toNat)
      case atStart => exact ⟨m, _, rfl, Nat.le_refl _, HI0, hown', c3, l3, B3⟩
      case round =>
        clear hown' c3 l3 B3 HI0
        obtain ⟨a, T, rfl, ha, HI, own, c, l, B⟩ := hrel
        have hck : wr.cell? ⟨b, o + k, none⟩ = some (.int .i64 x) := kept_cell B HCK.out hbl
        have hgb := own.base_le
        have hTl : Hid (T.length = m + 1) := Lib.hid (by rw [HI.out.len, HM.out])
        by_cases ha0 : 0 < a
        · obtain ⟨j, rfl⟩ : ∃ j, a = j + 1 := ⟨a - 1, by omega⟩
          have cj := own.cell (k := j) (by have := hTl.out; omega)
          have cj1 := own.cell (k := j + 1) (by have := hTl.out; omega)
          have hfree := own.free (j + 1)
          obtain ⟨y, hy⟩ : ∃ y, y = gi T j := ⟨_, rfl⟩
          rw [← hy] at cj
          have HY := Lib.hid hy
          clear hy
          have E1 : IntKind.i64.wrap ((j : Int) + 1 - 1) = (j : Int) := by rw [Int.add_sub_cancel]; exact IntWalk.i64_in _ ⟨by omega, by omega⟩
          have E1' : IntKind.i64.wrap (j : Int) = (j : Int) := IntWalk.i64_in _ ⟨by omega, by omega⟩
          have i0 : (0 : Int) < (j : Int) + 1 := by omega
          have i1 : (j : Int) < (m : Int) + 1 := by omega
          have i2 : (j : Int) + 1 < (m : Int) + 1 := by omega
          have i3 : (0 : Int) ≤ (j : Int) := by omega
          have i4 : (0 : Int) ≤ (j : Int) + 1 := by omega
          by_cases hxy : y < x
          · have hd : decide (y < x) = true := by simpa using hxy
            have HN : Hid (InsI D x (T.set (j + 1) y) j) := Lib.hid (by rw [HY.out]; exact insI_step HI.out (by rw [← HY.out]; exact hxy))
            have HST := Lib.hid (fun n => (own.below (below_drewN (Below.refl _ wr) n)).stored (j + 1) y)
            clear hxy
            go_wp2
            go_quiet (fail)
            go_wp2
            go_roundw
            case rel => exact ⟨j, _, by go_num, by omega, HN, HST.out _, cell_set_other (kept_cell (below_drewN (Below.refl _ wr) _) c l) (by simp; omega), by have := (below_drewN (Below.refl wr.heap.size wr) nq).size; simp; omega, (below_drewN B _).setCell (by simp; omega) _⟩
            case measure => simp [intOf]
          · have hd : decide (y < x) = false := by simpa using hxy
            have HEND : Hid ((T.set (j + 1) x).Perm (S.take (k + 1)) ∧ Desc (T.set (j + 1) x)) := Lib.hid (by
              rw [insI_end HI.out]
              refine ⟨(ins_perm D x (j + 1)).trans ?_, ins_desc HI.out HD.out.2 (.inr ?_)⟩
              · rw [take_snoc _ _ hlt, HX.out]; exact HD.out.1.append_right _
              · rw [Nat.add_sub_cancel, ← HI.out.lo j (by omega), ← HY.out]; exact hxy)
            have HST := Lib.hid (fun n => (own.below (below_drewN (Below.refl _ wr) n)).stored (j + 1) x)
            have HSL : Hid ((T.set (j + 1) x).length = m + 1) := Lib.hid (by rw [List.length_set]; exact hTl.out)
            clear hxy
            go_wp2
            go_quiet (fail)
            go_wp2
            go_roundw
            case rel => exact ⟨k + 1, _, by omega, by go_num, HST.out _, HEND, cell_set_other (kept_cell (below_drewN (Below.refl _ wr) _) c l) (by simp; omega), by have := (below_drewN (Below.refl wr.heap.size wr) nq).size; simp; omega, (below_drewN B _).setCell (by simp; omega) _⟩
            case measure => simp [intOf]; omega
        · obtain rfl : a = 0 := by omega
          have hfree := own.free 0
          have cj1 := own.cell (k := 0) (by have := hTl.out; omega)
          have i0 : ¬ (0 : Int) < 0 := by omega
          have i2 : (0 : Int) < (m : Int) + 1 := by omega
          have HEND : Hid ((T.set 0 x).Perm (S.take (k + 1)) ∧ Desc (T.set 0 x)) := Lib.hid (by
            rw [insI_end HI.out]
            refine ⟨(ins_perm D x 0).trans ?_, ins_desc HI.out HD.out.2 (.inl rfl)⟩
            rw [take_snoc _ _ hlt, HX.out]; exact HD.out.1.append_right _)
          have HST := Lib.hid (fun n => (own.below (below_drewN (Below.refl _ wr) n)).stored 0 x)
          go_wp2
          go_quiet (fail)
          go_wp2
          go_roundw
          case rel => exact ⟨k + 1, _, by omega, by go_num, HST.out _, HEND, cell_set_other (kept_cell (below_drewN (Below.refl _ wr) _) c l) (by simp; omega), by have := (below_drewN (Below.refl wr.heap.size wr) nq).size; simp; omega, (below_drewN B _).setCell (by simp; omega) _⟩
          case measure => simp [intOf]; omega
    · have HDS : Hid (D.reverse = sorted S ∧ D.length = S.length) := Lib.hid (by
        have e : k = S.length := by omega
        have h := HD.out.1
        rw [e, List.take_length] at h
        exact ⟨desc_sorted h HD.out.2, h.length_eq⟩)
      obtain ⟨m, hm⟩ : ∃ m, m = D.length := ⟨_, rfl⟩
      have HM := Lib.hid hm
      have hm8 : m ≤ 8 := by have := HDS.out.2; omega
      rw [← hm] at own ⊢
      obtain ⟨rn, hrn⟩ : ∃ rn : Nat, r = (rn : Int) := ⟨r.toNat, by omega⟩
      have HO0 := Lib.hid (over_zero S)
      have hlI : ¬ (k : Int) < (S.length : Int) := by omega
      clear hm
      subst hrn
      go_wp2_with fail
      go_loopw [6, 9] (fun o j wi => ∃ t : Nat, t ≤ m ∧ t ≤ rn ∧ j = .int .i64 t ∧ o = .int .i64 (overN S (t : Int)) ∧ OwnInts wi (w.heap.size + 1) (.slice ad m kd) D ∧ Below w.heap.size w wi) (fun _ j _ => rn - (intOf j).toNat)
      case atStart => exact ⟨0, Nat.zero_le _, Nat.zero_le _, rfl, by rw [← HO0.out]; rfl, own, B⟩
      case round =>
        clear own B c l
        obtain ⟨t, ht1, ht2, rfl, rfl, own, B⟩ := hrel
        have HOB := over_bd HSp.out (t : Int)
        by_cases htr : t < rn
        · have j0 : (t : Int) < (rn : Int) := by omega
          by_cases htm : t < m
          · have j1 : (t : Int) < (m : Int) := by omega
            obtain ⟨b, o, he, hbl, hc⟩ := (own_ints own).at (i := t) (by have := HM.out; omega)
            subst he
            have hct := hc t (by have := HM.out; omega)
            have HG : Hid (gi D t = gi (sorted S) (S.length - 1 - t)) := Lib.hid (by
              rw [← HDS.out.1, gi_reverse _ _ (by have := HM.out; have := HDS.out.2; omega)]
              congr 1; have := HM.out; have := HDS.out.2; omega)
            have hgb := sorted_bd HSp.out.bd (S.length - 1 - t) (by have := HM.out; have := HDS.out.2; omega)
            rw [HG.out] at hct
            have HSTEP := Lib.hid (over_step HSp.out.bd t (by have := HM.out; have := HDS.out.2; omega))
            obtain ⟨y, hy⟩ : ∃ y, y = gi (sorted S) (S.length - 1 - t) := ⟨_, rfl⟩
            rw [← hy] at hct hgb
            have HY := Lib.hid hy
            have HB2 := over_bd HSp.out ((t + 1 : Nat) : Int)
            have E4 : (overN S (t : Int)).tdiv y = overN S (t : Int) / y := Int.tdiv_eq_ediv_of_nonneg (by omega)
            have E5 : Hid (overN S (t : Int) / y = overN S ((t + 1 : Nat) : Int)) := Lib.hid (by rw [hy]; exact HSTEP.out)
            have E3 : IntKind.i64.wrap (overN S (t : Int) / y) = overN S (t : Int) / y := IntWalk.i64_in _ ⟨by rw [E5.out]; omega, by rw [E5.out]; omega⟩
            have hz : (y == 0) = false := by simp; omega
            have hz2 : ¬ y = 0 := by omega
            clear hc hy HB2
            go_wp2_with fail
            go_roundw
            case rel => exact ⟨t + 1, by omega, by omega, by go_num, by rw [← E5.out], own, B⟩
            case measure => simp [intOf]; omega
          · have j1 : ¬ (t : Int) < (m : Int) := by omega
            have HA : Hid (overN S (t : Int) = overN S (rn : Int)) := Lib.hid (by
              rw [over_all S _ (by have := HM.out; have := HDS.out.2; simp; omega), over_all S _ (by have := HM.out; have := HDS.out.2; simp; omega)])
            go_wp2_with fail
            go_ret
            exact ⟨ret_int HA.out, B⟩
        · have j0 : ¬ (t : Int) < (rn : Int) := by omega
          have et : Hid (t = rn) := Lib.hid (by omega)
          go_wp2_with fail
          go_ret
          exact ⟨ret_int (by rw [et.out]), B⟩

end Go.Proofs.Ytodbdcanhefcaaa
