/-
  Texts put together: FreeB, ChB10, MathPr. By an AI agent.
-/
import Derived.Test.YtpmfedllbiblbaaGreatMath
import Derived.Test.YtpmfedllbiblbaaGreatNum
import Derived.Test.YtpmfedllbiblbaaGreatPk37
import Derived.Test.YtpmfedllbiblbaaGreatAppendAt
import Derived.Test.YtpmfedllbiblbaaGreatMark
import Derived.Test.YtpmfedllbiblbaaGreatSums2
import Derived.StillTailTactics
import Derived.BigRegion
import Derived.IntWalk
import Derived.Test.YtpmfedllbiblbaaGreatRow10
import Derived.Test.YtpmfedllbiblbaaGreatRer10
import Derived.Test.YtpmfedllbiblbaaGreatPut
import Derived.Test.YtpmfedllbiblbaaGreatMis10
namespace Go.Proofs.YtpmfedllbiblbaaGreat
open Go.RowKit Cv
set_option linter.unusedVariables false
set_option linter.unusedSimpArgs false
set_option maxRecDepth 100000

set_option maxHeartbeats 4000000 in
theorem l04Over_any (ao : Option Addr) (S : List Int) (cap : Nat) (hSp : Sp S) (r : Int) (hr0 : 0 ≤ r) (hr8 : r ≤ 8) (w : World) (hS : Ints w ao S) :
    Calls Tryz.prog 78 #[.agg #[.slice ao S.length cap], .int .i64 r] w fun e w' => e = .returned (.int .i64 (overN S r)) ∧ Below w.heap.size w w' := by
  have hlo := hSp.lo
  have hhi := hSp.hi
  have HSp := Lib.hid hSp
  have B0 : Below w.heap.size w ((w.alloc (.cells #[.slice ao S.length cap] 26)).alloc (.cells #[] 2)) := by go_grown
  have c0 : ((w.alloc (.cells #[.slice ao S.length cap] 26)).alloc (.cells #[] 2)).cell? ⟨w.heap.size, 0, none⟩ = some (.slice ao S.length cap) := kept_cell ((Below.refl _ (w.alloc (.cells #[.slice ao S.length cap] 26))).alloc (Nat.le_refl _) _) (cell_new _ _ _) (lt_alloc _ _)
  have oo := own_empty (w.alloc (.cells #[.slice ao S.length cap] 26)) (w.heap.size + 1) (by simp) rfl
  simp only [World.size_alloc] at oo
  clear hSp
  go_enter Tryz.func78, Tryz.ntmps78
  go_wp2_with fail
  refine (l01N_sp ao S cap _ HSp.out (hS.below B0)).mono ?_
  rintro e w1 ⟨rfl, hb⟩
  have c1 := kept_cell hb c0 (by simp; omega)
  have B1 := B0.trans (hb.mono B0.size)
  have o1 := oo.below hb
  have s1 : w.heap.size < w1.heap.size := by have := hb.size; simp at this; omega
  clear hb c0 B0 oo
  go_wp2_with fail
  go_loopw [5, 7] (fun v i wr => ∃ (k : Nat) (D : List Int), k ≤ S.length ∧ i = .int .i64 k ∧ OwnInts wr (w.heap.size + 1) v D ∧ Hid (D.Perm (S.take k) ∧ Desc D) ∧ wr.cell? ⟨w.heap.size, 0, none⟩ = some (.slice ao S.length cap) ∧ w.heap.size < wr.heap.size ∧ Below w.heap.size w wr) (fun _ i _ => S.length - (intOf i).toNat)
  case atStart => exact ⟨0, [], Nat.zero_le _, rfl, o1, Lib.hid ⟨by simp, List.Pairwise.nil⟩, c1, s1, B1⟩
  case round =>
    clear c1 s1 B1 o1
    obtain ⟨k, D, hk, rfl, own, HD, c, l, B⟩ := hrel
    obtain ⟨ad, kd, hv⟩ := own.shape
    subst hv
    by_cases hlt : k < S.length
    · obtain ⟨b, o, rfl, hbl, hc⟩ := hS.at hlt
      have hck : wr.cell? ⟨b, o + k, none⟩ = some (.int .i64 (gi S k)) := kept_cell B (hc k hlt) hbl
      have hcA : ∀ o', (wr.alloc o').cell? ⟨b, o + k, none⟩ = some (.int .i64 (gi S k)) := fun o' => kept_cell (B.alloc B.size o') (hc k hlt) hbl
      have HCK := Lib.hid (hc k hlt)
      obtain ⟨q1, q2⟩ := HSp.out.bd k hlt
      obtain ⟨x, hx⟩ : ∃ x, x = gi S k := ⟨_, rfl⟩
      rw [← hx] at hck hcA HCK q1 q2
      have HX := Lib.hid hx
      obtain ⟨m, hm⟩ : ∃ m, m = D.length := ⟨_, rfl⟩
      have HM := Lib.hid hm
      have hmk : m ≤ 8 := by have := HD.out.1.length_eq; simp at this; omega
      rw [← hm] at own ⊢
      have hs := B.size
      clear hc hx hm
      go_wp2_with (at_builtin; refine wpList_append_int rfl _ _ rfl (w.heap.size + 1) _ _ rfl (own.alloc _) wr.heap.size _ rfl (cell_new _ _ _) (by have := HM.out; omega) (by rw [World.size_alloc]; omega) ?_; intro v' w3 hown' hgrow)
      have B3 := grown_below (B.alloc hs _) (by rw [World.size_alloc]; omega) hgrow (own.alloc _) (by omega)
      have c3 : w3.cell? ⟨w.heap.size, 0, none⟩ = some (.slice (some ⟨b, o, none⟩) S.length cap) := hgrow.cell (a := ⟨w.heap.size, 0, none⟩) (kept_cell ((Below.refl wr.heap.size wr).alloc (Nat.le_refl _) _) c l) (fun e => by have := World.ownsRow.lt own _ e.symm; simp at this; omega)
      have l3 : w.heap.size < w3.heap.size := by have := hgrow.size; simp at this; omega
      obtain ⟨g, kg, hv⟩ := own_snoc hown'
      subst hv
      rw [← HM.out] at hown' ⊢
      have HI0 : Hid (InsI D x (D ++ [x]) m) := Lib.hid (by rw [HM.out]; exact insI_start D x)
      clear own hgrow c l B hck hcA
      go_wp2_with fail
      go_loopw [8] (fun t wi => ∃ (a : Nat) (T : List Int), t = .int .i64 a ∧ a ≤ m ∧ Hid (InsI D x T a) ∧ OwnInts wi (w.heap.size + 1) (.slice (some ⟨g, 0, none⟩) (m + 1) kg) T ∧ wi.cell? ⟨w.heap.size, 0, none⟩ = some (.slice (some ⟨b, o, none⟩) S.length cap) ∧ w.heap.size < wi.heap.size ∧ Below w.heap.size w wi) (fun t _ => (intOf t).toNat)
      case atStart => exact ⟨m, _, rfl, Nat.le_refl _, HI0, hown', c3, l3, B3⟩
      case round =>
        clear hown' c3 l3 B3 HI0
        obtain ⟨a, T, rfl, ha, HI, own, c, l, B⟩ := hrel
        have hck : wr.cell? ⟨b, o + k, none⟩ = some (.int .i64 x) := kept_cell B HCK.out hbl
        have hgb := own.base_le
        have hTl : Hid (T.length = m + 1) := Lib.hid (by rw [HI.out.len, HM.out])
        by_cases ha0 : 0 < a
        · obtain ⟨j, rfl⟩ : ∃ j, a = j + 1 := ⟨a - 1, by omega⟩
          have cj := own.cell (k := j) (by have := hTl.out; omega)
          have cj1 := own.cell (k := j + 1) (by have := hTl.out; omega)
          have hfree := own.free (j + 1)
          obtain ⟨y, hy⟩ : ∃ y, y = gi T j := ⟨_, rfl⟩
          rw [← hy] at cj
          have HY := Lib.hid hy
          clear hy
          have E1 : IntKind.i64.wrap ((j : Int) + 1 - 1) = (j : Int) := by rw [Int.add_sub_cancel]; exact IntWalk.i64_in _ ⟨by omega, by omega⟩
          have E1' : IntKind.i64.wrap (j : Int) = (j : Int) := IntWalk.i64_in _ ⟨by omega, by omega⟩
          have i0 : (0 : Int) < (j : Int) + 1 := by omega
          have i1 : (j : Int) < (m : Int) + 1 := by omega
          have i2 : (j : Int) + 1 < (m : Int) + 1 := by omega
          have i3 : (0 : Int) ≤ (j : Int) := by omega
          have i4 : (0 : Int) ≤ (j : Int) + 1 := by omega
          by_cases hxy : y < x
          · have hd : decide (y < x) = true := by simpa using hxy
            have HN : Hid (InsI D x (T.set (j + 1) y) j) := Lib.hid (by rw [HY.out]; exact insI_step HI.out (by rw [← HY.out]; exact hxy))
            have HST := Lib.hid (fun n => (own.below (below_drewN (Below.refl _ wr) n)).stored (j + 1) y)
            clear hxy
            go_wp2
            go_quiet (fail)
            go_wp2
            go_roundw
            case rel => exact ⟨j, _, by go_num, by omega, HN, HST.out _, cell_set_other (kept_cell (below_drewN (Below.refl _ wr) _) c l) (by simp; omega), by have := (below_drewN (Below.refl wr.heap.size wr) nq).size; simp; omega, (below_drewN B _).setCell (by simp; omega) _⟩
            case measure => simp [intOf]
          · have hd : decide (y < x) = false := by simpa using hxy
            have HEND : Hid ((T.set (j + 1) x).Perm (S.take (k + 1)) ∧ Desc (T.set (j + 1) x)) := Lib.hid (by
              rw [insI_end HI.out]
              refine ⟨(ins_perm D x (j + 1)).trans ?_, ins_desc HI.out HD.out.2 (.inr ?_)⟩
              · rw [take_snoc _ _ hlt, HX.out]; exact HD.out.1.append_right _
              · rw [Nat.add_sub_cancel, ← HI.out.lo j (by omega), ← HY.out]; exact hxy)
            have HST := Lib.hid (fun n => (own.below (below_drewN (Below.refl _ wr) n)).stored (j + 1) x)
            have HSL : Hid ((T.set (j + 1) x).length = m + 1) := Lib.hid (by rw [List.length_set]; exact hTl.out)
            clear hxy
            go_wp2
            go_quiet (fail)
            go_wp2
            go_roundw
            case rel => exact ⟨k + 1, _, by omega, by go_num, HST.out _, HEND, cell_set_other (kept_cell (below_drewN (Below.refl _ wr) _) c l) (by simp; omega), by have := (below_drewN (Below.refl wr.heap.size wr) nq).size; simp; omega, (below_drewN B _).setCell (by simp; omega) _⟩
            case measure => simp [intOf]; omega
        · obtain rfl : a = 0 := by omega
          have hfree := own.free 0
          have cj1 := own.cell (k := 0) (by have := hTl.out; omega)
          have i0 : ¬ (0 : Int) < 0 := by omega
          have i2 : (0 : Int) < (m : Int) + 1 := by omega
          have HEND : Hid ((T.set 0 x).Perm (S.take (k + 1)) ∧ Desc (T.set 0 x)) := Lib.hid (by
            rw [insI_end HI.out]
            refine ⟨(ins_perm D x 0).trans ?_, ins_desc HI.out HD.out.2 (.inl rfl)⟩
            rw [take_snoc _ _ hlt, HX.out]; exact HD.out.1.append_right _)
          have HST := Lib.hid (fun n => (own.below (below_drewN (Below.refl _ wr) n)).stored 0 x)
          go_wp2
          go_quiet (fail)
          go_wp2
          go_roundw
          case rel => exact ⟨k + 1, _, by omega, by go_num, HST.out _, HEND, cell_set_other (kept_cell (below_drewN (Below.refl _ wr) _) c l) (by simp; omega), by have := (below_drewN (Below.refl wr.heap.size wr) nq).size; simp; omega, (below_drewN B _).setCell (by simp; omega) _⟩
          case measure => simp [intOf]; omega
    · have HDS : Hid (D.reverse = sorted S ∧ D.length = S.length) := Lib.hid (by
        have e : k = S.length := by omega
        have h := HD.out.1
        rw [e, List.take_length] at h
        exact ⟨desc_sorted h HD.out.2, h.length_eq⟩)
      obtain ⟨m, hm⟩ : ∃ m, m = D.length := ⟨_, rfl⟩
      have HM := Lib.hid hm
      have hm8 : m ≤ 8 := by have := HDS.out.2; omega
      rw [← hm] at own ⊢
      obtain ⟨rn, hrn⟩ : ∃ rn : Nat, r = (rn : Int) := ⟨r.toNat, by omega⟩
      have HO0 := Lib.hid (over_zero S)
      have hlI : ¬ (k : Int) < (S.length : Int) := by omega
      clear hm
      subst hrn
      go_wp2_with fail
      go_loopw [6, 9] (fun o j wi => ∃ t : Nat, t ≤ m ∧ t ≤ rn ∧ j = .int .i64 t ∧ o = .int .i64 (overN S (t : Int)) ∧ OwnInts wi (w.heap.size + 1) (.slice ad m kd) D ∧ Below w.heap.size w wi) (fun _ j _ => rn - (intOf j).toNat)
      case atStart => exact ⟨0, Nat.zero_le _, Nat.zero_le _, rfl, by rw [← HO0.out]; rfl, own, B⟩
      case round =>
        clear own B c l
        obtain ⟨t, ht1, ht2, rfl, rfl, own, B⟩ := hrel
        have HOB := over_bd HSp.out (t : Int)
        by_cases htr : t < rn
        · have j0 : (t : Int) < (rn : Int) := by omega
          by_cases htm : t < m
          · have j1 : (t : Int) < (m : Int) := by omega
            obtain ⟨b, o, he, hbl, hc⟩ := (own_ints own).at (i := t) (by have := HM.out; omega)
            subst he
            have hct := hc t (by have := HM.out; omega)
            have HG : Hid (gi D t = gi (sorted S) (S.length - 1 - t)) := Lib.hid (by
              rw [← HDS.out.1, gi_reverse _ _ (by have := HM.out; have := HDS.out.2; omega)]
              congr 1; have := HM.out; have := HDS.out.2; omega)
            have hgb := sorted_bd HSp.out.bd (S.length - 1 - t) (by have := HM.out; have := HDS.out.2; omega)
            rw [HG.out] at hct
            have HSTEP := Lib.hid (over_step HSp.out.bd t (by have := HM.out; have := HDS.out.2; omega))
            obtain ⟨y, hy⟩ : ∃ y, y = gi (sorted S) (S.length - 1 - t) := ⟨_, rfl⟩
            rw [← hy] at hct hgb
            have HY := Lib.hid hy
            have HB2 := over_bd HSp.out ((t + 1 : Nat) : Int)
            have E4 : (overN S (t : Int)).tdiv y = overN S (t : Int) / y := Int.tdiv_eq_ediv_of_nonneg (by omega)
            have E5 : Hid (overN S (t : Int) / y = overN S ((t + 1 : Nat) : Int)) := Lib.hid (by rw [hy]; exact HSTEP.out)
            have E3 : IntKind.i64.wrap (overN S (t : Int) / y) = overN S (t : Int) / y := IntWalk.i64_in _ ⟨by rw [E5.out]; omega, by rw [E5.out]; omega⟩
            have hz : (y == 0) = false := by simp; omega
            have hz2 : ¬ y = 0 := by omega
            clear hc hy HB2
            go_wp2_with fail
            go_roundw
            case rel => exact ⟨t + 1, by omega, by omega, by go_num, by rw [← E5.out], own, B⟩
            case measure => simp [intOf]; omega
          · have j1 : ¬ (t : Int) < (m : Int) := by omega
            have HA : Hid (overN S (t : Int) = overN S (rn : Int)) := Lib.hid (by
              rw [over_all S _ (by have := HM.out; have := HDS.out.2; simp; omega), over_all S _ (by have := HM.out; have := HDS.out.2; simp; omega)])
            go_wp2_with fail
            go_ret
            exact ⟨ret_int HA.out, B⟩
        · have j0 : ¬ (t : Int) < (rn : Int) := by omega
          have et : Hid (t = rn) := Lib.hid (by omega)
          go_wp2_with fail
          go_ret
          exact ⟨ret_int (by rw [et.out]), B⟩

end Go.Proofs.YtpmfedllbiblbaaGreat

namespace Go.Proofs.YtpmfedllbiblbaaGreat
open Go.RowKit Cv
set_option linter.unusedVariables false
set_option linter.unusedSimpArgs false
set_option maxRecDepth 100000

theorem ret_ib {a b c d : Int} (h1 : a = b) (h2 : c = d) : Ending.returned (.tuple #[.int .i64 a, .int .i64 c]) = .returned (.tuple #[.int .i64 b, .int .i64 d]) := by rw [h1, h2]
theorem eR10_nil (S : List Int) (t : Int) : eR10 S [] t = eC10 S t := by
  by_cases h : isSp S = true
  · exact eR10_ok h ⟨(okW_iff S [] _).2 (fun i hi => by simp at hi), by simp⟩
  · have h' : isSp S = false := by simpa using h
    rw [eR10_inv h', eC10_inv h']
theorem prodTo_drop (L : List Int) (m k : Nat) (h : m + k ≤ L.length) : prodTo L (m + k) = prodTo L m * prodTo (L.drop m) k := by
  induction k with
  | zero => simp [prodTo]
  | succ k ih =>
    rw [← Nat.add_assoc, prodTo, ih (by omega), prodTo, gi_drop, Int.mul_assoc]
/-- the product of the t largest sizes -/
def topP (S : List Int) (t : Nat) : Int := prodTo ((sorted S).drop (S.length - t)) t
theorem topP_eq {S : List Int} (h : Sp S) (t : Nat) (ht : t ≤ S.length) : nW S / overN S (t : Int) = topP S t := by
  have hl := sorted_len S
  have e : nW S = overN S (t : Int) * topP S t := by
    rw [← over_zero]
    unfold overN topP
    rw [Int.toNat_natCast, show S.length - (0 : Int).toNat = (S.length - t) + t by simp; omega]
    exact prodTo_drop _ _ _ (by omega)
  have ho := (over_bd h (t : Int)).1
  rw [e, Int.mul_ediv_cancel_left _ (by omega)]
def vCb (S : List Int) (t : Int) : Int := if eC10 S t = 0 then topP S t.toNat else 0

set_option maxHeartbeats 2000000 in
theorem spec_ChoiceBound (ao : Option Addr) (S : List Int) (cap : Nat) (hn : S.length ≤ 4294967296) (t : Int) (ht : -9223372036854775808 ≤ t ∧ t ≤ 9223372036854775807) (w : World) (hS : Ints w ao S) :
    Calls Tryz.prog 36 #[.agg #[.slice ao S.length cap], .int .i64 t] w fun e w' => e = .returned (.tuple #[.int .i64 (vCb S t), .int .i64 (eC10 S t)]) ∧ Below w.heap.size w w' := by
  have B0 : Below w.heap.size w (w.alloc (.cells #[.slice ao S.length cap] 26)) := by go_grown
  have c0 := cell_new w (.slice ao S.length cap) 26
  have l0 := lt_alloc w (.cells #[.slice ao S.length cap] 26)
  have hc := l10Code_any ao S cap hn t _ (hS.below B0)
  by_cases he : eC10 S t = 0
  case neg =>
    have HV : Hid (vCb S t = 0) := Lib.hid (by unfold vCb; rw [if_neg he])
    obtain ⟨E, hE⟩ : ∃ E, E = eC10 S t := ⟨_, rfl⟩
    rw [← hE] at hc he ⊢
    have hb : (E != 0) = true := by simpa using he
    clear hE he
    go_enter Tryz.func36, Tryz.ntmps36
    go_wp2_with fail
    refine hc.mono ?_
    rintro e w1 ⟨rfl, hb1⟩
    have B1 := B0.trans (hb1.mono B0.size)
    go_wp2_with fail
    go_ret2
    exact ⟨ret_ib HV.out.symm rfl, B1⟩
  obtain ⟨hSp, g1, g2, g3⟩ := eC10_zero he
  have HV : Hid (vCb S t = topP S t.toNat) := Lib.hid (by unfold vCb; rw [if_pos he])
  have HE := Lib.hid he
  rw [he] at hc
  clear he
  obtain ⟨t, rfl⟩ : ∃ n : Nat, t = n := ⟨t.toNat, by omega⟩
  rw [Int.toNat_natCast] at HV
  have HQ := Lib.hid (topP_eq hSp t (by omega))
  have hob := over_bd hSp (t : Int)
  have hN0 := fun W h => l01N_sp ao S cap W hSp h
  have hO0 := fun W h => l04Over_any ao S cap hSp (t : Int) (by omega) (by omega) W h
  have hq2 := prodTo_bd S S.length fun i hi => hSp.bd i hi
  have hnb : Hid (1 ≤ nW S ∧ nW S ≤ 65536) := Lib.hid (by rw [← over_zero]; exact over_bd hSp 0)
  obtain ⟨OV, hOV⟩ : ∃ OV, OV = overN S (t : Int) := ⟨_, rfl⟩
  obtain ⟨NW, hNW⟩ : ∃ NW, NW = nW S := ⟨_, rfl⟩
  rw [← hOV] at HQ hob hO0
  rw [← hNW] at HQ hN0 hnb
  have hz : (OV == 0) = false := by simp; omega
  have hz2 : ¬ OV = 0 := by omega
  have E4 : NW.tdiv OV = topP S t := by rw [Int.tdiv_eq_ediv_of_nonneg (by have := hnb.out; omega)]; exact HQ.out
  have E3 : IntKind.i64.wrap (topP S t) = topP S t := by
    rw [← HQ.out]
    have h1 := Int.ediv_nonneg (show 0 ≤ NW by have := hnb.out; omega) (show 0 ≤ OV by omega)
    have h2 := Int.ediv_le_self OV (show 0 ≤ NW by have := hnb.out; omega)
    exact IntWalk.i64_in _ ⟨by omega, by have := hnb.out; omega⟩
  clear hSp hOV hNW hq2
  go_enter Tryz.func36, Tryz.ntmps36
  go_wp2_with fail
  refine hc.mono ?_
  rintro e w1 ⟨rfl, hb1⟩
  have c1 := kept_cell hb1 c0 l0
  have l1 := lt_of_below hb1 l0
  have B1 := B0.trans (hb1.mono B0.size)
  clear hc c0 l0 B0 hb1
  go_wp2_with fail
  refine wp_region_held_drew (S := fun w' => w'.cell? ⟨w.heap.size, 0, none⟩ = some (.slice ao S.length cap)) (by kernel_rfl) (c1) (fun hHeld => ?_)
  refine wpAnyH_take (i := 0) (v := ?_) rfl (by kernel_rfl) (by kernel_rfl) (by kernel_rfl) (fun _ _ _ h => h) (Or.inl ⟨by rfl, ?_⟩) (by assumption) ?_
  rotate_left
  · (intro w hSw; obtain hSw := hSw; (try dsimp only at hSw); go_simp; try (with_reducible rfl))
  (try simp only [Act.put, List.setIfInBounds_toArray, List.set_cons_zero, List.set_cons_succ, List.getElem_toArray, List.getElem_cons_succ, List.getElem_cons_zero])
  refine wpAnyH_take (i := 2) (v := ?_) rfl (by kernel_rfl) (by kernel_rfl) (by kernel_rfl) (fun _ _ _ h => h) (Or.inl ⟨by rfl, ?_⟩) (by assumption) ?_
  rotate_left
  · (intro w hSw; obtain hSw := hSw; (try dsimp only at hSw); go_simp; try (with_reducible rfl))
  (try simp only [Act.put, List.setIfInBounds_toArray, List.set_cons_zero, List.set_cons_succ, List.getElem_toArray, List.getElem_cons_succ, List.getElem_cons_zero])
  refine wpAnyH_take (i := 3) (v := ?_) rfl (by kernel_rfl) (by kernel_rfl) (by kernel_rfl) (fun _ _ _ h => h) (Or.inl ⟨by rfl, ?_⟩) (by assumption) ?_
  rotate_left
  · (intro w hSw; obtain hSw := hSw; (try dsimp only at hSw); go_simp; try (with_reducible rfl))
  (try simp only [Act.put, List.setIfInBounds_toArray, List.set_cons_zero, List.set_cons_succ, List.getElem_toArray, List.getElem_cons_succ, List.getElem_cons_zero])
  refine wpAnyH_ready (rs := [1]) (by kernel_rfl) (by simp) ?_
  refine AllReadyH.cons rfl (fun K hK => ?_) AllReadyH.nil
  go_simp
  (go_at_call 54; refine (hN0 _ ((hS.below B1).below (Below.refl w1.heap.size w1).drew)).mono ?_)
  rintro e x1 ⟨rfl, hb1⟩
  have H1 : Below w1.heap.size w1 x1 := Below.trans (Below.refl w1.heap.size w1).drew (hb1.mono (Below.size (Below.refl w1.heap.size w1).drew))
  refine hK.out _ _ (kept_cell H1 c1 l1) (fun hHeld => ?_)
  clear hK K
  (try simp only [Act.put, List.setIfInBounds_toArray, List.set_cons_zero, List.set_cons_succ, List.getElem_toArray, List.getElem_cons_succ, List.getElem_cons_zero])
  refine wpAnyH_ready (rs := [4]) (by kernel_rfl) (by simp) ?_
  refine AllReadyH.cons rfl (fun K hK => ?_) AllReadyH.nil
  go_simp
  (go_at_call 78; refine (hO0 _ ((hS.below B1).below H1)).mono ?_)
  rintro e x2 ⟨rfl, hb2⟩
  have H2 : Below w1.heap.size w1 x2 := Below.trans H1 (hb2.mono (Below.size H1))
  refine hK.out _ _ (kept_cell H2 c1 l1) (fun hHeld => ?_)
  clear hK K
  (try simp only [Act.put, List.setIfInBounds_toArray, List.set_cons_zero, List.set_cons_succ, List.getElem_toArray, List.getElem_cons_succ, List.getElem_cons_zero])
  refine wpAnyH_take (i := 5) (v := ?_) rfl (by kernel_rfl) (by kernel_rfl) (by kernel_rfl) (fun _ _ _ h => h) (Or.inl ⟨by rfl, ?_⟩) (by assumption) ?_
  rotate_left
  · (intro w hSw; obtain hSw := hSw; (try dsimp only at hSw); go_simp; try (with_reducible rfl))
  (try simp only [Act.put, List.setIfInBounds_toArray, List.set_cons_zero, List.set_cons_succ, List.getElem_toArray, List.getElem_cons_succ, List.getElem_cons_zero])
  refine wpAnyH_take (i := 6) (v := ?_) rfl (by kernel_rfl) (by kernel_rfl) (by kernel_rfl) (fun _ _ _ h => h) (Or.inl ⟨by rfl, ?_⟩) (by assumption) ?_
  rotate_left
  · (intro w hSw; obtain hSw := hSw; (try dsimp only at hSw); go_simp; try (with_reducible rfl))
  (try simp only [Act.put, List.setIfInBounds_toArray, List.set_cons_zero, List.set_cons_succ, List.getElem_toArray, List.getElem_cons_succ, List.getElem_cons_zero])
  refine wpAnyH_take (i := 7) (v := ?_) rfl (by kernel_rfl) (by kernel_rfl) (by kernel_rfl) (fun _ _ _ h => h) (Or.inl ⟨by rfl, ?_⟩) (by assumption) ?_
  rotate_left
  · (intro w hSw; obtain hSw := hSw; (try dsimp only at hSw); go_simp; try (with_reducible rfl))
  (try simp only [Act.put, List.setIfInBounds_toArray, List.set_cons_zero, List.set_cons_succ, List.getElem_toArray, List.getElem_cons_succ, List.getElem_cons_zero])
  refine wpAnyH_done (by kernel_rfl) ?_ _
  (try simp only [Act.put, List.setIfInBounds_toArray, List.set_cons_zero, List.set_cons_succ, List.getElem_toArray, List.getElem_cons_succ, List.getElem_cons_zero])
  have Hn : Below w1.heap.size w1 x2 := H2
  obtain ⟨wZ, hwZ⟩ : ∃ z, z = x2 := ⟨_, rfl⟩
  rw [← hwZ] at Hn ⊢
  clear hwZ hHeld
  go_wp2_with fail
  go_ret2
  exact ⟨ret_ib HV.out.symm HE.out.symm, B1.trans (Hn.mono B1.size)⟩

set_option maxHeartbeats 2000000 in
theorem impl_ChoiceBound (ao : Option Addr) (S : List Int) (cap : Nat) (hn : S.length ≤ 4294967296) (t : Int) (ht : -9223372036854775808 ≤ t ∧ t ≤ 9223372036854775807) (w : World) (hS : Ints w ao S) :
    Calls Tryz.prog 26 #[.agg #[.slice ao S.length cap], .int .i64 t] w fun e w' => e = .returned (.tuple #[.int .i64 (vCb S t), .int .i64 (eC10 S t)]) ∧ Below w.heap.size w w' := by
  have B0 : Below w.heap.size w (w.alloc (.cells #[.slice ao S.length cap] 26)) := by go_grown
  have c0 := cell_new w (.slice ao S.length cap) 26
  have l0 := lt_alloc w (.cells #[.slice ao S.length cap] 26)
  have hc := rowsError_any ao S cap hn none [] 0 (by simp) t _ (hS.below B0) (.inl rfl)
  rw [eR10_nil, show ([] : List Int).length = 0 from rfl] at hc
  by_cases he : eC10 S t = 0
  case neg =>
    have HV : Hid (vCb S t = 0) := Lib.hid (by unfold vCb; rw [if_neg he])
    obtain ⟨E, hE⟩ : ∃ E, E = eC10 S t := ⟨_, rfl⟩
    rw [← hE] at hc he ⊢
    have hb : (E != 0) = true := by simpa using he
    clear hE he
    go_enter Tryz.func26, Tryz.ntmps26
    go_wp2_with fail
    refine hc.mono ?_
    rintro e w1 ⟨rfl, hb1⟩
    have B1 := B0.trans (hb1.mono B0.size)
    go_wp2_with fail
    go_ret2
    exact ⟨ret_ib HV.out.symm rfl, B1⟩
  obtain ⟨hSp, g1, g2, g3⟩ := eC10_zero he
  have HSp := Lib.hid hSp
  have hlo := hSp.lo
  have hhi := hSp.hi
  have HV : Hid (vCb S t = topP S t.toNat) := Lib.hid (by unfold vCb; rw [if_pos he])
  have HE := Lib.hid he
  rw [he] at hc
  clear he hSp
  obtain ⟨t, rfl⟩ : ∃ n : Nat, t = n := ⟨t.toNat, by omega⟩
  rw [Int.toNat_natCast] at HV
  go_enter Tryz.func26, Tryz.ntmps26
  go_wp2_with fail
  refine hc.mono ?_
  rintro e w1 ⟨rfl, hb1⟩
  have c1 := kept_cell hb1 c0 l0
  have l1 := lt_of_below hb1 l0
  have B1 := B0.trans (hb1.mono B0.size)
  clear hc c0 l0 B0 hb1
  go_wp2_with fail
  refine (values_any ao S cap w1).mono ?_
  rintro e w2 ⟨rfl, hvb, hb2⟩
  have B2 := B1.trans (hb2.mono B1.size)
  go_wp2_with fail
  refine (sorted_values w1.heap.size ao S cap hlo (by omega) w2 (hS.below B2) hvb).mono ?_
  rintro e w3 ⟨v, rfl, own, hb3⟩
  have B3 := B2.trans (hb3.mono B2.size)
  have hsl := sorted_len S
  obtain ⟨g, kg, rfl, _⟩ := own_some own (by intro h; rw [h] at hsl; simp at hsl; omega)
  obtain ⟨hcap, _⟩ := own_cap own
  rw [hsl] at hcap
  have hg := own.base_le
  obtain ⟨m, hm⟩ : ∃ m : Nat, m = S.length - t := ⟨_, rfl⟩
  have hmt : m + t = S.length := by omega
  have hIm : (S.length : Int) - (t : Int) = (m : Int) := by omega
  have E1 : IntKind.i64.wrap (m : Int) = (m : Int) := IntWalk.i64_in _ ⟨by omega, by omega⟩
  have i0 : (0 : Int) ≤ (m : Int) := by omega
  have i1 : (m : Int) ≤ (S.length : Int) := by omega
  have i2 : m ≤ S.length := by omega
  have i3 : ¬ kg = m := by omega
  have i4 : ¬ m = kg := by omega
  have i5 : (S.length : Int) ≤ (kg : Int) := by omega
  have HDl : Hid (((sorted S).drop m).length = S.length - m) := Lib.hid (by rw [List.length_drop, hsl])
  have hSm : S.length - m = t := by omega
  have HTP : Hid (prodTo ((sorted S).drop m) (S.length - m) = topP S t) := Lib.hid (by unfold topP; rw [hSm, hm])
  have hI : Ints w3 (some ⟨g, m, none⟩) ((sorted S).drop m) := own_ints_drop own m
  have hbt : ∀ i, i < ((sorted S).drop m).length → 2 ≤ gi ((sorted S).drop m) i ∧ gi ((sorted S).drop m) i ≤ 4 := fun i hi => by rw [HDl.out] at hi; rw [gi_drop]; exact sorted_bd HSp.out.bd _ (by omega)
  have hw := wordCount_any (some ⟨g, m, none⟩) ((sorted S).drop m) (kg - m) w3 (by rw [HDl.out]; omega) hbt hI
  rw [HDl.out, HTP.out] at hw
  rw [hsl]
  clear hbt hI hm hsl hvb hb2 hb3 own hSm hmt
  go_wp2_with fail
  refine hw.mono ?_
  rintro e w4 ⟨rfl, hb4⟩
  go_wp2_with fail
  go_ret2
  exact ⟨ret_ib HV.out.symm HE.out.symm, B3.trans (hb4.mono B3.size)⟩

end Go.Proofs.YtpmfedllbiblbaaGreat

namespace Go.Proofs.YtpmfedllbiblbaaGreat
open Go.RowKit Cv
set_option linter.unusedVariables false
set_option linter.unusedSimpArgs false

theorem nd_len2 {α : Type} [DecidableEq α] : ∀ {L M : List α}, L.Nodup → (∀ x, x ∈ L → x ∈ M) → L.length ≤ M.length := by
  intro L
  induction L with
  | nil => intro M _ _; simp
  | cons a L ih =>
    intro M hn hs
    have ha : a ∈ M := hs a (by simp)
    rw [List.nodup_cons] at hn
    have := ih (M := M.erase a) hn.2 fun x hx => (List.mem_erase_of_ne (fun (e : x = a) => hn.1 (by rw [← e]; exact hx))).2 (hs x (by simp [hx]))
    rw [List.length_erase_of_mem ha] at this
    have hp : 0 < M.length := List.length_pos_of_mem ha
    simp; omega
/-- a choice that no rows lack is in a row -/
theorem ms_has {S : List Int} {C : List (List Int)} {R : List Int} {c : List Int} (hc : c ∈ C) : ∀ n, c ∉ msTo S C R n → ∃ i, i < n ∧ hasC (digs S (gi R i)) c = true
  | 0, h => absurd hc h
  | n + 1, h => by
    by_cases g : c ∈ msTo S C R n
    · rw [msTo, List.mem_filter] at h
      refine ⟨n, by omega, ?_⟩
      cases e : hasC (digs S (gi R n)) c with
      | true => rfl
      | false => exact absurd ⟨g, by rw [e]; rfl⟩ h
    · obtain ⟨i, hi, e⟩ := ms_has hc n g
      exact ⟨i, by omega, e⟩
theorem hcTo_at {D c : List Int} {t : Nat} : ∀ n, hcTo D c t n = true → ∀ k, k < n → gi D (gi c k).toNat = gi c (t + k)
  | 0, _, k, hk => by omega
  | n + 1, h, k, hk => by
    rw [hcTo, Bool.and_eq_true] at h
    by_cases e : k = n
    · subst e; simpa using h.2
    · exact hcTo_at n h.1 k (by omega)
theorem has_dg {T P D : List Int} {t : Nat} (hP : P.length = t) (hD : D.length = t) (h : hasC T (P ++ D) = true) : D = P.map fun p => gi T p.toNat := by
  unfold hasC at h
  rw [List.length_append, hP, hD, show (t + t) / 2 = t by omega] at h
  have h2 := hcTo_at t h
  refine ext_gi (by rw [List.length_map]; omega) fun i hi => ?_
  have := h2 i (by omega)
  rw [gi_append_lt _ _ _ (by omega), gi_append_ge _ _ _ (by omega), show t + i - P.length = i by omega] at this
  rw [← this]
  simp [gi, List.getD, show i < P.length by omega]
theorem dg_nd {Q : List Int} (hQ : Sp Q) : (dgTo Q Q.length).Nodup := by
  rw [dgTo_digs Q hQ.bd Q.length (Nat.le_refl _), List.take_length]
  rw [List.Nodup, List.pairwise_map]
  refine (List.Pairwise.and_mem.1 (List.nodup_range (n := (prodTo Q Q.length).toNat))).imp fun {a b} h e => ?_
  obtain ⟨ha, hb, hne⟩ := h
  rw [List.mem_range] at ha hb
  have h1 := wordTo_digs Q (a : Int) hQ (by omega) (by omega)
  have h2 := wordTo_digs Q (b : Int) hQ (by omega) (by omega)
  rw [e] at h1
  exact hne (by omega)
theorem sp_szP {S : List Int} (hS : Sp S) {t : Nat} (h1 : 1 ≤ t) (h3 : t ≤ 3) {P : List Int} (hP : P ∈ plM S.length 0 t) : Sp (szP S P) := by
  obtain ⟨hl, hb⟩ := szP_bd hS hP
  refine ⟨by omega, by omega, hb, ?_⟩
  rw [hl]
  have c0 : ∀ i, i < t → 0 ≤ gi (szP S P) i ∧ gi (szP S P) i ≤ 4 := fun i hi => by have := hb i (by omega); omega
  have key : ∀ k, k ≤ t → 0 ≤ prodTo (szP S P) k ∧ prodTo (szP S P) k ≤ 4 ^ k := by
    intro k
    induction k with
    | zero => intro _; simp [prodTo]
    | succ k ih =>
      intro hk
      obtain ⟨i1, i2⟩ := ih (by omega)
      obtain ⟨g1, g2⟩ := c0 k (by omega)
      rw [prodTo, Int.pow_succ]
      exact ⟨Int.mul_nonneg i1 g1, Int.mul_le_mul i2 g2 g1 (by have : (0 : Int) ≤ 4 ^ k := Int.le_trans i1 i2; exact this)⟩
  have h := (key t (Nat.le_refl _)).2
  rcases (show t = 1 ∨ t = 2 ∨ t = 3 by omega) with rfl | rfl | rfl
  · exact Int.le_trans h (by decide)
  · exact Int.le_trans h (by decide)
  · exact Int.le_trans h (by decide)
/-- rows that lack no choice of t places are at least as many as the product of any t sizes -/
theorem rows_ge {S R : List Int} (hS : Sp S) {t : Nat} (h1 : 1 ≤ t) (h3 : t ≤ 3) (hm : mL S R t = []) {P : List Int} (hP : P ∈ plM S.length 0 t) : prodTo (szP S P) t ≤ R.length := by
  obtain ⟨hl, hb⟩ := szP_bd hS hP
  have hq := sp_szP hS h1 h3 hP
  have hc := dg_count (szP S P) hb t (by omega)
  have nd := dg_nd hq
  rw [hl] at nd
  have hlp := (plM_len _ _ _ _ hP).1
  have sub : ∀ D, D ∈ dgTo (szP S P) t → D ∈ R.map fun r => P.map fun p => gi (digs S r) p.toNat := fun D hD => by
    have hin : P ++ D ∈ allC S t := by
      unfold allC
      rw [List.mem_flatMap]
      exact ⟨P, hP, List.mem_map.2 ⟨D, hD, rfl⟩⟩
    obtain ⟨i, hi, e⟩ := ms_has hin R.length (by unfold mL at hm; rw [hm]; simp)
    have := has_dg hlp (dgTo_len _ _ _ hD) e
    rw [this]
    exact List.mem_map.2 ⟨gi R i, gi_mem hi, rfl⟩
  have := nd_len2 nd sub
  rw [List.length_map] at this
  omega
theorem pl_sub (S : List Int) : ∀ (t f : Nat) (Q : List Int), f ≤ S.length → List.Sublist Q (S.drop f) → Q.length = t → ∃ P, P ∈ plM S.length f t ∧ szP S P = Q
  | 0, f, Q, _, _, hl => by
    obtain rfl := List.eq_nil_of_length_eq_zero hl
    exact ⟨[], by simp [plM], rfl⟩
  | t + 1, f, [], _, _, hl => by simp at hl
  | t + 1, f, q :: Q, hf, hs, hl => by
    obtain ⟨r1, r2, e, hq, hs2⟩ := List.cons_sublist_iff.1 hs
    obtain ⟨i, hi, rfl⟩ := List.getElem_of_mem hq
    have hlen : (S.drop f).length = r1.length + r2.length := by rw [e, List.length_append]
    rw [List.length_drop] at hlen
    have e2 : r2 = S.drop (f + r1.length) := by
      have : (S.drop f).drop r1.length = r2 := by rw [e, List.drop_left]
      rw [← this, List.drop_drop]
    have hs3 : List.Sublist Q (S.drop (f + i + 1)) := hs2.trans (by rw [e2]; exact List.drop_sublist_drop_left S (by omega))
    obtain ⟨P, hP, hz⟩ := pl_sub S t (f + i + 1) Q (by omega) hs3 (by simpa using hl)
    refine ⟨((f + i : Nat) : Int) :: P, ?_, ?_⟩
    · simp only [plM, List.mem_flatMap, List.mem_range, List.mem_map]
      exact ⟨i, by omega, P, hP, rfl⟩
    · unfold szP at hz ⊢
      rw [List.map_cons, hz]
      congr 1
      have : (S.drop f)[i]? = some r1[i] := by rw [e, List.getElem?_append_left hi]; simp
      rw [List.getElem?_drop] at this
      have e5 : ((f : Int) + (i : Int)).toNat = f + i := by omega
      simp [gi, List.getD, e5, this]
theorem prod_foldr (L : List Int) : prodTo L L.length = L.foldr (· * ·) 1 := by
  induction L with
  | nil => rfl
  | cons q L ih => rw [List.length_cons, prodTo_cons, ih]; rfl
theorem foldr_perm {L M : List Int} (h : L.Perm M) : L.foldr (· * ·) 1 = M.foldr (· * ·) 1 := by
  induction h with
  | nil => rfl
  | cons x _ ih => simp only [List.foldr_cons, ih]
  | swap x y l => simp only [List.foldr_cons]; rw [← Int.mul_assoc, Int.mul_comm y x, Int.mul_assoc]
  | trans _ _ i1 i2 => rw [i1, i2]
theorem top_ge {S R : List Int} (hS : Sp S) {t : Nat} (h1 : 1 ≤ t) (h3 : t ≤ 3) (hn : t ≤ S.length) (hm : mL S R t = []) : topP S t ≤ R.length := by
  have hl := sorted_len S
  obtain ⟨Q, hp, hs⟩ := List.exists_perm_sublist (List.drop_sublist (S.length - t) (sorted S)) (sorted_perm S)
  have hql : Q.length = t := by rw [hp.length_eq, List.length_drop, hl]; omega
  obtain ⟨P, hP, hz⟩ := pl_sub S t 0 Q (by omega) (by simpa using hs) hql
  have h := rows_ge hS h1 h3 hm hP
  rw [hz] at h
  have e : topP S t = prodTo Q t := by
    unfold topP
    have e1 := prod_foldr Q
    have e2 := prod_foldr ((sorted S).drop (S.length - t))
    rw [List.length_drop, hl, show S.length - (S.length - t) = t by omega] at e2
    rw [hql] at e1
    rw [e1, e2, foldr_perm hp]
  omega
theorem st_nil {S R : List Int} : ∀ m, 0 < stTo S R m → stTo S R m ≤ m ∧ mL S R (stTo S R m) = []
  | 0, h => by simp [stTo] at h
  | m + 1, h => by
    rw [stTo] at h ⊢
    by_cases e : mL S R (m + 1) = []
    · rw [if_pos e]; exact ⟨Nat.le_refl _, e⟩
    · rw [if_neg e] at h ⊢
      have := st_nil m h
      exact ⟨by omega, this.2⟩
theorem st_ge {S R : List Int} {t : Nat} (h1 : 1 ≤ t) (hm : mL S R t = []) : ∀ m, t ≤ m → t ≤ stTo S R m
  | 0, h => by omega
  | m + 1, h => by
    rw [stTo]
    by_cases e : mL S R (m + 1) = []
    · rw [if_pos e]; exact h
    · rw [if_neg e]
      by_cases g : t = m + 1
      · rw [← g] at e; exact absurd hm e
      · exact st_ge h1 hm m (by omega)
/-- rows of some strength are at least as many as the bound -/
theorem st_bound {S R : List Int} (h0 : eR10 S R 1 = 0) (h : 0 < vSt S R) : eC10 S (vSt S R) = 0 ∧ vCb S (vSt S R) ≤ R.length ∧ vSt S R ≤ 3 := by
  obtain ⟨hS, _, _, _, _, _⟩ := eR10_zero h0
  have hv : vSt S R = (stTo S R (min 3 S.length) : Nat) := by unfold vSt; rw [if_pos h0]
  rw [hv] at h ⊢
  obtain ⟨a, b⟩ := st_nil (S := S) (R := R) (min 3 S.length) (by omega)
  have e : eC10 S ((stTo S R (min 3 S.length) : Nat) : Int) = 0 := eC10_ok ((isSp_iff S).2 hS) ⟨by omega, by omega, by omega⟩
  refine ⟨e, ?_, by omega⟩
  unfold vCb
  rw [if_pos e, Int.toNat_natCast]
  exact top_ge hS (by omega) (by omega) (by omega) b
end Go.Proofs.YtpmfedllbiblbaaGreat
