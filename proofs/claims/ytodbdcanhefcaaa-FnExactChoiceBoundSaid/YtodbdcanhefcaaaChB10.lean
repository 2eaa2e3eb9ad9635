/-
  ChoiceBound, the model and the program. By an AI agent.
-/
import Derived.Test.YtodbdcanhefcaaaRow10
import Derived.Test.YtodbdcanhefcaaaRer10
import Derived.Test.YtodbdcanhefcaaaFreeB
import Derived.Test.YtodbdcanhefcaaaPut
namespace Go.Proofs.Ytodbdcanhefcaaa
open Go.RowKit Cv
set_option linter.unusedVariables false
set_option linter.unusedSimpArgs false
set_option maxRecDepth 100000

theorem ret_ib {a b c d : Int} (h1 : a = b) (h2 : c = d) : Ending.returned (.tuple #[.int .i64 a, .int .i64 c]) = .returned (.tuple #[.int .i64 b, .int .i64 d]) := by rw [h1, h2]
theorem eR10_nil (S : List Int) (t : Int) : eR10 S [] t = eC10 S t := by
  by_cases h : isSp S = true
  · exact eR10_ok h ⟨(okW_iff S [] _).2 (fun i hi => by simp at hi), by simp⟩
  · have h' : isSp S = false := by simpa using h
    rw [eR10_inv h', eC10_inv h']
theorem prodTo_drop (L : List Int) (m k : Nat) (h : m + k ≤ L.length) : prodTo L (m + k) = prodTo L m * prodTo (L.drop m) k := by
  induction k with
  | zero => simp [prodTo]
  | succ k ih =>
    rw [← Nat.add_assoc, prodTo, ih (by omega), prodTo, gi_drop, Int.mul_assoc]
/-- the product of the t largest sizes -/
def topP (S : List Int) (t : Nat) : Int := prodTo ((sorted S).drop (S.length - t)) t
theorem topP_eq {S : List Int} (h : Sp S) (t : Nat) (ht : t ≤ S.length) : nW S / overN S (t : Int) = topP S t := by
  have hl := sorted_len S
  have e : nW S = overN S (t : Int) * topP S t := by
    rw [← over_zero]
    unfold overN topP
    rw [Int.toNat_natCast, show S.length - (0 : Int).toNat = (S.length - t) + t by simp; omega]
    exact prodTo_drop _ _ _ (by omega)
  have ho := (over_bd h (t : Int)).1
  rw [e, Int.mul_ediv_cancel_left _ (by omega)]
def vCb (S : List Int) (t : Int) : Int := if eC10 S t = 0 then topP S t.toNat else 0

set_option maxHeartbeats 2000000 in
theorem spec_ChoiceBound (ao : Option Addr) (S : List Int) (cap : Nat) (hn : S.length ≤ 4294967296) (t : Int) (ht : -9223372036854775808 ≤ t ∧ t ≤ 9223372036854775807) (w : World) (hS : Ints w ao S) :
    Calls Try.prog 34 #[.agg #[.slice ao S.length cap], .int .i64 t] w fun e w' => e = .returned (.tuple #[.int .i64 (vCb S t), .int .i64 (eC10 S t)]) ∧ Below w.heap.size w w' := by
  have B0 : Below w.heap.size w (w.alloc (.cells #[.slice ao S.length cap] 28)) := by go_grown
  have c0 := cell_new w (.slice ao S.length cap) 28
  have l0 := lt_alloc w (.cells #[.slice ao S.length cap] 28)
  have hc := l10Code_any ao S cap hn t _ (hS.below B0)
  by_cases he : eC10 S t = 0
  case neg =>
    have HV : Hid (vCb S t = 0) := Lib.hid (by unfold vCb; rw [if_neg he])
    obtain ⟨E, hE⟩ : ∃ E, E = eC10 S t := ⟨_, rfl⟩
    rw [← hE] at hc he ⊢
    have hb : (E != 0) = true := by simpa using he
    clear hE he
    go_enter Try.func34, Try.ntmps34
    go_wp2_with fail
    refine hc.mono ?_
    rintro e w1 ⟨rfl, hb1⟩
    have B1 := B0.trans (hb1.mono B0.size)
    go_wp2_with fail
    go_ret2
    exact ⟨ret_ib HV.out.symm rfl, B1⟩
  obtain ⟨hSp, g1, g2, g3⟩ := eC10_zero he
  have HV : Hid (vCb S t = topP S t.toNat) := Lib.hid (by unfold vCb; rw [if_pos he])
  have HE := Lib.hid he
  rw [he] at hc
  clear he
  obtain ⟨t, rfl⟩ : ∃ n : Nat, t = n := ⟨t.toNat, by omega⟩
  rw [Int.toNat_natCast] at HV
  have HQ := Lib.hid (topP_eq hSp t (by omega))
  have hob := over_bd hSp (t : Int)
  have hN0 := fun W h => l01N_sp ao S cap W hSp h
  have hO0 := fun W h => l04Over_any ao S cap hSp (t : Int) (by omega) (by omega) W h
  have hq2 := prodTo_bd S S.length fun i hi => hSp.bd i hi
  have hnb : Hid (1 ≤ nW S ∧ nW S ≤ 65536) := Lib.hid (by rw [← over_zero]; exact over_bd hSp 0)
  obtain ⟨OV, hOV⟩ : ∃ OV, OV = overN S (t : Int) := ⟨_, rfl⟩
  obtain ⟨NW, hNW⟩ : ∃ NW, NW = nW S := ⟨_, rfl⟩
  rw [← hOV] at HQ hob hO0
  rw [← hNW] at HQ hN0 hnb
  have hz : (OV == 0) = false := by simp; omega
  have hz2 : ¬ OV = 0 := by omega
  have E4 : NW.tdiv OV = topP S t := by rw [Int.tdiv_eq_ediv_of_nonneg (by have := hnb.out; omega)]; exact HQ.out
  have E3 : IntKind.i64.wrap (topP S t) = topP S t := by
    rw [← HQ.out]
    have h1 := Int.ediv_nonneg (show 0 ≤ NW by have := hnb.out; omega) (show 0 ≤ OV by omega)
    have h2 := Int.ediv_le_self OV (show 0 ≤ NW by have := hnb.out; omega)
    exact IntWalk.i64_in _ ⟨by omega, by have := hnb.out; omega⟩
  clear hSp hOV hNW hq2
  go_enter Try.func34, Try.ntmps34
  go_wp2_with fail
  refine hc.mono ?_
  rintro e w1 ⟨rfl, hb1⟩
  have c1 := kept_cell hb1 c0 l0
  have l1 := lt_of_below hb1 l0
  have B1 := B0.trans (hb1.mono B0.size)
  clear hc c0 l0 B0 hb1
  go_wp2_with fail
  refine wp_region_held_drew (S := fun w' => w'.cell? ⟨w.heap.size, 0, none⟩ = some (.slice ao S.length cap)) (by kernel_rfl) (c1) (fun hHeld => ?_)
  refine wpAnyH_take (i := 0) (v := ?_) rfl (by kernel_rfl) (by kernel_rfl) (by kernel_rfl) (fun _ _ _ h => h) (Or.inl ⟨by rfl, ?_⟩) (by assumption) ?_
  rotate_left
  · (intro w hSw; obtain hSw := hSw; (try dsimp only at hSw); go_simp; try (with_reducible rfl))
  (try simp only [Act.put, List.setIfInBounds_toArray, List.set_cons_zero, List.set_cons_succ, List.getElem_toArray, List.getElem_cons_succ, List.getElem_cons_zero])
  refine wpAnyH_take (i := 2) (v := ?_) rfl (by kernel_rfl) (by kernel_rfl) (by kernel_rfl) (fun _ _ _ h => h) (Or.inl ⟨by rfl, ?_⟩) (by assumption) ?_
  rotate_left
  · (intro w hSw; obtain hSw := hSw; (try dsimp only at hSw); go_simp; try (with_reducible rfl))
  (try simp only [Act.put, List.setIfInBounds_toArray, List.set_cons_zero, List.set_cons_succ, List.getElem_toArray, List.getElem_cons_succ, List.getElem_cons_zero])
  refine wpAnyH_take (i := 3) (v := ?_) rfl (by kernel_rfl) (by kernel_rfl) (by kernel_rfl) (fun _ _ _ h => h) (Or.inl ⟨by rfl, ?_⟩) (by assumption) ?_
  rotate_left
  · (intro w hSw; obtain hSw := hSw; (try dsimp only at hSw); go_simp; try (with_reducible rfl))
  (try simp only [Act.put, List.setIfInBounds_toArray, List.set_cons_zero, List.set_cons_succ, List.getElem_toArray, List.getElem_cons_succ, List.getElem_cons_zero])
  refine wpAnyH_ready (rs := [1]) (by kernel_rfl) (by simp) ?_
  refine AllReadyH.cons rfl (fun K hK => ?_) AllReadyH.nil
  go_simp
  (go_at_call 66; refine (hN0 _ ((hS.below B1).below (Below.refl w1.heap.size w1).drew)).mono ?_)
  rintro e x1 ⟨rfl, hb1⟩
  have H1 : Below w1.heap.size w1 x1 := Below.trans (Below.refl w1.heap.size w1).drew (hb1.mono (Below.size (Below.refl w1.heap.size w1).drew))
  refine hK.out _ _ (kept_cell H1 c1 l1) (fun hHeld => ?_)
  clear hK K
  (try simp only [Act.put, List.setIfInBounds_toArray, List.set_cons_zero, List.set_cons_succ, List.getElem_toArray, List.getElem_cons_succ, List.getElem_cons_zero])
  refine wpAnyH_ready (rs := [4]) (by kernel_rfl) (by simp) ?_
  refine AllReadyH.cons rfl (fun K hK => ?_) AllReadyH.nil
  go_simp
  (go_at_call 67; refine (hO0 _ ((hS.below B1).below H1)).mono ?_)
  rintro e x2 ⟨rfl, hb2⟩
  have H2 : Below w1.heap.size w1 x2 := Below.trans H1 (hb2.mono (Below.size H1))
  refine hK.out _ _ (kept_cell H2 c1 l1) (fun hHeld => ?_)
  clear hK K
  (try simp only [Act.put, List.setIfInBounds_toArray, List.set_cons_zero, List.set_cons_succ, List.getElem_toArray, List.getElem_cons_succ, List.getElem_cons_zero])
  refine wpAnyH_take (i := 5) (v := ?_) rfl (by kernel_rfl) (by kernel_rfl) (by kernel_rfl) (fun _ _ _ h => h) (Or.inl ⟨by rfl, ?_⟩) (by assumption) ?_
  rotate_left
  · (intro w hSw; obtain hSw := hSw; (try dsimp only at hSw); go_simp; try (with_reducible rfl))
  (try simp only [Act.put, List.setIfInBounds_toArray, List.set_cons_zero, List.set_cons_succ, List.getElem_toArray, List.getElem_cons_succ, List.getElem_cons_zero])
  refine wpAnyH_take (i := 6) (v := ?_) rfl (by kernel_rfl) (by kernel_rfl) (by kernel_rfl) (fun _ _ _ h => h) (Or.inl ⟨by rfl, ?_⟩) (by assumption) ?_
  rotate_left
  · (intro w hSw; obtain hSw := hSw; (try dsimp only at hSw); go_simp; try (with_reducible rfl))
  (try simp only [Act.put, List.setIfInBounds_toArray, List.set_cons_zero, List.set_cons_succ, List.getElem_toArray, List.getElem_cons_succ, List.getElem_cons_zero])
  refine wpAnyH_take (i := 7) (v := ?_) rfl (by kernel_rfl) (by kernel_rfl) (by kernel_rfl) (fun _ _ _ h => h) (Or.inl ⟨by rfl, ?_⟩) (by assumption) ?_
  rotate_left
  · (intro w hSw; obtain hSw := hSw; (try dsimp only at hSw); go_simp; try (with_reducible rfl))
  (try simp only [Act.put, List.setIfInBounds_toArray, List.set_cons_zero, List.set_cons_succ, List.getElem_toArray, List.getElem_cons_succ, List.getElem_cons_zero])
  refine wpAnyH_done (by kernel_rfl) ?_ _
  (try simp only [Act.put, List.setIfInBounds_toArray, List.set_cons_zero, List.set_cons_succ, List.getElem_toArray, List.getElem_cons_succ, List.getElem_cons_zero])
  have Hn : Below w1.heap.size w1 x2 := H2
  obtain ⟨wZ, hwZ⟩ : ∃ z, z = x2 := ⟨_, rfl⟩
  rw [← hwZ] at Hn ⊢
  clear hwZ hHeld
  go_wp2_with fail
  go_ret2
  exact ⟨ret_ib HV.out.symm HE.out.symm, B1.trans (Hn.mono B1.size)⟩

set_option maxHeartbeats 2000000 in
theorem impl_ChoiceBound (ao : Option Addr) (S : List Int) (cap : Nat) (hn : S.length ≤ 4294967296) (t : Int) (ht : -9223372036854775808 ≤ t ∧ t ≤ 9223372036854775807) (w : World) (hS : Ints w ao S) :
    Calls Try.prog 35 #[.agg #[.slice ao S.length cap], .int .i64 t] w fun e w' => e = .returned (.tuple #[.int .i64 (vCb S t), .int .i64 (eC10 S t)]) ∧ Below w.heap.size w w' := by
  have B0 : Below w.heap.size w (w.alloc (.cells #[.slice ao S.length cap] 28)) := by go_grown
  have c0 := cell_new w (.slice ao S.length cap) 28
  have l0 := lt_alloc w (.cells #[.slice ao S.length cap] 28)
  have hc := rowsError_any ao S cap hn none [] 0 (by simp) t _ (hS.below B0) (.inl rfl)
  rw [eR10_nil, show ([] : List Int).length = 0 from rfl] at hc
  by_cases he : eC10 S t = 0
  case neg =>
    have HV : Hid (vCb S t = 0) := Lib.hid (by unfold vCb; rw [if_neg he])
    obtain ⟨E, hE⟩ : ∃ E, E = eC10 S t := ⟨_, rfl⟩
    rw [← hE] at hc he ⊢
    have hb : (E != 0) = true := by simpa using he
    clear hE he
    go_enter Try.func35, Try.ntmps35
    go_wp2_with fail
    refine hc.mono ?_
    rintro e w1 ⟨rfl, hb1⟩
    have B1 := B0.trans (hb1.mono B0.size)
    go_wp2_with fail
    go_ret2
    exact ⟨ret_ib HV.out.symm rfl, B1⟩
  obtain ⟨hSp, g1, g2, g3⟩ := eC10_zero he
  have HSp := Lib.hid hSp
  have hlo := hSp.lo
  have hhi := hSp.hi
  have HV : Hid (vCb S t = topP S t.toNat) := Lib.hid (by unfold vCb; rw [if_pos he])
  have HE := Lib.hid he
  rw [he] at hc
  clear he hSp
  obtain ⟨t, rfl⟩ : ∃ n : Nat, t = n := ⟨t.toNat, by omega⟩
  rw [Int.toNat_natCast] at HV
  go_enter Try.func35, Try.ntmps35
  go_wp2_with fail
  refine hc.mono ?_
  rintro e w1 ⟨rfl, hb1⟩
  have c1 := kept_cell hb1 c0 l0
  have l1 := lt_of_below hb1 l0
  have B1 := B0.trans (hb1.mono B0.size)
  clear hc c0 l0 B0 hb1
  go_wp2_with fail
  refine (values_any ao S cap w1).mono ?_
  rintro e w2 ⟨rfl, hvb, hb2⟩
  have B2 := B1.trans (hb2.mono B1.size)
  go_wp2_with fail
  refine (sorted_values w1.heap.size ao S cap hlo (by omega) w2 (hS.below B2) hvb).mono ?_
  rintro e w3 ⟨v, rfl, own, hb3⟩
  have B3 := B2.trans (hb3.mono B2.size)
  have hsl := sorted_len S
  obtain ⟨g, kg, rfl, _⟩ := own_some own (by intro h; rw [h] at hsl; simp at hsl; omega)
  obtain ⟨hcap, _⟩ := own_cap own
  rw [hsl] at hcap
  have hg := own.base_le
  obtain ⟨m, hm⟩ : ∃ m : Nat, m = S.length - t := ⟨_, rfl⟩
  have hmt : m + t = S.length := by omega
  have hIm : (S.length : Int) - (t : Int) = (m : Int) := by omega
  have E1 : IntKind.i64.wrap (m : Int) = (m : Int) := IntWalk.i64_in _ ⟨by omega, by omega⟩
  have i0 : (0 : Int) ≤ (m : Int) := by omega
  have i1 : (m : Int) ≤ (S.length : Int) := by omega
  have i2 : m ≤ S.length := by omega
  have i3 : ¬ kg = m := by omega
  have i4 : ¬ m = kg := by omega
  have i5 : (S.length : Int) ≤ (kg : Int) := by omega
  have HDl : Hid (((sorted S).drop m).length = S.length - m) := Lib.hid (by rw [List.length_drop, hsl])
  have hSm : S.length - m = t := by omega
  have HTP : Hid (prodTo ((sorted S).drop m) (S.length - m) = topP S t) := Lib.hid (by unfold topP; rw [hSm, hm])
  have hI : Ints w3 (some ⟨g, m, none⟩) ((sorted S).drop m) := own_ints_drop own m
  have hbt : ∀ i, i < ((sorted S).drop m).length → 2 ≤ gi ((sorted S).drop m) i ∧ gi ((sorted S).drop m) i ≤ 4 := fun i hi => by rw [HDl.out] at hi; rw [gi_drop]; exact sorted_bd HSp.out.bd _ (by omega)
  have hw := wordCount_any (some ⟨g, m, none⟩) ((sorted S).drop m) (kg - m) w3 (by rw [HDl.out]; omega) hbt hI
  rw [HDl.out, HTP.out] at hw
  rw [hsl]
  clear hbt hI hm hsl hvb hb2 hb3 own hSm hmt
  go_wp2_with fail
  refine hw.mono ?_
  rintro e w4 ⟨rfl, hb4⟩
  go_wp2_with fail
  go_ret2
  exact ⟨ret_ib HV.out.symm HE.out.symm, B3.trans (hb4.mono B3.size)⟩

end Go.Proofs.Ytodbdcanhefcaaa
