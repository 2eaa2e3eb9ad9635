/-
  The contracts of isOrder and of what an order places. By an AI agent.
-/
import Derived.Test.YtdacokgmcenjoaaOrd
import Derived.Test.YtdacokgmcenjoaaSeq
namespace Go.Proofs.Ytdacokgmcenjoaa
open Go.RowKit Cv
set_option linter.unusedVariables false
set_option linter.unusedSimpArgs false
set_option maxRecDepth 100000

theorem isOrd_ne {p : List Int} {n : Int} (h : (p.length : Int) ≠ n) : isOrd p n = false := by
  unfold isOrd; rw [decide_eq_false]; exact fun g => h g.1

set_option maxHeartbeats 1000000 in
theorem isOrder_any (ao : Option Addr) (p : List Int) (cap : Nat) (hp32 : p.length ≤ 4294967296) (n : Int) (hn1 : 1 ≤ n) (hn8 : n ≤ 8) (w : World) (hp : Ints w ao p) :
    Calls Try.prog 43 #[.slice ao p.length cap, .int .i64 n] w fun e w' => e = .returned (.bool (isOrd p n)) ∧ Below w.heap.size w w' := by
  by_cases hl : (p.length : Int) = n
  · obtain ⟨b, o, rfl, hb, _⟩ := hp.at (show 0 < p.length by omega)
    have hl8 : p.length ≤ 8 := by omega
    have HE : Hid (eqO (sorted p) [] = isOrd p n) := Lib.hid (by rw [eqO_ord hl8, hl])
    have heq := fun w => run_eqOrd (sorted p) [] (by rw [sorted_len]; exact hl8) (by simp) w
    have hlb : ((p.length : Int) == n) = true := by simpa using hl
    have hg := guardOrd
    have HSL := Lib.hid (sorted_len p)
    have h1 : 1 ≤ p.length := by omega
    have hne : sorted p ≠ [] := fun e => by have := sorted_len p; rw [e] at this; simp at this; omega
    have HV := Lib.hid (values_any (some ⟨b, o, none⟩) p cap w)
    clear hl
    go_enter Try.func43, Try.ntmps43
    go_wp2_with fail
    refine HV.out.mono ?_
    rintro e w1 ⟨rfl, hvb, hb1⟩
    go_wp2_with fail
    refine (sorted_values w.heap.size (some ⟨b, o, none⟩) p cap h1 (by omega) w1 (hp.below hb1) hvb).mono ?_
    rintro e w2 ⟨v, rfl, own, hb2⟩
    obtain ⟨g, c, rfl, _⟩ := own_some own hne
    have B2 := hb1.trans (hb2.mono hb1.size)
    go_wp2_with fail
    refine (orderOf_some ⟨g, 0, none⟩ (sorted p) _ c rfl (by rw [HSL.out]; exact hl8) w2 (own_ints own)).mono ?_
    rintro e w3 ⟨rfl, hb3⟩
    have B3 := B2.trans (hb3.mono B2.size)
    go_wp2_with fail
    refine (orderOf_nil w3).mono ?_
    rintro e w4 ⟨rfl, hb4⟩
    go_wp2_with fail
    go_ret
    exact ⟨ret_bool HE.out, B3.trans (hb4.mono B3.size)⟩
  · have HE := Lib.hid (isOrd_ne hl)
    have hlb : ((p.length : Int) == n) = false := by simpa using hl
    clear hl
    go_enter Try.func43, Try.ntmps43
    go_wp2_with fail
    go_ret
    exact ⟨ret_bool HE.out.symm, Below.refl _ _⟩

theorem rowo_other {w : World} {b : Nat} {p : List Int} {a : Addr} {u : Value} (h : RowO w b p) (hne : b ≠ a.block) : RowO (w.setCell a u) b p := by
  unfold RowO; rw [Below.heap_setCell _ _ _ _ hne]; exact h

set_option maxHeartbeats 1000000 in
theorem placed_any (p : List Int) (n : Int) (ho : isOrd p n = true) (hn8 : n ≤ 8) (aL : Option Addr) (L : List Int) (K cap : Nat) (hK : K = L.length) (hlen : p.length = L.length) (w : World) (hL : Ints w aL L) :
    Calls Try.prog 45 #[.agg (ordA p), .slice aL K cap] w fun e w' => ∃ g, e = .returned (.slice (some ⟨g, 0, none⟩) L.length L.length) ∧ OwnInts w' w.heap.size (.slice (some ⟨g, 0, none⟩) L.length L.length) (plcD p L) ∧ Below w.heap.size w w' := by
  subst hK
  obtain ⟨i0, hi, hz0, hz1, hz2⟩ := info_parts infoI64
  obtain ⟨o1, o2, o3, o4⟩ := ord_at ho
  have hl8 : p.length ≤ 8 := by omega
  have HP := Lib.hid o2
  have HT := Lib.hid (plcTo_len p L)
  obtain ⟨W0, hW0⟩ : ∃ W0, W0 = w.alloc (.cells (ordA p) 69) := ⟨_, rfl⟩
  have B0 : Below w.heap.size w W0 := by rw [hW0]; exact (Below.refl _ _).alloc (Nat.le_refl _) _
  have r0 : RowO W0 w.heap.size p := by rw [hW0]; exact rowo_new w p
  have s0 : w.heap.size < W0.heap.size := by rw [hW0]; exact lt_alloc _ _
  have HW0 := Lib.hid hW0
  obtain ⟨OA, hOA⟩ : ∃ OA, OA = ordA p := ⟨_, rfl⟩
  rw [← hOA] at HW0 ⊢
  have hOAs : OA.size = 8 := by rw [hOA]; exact ordA_size hl8
  clear hW0 ho o1 o2 o3 o4 hOA
  go_enter Try.func45, Try.ntmps45
  go_wp2_with (at_make; refine wpList_make_full _ rfl _ _ 22 rfl (w.heap.size + 1) 2 i0 (.int .i64 0) 1 Try.underlying22 hi hz0 hz1 .i64 .i64 _ _ L.length rfl rfl rfl rfl (by rw [hz2]; omega) (by unfold maxLen; omega) (by simp) ?_; rw [← HW0.out]; intro w1 hown hgrow)
  have hb1 := below_grown0 hgrow
  have r1 := r0.below hb1 s0
  have B1 := B0.trans (hb1.mono B0.size)
  replace hown := own_made hown
  have s1 : W0.heap.size = w.heap.size + 1 := by rw [HW0.out]; simp
  rw [s1] at hown
  have hg1 := hown.base_le
  clear hgrow hb1 r0 B0
  go_wp2_with fail
  go_loopw [13] (fun i wr => ∃ k : Nat, k ≤ L.length ∧ i = .int .i64 k ∧ OwnInts wr (w.heap.size + 1) (.slice (some ⟨w.heap.size + 1, 0, none⟩) L.length L.length) (plcTo p L k) ∧ RowO wr w.heap.size p ∧ Below w.heap.size w wr) (fun i _ => L.length - (intOf i).toNat)
  case atStart => exact ⟨0, Nat.zero_le _, rfl, hown, r1, B1⟩
  case round =>
    clear hown r1 B1 hg1
    obtain ⟨k, hk, rfl, own, r, B⟩ := hrel
    by_cases hlt : k < L.length
    · obtain ⟨b, o, rfl, hbl, hc⟩ := hL.at hlt
      have hck := kept_cell B (hc k hlt) hbl
      have hcO := r.cell hl8 k (by omega)
      rw [gi_ordL p k (by omega)] at hcO
      obtain ⟨p1, p2⟩ := HP.out k (by omega)
      obtain ⟨D, hD⟩ : ∃ D : Nat, gi p k = (D : Int) := ⟨(gi p k).toNat, by omega⟩
      rw [hD] at hcO p1 p2
      have hDl : D < L.length := by omega
      have hD0 : (0 : Int) ≤ (D : Int) := by omega
      have hD1 : (D : Int) < (L.length : Int) := by omega
      have kI : (k : Int) < (L.length : Int) := by omega
      have k0 : (0 : Int) ≤ (k : Int) := by omega
      have k8 : (k : Int) < 8 := by omega
      have hf := own.free D
      have hcD := own.cell (k := D) (by rw [HT.out]; exact hDl)
      have HST : Hid (plcTo p L (k + 1) = (plcTo p L k).set D (gi L k)) := Lib.hid (by rw [plcTo, hD]; rfl)
      have sB := B.size
      have hne : w.heap.size + 1 ≠ w.heap.size := by omega
      have lr := r.lt
      clear hc hD
      go_wp2_with fail
      go_roundw
      case rel => exact ⟨k + 1, by omega, by go_num, by rw [HST.out]; exact own.stored D (gi L k), rowo_other r (by simp), B.setCell (by simp) _⟩
      case measure => simp [intOf]; omega
    · have ek : k = L.length := by omega
      subst ek
      have kI : ¬ (L.length : Int) < (L.length : Int) := by omega
      go_wp2_with fail
      go_ret
      exact ⟨w.heap.size + 1, rfl, own.rebase (by omega), B⟩

end Go.Proofs.Ytdacokgmcenjoaa
