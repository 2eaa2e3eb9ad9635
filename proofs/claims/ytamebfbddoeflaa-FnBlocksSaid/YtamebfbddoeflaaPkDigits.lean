/-
  The contracts of words and their digits. By an AI agent.
-/
import Derived.Test.YtamebfbddoeflaaPkWords
namespace Go.Proofs.Ytamebfbddoeflaa
open Go.RowKit Cv
set_option linter.unusedVariables false
set_option linter.unusedSimpArgs false

set_option maxHeartbeats 400000 in
theorem l01Digits_any (ao : Option Addr) (S : List Int) (cap : Nat) (hl : S.length ≤ 8) (hbd : ∀ i, i < S.length → 2 ≤ gi S i ∧ gi S i ≤ 4) (x : Int) (hx : 0 ≤ x) (hx2 : x ≤ 9223372036854775807) (w : World) (hS : Ints w ao S) :
    Calls Try.prog 43 #[.agg #[.slice ao S.length cap], .int .i64 x] w fun e w' =>
      ∃ g, e = .returned (.slice (some ⟨g, 0, none⟩) S.length S.length) ∧ OwnInts w' w.heap.size (.slice (some ⟨g, 0, none⟩) S.length S.length) (digs S x) ∧ Below w.heap.size w w' := by
  obtain ⟨i0, hi, hz0, hz1, hz2⟩ := info_parts infoI64
  have HB := Lib.hid hbd
  clear hbd
  go_enter Try.func43, Try.ntmps43
  go_wp2_with (at_make; refine wpList_make_full _ rfl _ _ 24 rfl w.heap.size 2 i0 (.int .i64 0) 1 Try.underlying24 hi hz0 hz1 .i64 .i64 _ _ S.length rfl rfl rfl rfl (by rw [hz2]; omega) (by unfold maxLen; omega) (by simp) ?_; intro w1 hown hgrow; have c1 := kept_cell (below_grown0 hgrow) (cell_new w (.slice ao S.length cap) 26) (lt_alloc _ _))
  have B1 : Below w.heap.size w w1 := Below.trans (by go_grown) ((below_grown0 hgrow).mono (by simp))
  replace hown := own_made hown
  have l1 : w.heap.size < (w.alloc (.cells #[.slice ao S.length cap] 26)).heap.size := lt_alloc _ _
  rw [show (w.alloc (.cells #[.slice ao S.length cap] 26)).heap.size = w.heap.size + 1 from by simp] at hown
  clear hgrow l1
  have HQ := Lib.hid (quo_all S x)
  go_loopw [1, 6] (fun q i wr => ∃ (m : Nat) (T : List Int), m ≤ S.length ∧ i = .int .i64 ((m : Int) - 1) ∧ q = .int .i64 (quo S x m) ∧ Hid (T.length = S.length ∧ ∀ j, m ≤ j → j < S.length → gi T j = dig S x j) ∧ OwnInts wr w.heap.size (.slice (some ⟨w.heap.size + 1, 0, none⟩) S.length S.length) T ∧
      wr.cell? ⟨w.heap.size, 0, none⟩ = some (.slice ao S.length cap) ∧ Below w.heap.size w wr) (fun _ i _ => (intOf i + 1).toNat)
  case atStart => exact ⟨S.length, _, Nat.le_refl _, rfl, by rw [HQ.out], Lib.hid ⟨by simp, fun j h h' => by omega⟩, hown, c1, B1⟩
  case round =>
    obtain ⟨m, T, hm, rfl, rfl, HT, hown, c, B⟩ := hrel
    by_cases hlt : 0 < m
    · obtain ⟨j, rfl⟩ : ∃ j, m = j + 1 := ⟨m - 1, by omega⟩
      obtain ⟨b, o, rfl, hbl, hc⟩ := hS.at (i := j) (by omega)
      have hck : wr.cell? ⟨b, o + j, none⟩ = some (.int .i64 (gi S j)) := kept_cell B (hc j (by omega)) hbl
      obtain ⟨q1, q2⟩ := quo_bd S x HB.out hx (j + 1)
      obtain ⟨s1, s2⟩ := HB.out j (by omega)
      have hcell := hown.cell (k := j) (by rw [HT.out.1]; omega)
      have hfree := hown.free j
      have ei : ((j + 1 : Nat) : Int) - 1 = (j : Int) := by omega
      rw [ei]
      clear ei hc
      go_wp2
      go_roundw
      case rel =>
        refine ⟨j, _, by omega, rfl, ?_, Lib.hid ⟨?_, ?_⟩, hown.stored j (quo S x (j + 1) % gi S j), ?_, B.setCell (by simp) _⟩
        · rw [quo_step S x j (by omega)]
        · rw [List.length_set]; exact HT.out.1
        · intro i h1 h2
          rw [gi_set _ _ _ _ (by rw [HT.out.1]; omega)]
          by_cases e : i = j
          · rw [if_pos e, e, dig_quo S x j (by omega)]
          · rw [if_neg e]; exact HT.out.2 i (by omega) h2
        · exact cell_set_other c (by simp)
      case measure => simp [intOf]
    · have em : m = 0 := by omega
      subst em
      go_wp2
      go_ret
      have e : T = digs S x := ext_gi (by rw [HT.out.1, digs_length]) fun i hi => by rw [HT.out.1] at hi; rw [HT.out.2 i (by omega) hi, gi_digs S x i hi]
      rw [e] at hown
      exact ⟨_, rfl, hown, B⟩

/-- digits of a space's places -/
def Dg (S D : List Int) : Prop := D.length = S.length ∧ ∀ i, i < S.length → 0 ≤ gi D i ∧ gi D i < gi S i

set_option maxHeartbeats 400000 in
theorem l01Word_any (ao : Option Addr) (S : List Int) (cap : Nat) (hl : S.length ≤ 8) (hbd : ∀ i, i < S.length → 2 ≤ gi S i ∧ gi S i ≤ 4) (ad : Option Addr) (D : List Int) (n capd : Nat) (hn : n = S.length) (hD : Dg S D) (w : World) (hS : Ints w ao S) (hDm : Ints w ad D) :
    Calls Try.prog 66 #[.agg #[.slice ao S.length cap], .slice ad n capd] w fun e w' => e = .returned (.int .i64 (wordTo S D S.length)) ∧ Below w.heap.size w w' := by
  subst hn
  have HB := Lib.hid hbd
  have HD := Lib.hid hD
  clear hbd hD
  go_enter Try.func66, Try.ntmps66
  go_wp2
  go_loopw [5, 6] (fun t i wr => ∃ k : Nat, k ≤ S.length ∧ i = .int .i64 k ∧ t = .int .i64 (wordTo S D k) ∧ wr.cell? ⟨w.heap.size, 0, none⟩ = some (.slice ao S.length cap) ∧ Below w.heap.size w wr) (fun _ i _ => S.length - (intOf i).toNat)
  case atStart => exact ⟨0, Nat.zero_le _, rfl, rfl, cell_new _ _ _, by go_grown⟩
  case round =>
    obtain ⟨k, hk, rfl, rfl, c, B⟩ := hrel
    by_cases hlt : k < S.length
    · obtain ⟨b, o, rfl, hbl, hc⟩ := hS.at hlt
      have hck : wr.cell? ⟨b, o + k, none⟩ = some (.int .i64 (gi S k)) := kept_cell B (hc k hlt) hbl
      obtain ⟨b', o', rfl, hbl', hc'⟩ := hDm.at (i := k) (by rw [HD.out.1]; exact hlt)
      have hck' : wr.cell? ⟨b', o' + k, none⟩ = some (.int .i64 (gi D k)) := kept_cell B (hc' k (by rw [HD.out.1]; exact hlt)) hbl'
      obtain ⟨s1, s2⟩ := HB.out k hlt
      obtain ⟨d1, d2⟩ := HD.out.2 k hlt
      obtain ⟨p1, p2⟩ := wordTo_bd S D k (fun i hi => HB.out i (by omega)) (fun i hi => HD.out.2 i (by omega))
      obtain ⟨r1, r2⟩ := prodTo_le S k (fun i hi => HB.out i (by omega)) (by omega)
      have m1 : 0 ≤ wordTo S D k * gi S k := Int.mul_nonneg (by omega) (by omega)
      have m2 : wordTo S D k * gi S k ≤ 65536 * 4 := Int.mul_le_mul (by omega) s2 (by omega) (by omega)
      have E1 : IntKind.i64.wrap (wordTo S D k * gi S k) = wordTo S D k * gi S k := IntWalk.i64_in _ ⟨by omega, by omega⟩
      have E2 : IntKind.i64.wrap (wordTo S D k * gi S k + gi D k) = wordTo S D k * gi S k + gi D k := IntWalk.i64_in _ ⟨by omega, by omega⟩
      clear hc hc'
      go_wp2
      go_quiet (fail)
      clear E1 E2
      go_wp2
      go_roundw
      case rel => exact ⟨k + 1, by omega, by go_num, rfl, c, below_drewN B _⟩
      case measure => simp [intOf]; omega
    · have ek : k = S.length := by omega
      go_wp2
      go_ret
      exact ⟨by rw [← ek]; rfl, B⟩

set_option maxHeartbeats 400000 in
theorem wordWithDigits_any (ao : Option Addr) (S : List Int) (cap : Nat) (hl : S.length ≤ 8) (hbd : ∀ i, i < S.length → 2 ≤ gi S i ∧ gi S i ≤ 4) (ad : Option Addr) (D : List Int) (n capd : Nat) (hn : n = S.length) (hD : Dg S D) (w : World) (hS : Ints w ao S) (hDm : Ints w ad D) :
    Calls Try.prog 78 #[.agg #[.slice ao S.length cap], .slice ad n capd] w fun e w' => e = .returned (.int .i64 (wordTo S D S.length)) ∧ Below w.heap.size w w' := by
  subst hn
  have HB := Lib.hid hbd
  have HD := Lib.hid hD
  clear hbd hD
  have Bx : ∀ o, Below w.heap.size w (w.alloc o) := fun o => (Below.refl _ _).alloc (Nat.le_refl _) _
  go_enter Try.func78, Try.ntmps78
  go_wp2
  go_loop [5, 11] (fun t i => ∃ k : Nat, k ≤ S.length ∧ i = .int .i64 k ∧ t = .int .i64 (wordTo S D k)) (fun _ i => S.length - (intOf i).toNat)
  case atStart => exact ⟨0, Nat.zero_le _, rfl, rfl⟩
  case round =>
    obtain ⟨k, hk, rfl, rfl⟩ := hrel
    by_cases hlt : k < S.length
    · obtain ⟨b, o, rfl, hbl, hc⟩ := hS.at hlt
      have hck : ∀ x, (w.alloc x).cell? ⟨b, o + k, none⟩ = some (.int .i64 (gi S k)) := fun x => kept_cell (Bx x) (hc k hlt) hbl
      obtain ⟨b', o', rfl, hbl', hc'⟩ := hDm.at (i := k) (by rw [HD.out.1]; exact hlt)
      have hck' : ∀ x, (w.alloc x).cell? ⟨b', o' + k, none⟩ = some (.int .i64 (gi D k)) := fun x => kept_cell (Bx x) (hc' k (by rw [HD.out.1]; exact hlt)) hbl'
      obtain ⟨s1, s2⟩ := HB.out k hlt
      obtain ⟨d1, d2⟩ := HD.out.2 k hlt
      obtain ⟨p1, p2⟩ := wordTo_bd S D k (fun i hi => HB.out i (by omega)) (fun i hi => HD.out.2 i (by omega))
      obtain ⟨r1, r2⟩ := prodTo_le S k (fun i hi => HB.out i (by omega)) (by omega)
      have m1 : 0 ≤ wordTo S D k * gi S k := Int.mul_nonneg (by omega) (by omega)
      have m2 : wordTo S D k * gi S k ≤ 65536 * 4 := Int.mul_le_mul (by omega) s2 (by omega) (by omega)
      clear hc hc'
      go_wp2
      go_round
      case rel => exact ⟨k + 1, by omega, by go_num, rfl⟩
      case measure => simp [intOf]; omega
    · have ek : k = S.length := by omega
      go_wp2
      go_ret
      exact ⟨by rw [← ek]; rfl, by go_grown⟩

end Go.Proofs.Ytamebfbddoeflaa
