/-
  The contracts of distances and sums by parts. By an AI agent.
-/
import Derived.Test.YtamebfbddoeflaaPkParts
import Derived.StillTailTactics
import Derived.BigRegion
namespace Go.Proofs.Ytamebfbddoeflaa
open Go.RowKit Cv
set_option linter.unusedVariables false
set_option linter.unusedSimpArgs false
set_option maxRecDepth 100000

theorem gi_pair0 (a b : Int) : gi [a, b] 0 = a := rfl
theorem gi_pair1 (a b : Int) : gi [a, b] 1 = b := rfl

theorem ints_set_other {w : World} {ao : Option Addr} {S : List Int} {a : Addr} {u : Value} (h : Ints w ao S) (hne : ∀ b o, ao = some ⟨b, o, none⟩ → b ≠ a.block) : Ints (w.setCell a u) ao S := by
  rcases h with h | ⟨b, o, rfl, hlt, hc⟩
  · exact .inl h
  · exact .inr ⟨b, o, rfl, by simpa using hlt, fun i hi => cell_set_other (hc i hi) (hne b o rfl)⟩

/-- part k holds the digits of word k -/
theorem PartsAt.ints {w : World} {base P g : Nat} {S T U : List Int} (h : PartsAt w base P g S T U) {k : Nat} (hk : k < T.length) : Ints w (some ⟨g, k * S.length, none⟩) (digs S (gi T k)) := by
  refine .inr ⟨g, _, rfl, h.own.base_le.2, fun i hi => ?_⟩
  rw [digs_length] at hi
  have hkk : (k + 1) * S.length ≤ T.length * S.length := Nat.mul_le_mul_right _ hk
  rw [Nat.add_mul, Nat.one_mul] at hkk
  have := h.own.cell (k := k * S.length + i) (by rw [h.len]; omega)
  rw [this, h.dg k i hk hi, gi_digs _ _ _ hi]

set_option maxHeartbeats 1000000 in
theorem l01Sum_any (ao : Option Addr) (S : List Int) (cap : Nat) (hSp : Sp S) (u x : Int) (hu : 0 ≤ u) (hu2 : u ≤ 9223372036854775807) (hx : 0 ≤ x) (hx2 : x ≤ 9223372036854775807) (w : World) (hS : Ints w ao S) :
    Calls Try.prog 44 #[.agg #[.slice ao S.length cap], .int .i64 u, .int .i64 x] w fun e w' => e = .returned (.int .i64 (sumW S u x)) ∧ Below w.heap.size w w' := by
  have HSp := Lib.hid hSp
  have hlo := hSp.lo
  have hhi := hSp.hi
  clear hSp
  go_enter Try.func44, Try.ntmps44
  go_wp2_with fail
  have c0 := cell_new w (.slice ao S.length cap) 26
  have B0 : Below w.heap.size w (w.alloc (.cells #[.slice ao S.length cap] 26)) := by go_grown
  go_region_held3 (fun w' => w'.cell? ⟨w.heap.size, 0, none⟩ = some (.slice ao S.length cap)) (first | exact c0 | exact kept_cell hb1 c0 (lt_alloc _ _) | exact kept_cell hb2 (kept_cell hb1 c0 (lt_alloc _ _)) (lt_of_below hb1 (lt_alloc _ _))) (first | (go_at_call_of 43 u; refine (l01Digits_any ao S cap hhi HSp.out.bd u hu hu2 _ (hS.below B0.drew)).mono ?_; rintro e w1 ⟨g1, rfl, o1, hb1'⟩; have hb1 := (Below.refl _ (w.alloc (.cells #[.slice ao S.length cap] 26))).drew.trans hb1'; have B1 := B0.trans (hb1.mono B0.size)) | (go_at_call_of 43 x; refine (l01Digits_any ao S cap hhi HSp.out.bd x hx hx2 _ (hS.below B1)).mono ?_; rintro e w2 ⟨g2, rfl, o2, hb2⟩))
  have c2 := kept_cell hb2 (kept_cell hb1 c0 (lt_alloc _ _)) (lt_of_below hb1 (lt_alloc _ _))
  have B2 := B1.trans (hb2.mono B1.size)
  have q1 := o1.base_le
  have q2 := o2.base_le
  replace o1 := o1.below hb2
  have hz1 : w.heap.size < g1 := by have := q1.1; simp at this; omega
  have hz2 : g1 < g2 := by omega
  have i2 := own_ints o2
  clear hb1 hb1' hb2 c0 B0 B1 q1 q2 o2
  go_wp2_with fail
  go_loopw [18] (fun i wr => ∃ (k : Nat) (T : List Int), k ≤ S.length ∧ i = .int .i64 k ∧ Hid (T.length = S.length ∧ ∀ j, j < S.length → gi T j = if j < k then (dig S u j + dig S x j) % gi S j else dig S u j) ∧ OwnInts wr w.heap.size (.slice (some ⟨g1, 0, none⟩) S.length S.length) T ∧
      Ints wr (some ⟨g2, 0, none⟩) (digs S x) ∧ wr.cell? ⟨w.heap.size, 0, none⟩ = some (.slice ao S.length cap) ∧ Below w.heap.size w wr) (fun i _ => S.length - (intOf i).toNat)
  case atStart => exact ⟨0, _, Nat.zero_le _, rfl, Lib.hid ⟨digs_length _ _, fun j hj => by simp [gi_digs S u j hj]⟩, o1.rebase (by simp), i2, c2, B2⟩
  case round =>
    clear o1 i2 c2 B2
    obtain ⟨k, T, hk, rfl, HT, o1, i2, c2, B2⟩ := hrel
    by_cases hlt : k < S.length
    · obtain ⟨b, o, rfl, hbl, hc⟩ := hS.at hlt
      have hck : wr.cell? ⟨b, o + k, none⟩ = some (.int .i64 (gi S k)) := kept_cell B2 (hc k hlt) hbl
      have hcell := o1.cell (k := k) (by rw [HT.out.1]; exact hlt)
      rw [HT.out.2 k hlt, if_neg (by omega)] at hcell
      have hfree := o1.free k
      have hcell2 : wr.cell? ⟨g2, k, none⟩ = some (.int .i64 (dig S x k)) := by
        rcases i2 with h | ⟨b', o', h, _, h2⟩
        · rw [digs_length] at h; omega
        · simp at h; obtain ⟨rfl, rfl⟩ := h
          have := h2 k (by rw [digs_length]; exact hlt)
          rwa [Nat.zero_add, gi_digs _ _ _ hlt] at this
      obtain ⟨s1, s2⟩ := HSp.out.bd k hlt
      obtain ⟨d1, d2⟩ := dig_bd S u HSp.out.bd k hlt
      obtain ⟨d3, d4⟩ := dig_bd S x HSp.out.bd k hlt
      have E1 : IntKind.i64.wrap (dig S u k + dig S x k) = dig S u k + dig S x k := IntWalk.i64_in _ ⟨by omega, by omega⟩
      have E2 : (dig S u k + dig S x k).tmod (gi S k) = (dig S u k + dig S x k) % gi S k := Int.tmod_eq_emod_of_nonneg (by omega)
      have hzz : ¬ gi S k = 0 := by omega
      have hzz2 : (gi S k == 0) = false := by simp; omega
      clear hc
      go_wp2_with fail
      go_still_tail 18, (by kernel_rfl)
      clear E1 E2
      change wpList _ _ _ _ _ wr.drew
      go_wp2
      go_roundw
      case rel =>
        refine ⟨k + 1, _, by omega, by go_num, Lib.hid ⟨?_, ?_⟩, o1.drew.stored k ((dig S u k + dig S x k) % gi S k), ?_, ?_, ?_⟩
        · rw [List.length_set]; exact HT.out.1
        · intro j hj
          rw [gi_set _ _ _ _ (by rw [HT.out.1]; exact hlt)]
          by_cases e : j = k
          · subst e; rw [if_pos rfl, if_pos (by omega)]
          · rw [if_neg e, HT.out.2 j hj]
            by_cases h : j < k
            · rw [if_pos h, if_pos (by omega)]
            · rw [if_neg h, if_neg (by omega)]
        · exact ints_set_other i2 (by intro b' o' h; simp at h; obtain ⟨rfl, rfl⟩ := h; simp; omega)
        · exact cell_set_other (w := wr.drew) c2 (by simp; omega)
        · exact B2.drew.setCell (by simp; omega) _
      case measure => simp [intOf]; omega
    · have ek : k = S.length := by omega
      have eT : T = sumD S (digs S u) (digs S x) := ext_gi (by rw [HT.out.1, sumD_length]) fun j hj => by
        rw [HT.out.1] at hj
        rw [HT.out.2 j hj, if_pos (by omega), gi_sumD _ _ _ _ hj, gi_digs _ _ _ hj, gi_digs _ _ _ hj]
      rw [eT] at o1
      have HD : Dg S (sumD S (digs S u) (digs S x)) := ⟨sumD_length _ _ _, fun j hj => by
        have := HSp.out.bd j hj
        rw [gi_sumD _ _ _ _ hj]; exact ⟨Int.emod_nonneg _ (by omega), Int.emod_lt_of_pos _ (by omega)⟩⟩
      clear eT
      go_wp2_with (go_at_call 66; refine (l01Word_any ao S cap hhi HSp.out.bd (some ⟨g1, 0, none⟩) (sumD S (digs S u) (digs S x)) S.length _ rfl HD _ (hS.below B2) (own_ints o1)).mono ?_; rintro e w5 ⟨rfl, hb5⟩)
      go_ret
      exact ⟨rfl, B2.trans (hb5.mono B2.size)⟩

end Go.Proofs.Ytamebfbddoeflaa
