/-
  The contract of the sum of two words by parts. By an AI agent.
-/
import Derived.Test.YtamebfbddoeflaaPkSums
namespace Go.Proofs.Ytamebfbddoeflaa
open Go.RowKit Cv
set_option linter.unusedVariables false
set_option linter.unusedSimpArgs false
set_option maxRecDepth 100000

/-- the first numbers of a row of the call's own -/
theorem OwnInts.part {w : World} {base g n cap : Nat} {T D : List Int} (h : OwnInts w base (.slice (some ⟨g, 0, none⟩) n cap) T) (hl : D.length ≤ T.length) (hD : ∀ j, j < D.length → gi T j = gi D j) : Ints w (some ⟨g, 0, none⟩) D := by
  refine .inr ⟨g, 0, rfl, h.base_le.2, fun i hi => ?_⟩
  rw [Nat.zero_add, h.cell (k := i) (by omega), hD i hi]

set_option maxHeartbeats 1000000 in
theorem sumOfWords_any (ao : Option Addr) (S : List Int) (cap : Nat) (hSp : Sp S) (u x : Int) (hu : 0 ≤ u) (hu2 : u ≤ 9223372036854775807) (hx : 0 ≤ x) (hx2 : x ≤ 9223372036854775807) (w : World) (hS : Ints w ao S) :
    Calls Try.prog 60 #[.agg #[.slice ao S.length cap], .int .i64 u, .int .i64 x] w fun e w' => e = .returned (.int .i64 (sumW S u x)) ∧ Below w.heap.size w w' := by
  have HSp := Lib.hid hSp
  have hlo := hSp.lo
  have hhi := hSp.hi
  clear hSp
  go_enter Try.func60, Try.ntmps60
  go_wp2_with fail
  have B0 : Below w.heap.size w ((w.alloc (.cells #[.slice ao S.length cap] 26)).alloc (.cells #[.int .i64 u, .int .i64 x] 2)) := by go_grown
  have c0 : ((w.alloc (.cells #[.slice ao S.length cap] 26)).alloc (.cells #[.int .i64 u, .int .i64 x] 2)).cell? ⟨w.heap.size, 0, none⟩ = some (.slice ao S.length cap) :=
    kept_cell ((Below.refl _ (w.alloc (.cells #[.slice ao S.length cap] 26))).alloc (Nat.le_refl _) _) (cell_new _ _ _) (lt_alloc _ _)
  refine (digitParts_n ao S cap hlo hhi HSp.out.bd _ [u, x] 2 _ rfl (by omega) (by intro i hi; match i, hi with | 0, _ => exact ⟨hu, hu2⟩ | 1, _ => exact ⟨hx, hx2⟩) _ (hS.below B0) (ints_new2 _ u x _ (by simp))).mono ?_
  rintro e w1 ⟨P, g, U, rfl, hp, hb⟩
  have B1 : Below w.heap.size w w1 := B0.trans (hb.mono (by simp; omega))
  have r0 := hp.row 0 (by simp)
  have r1 := hp.row 1 (by simp)
  rw [Nat.zero_mul] at r0
  rw [Nat.one_mul] at r1
  have c1 := kept_cell hb c0 (by simp; omega)
  have own := hp.own
  have hUl : U.length = 2 * S.length := hp.len
  have hg := own.base_le
  have hbp := hp.bp
  have hpl := hp.pl
  have hne := hp.ne
  simp only [World.size_alloc] at hg hbp
  have HU : Hid (U.length = 2 * S.length ∧ (∀ j, j < S.length → gi U j = dig S u j) ∧ (∀ j, j < S.length → gi U (S.length + j) = dig S x j)) := Lib.hid ⟨hUl, fun j hj => by
    have := hp.dg 0 j (by simp) hj
    rwa [Nat.zero_mul, Nat.zero_add, gi_pair0] at this, fun j hj => by
    have := hp.dg 1 j (by simp) hj
    rwa [Nat.one_mul, gi_pair1] at this⟩
  rw [hUl] at own
  replace own := own.rebase (base' := w.heap.size) (by simp; omega)
  clear hb hp c0 B0 hUl
  go_wp2_with fail
  go_loopw [18] (fun i wr => ∃ (k : Nat) (T : List Int), k ≤ S.length ∧ i = .int .i64 k ∧ Hid (T.length = 2 * S.length ∧ (∀ j, j < S.length → gi T j = if j < k then (dig S u j + dig S x j) % gi S j else dig S u j) ∧ (∀ j, j < S.length → gi T (S.length + j) = dig S x j)) ∧ OwnInts wr w.heap.size (.slice (some ⟨g, 0, none⟩) (2 * S.length) (2 * S.length)) T ∧
      wr.cell? ⟨P, 0, none⟩ = some (.slice (some ⟨g, 0, none⟩) S.length S.length) ∧ wr.cell? ⟨P, 1, none⟩ = some (.slice (some ⟨g, S.length, none⟩) S.length S.length) ∧ wr.cell? ⟨w.heap.size, 0, none⟩ = some (.slice ao S.length cap) ∧ Below w.heap.size w wr) (fun i _ => S.length - (intOf i).toNat)
  case atStart => exact ⟨0, U, Nat.zero_le _, rfl, Lib.hid ⟨HU.out.1, fun j hj => by rw [HU.out.2.1 j hj, if_neg (by omega)], HU.out.2.2⟩, own, r0, r1, c1, B1⟩
  case round =>
    clear own r0 r1 c1 B1 HU
    obtain ⟨k, T, hk, rfl, HT, own, r0, r1, c1, B1⟩ := hrel
    by_cases hlt : k < S.length
    · obtain ⟨b, o, rfl, hbl, hc⟩ := hS.at hlt
      have hck : wr.cell? ⟨b, o + k, none⟩ = some (.int .i64 (gi S k)) := kept_cell B1 (hc k hlt) hbl
      have hcell := own.cell (k := k) (by rw [HT.out.1]; omega)
      rw [HT.out.2.1 k hlt, if_neg (by omega)] at hcell
      have hcell2 := own.cell (k := S.length + k) (by rw [HT.out.1]; omega)
      rw [HT.out.2.2 k hlt] at hcell2
      have hfree := own.free k
      obtain ⟨s1, s2⟩ := HSp.out.bd k hlt
      obtain ⟨d1, d2⟩ := dig_bd S u HSp.out.bd k hlt
      obtain ⟨d3, d4⟩ := dig_bd S x HSp.out.bd k hlt
      have E1 : IntKind.i64.wrap (dig S u k + dig S x k) = dig S u k + dig S x k := IntWalk.i64_in _ ⟨by omega, by omega⟩
      have E2 : (dig S u k + dig S x k).tmod (gi S k) = (dig S u k + dig S x k) % gi S k := Int.tmod_eq_emod_of_nonneg (by omega)
      have hzz : ¬ gi S k = 0 := by omega
      have hzz2 : (gi S k == 0) = false := by simp; omega
      clear hc
      go_wp2_with fail
      go_still_tail 20, (by kernel_rfl)
      clear E1 E2
      change wpList _ _ _ _ _ wr.drew
      go_wp2
      go_roundw
      case rel =>
        refine ⟨k + 1, _, by omega, by go_num, Lib.hid ⟨?_, ?_, ?_⟩, own.drew.stored k ((dig S u k + dig S x k) % gi S k), cell_set_other (w := wr.drew) r0 (by simp; omega), cell_set_other (w := wr.drew) r1 (by simp; omega), cell_set_other (w := wr.drew) c1 (by simp; omega), B1.drew.setCell (by simp; omega) _⟩
        · rw [List.length_set]; exact HT.out.1
        · intro j hj
          rw [gi_set _ _ _ _ (by rw [HT.out.1]; omega)]
          by_cases e : j = k
          · subst e; rw [if_pos rfl, if_pos (by omega)]
          · rw [if_neg e, HT.out.2.1 j hj]
            by_cases h : j < k
            · rw [if_pos h, if_pos (by omega)]
            · rw [if_neg h, if_neg (by omega)]
        · intro j hj
          rw [gi_set _ _ _ _ (by rw [HT.out.1]; omega), if_neg (by omega)]
          exact HT.out.2.2 j hj
      case measure => simp [intOf]; omega
    · have ek : k = S.length := by omega
      have i1 : Ints wr (some ⟨g, 0, none⟩) (sumD S (digs S u) (digs S x)) := own.part (by rw [sumD_length, HT.out.1]; omega) fun j hj => by
        rw [sumD_length] at hj
        rw [HT.out.2.1 j hj, if_pos (by omega), gi_sumD _ _ _ _ hj, gi_digs _ _ _ hj, gi_digs _ _ _ hj]
      have HD : Dg S (sumD S (digs S u) (digs S x)) := ⟨sumD_length _ _ _, fun j hj => by
        have := HSp.out.bd j hj
        rw [gi_sumD _ _ _ _ hj]; exact ⟨Int.emod_nonneg _ (by omega), Int.emod_lt_of_pos _ (by omega)⟩⟩
      clear own
      go_wp2_with fail
      go_region_held3 (fun w' => w'.cell? ⟨P, 0, none⟩ = some (.slice (some ⟨g, 0, none⟩) S.length S.length) ∧ w'.cell? ⟨w.heap.size, 0, none⟩ = some (.slice ao S.length cap)) (first | exact ⟨r0, c1⟩ | exact ⟨kept_cell hb5 r0 (lt_of_below B1 (by omega)), kept_cell hb5 c1 (by omega)⟩ | exact ⟨kept_cell hb5 r0 (World.block_lt_of_cell? wr _ r0), kept_cell hb5 c1 (World.block_lt_of_cell? wr _ c1)⟩) (first | (go_at_call 78; refine (wordWithDigits_any ao S cap hhi HSp.out.bd (some ⟨g, 0, none⟩) (sumD S (digs S u) (digs S x)) S.length _ rfl HD _ (hS.below B1.drew) (by exact i1)).mono ?_; rintro e w5 ⟨rfl, hb5'⟩; have hb5 := (Below.refl wr.heap.size wr).drew.trans hb5'))
      go_wp2
      go_ret
      exact ⟨rfl, B1.trans (hb5.mono B1.size)⟩

end Go.Proofs.Ytamebfbddoeflaa
