/-
  The contracts of OppositeWord and ChangeDigit. By an AI agent.
-/
import Derived.Test.YtjjcpbhmpjedoaaF2
namespace Go.Proofs.Ytjjcpbhmpjedoaa
open Go.RowKit Cv
set_option linter.unusedVariables false
set_option linter.unusedSimpArgs false
set_option maxRecDepth 100000

theorem Dg_digs {S : List Int} (h : Sp S) (x : Int) : Dg S (digs S x) := ⟨digs_length _ _, fun j hj => by rw [gi_digs S x j hj]; exact dig_bd S x h.bd j hj⟩
theorem Dg_opp {S : List Int} (h : Sp S) (x : Int) : Dg S (oppD S (digs S x)) := ⟨oppD_length _ _, fun j hj => by
  have := h.bd j hj
  rw [gi_oppD _ _ _ hj]; exact ⟨Int.emod_nonneg _ (by omega), Int.emod_lt_of_pos _ (by omega)⟩⟩
theorem parts_own {w : World} {base P g : Nat} {S U : List Int} {x : Int} (hp : PartsAt w base P g S [x] U) : OwnInts w base (.slice (some ⟨g, 0, none⟩) S.length S.length) (digs S x) := by
  have hU : U = digs S x := ext_gi (by rw [hp.len, digs_length]; simp) fun j hj => by
    rw [hp.len] at hj
    have := hp.dg 0 j (by simp) (by simpa using hj)
    rw [Nat.zero_mul, Nat.zero_add, gi1] at this
    rw [this, gi_digs S x j (by simpa using hj)]
  have own := hp.own
  rwa [hU, digs_length] at own

set_option maxHeartbeats 2000000 in
theorem spec_OppositeWord (ao : Option Addr) (S : List Int) (cap : Nat) (hn : S.length ≤ 4294967296) (x : Int) (hx : -9223372036854775808 ≤ x ∧ x ≤ 9223372036854775807) (w : World) (hS : Ints w ao S) :
    Calls Try.prog 12 #[.agg #[.slice ao S.length cap], .int .i64 x] w fun e w' => e = .returned (.tuple #[.int .i64 (vOpp S x), .int .i64 (eWords S [x])]) ∧ Below w.heap.size w w' := by
  by_cases hz : eWords S [x] = 0
  · obtain ⟨hSp, x1, x2⟩ := eWords1 hz
    obtain ⟨N1, N2⟩ := nW_bd hSp
    have HSp := Lib.hid hSp
    have hlo := hSp.lo
    have hhi := hSp.hi
    have hzb : (eWords S [x] == 0) = true := by simp [hz]
    have hzn : (eWords S [x] != 0) = false := by simp [hz]
    have HZ := Lib.hid hz
    clear hz hSp
    have HV := Lib.hid (show vOpp S x = oppW S x from by simp only [vOpp, if_pos HZ.out])
    go_enter Try.func12, Try.ntmps12
    go_wp2_with fail
    have B0 : Below w.heap.size w ((w.alloc (.cells #[.slice ao S.length cap] 26)).alloc (.cells #[.int .i64 x] 2)) := by go_grown
    have c0 : (((w.alloc (.cells #[.slice ao S.length cap] 26)).alloc (.cells #[.int .i64 x] 2))).cell? ⟨w.heap.size, 0, none⟩ = some (.slice ao S.length cap) := kept_cell ((Below.refl _ (w.alloc (.cells #[.slice ao S.length cap] 26))).alloc (Nat.le_refl _) _) (cell_new _ _ _) (lt_alloc _ _)
    refine (l01Words_n ao S cap hn _ [x] 1 _ rfl (by omega) _ (hS.below B0) (ints_new1 _ x _ (by simp))).mono ?_
    rintro e w1 ⟨rfl, hb⟩
    have c1 := kept_cell hb c0 (by simp; omega)
    have B1 : Below w.heap.size w w1 := B0.trans (hb.mono (by simp; omega))
    have l1 : w.heap.size < w1.heap.size := lt_of_below hb (by simp; omega)
    clear hb c0 B0
    go_wp2_with fail
    refine (l01Digits_any ao S cap hhi HSp.out.bd x x1 (by omega) _ (hS.below B1)).mono ?_
    rintro e w2 ⟨g, rfl, own, hb⟩
    have hgw : w.heap.size < g := by have := own.base_le.1; omega
    have c2 := kept_cell hb c1 l1
    have B2 : Below w.heap.size w w2 := B1.trans (hb.mono B1.size)
    replace own := own.rebase (base' := w.heap.size) B1.size
    clear hb c1 B1
    go_wp2_with fail
    go_loopw [21] (fun i wr => ∃ (k : Nat) (T : List Int), k ≤ S.length ∧ i = .int .i64 k ∧ Hid (T.length = S.length ∧ ∀ j, j < S.length → gi T j = if j < k then (gi S j - dig S x j) % gi S j else dig S x j) ∧ OwnInts wr w.heap.size (.slice (some ⟨g, 0, none⟩) S.length S.length) T ∧
        wr.cell? ⟨w.heap.size, 0, none⟩ = some (.slice ao S.length cap) ∧ Below w.heap.size w wr) (fun i _ => S.length - (intOf i).toNat)
    case atStart => exact ⟨0, _, Nat.zero_le _, rfl, Lib.hid ⟨digs_length _ _, fun j hj => by simp [gi_digs S x j hj]⟩, own, c2, B2⟩
    case round =>
      clear own c2 B2
      obtain ⟨k, T, hk, rfl, HT, own, c2, B2⟩ := hrel
      by_cases hlt : k < S.length
      · obtain ⟨b, o, rfl, hbl, hc⟩ := hS.at hlt
        have hck : wr.cell? ⟨b, o + k, none⟩ = some (.int .i64 (gi S k)) := kept_cell B2 (hc k hlt) hbl
        have hcell := own.cell (k := k) (by rw [HT.out.1]; exact hlt)
        rw [HT.out.2 k hlt, if_neg (by omega)] at hcell
        have hfree := own.free k
        obtain ⟨s1, s2⟩ := HSp.out.bd k hlt
        obtain ⟨d1, d2⟩ := dig_bd S x HSp.out.bd k hlt
        have E1 : IntKind.i64.wrap (gi S k - dig S x k) = gi S k - dig S x k := IntWalk.i64_in _ ⟨by omega, by omega⟩
        have E2 : (gi S k - dig S x k).tmod (gi S k) = (gi S k - dig S x k) % gi S k := Int.tmod_eq_emod_of_nonneg (by omega)
        have hzz : ¬ gi S k = 0 := by omega
        have hzz2 : (gi S k == 0) = false := by simp; omega
        clear hc
        go_wp2_with fail
        go_still_tail 19, (by kernel_rfl)
        clear E1 E2
        change wpList _ _ _ _ _ wr.drew
        go_wp2
        go_roundw
        case rel =>
          refine ⟨k + 1, _, by omega, by go_num, Lib.hid ⟨?_, ?_⟩, own.drew.stored k (-dig S x k % gi S k), cell_set_other (w := wr.drew) c2 (by simp; omega), B2.drew.setCell (by simp; omega) _⟩
          · rw [List.length_set]; exact HT.out.1
          · intro j hj
            rw [gi_set _ _ _ _ (by rw [HT.out.1]; exact hlt)]
            by_cases e : j = k
            · subst e; rw [if_pos rfl, if_pos (by omega)]; simp
            · rw [if_neg e, HT.out.2 j hj]
              by_cases h : j < k
              · rw [if_pos h, if_pos (by omega)]
              · rw [if_neg h, if_neg (by omega)]
        case measure => simp [intOf]; omega
      · have ek : k = S.length := by omega
        have eT : T = oppD S (digs S x) := ext_gi (by rw [HT.out.1, oppD_length]) fun j hj => by
          rw [HT.out.1] at hj
          rw [HT.out.2 j hj, if_pos (by omega), gi_oppD _ _ _ hj, gi_digs _ _ _ hj]
        rw [eT] at own
        have HD := Lib.hid (Dg_opp HSp.out x)
        clear eT
        go_wp2_with fail
        refine (l01Word_any ao S cap hhi HSp.out.bd (some ⟨g, 0, none⟩) (oppD S (digs S x)) S.length _ rfl HD.out _ (hS.below B2) (own_ints own)).mono ?_
        rintro e w5 ⟨rfl, hb5⟩
        go_wp2_with fail
        go_ret2
        exact ⟨ret2 HV.out.symm HZ.out.symm, B2.trans (hb5.mono B2.size)⟩
  · have HV := Lib.hid (show vOpp S x = 0 from by simp only [vOpp, if_neg hz])
    have hzb : (eWords S [x] == 0) = false := by simpa using hz
    have hzn : (eWords S [x] != 0) = true := by simpa using hz
    clear hz
    go_enter Try.func12, Try.ntmps12
    go_wp2_with fail
    have B0 : Below w.heap.size w ((w.alloc (.cells #[.slice ao S.length cap] 26)).alloc (.cells #[.int .i64 x] 2)) := by go_grown
    have c0 : (((w.alloc (.cells #[.slice ao S.length cap] 26)).alloc (.cells #[.int .i64 x] 2))).cell? ⟨w.heap.size, 0, none⟩ = some (.slice ao S.length cap) := kept_cell ((Below.refl _ (w.alloc (.cells #[.slice ao S.length cap] 26))).alloc (Nat.le_refl _) _) (cell_new _ _ _) (lt_alloc _ _)
    refine (l01Words_n ao S cap hn _ [x] 1 _ rfl (by omega) _ (hS.below B0) (ints_new1 _ x _ (by simp))).mono ?_
    rintro e w1 ⟨rfl, hb⟩
    have c1 := kept_cell hb c0 (by simp; omega)
    have B1 : Below w.heap.size w w1 := B0.trans (hb.mono (by simp; omega))
    have l1 : w.heap.size < w1.heap.size := lt_of_below hb (by simp; omega)
    clear hb c0 B0
    go_wp2_with fail
    go_ret2
    exact ⟨ret2 HV.out.symm rfl, B1⟩

set_option maxHeartbeats 2000000 in
theorem impl_OppositeWord (ao : Option Addr) (S : List Int) (cap : Nat) (hn : S.length ≤ 4294967296) (x : Int) (hx : -9223372036854775808 ≤ x ∧ x ≤ 9223372036854775807) (w : World) (hS : Ints w ao S) :
    Calls Try.prog 11 #[.agg #[.slice ao S.length cap], .int .i64 x] w fun e w' => e = .returned (.tuple #[.int .i64 (vOpp S x), .int .i64 (eWords S [x])]) ∧ Below w.heap.size w w' := by
  by_cases hz : eWords S [x] = 0
  · obtain ⟨hSp, x1, x2⟩ := eWords1 hz
    obtain ⟨N1, N2⟩ := nW_bd hSp
    have HSp := Lib.hid hSp
    have hlo := hSp.lo
    have hhi := hSp.hi
    have hzb : (eWords S [x] == 0) = true := by simp [hz]
    have hzn : (eWords S [x] != 0) = false := by simp [hz]
    have HZ := Lib.hid hz
    clear hz hSp
    have HV := Lib.hid (show vOpp S x = oppW S x from by simp only [vOpp, if_pos HZ.out])
    go_enter Try.func11, Try.ntmps11
    go_wp2_with fail
    have B0 : Below w.heap.size w ((w.alloc (.cells #[.slice ao S.length cap] 26)).alloc (.cells #[.int .i64 x] 2)) := by go_grown
    have c0 : (((w.alloc (.cells #[.slice ao S.length cap] 26)).alloc (.cells #[.int .i64 x] 2))).cell? ⟨w.heap.size, 0, none⟩ = some (.slice ao S.length cap) := kept_cell ((Below.refl _ (w.alloc (.cells #[.slice ao S.length cap] 26))).alloc (Nat.le_refl _) _) (cell_new _ _ _) (lt_alloc _ _)
    refine (wordsError_n ao S cap hn _ [x] 1 _ rfl (by omega) _ (hS.below B0) (ints_new1 _ x _ (by simp))).mono ?_
    rintro e w1 ⟨rfl, hb⟩
    have c1 := kept_cell hb c0 (by simp; omega)
    have B1 : Below w.heap.size w w1 := B0.trans (hb.mono (by simp; omega))
    have l1 : w.heap.size < w1.heap.size := lt_of_below hb (by simp; omega)
    clear hb c0 B0
    go_wp2_with fail
    refine (digitParts_n ao S cap hlo hhi HSp.out.bd _ [x] 1 _ rfl (by omega) (by intro i hi; match i, hi with | 0, _ => exact ⟨x1, by rw [gi1]; omega⟩) _ (hS.below (B1.alloc B1.size _)) (ints_new1 _ x _ (by rfl))).mono ?_
    rintro e w2 ⟨P, g, U, rfl, hp, hb⟩
    have r0 := hp.row 0 (by simp)
    rw [Nat.zero_mul] at r0
    have own := parts_own hp
    have hgw : w.heap.size < g := by have := own.base_le.1; simp at this; omega
    have hq : Below w1.heap.size w1 w2 := Below.trans ((Below.refl _ w1).alloc (Nat.le_refl _) _) (hb.mono (by simp))
    have c2 := kept_cell hq c1 l1
    have B2 : Below w.heap.size w w2 := B1.trans (hq.mono B1.size)
    replace own := own.rebase (base' := w.heap.size) (by simp; omega)
    clear hb hq c1 B1 hp
    go_wp2_with fail
    clear r0
    go_loopw [26] (fun i wr => ∃ (k : Nat) (T : List Int), k ≤ S.length ∧ i = .int .i64 k ∧ Hid (T.length = S.length ∧ ∀ j, j < S.length → gi T j = if j < k then (gi S j - dig S x j) % gi S j else dig S x j) ∧ OwnInts wr w.heap.size (.slice (some ⟨g, 0, none⟩) S.length S.length) T ∧
        wr.cell? ⟨w.heap.size, 0, none⟩ = some (.slice ao S.length cap) ∧ Below w.heap.size w wr) (fun i _ => S.length - (intOf i).toNat)
    case atStart => exact ⟨0, _, Nat.zero_le _, rfl, Lib.hid ⟨digs_length _ _, fun j hj => by simp [gi_digs S x j hj]⟩, own, c2, B2⟩
    case round =>
      clear own c2 B2
      obtain ⟨k, T, hk, rfl, HT, own, c2, B2⟩ := hrel
      by_cases hlt : k < S.length
      · obtain ⟨b, o, rfl, hbl, hc⟩ := hS.at hlt
        have hck : wr.cell? ⟨b, o + k, none⟩ = some (.int .i64 (gi S k)) := kept_cell B2 (hc k hlt) hbl
        have hcell := own.cell (k := k) (by rw [HT.out.1]; exact hlt)
        rw [HT.out.2 k hlt, if_neg (by omega)] at hcell
        have hfree := own.free k
        obtain ⟨s1, s2⟩ := HSp.out.bd k hlt
        obtain ⟨d1, d2⟩ := dig_bd S x HSp.out.bd k hlt
        have E1 : IntKind.i64.wrap (gi S k - dig S x k) = gi S k - dig S x k := IntWalk.i64_in _ ⟨by omega, by omega⟩
        have E2 : (gi S k - dig S x k).tmod (gi S k) = (gi S k - dig S x k) % gi S k := Int.tmod_eq_emod_of_nonneg (by omega)
        have hzz : ¬ gi S k = 0 := by omega
        have hzz2 : (gi S k == 0) = false := by simp; omega
        clear hc
        go_wp2
        clear E1 E2
        go_roundw
        case rel =>
          refine ⟨k + 1, _, by omega, by go_num, Lib.hid ⟨?_, ?_⟩, own.stored k (-dig S x k % gi S k), cell_set_other (w := wr) c2 (by simp; omega), B2.setCell (by simp; omega) _⟩
          · rw [List.length_set]; exact HT.out.1
          · intro j hj
            rw [gi_set _ _ _ _ (by rw [HT.out.1]; exact hlt)]
            by_cases e : j = k
            · subst e; rw [if_pos rfl, if_pos (by omega)]; simp
            · rw [if_neg e, HT.out.2 j hj]
              by_cases h : j < k
              · rw [if_pos h, if_pos (by omega)]
              · rw [if_neg h, if_neg (by omega)]
        case measure => simp [intOf]; omega
      · have ek : k = S.length := by omega
        have eT : T = oppD S (digs S x) := ext_gi (by rw [HT.out.1, oppD_length]) fun j hj => by
          rw [HT.out.1] at hj
          rw [HT.out.2 j hj, if_pos (by omega), gi_oppD _ _ _ hj, gi_digs _ _ _ hj]
        rw [eT] at own
        have HD := Lib.hid (Dg_opp HSp.out x)
        clear eT
        go_wp2_with fail
        refine (wordWithDigits_any ao S cap hhi HSp.out.bd (some ⟨g, 0, none⟩) (oppD S (digs S x)) S.length _ rfl HD.out _ (hS.below B2) (own_ints own)).mono ?_
        rintro e w5 ⟨rfl, hb5⟩
        go_wp2_with fail
        go_ret2
        exact ⟨ret2 HV.out.symm HZ.out.symm, B2.trans (hb5.mono B2.size)⟩
  · have HV := Lib.hid (show vOpp S x = 0 from by simp only [vOpp, if_neg hz])
    have hzb : (eWords S [x] == 0) = false := by simpa using hz
    have hzn : (eWords S [x] != 0) = true := by simpa using hz
    clear hz
    go_enter Try.func11, Try.ntmps11
    go_wp2_with fail
    have B0 : Below w.heap.size w ((w.alloc (.cells #[.slice ao S.length cap] 26)).alloc (.cells #[.int .i64 x] 2)) := by go_grown
    have c0 : (((w.alloc (.cells #[.slice ao S.length cap] 26)).alloc (.cells #[.int .i64 x] 2))).cell? ⟨w.heap.size, 0, none⟩ = some (.slice ao S.length cap) := kept_cell ((Below.refl _ (w.alloc (.cells #[.slice ao S.length cap] 26))).alloc (Nat.le_refl _) _) (cell_new _ _ _) (lt_alloc _ _)
    refine (wordsError_n ao S cap hn _ [x] 1 _ rfl (by omega) _ (hS.below B0) (ints_new1 _ x _ (by simp))).mono ?_
    rintro e w1 ⟨rfl, hb⟩
    have c1 := kept_cell hb c0 (by simp; omega)
    have B1 : Below w.heap.size w w1 := B0.trans (hb.mono (by simp; omega))
    have l1 : w.heap.size < w1.heap.size := lt_of_below hb (by simp; omega)
    clear hb c0 B0
    go_wp2_with fail
    go_ret2
    exact ⟨ret2 HV.out.symm rfl, B1⟩

end Go.Proofs.Ytjjcpbhmpjedoaa
