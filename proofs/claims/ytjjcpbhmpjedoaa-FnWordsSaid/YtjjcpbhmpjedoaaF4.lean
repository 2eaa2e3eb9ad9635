/-
  The contracts of ChangeDigit. By an AI agent.
-/
import Derived.Test.YtjjcpbhmpjedoaaF3
namespace Go.Proofs.Ytjjcpbhmpjedoaa
open Go.RowKit Cv
set_option linter.unusedVariables false
set_option linter.unusedSimpArgs false
set_option maxRecDepth 100000

theorem Dg_chg {S : List Int} (h : Sp S) (x : Int) {k : Nat} {d : Int} (h0 : 0 ≤ d) (h1 : d < gi S k) : Dg S ((digs S x).set k d) := ⟨by rw [List.length_set]; exact digs_length _ _, fun j hj => by
  rcases Nat.lt_or_ge k S.length with hk | hk
  · rw [gi_set _ _ _ _ (by rw [digs_length]; exact hk)]
    by_cases e : j = k
    · rw [if_pos e, e]; exact ⟨h0, h1⟩
    · rw [if_neg e, gi_digs S x j hj]; exact dig_bd S x h.bd j hj
  · rw [List.set_eq_of_length_le (by rw [digs_length]; exact hk), gi_digs S x j hj]; exact dig_bd S x h.bd j hj⟩

set_option maxHeartbeats 2000000 in
theorem spec_ChangeDigit (ao : Option Addr) (S : List Int) (cap : Nat) (hn : S.length ≤ 4294967296) (x : Int) (hx : -9223372036854775808 ≤ x ∧ x ≤ 9223372036854775807) (i : Int) (hi : -9223372036854775808 ≤ i ∧ i ≤ 9223372036854775807) (d : Int) (hd : -9223372036854775808 ≤ d ∧ d ≤ 9223372036854775807) (w : World) (hS : Ints w ao S) :
    Calls Try.prog 31 #[.agg #[.slice ao S.length cap], .int .i64 x, .int .i64 i, .int .i64 d] w fun e w' => e = .returned (.tuple #[.int .i64 (vChange S x i d), .int .i64 (eChange S x i d)]) ∧ Below w.heap.size w w' := by
  by_cases hz : eWords S [x] = 0
  · obtain ⟨hSp, x1, x2⟩ := eWords1 hz
    obtain ⟨N1, N2⟩ := nW_bd hSp
    have HSp := Lib.hid hSp
    have hlo := hSp.lo
    have hhi := hSp.hi
    have hzb : (eWords S [x] == 0) = true := by simp [hz]
    have hzn : (eWords S [x] != 0) = false := by simp [hz]
    have HZ := Lib.hid hz
    clear hz hSp
    have bad : chgB S i d = false → Hid (vChange S x i d = 0) ∧ Hid (eChange S x i d = 2) := fun h =>
      ⟨Lib.hid (by simp only [vChange, h]; simp), Lib.hid (by simp only [eChange, if_pos HZ.out, h]; simp)⟩
    by_cases hir : 0 ≤ i ∧ i < (S.length : Int)
    case neg =>
      have Q1 := inB_false (n := i) (low := 0) (high := (S.length : Int) - 1) (by omega)
      obtain ⟨HV, HE⟩ := bad (by rw [← Bool.not_eq_true, chgB_iff]; omega)
      clear bad
      go_enter Try.func31, Try.ntmps31
      go_wp2_with fail
      have B0 : Below w.heap.size w ((w.alloc (.cells #[.slice ao S.length cap] 26)).alloc (.cells #[.int .i64 x] 2)) := by go_grown
      have c0 : (((w.alloc (.cells #[.slice ao S.length cap] 26)).alloc (.cells #[.int .i64 x] 2))).cell? ⟨w.heap.size, 0, none⟩ = some (.slice ao S.length cap) := kept_cell ((Below.refl _ (w.alloc (.cells #[.slice ao S.length cap] 26))).alloc (Nat.le_refl _) _) (cell_new _ _ _) (lt_alloc _ _)
      refine (l01Words_n ao S cap hn _ [x] 1 _ rfl (by omega) _ (hS.below B0) (ints_new1 _ x _ (by simp))).mono ?_
      rintro e w1 ⟨rfl, hb⟩
      have c1 := kept_cell hb c0 (by simp; omega)
      have B1 : Below w.heap.size w w1 := B0.trans (hb.mono (by simp; omega))
      have l1 : w.heap.size < w1.heap.size := lt_of_below hb (by simp; omega)
      clear hb c0 B0
      go_wp2_with (go_at_call 72; refine (l01In_any _ _ _ _).mono ?_; rintro e w' ⟨rfl, rfl⟩)
      go_ret2
      exact ⟨ret2 HV.out.symm HE.out.symm, B1⟩
    obtain ⟨k, rfl⟩ := Int.eq_ofNat_of_zero_le hir.1
    have hk : k < S.length := by omega
    have ek : ((k : Int)).toNat = k := by simp
    obtain ⟨b, o, rfl, hbl, hc⟩ := hS.at hk
    obtain ⟨s1, s2⟩ := HSp.out.bd k hk
    by_cases hdr : 0 ≤ d ∧ d < gi S k
    case neg =>
      have Q1 := inB_true (n := (k : Int)) (low := 0) (high := (S.length : Int) - 1) (by omega) (by omega)
      have Q2 := inB_false (n := d) (low := 0) (high := gi S k - 1) (by omega)
      obtain ⟨HV, HE⟩ := bad (by rw [← Bool.not_eq_true, chgB_iff, ek]; omega)
      clear bad ek
      go_enter Try.func31, Try.ntmps31
      go_wp2_with fail
      have B0 : Below w.heap.size w ((w.alloc (.cells #[.slice (some ⟨b, o, none⟩) S.length cap] 26)).alloc (.cells #[.int .i64 x] 2)) := by go_grown
      have c0 : (((w.alloc (.cells #[.slice (some ⟨b, o, none⟩) S.length cap] 26)).alloc (.cells #[.int .i64 x] 2))).cell? ⟨w.heap.size, 0, none⟩ = some (.slice (some ⟨b, o, none⟩) S.length cap) := kept_cell ((Below.refl _ (w.alloc (.cells #[.slice (some ⟨b, o, none⟩) S.length cap] 26))).alloc (Nat.le_refl _) _) (cell_new _ _ _) (lt_alloc _ _)
      refine (l01Words_n (some ⟨b, o, none⟩) S cap hn _ [x] 1 _ rfl (by omega) _ (hS.below B0) (ints_new1 _ x _ (by simp))).mono ?_
      rintro e w1 ⟨rfl, hb⟩
      have c1 := kept_cell hb c0 (by simp; omega)
      have B1 : Below w.heap.size w w1 := B0.trans (hb.mono (by simp; omega))
      have l1 : w.heap.size < w1.heap.size := lt_of_below hb (by simp; omega)
      clear hb c0 B0
      have hck := kept_cell B1 (hc k hk) hbl
      clear hc
      go_wp2_with (go_at_call 72; refine (l01In_any _ _ _ _).mono ?_; rintro e w' ⟨rfl, rfl⟩)
      go_ret2
      exact ⟨ret2 HV.out.symm HE.out.symm, B1⟩
    have hcb : chgB S k d = true := by rw [chgB_iff, ek]; exact ⟨hir, hdr⟩
    have HV := Lib.hid (show vChange S x k d = chgW S x k d from by simp only [vChange, if_pos (And.intro HZ.out hcb), ek])
    have HE := Lib.hid (show eChange S x k d = 0 from by simp only [eChange, if_pos HZ.out, if_pos hcb])
    obtain ⟨dd0, dd1⟩ := hdr
    have Q1 := inB_true (n := (k : Int)) (low := 0) (high := (S.length : Int) - 1) (by omega) (by omega)
    have Q2 := inB_true (n := d) (low := 0) (high := gi S k - 1) (by omega) (by omega)
    clear bad ek hcb hir
    go_enter Try.func31, Try.ntmps31
    go_wp2_with fail
    have B0 : Below w.heap.size w ((w.alloc (.cells #[.slice (some ⟨b, o, none⟩) S.length cap] 26)).alloc (.cells #[.int .i64 x] 2)) := by go_grown
    have c0 : (((w.alloc (.cells #[.slice (some ⟨b, o, none⟩) S.length cap] 26)).alloc (.cells #[.int .i64 x] 2))).cell? ⟨w.heap.size, 0, none⟩ = some (.slice (some ⟨b, o, none⟩) S.length cap) := kept_cell ((Below.refl _ (w.alloc (.cells #[.slice (some ⟨b, o, none⟩) S.length cap] 26))).alloc (Nat.le_refl _) _) (cell_new _ _ _) (lt_alloc _ _)
    refine (l01Words_n (some ⟨b, o, none⟩) S cap hn _ [x] 1 _ rfl (by omega) _ (hS.below B0) (ints_new1 _ x _ (by simp))).mono ?_
    rintro e w1 ⟨rfl, hb⟩
    have c1 := kept_cell hb c0 (by simp; omega)
    have B1 : Below w.heap.size w w1 := B0.trans (hb.mono (by simp; omega))
    have l1 : w.heap.size < w1.heap.size := lt_of_below hb (by simp; omega)
    clear hb c0 B0
    have hck := kept_cell B1 (hc k hk) hbl
    clear hc
    go_wp2_with (go_at_call 72; refine (l01In_any _ _ _ _).mono ?_; rintro e w' ⟨rfl, rfl⟩)
    refine (l01Digits_any (some ⟨b, o, none⟩) S cap hhi HSp.out.bd x x1 (by omega) _ (hS.below B1)).mono ?_
    rintro e w2 ⟨g, rfl, own, hb⟩
    have hgw : w.heap.size < g := by have := own.base_le.1; omega
    have c2 := kept_cell hb c1 l1
    have B2 : Below w.heap.size w w2 := B1.trans (hb.mono B1.size)
    replace own := own.rebase (base' := w.heap.size) B1.size
    clear hb c1 B1 hck
    have hcell := own.cell (k := k) (by rw [digs_length]; exact hk)
    have hfree := own.free k
    have own3 := own.stored k d
    have c3 := cell_set_other (a := ⟨g, k, none⟩) (u := .int .i64 d) c2 (by simp; omega)
    have B3 := B2.setCell (p := ⟨g, k, none⟩) (by simp; omega) (.int .i64 d)
    have HD := Lib.hid (Dg_chg HSp.out x dd0 dd1)
    clear own
    go_wp2_with fail
    refine (l01Word_any (some ⟨b, o, none⟩) S cap hhi HSp.out.bd (some ⟨g, 0, none⟩) ((digs S x).set k d) S.length _ rfl HD.out _ (hS.below B3) (own_ints own3)).mono ?_
    rintro e w5 ⟨rfl, hb5⟩
    go_wp2_with fail
    go_ret2
    exact ⟨ret2 HV.out.symm HE.out.symm, B3.trans (hb5.mono B3.size)⟩
  · have HV := Lib.hid (show vChange S x i d = 0 from by simp only [vChange, if_neg (fun h => hz (And.left h))])
    have HE := Lib.hid (show eChange S x i d = eWords S [x] from by simp only [eChange, if_neg hz])
    have hzb : (eWords S [x] == 0) = false := by simpa using hz
    have hzn : (eWords S [x] != 0) = true := by simpa using hz
    clear hz
    go_enter Try.func31, Try.ntmps31
    go_wp2_with fail
    have B0 : Below w.heap.size w ((w.alloc (.cells #[.slice ao S.length cap] 26)).alloc (.cells #[.int .i64 x] 2)) := by go_grown
    have c0 : (((w.alloc (.cells #[.slice ao S.length cap] 26)).alloc (.cells #[.int .i64 x] 2))).cell? ⟨w.heap.size, 0, none⟩ = some (.slice ao S.length cap) := kept_cell ((Below.refl _ (w.alloc (.cells #[.slice ao S.length cap] 26))).alloc (Nat.le_refl _) _) (cell_new _ _ _) (lt_alloc _ _)
    refine (l01Words_n ao S cap hn _ [x] 1 _ rfl (by omega) _ (hS.below B0) (ints_new1 _ x _ (by simp))).mono ?_
    rintro e w1 ⟨rfl, hb⟩
    have c1 := kept_cell hb c0 (by simp; omega)
    have B1 : Below w.heap.size w w1 := B0.trans (hb.mono (by simp; omega))
    have l1 : w.heap.size < w1.heap.size := lt_of_below hb (by simp; omega)
    clear hb c0 B0
    go_wp2_with fail
    go_ret2
    exact ⟨ret2 HV.out.symm HE.out.symm, B1⟩

set_option maxHeartbeats 2000000 in
theorem impl_ChangeDigit (ao : Option Addr) (S : List Int) (cap : Nat) (hn : S.length ≤ 4294967296) (x : Int) (hx : -9223372036854775808 ≤ x ∧ x ≤ 9223372036854775807) (i : Int) (hi : -9223372036854775808 ≤ i ∧ i ≤ 9223372036854775807) (d : Int) (hd : -9223372036854775808 ≤ d ∧ d ≤ 9223372036854775807) (w : World) (hS : Ints w ao S) :
    Calls Try.prog 30 #[.agg #[.slice ao S.length cap], .int .i64 x, .int .i64 i, .int .i64 d] w fun e w' => e = .returned (.tuple #[.int .i64 (vChange S x i d), .int .i64 (eChange S x i d)]) ∧ Below w.heap.size w w' := by
  by_cases hz : eWords S [x] = 0
  · obtain ⟨hSp, x1, x2⟩ := eWords1 hz
    obtain ⟨N1, N2⟩ := nW_bd hSp
    have HSp := Lib.hid hSp
    have hlo := hSp.lo
    have hhi := hSp.hi
    have hzb : (eWords S [x] == 0) = true := by simp [hz]
    have hzn : (eWords S [x] != 0) = false := by simp [hz]
    have HZ := Lib.hid hz
    clear hz hSp
    have bad : chgB S i d = false → Hid (vChange S x i d = 0) ∧ Hid (eChange S x i d = 2) := fun h =>
      ⟨Lib.hid (by simp only [vChange, h]; simp), Lib.hid (by simp only [eChange, if_pos HZ.out, h]; simp)⟩
    by_cases hi0 : 0 ≤ i
    case neg =>
      obtain ⟨HV, HE⟩ := bad (by rw [← Bool.not_eq_true, chgB_iff]; omega)
      clear bad
      go_enter Try.func30, Try.ntmps30
      go_wp2_with fail
      have B0 : Below w.heap.size w ((w.alloc (.cells #[.slice ao S.length cap] 26)).alloc (.cells #[.int .i64 x] 2)) := by go_grown
      have c0 : (((w.alloc (.cells #[.slice ao S.length cap] 26)).alloc (.cells #[.int .i64 x] 2))).cell? ⟨w.heap.size, 0, none⟩ = some (.slice ao S.length cap) := kept_cell ((Below.refl _ (w.alloc (.cells #[.slice ao S.length cap] 26))).alloc (Nat.le_refl _) _) (cell_new _ _ _) (lt_alloc _ _)
      refine (wordsError_n ao S cap hn _ [x] 1 _ rfl (by omega) _ (hS.below B0) (ints_new1 _ x _ (by simp))).mono ?_
      rintro e w1 ⟨rfl, hb⟩
      have c1 := kept_cell hb c0 (by simp; omega)
      have B1 : Below w.heap.size w w1 := B0.trans (hb.mono (by simp; omega))
      have l1 : w.heap.size < w1.heap.size := lt_of_below hb (by simp; omega)
      clear hb c0 B0
      go_wp2_with fail
      go_ret2
      exact ⟨ret2 HV.out.symm HE.out.symm, B1⟩
    by_cases hi1 : i < (S.length : Int)
    case neg =>
      obtain ⟨HV, HE⟩ := bad (by rw [← Bool.not_eq_true, chgB_iff]; omega)
      clear bad
      go_enter Try.func30, Try.ntmps30
      go_wp2_with fail
      have B0 : Below w.heap.size w ((w.alloc (.cells #[.slice ao S.length cap] 26)).alloc (.cells #[.int .i64 x] 2)) := by go_grown
      have c0 : (((w.alloc (.cells #[.slice ao S.length cap] 26)).alloc (.cells #[.int .i64 x] 2))).cell? ⟨w.heap.size, 0, none⟩ = some (.slice ao S.length cap) := kept_cell ((Below.refl _ (w.alloc (.cells #[.slice ao S.length cap] 26))).alloc (Nat.le_refl _) _) (cell_new _ _ _) (lt_alloc _ _)
      refine (wordsError_n ao S cap hn _ [x] 1 _ rfl (by omega) _ (hS.below B0) (ints_new1 _ x _ (by simp))).mono ?_
      rintro e w1 ⟨rfl, hb⟩
      have c1 := kept_cell hb c0 (by simp; omega)
      have B1 : Below w.heap.size w w1 := B0.trans (hb.mono (by simp; omega))
      have l1 : w.heap.size < w1.heap.size := lt_of_below hb (by simp; omega)
      clear hb c0 B0
      go_wp2_with fail
      go_ret2
      exact ⟨ret2 HV.out.symm HE.out.symm, B1⟩
    have hir := And.intro hi0 hi1
    obtain ⟨k, rfl⟩ := Int.eq_ofNat_of_zero_le hir.1
    have hk : k < S.length := by omega
    have ek : ((k : Int)).toNat = k := by simp
    obtain ⟨b, o, rfl, hbl, hc⟩ := hS.at hk
    obtain ⟨s1, s2⟩ := HSp.out.bd k hk
    by_cases hd0 : 0 ≤ d
    case neg =>
      obtain ⟨HV, HE⟩ := bad (by rw [← Bool.not_eq_true, chgB_iff, ek]; omega)
      clear bad ek
      go_enter Try.func30, Try.ntmps30
      go_wp2_with fail
      have B0 : Below w.heap.size w ((w.alloc (.cells #[.slice (some ⟨b, o, none⟩) S.length cap] 26)).alloc (.cells #[.int .i64 x] 2)) := by go_grown
      have c0 : (((w.alloc (.cells #[.slice (some ⟨b, o, none⟩) S.length cap] 26)).alloc (.cells #[.int .i64 x] 2))).cell? ⟨w.heap.size, 0, none⟩ = some (.slice (some ⟨b, o, none⟩) S.length cap) := kept_cell ((Below.refl _ (w.alloc (.cells #[.slice (some ⟨b, o, none⟩) S.length cap] 26))).alloc (Nat.le_refl _) _) (cell_new _ _ _) (lt_alloc _ _)
      refine (wordsError_n (some ⟨b, o, none⟩) S cap hn _ [x] 1 _ rfl (by omega) _ (hS.below B0) (ints_new1 _ x _ (by simp))).mono ?_
      rintro e w1 ⟨rfl, hb⟩
      have c1 := kept_cell hb c0 (by simp; omega)
      have B1 : Below w.heap.size w w1 := B0.trans (hb.mono (by simp; omega))
      have l1 : w.heap.size < w1.heap.size := lt_of_below hb (by simp; omega)
      clear hb c0 B0
      have hck := kept_cell B1 (hc k hk) hbl
      clear hc
      go_wp2_with fail
      go_ret2
      exact ⟨ret2 HV.out.symm HE.out.symm, B1⟩
    by_cases hd1 : d < gi S k
    case neg =>
      obtain ⟨HV, HE⟩ := bad (by rw [← Bool.not_eq_true, chgB_iff, ek]; omega)
      clear bad ek
      go_enter Try.func30, Try.ntmps30
      go_wp2_with fail
      have B0 : Below w.heap.size w ((w.alloc (.cells #[.slice (some ⟨b, o, none⟩) S.length cap] 26)).alloc (.cells #[.int .i64 x] 2)) := by go_grown
      have c0 : (((w.alloc (.cells #[.slice (some ⟨b, o, none⟩) S.length cap] 26)).alloc (.cells #[.int .i64 x] 2))).cell? ⟨w.heap.size, 0, none⟩ = some (.slice (some ⟨b, o, none⟩) S.length cap) := kept_cell ((Below.refl _ (w.alloc (.cells #[.slice (some ⟨b, o, none⟩) S.length cap] 26))).alloc (Nat.le_refl _) _) (cell_new _ _ _) (lt_alloc _ _)
      refine (wordsError_n (some ⟨b, o, none⟩) S cap hn _ [x] 1 _ rfl (by omega) _ (hS.below B0) (ints_new1 _ x _ (by simp))).mono ?_
      rintro e w1 ⟨rfl, hb⟩
      have c1 := kept_cell hb c0 (by simp; omega)
      have B1 : Below w.heap.size w w1 := B0.trans (hb.mono (by simp; omega))
      have l1 : w.heap.size < w1.heap.size := lt_of_below hb (by simp; omega)
      clear hb c0 B0
      have hck := kept_cell B1 (hc k hk) hbl
      clear hc
      go_wp2_with fail
      go_ret2
      exact ⟨ret2 HV.out.symm HE.out.symm, B1⟩
    have hdr := And.intro hd0 hd1
    have hcb : chgB S k d = true := by rw [chgB_iff, ek]; exact ⟨hir, hdr⟩
    have HV := Lib.hid (show vChange S x k d = chgW S x k d from by simp only [vChange, if_pos (And.intro HZ.out hcb), ek])
    have HE := Lib.hid (show eChange S x k d = 0 from by simp only [eChange, if_pos HZ.out, if_pos hcb])
    obtain ⟨dd0, dd1⟩ := hdr
    clear bad ek hcb hir
    go_enter Try.func30, Try.ntmps30
    go_wp2_with fail
    have B0 : Below w.heap.size w ((w.alloc (.cells #[.slice (some ⟨b, o, none⟩) S.length cap] 26)).alloc (.cells #[.int .i64 x] 2)) := by go_grown
    have c0 : (((w.alloc (.cells #[.slice (some ⟨b, o, none⟩) S.length cap] 26)).alloc (.cells #[.int .i64 x] 2))).cell? ⟨w.heap.size, 0, none⟩ = some (.slice (some ⟨b, o, none⟩) S.length cap) := kept_cell ((Below.refl _ (w.alloc (.cells #[.slice (some ⟨b, o, none⟩) S.length cap] 26))).alloc (Nat.le_refl _) _) (cell_new _ _ _) (lt_alloc _ _)
    refine (wordsError_n (some ⟨b, o, none⟩) S cap hn _ [x] 1 _ rfl (by omega) _ (hS.below B0) (ints_new1 _ x _ (by simp))).mono ?_
    rintro e w1 ⟨rfl, hb⟩
    have c1 := kept_cell hb c0 (by simp; omega)
    have B1 : Below w.heap.size w w1 := B0.trans (hb.mono (by simp; omega))
    have l1 : w.heap.size < w1.heap.size := lt_of_below hb (by simp; omega)
    clear hb c0 B0
    have hck := kept_cell B1 (hc k hk) hbl
    clear hc
    go_wp2_with fail
    refine (digitParts_n (some ⟨b, o, none⟩) S cap hlo hhi HSp.out.bd _ [x] 1 _ rfl (by omega) (by intro i hi; match i, hi with | 0, _ => exact ⟨x1, by rw [gi1]; omega⟩) _ (hS.below (B1.alloc B1.size _)) (ints_new1 _ x _ (by rfl))).mono ?_
    rintro e w2 ⟨P, g, U, rfl, hp, hb⟩
    have r0 := hp.row 0 (by simp)
    rw [Nat.zero_mul] at r0
    have own := parts_own hp
    have hgw : w.heap.size < g := by have := own.base_le.1; simp at this; omega
    have hq : Below w1.heap.size w1 w2 := Below.trans ((Below.refl _ w1).alloc (Nat.le_refl _) _) (hb.mono (by simp))
    have c2 := kept_cell hq c1 l1
    have B2 : Below w.heap.size w w2 := B1.trans (hq.mono B1.size)
    replace own := own.rebase (base' := w.heap.size) (by simp; omega)
    clear hb hq c1 B1 hp hck
    have hcell := own.cell (k := k) (by rw [digs_length]; exact hk)
    have hfree := own.free k
    have own3 := own.stored k d
    have c3 := cell_set_other (a := ⟨g, k, none⟩) (u := .int .i64 d) c2 (by simp; omega)
    have B3 := B2.setCell (p := ⟨g, k, none⟩) (by simp; omega) (.int .i64 d)
    have HD := Lib.hid (Dg_chg HSp.out x dd0 dd1)
    clear own
    go_wp2_with fail
    refine (wordWithDigits_any (some ⟨b, o, none⟩) S cap hhi HSp.out.bd (some ⟨g, 0, none⟩) ((digs S x).set k d) S.length _ rfl HD.out _ (hS.below B3) (own_ints own3)).mono ?_
    rintro e w5 ⟨rfl, hb5⟩
    go_wp2_with fail
    go_ret2
    exact ⟨ret2 HV.out.symm HE.out.symm, B3.trans (hb5.mono B3.size)⟩
  · have HV := Lib.hid (show vChange S x i d = 0 from by simp only [vChange, if_neg (fun h => hz (And.left h))])
    have HE := Lib.hid (show eChange S x i d = eWords S [x] from by simp only [eChange, if_neg hz])
    have hzb : (eWords S [x] == 0) = false := by simpa using hz
    have hzn : (eWords S [x] != 0) = true := by simpa using hz
    clear hz
    go_enter Try.func30, Try.ntmps30
    go_wp2_with fail
    have B0 : Below w.heap.size w ((w.alloc (.cells #[.slice ao S.length cap] 26)).alloc (.cells #[.int .i64 x] 2)) := by go_grown
    have c0 : (((w.alloc (.cells #[.slice ao S.length cap] 26)).alloc (.cells #[.int .i64 x] 2))).cell? ⟨w.heap.size, 0, none⟩ = some (.slice ao S.length cap) := kept_cell ((Below.refl _ (w.alloc (.cells #[.slice ao S.length cap] 26))).alloc (Nat.le_refl _) _) (cell_new _ _ _) (lt_alloc _ _)
    refine (wordsError_n ao S cap hn _ [x] 1 _ rfl (by omega) _ (hS.below B0) (ints_new1 _ x _ (by simp))).mono ?_
    rintro e w1 ⟨rfl, hb⟩
    have c1 := kept_cell hb c0 (by simp; omega)
    have B1 : Below w.heap.size w w1 := B0.trans (hb.mono (by simp; omega))
    have l1 : w.heap.size < w1.heap.size := lt_of_below hb (by simp; omega)
    clear hb c0 B0
    go_wp2_with fail
    go_ret2
    exact ⟨ret2 HV.out.symm HE.out.symm, B1⟩

end Go.Proofs.Ytjjcpbhmpjedoaa
