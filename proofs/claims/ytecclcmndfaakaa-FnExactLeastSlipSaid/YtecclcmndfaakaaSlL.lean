/-
  The contracts of LeastSlip. By an AI agent.
-/
import Derived.Test.YtecclcmndfaakaaSlA
import Derived.Test.YtecclcmndfaakaaSlAp
import Derived.Test.YtecclcmndfaakaaErr2
import Derived.Test.YtecclcmndfaakaaFar
import Derived.StillTailTactics
namespace Go.Proofs.Ytecclcmndfaakaa
open Go.RowKit Cv
set_option linter.unusedVariables false
set_option linter.unusedSimpArgs false
set_option maxRecDepth 100000

theorem shl_pd {q : Int} (h : 0 ≤ q ∧ q ≤ 3) : IntKind.i64.wrap (1 * 2 ^ q.toNat) = pw q ∧ IntKind.i64.wrap (2 ^ q.toNat) = pw q ∧ IntKind.u64.wrap q = q ∧ IntKind.i64.wrap (2 ^ min q.toNat 64) = pw q ∧ wrap64 (2 ^ q.toNat) = pw q := by
  rcases (show q = 0 ∨ q = 1 ∨ q = 2 ∨ q = 3 by omega) with rfl | rfl | rfl | rfl <;> exact ⟨by decide, by decide, by decide, by decide, by unfold wrap64; decide⟩
theorem or_all : ∀ (a : Fin 16) (d : Fin 4), bits .or .i64 ((a : Nat) : Int) (pw ((d : Nat) : Int)) = (((a : Nat) ||| 2 ^ (d : Nat) : Nat) : Int) := by decide
theorem bits_orI {a : Nat} (ha : a < 16) {d : Int} (h : 0 ≤ d ∧ d ≤ 3) : bits .or .i64 (a : Int) (pw d) = ((a ||| 2 ^ d.toNat : Nat) : Int) := by
  obtain ⟨m, rfl⟩ := Int.eq_ofNat_of_zero_le h.1
  have := or_all ⟨a, ha⟩ ⟨m, by omega⟩
  simpa using this
theorem PartsAt.setBelow {w : World} {base P g : Nat} {S T U : List Int} (h : PartsAt w base P g S T U) {a : Addr} (ha : a.block < base) (u : Value) : PartsAt (w.setCell a u) base P g S T U :=
  ⟨h.len, h.dg, h.own.setBelow ha u, fun k hk => cell_set_other (h.row k hk) (by have := h.bp; omega), h.bp, by have := h.pl; simpa using this, h.ne⟩
theorem PartsAt.drew {w : World} {base P g : Nat} {S T U : List Int} (h : PartsAt w base P g S T U) : PartsAt w.drew base P g S T U :=
  ⟨h.len, h.dg, h.own.drew, fun k hk => h.row k hk, h.bp, h.pl, h.ne⟩
theorem lsF_bd {S C : List Int} (hS : Sp S) {i k : Nat} (hi : i < S.length) : 0 ≤ lsF S C i k ∧ lsF S C i k ≤ 3 := by
  obtain ⟨a, b⟩ := dig_bd S (gi C k) hS.bd i hi
  have := hS.bd i hi
  unfold lsF
  omega
theorem lsO_bd {S C : List Int} (hS : Sp S) {i k : Nat} (hi : i < S.length) : orTo (lsF S C i) k < 16 := orTo_lt _ _ fun j hj => by have := lsF_bd (C := C) hS (k := j) hi; omega

set_option maxHeartbeats 2000000 in
theorem impl_LeastSlip (ao : Option Addr) (S : List Int) (cap : Nat) (hn : S.length ≤ 4294967296) (ac : Option Addr) (C : List Int) (capc : Nat) (hnc : C.length ≤ 4294967296) (w : World) (hS : Ints w ao S) (hC : Ints w ac C) :
    Calls Try.prog 42 #[.agg #[.slice ao S.length cap], .slice ac C.length capc] w fun e w' => ∃ v, e = .returned (.tuple #[v, .int .i64 (eFull S C)]) ∧ OwnInts w' w.heap.size v (vLs S C) ∧ Below w.heap.size w w' := by
  obtain ⟨i0, hi, hz0, hz1, hz2⟩ := info_parts infoI64
  have B0 : Below w.heap.size w (w.alloc (.cells #[.slice ao S.length cap] 28)) := by go_grown
  have c0 := cell_new w (.slice ao S.length cap) 28
  have l0 := lt_alloc w (.cells #[.slice ao S.length cap] 28)
  have HQ := Lib.hid (eSome_nil S C)
  by_cases he : eFull S C = 0
  case neg =>
    have HV : Hid (vLs S C = []) := Lib.hid (by unfold vLs; rw [if_neg he])
    have hzn : (eSome S C [] != 0) = true := by rw [HQ.out]; simpa using he
    clear he hi hz0 hz1 hz2
    go_enter Try.func42, Try.ntmps42
    go_wp2_with fail
    refine (someWordsError_n ao S cap hn ac C capc hnc none [] 0 0 rfl (by omega) _ (hS.below B0) (hC.below B0) (.inl rfl)).mono ?_
    rintro e w1 ⟨rfl, hb⟩
    go_wp2_with fail
    go_ret2
    exact ⟨_, by rw [← HQ.out]; rfl, by rw [HV.out]; exact own_nils _ _, B0.trans (hb.mono B0.size)⟩
  obtain ⟨hz, hl⟩ := eFull_zero he
  have HV : Hid (vLs S C = lsM S C C.length 0) := Lib.hid (by unfold vLs; rw [if_pos he])
  have HE := Lib.hid he
  have hzn : (eSome S C [] != 0) = false := by simp [HQ.out, he]
  obtain ⟨hSp, hc1, hc2⟩ := eCode_zero hz
  obtain ⟨N1, N2⟩ := nW_bd hSp
  have hlen := code_len hSp hc1 hc2
  have hhi := hSp.hi
  have HSp := Lib.hid hSp
  have HC1 : Hid (∀ i, i < C.length → 0 ≤ gi C i ∧ gi C i ≤ 9223372036854775807) := Lib.hid fun i h => by have := hc1 i h; omega
  clear hc1 hc2 hSp hz he hl
  go_enter Try.func42, Try.ntmps42
  go_wp2_with fail
  refine (someWordsError_n ao S cap hn ac C capc hnc none [] 0 0 rfl (by omega) _ (hS.below B0) (hC.below B0) (.inl rfl)).mono ?_
  rintro e w1 ⟨rfl, hb⟩
  have c1 := kept_cell hb c0 l0
  have l1 := lt_of_below hb l0
  have B1 : Below w.heap.size w w1 := B0.trans (hb.mono B0.size)
  clear hb B0 c0 l0
  go_wp2_with (at_make; refine wpList_make_full _ rfl _ _ 30 rfl w1.heap.size 2 i0 (.int .i64 0) 1 Try.underlying30 hi hz0 hz1 .i64 .i64 _ _ S.length rfl rfl rfl rfl (by rw [hz2]; omega) (by unfold maxLen; omega) (Nat.le_refl _) ?_; intro w2 hown hgrow; have c2 := kept_cell (below_grown0 hgrow) c1 l1)
  have l2 : w.heap.size < w2.heap.size := Nat.lt_of_lt_of_le l1 hgrow.size
  have B2 : Below w.heap.size w w2 := B1.trans ((below_grown0 hgrow).mono B1.size)
  replace hown := own_made hown
  clear hgrow c1
  obtain ⟨G, hG⟩ : ∃ G, G = w1.heap.size := ⟨_, rfl⟩
  rw [← hG] at l1 hown ⊢
  clear hi hz0 hz1 hz2 B1 hG hzn
  refine (digitParts_any ao S cap HSp.out.lo hhi HSp.out.bd ac C capc (by omega) HC1.out _ (hS.below B2) (hC.below B2)).mono ?_
  rintro e w3 ⟨P, g, U, rfl, hp, hb⟩
  have hGlt : G < w2.heap.size := hown.base_le.2
  replace hown := hown.below hb
  replace c2 := kept_cell hb c2 l2
  replace l2 := lt_of_below hb l2
  replace B2 := B2.trans (hb.mono B2.size)
  obtain ⟨Y, hY⟩ : ∃ Y, Y = w2.heap.size := ⟨_, rfl⟩
  rw [← hY] at hp hGlt
  clear hb hY
  go_wp2_with fail
  rw [← lsM_zero S C] at hown
  go_loopw [26] (fun i wr => ∃ k : Nat, k ≤ C.length ∧ i = .int .i64 k ∧ OwnInts wr G (.slice (some ⟨G, 0, none⟩) S.length S.length) (lsM S C k 0) ∧ PartsAt wr Y P g S C U ∧ Below w.heap.size w wr) (fun i _ => C.length - (intOf i).toNat)
  case atStart => exact ⟨0, Nat.zero_le _, rfl, hown, hp, B2⟩
  case round =>
    clear c2 l2 B2 hown hp
    obtain ⟨k, hk, rfl, own, hp, B⟩ := hrel
    by_cases hlt : k < C.length
    · have hrk := hp.row k hlt
      go_wp2_with fail
      go_loopw [32] (fun i wr => ∃ m : Nat, m ≤ S.length ∧ i = .int .i64 m ∧ OwnInts wr G (.slice (some ⟨G, 0, none⟩) S.length S.length) (lsM S C k m) ∧ PartsAt wr Y P g S C U ∧ Below w.heap.size w wr) (fun i _ => S.length - (intOf i).toNat)
      case atStart => exact ⟨0, Nat.zero_le _, rfl, own, hp, B⟩
      case round =>
        clear own hp B hrk
        obtain ⟨m, hm, rfl, own, hp, B⟩ := hrel
        by_cases hlm : m < S.length
        · obtain ⟨b5, o5, hbo, hbl, hc5⟩ := (hp.ints hlt).at (i := m) (by rw [digs_length]; exact hlm)
          have hd5 := hc5 m (by rw [digs_length]; exact hlm)
          simp only [Option.some.injEq, Addr.mk.injEq] at hbo
          obtain ⟨rfl, rfl, _⟩ := hbo
          rw [gi_digs _ _ _ hlm] at hd5
          have hcell := own.cell (k := m) (by rw [lsM_len]; exact hlm)
          rw [gi_lsM _ _ _ _ hlm] at hcell
          have hfree := own.free m
          have hLs := Lib.hid (lsM_set S C k m hlm)
          have hdb : 0 ≤ dig S (gi C k) m ∧ dig S (gi C k) m ≤ 3 := lsF_bd (C := C) HSp.out (k := k) hlm
          obtain ⟨d, hd⟩ : ∃ d, d = dig S (gi C k) m := ⟨_, rfl⟩
          have hLs2 : Hid ((lsM S C k m).set m (orTo (lsF S C m) k ||| 2 ^ d.toNat : Nat) = lsM S C k (m + 1)) := Lib.hid (by rw [hd]; exact hLs.out)
          rw [← hd] at hd5 hdb
          obtain ⟨x, hx⟩ : ∃ x, x = orTo (lsF S C m) k := ⟨_, rfl⟩
          have hx16 : x < 16 := by rw [hx]; exact lsO_bd HSp.out hlm
          rw [← hx] at hcell hLs2
          have HLs := hLs2
          clear hLs hLs2 hd hx hc5
          have s6 := bits_orI hx16 hdb
          obtain ⟨db0, db1⟩ := hdb
          obtain ⟨s1, s2, s3, s4, s5⟩ := shl_pd ⟨db0, db1⟩
          go_wp2_with fail
          go_still_tail 8, (by kernel_rfl)
          clear s1 s2 s3 s4 s5 s6
          change wpList _ _ _ _ _ wr.drew
          go_wp2
          go_roundw
          case rel => exact ⟨m + 1, by omega, by go_num, by rw [← HLs.out]; exact own.drew.stored m _, hp.drew.setBelow (by simpa using hGlt) _, B.drew.setCell (by simp; omega) _⟩
          case measure => simp [intOf]; omega
        · have em : Hid (m = S.length) := Lib.hid (by omega)
          go_wp2_with fail
          go_roundw
          case rel => exact ⟨k + 1, by omega, by go_num, by have h := own; rw [em.out] at h; rw [← lsM_end]; exact h, hp, B⟩
          case measure => simp [intOf]; omega
    · have ek : Hid (k = C.length) := Lib.hid (by omega)
      go_wp2_with fail
      go_ret2
      exact ⟨_, by rw [HE.out]; rfl, by rw [HV.out, ← ek.out]; exact own.rebase (by omega), B⟩

set_option maxHeartbeats 2000000 in
theorem spec_LeastSlip (ao : Option Addr) (S : List Int) (cap : Nat) (hn : S.length ≤ 4294967296) (ac : Option Addr) (C : List Int) (capc : Nat) (hnc : C.length ≤ 4294967296) (w : World) (hS : Ints w ao S) (hC : Ints w ac C) :
    Calls Try.prog 40 #[.agg #[.slice ao S.length cap], .slice ac C.length capc] w fun e w' => ∃ v, e = .returned (.tuple #[v, .int .i64 (eFull S C)]) ∧ OwnInts w' w.heap.size v (vLs S C) ∧ Below w.heap.size w w' := by
  obtain ⟨i0, hi, hz0, hz1, hz2⟩ := info_parts infoI64
  have B0 : Below w.heap.size w (w.alloc (.cells #[.slice ao S.length cap] 28)) := by go_grown
  have c0 := cell_new w (.slice ao S.length cap) 28
  have l0 := lt_alloc w (.cells #[.slice ao S.length cap] 28)
  by_cases hz : eCode S C = 0
  case neg =>
    have HE := Lib.hid (eFull_bad hz)
    have HV : Hid (vLs S C = []) := Lib.hid (by unfold vLs; rw [if_neg (by rw [HE.out]; exact hz)])
    have hzn : (eCode S C != 0) = true := by simpa using hz
    have hzb : (eCode S C == 0) = false := by simpa using hz
    clear hz hi hz0 hz1 hz2
    go_enter Try.func40, Try.ntmps40
    go_wp2_with fail
    refine (l01Given_any ao S cap hn ac C capc hnc _ (hS.below B0) (hC.below B0)).mono ?_
    rintro e w1 ⟨rfl, hb⟩
    go_wp2_with fail
    go_ret2
    exact ⟨_, by rw [HE.out]; rfl, by rw [HV.out]; exact own_nils _ _, B0.trans (hb.mono B0.size)⟩
  have hzb : (eCode S C == 0) = true := by simp [hz]
  by_cases hl : C.length = 0
  · have HE := Lib.hid (eFull_nil hz hl)
    have HV : Hid (vLs S C = []) := Lib.hid (by unfold vLs; rw [if_neg (by rw [HE.out]; decide)])
    have hl0 : ((C.length : Int) == 0) = true := by simp [hl]
    clear hz hl hi hz0 hz1 hz2
    go_enter Try.func40, Try.ntmps40
    go_wp2_with fail
    refine (l01Given_any ao S cap hn ac C capc hnc _ (hS.below B0) (hC.below B0)).mono ?_
    rintro e w1 ⟨rfl, hb⟩
    go_wp2_with fail
    go_ret2
    exact ⟨_, by rw [HE.out]; rfl, by rw [HV.out]; exact own_nils _ _, B0.trans (hb.mono B0.size)⟩
  have he := eFull_ok hz hl
  have HV : Hid (vLs S C = lsM S C C.length 0) := Lib.hid (by unfold vLs; rw [if_pos he])
  have HE := Lib.hid he
  have HZ := Lib.hid hz
  have hl0 : ((C.length : Int) == 0) = false := by simpa using hl
  have hzn : (eCode S C != 0) = false := by simp [hz]
  obtain ⟨hSp, hc1, hc2⟩ := eCode_zero hz
  obtain ⟨N1, N2⟩ := nW_bd hSp
  have hlen := code_len hSp hc1 hc2
  have hhi := hSp.hi
  have HSp := Lib.hid hSp
  have HC1 : Hid (∀ i, i < C.length → 0 ≤ gi C i ∧ gi C i ≤ 9223372036854775807) := Lib.hid fun i h => by have := hc1 i h; omega
  clear hc1 hc2 hSp hz he hl
  go_enter Try.func40, Try.ntmps40
  go_wp2_with fail
  refine (l01Given_any ao S cap hn ac C capc hnc _ (hS.below B0) (hC.below B0)).mono ?_
  rintro e w1 ⟨rfl, hb⟩
  have c1 := kept_cell hb c0 l0
  have l1 := lt_of_below hb l0
  have B1 : Below w.heap.size w w1 := B0.trans (hb.mono B0.size)
  clear hb B0 c0 l0
  go_wp2_with (at_make; refine wpList_make_full _ rfl _ _ 30 rfl w1.heap.size 2 i0 (.int .i64 0) 1 Try.underlying30 hi hz0 hz1 .i64 .i64 _ _ S.length rfl rfl rfl rfl (by rw [hz2]; omega) (by unfold maxLen; omega) (Nat.le_refl _) ?_; intro w2 hown hgrow; have c2 := kept_cell (below_grown0 hgrow) c1 l1)
  have l2 : w.heap.size < w2.heap.size := Nat.lt_of_lt_of_le l1 hgrow.size
  have B2 : Below w.heap.size w w2 := B1.trans ((below_grown0 hgrow).mono B1.size)
  replace hown := own_made hown
  clear hgrow c1
  obtain ⟨G, hG⟩ : ∃ G, G = w1.heap.size := ⟨_, rfl⟩
  rw [← hG] at l1 hown ⊢
  clear hi hz0 hz1 hz2 B1 hG hzn hzb hl0
  rw [← lsM_zero S C] at hown
  go_loopw [30] (fun i wr => ∃ k : Nat, k ≤ C.length ∧ i = .int .i64 k ∧ OwnInts wr G (.slice (some ⟨G, 0, none⟩) S.length S.length) (lsM S C k 0) ∧ wr.cell? ⟨w.heap.size, 0, none⟩ = some (.slice ao S.length cap) ∧ w.heap.size < wr.heap.size ∧ Below w.heap.size w wr) (fun i _ => C.length - (intOf i).toNat)
  case atStart => exact ⟨0, Nat.zero_le _, rfl, hown, c2, l2, B2⟩
  case round =>
    clear c2 l2 B2 hown
    obtain ⟨k, hk, rfl, own, c, l, B⟩ := hrel
    by_cases hlt : k < C.length
    · obtain ⟨b, o, rfl, hbl, hc⟩ := hC.at hlt
      have hck := kept_cell B (hc k hlt) hbl
      obtain ⟨x1, x2⟩ := HC1.out k hlt
      have i1 : (0 : Int) ≤ (k : Int) := by omega
      have i2 : (k : Int) < (C.length : Int) := by omega
      have hbs := B.size
      clear hc
      go_wp2_with fail
      go_region_held3 (fun w' => w'.cell? ⟨w.heap.size, 0, none⟩ = some (.slice ao S.length cap) ∧ w'.cell? ⟨b, o + k, none⟩ = some (.int .i64 (gi C k))) (first | exact ⟨c, hck⟩ | exact ⟨kept_cell hb c l, kept_cell hb hck (by omega)⟩) ((go_at_call 73; refine (l01Digits_any ao S cap hhi HSp.out.bd (gi C k) x1 x2 _ (hS.below B.drew)).mono ?_; rintro e w4 ⟨gd, rfl, od, hb'⟩; have hb : Below wr.heap.size wr w4 := (Below.refl wr.heap.size wr).drew.trans hb'))
      replace c := kept_cell hb c l
      replace l := lt_of_below hb l
      have hGr := own.base_le.2
      have hgd := od.base_le
      replace own := own.below hb
      replace B := B.trans (hb.mono B.size)
      have hGg : G < gd := by have h9 : wr.drew.heap.size = wr.heap.size := rfl; omega
      clear hb hb' hck
      go_wp2_with fail
      go_loopw [41] (fun i wr => ∃ m : Nat, m ≤ S.length ∧ i = .int .i64 m ∧ OwnInts wr G (.slice (some ⟨G, 0, none⟩) S.length S.length) (lsM S C k m) ∧ OwnInts wr gd (.slice (some ⟨gd, 0, none⟩) S.length S.length) (digs S (gi C k)) ∧ wr.cell? ⟨w.heap.size, 0, none⟩ = some (.slice ao S.length cap) ∧ w.heap.size < wr.heap.size ∧ Below w.heap.size w wr) (fun i _ => S.length - (intOf i).toNat)
      case atStart =>
        refine ⟨0, Nat.zero_le _, rfl, own, ?_, c, l, B⟩
        rcases od.2 with ⟨hv, _⟩ | ⟨g', c', cu, hv, h1, h2, h3⟩
        · simp at hv
        · simp only [Value.slice.injEq, Option.some.injEq, Addr.mk.injEq] at hv
          exact ⟨od.1, .inr ⟨g', c', cu, by simp only [Value.slice.injEq, Option.some.injEq, Addr.mk.injEq]; exact hv, by omega, h2, h3⟩⟩
      case round =>
        clear own c l B od hGr hgd
        obtain ⟨m, hm, rfl, own, od, c, l, B⟩ := hrel
        by_cases hlm : m < S.length
        · have hd5 := od.cell (k := m) (by rw [digs_length]; exact hlm)
          rw [gi_digs _ _ _ hlm] at hd5
          have hcell := own.cell (k := m) (by rw [lsM_len]; exact hlm)
          rw [gi_lsM _ _ _ _ hlm] at hcell
          have hfree := own.free m
          have hLs := Lib.hid (lsM_set S C k m hlm)
          have hdb : 0 ≤ dig S (gi C k) m ∧ dig S (gi C k) m ≤ 3 := lsF_bd (C := C) HSp.out (k := k) hlm
          obtain ⟨d, hd⟩ : ∃ d, d = dig S (gi C k) m := ⟨_, rfl⟩
          have hLs2 : Hid ((lsM S C k m).set m (orTo (lsF S C m) k ||| 2 ^ d.toNat : Nat) = lsM S C k (m + 1)) := Lib.hid (by rw [hd]; exact hLs.out)
          rw [← hd] at hd5 hdb
          obtain ⟨x, hx⟩ : ∃ x, x = orTo (lsF S C m) k := ⟨_, rfl⟩
          have hx16 : x < 16 := by rw [hx]; exact lsO_bd HSp.out hlm
          rw [← hx] at hcell hLs2
          have HLs := hLs2
          clear hLs hLs2 hd hx
          have s6 := bits_orI hx16 hdb
          obtain ⟨db0, db1⟩ := hdb
          obtain ⟨s1, s2, s3, s4, s5⟩ := shl_pd ⟨db0, db1⟩
          go_wp2_with fail
          go_still_tail 14, (by kernel_rfl)
          clear s1 s2 s3 s4 s5 s6
          change wpList _ _ _ _ _ wr.drew
          go_wp2
          go_roundw
          case rel => exact ⟨m + 1, by omega, by go_num, by rw [← HLs.out]; exact own.drew.stored m _, od.drew.setBelow (by simpa using hGg) _, cell_set_other (w := wr.drew) c (by simp; omega), by simpa using l, B.drew.setCell (by simp; omega) _⟩
          case measure => simp [intOf]; omega
        · have em : Hid (m = S.length) := Lib.hid (by omega)
          go_wp2_with fail
          go_roundw
          case rel => exact ⟨k + 1, by omega, by go_num, by have h := own; rw [em.out] at h; rw [← lsM_end]; exact h, c, l, B⟩
          case measure => simp [intOf]; omega
    · have ek : Hid (k = C.length) := Lib.hid (by omega)
      go_wp2_with fail
      go_ret2
      exact ⟨_, by rw [HE.out]; rfl, by rw [HV.out, ← ek.out]; exact own.rebase (by omega), B⟩

end Go.Proofs.Ytecclcmndfaakaa
