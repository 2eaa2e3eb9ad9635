/-
  The contract of the model of SwitchBundle. By an AI agent.
-/
import Derived.Test.YtcbkmmadejbbpaaMathS
import Derived.Test.YtcbkmmadejbbpaaBunS
import Derived.Test.YtcbkmmadejbbpaaSums
import Derived.Test.YtcbkmmadejbbpaaMark
namespace Go.Proofs.Ytcbkmmadejbbpaa
open Go.RowKit Cv
set_option linter.unusedVariables false
set_option linter.unusedSimpArgs false
set_option maxRecDepth 100000

theorem gby_set' (w : World) (g k : Nat) (u : Value) : w.grownBy (w.setCell ⟨g, k, none⟩ u) (some g) := by
  refine ⟨rfl, rfl, rfl, by simp, fun i hi hne => ?_⟩
  exact Below.heap_setCell w ⟨g, k, none⟩ u i (fun e => hne (by rw [e]))

set_option maxHeartbeats 4000000 in
theorem spec_SwitchBundle (ao : Option Addr) (S : List Int) (cap : Nat) (hn : S.length ≤ 4294967296) (ac : Option Addr) (C : List Int) (capc : Nat) (hnc : C.length ≤ 4294967296) (x : Int) (hx : -9223372036854775808 ≤ x ∧ x ≤ 9223372036854775807) (i : Int) (hi : -9223372036854775808 ≤ i ∧ i ≤ 9223372036854775807) (w : World) (hS : Ints w ao S) (hC : Ints w ac C) :
    Calls Try.prog 33 #[.agg #[.slice ao S.length cap], .slice ac C.length capc, .int .i64 x, .int .i64 i] w fun e w' => ∃ v, e = .returned (.tuple #[v, .int .i64 (eBun S C x i)]) ∧ OwnInts w' w.heap.size v (vSwi S C x i) ∧ Below w.heap.size w w' := by
  have B0 : Below w.heap.size w (w.alloc (.cells #[.slice ao S.length cap] 26)) := by go_grown
  have c0 := cell_new w (.slice ao S.length cap) 26
  have l0 := lt_alloc w (.cells #[.slice ao S.length cap] 26)
  have hg := l06Given_any ao S cap hn ac C capc hnc x hx i hi _ (hS.below B0) (hC.below B0)
  by_cases he : eBun S C x i = 0
  · have hen : (eBun S C x i != 0) = false := by simp [he]
    obtain ⟨ha, h2t, _, hm⟩ := eBun_zero he
    obtain ⟨hz, hxw, i0, i1⟩ := eBuA_zero ha
    have h2 : ∀ k, k < S.length → gi S k = 2 := by unfold allTwo at h2t; rwa [decide_eq_true_eq] at h2t
    obtain ⟨t, rfl⟩ : ∃ t : Nat, i = (t : Int) := ⟨i.toNat, by omega⟩
    have hts : t < S.length := by omega
    obtain ⟨hSp, hc1, hc2⟩ := eCode_zero hz
    have hN := nW_bd hSp
    have hs8 := hSp.hi
    have hcl := code_len0 hz
    have hB := bun_sub (S := S) t hm
    have hBl := hB.len
    have hB1 : 1 ≤ (bunL S C t x).length := to_len t x _
    have hsl : (sorted (bunL S C t x)).length = (bunL S C t x).length := sorted_len _
    have hVs : vSwi S C x t = swiL S C (bunL S C t x) t := by unfold vSwi; rw [if_pos he]; rfl
    have HSp := Lib.hid hSp
    have HC1 : Hid (∀ k, k < C.length → 0 ≤ gi C k ∧ gi C k ≤ 9223372036854775807) := Lib.hid fun k hk => by have := hc1 k hk; omega
    have HDG : Hid (∀ c, Dg S (flpD S t c)) := Lib.hid fun c => flpD_dg h2 hSp hts c
    have HDB : Hid (∀ c, 0 ≤ dig S c t ∧ dig S c t ≤ 1) := Lib.hid fun c => by have := dig_bd S c hSp.bd t hts; rw [h2 t hts] at this; omega
    have HMB := Lib.hid fun y => Cv.mem_sorted (bunL S C t x) y
    have hcall := Lib.hid fun W h1 h3 => l06Bundle_any ao S cap ac C capc hz x hm t hts W h1 h3
    have HSF : Hid (∀ k, swF S C (bunL S C t x) t k = if gi C k ∈ bunL S C t x then flpW S t (gi C k) else gi C k) := Lib.hid fun k => rfl
    rw [he] at hg
    rw [he, hVs]
    unfold swiL
    obtain ⟨BL, hBL⟩ : ∃ BL, BL = sorted (bunL S C t x) := ⟨_, rfl⟩
    rw [← hBL] at hcall HMB hsl
    obtain ⟨F, hF⟩ : ∃ F, F = swF S C (bunL S C t x) t := ⟨_, rfl⟩
    rw [← hF] at HSF ⊢
    have hBL1 : BL ≠ [] := fun h => by rw [h] at hsl; simp at hsl; omega
    have hBLl : BL.length ≤ 1024 := by omega
    have HG := Lib.hid hg
    have tI : (t : Int) < (S.length : Int) := by omega
    have t0 : (0 : Int) ≤ (t : Int) := by omega
    clear he ha h2t hm hz hxw h2 hSp hc1 hc2 hN hB hBl hB1 hVs hg hBL hF hsl
    go_enter Try.func33, Try.ntmps33
    go_wp2_with fail
    refine HG.out.mono ?_
    rintro e w1 ⟨rfl, hb⟩
    have c1 := kept_cell hb c0 l0
    have l1 := lt_of_below hb l0
    have B1 : Below w.heap.size w w1 := B0.trans (hb.mono B0.size)
    clear hb B0 c0 l0
    go_wp2_with fail
    refine (hcall.out _ (hS.below B1) (hC.below B1)).mono ?_
    rintro e w2 ⟨v2, rfl, own2, hb⟩
    obtain ⟨gb, cb, hv2, _⟩ := own_some own2 hBL1
    subst hv2
    obtain ⟨PB, hPB⟩ : ∃ PB, PB = BL.length := ⟨_, rfl⟩
    rw [← hPB] at own2 hBLl ⊢
    have HPB := Lib.hid hPB
    have c2 := kept_cell hb c1 l1
    have l2 := lt_of_below hb l1
    have B2 : Below w.heap.size w w2 := B1.trans (hb.mono B1.size)
    have s2 := hb.size
    have oo := own_empty w2 w2.heap.size (Nat.le_refl _) rfl
    obtain ⟨W3, hW3⟩ : ∃ W3, W3 = w2.alloc (.cells #[] 2) := ⟨_, rfl⟩
    have hb3 : Below w2.heap.size w2 W3 := by rw [hW3]; exact (Below.refl _ _).alloc (Nat.le_refl _) _
    rw [← hW3] at oo
    have c3 := kept_cell hb3 c2 l2
    have l3 := lt_of_below hb3 l2
    have B3 := B2.trans (hb3.mono B2.size)
    have ob3 := own2.below hb3
    have HW3 := Lib.hid hW3
    have lw2 : w.heap.size < w2.heap.size := l2
    clear hPB hb hb3 hW3 c1 l1 B1 c2 l2 own2
    go_wp2_with fail
    rw [← HW3.out]
    go_loopw [12, 13] (fun vo vi wr => ∃ (k g c : Nat), k ≤ C.length ∧ vi = .int .i64 k ∧ vo = .slice (some ⟨g, 0, none⟩) (putTo [] F k).length c ∧ OwnInts wr w2.heap.size (.slice (some ⟨g, 0, none⟩) (putTo [] F k).length c) (putTo [] F k) ∧ OwnInts wr w1.heap.size (.slice (some ⟨gb, 0, none⟩) PB cb) BL ∧ wr.cell? ⟨w.heap.size, 0, none⟩ = some (.slice ao S.length cap) ∧ w.heap.size < wr.heap.size ∧ Below w.heap.size w wr) (fun _ vi _ => C.length - (intOf vi).toNat)
    case atStart => exact ⟨0, w2.heap.size, 0, Nat.zero_le _, rfl, rfl, oo, ob3, c3, l3, B3⟩
    case round =>
      clear oo ob3 c3 l3 B3
      obtain ⟨k, g, cq, hk, rfl, rfl, oq, ob, c, l, B⟩ := hrel
      have hpl := putTo_len [] F k
      simp only [List.length_nil, Nat.zero_add] at hpl
      have HStep : Hid (putL (putTo [] F k) (F k) = putTo [] F (k + 1)) := Lib.hid rfl
      obtain ⟨R, hR⟩ : ∃ R, R = putTo [] F k := ⟨_, rfl⟩
      rw [← hR] at oq hpl HStep ⊢
      obtain ⟨P, hP⟩ : ∃ P, P = R.length := ⟨_, rfl⟩
      rw [← hP] at oq hpl ⊢
      have HR := Lib.hid hR
      have HP := Lib.hid hP
      clear hR hP
      have hs := B.size
      by_cases hlt : k < C.length
      · obtain ⟨b, o, rfl, hbl, hc⟩ := hC.at hlt
        have hck := kept_cell B (hc k hlt) hbl
        obtain ⟨y0, y9⟩ := HC1.out k hlt
        have hlI : (k : Int) < (C.length : Int) := by omega
        have k0 : (0 : Int) ≤ (k : Int) := by omega
        have HFk := Lib.hid (HSF.out k)
        obtain ⟨y, hy⟩ : ∃ y, y = gi C k := ⟨_, rfl⟩
        rw [← hy] at hck y0 y9 HFk
        have hhas : Calls Try.prog 76 #[.slice (some ⟨gb, 0, none⟩) PB cb, .int .i64 y] wr fun e w' => e = .returned (.bool (decide (y ∈ BL))) ∧ wr = w' := by
          rw [HPB.out]; exact l01Has_any (some ⟨gb, 0, none⟩) BL cb y (by rw [← HPB.out]; omega) wr (own_ints ob)
        clear hc hy
        by_cases hm : y ∈ BL
        · have hmd : decide (y ∈ BL) = true := by simpa using hm
          have HFv : Hid (F k = flpW S t y) := Lib.hid (by rw [HFk.out, if_pos ((HMB.out y).1 hm)])
          rw [hmd] at hhas
          have hdb := HDB.out y
          clear hm hmd
          go_wp2_with fail
          refine hhas.mono ?_
          rintro e w4 ⟨rfl, rfl⟩
          go_wp2_with fail
          refine (l01Digits_any ao S cap hs8 HSp.out.bd y y0 y9 _ (hS.below B)).mono ?_
          rintro e w5 ⟨g5, rfl, od, hb5⟩
          have c5 := kept_cell hb5 c l
          have l5 := lt_of_below hb5 l
          have B5 := B.trans (hb5.mono hs)
          have oq5 := oq.below hb5
          have ob5 := ob.below hb5
          have hcd := od.cell (k := t) (by rw [digs_length]; exact hts)
          have hfd := od.free t
          rw [gi_digs _ _ _ hts] at hcd
          have lg := od.base_le
          have lq := oq.base_le
          have lb := ob.base_le
          have od6 := od.stored t (1 - dig S y t)
          have oq6 : OwnInts (w5.setCell ⟨g5, t, none⟩ (.int .i64 (1 - dig S y t))) w2.heap.size (.slice (some ⟨g, 0, none⟩) P cq) R := World.ownsRow.kept oq5 (gby_set' w5 g5 t _) (.inr (show some g ≠ some g5 from fun e => by have := Option.some.inj e; omega))
          have ob6 : OwnInts (w5.setCell ⟨g5, t, none⟩ (.int .i64 (1 - dig S y t))) w1.heap.size (.slice (some ⟨gb, 0, none⟩) PB cb) BL := World.ownsRow.kept ob5 (gby_set' w5 g5 t _) (.inr (show some gb ≠ some g5 from fun e => by have := Option.some.inj e; omega))
          have c6 : (w5.setCell ⟨g5, t, none⟩ (.int .i64 (1 - dig S y t))).cell? ⟨w.heap.size, 0, none⟩ = some (.slice ao S.length cap) := cell_set_other c5 (by simp; omega)
          have B6 : Below w.heap.size w (w5.setCell ⟨g5, t, none⟩ (.int .i64 (1 - dig S y t))) := B5.setCell (by (try dsimp only); omega) _
          have l6 : w.heap.size < (w5.setCell ⟨g5, t, none⟩ (.int .i64 (1 - dig S y t))).heap.size := by simpa using l5
          have EW : IntKind.i64.wrap (1 - dig S y t) = 1 - dig S y t := IntWalk.i64_in _ ⟨by omega, by omega⟩
          clear hb5 od oq5 ob5 c5 B5 oq ob c B
          go_wp2_with fail
          obtain ⟨W6, hW6⟩ : ∃ W6, W6 = w5.setCell ⟨g5, t, none⟩ (.int .i64 (1 - dig S y t)) := ⟨_, rfl⟩
          rw [← hW6] at od6 oq6 ob6 c6 B6 l6 ⊢
          clear hW6 hcd hfd EW
          have HFlp : Hid ((digs S y).set t (1 - dig S y t) = flpD S t y) := Lib.hid rfl
          rw [HFlp.out] at od6
          refine (l01Word_any ao S cap hs8 HSp.out.bd (some ⟨g5, 0, none⟩) (flpD S t y) S.length S.length rfl (HDG.out y) _ (hS.below B6) (own_ints od6)).mono ?_
          rintro e w7 ⟨rfl, hb7⟩
          have c7 := kept_cell hb7 c6 l6
          have l7 := lt_of_below hb7 l6
          have B7 := B6.trans (hb7.mono B6.size)
          have oq7 := oq6.below hb7
          have ob7 := ob6.below hb7
          have hput := l01Put_any w2.heap.size g cq R (wordTo S (flpD S t y) S.length) w7 (by rw [← HP.out]; omega) (by rw [← HP.out]; exact oq7)
          rw [← HP.out, show putL R (wordTo S (flpD S t y) S.length) = putTo [] F (k + 1) from by rw [← HStep.out, HFv.out]; rfl] at hput
          have HPut := Lib.hid hput
          clear hput
          go_wp2_with fail
          refine HPut.out.mono ?_
          rintro e w8 ⟨g8, q8, rfl, oq8, hb8⟩
          have c8 := kept_cell hb8 c7 l7
          have l8 := lt_of_below hb8 l7
          have B8 := B7.trans (hb8.mono B7.size)
          have ob8 := ob7.below hb8
          obtain ⟨P8, hP8⟩ : ∃ P8, P8 = (putTo [] F (k + 1)).length := ⟨_, rfl⟩
          rw [← hP8] at oq8 ⊢
          have HP8 := Lib.hid hP8
          clear hP8 hb8 c7 l7 B7 oq7 ob7
          go_wp2_with fail
          go_roundw
          case rel => exact ⟨k + 1, g8, q8, by omega, by go_num, by rw [← HP8.out], by rw [← HP8.out]; exact oq8, ob8, c8, l8, B8⟩
          case measure => simp [intOf]; omega
        · have hmd : decide (y ∈ BL) = false := by simpa using hm
          have HFv : Hid (F k = y) := Lib.hid (by rw [HFk.out, if_neg (fun h => hm ((HMB.out y).2 h))])
          rw [hmd] at hhas
          clear hm hmd
          go_wp2_with fail
          refine hhas.mono ?_
          rintro e w7 ⟨rfl, rfl⟩
          have c7 := c
          have l7 := l
          have B7 := B
          have oq7 := oq
          have ob7 := ob
          have lb := ob.base_le
          have lq := oq.base_le
          have hput := l01Put_any w2.heap.size g cq R y wr (by rw [← HP.out]; omega) (by rw [← HP.out]; exact oq7)
          rw [← HP.out, show putL R y = putTo [] F (k + 1) from by rw [← HStep.out, HFv.out]] at hput
          clear c l B oq ob
          have HPut := Lib.hid hput
          clear hput
          go_wp2_with fail
          refine HPut.out.mono ?_
          rintro e w8 ⟨g8, q8, rfl, oq8, hb8⟩
          have c8 := kept_cell hb8 c7 l7
          have l8 := lt_of_below hb8 l7
          have B8 := B7.trans (hb8.mono B7.size)
          have ob8 := ob7.below hb8
          obtain ⟨P8, hP8⟩ : ∃ P8, P8 = (putTo [] F (k + 1)).length := ⟨_, rfl⟩
          rw [← hP8] at oq8 ⊢
          have HP8 := Lib.hid hP8
          clear hP8 hb8 c7 l7 B7 oq7 ob7
          go_wp2_with fail
          go_roundw
          case rel => exact ⟨k + 1, g8, q8, by omega, by go_num, by rw [← HP8.out], by rw [← HP8.out]; exact oq8, ob8, c8, l8, B8⟩
          case measure => simp [intOf]; omega
      · have hlI : ¬ (k : Int) < (C.length : Int) := by omega
        have HX : Hid (putTo [] F C.length = R) := Lib.hid (by rw [HR.out, show k = C.length by omega])
        go_wp2_with fail
        go_ret2
        exact ⟨_, rfl, by rw [HX.out]; exact oq.rebase (by omega), B⟩
  · have hen : (eBun S C x i != 0) = true := by simpa using he
    have HV : Hid (vSwi S C x i = []) := Lib.hid (by unfold vSwi; rw [if_neg he])
    have HG := Lib.hid hg
    clear he hg
    go_enter Try.func33, Try.ntmps33
    go_wp2_with fail
    refine HG.out.mono ?_
    rintro e w1 ⟨rfl, hb⟩
    go_wp2_with fail
    go_ret2
    exact ⟨_, rfl, by rw [HV.out]; exact own_nil _ _, B0.trans (hb.mono B0.size)⟩

end Go.Proofs.Ytcbkmmadejbbpaa
