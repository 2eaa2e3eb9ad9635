/-
  The contracts of PrizesOf. By an AI agent.
-/
import Derived.Test.YtclahcnkkkgdhaaPr8
namespace Go.Proofs.Ytclahcnkkkgdhaa
open Go.RowKit Cv
set_option linter.unusedVariables false
set_option linter.unusedSimpArgs false
set_option maxRecDepth 100000

/-- how many of the first k have f 0, 1 .. n -/
def prz (n : Nat) (f : Nat → Nat) : Nat → List Int
  | 0 => List.replicate (n + 1) 0
  | k + 1 => (prz n f k).set (f k) (gi (prz n f k) (f k) + 1)
theorem prz_len (n : Nat) (f : Nat → Nat) (k : Nat) : (prz n f k).length = n + 1 := by
  induction k with
  | zero => simp [prz]
  | succ k ih => rw [prz, List.length_set, ih]
theorem prz_bd (n : Nat) (f : Nat → Nat) (k j : Nat) : 0 ≤ gi (prz n f k) j ∧ gi (prz n f k) j ≤ k := by
  induction k generalizing j with
  | zero => rw [prz, gi_rep0]; omega
  | succ k ih =>
    rw [prz]
    by_cases h : f k < (prz n f k).length
    · rw [gi_set _ _ _ _ h]
      have h1 := ih j
      have h2 := ih (f k)
      split <;> omega
    · rw [List.set_eq_of_length_le (by omega)]
      have := ih j
      omega
def vPzs (v p d h : Int) (T : List Int) (x : Int) : List Int := if eTk v p d h T [x] = 0 then prz p.toNat (fun k => cmN (gi T k) x) T.length else []
theorem vPzs_len (v p d h : Int) (T : List Int) (x : Int) : (vPzs v p d h T x).length ≤ 13 := by
  unfold vPzs
  split
  · next hE =>
    obtain ⟨g, _⟩ := eTk_zero hE
    have l := (lot_iff v p d h).1 g
    have := l.p2; have := l.v2
    rw [prz_len]; omega
  · simp

theorem own_nil0 (w : World) (base : Nat) : OwnInts w base (.slice none 0 0) [] := World.ownsRow_nil _ _ _ _

set_option maxHeartbeats 1000000 in
theorem impl_PrizesOf (v p d h : Int) (a : Option Addr) (T : List Int) (cap : Nat) (hn : T.length ≤ 4294967296) (x : Int) (hx : -9223372036854775808 ≤ x ∧ x ≤ 9223372036854775807) (w : World) (hT : Ints w a T) :
    Calls Try.prog 34 #[.agg #[.int .i64 v, .int .i64 p, .int .i64 d, .int .i64 h], .slice a T.length cap, .int .i64 x] w fun e w' => ∃ y, e = .returned (.tuple #[y, .int .i64 (eTk v p d h T [x])]) ∧ OwnInts w' w.heap.size y (vPzs v p d h T x) ∧ Below w.heap.size w w' := by
  obtain ⟨i0, hi, hz0, hz1, hz2⟩ := info_parts infoI64
  have B0 : Below w.heap.size w ((w.alloc (.cells #[.int .i64 v, .int .i64 p, .int .i64 d, .int .i64 h] 25)).alloc (.cells #[.int .i64 x] 2)) := by go_grown
  have l0 := (lotAt_new w v p d h 25).below ((Below.refl _ _).alloc (Nat.le_refl _) (.cells #[.int .i64 x] 2))
  have I2 := ints_new1 (w.alloc (.cells #[.int .i64 v, .int .i64 p, .int .i64 d, .int .i64 h] 25)) x 2 (n := w.heap.size + 1) (by simp)
  have hc := ticketsError_n v p d h a T T.length cap rfl hn _ [x] 1 1 rfl (by omega) _ (hT.below B0) I2
  by_cases hE : eTk v p d h T [x] = 0
  case pos =>
    obtain ⟨g, h200, htk, hdr⟩ := eTk_zero hE
    have HLot := Lib.hid (lot_v g)
    obtain ⟨q, rfl, hq⟩ := eTk_draw hE
    obtain ⟨P, hPP, hP1⟩ : ∃ P : Nat, p = P ∧ P ≤ 12 := by have l := (lot_iff v p d h).1 g; have := l.p1; have := l.p2; have := l.v2; exact ⟨p.toNat, by omega, by omega⟩
    subst hPP
    obtain ⟨f, hf⟩ : ∃ f, f = fun k => cmN (gi T k) (q : Int) := ⟨_, rfl⟩
    have HV : Hid (vPzs v (P : Int) d h T (q : Int) = prz P f T.length) := Lib.hid (by unfold vPzs; rw [if_pos hE, hf, Int.toNat_natCast])
    have HF : Hid (∀ k, k < T.length → ∃ m : Nat, gi T k = m ∧ m < 4096 ∧ pc (m &&& q) = f k) := Lib.hid fun k hk => by
      obtain ⟨m, e1, hm, _⟩ := eTk_at hE hk
      exact ⟨m, e1, hm, by rw [hf]; simp only [cmN, e1, Int.toNat_natCast]⟩
    have HP : Hid (∀ k, k < T.length → f k ≤ P) := Lib.hid fun k hk => by
      obtain ⟨m, e1, hm, h3⟩ := eTk_at hE hk
      rw [hf]; simp only [cmN, e1, Int.toNat_natCast]
      have := pc_and m q
      omega
    have HE := Lib.hid hE
    rw [hE] at hc
    clear hf hE g htk hdr
    go_enter Try.func34, Try.ntmps34
    go_wp2_with fail
    refine hc.mono ?_
    rintro e W ⟨rfl, hb1⟩
    have B1 := B0.trans (hb1.mono B0.size)
    obtain ⟨c0, c1, c2, c3, l1⟩ := l0.below hb1
    clear hc l0 hb1 B0 I2
    go_wp2_with (at_make; refine wpList_make_full _ rfl _ _ 30 rfl W.heap.size 2 i0 (.int .i64 0) 1 Try.underlying30 hi hz0 hz1 .i64 .i64 ((P : Int) + 1) ((P : Int) + 1) (P + 1) rfl rfl (by simp) (by simp) (by rw [hz2]; omega) (by unfold maxLen; omega) (by simp) ?_; intro w3 hown hgrow)
    have lG0 : w.heap.size < W.heap.size := l1
    have sG := B1.size
    have B3 := B1.trans ((below_grown0 hgrow).mono B1.size)
    replace hown := own_made hown
    clear hgrow hi hz0 hz1 hz2 B1 c0 c1 c2 c3 l1
    obtain ⟨G, hG⟩ : ∃ G, G = W.heap.size := ⟨_, rfl⟩
    rw [← hG] at hown sG lG0 ⊢
    clear hG
    go_loopw [26] (fun i wr => ∃ k : Nat, k ≤ T.length ∧ i = .int .i64 k ∧ OwnInts wr G (.slice (some ⟨G, 0, none⟩) (P + 1) (P + 1)) (prz P f k) ∧ w.heap.size < G ∧ Below w.heap.size w wr) (fun i _ => T.length - (intOf i).toNat)
    case atStart => exact ⟨0, Nat.zero_le _, rfl, hown, lG0, B3⟩
    case round =>
      clear hown B3
      obtain ⟨k, hk, rfl, hown, lG, B⟩ := hrel
      by_cases hlt : k < T.length
      · obtain ⟨b, o, rfl, hbl, hcc⟩ := hT.at hlt
        have hck : wr.cell? ⟨b, o + k, none⟩ = some (.int .i64 (gi T k)) := kept_cell B (hcc k hlt) hbl
        obtain ⟨m, e1, hm, hfm⟩ := HF.out k hlt
        rw [e1] at hck
        have hb := bits_andN (a := m) (b := q) (by omega) (by omega)
        have hl : m &&& q < 4096 := Nat.lt_of_le_of_lt Nat.and_le_left hm
        have hD : pc (m &&& q) = f k := hfm
        have hD2 : f k ≤ P := HP.out k hlt
        obtain ⟨z, hz⟩ : ∃ z, z = m &&& q := ⟨_, rfl⟩
        rw [← hz] at hb hl hD
        have hcz := countNumbers_any z hl
        rw [hD] at hcz
        obtain ⟨D, hDD⟩ : ∃ D, D = f k := ⟨_, rfl⟩
        have HL : Hid ((prz P f k).set D (gi (prz P f k) D + 1) = prz P f (k + 1)) := Lib.hid (by rw [hDD]; rfl)
        rw [← hDD] at hcz hD2
        obtain ⟨s1, s2⟩ := prz_bd P f k D
        have HN : Hid ((prz P f k).length = P + 1) := Lib.hid (prz_len P f k)
        obtain ⟨L, hL⟩ : ∃ L, L = prz P f k := ⟨_, rfl⟩
        rw [← hL] at hown s1 s2 HL HN
        have EW : IntKind.i64.wrap (gi L D + 1) = gi L D + 1 := IntWalk.i64_in _ ⟨by omega, by omega⟩
        have hcell := hown.cell (k := D) (by rw [HN.out]; omega)
        have hfree := hown.free D
        have i1 : (0 : Int) ≤ (k : Int) := by omega
        have i2 : (k : Int) < (T.length : Int) := by omega
        have i3 : (0 : Int) ≤ (D : Int) := by omega
        have i4 : (D : Int) < (P : Int) + 1 := by omega
        clear hcc hL hD hz hfm e1 hDD
        go_wp2_with fail
        refine (hcz _).mono ?_
        rintro e w5 ⟨rfl, rfl⟩
        go_wp2_with fail
        go_roundw
        case rel => exact ⟨k + 1, by omega, by go_num, by rw [← HL.out]; exact hown.stored D _, lG, B.setCell (by simp; omega) _⟩
        case measure => simp [intOf]; omega
      · have ek : Hid (k = T.length) := Lib.hid (by omega)
        go_wp2_with fail
        go_ret2
        exact ⟨_, by rw [HE.out]; rfl, by rw [HV.out, ← ek.out]; exact hown.rebase (by omega), B⟩
  case neg =>
    have HV : Hid (vPzs v p d h T x = []) := Lib.hid (by unfold vPzs; rw [if_neg hE])
    obtain ⟨E, hEE⟩ : ∃ E, E = eTk v p d h T [x] := ⟨_, rfl⟩
    rw [← hEE] at hc hE ⊢
    clear hEE I2 hi hz0 hz1 hz2
    go_enter Try.func34, Try.ntmps34
    go_wp2_with fail
    refine hc.mono ?_
    rintro e W ⟨rfl, hb1⟩
    have B1 := B0.trans (hb1.mono B0.size)
    clear hc
    go_wp2_with fail
    go_ret2
    exact ⟨_, rfl, by rw [HV.out]; exact own_nil0 _ _, B1⟩

set_option maxHeartbeats 1000000 in
theorem spec_PrizesOf (v p d h : Int) (a : Option Addr) (T : List Int) (cap : Nat) (hn : T.length ≤ 4294967296) (x : Int) (hx : -9223372036854775808 ≤ x ∧ x ≤ 9223372036854775807) (w : World) (hT : Ints w a T) :
    Calls Try.prog 33 #[.agg #[.int .i64 v, .int .i64 p, .int .i64 d, .int .i64 h], .slice a T.length cap, .int .i64 x] w fun e w' => ∃ y, e = .returned (.tuple #[y, .int .i64 (eTk v p d h T [x])]) ∧ OwnInts w' w.heap.size y (vPzs v p d h T x) ∧ Below w.heap.size w w' := by
  obtain ⟨i0, hi, hz0, hz1, hz2⟩ := info_parts infoI64
  have B0 : Below w.heap.size w (w.alloc (.cells #[.int .i64 v, .int .i64 p, .int .i64 d, .int .i64 h] 25)) := by go_grown
  have l0 := lotAt_new w v p d h 25
  obtain ⟨c0, c1, c2, c3, l1⟩ := lotAt_new w v p d h 25
  have hc := l08Tickets_any v p d h a T cap hn _ (hT.below B0)
  have hTm := eTk_eTm v p d h T x
  by_cases hE : eTk v p d h T [x] = 0
  case pos =>
    obtain ⟨g, h200, htk, hdr⟩ := eTk_zero hE
    have HLot := Lib.hid (lot_v g)
    obtain ⟨q, rfl, hq⟩ := eTk_draw hE
    obtain ⟨P, hPP, hP1⟩ : ∃ P : Nat, p = P ∧ P ≤ 12 := by have l := (lot_iff v p d h).1 g; have := l.p1; have := l.p2; have := l.v2; exact ⟨p.toNat, by omega, by omega⟩
    subst hPP
    obtain ⟨f, hf⟩ : ∃ f, f = fun k => cmN (gi T k) (q : Int) := ⟨_, rfl⟩
    have HV : Hid (vPzs v (P : Int) d h T (q : Int) = prz P f T.length) := Lib.hid (by unfold vPzs; rw [if_pos hE, hf, Int.toNat_natCast])
    have HF : Hid (∀ k, k < T.length → ∃ m : Nat, gi T k = m ∧ m < 4096 ∧ pc (m &&& q) = f k) := Lib.hid fun k hk => by
      obtain ⟨m, e1, hm, _⟩ := eTk_at hE hk
      exact ⟨m, e1, hm, by rw [hf]; simp only [cmN, e1, Int.toNat_natCast]⟩
    have HP : Hid (∀ k, k < T.length → f k ≤ P) := Lib.hid fun k hk => by
      obtain ⟨m, e1, hm, h3⟩ := eTk_at hE hk
      rw [hf]; simp only [cmN, e1, Int.toNat_natCast]
      have := pc_and m q
      omega
    have HE := Lib.hid hE
    have hm0 : eTm v (P : Int) d h T = 0 := by
      unfold eTm
      rw [if_pos g, if_pos]
      simp only [Bool.and_eq_true, decide_eq_true_iff]; exact ⟨h200, htk⟩
    have hdx : setB v d (q : Int) = true := by rw [List.all_cons, List.all_nil, Bool.and_true] at hdr; exact hdr
    have HDX := Lib.hid hdx
    rw [hm0] at hc
    clear hf hE g htk hdr hm0 hdx hTm
    go_enter Try.func33, Try.ntmps33
    go_wp2_with fail
    refine hc.mono ?_
    rintro e W0 ⟨rfl, hb1⟩
    have B01 := B0.trans (hb1.mono B0.size)
    have l2 := l0.below hb1
    clear c0 c1 c2 c3 l1
    obtain ⟨c0, c1, c2, c3, l1⟩ := l0.below hb1
    have hs := l08Set_any v (P : Int) d h (q : Int) d HLot.out W0
    rw [HDX.out] at hs
    clear hc l0 hb1 B0
    go_wp2_with fail
    refine hs.mono ?_
    rintro e W ⟨rfl, hb1⟩
    have B1 := B01.trans (hb1.mono B01.size)
    clear c0 c1 c2 c3 l1
    obtain ⟨c0, c1, c2, c3, l1⟩ := l2.below hb1
    clear hs hb1 B01 l2
    go_wp2_with (at_make; refine wpList_make_full _ rfl _ _ 30 rfl W.heap.size 2 i0 (.int .i64 0) 1 Try.underlying30 hi hz0 hz1 .i64 .i64 ((P : Int) + 1) ((P : Int) + 1) (P + 1) rfl rfl (by simp) (by simp) (by rw [hz2]; omega) (by unfold maxLen; omega) (by simp) ?_; intro w3 hown hgrow)
    have lG0 : w.heap.size < W.heap.size := l1
    have sG := B1.size
    have B3 := B1.trans ((below_grown0 hgrow).mono B1.size)
    replace hown := own_made hown
    clear hgrow hi hz0 hz1 hz2 B1 c0 c1 c2 c3 l1
    obtain ⟨G, hG⟩ : ∃ G, G = W.heap.size := ⟨_, rfl⟩
    rw [← hG] at hown sG lG0 ⊢
    clear hG
    go_loopw [10] (fun i wr => ∃ k : Nat, k ≤ T.length ∧ i = .int .i64 k ∧ OwnInts wr G (.slice (some ⟨G, 0, none⟩) (P + 1) (P + 1)) (prz P f k) ∧ w.heap.size < G ∧ Below w.heap.size w wr) (fun i _ => T.length - (intOf i).toNat)
    case atStart => exact ⟨0, Nat.zero_le _, rfl, hown, lG0, B3⟩
    case round =>
      clear hown B3
      obtain ⟨k, hk, rfl, hown, lG, B⟩ := hrel
      by_cases hlt : k < T.length
      · obtain ⟨b, o, rfl, hbl, hcc⟩ := hT.at hlt
        have hck : wr.cell? ⟨b, o + k, none⟩ = some (.int .i64 (gi T k)) := kept_cell B (hcc k hlt) hbl
        obtain ⟨m, e1, hm, hfm⟩ := HF.out k hlt
        rw [e1] at hck
        have hb := bits_andN (a := m) (b := q) (by omega) (by omega)
        have hl : m &&& q < 4096 := Nat.lt_of_le_of_lt Nat.and_le_left hm
        have hD : pc (m &&& q) = f k := hfm
        have hD2 : f k ≤ P := HP.out k hlt
        obtain ⟨z, hz⟩ : ∃ z, z = m &&& q := ⟨_, rfl⟩
        rw [← hz] at hb hl hD
        have hcz := l08Size_any z hl
        rw [hD] at hcz
        obtain ⟨D, hDD⟩ : ∃ D, D = f k := ⟨_, rfl⟩
        have HL : Hid ((prz P f k).set D (gi (prz P f k) D + 1) = prz P f (k + 1)) := Lib.hid (by rw [hDD]; rfl)
        rw [← hDD] at hcz hD2
        obtain ⟨s1, s2⟩ := prz_bd P f k D
        have HN : Hid ((prz P f k).length = P + 1) := Lib.hid (prz_len P f k)
        obtain ⟨L, hL⟩ : ∃ L, L = prz P f k := ⟨_, rfl⟩
        rw [← hL] at hown s1 s2 HL HN
        have EW : IntKind.i64.wrap (gi L D + 1) = gi L D + 1 := IntWalk.i64_in _ ⟨by omega, by omega⟩
        have hcell := hown.cell (k := D) (by rw [HN.out]; omega)
        have hfree := hown.free D
        have i1 : (0 : Int) ≤ (k : Int) := by omega
        have i2 : (k : Int) < (T.length : Int) := by omega
        have i3 : (0 : Int) ≤ (D : Int) := by omega
        have i4 : (D : Int) < (P : Int) + 1 := by omega
        clear hcc hL hD hz hfm e1 hDD
        go_wp2_with fail
        refine (hcz _).mono ?_
        rintro e w5 ⟨rfl, rfl⟩
        go_wp2_with fail
        go_roundw
        case rel => exact ⟨k + 1, by omega, by go_num, by rw [← HL.out]; exact hown.stored D _, lG, B.setCell (by simp; omega) _⟩
        case measure => simp [intOf]; omega
      · have ek : Hid (k = T.length) := Lib.hid (by omega)
        go_wp2_with fail
        go_ret2
        exact ⟨_, by rw [HE.out]; rfl, by rw [HV.out, ← ek.out]; exact hown.rebase (by omega), B⟩
  case neg =>
    have HV : Hid (vPzs v p d h T x = []) := Lib.hid (by unfold vPzs; rw [if_neg hE])
    by_cases hm : eTm v p d h T = 0
    · rw [if_pos hm] at hTm
      have g : lotB v p d h = true := by
        cases hg : lotB v p d h with
        | true => rfl
        | false => rw [eTm_inv hg] at hm; cases hm
      have hs' := fun W => l08Set_any v p d h x d (lot_v g) W
      have hdx : setB v d x = false := by
        cases hs : setB v d x with
        | false => rfl
        | true => rw [hs, if_pos rfl] at hTm; exact absurd hTm hE
      rw [hdx, if_neg (by decide)] at hTm
      rw [hm] at hc
      have HE := Lib.hid hTm
      have HDX := Lib.hid hdx
      clear hTm hE hm g hdx hi hz0 hz1 hz2
      go_enter Try.func33, Try.ntmps33
      go_wp2_with fail
      refine hc.mono ?_
      rintro e W0 ⟨rfl, hb1⟩
      have B01 := B0.trans (hb1.mono B0.size)
      clear c0 c1 c2 c3 l1
      obtain ⟨c0, c1, c2, c3, l1⟩ := l0.below hb1
      have hs := hs' W0
      rw [HDX.out] at hs
      clear hc l0 hb1 B0 hs'
      go_wp2_with fail
      refine hs.mono ?_
      rintro e W ⟨rfl, hb1⟩
      have B1 := B01.trans (hb1.mono B01.size)
      go_wp2_with fail
      go_ret2
      exact ⟨_, by rw [HE.out]; rfl, by rw [HV.out]; exact own_nil0 _ _, B1⟩
    · rw [if_neg hm] at hTm
      have HE := Lib.hid hTm
      obtain ⟨E, hEE⟩ : ∃ E, E = eTm v p d h T := ⟨_, rfl⟩
      rw [← hEE] at hc hm HE
      clear hEE hTm hE hi hz0 hz1 hz2
      go_enter Try.func33, Try.ntmps33
      go_wp2_with fail
      refine hc.mono ?_
      rintro e W0 ⟨rfl, hb1⟩
      have B01 := B0.trans (hb1.mono B0.size)
      go_wp2_with fail
      go_ret2
      exact ⟨_, by rw [HE.out]; rfl, by rw [HV.out]; exact own_nil0 _ _, B01⟩

end Go.Proofs.Ytclahcnkkkgdhaa
