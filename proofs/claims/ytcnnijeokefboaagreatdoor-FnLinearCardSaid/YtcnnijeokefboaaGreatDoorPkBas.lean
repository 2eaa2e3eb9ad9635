/-
  The contracts of the program's leastBasis and dimension, of LeastBasis and DimensionOf. By an AI agent.
-/
import Derived.Test.YtcnnijeokefboaaGreatDoorMathB
import Derived.Test.YtcnnijeokefboaaGreatDoorPkAsk
import Derived.Test.YtcnnijeokefboaaGreatDoorAppendAt
import Derived.Test.YtcnnijeokefboaaGreatDoorPk33
import Derived.Deep.WholeRow
namespace Go.Proofs.YtcnnijeokefboaaGreatDoor
open Go.RowKit Go.Shelf Cv
set_option linter.unusedVariables false
set_option linter.unusedSimpArgs false
set_option maxRecDepth 100000

theorem cmpNaN_any (x : Int) (w : World) : Calls Tryz.prog 166 #[.int .i64 x] w fun e w' => e = .returned (.bool false) ∧ w' = w := by
  go_enter Tryz.func166, Tryz.ntmps166
  go_wp2
  go_ret
  exact ⟨by simp, rfl⟩
theorem slNaN_any (x : Int) (w : World) : Calls Tryz.prog 144 #[.int .i64 x] w fun e w' => e = .returned (.bool false) ∧ w' = w := by
  go_enter Tryz.func144, Tryz.ntmps144
  go_wp2
  go_ret
  exact ⟨by simp, rfl⟩
theorem less_any (x y : Int) (w : World) : Calls Tryz.prog 143 #[.int .i64 x, .int .i64 y] w fun e w' => e = .returned (.bool (decide (x < y))) ∧ w' = w := by
  go_enter Tryz.func143, Tryz.ntmps143
  go_wp2_with (go_at_call 166; refine (cmpNaN_any _ _).mono ?_; rintro e w' ⟨rfl, rfl⟩)
  go_ret
  exact ⟨rfl, rfl⟩

set_option maxHeartbeats 4000000 in
theorem bsearch_any (al : Option Addr) (L : List Int) (cap : Nat) (x : Int) (hA : Asc L) (hl : L.length ≤ 1048576) (w : World) (h : Ints w al L) :
    Calls Tryz.prog 117 #[.slice al L.length cap, .int .i64 x] w fun e w' => ∃ (j : Nat) (t : Bool), e = .returned (.tuple #[.int .i64 j, .bool t]) ∧ j ≤ L.length ∧ (∀ i, i < j → gi L i < x) ∧ (∀ i, j ≤ i → i < L.length → x ≤ gi L i) ∧ Below w.heap.size w w' := by
  have HA : Hid (∀ i j, i < j → j < L.length → gi L i < gi L j) := Lib.hid fun i j h1 h2 => asc_lt hA h1 h2
  have H := Lib.hid h
  obtain ⟨n, hn⟩ : ∃ n, n = L.length := ⟨_, rfl⟩
  rw [← hn] at HA hl ⊢
  have HN := Lib.hid hn
  clear hA hn h
  go_enter Tryz.func117, Tryz.ntmps117
  go_wp2_with fail
  go_loopw [7, 8] (fun a b wr => ∃ lo hi : Nat, a = .int .i64 lo ∧ b = .int .i64 hi ∧ lo ≤ hi ∧ hi ≤ n ∧ Hid (∀ i, i < lo → gi L i < x) ∧ Hid (∀ i, hi ≤ i → i < n → x ≤ gi L i) ∧ Below w.heap.size w wr) (fun a b _ => (intOf b).toNat - (intOf a).toNat)
  case atStart => exact ⟨0, n, rfl, rfl, Nat.zero_le _, Nat.le_refl _, Lib.hid fun i hi => by omega, Lib.hid fun i h1 h2 => by omega, Below.refl _ _⟩
  case round =>
    obtain ⟨lo, hi, rfl, rfl, hlh, hin, I1, I2, B⟩ := hrel
    by_cases hlt : lo < hi
    · obtain ⟨b, o, rfl, hbl, hc⟩ := H.out.at (show (lo + hi) / 2 < L.length by have := HN.out; omega)
      have cm := kept_cell B (hc ((lo + hi) / 2) (by have := HN.out; omega)) hbl
      obtain ⟨y, hy⟩ : ∃ y, y = gi L ((lo + hi) / 2) := ⟨_, rfl⟩
      rw [← hy] at cm
      have Y := Lib.hid hy
      clear hc hy
      by_cases hyx : y < x
      · go_wp2_with (first | (go_at_call 143; refine (less_any _ _ _).mono ?_; rintro e w' ⟨rfl, rfl⟩) | fail)
        go_roundw
        case measure => simp [intOf]; omega
        case rel =>
          refine ⟨(lo + hi) / 2 + 1, hi, by go_num, rfl, by omega, hin, Lib.hid fun t ht => ?_, I2, B⟩
          by_cases e : t = (lo + hi) / 2
          · subst e; rw [← Y.out]; exact hyx
          · have := HA.out t ((lo + hi) / 2) (by omega) (by omega)
            rw [← Y.out] at this; omega
      · go_wp2_with (first | (go_at_call 143; refine (less_any _ _ _).mono ?_; rintro e w' ⟨rfl, rfl⟩) | fail)
        go_roundw
        case measure => simp [intOf]; omega
        case rel =>
          refine ⟨lo, (lo + hi) / 2, rfl, by go_num, by omega, by omega, I1, Lib.hid fun t ht htn => ?_, B⟩
          by_cases e : t = (lo + hi) / 2
          · subst e; rw [← Y.out]; omega
          · have := HA.out ((lo + hi) / 2) t (by omega) htn
            rw [← Y.out] at this; omega
    · have : hi = lo := by omega
      subst this
      by_cases hn : hi < n
      · obtain ⟨b, o, rfl, hbl, hc⟩ := H.out.at (show hi < L.length by have := HN.out; omega)
        have cl := kept_cell B (hc hi (by have := HN.out; omega)) hbl
        obtain ⟨y, hy⟩ : ∃ y, y = gi L hi := ⟨_, rfl⟩
        rw [← hy] at cl
        clear hc hy
        by_cases hyx : y = x
        · go_wp2_with (first | (go_at_call 144; refine (slNaN_any _ _).mono ?_; rintro e w' ⟨rfl, rfl⟩) | fail)
          all_goals go_ret2
          all_goals exact ⟨hi, _, rfl, hin, I1.out, I2.out, B⟩
        · go_wp2_with (first | (go_at_call 144; refine (slNaN_any _ _).mono ?_; rintro e w' ⟨rfl, rfl⟩) | fail)
          all_goals go_ret2
          all_goals exact ⟨hi, _, rfl, hin, I1.out, I2.out, B⟩
      · go_wp2_with (first | (go_at_call 144; refine (slNaN_any _ _).mono ?_; rintro e w' ⟨rfl, rfl⟩) | fail)
        all_goals go_ret2
        all_goals exact ⟨hi, _, rfl, hin, I1.out, I2.out, B⟩

theorem boxb2 (w : World) (a b : Value) (t u : TypeId) : ∃ W, W = (w.alloc (.cells #[a, b] t)).alloc (.cells #[] u) ∧ W.cell? ⟨w.heap.size, 0, none⟩ = some a ∧ W.cell? ⟨w.heap.size, 1, none⟩ = some b ∧ W.heap.size = w.heap.size + 2 ∧ Below w.heap.size w W := by
  have y0 : (w.alloc (.cells #[a, b] t)).cell? ⟨w.heap.size, 0, none⟩ = some a := by rw [cell_of_row _ w.heap.size 0 _ _ _ (heap_alloc_last w (.cells #[a, b] t))]; rfl
  have y1 : (w.alloc (.cells #[a, b] t)).cell? ⟨w.heap.size, 1, none⟩ = some b := by rw [cell_of_row _ w.heap.size 1 _ _ _ (heap_alloc_last w (.cells #[a, b] t))]; rfl
  have b1 : Below (w.alloc (.cells #[a, b] t)).heap.size (w.alloc (.cells #[a, b] t)) ((w.alloc (.cells #[a, b] t)).alloc (.cells #[] u)) := (Below.refl _ _).alloc (Nat.le_refl _) _
  exact ⟨_, rfl, kept_cell b1 y0 (lt_alloc _ _), kept_cell b1 y1 (lt_alloc _ _), by rw [World.size_alloc, World.size_alloc], ((Below.refl _ _).alloc (Nat.le_refl _) _).trans (b1.mono (by rw [World.size_alloc]; omega))⟩

set_option maxHeartbeats 4000000 in
theorem leastBasis_any (ao : Option Addr) (S : List Int) (cap : Nat) (hP : Pl S) (ac : Option Addr) (C : List Int) (capc : Nat) (hA : Asc C) (hl : C.length ≤ 1024) (w : World) (hS : Ints w ao S) (hCI : Ints w ac C) :
    Calls Tryz.prog 61 #[.agg #[.slice ao S.length cap, .slice ac C.length capc]] w fun e w' => ∃ v, e = .returned v ∧ OwnInts w' w.heap.size v (basUp S C S.length) ∧ Below w.heap.size w w' := by
  have hlo := hP.sp.lo
  have hhi := hP.sp.hi
  have hq := q_bd hP
  have HSp := Lib.hid hP.sp
  have HP := Lib.hid hP
  have HA := Lib.hid hA
  have HF := Lib.hid (fst_all hP)
  have HFN := Lib.hid (fun m hm => fst_next (S := S) hP m hm)
  have HLT := Lib.hid (fun m hm => fst_lt (S := S) hP m hm)
  have HR := Lib.hid (fun k hk => rest_le (S := S) hP k hk)
  have N := nW_bd hP.sp
  obtain ⟨bS, oS, rfl, hbS, hcS⟩ := hS.at (show 0 < S.length by omega)
  have hcS0 := hcS 0 (by omega)
  rw [Nat.add_zero] at hcS0
  obtain ⟨W0, hW0, c0, d0, z0, B0⟩ := boxb2 w (.slice (some ⟨bS, oS, none⟩) S.length cap) (.slice ac C.length capc) 64 2
  have oo : OwnInts W0 (w.heap.size + 1) (.slice (some ⟨w.heap.size + 1, 0, none⟩) 0 0) [] := by rw [hW0]; exact own_empty _ (w.heap.size + 1) (by simp) (by simp)
  have hcSe := kept_cell B0 hcS0 hbS
  have c0e := c0
  rw [hW0] at c0e hcSe
  have HW0 := Lib.hid hW0
  obtain ⟨q, hqq⟩ : ∃ q, q = gi S 0 := ⟨_, rfl⟩
  rw [← hqq] at hcSe HF HFN hq hcS0
  have hq0 : q ≠ 0 := by omega
  clear hP hA hW0 hcS hqq
  go_enter Tryz.func61, Tryz.ntmps61
  go_wp2_with fail
  rw [← HW0.out]
  clear c0e hcSe
  refine (wordCount_sp (some ⟨bS, oS, none⟩) S cap W0 HSp.out (hS.below B0)).mono ?_
  rintro e w1 ⟨rfl, hb1⟩
  have c1 := kept_cell hb1 c0 (by omega)
  have d1 := kept_cell hb1 d0 (by omega)
  have o1 := oo.below hb1
  have B1 := B0.trans (hb1.mono B0.size)
  have s1 : w.heap.size + 2 ≤ w1.heap.size := by have := hb1.size; omega
  have hd1 : (nW S).tdiv q = restP S (S.length - 1) := by rw [Int.tdiv_eq_ediv_of_nonneg (by omega), HF.out]
  have hw1 : IntKind.i64.wrap (restP S (S.length - 1)) = restP S (S.length - 1) := IntWalk.i64_in _ (by have := HR.out (S.length - 1) (by omega); omega)
  have hf1 : restP S (S.length - 1) = fstW S S.length := by unfold fstW; rw [if_neg (by omega)]
  clear hb1 c0 d0 oo B0 z0
  go_wp2_with fail
  go_loopw [3, 5] (fun v f wr => ∃ (m : Nat) (L : List Int), m ≤ S.length ∧ L.length + m ≤ S.length ∧ Hid (L ++ basUp S C m = basUp S C S.length) ∧ f = .int .i64 (fstW S m) ∧ OwnInts wr (w.heap.size + 1) v L ∧ wr.cell? ⟨w.heap.size, 0, none⟩ = some (.slice (some ⟨bS, oS, none⟩) S.length cap) ∧ wr.cell? ⟨w.heap.size, 1, none⟩ = some (.slice ac C.length capc) ∧ w.heap.size + 2 ≤ wr.heap.size ∧ Below w.heap.size w wr) (fun _ f _ => (intOf f).toNat)
  case atStart => exact ⟨S.length, [], Nat.le_refl _, by simp, Lib.hid rfl, by rw [← hf1]; exact congrArg (Value.int .i64) (IntWalk.wrap64_in _ (by have := HR.out (S.length - 1) (by omega); omega)), o1, c1, d1, s1, B1⟩
  case round =>
    clear o1 c1 d1 s1 B1 hd1 hw1 hf1
    obtain ⟨m, L, hm, hLm, HL, rfl, own, c, d, s, B⟩ := hrel
    by_cases hm0 : m = 0
    · subst hm0
      have h0 : fstW S 0 = 0 := rfl
      rw [h0]
      have HE : Hid (L = basUp S C S.length) := Lib.hid (by have := HL.out; simpa [basUp] using this)
      go_wp2_with fail
      go_ret
      exact ⟨_, rfl, by rw [← HE.out]; exact own.rebase (by omega), B⟩
    · obtain ⟨k, rfl⟩ : ∃ k, m = k + 1 := ⟨m - 1, by omega⟩
      have hpf : fstW S (k + 1) = restP S k := by unfold fstW; rw [if_neg (by omega)]; rfl
      obtain ⟨p1, p2⟩ := HR.out k (by omega)
      have hnx := HFN.out k hm
      obtain ⟨n1, n2⟩ := HLT.out k hm
      have HK : Hid (∀ j, j < C.length → (∀ i, i < j → gi C i < restP S k) → (∀ i, j ≤ i → i < C.length → restP S k ≤ gi C i) → gi C j < 2 * restP S k → basUp S C (k + 1) = gi C j :: basUp S C k) := Lib.hid fun j a1 a2 a3 a4 => by
        rw [basUp, bas_yes HP.out (by omega) a1 a2 a3 a4]; rfl
      have HKn : Hid (∀ j, (∀ i, i < j → gi C i < restP S k) → ¬ (j < C.length ∧ gi C j < 2 * restP S k) → basUp S C (k + 1) = basUp S C k) := Lib.hid fun j a1 a2 => by
        rw [basUp, bas_no HP.out HA.out (by omega) a1 a2]; rfl
      rw [hpf]
      obtain ⟨p, hp⟩ : ∃ p, p = restP S k := ⟨_, rfl⟩
      obtain ⟨f, hf⟩ : ∃ f, f = fstW S k := ⟨_, rfl⟩
      rw [← hp] at p1 p2 hnx n2 HK HKn ⊢
      rw [← hf] at hnx n1 n2
      have HFf := Lib.hid hf
      have hdv : p.tdiv q = f := by rw [Int.tdiv_eq_ediv_of_nonneg (by omega), hnx]
      have hfw : IntKind.i64.wrap f = f := IntWalk.i64_in _ ⟨by omega, by omega⟩
      have h2p : IntKind.i64.wrap (2 * p) = 2 * p := IntWalk.i64_in _ ⟨by omega, by omega⟩
      have hp0 : 0 < p := by omega
      clear hpf hp hf hnx hm0
      go_wp2_with fail
      refine (bsearch_any ac C capc p HA.out (by omega) wr (hCI.below B)).mono ?_
      rintro e w2 ⟨j, t, rfl, hj, h1, h2, hb2⟩
      have H1 := Lib.hid h1
      have H2 := Lib.hid h2
      have own2 := own.below hb2
      have c2 := kept_cell hb2 c (by omega)
      have d2 := kept_cell hb2 d (by omega)
      have s2 : w.heap.size + 2 ≤ w2.heap.size := by have := hb2.size; omega
      have B2 := B.trans (hb2.mono B.size)
      clear h1 h2 hb2 own c d s B
      by_cases hjl : j < C.length
      · obtain ⟨b, o, rfl, hbl, hc⟩ := hCI.at hjl
        have hck := kept_cell B2 (hc j hjl) hbl
        obtain ⟨y, hy⟩ : ∃ y, y = gi C j := ⟨_, rfl⟩
        rw [← hy] at hck
        have y1 : p ≤ y := by rw [hy]; exact H2.out j (Nat.le_refl _) hjl
        have HY := Lib.hid hy
        have hjI : (j : Int) < (C.length : Int) := by omega
        clear hy hc
        by_cases hy2 : y < 2 * p
        · have HU : Hid (basUp S C (k + 1) = y :: basUp S C k) := Lib.hid (by rw [HY.out]; exact HK.out j hjl H1.out H2.out (by rw [← HY.out]; exact hy2))
          have E0 : IntKind.i64.wrap y = y := IntWalk.i64_in _ ⟨by omega, by omega⟩
          clear HK HKn
          go_wp2_with (at_builtin; refine wpList_append_int rfl _ _ rfl (w.heap.size + 1) _ _ rfl (own2.alloc _) w2.heap.size _ rfl (cell_new _ _ _) (by omega) (by rw [World.size_alloc]; omega) ?_; intro v' w5 hown' hgrow)
          have hbT : Below w2.heap.size w2 (w2.alloc (.cells #[.int .i64 y] 2)) := (Below.refl _ _).alloc (Nat.le_refl _) _
          have B5 := grown_below (B2.alloc B2.size _) (by rw [World.size_alloc]; omega) hgrow (own2.alloc _) (by omega)
          have c5 : w5.cell? ⟨w.heap.size, 0, none⟩ = some (.slice (some ⟨bS, oS, none⟩) S.length cap) := hgrow.cell (a := ⟨w.heap.size, 0, none⟩) (kept_cell hbT c2 (by omega)) (fun e => by have := World.ownsRow.lt own2 _ e.symm; simp at this; omega)
          have d5 : w5.cell? ⟨w.heap.size, 1, none⟩ = some (.slice (some ⟨b, o, none⟩) C.length capc) := hgrow.cell (a := ⟨w.heap.size, 1, none⟩) (kept_cell hbT d2 (by omega)) (fun e => by have := World.ownsRow.lt own2 _ e.symm; simp at this; omega)
          have s5 : w.heap.size + 2 ≤ w5.heap.size := by have := hgrow.size; simp at this; omega
          clear own2 hgrow c2 d2 s2 B2 hck hbT
          go_wp2_with fail
          go_roundw
          case rel => exact ⟨k, L ++ [y], by omega, by simp; omega, Lib.hid (by rw [← HL.out, HU.out, List.append_assoc]; rfl), by rw [← HFf.out], hown', c5, d5, s5, B5⟩
          case measure => simp [intOf]; omega
        · have HU : Hid (basUp S C (k + 1) = basUp S C k) := Lib.hid (HKn.out j H1.out fun h => hy2 (by rw [HY.out]; exact h.2))
          clear HK HKn
          go_wp2_with fail
          go_roundw
          case rel => exact ⟨k, L, by omega, by omega, Lib.hid (by rw [← HL.out, HU.out]), by rw [← HFf.out], own2, c2, d2, s2, B2⟩
          case measure => simp [intOf]; omega
      · have HU : Hid (basUp S C (k + 1) = basUp S C k) := Lib.hid (HKn.out j H1.out fun h => hjl h.1)
        have hjI : ¬ (j : Int) < (C.length : Int) := by omega
        clear HK HKn
        go_wp2_with fail
        go_roundw
        case rel => exact ⟨k, L, by omega, by omega, Lib.hid (by rw [← HL.out, HU.out]), by rw [← HFf.out], own2, c2, d2, s2, B2⟩
        case measure => simp [intOf]; omega

theorem dimension_any (ao : Option Addr) (S : List Int) (cap : Nat) (hP : Pl S) (ac : Option Addr) (C : List Int) (capc : Nat) (hA : Asc C) (hl : C.length ≤ 1024) (w : World) (hS : Ints w ao S) (hCI : Ints w ac C) :
    Calls Tryz.prog 63 #[.agg #[.slice ao S.length cap, .slice ac C.length capc]] w fun e w' => e = .returned (.int .i64 (basUp S C S.length).length) ∧ Below w.heap.size w w' := by
  obtain ⟨W0, hW0, c0, d0, z0, B0⟩ := boxd2 w (.slice ao S.length cap) (.slice ac C.length capc) 64
  have H := Lib.hid (leastBasis_any ao S cap hP ac C capc hA hl W0 (hS.below B0) (hCI.below B0))
  have hle := basUp_len S C S.length
  have hhi := hP.sp.hi
  have HW0 := Lib.hid hW0
  have c0e := c0
  have d0e := d0
  rw [hW0] at c0e d0e
  clear hW0 hP hA
  go_enter Tryz.func63, Tryz.ntmps63
  go_wp2_with fail
  rw [← HW0.out]
  clear c0e d0e
  refine H.out.mono ?_
  rintro e w1 ⟨v, rfl, own, hb⟩
  obtain ⟨a1, k1, hv, _⟩ := own.ints
  subst hv
  obtain ⟨P, hPl⟩ : ∃ P, P = (basUp S C S.length).length := ⟨_, rfl⟩
  rw [← hPl] at hle ⊢
  clear own
  go_wp2_with fail
  go_ret
  exact ⟨rfl, B0.trans (hb.mono B0.size)⟩

theorem impl_LeastBasis (ao : Option Addr) (S : List Int) (cap : Nat) (hn : S.length ≤ 4294967296) (ac : Option Addr) (C : List Int) (capc : Nat) (hnc : C.length ≤ 4294967296) (pv : Value) (w : World) (hG : Glob pv w) (hS : Ints w ao S) (hC : Ints w ac C) :
    Calls Tryz.prog 14 #[.agg #[.slice ao S.length cap], .slice ac C.length capc] w fun e w' => ∃ v, e = .returned (.tuple #[v, .int .i64 (eLin S C)]) ∧ OwnInts w' w.heap.size v (vBas S C) ∧ Below w.heap.size w w' := by
  have B0 : Below w.heap.size w (w.alloc (.cells #[.slice ao S.length cap] 26)) := by go_grown
  have c0 := cell_new w (.slice ao S.length cap) 26
  have hpos := hG.2
  have hG0 := hG.below B0 hpos
  by_cases hc0 : eCode S C = 0
  · cases hlb : linB S C with
    | true =>
      obtain ⟨hP, hg⟩ := lin_gp hc0 hlb
      have hlen := code_len0 hc0
      have hA := asc_code hc0
      have HE : Hid (eLin S C = 0) := Lib.hid (by unfold eLin; rw [if_pos hc0, if_pos hlb])
      have HV : Hid (vBas S C = basUp S C S.length) := Lib.hid (by unfold vBas; rw [if_pos HE.out])
      have HA := Lib.hid (askLinearL_yes ao S cap hn ac C capc hnc hc0 hlb 61 (enters_of Tryz.func61 (by kernel_rfl) rfl) #[] #[] (basUp S C S.length) _ (hS.below B0) (hC.below B0) (fun W hb => leastBasis_any ao S cap hP ac C capc hA hlen W ((hS.below B0).below hb) ((hC.below B0).below hb)))
      clear hc0 hlb hP hg hlen hG0 hA
      go_enter Tryz.func14, Tryz.ntmps14
      go_wp2_with fail
      refine HA.out.mono ?_
      rintro e w2 ⟨v, rfl, own, hb2⟩
      go_wp2_with fail
      go_ret2
      exact ⟨_, by rw [HE.out]; try rfl, by rw [HV.out]; exact own.rebase B0.size, B0.trans (hb2.mono B0.size)⟩
    | false =>
      have HE : Hid (eLin S C = 5) := Lib.hid (by unfold eLin; rw [if_pos hc0, if_neg (by rw [hlb]; decide)])
      have HV : Hid (vBas S C = []) := Lib.hid (by unfold vBas; rw [if_neg (by rw [HE.out]; decide)])
      have HA := Lib.hid (askLinearL_no ao S cap hn ac C capc hnc hc0 hlb 61 #[] #[] pv _ (hS.below B0) (hC.below B0) hG0)
      clear hc0 hlb hG0
      go_enter Tryz.func14, Tryz.ntmps14
      go_wp2_with fail
      refine HA.out.mono ?_
      rintro e w2 ⟨rfl, hb2⟩
      go_wp2_with fail
      go_ret2
      exact ⟨_, by rw [HE.out]; try rfl, by rw [HV.out]; exact own_nil _ _, B0.trans (hb2.mono B0.size)⟩
  · have HE : Hid (eLin S C = eCode S C) := Lib.hid (by unfold eLin; rw [if_neg hc0])
    have HV : Hid (vBas S C = []) := Lib.hid (by unfold vBas; rw [if_neg (by rw [HE.out]; exact hc0)])
    have HA := Lib.hid (askLinearL_err ao S cap hn ac C capc hnc hc0 61 #[] #[] _ (hS.below B0) (hC.below B0))
    clear hc0 hG0
    go_enter Tryz.func14, Tryz.ntmps14
    go_wp2_with fail
    refine HA.out.mono ?_
    rintro e w2 ⟨rfl, hb2⟩
    go_wp2_with fail
    go_ret2
    exact ⟨_, by rw [HE.out]; try rfl, by rw [HV.out]; exact own_nil _ _, B0.trans (hb2.mono B0.size)⟩

theorem impl_DimensionOf (ao : Option Addr) (S : List Int) (cap : Nat) (hn : S.length ≤ 4294967296) (ac : Option Addr) (C : List Int) (capc : Nat) (hnc : C.length ≤ 4294967296) (pv : Value) (w : World) (hG : Glob pv w) (hS : Ints w ao S) (hC : Ints w ac C) :
    Calls Tryz.prog 15 #[.agg #[.slice ao S.length cap], .slice ac C.length capc] w fun e w' => e = .returned (.tuple #[.int .i64 (vDim S C), .int .i64 (eLin S C)]) ∧ Below w.heap.size w w' := by
  have B0 : Below w.heap.size w (w.alloc (.cells #[.slice ao S.length cap] 26)) := by go_grown
  have c0 := cell_new w (.slice ao S.length cap) 26
  have hpos := hG.2
  have hG0 := hG.below B0 hpos
  by_cases hc0 : eCode S C = 0
  · cases hlb : linB S C with
    | true =>
      obtain ⟨hP, hg⟩ := lin_gp hc0 hlb
      have hlen := code_len0 hc0
      have hA := asc_code hc0
      have HE : Hid (eLin S C = 0) := Lib.hid (by unfold eLin; rw [if_pos hc0, if_pos hlb])
      have HV : Hid (vDim S C = (basUp S C S.length).length) := Lib.hid (by unfold vDim; rw [if_pos HE.out])
      have HA := Lib.hid (askLinear_yes ao S cap hn ac C capc hnc hc0 hlb 63 (enters_of Tryz.func63 (by kernel_rfl) rfl) #[] #[] ((basUp S C S.length).length : Int) _ (hS.below B0) (hC.below B0) (fun W hb => dimension_any ao S cap hP ac C capc hA hlen W ((hS.below B0).below hb) ((hC.below B0).below hb)))
      clear hc0 hlb hP hg hlen hG0 hA
      go_enter Tryz.func15, Tryz.ntmps15
      go_wp2_with fail
      refine HA.out.mono ?_
      rintro e w2 ⟨rfl, hb2⟩
      go_wp2_with fail
      go_ret2
      exact ⟨by rw [HE.out, HV.out]; rfl, B0.trans (hb2.mono B0.size)⟩
    | false =>
      have HE : Hid (eLin S C = 5) := Lib.hid (by unfold eLin; rw [if_pos hc0, if_neg (by rw [hlb]; decide)])
      have HV : Hid (vDim S C = 0) := Lib.hid (by unfold vDim; rw [if_neg (by rw [HE.out]; decide)])
      have HA := Lib.hid (askLinear_no ao S cap hn ac C capc hnc hc0 hlb 63 #[] #[] pv _ (hS.below B0) (hC.below B0) hG0)
      clear hc0 hlb hG0
      go_enter Tryz.func15, Tryz.ntmps15
      go_wp2_with fail
      refine HA.out.mono ?_
      rintro e w2 ⟨rfl, hb2⟩
      go_wp2_with fail
      go_ret2
      exact ⟨by rw [HE.out, HV.out]; rfl, B0.trans (hb2.mono B0.size)⟩
  · have HE : Hid (eLin S C = eCode S C) := Lib.hid (by unfold eLin; rw [if_neg hc0])
    have HV : Hid (vDim S C = 0) := Lib.hid (by unfold vDim; rw [if_neg (by rw [HE.out]; exact hc0)])
    have HA := Lib.hid (askLinear_err ao S cap hn ac C capc hnc hc0 63 #[] #[] _ (hS.below B0) (hC.below B0))
    clear hc0 hG0
    go_enter Tryz.func15, Tryz.ntmps15
    go_wp2_with fail
    refine HA.out.mono ?_
    rintro e w2 ⟨rfl, hb2⟩
    go_wp2_with fail
    go_ret2
    exact ⟨by rw [HE.out, HV.out]; rfl, B0.trans (hb2.mono B0.size)⟩

end Go.Proofs.YtcnnijeokefboaaGreatDoor
