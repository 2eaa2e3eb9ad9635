/-
  The contracts of the reaches of a word at a place, in the program and in the model. By an AI agent.
-/
import Derived.Test.YtfgpenldeckoaaaMth9
import Derived.Test.YtfgpenldeckoaaaFar
import Derived.Test.YtfgpenldeckoaaaRep
import Derived.Test.YtfgpenldeckoaaaCounts
import Derived.Deep.RegionHeld3
namespace Go.Proofs.Ytfgpenldeckoaaa
open Go.RowKit Cv
set_option linter.unusedVariables false
set_option linter.unusedSimpArgs false
set_option maxRecDepth 100000

theorem pow_dig {S : List Int} (hSp : Sp S) (x : Int) (i : Nat) (hi : i < S.length) (Q : Nat) (hQ : gi S i = (Q : Int)) : ∃ d : Nat, dig S x i = (d : Int) ∧ d < Q := by
  have h := dig_bd S x hSp.bd i hi
  exact ⟨(dig S x i).toNat, (Int.toNat_of_nonneg h.1).symm, by omega⟩

set_option maxHeartbeats 1000000 in
theorem reaches_any (ao : Option Addr) (S : List Int) (cap : Nat) (hSp : Sp S) (base P g : Nat) (T U : List Int) (K : Nat) (hK : K = T.length) (hT : T.length ≤ 1048576) (i : Nat) (hi : i < S.length) (Q : Nat) (hQ : Hid (gi S i = (Q : Int))) (x : Int) (ad : Option Addr) (n c : Nat) (hn : n = S.length) (w : World) (hS : Ints w ao S) (hp : PartsAt w base P g S T U) (hD : Ints w ad (digs S x)) :
    Calls Try.prog 49 #[.agg #[.slice ao S.length cap], .slice (some ⟨P, 0, none⟩) K K, .int .i64 (i : Int), .slice ad n c] w fun e w' =>
      ∃ q, e = .returned (.slice (some ⟨q, 0, none⟩) Q Q) ∧ OwnInts w' w.heap.size (.slice (some ⟨q, 0, none⟩) Q Q) (rcL S T i x T.length) ∧ Below w.heap.size w w' := by
  subst hK
  subst hn
  have hs8 := hSp.hi
  have HSp := Lib.hid hSp
  have hq := hSp.bd i hi
  rw [hQ.out] at hq
  have q1 : 1 ≤ Q := by omega
  have q2 : Q ≤ 8 := by omega
  have hQt : (gi S i).toNat = Q := by rw [hQ.out]; rfl
  have HQt := Lib.hid hQt
  obtain ⟨b, o, rfl, hbl, hc⟩ := hS.at hi
  have hci := hc i hi
  rw [hQ.out] at hci
  have hck : ((w.alloc (.cells #[.slice (some ⟨b, o, none⟩) S.length cap] 28)).alloc (.cells #[.int .i64 ((S.length : Int) + 1)] 2)).cell? ⟨b, o + i, none⟩ = some (.int .i64 (Q : Int)) := kept_cell (show Below w.heap.size w _ by go_grown) hci hbl
  have hi1 : (i : Int) < (S.length : Int) := by omega
  clear hc hci hSp hq hQt
  go_enter Try.func49, Try.ntmps49
  go_wp2_with fail
  have hcn := cell_new (w.alloc (.cells #[.slice (some ⟨b, o, none⟩) S.length cap] 28)) (.int .i64 ((S.length : Int) + 1)) 2
  rw [World.size_alloc] at hcn
  refine (repeat_any (w.heap.size + 1) ((S.length : Int) + 1) Q ⟨q1, q2⟩ _ (by simp) hcn).mono ?_
  rintro e w1 ⟨q, rfl, hown, hb⟩
  have B1 : Below w.heap.size w w1 := Below.trans (by go_grown) (hb.mono (by simp; omega))
  replace hown : OwnInts w1 w.heap.size (.slice (some ⟨q, 0, none⟩) Q Q) (rcL S T i x 0) := by
    rw [rcL_zero, HQt.out]; exact hown.rebase (by simp; omega)
  clear hb hck hcn
  go_wp2_with fail
  go_loopw [27] (fun j wr => ∃ k : Nat, k ≤ T.length ∧ j = .int .i64 k ∧ OwnInts wr w.heap.size (.slice (some ⟨q, 0, none⟩) Q Q) (rcL S T i x k) ∧ Below w.heap.size w wr) (fun j _ => T.length - (intOf j).toNat)
  case atStart => exact ⟨0, Nat.zero_le _, rfl, hown, B1⟩
  case round =>
    clear hown B1
    obtain ⟨k, hk, rfl, hown, B⟩ := hrel
    by_cases hlt : k < T.length
    · have hrk := kept_cell B (hp.row k hlt) hp.pl
      have hik := (hp.ints hlt).below B
      have hxd := hD.below B
      obtain ⟨d, hd, hdQ⟩ := pow_dig HSp.out (gi T k) i hi Q hQ.out
      have hcd : wr.cell? ⟨g, k * S.length + i, none⟩ = some (.int .i64 (d : Int)) := by
        rcases hik with h | ⟨b', o', e, _, h⟩
        · rw [digs_length] at h; omega
        · simp only [Option.some.injEq, Addr.mk.injEq, and_true] at e
          obtain ⟨rfl, rfl⟩ := e
          rw [h i (by rw [digs_length]; exact hi), gi_digs _ _ _ hi, hd]
      obtain ⟨d1, d2⟩ := dist_bd S x (gi T k)
      obtain ⟨D, hDD⟩ : ∃ D : Nat, dist S x (gi T k) = (D : Int) := ⟨_, (Int.toNat_of_nonneg d1).symm⟩
      obtain ⟨r1, r2⟩ := rcK_bd S T i x (d : Int) k
      have hcell := hown.cell (k := d) (by rw [rcL_len, HQt.out]; exact hdQ)
      rw [gi_rcL _ _ _ _ _ _ (by rw [HQt.out]; exact hdQ)] at hcell
      have hfree := hown.free d
      have HL := Lib.hid (rcL_step S T i x k d (by rw [HQt.out]; exact hdQ) hd)
      rw [hDD] at HL d1 d2
      obtain ⟨r, hr⟩ : ∃ r, r = rcK S T i x (d : Int) k := ⟨_, rfl⟩
      rw [← hr] at hcell HL r1 r2
      have HDD := Lib.hid hDD
      have hd0 : (0 : Int) ≤ (d : Int) := by omega
      have hdq : (d : Int) < (Q : Int) := by omega
      obtain ⟨hgb, hgl⟩ := hown.base_le
      clear hr hd hDD d1 d2
      obtain ⟨L, hL⟩ : ∃ L, L = rcL S T i x k := ⟨_, rfl⟩
      rw [← hL] at hown HL
      have HLn : Hid (L.length = Q) := Lib.hid (by rw [hL, rcL_len, HQt.out])
      clear hL
      go_wp2_with fail
      go_region_law (first | (go_simp; go_at_call 92; refine (differences_nat _ _ S x (gi T k) _ _ _ hs8 D HDD (hD.below B.drew) ((hp.ints hlt).below B.drew)).mono ?_; rintro e w3 ⟨rfl, hb3'⟩; have hb3 : Below wr.heap.size wr w3 := (Below.refl _ wr).drew.trans hb3'; have own3 := hown.below hb3; have hcell3 := kept_cell hb3 hcell hgl; have hfree3 := own3.free d))
      all_goals
        go_wp2
        go_roundw
        case rel => exact ⟨k + 1, by omega, by go_num, by rw [HL.out]; exact own3.stored d _, (B.trans (hb3.mono B.size)).setCell (by simp; omega) _⟩
        case measure => simp [intOf]; omega
    · have ek : k = T.length := by omega
      subst ek
      go_wp2_with fail
      go_ret
      exact ⟨q, rfl, hown, B⟩

set_option maxHeartbeats 1000000 in
theorem l09Reaches_any (ao : Option Addr) (S : List Int) (cap : Nat) (hSp : Sp S) (ac : Option Addr) (C : List Int) (capc : Nat) (hnc : C.length ≤ 1048576) (hC0 : ∀ k, k < C.length → 0 ≤ gi C k ∧ gi C k ≤ 9223372036854775807) (i : Nat) (hi : i < S.length) (Q : Nat) (hQ : Hid (gi S i = (Q : Int))) (x : Int) (hx : 0 ≤ x ∧ x ≤ 9223372036854775807) (w : World) (hS : Ints w ao S) (hC : Ints w ac C) :
    Calls Try.prog 45 #[.agg #[.slice ao S.length cap], .slice ac C.length capc, .int .i64 (i : Int), .int .i64 x] w fun e w' =>
      ∃ q, e = .returned (.slice (some ⟨q, 0, none⟩) Q Q) ∧ OwnInts w' w.heap.size (.slice (some ⟨q, 0, none⟩) Q Q) (rcL S C i x C.length) ∧ Below w.heap.size w w' := by
  obtain ⟨i0, hi', hz0, hz1, hz2⟩ := info_parts infoI64
  have hs8 := hSp.hi
  have HSp := Lib.hid hSp
  have hq := hSp.bd i hi
  rw [hQ.out] at hq
  have q1 : 1 ≤ Q := by omega
  have q2 : Q ≤ 8 := by omega
  have hQt : (gi S i).toNat = Q := by rw [hQ.out]; rfl
  have HQt := Lib.hid hQt
  obtain ⟨b, o, rfl, hbl, hc⟩ := hS.at hi
  have hci := hc i hi
  rw [hQ.out] at hci
  have hck : (w.alloc (.cells #[.slice (some ⟨b, o, none⟩) S.length cap] 28)).cell? ⟨b, o + i, none⟩ = some (.int .i64 (Q : Int)) := kept_cell (show Below w.heap.size w _ by go_grown) hci hbl
  have hi1 : (i : Int) < (S.length : Int) := by omega
  have c0 := cell_new w (.slice (some ⟨b, o, none⟩) S.length cap) 28
  have HC0 := Lib.hid hC0
  clear hc hci hSp hq hQt hC0
  go_enter Try.func45, Try.ntmps45
  go_wp2_with (at_make; refine wpList_make_full _ rfl _ _ 22 rfl (w.heap.size + 1) 2 i0 (.int .i64 0) 1 Try.underlying22 hi' hz0 hz1 .i64 .i64 _ _ Q rfl rfl rfl rfl (by rw [hz2]; omega) (by unfold maxLen; omega) (by simp) ?_; intro w1 hown hgrow)
  replace hown := (own_made hown).rebase (base' := w.heap.size) (by omega)
  rw [World.size_alloc] at hown
  have c1 := kept_cell (below_grown0 hgrow) c0 (by simp)
  have B1 : Below w.heap.size w w1 := Below.trans (by go_grown) ((below_grown0 hgrow).mono (by simp))
  have l1 : w.heap.size < w1.heap.size := by have := hown.base_le; omega
  clear c0 hgrow hck
  have hq1 := hown.base_le.2
  go_loopw [21] (fun j wr => ∃ (k : Nat) (L : List Int), k ≤ Q ∧ j = .int .i64 k ∧ OwnInts wr w.heap.size (.slice (some ⟨w.heap.size + 1, 0, none⟩) Q Q) L ∧ Hid (L.length = Q ∧ ∀ m, m < k → gi L m = (S.length : Int) + 1) ∧ wr.cell? ⟨w.heap.size, 0, none⟩ = some (.slice (some ⟨b, o, none⟩) S.length cap) ∧ w.heap.size < wr.heap.size ∧ Below w.heap.size w wr) (fun j _ => Q - (intOf j).toNat)
  case atStart => exact ⟨0, List.replicate Q 0, Nat.zero_le _, rfl, hown, Lib.hid ⟨by simp, fun m h => by omega⟩, c1, l1, B1⟩
  case round =>
    clear hown c1 l1 B1
    obtain ⟨k, L, hk, rfl, hown, HL, c, l, B⟩ := hrel
    by_cases hlt : k < Q
    · have hcell := hown.cell (k := k) (by rw [HL.out.1]; exact hlt)
      have hfree := hown.free k
      go_wp2_with fail
      go_roundw
      case rel =>
        refine ⟨k + 1, _, by omega, by go_num, hown.stored k _, Lib.hid ⟨by rw [List.length_set]; exact HL.out.1, fun m hm => ?_⟩, cell_set_other c (by simp), by simpa using l, B.setCell (by simp) _⟩
        rw [gi_set _ _ _ _ (by rw [HL.out.1]; exact hlt)]
        by_cases e : m = k
        · rw [if_pos e]
        · rw [if_neg e]; exact HL.out.2 m (by omega)
      case measure => simp [intOf]; omega
    · have hL0 : L = rcL S C i x 0 := by
        rw [rcL_zero, HQt.out]
        refine ext_gi (by rw [HL.out.1]; simp) fun m hm => ?_
        rw [HL.out.1] at hm
        rw [HL.out.2 m (by omega), gi_lt _ _ (by simpa using hm)]; simp
      rw [hL0] at hown
      clear hL0
      go_wp2_with fail
      go_loopw [34] (fun j wr => ∃ k : Nat, k ≤ C.length ∧ j = .int .i64 k ∧ OwnInts wr w.heap.size (.slice (some ⟨w.heap.size + 1, 0, none⟩) Q Q) (rcL S C i x k) ∧ wr.cell? ⟨w.heap.size, 0, none⟩ = some (.slice (some ⟨b, o, none⟩) S.length cap) ∧ w.heap.size < wr.heap.size ∧ Below w.heap.size w wr) (fun j _ => C.length - (intOf j).toNat)
      case atStart => exact ⟨0, Nat.zero_le _, rfl, hown, c, l, B⟩
      case round =>
        clear hown c l B HL
        obtain ⟨k, hk, rfl, hown, c, l, B⟩ := hrel
        by_cases hlc : k < C.length
        · obtain ⟨b', o', rfl, hbl', hc'⟩ := hC.at hlc
          have hkc := kept_cell B (hc' k hlc) hbl'
          obtain ⟨y1, y2⟩ := HC0.out k hlc
          obtain ⟨d, hd, hdQ⟩ := pow_dig HSp.out (gi C k) i hi Q hQ.out
          obtain ⟨d1, d2⟩ := dist_bd S x (gi C k)
          obtain ⟨D, hDD⟩ : ∃ D : Nat, dist S x (gi C k) = (D : Int) := ⟨_, (Int.toNat_of_nonneg d1).symm⟩
          obtain ⟨r1, r2⟩ := rcK_bd S C i x (d : Int) k
          have hcell := hown.cell (k := d) (by rw [rcL_len, HQt.out]; exact hdQ)
          rw [gi_rcL _ _ _ _ _ _ (by rw [HQt.out]; exact hdQ)] at hcell
          have HL := Lib.hid (rcL_step S C i x k d (by rw [HQt.out]; exact hdQ) hd)
          rw [hDD] at HL d1 d2
          obtain ⟨r, hr⟩ : ∃ r, r = rcK S C i x (d : Int) k := ⟨_, rfl⟩
          rw [← hr] at hcell HL r1 r2
          have HDD := Lib.hid hDD
          have HD1 := Lib.hid hd
          have hd0 : (0 : Int) ≤ (d : Int) := by omega
          have hdq : (d : Int) < (Q : Int) := by omega
          obtain ⟨hgb, hgl⟩ := hown.base_le
          clear hr hd hDD d1 d2 hc'
          obtain ⟨L2, hL2⟩ : ∃ L2, L2 = rcL S C i x k := ⟨_, rfl⟩
          rw [← hL2] at hown HL
          clear hL2
          go_wp2_with fail
          refine wp_region_held_drew (S := fun w' => w'.cell? ⟨w.heap.size, 0, none⟩ = some (.slice (some ⟨b, o, none⟩) S.length cap) ∧ w'.cell? ⟨b', o' + k, none⟩ = some (.int .i64 (gi C k))) (by kernel_rfl) (⟨c, hkc⟩) (fun hHeld => ?_)
          refine wpAnyH_take (i := 0) (v := ?_) rfl (by kernel_rfl) (by kernel_rfl) (by kernel_rfl) (fun _ _ _ h => h) (Or.inl ⟨by rfl, ?_⟩) (by assumption) ?_
          rotate_left
          · (intro w hSw; obtain ⟨hSw0, hSw1⟩ := hSw; (try dsimp only at hSw0 hSw1); go_simp; try (with_reducible rfl))
          (try simp only [Act.put, List.setIfInBounds_toArray, List.set_cons_zero, List.set_cons_succ, List.getElem_toArray, List.getElem_cons_succ, List.getElem_cons_zero])
          refine wpAnyH_take (i := 1) (v := ?_) rfl (by kernel_rfl) (by kernel_rfl) (by kernel_rfl) (fun _ _ _ h => h) (Or.inl ⟨by rfl, ?_⟩) (by assumption) ?_
          rotate_left
          · (intro w hSw; obtain ⟨hSw0, hSw1⟩ := hSw; (try dsimp only at hSw0 hSw1); go_simp; try (with_reducible rfl))
          (try simp only [Act.put, List.setIfInBounds_toArray, List.set_cons_zero, List.set_cons_succ, List.getElem_toArray, List.getElem_cons_succ, List.getElem_cons_zero])
          refine wpAnyH_take (i := 2) (v := ?_) rfl (by kernel_rfl) (by kernel_rfl) (by kernel_rfl) (fun _ _ _ h => h) (Or.inl ⟨by rfl, ?_⟩) (by assumption) ?_
          rotate_left
          · (intro w hSw; obtain ⟨hSw0, hSw1⟩ := hSw; (try dsimp only at hSw0 hSw1); go_simp; try (with_reducible rfl))
          (try simp only [Act.put, List.setIfInBounds_toArray, List.set_cons_zero, List.set_cons_succ, List.getElem_toArray, List.getElem_cons_succ, List.getElem_cons_zero])
          refine wpAnyH_take (i := 3) (v := ?_) rfl (by kernel_rfl) (by kernel_rfl) (by kernel_rfl) (fun _ _ _ h => h) (Or.inl ⟨by rfl, ?_⟩) (by assumption) ?_
          rotate_left
          · (intro w hSw; obtain ⟨hSw0, hSw1⟩ := hSw; (try dsimp only at hSw0 hSw1); go_simp; try (with_reducible rfl))
          (try simp only [Act.put, List.setIfInBounds_toArray, List.set_cons_zero, List.set_cons_succ, List.getElem_toArray, List.getElem_cons_succ, List.getElem_cons_zero])
          refine wpAnyH_take (i := 4) (v := ?_) rfl (by kernel_rfl) (by kernel_rfl) (by kernel_rfl) (fun _ _ _ h => h) (Or.inl ⟨by rfl, ?_⟩) (by assumption) ?_
          rotate_left
          · (intro w hSw; obtain ⟨hSw0, hSw1⟩ := hSw; (try dsimp only at hSw0 hSw1); go_simp; try (with_reducible rfl))
          (try simp only [Act.put, List.setIfInBounds_toArray, List.set_cons_zero, List.set_cons_succ, List.getElem_toArray, List.getElem_cons_succ, List.getElem_cons_zero])
          refine wpAnyH_take (i := 6) (v := ?_) rfl (by kernel_rfl) (by kernel_rfl) (by kernel_rfl) (fun _ _ _ h => h) (Or.inl ⟨by rfl, ?_⟩) (by assumption) ?_
          rotate_left
          · (intro w hSw; obtain ⟨hSw0, hSw1⟩ := hSw; (try dsimp only at hSw0 hSw1); go_simp; try (with_reducible rfl))
          (try simp only [Act.put, List.setIfInBounds_toArray, List.set_cons_zero, List.set_cons_succ, List.getElem_toArray, List.getElem_cons_succ, List.getElem_cons_zero])
          refine wpAnyH_ready (rs := [5]) (by kernel_rfl) (by simp) ?_
          refine AllReadyH.cons rfl (fun K hK => ?_) AllReadyH.nil
          go_simp
          (go_at_call 83; refine (l01Digits_any _ S cap hs8 HSp.out.bd (gi C k) y1 y2 _ (hS.below B.drew)).mono ?_)
          rintro e w4 ⟨g4, rfl, own4, hb4'⟩
          have hb4 : Below wr.heap.size wr w4 := (Below.refl _ wr).drew.trans hb4'
          have k1 := kept_cell hb4 c l
          have k2 := kept_cell hb4 hkc (lt_of_below B hbl')
          have hd4 := own4.cell (k := i) (by rw [digs_length]; exact hi)
          rw [gi_digs _ _ _ hi, HD1.out] at hd4
          refine hK.out _ _ (⟨k1, k2⟩) (fun hHeld => ?_)
          clear hK K
          (try simp only [Act.put, List.setIfInBounds_toArray, List.set_cons_zero, List.set_cons_succ, List.getElem_toArray, List.getElem_cons_succ, List.getElem_cons_zero])
          refine wpAnyH_take (i := 7) (v := ?_) rfl (by kernel_rfl) (by kernel_rfl) (by kernel_rfl) (fun _ _ _ h => h) (Or.inl ⟨by rfl, ?_⟩) (by assumption) ?_
          rotate_left
          · (intro w hSw; obtain ⟨hSw0, hSw1⟩ := hSw; (try dsimp only at hSw0 hSw1); go_simp; try (with_reducible rfl))
          (try simp only [Act.put, List.setIfInBounds_toArray, List.set_cons_zero, List.set_cons_succ, List.getElem_toArray, List.getElem_cons_succ, List.getElem_cons_zero])
          refine wpAnyH_ready (rs := [8]) (by kernel_rfl) (by simp) ?_
          refine AllReadyH.cons rfl (fun K hK => ?_) AllReadyH.nil
          go_simp
          refine hK.out _ _ (⟨k1, k2⟩) (fun hHeld => ?_)
          clear hK K
          (try simp only [Act.put, List.setIfInBounds_toArray, List.set_cons_zero, List.set_cons_succ, List.getElem_toArray, List.getElem_cons_succ, List.getElem_cons_zero])
          refine wpAnyH_take (i := 9) (v := ?_) rfl (by kernel_rfl) (by kernel_rfl) (by kernel_rfl) (fun _ _ _ h => h) (Or.inl ⟨by rfl, ?_⟩) (by assumption) ?_
          rotate_left
          · (intro w hSw; obtain ⟨hSw0, hSw1⟩ := hSw; (try dsimp only at hSw0 hSw1); go_simp; try (with_reducible rfl))
          (try simp only [Act.put, List.setIfInBounds_toArray, List.set_cons_zero, List.set_cons_succ, List.getElem_toArray, List.getElem_cons_succ, List.getElem_cons_zero])
          refine wpAnyH_done (by kernel_rfl) ?_ _
          (try simp only [Act.put, List.setIfInBounds_toArray, List.set_cons_zero, List.set_cons_succ, List.getElem_toArray, List.getElem_cons_succ, List.getElem_cons_zero])
          go_wp2_with fail
          have own4' := hown.below hb4
          have B4 := B.trans (hb4.mono B.size)
          have l4 := lt_of_below hb4 l
          have hcell4 := kept_cell hb4 hcell hgl
          have hgl4 := lt_of_below hb4 hgl
          clear hown c hkc hb4 hb4' hcell own4 hd4 B l hgl
          go_region_law (first | (go_simp; go_at_call 89; refine (l01Distance_nat _ S cap hs8 HSp.out.bd x (gi C k) hx.1 hx.2 y1 y2 D HDD _ (hS.below B4.drew)).mono ?_; rintro e w3 ⟨rfl, hb3'⟩; have hb3 : Below w4.heap.size w4 w3 := (Below.refl _ w4).drew.trans hb3'; have own3 := own4'.below hb3; have hcell3 := kept_cell hb3 hcell4 hgl4; have hfree3 := own3.free d))
          all_goals
            go_wp2
            go_roundw
            case rel => exact ⟨k + 1, by omega, by go_num, by rw [HL.out]; exact own3.stored d _, cell_set_other (kept_cell hb3 k1 l4) (by simp), by simpa using lt_of_below hb3 l4, (B4.trans (hb3.mono B4.size)).setCell (by simp) _⟩
            case measure => simp [intOf]; omega
        · have ek : k = C.length := by omega
          subst ek
          go_wp2_with fail
          go_ret
          exact ⟨_, rfl, hown, B⟩

end Go.Proofs.Ytfgpenldeckoaaa
