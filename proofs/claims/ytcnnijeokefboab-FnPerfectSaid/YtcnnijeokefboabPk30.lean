/-
  Texts put together: Err2, Far. By an AI agent.
-/
import Derived.Test.YtcnnijeokefboabPk20
import Derived.Test.YtcnnijeokefboabPk18
import Derived.Test.YtcnnijeokefboabPk11
import Derived.Deep.RegionWith
namespace Go.Proofs.Ytcnnijeokefboab
open Go.RowKit Cv
set_option linter.unusedVariables false
set_option linter.unusedSimpArgs false
set_option maxRecDepth 100000

set_option maxHeartbeats 1000000 in
theorem ballError_any (ao : Option Addr) (S : List Int) (cap : Nat) (hn : S.length ≤ 4294967296) (x r : Int) (w : World) (hS : Ints w ao S) :
    Calls Try.prog 61 #[.agg #[.slice ao S.length cap], .int .i64 x, .int .i64 r] w fun e w' => e = .returned (.int .i64 (eBall S x r)) ∧ Below w.heap.size w w' := by
  have B0 : Below w.heap.size w (w.alloc (.cells #[.slice ao S.length cap] 26)) := by go_grown
  have B1 : Below w.heap.size w ((w.alloc (.cells #[.slice ao S.length cap] 26)).alloc (.cells #[.int .i64 x] 2)) := by go_grown
  by_cases hz : eWords S [x] = 0
  · have hzb : (eWords S [x] == 0) = true := by simp [hz]
    by_cases h1 : r < 0
    · have HE : Hid (eBall S x r = 2) := Lib.hid (by unfold eBall; rw [if_pos hz, if_neg (by omega)])
      have hd : decide (r < 0) = true := by simpa using h1
      clear hz
      go_enter Try.func61, Try.ntmps61
      go_wp2_with fail
      refine (wordsError_n ao S cap hn _ [x] 1 _ rfl (by omega) _ (hS.below B1) (ints_new1 _ x _ (by simp))).mono ?_
      rintro e w1 ⟨rfl, hb⟩
      go_wp2_with fail
      go_ret
      exact ⟨ret_int HE.out.symm, B1.trans (hb.mono B1.size)⟩
    · by_cases h2 : 8 < r
      · have HE : Hid (eBall S x r = 2) := Lib.hid (by unfold eBall; rw [if_pos hz, if_neg (by omega)])
        have hd : decide (r < 0) = false := by simpa using h1
        have hd2 : decide (8 < r) = true := by simpa using h2
        clear hz
        go_enter Try.func61, Try.ntmps61
        go_wp2_with fail
        refine (wordsError_n ao S cap hn _ [x] 1 _ rfl (by omega) _ (hS.below B1) (ints_new1 _ x _ (by simp))).mono ?_
        rintro e w1 ⟨rfl, hb⟩
        go_wp2_with fail
        go_ret
        exact ⟨ret_int HE.out.symm, B1.trans (hb.mono B1.size)⟩
      · have HE : Hid (eBall S x r = eWords S [x]) := Lib.hid (by unfold eBall; rw [if_pos hz, if_pos (by omega), hz])
        have hd : decide (r < 0) = false := by simpa using h1
        have hd2 : decide (8 < r) = false := by simpa using h2
        clear hz
        go_enter Try.func61, Try.ntmps61
        go_wp2_with fail
        refine (wordsError_n ao S cap hn _ [x] 1 _ rfl (by omega) _ (hS.below B1) (ints_new1 _ x _ (by simp))).mono ?_
        rintro e w1 ⟨rfl, hb⟩
        go_wp2_with fail
        go_ret
        exact ⟨ret_int HE.out.symm, B1.trans (hb.mono B1.size)⟩
  · have hzb : (eWords S [x] == 0) = false := by simpa using hz
    have HE : Hid (eBall S x r = eWords S [x]) := Lib.hid (by unfold eBall; rw [if_neg hz])
    clear hz
    go_enter Try.func61, Try.ntmps61
    go_wp2_with fail
    refine (wordsError_n ao S cap hn _ [x] 1 _ rfl (by omega) _ (hS.below B1) (ints_new1 _ x _ (by simp))).mono ?_
    rintro e w1 ⟨rfl, hb⟩
    go_wp2_with fail
    go_ret
    exact ⟨ret_int HE.out.symm, B1.trans (hb.mono B1.size)⟩

set_option maxHeartbeats 1000000 in
theorem l02Code_any (ao : Option Addr) (S : List Int) (cap : Nat) (hn : S.length ≤ 4294967296) (ac : Option Addr) (C : List Int) (capc : Nat) (hnc : C.length ≤ 4294967296) (r : Int) (w : World) (hS : Ints w ao S) (hC : Ints w ac C) :
    Calls Try.prog 33 #[.agg #[.slice ao S.length cap], .slice ac C.length capc, .int .i64 r] w fun e w' => e = .returned (.int .i64 (eCov S C r)) ∧ Below w.heap.size w w' := by
  have B0 : Below w.heap.size w (w.alloc (.cells #[.slice ao S.length cap] 26)) := by go_grown
  by_cases hz : eCode S C = 0
  · have hzb : (eCode S C == 0) = true := by simp [hz]
    by_cases hr : 0 ≤ r ∧ r ≤ 8
    · have HE : Hid (eCov S C r = eCode S C) := Lib.hid (by rw [eCov_ok hz hr.1 hr.2, hz])
      have B2 := inB_true (n := r) (low := 0) (high := 8) hr.1 hr.2
      clear hz hr
      go_enter Try.func33, Try.ntmps33
      go_wp2_with fail
      refine (l01Given_any ao S cap hn ac C capc hnc _ (hS.below B0) (hC.below B0)).mono ?_
      rintro e w1 ⟨rfl, hb⟩
      go_wp2_with (go_at_call 34; refine (l01In_any _ _ _ _).mono ?_; rintro e w' ⟨rfl, rfl⟩)
      go_ret
      exact ⟨ret_int HE.out.symm, B0.trans (hb.mono B0.size)⟩
    · have HE : Hid (eCov S C r = 2) := Lib.hid (eCov_r hz hr)
      have B2 := inB_false (n := r) (low := 0) (high := 8) hr
      clear hz hr
      go_enter Try.func33, Try.ntmps33
      go_wp2_with fail
      refine (l01Given_any ao S cap hn ac C capc hnc _ (hS.below B0) (hC.below B0)).mono ?_
      rintro e w1 ⟨rfl, hb⟩
      go_wp2_with (go_at_call 34; refine (l01In_any _ _ _ _).mono ?_; rintro e w' ⟨rfl, rfl⟩)
      go_ret
      exact ⟨ret_int HE.out.symm, B0.trans (hb.mono B0.size)⟩
  · have hzb : (eCode S C == 0) = false := by simpa using hz
    have HE : Hid (eCov S C r = eCode S C) := Lib.hid (eCov_bad hz)
    clear hz
    go_enter Try.func33, Try.ntmps33
    go_wp2_with fail
    refine (l01Given_any ao S cap hn ac C capc hnc _ (hS.below B0) (hC.below B0)).mono ?_
    rintro e w1 ⟨rfl, hb⟩
    go_wp2_with (go_at_call 34; refine (l01In_any _ _ _ _).mono ?_; rintro e w' ⟨rfl, rfl⟩)
    go_ret
    exact ⟨ret_int HE.out.symm, B0.trans (hb.mono B0.size)⟩

set_option maxHeartbeats 1000000 in
theorem coverError_any (ao : Option Addr) (S : List Int) (cap : Nat) (hn : S.length ≤ 4294967296) (ac : Option Addr) (C : List Int) (capc : Nat) (hnc : C.length ≤ 4294967296) (r : Int) (at' : Option Addr) (T : List Int) (capt : Nat) (hnt : T.length ≤ 4294967296) (w : World) (hS : Ints w ao S) (hC : Ints w ac C) (hT : Ints w at' T) :
    Calls Try.prog 28 #[.agg #[.slice ao S.length cap], .slice ac C.length capc, .int .i64 r, .slice at' T.length capt] w fun e w' => e = .returned (.int .i64 (eCov2 S C T r)) ∧ Below w.heap.size w w' := by
  go_enter Try.func28, Try.ntmps28
  go_wp2_with fail
  have c0 := cell_new w (.slice ao S.length cap) 26
  have B0 : Below w.heap.size w (w.alloc (.cells #[.slice ao S.length cap] 26)) := by go_grown
  go_region_held3 (fun w' => w'.cell? ⟨w.heap.size, 0, none⟩ = some (.slice ao S.length cap)) (first | exact c0 | exact kept_cell hb1 c0 (lt_alloc _ _) | exact kept_cell hb2 (kept_cell hb1 c0 (lt_alloc _ _)) (lt_of_below hb1 (lt_alloc _ _)) | exact kept_cell hb3 (kept_cell hb1 c0 (lt_alloc _ _)) (lt_of_below hb1 (lt_alloc _ _))) (first | (go_at_call 60; refine (codeAndWordsError_any ao S cap hn ac C capc hnc at' T capt hnt _ (hS.below B0.drew) (hC.below B0.drew) (hT.below B0.drew)).mono ?_; rintro e w1 ⟨rfl, hb1'⟩; have hb1 := (Below.refl _ (w.alloc (.cells #[.slice ao S.length cap] 26))).drew.trans hb1'; have B1 := B0.trans (hb1.mono B0.size)) | (go_at_call 61; refine (ballError_any ao S cap hn 0 r _ (hS.below B1)).mono ?_; rintro e w2 ⟨rfl, hb2⟩; have hb3 := hb2.alloc (o := .cells #[.int .i64 (eCW S C T), .int .i64 (eBall S 0 r)] 2) hb2.size) | (go_at_call 59; refine (cmpOr2 _ (eCW S C T) (eBall S 0 r) _ _ (ints_new2 _ _ _ _ rfl)).mono ?_; rintro e w3 ⟨rfl, rfl⟩))
  go_wp2
  go_ret
  exact ⟨rfl, B1.trans (hb3.mono B1.size)⟩
theorem coverError_n (ao : Option Addr) (S : List Int) (cap : Nat) (hn : S.length ≤ 4294967296) (ac : Option Addr) (C : List Int) (capc : Nat) (hnc : C.length ≤ 4294967296) (r : Int) (at' : Option Addr) (T : List Int) (K capt : Nat) (hK : K = T.length) (hnt : K ≤ 4294967296) (w : World) (hS : Ints w ao S) (hC : Ints w ac C) (hT : Ints w at' T) :
    Calls Try.prog 28 #[.agg #[.slice ao S.length cap], .slice ac C.length capc, .int .i64 r, .slice at' K capt] w fun e w' => e = .returned (.int .i64 (eCov2 S C T r)) ∧ Below w.heap.size w w' := by
  subst hK; exact coverError_any ao S cap hn ac C capc hnc r at' T capt hnt w hS hC hT

end Go.Proofs.Ytcnnijeokefboab

namespace Go.Proofs.Ytcnnijeokefboab
open Go.RowKit Cv
set_option linter.unusedVariables false
set_option linter.unusedSimpArgs false
set_option maxRecDepth 100000

theorem PartsAt.below {w w' : World} {base P g : Nat} {S T U : List Int} (h : PartsAt w base P g S T U) (hb : Below w.heap.size w w') : PartsAt w' base P g S T U :=
  ⟨h.len, h.dg, h.own.below hb, fun k hk => kept_cell hb (h.row k hk) h.pl, h.bp, Nat.lt_of_lt_of_le h.pl hb.size, h.ne⟩

/-- the digits of one word -/
theorem digitParts_1 (ao : Option Addr) (S : List Int) (cap : Nat) (hSp : Sp S) (x : Int) (hx : 0 ≤ x) (hx2 : x ≤ 9223372036854775807) (a1 : Option Addr) (c1 : Nat) (w : World) (hS : Ints w ao S) (hT : Ints w a1 [x]) :
    Calls Try.prog 42 #[.agg #[.slice ao S.length cap], .slice a1 1 c1] w fun e w' =>
      ∃ P g, e = .returned (.slice (some ⟨P, 0, none⟩) 1 1) ∧ w'.cell? ⟨P, 0, none⟩ = some (.slice (some ⟨g, 0, none⟩) S.length S.length) ∧ OwnInts w' w.heap.size (.slice (some ⟨g, 0, none⟩) S.length S.length) (digs S x) ∧ P < w'.heap.size ∧ Below w.heap.size w w' := by
  refine (digitParts_n ao S cap hSp.lo hSp.hi hSp.bd a1 [x] 1 c1 rfl (by omega) (by intro i hi; match i, hi with | 0, _ => exact ⟨hx, hx2⟩) w hS hT).mono ?_
  rintro e w' ⟨P, g, U, rfl, hp, hb⟩
  have r0 := hp.row 0 (by simp)
  rw [Nat.zero_mul] at r0
  have hl : U.length = S.length := by rw [hp.len]; simp
  have hU : U = digs S x := ext_gi (by rw [hl, digs_length]) fun i hi => by
    have := hp.dg 0 i (by simp) (by omega)
    rw [Nat.zero_mul, Nat.zero_add] at this
    rw [this, gi_digs _ _ _ (by omega)]; rfl
  have ho := hp.own
  rw [hl, hU] at ho
  exact ⟨P, g, rfl, r0, ho, hp.pl, hb⟩


set_option maxHeartbeats 1000000 in
theorem distancesFrom_any (S : List Int) (hhi : S.length ≤ 8) (x : Int) (ad : Option Addr) (n c : Nat) (hnS : n = S.length) (base P g : Nat) (T U : List Int) (K : Nat) (hK : K = T.length) (hT : T.length ≤ 1048576) (w : World) (hD : Ints w ad (digs S x)) (hp : PartsAt w base P g S T U) :
    Calls Try.prog 66 #[.slice ad n c, .slice (some ⟨P, 0, none⟩) K K] w fun e w' =>
      ∃ q, e = .returned (.slice (some ⟨q, 0, none⟩) K K) ∧ OwnInts w' w.heap.size (.slice (some ⟨q, 0, none⟩) K K) (dFrom S T x) ∧ Below w.heap.size w w' := by
  subst hnS
  subst hK
  obtain ⟨i0, hi, hz0, hz1, hz2⟩ := info_parts infoI64
  go_enter Try.func66, Try.ntmps66
  go_wp2_with (at_make; refine wpList_make_full _ rfl _ _ 24 rfl w.heap.size 2 i0 (.int .i64 0) 1 Try.underlying24 hi hz0 hz1 .i64 .i64 _ _ T.length rfl rfl rfl rfl (by rw [hz2]; omega) (by unfold maxLen; omega) (Nat.le_refl _) ?_; intro w1 hown hgrow)
  have hbel : Below w.heap.size w w1 := (Below.refl _ _).grown hgrow (Nat.le_refl _) (by intro k h; cases h)
  replace hown := own_made hown
  clear hgrow
  go_loopw [13] (fun i wr => ∃ (k : Nat) (D : List Int), k ≤ T.length ∧ i = .int .i64 k ∧ OwnInts wr w.heap.size (.slice (some ⟨w.heap.size, 0, none⟩) T.length T.length) D ∧ Hid (D.length = T.length ∧ ∀ j, j < k → gi D j = dist S x (gi T j)) ∧ w.heap.size < wr.heap.size ∧ Below w.heap.size w wr)
    (fun i _ => T.length - (intOf i).toNat)
  case atStart => exact ⟨0, _, Nat.zero_le _, rfl, hown, Lib.hid ⟨by simp, fun j h => by omega⟩, by have := hown.base_le; omega, hbel⟩
  case round =>
    clear hown hbel
    obtain ⟨k, D, hk, rfl, hown, HD, hlw, B⟩ := hrel
    by_cases hlt : k < T.length
    · have hrk := kept_cell B (hp.row k hlt) hp.pl
      have hik := hp.ints hlt
      have HF := Lib.hid (diff_digs S x (gi T k))
      go_wp2_with fail
      refine (differences_any _ _ (digs S x) (digs S (gi T k)) S.length _ S.length _ _ (by omega) (digs_length _ _) (digs_length _ _) (Nat.le_refl _) (hD.below B) (hik.below B)).mono ?_
      rintro e w3 ⟨rfl, hb3⟩
      rw [HF.out]
      replace hown := hown.below hb3
      replace B := B.trans (hb3.mono B.size)
      have hcell := hown.cell (k := k) (by rw [HD.out.1]; exact hlt)
      have hfree := hown.free k
      have hlw3 : w.heap.size < w3.heap.size := Nat.lt_of_lt_of_le hlw hb3.size
      clear hb3 hrk
      go_wp2
      go_roundw
      case rel =>
        refine ⟨k + 1, _, by omega, by go_num, hown.stored k (dist S x (gi T k)), Lib.hid ⟨by rw [List.length_set]; exact HD.out.1, ?_⟩, by simpa using hlw3, B.setCell (by simp) _⟩
        intro j hj
        rw [gi_set _ _ _ _ (by rw [HD.out.1]; exact hlt)]
        by_cases e : j = k
        · rw [if_pos e, e]
        · rw [if_neg e]; exact HD.out.2 j (by omega)
      case measure => simp [intOf]; omega
    · go_wp2
      go_ret
      have e : D = dFrom S T x := ext_gi (by rw [HD.out.1, dFrom_len]) fun i hi => by rw [HD.out.1] at hi; rw [HD.out.2 i (by omega), gi_dFrom _ _ _ _ hi]
      rw [e] at hown
      exact ⟨_, rfl, hown, B⟩

end Go.Proofs.Ytcnnijeokefboab
