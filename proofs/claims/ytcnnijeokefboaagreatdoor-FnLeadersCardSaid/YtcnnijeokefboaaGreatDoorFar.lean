/-
  The contracts of the program's distances from a code: lists of distances, least ones, the farthest word. By an AI agent.
-/
import Derived.Test.YtcnnijeokefboaaGreatDoorErr2
import Derived.Test.YtcnnijeokefboaaGreatDoorSums2
import Derived.Test.YtcnnijeokefboaaGreatDoorFam
import Derived.Deep.RegionWith
namespace Go.Proofs.YtcnnijeokefboaaGreatDoor
open Go.RowKit Cv
set_option linter.unusedVariables false
set_option linter.unusedSimpArgs false
set_option maxRecDepth 100000

theorem PartsAt.below {w w' : World} {base P g : Nat} {S T U : List Int} (h : PartsAt w base P g S T U) (hb : Below w.heap.size w w') : PartsAt w' base P g S T U :=
  ⟨h.len, h.dg, h.own.below hb, fun k hk => kept_cell hb (h.row k hk) h.pl, h.bp, Nat.lt_of_lt_of_le h.pl hb.size, h.ne⟩

/-- the digits of one word -/
theorem digitParts_1 (ao : Option Addr) (S : List Int) (cap : Nat) (hSp : Sp S) (x : Int) (hx : 0 ≤ x) (hx2 : x ≤ 9223372036854775807) (a1 : Option Addr) (c1 : Nat) (w : World) (hS : Ints w ao S) (hT : Ints w a1 [x]) :
    Calls Tryz.prog 120 #[.agg #[.slice ao S.length cap], .slice a1 1 c1] w fun e w' =>
      ∃ P g, e = .returned (.slice (some ⟨P, 0, none⟩) 1 1) ∧ w'.cell? ⟨P, 0, none⟩ = some (.slice (some ⟨g, 0, none⟩) S.length S.length) ∧ OwnInts w' w.heap.size (.slice (some ⟨g, 0, none⟩) S.length S.length) (digs S x) ∧ P < w'.heap.size ∧ Below w.heap.size w w' := by
  refine (digitParts_n ao S cap hSp.lo hSp.hi hSp.bd a1 [x] 1 c1 rfl (by omega) (by intro i hi; match i, hi with | 0, _ => exact ⟨hx, hx2⟩) w hS hT).mono ?_
  rintro e w' ⟨P, g, U, rfl, hp, hb⟩
  have r0 := hp.row 0 (by simp)
  rw [Nat.zero_mul] at r0
  have hl : U.length = S.length := by rw [hp.len]; simp
  have hU : U = digs S x := ext_gi (by rw [hl, digs_length]) fun i hi => by
    have := hp.dg 0 i (by simp) (by omega)
    rw [Nat.zero_mul, Nat.zero_add] at this
    rw [this, gi_digs _ _ _ (by omega)]; rfl
  have ho := hp.own
  rw [hl, hU] at ho
  exact ⟨P, g, rfl, r0, ho, hp.pl, hb⟩

theorem Min_any (ao : Option Addr) (D : List Int) (n cap : Nat) (hn : n = D.length) (h1 : 1 ≤ D.length) (h2 : D.length ≤ 4294967296) (m : Int) (hm : Hid (minTo (gi D) (D.length - 1) = m)) (w : World) (h : Ints w ao D) :
    Calls Tryz.prog 133 #[.slice ao n cap] w fun e w' => e = .returned (.int .i64 m) ∧ w = w' := by
  subst hn
  obtain ⟨b, o, rfl, hb, hc⟩ := h.at (i := 0) (by omega)
  have c0 : w.cell? ⟨b, o, none⟩ = some (.int .i64 (gi D 0)) := by simpa using hc 0 (by omega)
  go_enter Tryz.func133, Tryz.ntmps133
  go_wp2
  go_loop [3, 4] (fun t i => ∃ k : Nat, 1 ≤ k ∧ k ≤ D.length ∧ i = .int .i64 k ∧ t = .int .i64 (minTo (gi D) (k - 1))) (fun _ i => D.length - (intOf i).toNat)
  case atStart => exact ⟨1, Nat.le_refl _, h1, rfl, rfl⟩
  case round =>
    obtain ⟨k, hk1, hk, rfl, rfl⟩ := hrel
    by_cases hlt : k < D.length
    · have hck := hc k hlt
      have HM := Lib.hid (minTo_if (gi D) k hk1)
      clear hc c0
      go_wp2
      go_round
      case rel => exact ⟨k + 1, by omega, by omega, by go_num, by rw [HM.out]; rfl⟩
      case measure => simp [intOf]; omega
    · have ek : k = D.length := by omega
      clear hc c0
      go_wp2
      go_ret
      exact ⟨ret_int (by rw [← hm.out]), rfl⟩

set_option maxHeartbeats 1000000 in
theorem distancesFrom_any (S : List Int) (hhi : S.length ≤ 8) (x : Int) (ad : Option Addr) (n c : Nat) (hnS : n = S.length) (base P g : Nat) (T U : List Int) (K : Nat) (hK : K = T.length) (hT : T.length ≤ 1048576) (w : World) (hD : Ints w ad (digs S x)) (hp : PartsAt w base P g S T U) :
    Calls Tryz.prog 134 #[.slice ad n c, .slice (some ⟨P, 0, none⟩) K K] w fun e w' =>
      ∃ q, e = .returned (.slice (some ⟨q, 0, none⟩) K K) ∧ OwnInts w' w.heap.size (.slice (some ⟨q, 0, none⟩) K K) (dFrom S T x) ∧ Below w.heap.size w w' := by
  subst hnS
  subst hK
  obtain ⟨i0, hi, hz0, hz1, hz2⟩ := info_parts infoI64
  go_enter Tryz.func134, Tryz.ntmps134
  go_wp2_with (at_make; refine wpList_make_full _ rfl _ _ 24 rfl w.heap.size 2 i0 (.int .i64 0) 1 Tryz.underlying24 hi hz0 hz1 .i64 .i64 _ _ T.length rfl rfl rfl rfl (by rw [hz2]; omega) (by unfold maxLen; omega) (Nat.le_refl _) ?_; intro w1 hown hgrow)
  have hbel : Below w.heap.size w w1 := (Below.refl _ _).grown hgrow (Nat.le_refl _) (by intro k h; cases h)
  replace hown := own_made hown
  clear hgrow
  go_loopw [13] (fun i wr => ∃ (k : Nat) (D : List Int), k ≤ T.length ∧ i = .int .i64 k ∧ OwnInts wr w.heap.size (.slice (some ⟨w.heap.size, 0, none⟩) T.length T.length) D ∧ Hid (D.length = T.length ∧ ∀ j, j < k → gi D j = dist S x (gi T j)) ∧ w.heap.size < wr.heap.size ∧ Below w.heap.size w wr)
    (fun i _ => T.length - (intOf i).toNat)
  case atStart => exact ⟨0, _, Nat.zero_le _, rfl, hown, Lib.hid ⟨by simp, fun j h => by omega⟩, by have := hown.base_le; omega, hbel⟩
  case round =>
    clear hown hbel
    obtain ⟨k, D, hk, rfl, hown, HD, hlw, B⟩ := hrel
    by_cases hlt : k < T.length
    · have hrk := kept_cell B (hp.row k hlt) hp.pl
      have hik := hp.ints hlt
      have HF := Lib.hid (diff_digs S x (gi T k))
      go_wp2_with fail
      refine (differences_any _ _ (digs S x) (digs S (gi T k)) S.length _ S.length _ _ (by omega) (digs_length _ _) (digs_length _ _) (Nat.le_refl _) (hD.below B) (hik.below B)).mono ?_
      rintro e w3 ⟨rfl, hb3⟩
      rw [HF.out]
      replace hown := hown.below hb3
      replace B := B.trans (hb3.mono B.size)
      have hcell := hown.cell (k := k) (by rw [HD.out.1]; exact hlt)
      have hfree := hown.free k
      have hlw3 : w.heap.size < w3.heap.size := Nat.lt_of_lt_of_le hlw hb3.size
      clear hb3 hrk
      go_wp2
      go_roundw
      case rel =>
        refine ⟨k + 1, _, by omega, by go_num, hown.stored k (dist S x (gi T k)), Lib.hid ⟨by rw [List.length_set]; exact HD.out.1, ?_⟩, by simpa using hlw3, B.setCell (by simp) _⟩
        intro j hj
        rw [gi_set _ _ _ _ (by rw [HD.out.1]; exact hlt)]
        by_cases e : j = k
        · rw [if_pos e, e]
        · rw [if_neg e]; exact HD.out.2 j (by omega)
      case measure => simp [intOf]; omega
    · go_wp2
      go_ret
      have e : D = dFrom S T x := ext_gi (by rw [HD.out.1, dFrom_len]) fun i hi => by rw [HD.out.1] at hi; rw [HD.out.2 i (by omega), gi_dFrom _ _ _ _ hi]
      rw [e] at hown
      exact ⟨_, rfl, hown, B⟩

end Go.Proofs.YtcnnijeokefboaaGreatDoor
