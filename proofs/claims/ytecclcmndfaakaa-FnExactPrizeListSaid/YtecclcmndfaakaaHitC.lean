/-
  The contracts of the ways of counting: hits and misses of bets. By an AI agent.
-/
import Derived.Test.YtecclcmndfaakaaMathU
import Derived.Test.YtecclcmndfaakaaFar
namespace Go.Proofs.Ytecclcmndfaakaa
open Go.RowKit Cv
set_option linter.unusedVariables false
set_option linter.unusedSimpArgs false
set_option maxRecDepth 100000

/-- what a way of counting gives -/
def wyF (way : Nat) (S : List Int) (x u : Int) : Int := if way = 0 then hitW S u x else dist S u x

theorem misses_any (S : List Int) (hhi : S.length ≤ 8) (u x : Int) (au ax : Option Addr) (n m cu cx : Nat) (hn : n = S.length) (hm : m = S.length) (w : World) (hU : Ints w au (digs S u)) (hX : Ints w ax (digs S x)) :
    Calls Try.prog 101 #[.agg #[.slice au n cu, .slice ax m cx]] w fun e w' => e = .returned (.int .i64 (dist S u x)) ∧ Below w.heap.size w w' := by
  subst hn
  subst hm
  have B0 : Below w.heap.size w (w.alloc (.cells #[.slice au S.length cu, .slice ax S.length cx] 105)) := by go_grown
  have HF := Lib.hid (diff_digs S u x)
  go_enter Try.func101, Try.ntmps101
  go_wp2_with fail
  refine (differences_any au ax (digs S u) (digs S x) S.length cu S.length cx _ (by omega) (digs_length _ _) (digs_length _ _) (Nat.le_refl _) (hU.below B0) (hX.below B0)).mono ?_
  rintro e w1 ⟨rfl, hb⟩
  rw [HF.out]
  go_wp2_with fail
  go_ret
  exact ⟨rfl, B0.trans (hb.mono B0.size)⟩

set_option maxHeartbeats 1000000 in
theorem hits_any (S : List Int) (hhi : S.length ≤ 8) (u x : Int) (au ax : Option Addr) (n m cu cx : Nat) (hn : n = S.length) (hm : m = S.length) (w : World) (hU : Ints w au (digs S u)) (hX : Ints w ax (digs S x)) :
    Calls Try.prog 100 #[.agg #[.slice au n cu, .slice ax m cx]] w fun e w' => e = .returned (.int .i64 (hitW S u x)) ∧ Below w.heap.size w w' := by
  subst hn
  subst hm
  obtain ⟨W, hW⟩ : ∃ W, W = w.alloc (.cells #[.slice au S.length cu, .slice ax S.length cx] 105) := ⟨_, rfl⟩
  have B0 : Below w.heap.size w W := by rw [hW]; go_grown
  have c0 : W.cell? ⟨w.heap.size, 0, none⟩ = some (.slice au S.length cu) := by rw [hW]; simp
  have c1 : W.cell? ⟨w.heap.size, 1, none⟩ = some (.slice ax S.length cx) := by rw [hW]; simp
  have l0 : w.heap.size < W.heap.size := by rw [hW]; exact lt_alloc _ _
  have HW := Lib.hid hW
  clear hW
  have HH : Hid (hitW S u x = (S.length : Int) - dist S u x) := Lib.hid rfl
  obtain ⟨db0, db1⟩ := dist_bd S u x
  obtain ⟨d, hd⟩ : ∃ d, d = dist S u x := ⟨_, rfl⟩
  rw [← hd] at db0 db1 HH
  have HD := Lib.hid hd
  have HE := Lib.hid (show IntKind.i64.wrap ((S.length : Int) - d) = (S.length : Int) - d from IntWalk.i64_in _ ⟨by omega, by omega⟩)
  clear hd
  go_enter Try.func100, Try.ntmps100
  go_wp2_with fail
  rw [← HW.out]
  go_region_held3 (fun w' => w'.cell? ⟨w.heap.size, 0, none⟩ = some (.slice au S.length cu) ∧ w'.cell? ⟨w.heap.size, 1, none⟩ = some (.slice ax S.length cx)) (first | exact ⟨c0, c1⟩ | exact ⟨kept_cell hb c0 l0, kept_cell hb c1 l0⟩) ((go_at_call 101; refine (misses_any S hhi u x au ax _ _ cu cx rfl rfl _ (hU.below B0.drew) (hX.below B0.drew)).mono ?_; rintro e w4 ⟨rfl, hb'⟩; have hb : Below W.heap.size W w4 := (Below.refl W.heap.size W).drew.trans hb'; rw [← HD.out]))
  go_wp2_with fail
  go_ret
  exact ⟨ret_int (by rw [HE.out]; exact HH.out.symm), B0.trans (hb.mono B0.size)⟩

theorem ways_any (w : World) :
    Calls Try.prog 93 #[] w fun e w' => ∃ G, e = .returned (.slice (some ⟨G, 0, none⟩) 2 2) ∧ (w'.cell? ⟨G, 0, none⟩ = some (.func (.func 100) #[] #[]) ∧ w'.cell? ⟨G, 1, none⟩ = some (.func (.func 101) #[] #[])) ∧ Below w.heap.size w w' := by
  go_enter Try.func93, Try.ntmps93
  go_wp2_with fail
  go_ret
  exact ⟨_, rfl, ⟨by simp, by simp⟩, by go_grown⟩

theorem wy_T (way : Nat) (S T : List Int) (x : Int) (D : List Int) (hD : D.length = T.length) (h : ∀ j, j < T.length → gi D j = wyF way S x (gi T j)) : D = T.map (wyF way S x) :=
  ext_gi (by rw [hD, List.length_map]) fun i hi => by rw [h i (by omega), gi_mapI _ _ _ (by omega)]
theorem hitW_bd (S : List Int) (u x : Int) : 0 ≤ hitW S u x ∧ hitW S u x ≤ S.length := by
  have := dist_bd S u x
  unfold hitW; omega
theorem wyF_bd (way : Nat) (S : List Int) (u x : Int) : 0 ≤ wyF way S x u ∧ wyF way S x u ≤ S.length := by
  unfold wyF; split
  · exact hitW_bd S u x
  · exact dist_bd S u x

theorem Ints.set_other {w : World} {b o : Nat} {L : List Int} (h : Ints w (some ⟨b, o, none⟩) L) {a : Addr} (hne : b ≠ a.block) (u : Value) : Ints (w.setCell a u) (some ⟨b, o, none⟩) L := by
  rcases h with h | ⟨b', o', he, hlt, hc⟩
  · exact .inl h
  · simp only [Option.some.injEq, Addr.mk.injEq, and_true] at he
    obtain ⟨rfl, rfl⟩ := he
    exact .inr ⟨_, _, rfl, by simpa using hlt, fun i hi => cell_set_other (hc i hi) hne⟩

set_option maxHeartbeats 1000000 in
theorem counted_any (way : Nat) (hw : way = 0 ∨ way = 1) (ao : Option Addr) (S : List Int) (cap : Nat) (hSp : Sp S) (base P g : Nat) (T U : List Int) (K : Nat) (hK : K = T.length) (hT : T.length ≤ 1048576) (x : Int) (hx : 0 ≤ x) (hx2 : x ≤ 9223372036854775807) (w : World) (hS : Ints w ao S) (hp : PartsAt w base P g S T U) :
    Calls Try.prog 79 #[.int .i64 (way : Int), .agg #[.slice ao S.length cap], .slice (some ⟨P, 0, none⟩) K K, .int .i64 x] w fun e w' =>
      ∃ q, e = .returned (.slice (some ⟨q, 0, none⟩) K K) ∧ OwnInts w' w.heap.size (.slice (some ⟨q, 0, none⟩) K K) (T.map (wyF way S x)) ∧ Below w.heap.size w w' := by
  subst hK
  obtain ⟨i0, hi, hz0, hz1, hz2⟩ := info_parts infoI64
  have hhi := hSp.hi
  have HSp := Lib.hid hSp
  clear hSp
  have B0 : Below w.heap.size w (w.alloc (.cells #[.slice ao S.length cap] 28)) := by go_grown
  have c0 := cell_new w (.slice ao S.length cap) 28
  have l0 := lt_alloc w (.cells #[.slice ao S.length cap] 28)
  obtain ⟨N, hN⟩ : ∃ N, N = if way = 0 then 100 else 101 := ⟨_, rfl⟩
  have HN := Lib.hid hN
  have HW := Lib.hid hw
  have w1' : (0 : Int) ≤ (way : Int) := by omega
  have w2' : (way : Int) < 2 := by omega
  clear hN hw
  go_enter Try.func79, Try.ntmps79
  go_wp2_with fail
  refine (ways_any _).mono ?_
  rintro e w1 ⟨G, rfl, ⟨g0, g1⟩, hb⟩
  have gw : w1.cell? ⟨G, way, none⟩ = some (.func (.func N) #[] #[]) := by
    rcases HW.out with rfl | rfl
    · rw [HN.out]; exact g0
    · rw [HN.out]; exact g1
  have c1 := kept_cell hb c0 l0
  have l1 := lt_of_below hb l0
  have B1 : Below w.heap.size w w1 := B0.trans (hb.mono B0.size)
  clear hb B0 c0 l0 g0 g1
  go_wp2_with fail
  refine (digitParts_1 ao S cap HSp.out x hx hx2 _ _ _ (hS.below (B1.alloc B1.size _)) (ints_new1 w1 x _ rfl)).mono ?_
  rintro e w2 ⟨Px, gx, rfl, rx, ox, hpx, hb⟩
  have hX := own_ints ox
  have hgx := ox.base_le.2
  have B2 : Below w.heap.size w w2 := (B1.alloc B1.size _).trans (hb.mono (by have := B1.size; simp; omega))
  clear hb c1 l1 gw ox B1
  go_wp2_with (at_make; refine wpList_make_full _ rfl _ _ 22 rfl w2.heap.size 2 i0 (.int .i64 0) 1 Try.underlying22 hi hz0 hz1 .i64 .i64 _ _ T.length rfl rfl rfl rfl (by rw [hz2]; omega) (by unfold maxLen; omega) (Nat.le_refl _) ?_; intro w3 hown hgrow)
  have hb3 := below_grown0 hgrow
  have B3 : Below w.heap.size w w3 := B2.trans (hb3.mono B2.size)
  replace hX := hX.below hb3
  replace hown := own_made hown
  have s2 := B2.size
  have s3 := hgrow.size
  clear hgrow hb3 B2 rx hpx
  obtain ⟨Q, hQ⟩ : ∃ Q, Q = w2.heap.size := ⟨_, rfl⟩
  rw [← hQ] at hown s2 s3 hgx ⊢
  clear hi hz0 hz1 hz2 hQ
  go_loopw [29] (fun i wr => ∃ (k : Nat) (D : List Int), k ≤ T.length ∧ i = .int .i64 k ∧ OwnInts wr Q (.slice (some ⟨Q, 0, none⟩) T.length T.length) D ∧ Hid (D.length = T.length ∧ ∀ j, j < k → gi D j = wyF way S x (gi T j)) ∧ Ints wr (some ⟨gx, 0, none⟩) (digs S x) ∧ Below w.heap.size w wr)
    (fun i _ => T.length - (intOf i).toNat)
  case atStart => exact ⟨0, _, Nat.zero_le _, rfl, hown, Lib.hid ⟨by simp, fun j h => by omega⟩, hX, B3⟩
  case round =>
    clear hown hX B3 s3
    obtain ⟨k, D, hk, rfl, own, HD, hX, B⟩ := hrel
    by_cases hlt : k < T.length
    · have hrk := kept_cell B (hp.row k hlt) hp.pl
      have hik := (hp.below B).ints hlt
      rcases HW.out with hw0 | hw0
      · have hN0 : N = 100 := by rw [HN.out, if_pos hw0]
        have HWF : Hid (∀ u, wyF way S x u = hitW S u x) := Lib.hid fun u => by unfold wyF; rw [if_pos hw0]
        clear hw0
        subst hN0
        go_wp2_with fail
        refine (hits_any S hhi (gi T k) x _ _ S.length S.length _ _ rfl rfl _ hik hX).mono ?_
        rintro e w5 ⟨rfl, hb⟩
        replace own := own.below hb
        replace hX := hX.below hb
        replace B := B.trans (hb.mono B.size)
        have hcell := own.cell (k := k) (by rw [HD.out.1]; exact hlt)
        have hfree := own.free k
        clear hb hrk hik
        go_wp2_with fail
        go_roundw
        case rel =>
          refine ⟨k + 1, _, by omega, by go_num, own.stored k (hitW S (gi T k) x), Lib.hid ⟨by rw [List.length_set]; exact HD.out.1, fun j hj => ?_⟩, hX.set_other (by simp; omega) _, B.setCell (by simp; omega) _⟩
          rw [gi_set _ _ _ _ (by rw [HD.out.1]; exact hlt)]
          by_cases e : j = k
          · rw [if_pos e, e, HWF.out]
          · rw [if_neg e]; exact HD.out.2 j (by omega)
        case measure => simp [intOf]; omega
      · have hN0 : N = 101 := by rw [HN.out, if_neg (by omega)]
        have HWF : Hid (∀ u, wyF way S x u = dist S u x) := Lib.hid fun u => by unfold wyF; rw [if_neg (by omega)]
        clear hw0
        subst hN0
        go_wp2_with fail
        refine (misses_any S hhi (gi T k) x _ _ S.length S.length _ _ rfl rfl _ hik hX).mono ?_
        rintro e w5 ⟨rfl, hb⟩
        replace own := own.below hb
        replace hX := hX.below hb
        replace B := B.trans (hb.mono B.size)
        have hcell := own.cell (k := k) (by rw [HD.out.1]; exact hlt)
        have hfree := own.free k
        clear hb hrk hik
        go_wp2_with fail
        go_roundw
        case rel =>
          refine ⟨k + 1, _, by omega, by go_num, own.stored k (dist S (gi T k) x), Lib.hid ⟨by rw [List.length_set]; exact HD.out.1, fun j hj => ?_⟩, hX.set_other (by simp; omega) _, B.setCell (by simp; omega) _⟩
          rw [gi_set _ _ _ _ (by rw [HD.out.1]; exact hlt)]
          by_cases e : j = k
          · rw [if_pos e, e, HWF.out]
          · rw [if_neg e]; exact HD.out.2 j (by omega)
        case measure => simp [intOf]; omega
    · have HF := Lib.hid (wy_T way S T x D HD.out.1 fun j hj => HD.out.2 j (by omega))
      go_wp2_with fail
      go_ret
      exact ⟨_, rfl, by rw [← HF.out]; exact own.rebase s2, B⟩

end Go.Proofs.Ytecclcmndfaakaa
