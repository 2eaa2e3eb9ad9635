/-
  Texts put together: SynS, SumW, Lws. By an AI agent.
-/
import Derived.Test.YtcnnijeokefboaaGreatDoorPk40
import Derived.Test.YtcnnijeokefboaaGreatDoorPkSpnS
import Derived.Test.YtcnnijeokefboaaGreatDoorPk46
import Derived.Test.YtcnnijeokefboaaGreatDoorAppendAt
import Derived.Test.YtcnnijeokefboaaGreatDoorPk9
import Derived.Test.YtcnnijeokefboaaGreatDoorPk3
namespace Go.Proofs.YtcnnijeokefboaaGreatDoor
open Go.RowKit Cv
set_option linter.unusedVariables false
set_option linter.unusedSimpArgs false
set_option maxRecDepth 100000

theorem syTo_step (S G : List Int) (x : Int) (k : Nat) (hk : k < G.length) : syL S (G.take (k + 1)) x = syL S (G.take k) x ++ [prW S (gi G k) x] := by
  unfold syL
  rw [take_snoc G k hk, List.map_append]; rfl

set_option maxHeartbeats 2000000 in
theorem spec_SyndromeOf (ao : Option Addr) (S : List Int) (cap : Nat) (hn : S.length ≤ 4294967296) (ag : Option Addr) (G : List Int) (capg : Nat) (hng : G.length ≤ 4294967296) (x : Int) (hxr : -9223372036854775808 ≤ x ∧ x ≤ 9223372036854775807) (w : World) (hS : Ints w ao S) (hG : Ints w ag G) :
    Calls Tryz.prog 30 #[.agg #[.slice ao S.length cap], .slice ag G.length capg, .int .i64 x] w fun e w' => ∃ v, e = .returned (.tuple #[v, .int .i64 (eSyn S G x)]) ∧ OwnInts w' w.heap.size v (vSyn S G x) ∧ Below w.heap.size w w' := by
  have B0 : Below w.heap.size w (w.alloc (.cells #[.slice ao S.length cap] 26)) := by go_grown
  have c0 := cell_new w (.slice ao S.length cap) 26
  have l0 := lt_alloc w (.cells #[.slice ao S.length cap] 26)
  have B0x : Below w.heap.size w ((w.alloc (.cells #[.slice ao S.length cap] 26)).alloc (.cells #[.int .i64 x] 2)) := by go_grown
  have c0x : ((w.alloc (.cells #[.slice ao S.length cap] 26)).alloc (.cells #[.int .i64 x] 2)).cell? ⟨w.heap.size, 0, none⟩ = some (.slice ao S.length cap) := kept_cell ((Below.refl _ (w.alloc (.cells #[.slice ao S.length cap] 26))).alloc (Nat.le_refl _) _) c0 l0
  have hwe := l01Words_n ao S cap hn (some ⟨w.heap.size + 1, 0, none⟩) [x] 1 1 rfl (by omega) _ (hS.below B0x) (ints_new1 _ x _ (by simp))
  have HM := eSyn_model S G x
  by_cases hw : eWords S [x] = 0
  · rw [if_pos hw] at HM
    rw [hw] at hwe
    have HWE := Lib.hid hwe
    have HMM := Lib.hid HM
    by_cases hz : eSpan S G = 0
    · obtain ⟨h3, h4, h5⟩ := eSpan_zero hz
      obtain ⟨hSp, hwd⟩ := eWords_zero h3
      have HP := Lib.hid (pl_of hSp h5)
      have HWd : Hid (∀ i, i < G.length → Wd S (gi G i)) := Lib.hid hwd
      have HX : Hid (Wd S x) := Lib.hid (by obtain ⟨_, a, b⟩ := eWords1 hw; exact ⟨a, b⟩)
      have HZ : Hid (eSyn S G x = 0) := Lib.hid (by rw [HM, hz])
      have HV : Hid (vSyn S G x = syL S (G.take G.length) x) := Lib.hid (by unfold vSyn; rw [if_pos HZ.out, List.take_length])
      have HES := Lib.hid hz
      clear hwe hw HM h3 h5 hSp hwd hz
      go_enter Tryz.func30, Tryz.ntmps30
      go_wp2_with fail
      refine HWE.out.mono ?_
      rintro e w1 ⟨rfl, hb1⟩
      have c1 := kept_cell hb1 c0x (by simp; omega)
      have B1 := B0x.trans (hb1.mono B0x.size)
      have s1 : w.heap.size < w1.heap.size := by have := hb1.size; simp at this; omega
      clear hb1 c0x c0 l0 B0 B0x
      go_wp2_with fail
      refine (l05Words_any ao S cap hn ag G capg hng w1 (hS.below B1) (hG.below B1)).mono ?_
      rw [HES.out]
      rintro e w2 ⟨rfl, hb2⟩
      have c2 := kept_cell hb2 c1 s1
      have B2 := B1.trans (hb2.mono B1.size)
      have s2 : w.heap.size < w2.heap.size := by have := hb2.size; omega
      have oo := own_empty w2 (w.heap.size + 1) (by omega) rfl
      have b3 : Below w2.heap.size w2 (w2.alloc (.cells #[] 2)) := (Below.refl _ _).alloc (Nat.le_refl _) _
      have c3 := kept_cell b3 c2 s2
      have B3 := B2.trans (b3.mono B2.size)
      have s3 : w.heap.size + 1 < (w2.alloc (.cells #[] 2)).heap.size := by rw [World.size_alloc]; omega
      clear hb2 c1 B1 c2 B2 b3
      go_wp2_with fail
      go_loopw [9, 26] (fun v' i wr => ∃ (k : Nat) (v : Value), k ≤ G.length ∧ i = .int .i64 k ∧ v = v' ∧ OwnInts wr (w.heap.size + 1) v (syL S (G.take k) x) ∧ wr.cell? ⟨w.heap.size, 0, none⟩ = some (.slice ao S.length cap) ∧ Below w.heap.size w wr ∧ w.heap.size + 1 < wr.heap.size) (fun _ i _ => G.length - (intOf i).toNat)
      case atStart => exact ⟨0, _, Nat.zero_le _, rfl, rfl, oo, c3, B3, s3⟩
      case round =>
        clear oo c3 B3 s3
        obtain ⟨k, v, hk, rfl, rfl, own, cs, B, hs1⟩ := hrel
        have hL : (syL S (G.take k) x).length ≤ 1048576 := by simp [syL]; omega
        by_cases hlt : k < G.length
        · obtain ⟨b, o, rfl, hbl, hc⟩ := hG.at hlt
          have hck := kept_cell B (hc k hlt) hbl
          have lb := lt_of_below B hbl
          have ls : w.heap.size < wr.heap.size := by omega
          obtain ⟨u, hu⟩ : ∃ u, u = gi G k := ⟨_, rfl⟩
          rw [← hu] at hck
          have HUW : Hid (Wd S u) := Lib.hid (by rw [hu]; exact HWd.out k hlt)
          have HST : Hid (syL S (G.take (k + 1)) x = syL S (G.take k) x ++ [prW S u x]) := Lib.hid (by rw [hu]; exact syTo_step S G x k hlt)
          have kI : (k : Int) < (G.length : Int) := by omega
          have k0 : (0 : Int) ≤ (k : Int) := by omega
          obtain ⟨T, hT⟩ : ∃ T, T = syL S (G.take k) x := ⟨_, rfl⟩
          rw [← hT] at own hL HST
          have hs := B.size
          clear hu hc hT
          go_wp2_with fail
          refine wp_region_held_drew (S := fun w' => w'.cell? ⟨w.heap.size, 0, none⟩ = some (.slice ao S.length cap) ∧ w'.cell? ⟨b, o + k, none⟩ = some (.int .i64 u)) (by kernel_rfl) ⟨cs, hck⟩ (fun hHeld => ?_)
          refine wpAnyH_take (i := 0) (v := ?_) rfl (by kernel_rfl) (by kernel_rfl) (by kernel_rfl) (fun _ _ _ h => h) (Or.inl ⟨by rfl, ?_⟩) (by assumption) ?_
          rotate_left
          · (intro w hSw; obtain ⟨hSa, hSb⟩ := hSw; (try dsimp only at hSa hSb); go_simp; try (with_reducible rfl))
          (try simp only [Act.put, List.setIfInBounds_toArray, List.set_cons_zero, List.set_cons_succ])
          refine wpAnyH_take (i := 1) (v := ?_) rfl (by kernel_rfl) (by kernel_rfl) (by kernel_rfl) (fun _ _ _ h => h) (Or.inl ⟨by rfl, ?_⟩) (by assumption) ?_
          rotate_left
          · (intro w hSw; obtain ⟨hSa, hSb⟩ := hSw; (try dsimp only at hSa hSb); go_simp; try (with_reducible rfl))
          (try simp only [Act.put, List.setIfInBounds_toArray, List.set_cons_zero, List.set_cons_succ])
          refine wpAnyH_take (i := 2) (v := ?_) rfl (by kernel_rfl) (by kernel_rfl) (by kernel_rfl) (fun _ _ _ h => h) (Or.inl ⟨by rfl, ?_⟩) (by assumption) ?_
          rotate_left
          · (intro w hSw; obtain ⟨hSa, hSb⟩ := hSw; (try dsimp only at hSa hSb); go_simp; try (with_reducible rfl))
          (try simp only [Act.put, List.setIfInBounds_toArray, List.set_cons_zero, List.set_cons_succ])
          refine wpAnyH_take (i := 3) (v := ?_) rfl (by kernel_rfl) (by kernel_rfl) (by kernel_rfl) (fun _ _ _ h => h) (Or.inl ⟨by rfl, ?_⟩) (by assumption) ?_
          rotate_left
          · (intro w hSw; obtain ⟨hSa, hSb⟩ := hSw; (try dsimp only at hSa hSb); go_simp; try (with_reducible rfl))
          (try simp only [Act.put, List.setIfInBounds_toArray, List.set_cons_zero, List.set_cons_succ])
          refine wpAnyH_take (i := 4) (v := ?_) rfl (by kernel_rfl) (by kernel_rfl) (by kernel_rfl) (fun _ _ _ h => h) (Or.inl ⟨by rfl, ?_⟩) (by assumption) ?_
          rotate_left
          · (intro w hSw; obtain ⟨hSa, hSb⟩ := hSw; (try dsimp only at hSa hSb); go_simp; try (with_reducible rfl))
          (try simp only [Act.put, List.setIfInBounds_toArray, List.set_cons_zero, List.set_cons_succ])
          refine wpAnyH_take (i := 5) (v := ?_) rfl (by kernel_rfl) (by kernel_rfl) (by kernel_rfl) (fun _ _ _ h => h) (Or.inl ⟨by rfl, ?_⟩) (by assumption) ?_
          rotate_left
          · (intro w hSw; obtain ⟨hSa, hSb⟩ := hSw; (try dsimp only at hSa hSb); go_simp; try (with_reducible rfl))
          (try simp only [Act.put, List.setIfInBounds_toArray, List.set_cons_zero, List.set_cons_succ])
          refine wpAnyH_take (i := 6) (v := ?_) rfl (by kernel_rfl) (by kernel_rfl) (by kernel_rfl) (fun _ _ _ h => h) (Or.inl ⟨by rfl, ?_⟩) (by assumption) ?_
          rotate_left
          · (intro w hSw; obtain ⟨hSa, hSb⟩ := hSw; (try dsimp only at hSa hSb); go_simp; try (with_reducible rfl))
          (try simp only [Act.put, List.setIfInBounds_toArray, List.set_cons_zero, List.set_cons_succ])
          refine wpAnyH_ready (rs := [7]) (by kernel_rfl) (by simp) ?_
          refine AllReadyH.cons rfl (fun K hK => ?_) AllReadyH.nil
          go_simp
          (go_at_call 80; refine (l05Product_any ao S cap HP.out u x HUW.out HX.out _ (hS.below B.drew)).mono ?_)
          rintro e w4 ⟨rfl, hb4'⟩
          have hb4 : Below wr.heap.size wr w4 := (Below.refl _ wr).drew.trans hb4'
          have k1 := kept_cell hb4 cs ls
          have k2 := kept_cell hb4 hck lb
          have own4 := own.below hb4
          have B4 := B.trans (hb4.mono hs)
          have s4 : w.heap.size + 1 < w4.heap.size := by have := hb4.size; omega
          obtain ⟨y, hy⟩ : ∃ y, y = prW S u x := ⟨_, rfl⟩
          rw [← hy] at HST
          rw [← hy]
          have lb4 := lt_of_below hb4 lb
          clear hb4 hb4' own cs hck B hy lb
          refine hK.out _ _ (⟨k1, k2⟩) (fun hHeld => ?_)
          clear hK K
          (try simp only [Act.put, List.setIfInBounds_toArray, List.set_cons_zero, List.set_cons_succ])
          refine wpAnyH_ready (rs := [8]) (by kernel_rfl) (by simp) ?_
          refine AllReadyH.cons rfl (fun K hK => ?_) AllReadyH.nil
          go_simp
          have hbT : Below w4.heap.size w4 (w4.alloc (.cells #[.int .i64 y] 2)) := (Below.refl _ _).alloc (Nat.le_refl _) _
          have j1 := kept_cell hbT k1 (by omega)
          have j2 := kept_cell hbT k2 lb4
          have B5 := B4.trans (hbT.mono B4.size)
          have own5 := own4.alloc (.cells #[.int .i64 y] 2)
          refine hK.out _ _ (⟨j1, j2⟩) (fun hHeld => ?_)
          clear hK K
          (try simp only [Act.put, List.setIfInBounds_toArray, List.set_cons_zero, List.set_cons_succ])
          refine wpAnyH_ready (rs := [9]) (by kernel_rfl) (by simp) ?_
          refine AllReadyH.cons rfl (fun K hK => ?_) AllReadyH.nil
          rw [if_pos (by kernel_rfl)]
          refine wp_append_int (.tmp 29) (.tmp 37) (by kernel_rfl) (w.heap.size + 1) _ T (by rfl) own5 w4.heap.size y (by rfl) (cell_new w4 _ _) (by omega) (by rw [World.size_alloc]; omega) ?_
          intro v' w6 hown' hgrow
          have B6 := grown_below B5 (by rw [World.size_alloc]; omega) hgrow own5 (by omega)
          have hrin := World.ownsRow.lt own5
          have m1 : w6.cell? ⟨w.heap.size, 0, none⟩ = some (.slice ao S.length cap) := hgrow.cell (a := ⟨w.heap.size, 0, none⟩) j1 (fun e => by have := (hrin w.heap.size e.symm).1; omega)
          have m2 : w6.cell? ⟨b, o + k, none⟩ = some (.int .i64 u) := hgrow.cell (a := ⟨b, o + k, none⟩) j2 (fun e => by have := (hrin b e.symm).1; omega)
          have s6 : w.heap.size + 1 < w6.heap.size := by have := hgrow.size; rw [World.size_alloc] at this; omega
          refine hK.out _ _ (⟨m1, m2⟩) (fun hHeld => ?_)
          clear hK K
          (try simp only [Act.put, List.setIfInBounds_toArray, List.set_cons_zero, List.set_cons_succ])
          refine wpAnyH_take (i := 10) (v := ?_) rfl (by kernel_rfl) (by kernel_rfl) (by kernel_rfl) (fun _ _ _ h => h) (Or.inl ⟨by rfl, ?_⟩) (by assumption) ?_
          rotate_left
          · (intro w hSw; obtain ⟨hSa, hSb⟩ := hSw; (try dsimp only at hSa hSb); go_simp; try (with_reducible rfl))
          refine wpAnyH_done (by kernel_rfl) ?_ _
          simp only [List.getElem_toArray, List.getElem_cons_succ, List.getElem_cons_zero, Act.put, List.setIfInBounds_toArray, List.set_cons_zero, List.set_cons_succ]
          rw [← HST.out] at hown'
          clear own4 own5 hgrow hbT k1 k2 j1 j2 B4 B5 hrin
          go_wp2_with fail
          go_roundw
          case rel => exact ⟨k + 1, _, by omega, by go_num, rfl, hown', m1, B6, s6⟩
          case measure => simp [intOf]; omega
        · have ek : Hid (k = G.length) := Lib.hid (by omega)
          have kI : ¬ (k : Int) < (G.length : Int) := by omega
          go_wp2_with fail
          go_ret2
          exact ⟨_, by rw [HZ.out]; try rfl, by rw [HV.out, ← ek.out]; exact own.rebase (by omega), B⟩
    · have hzn : (eSpan S G != 0) = true := by simpa using hz
      have HV : Hid (vSyn S G x = []) := Lib.hid (by unfold vSyn; rw [if_neg (by rw [HM]; exact hz)])
      clear hwe hw HM hz
      go_enter Tryz.func30, Tryz.ntmps30
      go_wp2_with fail
      refine HWE.out.mono ?_
      rintro e w1 ⟨rfl, hb1⟩
      have c1 := kept_cell hb1 c0x (by simp; omega)
      have B1 := B0x.trans (hb1.mono B0x.size)
      clear hb1 c0x c0 l0 B0 B0x
      go_wp2_with fail
      refine (l05Words_any ao S cap hn ag G capg hng w1 (hS.below B1) (hG.below B1)).mono ?_
      rintro e w2 ⟨rfl, hb2⟩
      go_wp2_with fail
      go_ret2
      exact ⟨_, by rw [HMM.out]; try rfl, by rw [HV.out]; exact own_nil _ _, B1.trans (hb2.mono B1.size)⟩
  · rw [if_neg hw] at HM
    have hzn : (eWords S [x] != 0) = true := by simpa using hw
    have hze : (eWords S [x] == 0) = false := by simpa using hw
    have HV : Hid (vSyn S G x = []) := Lib.hid (by unfold vSyn; rw [if_neg (by rw [HM]; exact hw)])
    have HMM := Lib.hid HM
    have HWE := Lib.hid hwe
    clear hwe hw HM
    go_enter Tryz.func30, Tryz.ntmps30
    go_wp2_with fail
    refine HWE.out.mono ?_
    rintro e w1 ⟨rfl, hb1⟩
    go_wp2_with fail
    go_ret2
    exact ⟨_, by rw [HMM.out]; try rfl, by rw [HV.out]; exact own_nil _ _, B0x.trans (hb1.mono B0x.size)⟩

end Go.Proofs.YtcnnijeokefboaaGreatDoor

namespace Go.Proofs.YtcnnijeokefboaaGreatDoor
open Go.RowKit Cv
set_option linter.unusedVariables false
set_option linter.unusedSimpArgs false

theorem wsT_one_bd {L : List Int} {m : Int} (h : ∀ j, 0 ≤ gi L j ∧ gi L j ≤ m) (k : Nat) : 0 ≤ wsT (fun _ => 1) L k ∧ wsT (fun _ => 1) L k ≤ k * m := by
  induction k with
  | zero => simp [wsT]
  | succ k ih =>
    have := h k
    rw [wsT, Int.one_mul]
    push_cast
    rw [Int.add_mul, Int.one_mul]
    omega
/-- the sum of a list of small numbers -/
theorem sum_any (a : Option Addr) (L : List Int) (c : Nat) (m : Int) (hm : 0 ≤ m ∧ m ≤ 1048576) (hb : ∀ j, 0 ≤ gi L j ∧ gi L j ≤ m) (w : World) (hn : L.length ≤ 1048576) (h : Ints w a L) :
    Calls Tryz.prog 22 #[.slice a L.length c] w fun e w' => e = .returned (.int .i64 (wsT (fun _ => 1) L L.length)) ∧ Below w.heap.size w w' := by
  have HW := Lib.hid fun k => wsT_one_bd hb k
  have HB := Lib.hid hb
  obtain ⟨m0, m1⟩ := hm
  clear hb
  have hz : wsT (fun _ => 1) L 0 = 0 := rfl
  have HZ := Lib.hid hz
  clear hz
  go_enter Tryz.func22, Tryz.ntmps22
  go_wp2_with fail
  go_loop [3, 4] (fun s i => ∃ k : Nat, k ≤ L.length ∧ i = .int .i64 (k : Int) ∧ s = .int .i64 (wsT (fun _ => 1) L k)) (fun _ i => L.length - (intOf i).toNat)
  case atStart => exact ⟨0, Nat.zero_le _, rfl, by rw [HZ.out]⟩
  case round =>
    obtain ⟨k, hk, rfl, rfl⟩ := hrel
    by_cases hlt : k < L.length
    · have hlI : (k : Int) < (L.length : Int) := by omega
      obtain ⟨b, o, rfl, hbl, hc⟩ := h.at hlt
      have hck := hc k hlt
      obtain ⟨s0, s1⟩ := HW.out k
      obtain ⟨t0, t1⟩ := HB.out k
      have HS : Hid (wsT (fun _ => 1) L (k + 1) = wsT (fun _ => 1) L k + gi L k) := Lib.hid (by rw [wsT, Int.one_mul])
      have hkm : (k : Int) * m ≤ 1048576 * 1048576 := Int.mul_le_mul (by omega) m1 m0 (by omega)
      obtain ⟨s, hs⟩ : ∃ s, s = wsT (fun _ => 1) L k := ⟨_, rfl⟩
      obtain ⟨y, hy⟩ : ∃ y, y = gi L k := ⟨_, rfl⟩
      rw [← hs, ← hy] at HS
      rw [← hs] at s0 s1 ⊢
      rw [← hy] at hck t0 t1
      have e1 : IntKind.i64.wrap (s + y) = s + y := IntWalk.i64_in _ ⟨by omega, by omega⟩
      clear hc hs hy hkm s1
      go_wp2_with fail
      go_round
      case rel => exact ⟨k + 1, by omega, by go_num, by rw [HS.out]⟩
      case measure => simp [intOf]; omega
    · have hlI : ¬ (k : Int) < (L.length : Int) := by omega
      have hkL : k = L.length := by omega
      go_wp2_with fail
      go_ret
      exact ⟨rfl, Below.refl _ _⟩

end Go.Proofs.YtcnnijeokefboaaGreatDoor

namespace Go.Proofs.YtcnnijeokefboaaGreatDoor
open Go.RowKit Cv
set_option linter.unusedVariables false
set_option linter.unusedSimpArgs false
set_option maxRecDepth 100000

theorem big_any (a : Option Addr) (n cap : Nat) (w : World) :
    Calls Tryz.prog 5 #[.slice a n cap] w fun e w' => e = .returned (.bool (decide (4096 < n))) ∧ Below w.heap.size w w' := by
  have e1 : decide ((4096 : Int) < (n : Int)) = decide (4096 < n) := by
    by_cases h : 4096 < n
    · rw [decide_eq_true h, decide_eq_true (by omega)]
    · rw [decide_eq_false h, decide_eq_false (by omega)]
  by_cases h : 4096 < n
  · have i1 : (4096 : Int) < (n : Int) := by omega
    rw [decide_eq_true h]
    clear e1 h
    go_enter Tryz.func5, Tryz.ntmps5
    go_wp2_with fail
    go_ret
    exact ⟨rfl, Below.refl _ _⟩
  · have i1 : ¬ (4096 : Int) < (n : Int) := by omega
    rw [decide_eq_false h]
    clear e1 h
    go_enter Tryz.func5, Tryz.ntmps5
    go_wp2_with fail
    go_ret
    exact ⟨rfl, Below.refl _ _⟩

theorem likeInts_same (a a' : Option Addr) (S : List Int) (c c' : Nat) (w : World) (hn : S.length ≤ 4294967296) (h : Ints w a S) (h' : Ints w a' S) :
    Calls Tryz.prog 11 #[.slice a S.length c, .slice a' S.length c'] w fun e w' => e = .returned (.bool true) ∧ Below w.heap.size w w' := by
  go_enter Tryz.func11, Tryz.ntmps11
  go_wp2
  go_loopw [5] (fun i wr => ∃ k : Nat, k ≤ S.length ∧ i = .int .i64 k ∧ Below w.heap.size w wr) (fun i _ => S.length - (intOf i).toNat)
  case atStart => exact ⟨0, Nat.zero_le _, rfl, Below.refl _ _⟩
  case round =>
    obtain ⟨k, hk, rfl, hbel⟩ := hrel
    by_cases hlt : k < S.length
    · obtain ⟨b, o, rfl, hb, hc⟩ := h.at hlt
      obtain ⟨b', o', rfl, hb', hc'⟩ := h'.at hlt
      have hck : wr.cell? ⟨b, o + k, none⟩ = some (.int .i64 (gi S k)) := (hbel.cell (p := ⟨b, o + k, none⟩) hb).trans (hc k hlt)
      have hck' : wr.cell? ⟨b', o' + k, none⟩ = some (.int .i64 (gi S k)) := (hbel.cell (p := ⟨b', o' + k, none⟩) hb').trans (hc' k hlt)
      clear hc hc'
      go_wp2
      go_quiet (fail)
      go_wp2
      go_roundw
      case rel => exact ⟨k + 1, by omega, by go_num, below_drewN hbel _⟩
      case measure => simp [intOf]; omega
    · go_wp2
      go_ret
      exact ⟨rfl, hbel⟩

/-- is x among the first k numbers of S -/
def hasTo (S : List Int) (x : Int) : Nat → Bool
  | 0 => false
  | k + 1 => hasTo S x k || gi S k == x
theorem hasTo_iff (S : List Int) (x : Int) : ∀ k, hasTo S x k = true ↔ ∃ j, j < k ∧ gi S j = x := by
  intro k
  induction k with
  | zero => simp [hasTo]
  | succ k ih =>
    simp only [hasTo, Bool.or_eq_true, ih, beq_iff_eq]
    constructor
    · rintro (⟨j, hj, e⟩ | e)
      · exact ⟨j, by omega, e⟩
      · exact ⟨k, by omega, e⟩
    · rintro ⟨j, hj, e⟩
      by_cases h : j = k
      · subst h; exact .inr e
      · exact .inl ⟨j, by omega, e⟩
theorem hasTo_mono {S : List Int} {x : Int} {k n : Nat} (h : k ≤ n) (hk : hasTo S x k = true) : hasTo S x n = true := by
  obtain ⟨j, hj, e⟩ := (hasTo_iff S x k).1 hk
  exact (hasTo_iff S x n).2 ⟨j, by omega, e⟩
theorem hasInt_any (a : Option Addr) (S : List Int) (c : Nat) (x : Int) (w : World) (hn : S.length ≤ 4294967296) (h : Ints w a S) :
    Calls Tryz.prog 19 #[.slice a S.length c, .int .i64 x] w fun e w' => e = .returned (.bool (hasTo S x S.length)) ∧ Below w.heap.size w w' := by
  obtain ⟨V, hV⟩ : ∃ V, V = hasTo S x S.length := ⟨_, rfl⟩
  rw [← hV]
  have HV := Lib.hid hV
  clear hV
  go_enter Tryz.func19, Tryz.ntmps19
  go_wp2
  go_loopw [5] (fun i wr => ∃ k : Nat, k ≤ S.length ∧ i = .int .i64 k ∧ Hid (hasTo S x k = false) ∧ Below w.heap.size w wr) (fun i _ => S.length - (intOf i).toNat)
  case atStart => exact ⟨0, Nat.zero_le _, rfl, Lib.hid rfl, Below.refl _ _⟩
  case round =>
    obtain ⟨k, hk, rfl, HK, hbel⟩ := hrel
    by_cases hlt : k < S.length
    · obtain ⟨b, o, rfl, hb, hc⟩ := h.at hlt
      have hck : wr.cell? ⟨b, o + k, none⟩ = some (.int .i64 (gi S k)) := (hbel.cell (p := ⟨b, o + k, none⟩) hb).trans (hc k hlt)
      clear hc
      by_cases he : gi S k = x
      · have hbe : (gi S k == x) = true := by simpa using he
        have hVt : Hid (V = true) := Lib.hid (by rw [HV.out]; exact (hasTo_iff S x _).2 ⟨k, hlt, he⟩)
        clear he
        go_wp2
        go_ret
        exact ⟨by rw [hVt.out]; rfl, hbel⟩
      · have hbe : (gi S k == x) = false := by simpa using he
        have HK' : Hid (hasTo S x (k + 1) = false) := Lib.hid (by show (hasTo S x k || gi S k == x) = false; rw [HK.out, hbe]; rfl)
        clear he
        go_wp2
        go_roundw
        case rel => exact ⟨k + 1, by omega, by go_num, HK', hbel⟩
        case measure => simp [intOf]; omega
    · have hVf : Hid (V = false) := Lib.hid (by rw [HV.out, show S.length = k by omega]; exact HK.out)
      go_wp2
      go_ret
      exact ⟨by rw [hVf.out]; rfl, hbel⟩

end Go.Proofs.YtcnnijeokefboaaGreatDoor
