/-
  Texts put together: Sums, Bool. By an AI agent.
-/
import Derived.Test.YtcnnijeokefboaaGreatDoorPkParts
import Derived.StillTailTactics
import Derived.BigRegion
import Derived.Test.YtcnnijeokefboaaGreatDoorPk11
import Derived.Deep.RegionHeld3
namespace Go.Proofs.YtcnnijeokefboaaGreatDoor
open Go.RowKit Cv
set_option linter.unusedVariables false
set_option linter.unusedSimpArgs false
set_option maxRecDepth 100000

theorem gi_pair0 (a b : Int) : gi [a, b] 0 = a := rfl
theorem gi_pair1 (a b : Int) : gi [a, b] 1 = b := rfl

theorem ints_set_other {w : World} {ao : Option Addr} {S : List Int} {a : Addr} {u : Value} (h : Ints w ao S) (hne : ∀ b o, ao = some ⟨b, o, none⟩ → b ≠ a.block) : Ints (w.setCell a u) ao S := by
  rcases h with h | ⟨b, o, rfl, hlt, hc⟩
  · exact .inl h
  · exact .inr ⟨b, o, rfl, by simpa using hlt, fun i hi => cell_set_other (hc i hi) (hne b o rfl)⟩

/-- part k holds the digits of word k -/
theorem PartsAt.ints {w : World} {base P g : Nat} {S T U : List Int} (h : PartsAt w base P g S T U) {k : Nat} (hk : k < T.length) : Ints w (some ⟨g, k * S.length, none⟩) (digs S (gi T k)) := by
  refine .inr ⟨g, _, rfl, h.own.base_le.2, fun i hi => ?_⟩
  rw [digs_length] at hi
  have hkk : (k + 1) * S.length ≤ T.length * S.length := Nat.mul_le_mul_right _ hk
  rw [Nat.add_mul, Nat.one_mul] at hkk
  have := h.own.cell (k := k * S.length + i) (by rw [h.len]; omega)
  rw [this, h.dg k i hk hi, gi_digs _ _ _ hi]

set_option maxHeartbeats 1000000 in
theorem distance_any (ao : Option Addr) (S : List Int) (cap : Nat) (hSp : Sp S) (u x : Int) (hu : 0 ≤ u) (hu2 : u ≤ 9223372036854775807) (hx : 0 ≤ x) (hx2 : x ≤ 9223372036854775807) (w : World) (hS : Ints w ao S) :
    Calls Tryz.prog 95 #[.agg #[.slice ao S.length cap], .int .i64 u, .int .i64 x] w fun e w' => e = .returned (.int .i64 (dist S u x)) ∧ Below w.heap.size w w' := by
  have HSp := Lib.hid hSp
  have hlo := hSp.lo
  have hhi := hSp.hi
  clear hSp
  go_enter Tryz.func95, Tryz.ntmps95
  go_wp2_with fail
  have B0 : Below w.heap.size w ((w.alloc (.cells #[.slice ao S.length cap] 26)).alloc (.cells #[.int .i64 u, .int .i64 x] 2)) := by go_grown
  refine (digitParts_n ao S cap hlo hhi HSp.out.bd _ [u, x] 2 _ rfl (by omega) (by intro i hi; match i, hi with | 0, _ => exact ⟨hu, hu2⟩ | 1, _ => exact ⟨hx, hx2⟩) _ (hS.below B0) (ints_new2 _ u x _ (by simp))).mono ?_
  rintro e w1 ⟨P, g, U, rfl, hp, hb⟩
  have B1 : Below w.heap.size w w1 := B0.trans (hb.mono (by simp; omega))
  have r0 := hp.row 0 (by simp)
  have r1 := hp.row 1 (by simp)
  have i0 := hp.ints (k := 0) (by simp)
  have i1 := hp.ints (k := 1) (by simp)
  rw [gi_pair0] at i0
  rw [gi_pair1] at i1
  rw [Nat.zero_mul] at r0 i0
  rw [Nat.one_mul] at r1 i1
  clear hb B0
  go_wp2_with fail
  go_region_held3 (fun w' => w'.cell? ⟨P, 0, none⟩ = some (.slice (some ⟨g, 0, none⟩) S.length S.length) ∧ w'.cell? ⟨P, 1, none⟩ = some (.slice (some ⟨g, S.length, none⟩) S.length S.length)) (first | exact ⟨r0, r1⟩ | exact ⟨kept_cell hb2 r0 hp.pl, kept_cell hb2 r1 hp.pl⟩) (first | (go_at_call 135; refine (differences_any _ _ (digs S u) (digs S x) S.length _ S.length _ _ (by omega) (digs_length _ _) (digs_length _ _) (Nat.le_refl _) (by exact i0) (by exact i1)).mono ?_; rintro e w2 ⟨rfl, hb2⟩))
  go_wp2
  go_ret
  exact ⟨ret_int (diff_digs S u x), B1.trans (((Below.refl _ _).drew.trans hb2).mono B1.size)⟩

set_option maxHeartbeats 1000000 in
theorem l01Sum_any (ao : Option Addr) (S : List Int) (cap : Nat) (hSp : Sp S) (u x : Int) (hu : 0 ≤ u) (hu2 : u ≤ 9223372036854775807) (hx : 0 ≤ x) (hx2 : x ≤ 9223372036854775807) (w : World) (hS : Ints w ao S) :
    Calls Tryz.prog 87 #[.agg #[.slice ao S.length cap], .int .i64 u, .int .i64 x] w fun e w' => e = .returned (.int .i64 (sumW S u x)) ∧ Below w.heap.size w w' := by
  have HSp := Lib.hid hSp
  have hlo := hSp.lo
  have hhi := hSp.hi
  clear hSp
  go_enter Tryz.func87, Tryz.ntmps87
  go_wp2_with fail
  have c0 := cell_new w (.slice ao S.length cap) 26
  have B0 : Below w.heap.size w (w.alloc (.cells #[.slice ao S.length cap] 26)) := by go_grown
  go_region_held3 (fun w' => w'.cell? ⟨w.heap.size, 0, none⟩ = some (.slice ao S.length cap)) (first | exact c0 | exact kept_cell hb1 c0 (lt_alloc _ _) | exact kept_cell hb2 (kept_cell hb1 c0 (lt_alloc _ _)) (lt_of_below hb1 (lt_alloc _ _))) (first | (go_at_call_of 74 u; refine (l01Digits_any ao S cap hhi HSp.out.bd u hu hu2 _ (hS.below B0.drew)).mono ?_; rintro e w1 ⟨g1, rfl, o1, hb1'⟩; have hb1 := (Below.refl _ (w.alloc (.cells #[.slice ao S.length cap] 26))).drew.trans hb1'; have B1 := B0.trans (hb1.mono B0.size)) | (go_at_call_of 74 x; refine (l01Digits_any ao S cap hhi HSp.out.bd x hx hx2 _ (hS.below B1)).mono ?_; rintro e w2 ⟨g2, rfl, o2, hb2⟩))
  have c2 := kept_cell hb2 (kept_cell hb1 c0 (lt_alloc _ _)) (lt_of_below hb1 (lt_alloc _ _))
  have B2 := B1.trans (hb2.mono B1.size)
  have q1 := o1.base_le
  have q2 := o2.base_le
  replace o1 := o1.below hb2
  have hz1 : w.heap.size < g1 := by have := q1.1; simp at this; omega
  have hz2 : g1 < g2 := by omega
  have i2 := own_ints o2
  clear hb1 hb1' hb2 c0 B0 B1 q1 q2 o2
  go_wp2_with fail
  go_loopw [18] (fun i wr => ∃ (k : Nat) (T : List Int), k ≤ S.length ∧ i = .int .i64 k ∧ Hid (T.length = S.length ∧ ∀ j, j < S.length → gi T j = if j < k then (dig S u j + dig S x j) % gi S j else dig S u j) ∧ OwnInts wr w.heap.size (.slice (some ⟨g1, 0, none⟩) S.length S.length) T ∧
      Ints wr (some ⟨g2, 0, none⟩) (digs S x) ∧ wr.cell? ⟨w.heap.size, 0, none⟩ = some (.slice ao S.length cap) ∧ Below w.heap.size w wr) (fun i _ => S.length - (intOf i).toNat)
  case atStart => exact ⟨0, _, Nat.zero_le _, rfl, Lib.hid ⟨digs_length _ _, fun j hj => by simp [gi_digs S u j hj]⟩, o1.rebase (by simp), i2, c2, B2⟩
  case round =>
    clear o1 i2 c2 B2
    obtain ⟨k, T, hk, rfl, HT, o1, i2, c2, B2⟩ := hrel
    by_cases hlt : k < S.length
    · obtain ⟨b, o, rfl, hbl, hc⟩ := hS.at hlt
      have hck : wr.cell? ⟨b, o + k, none⟩ = some (.int .i64 (gi S k)) := kept_cell B2 (hc k hlt) hbl
      have hcell := o1.cell (k := k) (by rw [HT.out.1]; exact hlt)
      rw [HT.out.2 k hlt, if_neg (by omega)] at hcell
      have hfree := o1.free k
      have hcell2 : wr.cell? ⟨g2, k, none⟩ = some (.int .i64 (dig S x k)) := by
        rcases i2 with h | ⟨b', o', h, _, h2⟩
        · rw [digs_length] at h; omega
        · simp at h; obtain ⟨rfl, rfl⟩ := h
          have := h2 k (by rw [digs_length]; exact hlt)
          rwa [Nat.zero_add, gi_digs _ _ _ hlt] at this
      obtain ⟨s1, s2⟩ := HSp.out.bd k hlt
      obtain ⟨d1, d2⟩ := dig_bd S u HSp.out.bd k hlt
      obtain ⟨d3, d4⟩ := dig_bd S x HSp.out.bd k hlt
      have E1 : IntKind.i64.wrap (dig S u k + dig S x k) = dig S u k + dig S x k := IntWalk.i64_in _ ⟨by omega, by omega⟩
      have E2 : (dig S u k + dig S x k).tmod (gi S k) = (dig S u k + dig S x k) % gi S k := Int.tmod_eq_emod_of_nonneg (by omega)
      have hzz : ¬ gi S k = 0 := by omega
      have hzz2 : (gi S k == 0) = false := by simp; omega
      clear hc
      go_wp2_with fail
      go_still_tail 18, (by kernel_rfl)
      clear E1 E2
      change wpList _ _ _ _ _ wr.drew
      go_wp2
      go_roundw
      case rel =>
        refine ⟨k + 1, _, by omega, by go_num, Lib.hid ⟨?_, ?_⟩, o1.drew.stored k ((dig S u k + dig S x k) % gi S k), ?_, ?_, ?_⟩
        · rw [List.length_set]; exact HT.out.1
        · intro j hj
          rw [gi_set _ _ _ _ (by rw [HT.out.1]; exact hlt)]
          by_cases e : j = k
          · subst e; rw [if_pos rfl, if_pos (by omega)]
          · rw [if_neg e, HT.out.2 j hj]
            by_cases h : j < k
            · rw [if_pos h, if_pos (by omega)]
            · rw [if_neg h, if_neg (by omega)]
        · exact ints_set_other i2 (by intro b' o' h; simp at h; obtain ⟨rfl, rfl⟩ := h; simp; omega)
        · exact cell_set_other (w := wr.drew) c2 (by simp; omega)
        · exact B2.drew.setCell (by simp; omega) _
      case measure => simp [intOf]; omega
    · have ek : k = S.length := by omega
      have eT : T = sumD S (digs S u) (digs S x) := ext_gi (by rw [HT.out.1, sumD_length]) fun j hj => by
        rw [HT.out.1] at hj
        rw [HT.out.2 j hj, if_pos (by omega), gi_sumD _ _ _ _ hj, gi_digs _ _ _ hj, gi_digs _ _ _ hj]
      rw [eT] at o1
      have HD : Dg S (sumD S (digs S u) (digs S x)) := ⟨sumD_length _ _ _, fun j hj => by
        have := HSp.out.bd j hj
        rw [gi_sumD _ _ _ _ hj]; exact ⟨Int.emod_nonneg _ (by omega), Int.emod_lt_of_pos _ (by omega)⟩⟩
      clear eT
      go_wp2_with (go_at_call 128; refine (l01Word_any ao S cap hhi HSp.out.bd (some ⟨g1, 0, none⟩) (sumD S (digs S u) (digs S x)) S.length _ rfl HD _ (hS.below B2) (own_ints o1)).mono ?_; rintro e w5 ⟨rfl, hb5⟩)
      go_ret
      exact ⟨rfl, B2.trans (hb5.mono B2.size)⟩

end Go.Proofs.YtcnnijeokefboaaGreatDoor

namespace Go.Proofs.YtcnnijeokefboaaGreatDoor
open Go.RowKit Cv
set_option linter.unusedVariables false
set_option linter.unusedSimpArgs false
set_option maxRecDepth 100000

namespace Cv
/-- element i of a list of truths -/
def gb (B : List Bool) (i : Nat) : Bool := B.getD i false
theorem gb_map (B : List Bool) (i : Nat) (h : i < B.length) : (B.map Value.bool)[i]? = some (.bool (gb B i)) := by simp [gb, h]
/-- the numbers below n, whether they are among the first k of a list -/
def marB (C : List Int) (n k : Nat) : List Bool := (List.range n).map fun (j : Nat) => decide ((j : Int) ∈ C.take k)
theorem marB_len (C : List Int) (n k : Nat) : (marB C n k).length = n := by simp [marB]
theorem gb_marB (C : List Int) (n k j : Nat) (h : j < n) : gb (marB C n k) j = decide ((j : Int) ∈ C.take k) := by simp [gb, marB, h]
theorem marB_0 (C : List Int) (n : Nat) : marB C n 0 = List.replicate n false := by
  apply List.ext_getElem
  · simp [marB]
  · intro i h1 h2; simp [marB]
theorem marB_step (C : List Int) (n k u : Nat) (hk : k < C.length) (hu : gi C k = (u : Int)) (hn : u < n) : (marB C n k).set u true = marB C n (k + 1) := by
  apply List.ext_getElem
  · simp [marB]
  · intro i h1 h2
    simp only [marB, List.length_set, List.length_map, List.length_range] at h1 h2
    simp only [marB, List.getElem_set, List.getElem_map, List.getElem_range]
    rw [take_snoc C k hk, hu]
    by_cases e : u = i
    · subst e; simp
    · rw [if_neg e]
      rw [Bool.eq_iff_iff, decide_eq_true_eq, decide_eq_true_eq, List.mem_append, List.mem_singleton]
      constructor
      · intro h; exact .inl h
      · rintro (h | h)
        · exact h
        · omega
theorem marB_all (C : List Int) (n : Nat) : marB C n C.length = (List.range n).map (inL C) := by
  unfold marB
  refine List.map_congr_left fun j _ => ?_
  rw [List.take_length]; rfl
end Cv

theorem infoBool : (Tryz.prog.info? 4).map (fun i => (i.zero, i.size, i.bytes)) = some (some (.bool false), 1, 1) := by kernel_rfl
def OwnBools (w : World) (base : Nat) (v : Value) (B : List Bool) : Prop := w.ownsRow base 4 1 v B.length (B.map Value.bool)
theorem OwnBools.below {w w' : World} {base : Nat} {v : Value} {S : List Bool} (h : OwnBools w base v S) (hb : Below w.heap.size w w') : OwnBools w' base v S := by
  obtain ⟨h1, h2⟩ := h
  refine ⟨h1, ?_⟩
  rcases h2 with h2 | ⟨g, cap, cur, hv, hg, hh, r⟩
  · exact Or.inl h2
  · exact Or.inr ⟨g, cap, cur, hv, hg, by rw [hb.block g (Array.getElem?_eq_some_iff.1 hh).1]; exact hh, r⟩
theorem OwnBools.len {w : World} {base : Nat} {a : Option Addr} {n cap : Nat} {T : List Bool} (h : OwnBools w base (.slice a n cap) T) : n = T.length := by
  rcases h.2 with ⟨hv, hn⟩ | ⟨_, _, _, hv, _⟩ <;> simp only [Value.slice.injEq] at hv
  · omega
  · exact hv.2.1
theorem OwnBools.cell {w : World} {base g n cap : Nat} {T : List Bool} (h : OwnBools w base (.slice (some ⟨g, 0, none⟩) n cap) T) {k : Nat} (hk : k < T.length) : w.cell? ⟨g, k, none⟩ = some (.bool (gb T k)) := by
  obtain rfl := h.len
  have h' : w.ownsRow base 4 1 (.slice (some ⟨g, 0, none⟩) T.length cap) T.length (T.map Value.bool) := h
  rw [h'.cellAt k (by omega), gb_map T k hk]
theorem OwnBools.free {w : World} {base g n cap : Nat} {T : List Bool} (h : OwnBools w base (.slice (some ⟨g, 0, none⟩) n cap) T) (k : Nat) : w.frozen? ⟨g, k, none⟩ = false := by
  obtain rfl := h.len
  have h' : w.ownsRow base 4 1 (.slice (some ⟨g, 0, none⟩) T.length cap) T.length (T.map Value.bool) := h
  exact h'.frozenAt k
theorem OwnBools.base_le {w : World} {base g n cap : Nat} {T : List Bool} (h : OwnBools w base (.slice (some ⟨g, 0, none⟩) n cap) T) : base ≤ g ∧ g < w.heap.size := by
  rcases h.2 with ⟨hv, _⟩ | ⟨g', _, _, hv, hb, hh, _⟩ <;> simp only [Value.slice.injEq] at hv
  · exact absurd hv.1 (by simp)
  · have e : g = g' := by simpa using hv.1
    subst e
    exact ⟨hb, (Array.getElem?_eq_some_iff.1 hh).1⟩
theorem OwnBools.stored {w : World} {base g n cap : Nat} {T : List Bool} (h : OwnBools w base (.slice (some ⟨g, 0, none⟩) n cap) T) (k : Nat) (x : Bool) :
    OwnBools (w.setCell ⟨g, k, none⟩ (.bool x)) base (.slice (some ⟨g, 0, none⟩) n cap) (T.set k x) := by
  obtain rfl := h.len
  have h' : w.ownsRow base 4 1 (.slice (some ⟨g, 0, none⟩) T.length cap) T.length (T.map Value.bool) := h
  have := (h'.stored k (.bool x)).1
  unfold OwnBools
  rw [List.length_set, List.map_set]
  exact this
theorem OwnBools.rebase {w : World} {base base' : Nat} {v : Value} {T : List Bool} (h : OwnBools w base v T) (hb : base' ≤ base) : OwnBools w base' v T := by
  refine ⟨h.1, ?_⟩
  rcases h.2 with h2 | ⟨g, cap, cur, hv, hg, r⟩
  · exact .inl h2
  · exact .inr ⟨g, cap, cur, hv, by omega, r⟩
theorem OwnBools.alloc {w : World} {base : Nat} {v : Value} {T : List Bool} (h : OwnBools w base v T) (o : Obj) : OwnBools (w.alloc o) base v T := World.ownsRow.alloc h o
theorem OwnBools.drew {w : World} {base : Nat} {v : Value} {T : List Bool} (h : OwnBools w base v T) : OwnBools w.drew base v T := h
theorem OwnBools.setBelow {w : World} {base : Nat} {v : Value} {T : List Bool} (h : OwnBools w base v T) {a : Addr} (ha : a.block < base) (u : Value) : OwnBools (w.setCell a u) base v T := ownsRow_setCell_below h ha u
theorem ownb_made {w : World} {base : Nat} {v : Value} {n : Nat} (h : w.ownsRow base 4 1 v n (madeCells (Value.bool false).cells (n * 1)).toList) : OwnBools w base v (List.replicate n false) := by
  unfold OwnBools
  rw [List.length_replicate, List.map_replicate, ← toList_madeCells_one]
  rw [Nat.mul_one] at h
  exact h

set_option maxHeartbeats 1000000 in
theorem l05Set_any (ao : Option Addr) (S : List Int) (cap : Nat) (hSp : Sp S) (ac : Option Addr) (C : List Int) (capc : Nat) (hl : C.length ≤ 1048576) (hC : ∀ i, i < C.length → 0 ≤ gi C i ∧ gi C i < nW S) (w : World) (hS : Ints w ao S) (hCI : Ints w ac C) :
    Calls Tryz.prog 105 #[.agg #[.slice ao S.length cap], .slice ac C.length capc] w fun e w' => ∃ g, e = .returned (.slice (some ⟨g, 0, none⟩) (nW S).toNat (nW S).toNat) ∧ OwnBools w' w.heap.size (.slice (some ⟨g, 0, none⟩) (nW S).toNat (nW S).toNat) ((List.range (nW S).toNat).map (inL C)) ∧ Below w.heap.size w w' := by
  obtain ⟨i0, hi, hz0, hz1, hz2⟩ := info_parts infoBool
  obtain ⟨N1, N2⟩ := nW_bd hSp
  have HSp := Lib.hid hSp
  have HC := Lib.hid hC
  have hhi := hSp.hi
  have B0 : Below w.heap.size w (w.alloc (.cells #[.slice ao S.length cap] 26)) := by go_grown
  obtain ⟨N, hN⟩ : ∃ N : Nat, nW S = (N : Int) := ⟨(nW S).toNat, by omega⟩
  have hN2 : (nW S).toNat = N := by omega
  have HN := Lib.hid hN
  have HNp : Hid (prodTo S S.length = (N : Int)) := Lib.hid hN
  rw [hN] at N1 N2
  rw [hN2]
  clear hSp hC hN hN2
  go_enter Tryz.func105, Tryz.ntmps105
  go_wp2_with fail
  refine (l01N_any ao S cap _ hhi HSp.out.bd (hS.below B0)).mono ?_
  rintro e w1 ⟨rfl, hb⟩
  rw [HNp.out]
  have B1 : Below w.heap.size w w1 := B0.trans (hb.mono B0.size)
  have s1 := B1.size
  clear hb B0
  go_wp2_with (at_make; refine wpList_make_full _ rfl _ _ 76 rfl w1.heap.size 4 i0 (.bool false) 1 Tryz.underlying76 hi hz0 hz1 .i64 .i64 (N : Int) (N : Int) N rfl rfl rfl rfl (by rw [hz2]; omega) (by unfold maxLen; omega) (Nat.le_refl _) ?_; intro w2 hown hgrow)
  have B2 : Below w.heap.size w w2 := B1.trans ((below_grown0 hgrow).mono s1)
  replace hown := ownb_made hown
  rw [← marB_0 C N] at hown
  clear hgrow
  go_loopw [12] (fun i wr => ∃ k : Nat, k ≤ C.length ∧ i = .int .i64 k ∧ OwnBools wr w1.heap.size (.slice (some ⟨w1.heap.size, 0, none⟩) N N) (marB C N k) ∧ Below w.heap.size w wr) (fun i _ => C.length - (intOf i).toNat)
  case atStart => exact ⟨0, Nat.zero_le _, rfl, hown, B2⟩
  case round =>
    clear hown B2
    obtain ⟨k, hk, rfl, own, B⟩ := hrel
    by_cases hlt : k < C.length
    · obtain ⟨b, o, rfl, hbl, hc⟩ := hCI.at hlt
      have hck := kept_cell B (hc k hlt) hbl
      obtain ⟨u1, u2⟩ := HC.out k hlt
      rw [HN.out] at u2
      obtain ⟨u, hu⟩ : ∃ u : Nat, gi C k = (u : Int) := ⟨(gi C k).toNat, by omega⟩
      have HU : Hid ((marB C N k).set u true = marB C N (k + 1)) := Lib.hid (marB_step C N k u hlt hu (by omega))
      rw [hu] at hck u1 u2
      have hun : u < N := by omega
      have hcell := own.cell (k := u) (by rw [marB_len]; omega)
      have hf := own.free u
      clear hc hu
      go_wp2_with fail
      go_roundw
      case rel => exact ⟨k + 1, by omega, by go_num, by rw [← HU.out]; exact own.stored u true, B.setCell (by simp; omega) _⟩
      case measure => simp [intOf]; omega
    · have ek : Hid (k = C.length) := Lib.hid (by omega)
      have own' : OwnBools wr w1.heap.size (.slice (some ⟨w1.heap.size, 0, none⟩) N N) ((List.range N).map (inL C)) := by
        have h := own
        rw [ek.out, marB_all] at h; exact h
      clear own
      go_wp2_with fail
      go_ret
      exact ⟨_, rfl, own'.rebase (by omega), B⟩

end Go.Proofs.YtcnnijeokefboaaGreatDoor
