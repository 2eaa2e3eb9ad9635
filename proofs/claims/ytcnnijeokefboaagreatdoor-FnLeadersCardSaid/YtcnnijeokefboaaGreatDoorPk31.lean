/-
  Texts put together: Bool, Ctn, IsPl. By an AI agent.
-/
import Derived.Test.YtcnnijeokefboaaGreatDoorSums
import Derived.Test.YtcnnijeokefboaaGreatDoorSpace
import Derived.Deep.RegionHeld3
import Derived.Test.YtcnnijeokefboaaGreatDoorMath
import Derived.Shelf.Abstract
import Derived.WalkMore
import Derived.Test.YtcnnijeokefboaaGreatDoorMathB
namespace Go.Proofs.YtcnnijeokefboaaGreatDoor
open Go.RowKit Cv
set_option linter.unusedVariables false
set_option linter.unusedSimpArgs false
set_option maxRecDepth 100000

namespace Cv
/-- element i of a list of truths -/
def gb (B : List Bool) (i : Nat) : Bool := B.getD i false
theorem gb_map (B : List Bool) (i : Nat) (h : i < B.length) : (B.map Value.bool)[i]? = some (.bool (gb B i)) := by simp [gb, h]
/-- the numbers below n, whether they are among the first k of a list -/
def marB (C : List Int) (n k : Nat) : List Bool := (List.range n).map fun (j : Nat) => decide ((j : Int) ∈ C.take k)
theorem marB_len (C : List Int) (n k : Nat) : (marB C n k).length = n := by simp [marB]
theorem gb_marB (C : List Int) (n k j : Nat) (h : j < n) : gb (marB C n k) j = decide ((j : Int) ∈ C.take k) := by simp [gb, marB, h]
theorem marB_0 (C : List Int) (n : Nat) : marB C n 0 = List.replicate n false := by
  apply List.ext_getElem
  · simp [marB]
  · intro i h1 h2; simp [marB]
theorem marB_step (C : List Int) (n k u : Nat) (hk : k < C.length) (hu : gi C k = (u : Int)) (hn : u < n) : (marB C n k).set u true = marB C n (k + 1) := by
  apply List.ext_getElem
  · simp [marB]
  · intro i h1 h2
    simp only [marB, List.length_set, List.length_map, List.length_range] at h1 h2
    simp only [marB, List.getElem_set, List.getElem_map, List.getElem_range]
    rw [take_snoc C k hk, hu]
    by_cases e : u = i
    · subst e; simp
    · rw [if_neg e]
      rw [Bool.eq_iff_iff, decide_eq_true_eq, decide_eq_true_eq, List.mem_append, List.mem_singleton]
      constructor
      · intro h; exact .inl h
      · rintro (h | h)
        · exact h
        · omega
theorem marB_all (C : List Int) (n : Nat) : marB C n C.length = (List.range n).map (inL C) := by
  unfold marB
  refine List.map_congr_left fun j _ => ?_
  rw [List.take_length]; rfl
end Cv

theorem infoBool : (Tryz.prog.info? 4).map (fun i => (i.zero, i.size, i.bytes)) = some (some (.bool false), 1, 1) := by kernel_rfl
def OwnBools (w : World) (base : Nat) (v : Value) (B : List Bool) : Prop := w.ownsRow base 4 1 v B.length (B.map Value.bool)
theorem OwnBools.below {w w' : World} {base : Nat} {v : Value} {S : List Bool} (h : OwnBools w base v S) (hb : Below w.heap.size w w') : OwnBools w' base v S := by
  obtain ⟨h1, h2⟩ := h
  refine ⟨h1, ?_⟩
  rcases h2 with h2 | ⟨g, cap, cur, hv, hg, hh, r⟩
  · exact Or.inl h2
  · exact Or.inr ⟨g, cap, cur, hv, hg, by rw [hb.block g (Array.getElem?_eq_some_iff.1 hh).1]; exact hh, r⟩
theorem OwnBools.len {w : World} {base : Nat} {a : Option Addr} {n cap : Nat} {T : List Bool} (h : OwnBools w base (.slice a n cap) T) : n = T.length := by
  rcases h.2 with ⟨hv, hn⟩ | ⟨_, _, _, hv, _⟩ <;> simp only [Value.slice.injEq] at hv
  · omega
  · exact hv.2.1
theorem OwnBools.cell {w : World} {base g n cap : Nat} {T : List Bool} (h : OwnBools w base (.slice (some ⟨g, 0, none⟩) n cap) T) {k : Nat} (hk : k < T.length) : w.cell? ⟨g, k, none⟩ = some (.bool (gb T k)) := by
  obtain rfl := h.len
  have h' : w.ownsRow base 4 1 (.slice (some ⟨g, 0, none⟩) T.length cap) T.length (T.map Value.bool) := h
  rw [h'.cellAt k (by omega), gb_map T k hk]
theorem OwnBools.free {w : World} {base g n cap : Nat} {T : List Bool} (h : OwnBools w base (.slice (some ⟨g, 0, none⟩) n cap) T) (k : Nat) : w.frozen? ⟨g, k, none⟩ = false := by
  obtain rfl := h.len
  have h' : w.ownsRow base 4 1 (.slice (some ⟨g, 0, none⟩) T.length cap) T.length (T.map Value.bool) := h
  exact h'.frozenAt k
theorem OwnBools.base_le {w : World} {base g n cap : Nat} {T : List Bool} (h : OwnBools w base (.slice (some ⟨g, 0, none⟩) n cap) T) : base ≤ g ∧ g < w.heap.size := by
  rcases h.2 with ⟨hv, _⟩ | ⟨g', _, _, hv, hb, hh, _⟩ <;> simp only [Value.slice.injEq] at hv
  · exact absurd hv.1 (by simp)
  · have e : g = g' := by simpa using hv.1
    subst e
    exact ⟨hb, (Array.getElem?_eq_some_iff.1 hh).1⟩
theorem OwnBools.stored {w : World} {base g n cap : Nat} {T : List Bool} (h : OwnBools w base (.slice (some ⟨g, 0, none⟩) n cap) T) (k : Nat) (x : Bool) :
    OwnBools (w.setCell ⟨g, k, none⟩ (.bool x)) base (.slice (some ⟨g, 0, none⟩) n cap) (T.set k x) := by
  obtain rfl := h.len
  have h' : w.ownsRow base 4 1 (.slice (some ⟨g, 0, none⟩) T.length cap) T.length (T.map Value.bool) := h
  have := (h'.stored k (.bool x)).1
  unfold OwnBools
  rw [List.length_set, List.map_set]
  exact this
theorem OwnBools.rebase {w : World} {base base' : Nat} {v : Value} {T : List Bool} (h : OwnBools w base v T) (hb : base' ≤ base) : OwnBools w base' v T := by
  refine ⟨h.1, ?_⟩
  rcases h.2 with h2 | ⟨g, cap, cur, hv, hg, r⟩
  · exact .inl h2
  · exact .inr ⟨g, cap, cur, hv, by omega, r⟩
theorem OwnBools.alloc {w : World} {base : Nat} {v : Value} {T : List Bool} (h : OwnBools w base v T) (o : Obj) : OwnBools (w.alloc o) base v T := World.ownsRow.alloc h o
theorem OwnBools.drew {w : World} {base : Nat} {v : Value} {T : List Bool} (h : OwnBools w base v T) : OwnBools w.drew base v T := h
theorem OwnBools.setBelow {w : World} {base : Nat} {v : Value} {T : List Bool} (h : OwnBools w base v T) {a : Addr} (ha : a.block < base) (u : Value) : OwnBools (w.setCell a u) base v T := ownsRow_setCell_below h ha u
theorem ownb_made {w : World} {base : Nat} {v : Value} {n : Nat} (h : w.ownsRow base 4 1 v n (madeCells (Value.bool false).cells (n * 1)).toList) : OwnBools w base v (List.replicate n false) := by
  unfold OwnBools
  rw [List.length_replicate, List.map_replicate, ← toList_madeCells_one]
  rw [Nat.mul_one] at h
  exact h

set_option maxHeartbeats 1000000 in
theorem l05Set_any (ao : Option Addr) (S : List Int) (cap : Nat) (hSp : Sp S) (ac : Option Addr) (C : List Int) (capc : Nat) (hl : C.length ≤ 1048576) (hC : ∀ i, i < C.length → 0 ≤ gi C i ∧ gi C i < nW S) (w : World) (hS : Ints w ao S) (hCI : Ints w ac C) :
    Calls Tryz.prog 105 #[.agg #[.slice ao S.length cap], .slice ac C.length capc] w fun e w' => ∃ g, e = .returned (.slice (some ⟨g, 0, none⟩) (nW S).toNat (nW S).toNat) ∧ OwnBools w' w.heap.size (.slice (some ⟨g, 0, none⟩) (nW S).toNat (nW S).toNat) ((List.range (nW S).toNat).map (inL C)) ∧ Below w.heap.size w w' := by
  obtain ⟨i0, hi, hz0, hz1, hz2⟩ := info_parts infoBool
  obtain ⟨N1, N2⟩ := nW_bd hSp
  have HSp := Lib.hid hSp
  have HC := Lib.hid hC
  have hhi := hSp.hi
  have B0 : Below w.heap.size w (w.alloc (.cells #[.slice ao S.length cap] 26)) := by go_grown
  obtain ⟨N, hN⟩ : ∃ N : Nat, nW S = (N : Int) := ⟨(nW S).toNat, by omega⟩
  have hN2 : (nW S).toNat = N := by omega
  have HN := Lib.hid hN
  have HNp : Hid (prodTo S S.length = (N : Int)) := Lib.hid hN
  rw [hN] at N1 N2
  rw [hN2]
  clear hSp hC hN hN2
  go_enter Tryz.func105, Tryz.ntmps105
  go_wp2_with fail
  refine (l01N_any ao S cap _ hhi HSp.out.bd (hS.below B0)).mono ?_
  rintro e w1 ⟨rfl, hb⟩
  rw [HNp.out]
  have B1 : Below w.heap.size w w1 := B0.trans (hb.mono B0.size)
  have s1 := B1.size
  clear hb B0
  go_wp2_with (at_make; refine wpList_make_full _ rfl _ _ 76 rfl w1.heap.size 4 i0 (.bool false) 1 Tryz.underlying76 hi hz0 hz1 .i64 .i64 (N : Int) (N : Int) N rfl rfl rfl rfl (by rw [hz2]; omega) (by unfold maxLen; omega) (Nat.le_refl _) ?_; intro w2 hown hgrow)
  have B2 : Below w.heap.size w w2 := B1.trans ((below_grown0 hgrow).mono s1)
  replace hown := ownb_made hown
  rw [← marB_0 C N] at hown
  clear hgrow
  go_loopw [12] (fun i wr => ∃ k : Nat, k ≤ C.length ∧ i = .int .i64 k ∧ OwnBools wr w1.heap.size (.slice (some ⟨w1.heap.size, 0, none⟩) N N) (marB C N k) ∧ Below w.heap.size w wr) (fun i _ => C.length - (intOf i).toNat)
  case atStart => exact ⟨0, Nat.zero_le _, rfl, hown, B2⟩
  case round =>
    clear hown B2
    obtain ⟨k, hk, rfl, own, B⟩ := hrel
    by_cases hlt : k < C.length
    · obtain ⟨b, o, rfl, hbl, hc⟩ := hCI.at hlt
      have hck := kept_cell B (hc k hlt) hbl
      obtain ⟨u1, u2⟩ := HC.out k hlt
      rw [HN.out] at u2
      obtain ⟨u, hu⟩ : ∃ u : Nat, gi C k = (u : Int) := ⟨(gi C k).toNat, by omega⟩
      have HU : Hid ((marB C N k).set u true = marB C N (k + 1)) := Lib.hid (marB_step C N k u hlt hu (by omega))
      rw [hu] at hck u1 u2
      have hun : u < N := by omega
      have hcell := own.cell (k := u) (by rw [marB_len]; omega)
      have hf := own.free u
      clear hc hu
      go_wp2_with fail
      go_roundw
      case rel => exact ⟨k + 1, by omega, by go_num, by rw [← HU.out]; exact own.stored u true, B.setCell (by simp; omega) _⟩
      case measure => simp [intOf]; omega
    · have ek : Hid (k = C.length) := Lib.hid (by omega)
      have own' : OwnBools wr w1.heap.size (.slice (some ⟨w1.heap.size, 0, none⟩) N N) ((List.range N).map (inL C)) := by
        have h := own
        rw [ek.out, marB_all] at h; exact h
      clear own
      go_wp2_with fail
      go_ret
      exact ⟨_, rfl, own'.rebase (by omega), B⟩

end Go.Proofs.YtcnnijeokefboaaGreatDoor

namespace Go.Proofs.YtcnnijeokefboaaGreatDoor
open Go.RowKit Go.Shelf Cv
set_option linter.unusedVariables false
set_option linter.unusedSimpArgs false
set_option maxRecDepth 100000

/-- slices.IndexFunc on a list that came in, with a function that may make memory -/
theorem indexFunc_ints (a : Option Addr) (cap : Nat) (L : List Int) (f : Nat) (eg : ∀ args w, (callFunc f args).run Tryz.prog w = .ok (.enter f args) w) (pre post : Array Value) (p : Int → Bool) (w : World) (hl : L.length ≤ 4294967296)
    (hL : Ints w a L) (hp : ∀ (W : World) (x : Int), Below w.heap.size w W → x ∈ L → Calls Tryz.prog f (pre.push (.int .i64 x) ++ post) W fun e w' => e = .returned (.bool (p x)) ∧ Below W.heap.size W w') :
    Calls Tryz.prog 141 #[.slice a L.length cap, .func (.func f) pre post] w fun e w' => ∃ r : Int, e = .returned (.int .i64 r) ∧ Below w.heap.size w w' ∧
      Hid ((r = -1 ∧ ∀ j, j < L.length → p (gi L j) = false) ∨ ∃ k : Nat, k < L.length ∧ r = k ∧ p (gi L k) = true ∧ ∀ j, j < k → p (gi L j) = false) := by
  have HP := Lib.hid hp
  clear hp
  go_enter Tryz.func141, Tryz.ntmps141
  go_wp2_with fail
  go_loopw [8] (fun i wr => ∃ k : Nat, k ≤ L.length ∧ i = .int .i64 k ∧ Below w.heap.size w wr ∧ Hid (∀ j, j < k → p (gi L j) = false)) (fun i _ => L.length - (intOf i).toNat)
  case atStart => exact ⟨0, Nat.zero_le _, rfl, Below.refl _ _, Lib.hid fun j hj => by omega⟩
  case round =>
    obtain ⟨k, hk, rfl, B, HA⟩ := hrel
    by_cases hlt : k < L.length
    · obtain ⟨b, o, rfl, hbl, hc0⟩ := hL.at hlt
      have hc := kept_cell B (hc0 k hlt) hbl
      have hcall := HP.out wr (gi L k) B (gi_mem hlt)
      have hs := B.size
      clear hc0
      cases hq : p (gi L k) with
      | true =>
        rw [hq] at hcall
        have HQ := Lib.hid hq
        clear hq
        go_wp2_with fail
        refine hcall.mono ?_
        rintro e w2 ⟨rfl, hb⟩
        go_wp2_with fail
        go_ret
        exact ⟨k, rfl, B.trans (hb.mono hs), Lib.hid (.inr ⟨k, hlt, rfl, HQ.out, HA.out⟩)⟩
      | false =>
        rw [hq] at hcall
        have HQ := Lib.hid hq
        clear hq
        go_wp2_with fail
        refine hcall.mono ?_
        rintro e w2 ⟨rfl, hb⟩
        go_wp2_with fail
        go_roundw
        case rel =>
          refine ⟨k + 1, by omega, by go_num, B.trans (hb.mono hs), Lib.hid fun j hj => ?_⟩
          by_cases e : j = k
          · subst e; exact HQ.out
          · exact HA.out j (by omega)
        case measure => simp [intOf]; omega
    · have ek : Hid (k = L.length) := Lib.hid (by omega)
      go_wp2_with fail
      go_ret
      exact ⟨-1, rfl, B, Lib.hid (.inl ⟨rfl, by rw [← ek.out]; exact HA.out⟩)⟩

theorem containsFunc_ints (a : Option Addr) (cap : Nat) (L : List Int) (f : Nat) (eg : ∀ args w, (callFunc f args).run Tryz.prog w = .ok (.enter f args) w) (pre post : Array Value) (p : Int → Bool) (w : World) (hl : L.length ≤ 4294967296)
    (hL : Ints w a L) (hp : ∀ (W : World) (x : Int), Below w.heap.size w W → x ∈ L → Calls Tryz.prog f (pre.push (.int .i64 x) ++ post) W fun e w' => e = .returned (.bool (p x)) ∧ Below W.heap.size W w') :
    Calls Tryz.prog 107 #[.slice a L.length cap, .func (.func f) pre post] w fun e w' => e = .returned (.bool (L.any p)) ∧ Below w.heap.size w w' := by
  have hidx := indexFunc_ints a cap L f eg pre post p w hl hL hp
  clear hp
  go_enter Tryz.func107, Tryz.ntmps107
  go_wp2_with fail
  refine hidx.mono ?_
  rintro e w1 ⟨r, rfl, hb, H⟩
  have hany : Hid (L.any p = decide (0 ≤ r)) := Lib.hid (by
    rw [Bool.eq_iff_iff, List.any_eq_true, decide_eq_true_eq]
    rcases H.out with ⟨h1, h2⟩ | ⟨k, h1, h2, h3, _⟩
    · constructor
      · rintro ⟨x, hx, hp⟩
        obtain ⟨j, hj, e⟩ := mem_gi hx
        have := h2 j hj
        rw [e, hp] at this; cases this
      · omega
    · exact ⟨fun _ => by omega, fun _ => ⟨_, gi_mem h1, h3⟩⟩)
  go_wp2_with fail
  go_ret
  exact ⟨ret_bool hany.out.symm, hb⟩

end Go.Proofs.YtcnnijeokefboaaGreatDoor

namespace Go.Proofs.YtcnnijeokefboaaGreatDoor
open Go.RowKit Go.Shelf Cv
set_option linter.unusedVariables false
set_option linter.unusedSimpArgs false
set_option maxRecDepth 100000

theorem isOther_any (qb : Nat) (q x : Int) (W : World) (h : W.cell? ⟨qb, 0, none⟩ = some (.int .i64 q)) :
    Calls Tryz.prog 106 #[.int .i64 x, .pointer (some ⟨qb, 0, none⟩)] W fun e w' => e = .returned (.bool (x != q)) ∧ Below W.heap.size W w' := by
  go_enter Tryz.func106, Tryz.ntmps106
  go_wp2
  go_ret
  exact ⟨rfl, Below.refl _ _⟩

set_option maxHeartbeats 1000000 in
theorem isPlain_any (ao : Option Addr) (S : List Int) (cap : Nat) (h1 : 1 ≤ S.length) (hn : S.length ≤ 4294967296) (w : World) (hS : Ints w ao S) :
    Calls Tryz.prog 54 #[.agg #[.slice ao S.length cap]] w fun e w' => e = .returned (.bool (isPl S)) ∧ Below w.heap.size w w' := by
  obtain ⟨b, o, rfl, hbl, hc⟩ := hS.at (show 0 < S.length by omega)
  have hc0 := hc 0 (by omega)
  have hk0 : (w.alloc (.cells #[.slice (some ⟨b, o, none⟩) S.length cap] 26)).cell? ⟨b, o + 0, none⟩ = some (.int .i64 (gi S 0)) := kept_cell ((Below.refl _ _).alloc (Nat.le_refl _) _) hc0 hbl
  rw [Nat.add_zero] at hk0
  clear hc hc0
  have HP := Lib.hid (isPl_any h1)
  by_cases hq : gi S 0 ≤ 3
  · obtain ⟨W2, hW2⟩ : ∃ W2, W2 = (w.alloc (.cells #[.slice (some ⟨b, o, none⟩) S.length cap] 26)).alloc (.cells #[.int .i64 (gi S 0)] 2) := ⟨_, rfl⟩
    have B2 : Below w.heap.size w W2 := by rw [hW2]; go_grown
    have s2 : W2.heap.size = w.heap.size + 1 + 1 := by rw [hW2]; simp
    have hnb : W2.cell? ⟨w.heap.size + 1, 0, none⟩ = some (.int .i64 (gi S 0)) := by
      have h := cell_new (w.alloc (.cells #[.slice (some ⟨b, o, none⟩) S.length cap] 26)) (.int .i64 (gi S 0)) 2
      rw [World.size_alloc] at h; rw [hW2]; exact h
    have HW2 := Lib.hid hW2
    have hcont := containsFunc_ints (some ⟨b, o, none⟩) cap S 106 (enters_of Tryz.func106 (by kernel_rfl) rfl) #[] #[.pointer (some ⟨w.heap.size + 1, 0, none⟩)] (fun x => x != gi S 0) W2 hn (hS.below B2) (fun W' x hb' _ => isOther_any (w.heap.size + 1) (gi S 0) x W' (kept_cell hb' hnb (by omega)))
    clear hW2
    go_enter Tryz.func54, Tryz.ntmps54
    go_wp2_with fail
    rw [← HW2.out]
    refine hcont.mono ?_
    rintro e w3 ⟨rfl, hb3⟩
    go_wp2_with fail
    go_ret
    exact ⟨ret_bool (by rw [HP.out, decide_eq_true hq]; rfl), B2.trans (hb3.mono (by omega))⟩
  · go_enter Tryz.func54, Tryz.ntmps54
    go_wp2_with fail
    go_ret
    exact ⟨ret_bool (by rw [HP.out, decide_eq_false (by omega)]; rfl), by go_grown⟩

set_option maxHeartbeats 1000000 in
theorem l05Plain_any (ao : Option Addr) (S : List Int) (cap : Nat) (hn : S.length ≤ 4294967296) (w : World) (hS : Ints w ao S) :
    Calls Tryz.prog 56 #[.agg #[.slice ao S.length cap]] w fun e w' => e = .returned (.bool (isPl S)) ∧ Below w.heap.size w w' := by
  have B0 : Below w.heap.size w (w.alloc (.cells #[.slice ao S.length cap] 26)) := by go_grown
  have c0 := cell_new w (.slice ao S.length cap) 26
  have l0 := lt_alloc w (.cells #[.slice ao S.length cap] 26)
  go_enter Tryz.func56, Tryz.ntmps56
  go_wp2_with fail
  go_loopw [7] (fun i wr => ∃ k : Nat, k ≤ S.length ∧ i = .int .i64 k ∧ Hid (∀ j, j < k → gi S j = gi S 0 ∧ gi S j ≤ 3) ∧ wr.cell? ⟨w.heap.size, 0, none⟩ = some (.slice ao S.length cap) ∧ w.heap.size < wr.heap.size ∧ Below w.heap.size w wr) (fun i _ => S.length - (intOf i).toNat)
  case atStart => exact ⟨0, Nat.zero_le _, rfl, Lib.hid fun j h => by omega, c0, l0, B0⟩
  case round =>
    clear c0 l0 B0
    obtain ⟨k, hk, rfl, HK, c, l, B⟩ := hrel
    by_cases hlt : k < S.length
    · obtain ⟨b, o, rfl, hbl, hc⟩ := hS.at hlt
      have hck := kept_cell B (hc k hlt) hbl
      have hc0 := kept_cell B (hc 0 (by omega)) hbl
      rw [Nat.add_zero] at hc0
      have i1 : (0 : Int) ≤ (k : Int) := by omega
      have i2 : (k : Int) < (S.length : Int) := by omega
      have i3 : (0 : Int) < (S.length : Int) := by omega
      clear hc
      by_cases hq : gi S k = gi S 0
      · have e1 : (gi S k != gi S 0) = false := by simp [hq]
        by_cases hq3 : 3 < gi S k
        · have HQ := Lib.hid (isPl_not hlt (by omega))
          have hd : decide (3 < gi S k) = true := by simpa using hq3
          clear hq hq3
          go_wp2_with fail
          go_quiet (fail)
          go_wp2_with fail
          go_ret
          exact ⟨ret_bool HQ.out.symm, below_drewN B _⟩
        · have HQ := Lib.hid (And.intro hq (show gi S k ≤ 3 by omega))
          have hd : decide (3 < gi S k) = false := by simpa using hq3
          clear hq hq3
          go_wp2_with fail
          go_quiet (fail)
          go_wp2_with fail
          go_roundw
          case rel =>
            refine ⟨k + 1, by omega, by go_num, Lib.hid fun j hj => ?_, c, l, below_drewN B _⟩
            by_cases e : j = k
            · subst e; exact HQ.out
            · exact HK.out j (by omega)
          case measure => simp [intOf]; omega
      · have HQ := Lib.hid (isPl_not hlt (by omega))
        have e1 : (gi S k != gi S 0) = true := by simpa using hq
        clear hq
        go_wp2_with fail
        go_quiet (fail)
        go_wp2_with fail
        go_ret
        exact ⟨ret_bool HQ.out.symm, below_drewN B _⟩
    · have HP : Hid (isPl S = true) := Lib.hid ((isPl_iff S).2 fun j hj => HK.out j (by omega))
      go_wp2_with fail
      go_ret
      exact ⟨ret_bool HP.out.symm, B⟩

theorem impl_IsPlain (ao : Option Addr) (S : List Int) (cap : Nat) (hn : S.length ≤ 4294967296) (w : World) (hS : Ints w ao S) :
    Calls Tryz.prog 9 #[.agg #[.slice ao S.length cap]] w fun e w' => e = .returned (.tuple #[.bool (vIsPl S), .int .i64 (eSp S)]) ∧ Below w.heap.size w w' := by
  have B0 : Below w.heap.size w (w.alloc (.cells #[.slice ao S.length cap] 26)) := by go_grown
  cases hsp : isSp S with
  | true =>
    have HV : Hid (vIsPl S = isPl S) := Lib.hid (by unfold vIsPl; rw [if_pos hsp])
    have HE : Hid (eSp S = 0) := Lib.hid (by unfold eSp; rw [if_pos hsp])
    have hlo := ((isSp_iff S).1 hsp).lo
    go_enter Tryz.func9, Tryz.ntmps9
    go_wp2_with fail
    refine (IsSpace_any ao S cap _ hn (hS.below B0)).mono ?_
    rw [hsp]
    rintro e w1 ⟨rfl, hb1⟩
    have B1 := B0.trans (hb1.mono (by simp))
    have c0 := kept_cell hb1 (cell_new w (.slice ao S.length cap) 26) (lt_alloc _ _)
    clear hb1 B0
    go_wp2_with fail
    refine (isPlain_any ao S cap hlo hn _ (hS.below B1)).mono ?_
    rintro e w2 ⟨rfl, hb2⟩
    go_wp2_with fail
    go_ret2
    exact ⟨by rw [HV.out, HE.out]; rfl, B1.trans (hb2.mono B1.size)⟩
  | false =>
    have HV : Hid (vIsPl S = false) := Lib.hid (by unfold vIsPl; rw [if_neg (by rw [hsp]; decide)])
    have HE : Hid (eSp S = 1) := Lib.hid (by unfold eSp; rw [if_neg (by rw [hsp]; decide)])
    go_enter Tryz.func9, Tryz.ntmps9
    go_wp2_with fail
    refine (IsSpace_any ao S cap _ hn (hS.below B0)).mono ?_
    rw [hsp]
    rintro e w1 ⟨rfl, hb1⟩
    have B1 := B0.trans (hb1.mono (by simp))
    go_wp2_with fail
    go_ret2
    exact ⟨by rw [HV.out, HE.out]; rfl, B1⟩

theorem spec_IsPlain (ao : Option Addr) (S : List Int) (cap : Nat) (hn : S.length ≤ 4294967296) (w : World) (hS : Ints w ao S) :
    Calls Tryz.prog 10 #[.agg #[.slice ao S.length cap]] w fun e w' => e = .returned (.tuple #[.bool (vIsPl S), .int .i64 (eSp S)]) ∧ Below w.heap.size w w' := by
  have B0 : Below w.heap.size w (w.alloc (.cells #[.slice ao S.length cap] 26)) := by go_grown
  cases hsp : isSp S with
  | true =>
    have HV : Hid (vIsPl S = isPl S) := Lib.hid (by unfold vIsPl; rw [if_pos hsp])
    have HE : Hid (eSp S = 0) := Lib.hid (by unfold eSp; rw [if_pos hsp])
    go_enter Tryz.func10, Tryz.ntmps10
    go_wp2_with fail
    refine (l01Is_any ao S cap _ hn (hS.below B0)).mono ?_
    rw [hsp]
    rintro e w1 ⟨rfl, hb1⟩
    have B1 := B0.trans (hb1.mono (by simp))
    have c0 := kept_cell hb1 (cell_new w (.slice ao S.length cap) 26) (lt_alloc _ _)
    clear hb1 B0
    go_wp2_with fail
    refine (l05Plain_any ao S cap hn _ (hS.below B1)).mono ?_
    rintro e w2 ⟨rfl, hb2⟩
    go_wp2_with fail
    go_ret2
    exact ⟨by rw [HV.out, HE.out]; rfl, B1.trans (hb2.mono B1.size)⟩
  | false =>
    have HV : Hid (vIsPl S = false) := Lib.hid (by unfold vIsPl; rw [if_neg (by rw [hsp]; decide)])
    have HE : Hid (eSp S = 1) := Lib.hid (by unfold eSp; rw [if_neg (by rw [hsp]; decide)])
    go_enter Tryz.func10, Tryz.ntmps10
    go_wp2_with fail
    refine (l01Is_any ao S cap _ hn (hS.below B0)).mono ?_
    rw [hsp]
    rintro e w1 ⟨rfl, hb1⟩
    have B1 := B0.trans (hb1.mono (by simp))
    go_wp2_with fail
    go_ret2
    exact ⟨by rw [HV.out, HE.out]; rfl, B1⟩

end Go.Proofs.YtcnnijeokefboaaGreatDoor
