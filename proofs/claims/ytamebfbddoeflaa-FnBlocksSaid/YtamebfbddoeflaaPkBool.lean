/-
  Lists of truths that a call made, and the model's set of a code as such a list. By an AI agent.
-/
import Derived.Test.YtamebfbddoeflaaPkSums
import Derived.Test.YtamebfbddoeflaaPkSpace
import Derived.Deep.RegionHeld3
namespace Go.Proofs.Ytamebfbddoeflaa
open Go.RowKit Cv
set_option linter.unusedVariables false
set_option linter.unusedSimpArgs false
set_option maxRecDepth 100000

namespace Cv
/-- element i of a list of truths -/
def gb (B : List Bool) (i : Nat) : Bool := B.getD i false
theorem gb_map (B : List Bool) (i : Nat) (h : i < B.length) : (B.map Value.bool)[i]? = some (.bool (gb B i)) := by simp [gb, h]
/-- the numbers below n, whether they are among the first k of a list -/
def marB (C : List Int) (n k : Nat) : List Bool := (List.range n).map fun (j : Nat) => decide ((j : Int) ∈ C.take k)
theorem marB_len (C : List Int) (n k : Nat) : (marB C n k).length = n := by simp [marB]
theorem marB_0 (C : List Int) (n : Nat) : marB C n 0 = List.replicate n false := by
  apply List.ext_getElem
  · simp [marB]
  · intro i h1 h2; simp [marB]
theorem marB_step (C : List Int) (n k u : Nat) (hk : k < C.length) (hu : gi C k = (u : Int)) (hn : u < n) : (marB C n k).set u true = marB C n (k + 1) := by
  apply List.ext_getElem
  · simp [marB]
  · intro i h1 h2
    simp only [marB, List.length_set, List.length_map, List.length_range] at h1 h2
    simp only [marB, List.getElem_set, List.getElem_map, List.getElem_range]
    rw [take_snoc C k hk, hu]
    by_cases e : u = i
    · subst e; simp
    · rw [if_neg e]
      rw [Bool.eq_iff_iff, decide_eq_true_eq, decide_eq_true_eq, List.mem_append, List.mem_singleton]
      constructor
      · intro h; exact .inl h
      · rintro (h | h)
        · exact h
        · omega
theorem marB_all (C : List Int) (n : Nat) : marB C n C.length = (List.range n).map (inL C) := by
  unfold marB
  refine List.map_congr_left fun j _ => ?_
  rw [List.take_length]; rfl
end Cv

theorem infoBool : (Try.prog.info? 4).map (fun i => (i.zero, i.size, i.bytes)) = some (some (.bool false), 1, 1) := by kernel_rfl
def OwnBools (w : World) (base : Nat) (v : Value) (B : List Bool) : Prop := w.ownsRow base 4 1 v B.length (B.map Value.bool)
theorem OwnBools.below {w w' : World} {base : Nat} {v : Value} {S : List Bool} (h : OwnBools w base v S) (hb : Below w.heap.size w w') : OwnBools w' base v S := by
  obtain ⟨h1, h2⟩ := h
  refine ⟨h1, ?_⟩
  rcases h2 with h2 | ⟨g, cap, cur, hv, hg, hh, r⟩
  · exact Or.inl h2
  · exact Or.inr ⟨g, cap, cur, hv, hg, by rw [hb.block g (Array.getElem?_eq_some_iff.1 hh).1]; exact hh, r⟩
theorem OwnBools.len {w : World} {base : Nat} {a : Option Addr} {n cap : Nat} {T : List Bool} (h : OwnBools w base (.slice a n cap) T) : n = T.length := by
  rcases h.2 with ⟨hv, hn⟩ | ⟨_, _, _, hv, _⟩ <;> simp only [Value.slice.injEq] at hv
  · omega
  · exact hv.2.1
theorem OwnBools.cell {w : World} {base g n cap : Nat} {T : List Bool} (h : OwnBools w base (.slice (some ⟨g, 0, none⟩) n cap) T) {k : Nat} (hk : k < T.length) : w.cell? ⟨g, k, none⟩ = some (.bool (gb T k)) := by
  obtain rfl := h.len
  have h' : w.ownsRow base 4 1 (.slice (some ⟨g, 0, none⟩) T.length cap) T.length (T.map Value.bool) := h
  rw [h'.cellAt k (by omega), gb_map T k hk]
theorem OwnBools.free {w : World} {base g n cap : Nat} {T : List Bool} (h : OwnBools w base (.slice (some ⟨g, 0, none⟩) n cap) T) (k : Nat) : w.frozen? ⟨g, k, none⟩ = false := by
  obtain rfl := h.len
  have h' : w.ownsRow base 4 1 (.slice (some ⟨g, 0, none⟩) T.length cap) T.length (T.map Value.bool) := h
  exact h'.frozenAt k
theorem OwnBools.base_le {w : World} {base g n cap : Nat} {T : List Bool} (h : OwnBools w base (.slice (some ⟨g, 0, none⟩) n cap) T) : base ≤ g ∧ g < w.heap.size := by
  rcases h.2 with ⟨hv, _⟩ | ⟨g', _, _, hv, hb, hh, _⟩ <;> simp only [Value.slice.injEq] at hv
  · exact absurd hv.1 (by simp)
  · have e : g = g' := by simpa using hv.1
    subst e
    exact ⟨hb, (Array.getElem?_eq_some_iff.1 hh).1⟩
theorem OwnBools.stored {w : World} {base g n cap : Nat} {T : List Bool} (h : OwnBools w base (.slice (some ⟨g, 0, none⟩) n cap) T) (k : Nat) (x : Bool) :
    OwnBools (w.setCell ⟨g, k, none⟩ (.bool x)) base (.slice (some ⟨g, 0, none⟩) n cap) (T.set k x) := by
  obtain rfl := h.len
  have h' : w.ownsRow base 4 1 (.slice (some ⟨g, 0, none⟩) T.length cap) T.length (T.map Value.bool) := h
  have := (h'.stored k (.bool x)).1
  unfold OwnBools
  rw [List.length_set, List.map_set]
  exact this
theorem OwnBools.rebase {w : World} {base base' : Nat} {v : Value} {T : List Bool} (h : OwnBools w base v T) (hb : base' ≤ base) : OwnBools w base' v T := by
  refine ⟨h.1, ?_⟩
  rcases h.2 with h2 | ⟨g, cap, cur, hv, hg, r⟩
  · exact .inl h2
  · exact .inr ⟨g, cap, cur, hv, by omega, r⟩
theorem OwnBools.alloc {w : World} {base : Nat} {v : Value} {T : List Bool} (h : OwnBools w base v T) (o : Obj) : OwnBools (w.alloc o) base v T := World.ownsRow.alloc h o
theorem OwnBools.drew {w : World} {base : Nat} {v : Value} {T : List Bool} (h : OwnBools w base v T) : OwnBools w.drew base v T := h
theorem OwnBools.setBelow {w : World} {base : Nat} {v : Value} {T : List Bool} (h : OwnBools w base v T) {a : Addr} (ha : a.block < base) (u : Value) : OwnBools (w.setCell a u) base v T := ownsRow_setCell_below h ha u
theorem ownb_made {w : World} {base : Nat} {v : Value} {n : Nat} (h : w.ownsRow base 4 1 v n (madeCells (Value.bool false).cells (n * 1)).toList) : OwnBools w base v (List.replicate n false) := by
  unfold OwnBools
  rw [List.length_replicate, List.map_replicate, ← toList_madeCells_one]
  rw [Nat.mul_one] at h
  exact h

set_option maxHeartbeats 1000000 in
theorem l05Set_any (ao : Option Addr) (S : List Int) (cap : Nat) (hSp : Sp S) (ac : Option Addr) (C : List Int) (capc : Nat) (hl : C.length ≤ 1048576) (hC : ∀ i, i < C.length → 0 ≤ gi C i ∧ gi C i < nW S) (w : World) (hS : Ints w ao S) (hCI : Ints w ac C) :
    Calls Try.prog 41 #[.agg #[.slice ao S.length cap], .slice ac C.length capc] w fun e w' => ∃ g, e = .returned (.slice (some ⟨g, 0, none⟩) (nW S).toNat (nW S).toNat) ∧ OwnBools w' w.heap.size (.slice (some ⟨g, 0, none⟩) (nW S).toNat (nW S).toNat) ((List.range (nW S).toNat).map (inL C)) ∧ Below w.heap.size w w' := by
  obtain ⟨i0, hi, hz0, hz1, hz2⟩ := info_parts infoBool
  obtain ⟨N1, N2⟩ := nW_bd hSp
  have HSp := Lib.hid hSp
  have HC := Lib.hid hC
  have hhi := hSp.hi
  have B0 : Below w.heap.size w (w.alloc (.cells #[.slice ao S.length cap] 26)) := by go_grown
  obtain ⟨N, hN⟩ : ∃ N : Nat, nW S = (N : Int) := ⟨(nW S).toNat, by omega⟩
  have hN2 : (nW S).toNat = N := by omega
  have HN := Lib.hid hN
  have HNp : Hid (prodTo S S.length = (N : Int)) := Lib.hid hN
  rw [hN] at N1 N2
  rw [hN2]
  clear hSp hC hN hN2
  go_enter Try.func41, Try.ntmps41
  go_wp2_with fail
  refine (l01N_any ao S cap _ hhi HSp.out.bd (hS.below B0)).mono ?_
  rintro e w1 ⟨rfl, hb⟩
  rw [HNp.out]
  have B1 : Below w.heap.size w w1 := B0.trans (hb.mono B0.size)
  have s1 := B1.size
  clear hb B0
  go_wp2_with (at_make; refine wpList_make_full _ rfl _ _ 68 rfl w1.heap.size 4 i0 (.bool false) 1 Try.underlying68 hi hz0 hz1 .i64 .i64 (N : Int) (N : Int) N rfl rfl rfl rfl (by rw [hz2]; omega) (by unfold maxLen; omega) (Nat.le_refl _) ?_; intro w2 hown hgrow)
  have B2 : Below w.heap.size w w2 := B1.trans ((below_grown0 hgrow).mono s1)
  replace hown := ownb_made hown
  rw [← marB_0 C N] at hown
  clear hgrow
  go_loopw [12] (fun i wr => ∃ k : Nat, k ≤ C.length ∧ i = .int .i64 k ∧ OwnBools wr w1.heap.size (.slice (some ⟨w1.heap.size, 0, none⟩) N N) (marB C N k) ∧ Below w.heap.size w wr) (fun i _ => C.length - (intOf i).toNat)
  case atStart => exact ⟨0, Nat.zero_le _, rfl, hown, B2⟩
  case round =>
    clear hown B2
    obtain ⟨k, hk, rfl, own, B⟩ := hrel
    by_cases hlt : k < C.length
    · obtain ⟨b, o, rfl, hbl, hc⟩ := hCI.at hlt
      have hck := kept_cell B (hc k hlt) hbl
      obtain ⟨u1, u2⟩ := HC.out k hlt
      rw [HN.out] at u2
      obtain ⟨u, hu⟩ : ∃ u : Nat, gi C k = (u : Int) := ⟨(gi C k).toNat, by omega⟩
      have HU : Hid ((marB C N k).set u true = marB C N (k + 1)) := Lib.hid (marB_step C N k u hlt hu (by omega))
      rw [hu] at hck u1 u2
      have hun : u < N := by omega
      have hcell := own.cell (k := u) (by rw [marB_len]; omega)
      have hf := own.free u
      clear hc hu
      go_wp2_with fail
      go_roundw
      case rel => exact ⟨k + 1, by omega, by go_num, by rw [← HU.out]; exact own.stored u true, B.setCell (by simp; omega) _⟩
      case measure => simp [intOf]; omega
    · have ek : Hid (k = C.length) := Lib.hid (by omega)
      have own' : OwnBools wr w1.heap.size (.slice (some ⟨w1.heap.size, 0, none⟩) N N) ((List.range N).map (inL C)) := by
        have h := own
        rw [ek.out, marB_all] at h; exact h
      clear own
      go_wp2_with fail
      go_ret
      exact ⟨_, rfl, own'.rebase (by omega), B⟩

end Go.Proofs.Ytamebfbddoeflaa
