/-
  The contracts of slices.IndexFunc and slices.DeleteFunc on numbers, with a function that may make memory. By an AI agent.
-/
import Derived.Test.YtcnnijeokefboabMath
import Derived.Test.YtcnnijeokefboabPk4
import Derived.Test.YtcnnijeokefboabPkPut
import Derived.Lib.SliceRun
import Derived.Deep.WholeRow
namespace Go.Proofs.Ytcnnijeokefboab
open Go.RowKit Cv
set_option linter.unusedVariables false
set_option linter.unusedSimpArgs false
set_option maxRecDepth 100000

/-- a function value that answers p at the numbers of L, in every world in which what lay below n lies still -/
def PredN (f : Nat) (pre post : Array Value) (p : Int → Bool) (n : Nat) (w : World) (L : List Int) : Prop :=
  ∀ (W : World) (x : Int), Below n w W → x ∈ L → Calls Try.prog f (pre.push (.int .i64 x) ++ post) W fun e w' => e = .returned (.bool (p x)) ∧ Below W.heap.size W w'

theorem indexFunc_any (n g cap : Nat) (L : List Int) (f : Nat) (eg : ∀ args w, (callFunc f args).run Try.prog w = .ok (.enter f args) w) (pre post : Array Value) (p : Int → Bool) (w : World) (hl : L.length ≤ 4294967296)
    (hrow : OwnInts w n (.slice (some ⟨g, 0, none⟩) L.length cap) L) (hp : PredN f pre post p n w L) :
    Calls Try.prog 31 #[.slice (some ⟨g, 0, none⟩) L.length cap, .func (.func f) pre post] w fun e w' => ∃ r : Int, e = .returned (.int .i64 r) ∧ Below w.heap.size w w' ∧
      Hid ((r = -1 ∧ ∀ j, j < L.length → p (gi L j) = false) ∨ ∃ k : Nat, k < L.length ∧ r = k ∧ p (gi L k) = true ∧ ∀ j, j < k → p (gi L j) = false) := by
  obtain ⟨hb1, hb2⟩ := hrow.base_le
  have hcell : ∀ j, j < L.length → w.cell? ⟨g, j, none⟩ = some (.int .i64 (gi L j)) := fun j hj => hrow.cell hj
  have HP := Lib.hid hp
  clear hp
  go_enter Try.func31, Try.ntmps31
  go_wp2_with fail
  go_loopw [8] (fun i wr => ∃ k : Nat, k ≤ L.length ∧ i = .int .i64 k ∧ Below w.heap.size w wr ∧ Hid (∀ j, j < k → p (gi L j) = false)) (fun i _ => L.length - (intOf i).toNat)
  case atStart => exact ⟨0, Nat.zero_le _, rfl, Below.refl _ _, Lib.hid fun j hj => by omega⟩
  case round =>
    obtain ⟨k, hk, rfl, B, HA⟩ := hrel
    by_cases hlt : k < L.length
    · have hc := kept_cell B (hcell k hlt) hb2
      have hcall := HP.out wr (gi L k) (B.mono (by omega)) (gi_mem hlt)
      have hs := B.size
      cases hq : p (gi L k) with
      | true =>
        rw [hq] at hcall
        have HQ := Lib.hid hq
        clear hq
        go_wp2_with fail
        refine hcall.mono ?_
        rintro e w2 ⟨rfl, hb⟩
        go_wp2_with fail
        go_ret
        exact ⟨k, rfl, B.trans (hb.mono hs), Lib.hid (.inr ⟨k, hlt, rfl, HQ.out, HA.out⟩)⟩
      | false =>
        rw [hq] at hcall
        have HQ := Lib.hid hq
        clear hq
        go_wp2_with fail
        refine hcall.mono ?_
        rintro e w2 ⟨rfl, hb⟩
        go_wp2_with fail
        go_roundw
        case rel =>
          refine ⟨k + 1, by omega, by go_num, B.trans (hb.mono hs), Lib.hid fun j hj => ?_⟩
          by_cases e : j = k
          · subst e; exact HQ.out
          · exact HA.out j (by omega)
        case measure => simp [intOf]; omega
    · have ek : Hid (k = L.length) := Lib.hid (by omega)
      go_wp2_with fail
      go_ret
      exact ⟨-1, rfl, B, Lib.hid (.inl ⟨rfl, by rw [← ek.out]; exact HA.out⟩)⟩

/-- what DeleteFunc has done with the first j numbers: i of them are kept -/
def DelI (q : Int → Bool) (L R : List Int) (i j : Nat) : Prop :=
  R.length = L.length ∧ i < j ∧ R.take i = (L.take j).filter q ∧ ((L.take j).filter q).length = i ∧ ∀ t, j ≤ t → gi R t = gi L t
theorem delI_start {q : Int → Bool} {L : List Int} {k : Nat} (hk : k < L.length) (ht : ∀ j, j < k → q (gi L j) = true) (hf : q (gi L k) = false) : DelI q L L k (k + 1) := by
  have e : (L.take (k + 1)).filter q = L.take k := by
    rw [take_snoc L k hk, List.filter_append]
    have e1 : (L.take k).filter q = L.take k := List.filter_eq_self.2 fun x hx => by
      obtain ⟨j, hj, e⟩ := mem_gi hx
      rw [List.length_take] at hj
      rw [gi_take L k j (by omega)] at e
      rw [← e]; exact ht j (by omega)
    rw [e1]; simp [hf]
  exact ⟨rfl, by omega, e.symm, by rw [e, List.length_take]; omega, fun _ _ => rfl⟩
theorem delI_skip {q : Int → Bool} {L R : List Int} {i j : Nat} (h : DelI q L R i j) (hj : j < L.length) (hf : q (gi L j) = false) : DelI q L R i (j + 1) := by
  obtain ⟨h1, h2, h3, h4, h5⟩ := h
  have e : (L.take (j + 1)).filter q = (L.take j).filter q := by rw [take_snoc L j hj, List.filter_append]; simp [hf]
  exact ⟨h1, by omega, by rw [e]; exact h3, by rw [e]; exact h4, fun t ht => h5 t (by omega)⟩
theorem delI_keep {q : Int → Bool} {L R : List Int} {i j : Nat} (h : DelI q L R i j) (hj : j < L.length) (hf : q (gi L j) = true) : DelI q L (R.set i (gi L j)) (i + 1) (j + 1) := by
  obtain ⟨h1, h2, h3, h4, h5⟩ := h
  have e : (L.take (j + 1)).filter q = (L.take j).filter q ++ [gi L j] := by rw [take_snoc L j hj, List.filter_append]; simp [hf]
  refine ⟨by rw [List.length_set]; exact h1, by omega, ?_, by rw [e, List.length_append, h4]; rfl, fun t ht => ?_⟩
  · rw [e, ← h3, take_snoc _ i (by rw [List.length_set]; omega), gi_set R i _ i (by omega), if_pos rfl]
    congr 1
    refine ext_gi (by simp) fun t ht => ?_
    rw [List.length_take, List.length_set] at ht
    rw [gi_take _ i t (by omega), gi_take _ i t (by omega), gi_set R i _ t (by omega), if_neg (by omega)]
  · rw [gi_set R i _ t (by omega), if_neg (by omega)]; exact h5 t (by omega)
theorem delI_end {q : Int → Bool} {L R : List Int} {i : Nat} (h : DelI q L R i L.length) : R.take i = L.filter q ∧ (L.filter q).length = i ∧ i < L.length := by
  obtain ⟨h1, h2, h3, h4, h5⟩ := h
  rw [List.take_length] at h3 h4
  exact ⟨h3, h4, h2⟩

theorem own_take {w : World} {base g n cap : Nat} {T : List Int} (h : OwnInts w base (.slice (some ⟨g, 0, none⟩) n cap) T) (k : Nat) (hk : k ≤ T.length) : OwnInts w base (.slice (some ⟨g, 0, none⟩) k cap) (T.take k) := by
  rcases h.2 with ⟨hv, _⟩ | ⟨g', c', cur, hv, hb, hh, hle, hm, hs, ht⟩
  · simp at hv
  · simp only [Value.slice.injEq, Option.some.injEq, Addr.mk.injEq, and_true, true_and] at hv
    obtain ⟨rfl, rfl, rfl⟩ := hv
    have e : (T.take k).length = k := by rw [List.length_take]; omega
    refine ⟨by simp, .inr ⟨g, cap, cur, by rw [e], hb, hh, by omega, hm, hs, ?_⟩⟩
    rw [e, List.map_take, ← ht, List.take_take]
    congr 1; omega
theorem own_zeros (g : Nat) (m : Nat) : ∀ (o : Nat) (w : World) (base n cap : Nat) (T : List Int), OwnInts w base (.slice (some ⟨g, 0, none⟩) n cap) T →
    ∃ T' : List Int, OwnInts (w.setCells g o (List.replicate m (.int .i64 0))) base (.slice (some ⟨g, 0, none⟩) n cap) T' ∧ T'.length = T.length ∧ T'.take o = T.take o := by
  induction m with
  | zero => intro o w base n cap T h; exact ⟨T, h, rfl, rfl⟩
  | succ m ih =>
    intro o w base n cap T h
    obtain ⟨T', h1, h2, h3⟩ := ih (o + 1) _ base n cap _ (h.stored o 0)
    refine ⟨T', h1, by rw [h2, List.length_set], ?_⟩
    have e := congrArg (List.take o) h3
    rw [List.take_take, List.take_take, Nat.min_eq_left (by omega)] at e
    rw [e, List.take_set_of_le (Nat.le_refl _)]
theorem below_zeros (g : Nat) (m : Nat) : ∀ (o n : Nat) (w0 w : World), Below n w0 w → n ≤ g → Below n w0 (w.setCells g o (List.replicate m (.int .i64 0))) := by
  induction m with
  | zero => intro o n w0 w h _; exact h
  | succ m ih => intro o n w0 w h hg; exact ih (o + 1) n w0 _ (h.setCell (by simpa using hg) _) hg

theorem below_of_grown {w w' : World} {g n : Nat} (hg : w.grownBy w' (some g)) (h1 : n ≤ g) (h2 : n ≤ w.heap.size) : Below n w w' := (Below.refl n w).grown hg h2 fun j hj => by cases hj; exact h1
theorem grown_zeros (g : Nat) (m : Nat) : ∀ (o : Nat) (w0 w : World), w0.grownBy w (some g) → w0.grownBy (w.setCells g o (List.replicate m (.int .i64 0))) (some g) := by
  induction m with
  | zero => intro o w0 w h; exact h
  | succ m ih => intro o w0 w h; exact ih (o + 1) w0 _ (grown_setCell h _ _)

end Go.Proofs.Ytcnnijeokefboab
