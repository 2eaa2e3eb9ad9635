/-
  slices.IndexFunc and slices.ContainsFunc on a list of checks. By an AI agent.
-/
import Derived.Test.YtdacokgmcenjoaaDoorChk
import Derived.Test.YtdacokgmcenjoaaDoorCtn
namespace Go.Proofs.YtdacokgmcenjoaaDoor
open Go.RowKit Go.Shelf Cv
set_option linter.unusedVariables false
set_option linter.unusedSimpArgs false
set_option maxRecDepth 100000

/-- the values V lie at a -/
def Vals (w : World) (a : Option Addr) (V : List Value) : Prop :=
  V.length = 0 ∨ ∃ b o, a = some ⟨b, o, none⟩ ∧ b < w.heap.size ∧ ∀ i v, V[i]? = some v → w.cell? ⟨b, o + i, none⟩ = some v
theorem Vals.below {w w' : World} {a : Option Addr} {V : List Value} (h : Vals w a V) (hb : Below w.heap.size w w') : Vals w' a V := by
  rcases h with h | ⟨b, o, rfl, hlt, hc⟩
  · exact .inl h
  · exact .inr ⟨b, o, rfl, Nat.lt_of_lt_of_le hlt hb.size, fun i v hi => (hb.cell (p := ⟨b, o + i, none⟩) hlt).trans (hc i v hi)⟩
theorem vals_row {w : World} {base n : Nat} {e : TypeId} {v : Value} {V : List Value} (h : w.ownsRow base e 1 v n V) (hn : V.length = n) : ∃ a cap, v = .slice a n cap ∧ Vals w a V := by
  rcases h.2 with ⟨hv, h0⟩ | ⟨g, cap, cur, rfl, hb, hh, r⟩
  · exact ⟨none, 0, by rw [h0]; exact hv, .inl (by omega)⟩
  · refine ⟨_, cap, rfl, .inr ⟨g, 0, rfl, (Array.getElem?_eq_some_iff.1 hh).1, fun i v hi => ?_⟩⟩
    have hlt : i < V.length := (List.getElem?_eq_some_iff.1 hi).1
    rw [Nat.zero_add, World.ownsRow.cellAt h i (by omega), hi]

theorem indexFunc_chks (a : Option Addr) (cap : Nat) (V : List Value) (f : Nat) (eg : ∀ args w, (callFunc f args).run Tryd.prog w = .ok (.enter f args) w) (pre post : Array Value) (p : Nat → Bool) (w : World) (hl : V.length ≤ 4294967296)
    (hV : Vals w a V) (hp : ∀ (W : World) (j : Nat) (v : Value), Below w.heap.size w W → V[j]? = some v → Calls Tryd.prog f (pre.push v ++ post) W fun e w' => e = .returned (.bool (p j)) ∧ Below W.heap.size W w') :
    Calls Tryd.prog 58 #[.slice a V.length cap, .func (.func f) pre post] w fun e w' => ∃ r : Int, e = .returned (.int .i64 r) ∧ Below w.heap.size w w' ∧
      Hid ((r = -1 ∧ ∀ j, j < V.length → p j = false) ∨ ∃ k : Nat, k < V.length ∧ r = k ∧ p k = true ∧ ∀ j, j < k → p j = false) := by
  have HP := Lib.hid hp
  have HV := Lib.hid hV
  obtain ⟨n, hn⟩ : ∃ n, n = V.length := ⟨_, rfl⟩
  rw [← hn] at hl ⊢
  have HN := Lib.hid hn
  clear hp hV hn
  go_enter Tryd.func58, Tryd.ntmps58
  go_wp2_with fail
  go_loopw [8] (fun i wr => ∃ k : Nat, k ≤ n ∧ i = .int .i64 k ∧ Below w.heap.size w wr ∧ Hid (∀ j, j < k → p j = false)) (fun i _ => n - (intOf i).toNat)
  case atStart => exact ⟨0, Nat.zero_le _, rfl, Below.refl _ _, Lib.hid fun j hj => by omega⟩
  case round =>
    obtain ⟨k, hk, rfl, B, HA⟩ := hrel
    by_cases hlt : k < n
    · obtain ⟨v, hv⟩ : ∃ v, V[k]? = some v := ⟨_, List.getElem?_eq_getElem (by rw [← HN.out]; exact hlt)⟩
      obtain ⟨b, o, ha, hbl, hc0⟩ : ∃ b o, a = some ⟨b, o, none⟩ ∧ b < w.heap.size ∧ ∀ i v, V[i]? = some v → w.cell? ⟨b, o + i, none⟩ = some v := by
        rcases HV.out with h | h
        · have := HN.out; omega
        · exact h
      subst ha
      have hc := kept_cell B (hc0 k v hv) hbl
      have hcall := HP.out wr k v B hv
      have hs := B.size
      clear hc0 hv
      cases hq : p k with
      | true =>
        rw [hq] at hcall
        have HQ := Lib.hid hq
        clear hq
        go_wp2_with fail
        refine hcall.mono ?_
        rintro e w2 ⟨rfl, hb⟩
        go_wp2_with fail
        go_ret
        exact ⟨k, rfl, B.trans (hb.mono hs), Lib.hid (.inr ⟨k, hlt, rfl, HQ.out, HA.out⟩)⟩
      | false =>
        rw [hq] at hcall
        have HQ := Lib.hid hq
        clear hq
        go_wp2_with fail
        refine hcall.mono ?_
        rintro e w2 ⟨rfl, hb⟩
        go_wp2_with fail
        go_roundw
        case rel =>
          refine ⟨k + 1, by omega, by go_num, B.trans (hb.mono hs), Lib.hid fun j hj => ?_⟩
          by_cases e : j = k
          · subst e; exact HQ.out
          · exact HA.out j (by omega)
        case measure => simp [intOf]; omega
    · have ek : Hid (k = n) := Lib.hid (by omega)
      go_wp2_with fail
      go_ret
      exact ⟨-1, rfl, B, Lib.hid (.inl ⟨rfl, by rw [← ek.out]; exact HA.out⟩)⟩

theorem containsFunc_chks (a : Option Addr) (cap : Nat) (V : List Value) (f : Nat) (eg : ∀ args w, (callFunc f args).run Tryd.prog w = .ok (.enter f args) w) (pre post : Array Value) (p : Nat → Bool) (w : World) (hl : V.length ≤ 4294967296)
    (hV : Vals w a V) (hp : ∀ (W : World) (j : Nat) (v : Value), Below w.heap.size w W → V[j]? = some v → Calls Tryd.prog f (pre.push v ++ post) W fun e w' => e = .returned (.bool (p j)) ∧ Below W.heap.size W w') :
    Calls Tryd.prog 42 #[.slice a V.length cap, .func (.func f) pre post] w fun e w' => e = .returned (.bool (decide (∃ j, j < V.length ∧ p j = true))) ∧ Below w.heap.size w w' := by
  have hidx := indexFunc_chks a cap V f eg pre post p w hl hV hp
  clear hp hV
  go_enter Tryd.func42, Tryd.ntmps42
  go_wp2_with fail
  refine hidx.mono ?_
  rintro e w1 ⟨r, rfl, hb, H⟩
  have hany : Hid (decide (∃ j, j < V.length ∧ p j = true) = decide (0 ≤ r)) := Lib.hid (by
    rw [Bool.eq_iff_iff, decide_eq_true_eq, decide_eq_true_eq]
    rcases H.out with ⟨h1, h2⟩ | ⟨k, h1, h2, h3, _⟩
    · constructor
      · rintro ⟨j, hj, hp⟩
        rw [h2 j hj] at hp; cases hp
      · omega
    · exact ⟨fun _ => by omega, fun _ => ⟨k, h1, h3⟩⟩)
  go_wp2_with fail
  go_ret
  exact ⟨ret_bool hany.out.symm, hb⟩

end Go.Proofs.YtdacokgmcenjoaaDoor
