/-
  The contracts of what the models make lists with: 'l01Own', 'l01Put', 'l01Has'. By an AI agent.
-/
import Derived.Test.YtamebfbddoeflaaPkMath
import Derived.Test.YtamebfbddoeflaaPkAppend
import Derived.Test.YtamebfbddoeflaaPk20
namespace Go.Proofs.Ytamebfbddoeflaa
open Go.RowKit Cv
set_option linter.unusedVariables false
set_option linter.unusedSimpArgs false
set_option maxRecDepth 100000

theorem own_cap {w : World} {base g n cap : Nat} {T : List Int} (h : OwnInts w base (.slice (some ⟨g, 0, none⟩) n cap) T) : n ≤ cap ∧ cap ≤ maxLen := by
  rcases h.2 with ⟨hv, _⟩ | ⟨g', c', _, hv, hb, hh, hle, hm, _⟩ <;> simp only [Value.slice.injEq] at hv
  · exact absurd hv.1 (by simp)
  · obtain ⟨_, rfl, rfl⟩ := hv
    exact ⟨hle, hm⟩

theorem wpList_append_ints {w : World} {ops : Array Oper} {rest : List Oper} {o : Oper} {a : Act} {Q : Exit → Act → World → Prop} (hgd : o.guard = none) (s x : Operand)
    (ho : o.op = .call { callee := .builtin .append, args := #[s, x], argTypes := #[24, 24] })
    (base : Nat) (v : Value) (L : List Int) (hs : a.eval s = v) (hown : OwnInts w base v L) (ad : Addr) (T : List Int) (m c : Nat) (hm : m = T.length) (hx : a.eval x = .slice (some ad) m c) (hT : Ints w (some ad) T)
    (hlen : L.length + m ≤ 1073741824) (hbase : base ≤ w.heap.size)
    (h : ∀ v' w', OwnInts w' base v' (L ++ T) → w.grownBy w' v.ownBlock → (v' = .slice none 0 0 ↔ v = .slice none 0 0 ∧ m = 0) → wpList Try.prog ops Q rest (a.put o.dst v') w') : wpList Try.prog ops Q (o :: rest) a w := by
  subst hm
  obtain ⟨i0, hi, hz0, hz1, hz2⟩ := info_parts infoI64
  refine wpList_append_own w hgd s x 24 ho base 2 i0 (.int .i64 0) 1 8 Try.underlying24 hi hz0 hz1 hz2 rfl (by decide) v L.length (L.map (Value.int .i64)) hs hown ad T.length c (T.map (Value.int .i64)) hx (by simp) ?_ ?_ (by unfold maxLen; omega) (by omega) hbase ?_
  · intro j u hj
    have hlt : j < T.length := by
      have := (List.getElem?_eq_some_iff.1 hj).1
      simpa using this
    obtain ⟨b, o', he, _, hc⟩ := hT.at hlt
    obtain rfl : ad = ⟨b, o', none⟩ := by simpa using he
    rw [gi_map T j hlt] at hj
    have := hc j hlt
    simp only [Option.some.injEq] at hj
    subst hj
    by_cases e : j = 0
    · subst e; simpa [Addr.add] using this
    · simpa [Addr.add, e] using this
  · intro u hu
    obtain ⟨y, _, rfl⟩ := List.mem_map.1 hu
    rfl
  · intro v' w' h1 h2 h3
    refine h v' w' ?_ h2 h3
    unfold OwnInts
    rw [List.length_append, List.map_append]
    exact h1

theorem own_ints_take {w : World} {base g n cap : Nat} {T : List Int} (h : OwnInts w base (.slice (some ⟨g, 0, none⟩) n cap) T) (k : Nat) : Ints w (some ⟨g, 0, none⟩) (T.take k) := by
  by_cases e : (T.take k).length = 0
  · exact .inl e
  · refine .inr ⟨g, 0, rfl, h.base_le.2, fun i hi => ?_⟩
    rw [List.length_take] at hi
    rw [gi_take T k i (by omega), Nat.zero_add]
    exact h.cell (by omega)
theorem own_ints_drop {w : World} {base g n cap : Nat} {T : List Int} (h : OwnInts w base (.slice (some ⟨g, 0, none⟩) n cap) T) (k : Nat) : Ints w (some ⟨g, k, none⟩) (T.drop k) := by
  by_cases e : (T.drop k).length = 0
  · exact .inl e
  · refine .inr ⟨g, k, rfl, h.base_le.2, fun i hi => ?_⟩
    rw [List.length_drop] at hi
    have e2 : gi (T.drop k) i = gi T (k + i) := by simp [gi]
    rw [e2]
    exact h.cell (by omega)

theorem l01Own_any (ad : Addr) (T : List Int) (K cap : Nat) (hK : K = T.length) (hl : K ≤ 1048576) (w : World) (hT : Ints w (some ad) T) :
    Calls Try.prog 53 #[.slice (some ad) K cap] w fun e w' => ∃ g c, e = .returned (.slice (some ⟨g, 0, none⟩) K c) ∧ OwnInts w' w.heap.size (.slice (some ⟨g, 0, none⟩) K c) T ∧ Below w.heap.size w w' := by
  have B0 : Below w.heap.size w (w.alloc (.cells #[] 2)) := by go_grown
  have o0 := own_empty w w.heap.size (Nat.le_refl _) rfl
  have HK := Lib.hid hK
  clear hK
  go_enter Try.func53, Try.ntmps53
  go_wp2_with (at_builtin; refine wpList_append_ints rfl _ _ rfl w.heap.size _ [] rfl o0 ad T K cap HK.out rfl (hT.below B0) (by simp; omega) (by simp) ?_; intro v' w4 hown' hgrow hnil)
  go_ret
  rw [List.nil_append] at hown'
  have hb := grown_below B0 B0.size hgrow o0 (Nat.le_refl _)
  rcases hown'.2 with ⟨hv, hn⟩ | ⟨g, c, cur, hv, _⟩
  · exact absurd (Value.slice.inj (hnil.1 hv).1).1 (by simp)
  · rw [← HK.out] at hv
    subst hv
    exact ⟨g, c, rfl, hown', hb⟩

end Go.Proofs.Ytamebfbddoeflaa
