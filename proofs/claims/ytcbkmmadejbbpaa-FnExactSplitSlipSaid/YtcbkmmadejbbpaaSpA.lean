/-
  The contracts of SplitSlip. By an AI agent.
-/
import Derived.Test.YtcbkmmadejbbpaaRws
import Derived.Test.YtcbkmmadejbbpaaSlE
import Derived.Test.YtcbkmmadejbbpaaSlS
import Derived.Test.YtcbkmmadejbbpaaPlc
namespace Go.Proofs.Ytcbkmmadejbbpaa
open Go.RowKit Cv
set_option linter.unusedVariables false
set_option linter.unusedSimpArgs false
set_option maxRecDepth 100000

theorem wpList_append_slips {w : World} {ops : Array Oper} {rest : List Oper} {o : Oper} {a : Act} {Q : Exit → Act → World → Prop} (hgd : o.guard = none) (s x : Operand)
    (ho : o.op = .call { callee := .builtin .append, args := #[s, x], argTypes := #[51, 51] })
    (base : Nat) (v : Value) (L : List Int) (hs : a.eval s = v) (hown : OwnInts w base v L) (ad : Addr) (T : List Int) (m c : Nat) (hm : m = T.length) (hx : a.eval x = .slice (some ad) m c) (hT : Ints w (some ad) T)
    (hlen : L.length + m ≤ 1073741824) (hbase : base ≤ w.heap.size)
    (h : ∀ v' w', OwnInts w' base v' (L ++ T) → w.grownBy w' v.ownBlock → (v' = .slice none 0 0 ↔ v = .slice none 0 0 ∧ m = 0) → wpList Try.prog ops Q rest (a.put o.dst v') w') : wpList Try.prog ops Q (o :: rest) a w := by
  subst hm
  obtain ⟨i0, hi, hz0, hz1, hz2⟩ := info_parts infoI64
  refine wpList_append_own w hgd s x 51 ho base 2 i0 (.int .i64 0) 1 8 Try.underlying51 hi hz0 hz1 hz2 rfl (by decide) v L.length (L.map (Value.int .i64)) hs hown ad T.length c (T.map (Value.int .i64)) hx (by simp) ?_ ?_ (by unfold maxLen; omega) (by omega) hbase ?_
  · intro j u hj
    have hlt : j < T.length := by
      have := (List.getElem?_eq_some_iff.1 hj).1
      simpa using this
    obtain ⟨b, o', he, _, hc⟩ := hT.at hlt
    obtain rfl : ad = ⟨b, o', none⟩ := by simpa using he
    rw [gi_map T j hlt] at hj
    have := hc j hlt
    simp only [Option.some.injEq] at hj
    subst hj
    by_cases e : j = 0
    · subst e; simpa [Addr.add] using this
    · simpa [Addr.add, e] using this
  · intro u hu
    obtain ⟨y, _, rfl⟩ := List.mem_map.1 hu
    rfl
  · intro v' w' h1 h2 h3
    refine h v' w' ?_ h2 h3
    unfold OwnInts
    rw [List.length_append, List.map_append]
    exact h1

theorem own_made_slip {w : World} {base m : Nat} {v v' : Value} {L : List Int} (h : OwnInts w base v' L) (hnil : v' = .slice none 0 0 ↔ v = .slice none 0 0 ∧ m = 0) (hv : v ≠ .slice none 0 0) : ∃ g c, v' = .slice (some ⟨g, 0, none⟩) L.length c := by
  rcases h.2 with ⟨h1, _⟩ | ⟨g, c, cur, h1, _⟩
  · exact absurd (hnil.1 h1).1 hv
  · exact ⟨g, c, h1⟩
theorem clone_slip (g0 : Nat) (L : List Int) (cap base : Nat) (w : World) (hl : L.length ≤ 1048576) (hb : base ≤ w.heap.size) (a : Addr) (hL : Ints w (some a) L) :
    Calls Try.prog 93 #[.slice (some a) L.length cap] w fun e w' => ∃ g c, e = .returned (.slice (some ⟨g, 0, none⟩) L.length c) ∧ OwnInts w' w.heap.size (.slice (some ⟨g, 0, none⟩) L.length c) L ∧ Below w.heap.size w w' := by
  have B0 : Below w.heap.size w (w.alloc (.cells #[] 2)) := by go_grown
  have o0 := own_empty w w.heap.size (Nat.le_refl _) rfl
  have hnil0 := Lib.run_eql_slice_nil (P := Try.prog) w 51 2 (some a) L.length cap 0 0 Try.underlying51
  go_enter Try.func93, Try.ntmps93
  go_wp2_with (at_builtin; refine wpList_append_slips rfl _ _ rfl w.heap.size _ [] rfl o0 a L L.length cap rfl rfl (hL.below B0) (by simp; omega) B0.size ?_; intro v' w4 hown' hgrow hnil; have hb4 := grown_below B0 B0.size hgrow o0 (Nat.le_refl _); rw [List.nil_append] at hown'; obtain ⟨g, c, hv⟩ := own_made_slip hown' hnil (fun h => absurd (Value.slice.inj h).1 (by simp)); subst hv)
  go_ret
  exact ⟨g, c, rfl, hown', hb4⟩

theorem infoSlip : (Try.prog.info? 51).map (fun i => (i.zero, i.size, i.bytes)) = some (some (.slice none 0 0), 1, 24) := by kernel_rfl
theorem OwnRws.lo {w : World} {lo hi : Nat} {v : Value} {R : List (List Int)} (h : OwnRws w lo hi v R) : ∀ k, v.ownBlock = some k → lo ≤ k := by
  obtain ⟨hs, e1, e2, _⟩ := h
  exact fun k hk => (World.ownsRow.lt e2 k hk).1
/-- an append of one more row -/
theorem wpList_append_rw {w : World} {ops : Array Oper} {rest : List Oper} {o : Oper} {a : Act} {Q : Exit → Act → World → Prop} (hgd : o.guard = none) (s x : Operand)
    (ho : o.op = .call { callee := .builtin .append, args := #[s, x], argTypes := #[48, 48] })
    (lo hi : Nat) (v : Value) (R : List (List Int)) (hs : a.eval s = v) (hown : OwnRws w lo hi v R) (b : Nat) (y : Value) (L : List Int) (hy : OwnInts w lo y L) (hyb : ∀ k, y.ownBlock = some k → hi ≤ k) (hx : a.eval x = .slice (some ⟨b, 0, none⟩) 1 1) (hc : w.cell? ⟨b, 0, none⟩ = some y)
    (hlen : R.length ≤ 1073741824) (hbase : lo ≤ w.heap.size)
    (h : ∀ v' w', OwnRws w' lo w'.heap.size v' (R ++ [L]) → w.grownBy w' v.ownBlock → (v'.ownBlock = v.ownBlock ∨ v'.ownBlock = some w.heap.size) → wpList Try.prog ops Q rest (a.put o.dst v') w') : wpList Try.prog ops Q (o :: rest) a w := by
  obtain ⟨i0, hi0, hz0, hz1, hz2⟩ := info_parts infoSlip
  obtain ⟨hl, e1, e2, e3, e4, e5⟩ := hown
  refine wpList_append_own_at w hgd s x 48 ho lo 51 i0 (.slice none 0 0) 1 24 Try.underlying48 hi0 hz0 hz1 hz2 rfl (by decide) v R.length hl hs e2 ⟨b, 0, none⟩ 1 1 [y] hx rfl ?_ ?_ (by unfold maxLen; omega) (by omega) hbase ?_
  · intro j u hj
    match j, hj with
    | 0, hj => simp at hj; subst hj; simpa [Addr.add] using hc
  · intro u hu; simp at hu; subst hu; rcases hy.2 with ⟨rfl, _⟩ | ⟨_, _, _, rfl, _⟩ <;> rfl
  · intro v' w' h1 h2 _ h3
    have hkeep : ∀ (z : Value) (T : List Int), OwnInts w lo z T → (z.ownBlock = none ∨ z.ownBlock ≠ v.ownBlock) → OwnInts w' lo z T ∧ (z.ownBlock = none ∨ z.ownBlock ≠ v'.ownBlock) := fun z T hz hn => by
      refine ⟨World.ownsRow.kept hz h2 hn, ?_⟩
      rcases h3 with e | e
      · rw [e]; exact hn
      · rw [e]
        cases hzb : z.ownBlock with
        | none => exact .inl rfl
        | some k =>
          refine .inr fun e5 => ?_
          have := (World.ownsRow.lt hz k hzb).2
          have := Option.some.inj e5
          omega
    have hyv : y.ownBlock = none ∨ y.ownBlock ≠ v.ownBlock := by
      cases hyo : y.ownBlock with
      | none => exact .inl rfl
      | some k =>
        refine .inr fun e => ?_
        have g1 := hyb k hyo
        have g2 := e3 k e.symm
        omega
    have hrow : w'.ownsRow lo 51 1 v' (R ++ [L]).length (hl ++ [y]) := by rw [List.length_append]; exact h1
    refine h v' w' ⟨hl ++ [y], by simp [e1], hrow, fun k hk => (World.ownsRow.lt hrow k hk).2, fun i hi => ?_, fun i j z z' hne hii hjj => ?_⟩ h2 h3
    · rw [List.length_append] at hi
      have hi' : i < R.length + 1 := by simpa using hi
      by_cases hlt : i < R.length
      · obtain ⟨z, hz, ho2, hn, hk⟩ := e4 i hlt
        obtain ⟨k1, k2⟩ := hkeep z _ ho2 hn
        exact ⟨z, by rw [List.getElem?_append_left (by omega)]; exact hz, by rw [rr_app R L i hi', if_neg (by omega)]; exact k1, k2, fun k e => (World.ownsRow.lt k1 k e).2⟩
      · have ei : i = R.length := by omega
        subst ei
        obtain ⟨k1, k2⟩ := hkeep y _ hy hyv
        exact ⟨y, by rw [List.getElem?_append_right (by omega), e1]; simp, by rw [rr_app R L _ hi', if_pos rfl]; exact k1, k2, fun k e => (World.ownsRow.lt k1 k e).2⟩
    · have hil : i < R.length + 1 := by have := (List.getElem?_eq_some_iff.1 hii).1; simp [e1] at this; exact this
      have hjl : j < R.length + 1 := by have := (List.getElem?_eq_some_iff.1 hjj).1; simp [e1] at this; exact this
      have old : ∀ i z, i < R.length → (hl ++ [y])[i]? = some z → hl[i]? = some z := fun i z h1 h2 => by rwa [List.getElem?_append_left (by omega)] at h2
      have new : ∀ z, (hl ++ [y])[R.length]? = some z → z = y := fun z h2 => by
        rw [List.getElem?_append_right (by omega), e1] at h2
        simpa using h2.symm
      have apart : ∀ i z, i < R.length → hl[i]? = some z → ∀ k, z.ownBlock = some k → k < hi := fun i z h1 h2 k hk => by
        obtain ⟨z2, hz2, _, _, hk2⟩ := e4 i h1
        rw [h2] at hz2
        obtain rfl := Option.some.inj hz2
        exact hk2 k hk
      by_cases a1 : i < R.length
      · by_cases a2 : j < R.length
        · exact e5 i j z z' hne (old i z a1 hii) (old j z' a2 hjj)
        · have ej : j = R.length := by omega
          subst ej
          obtain rfl := new z' hjj
          cases hzo : z.ownBlock with
          | none => exact .inl rfl
          | some k =>
            refine .inr fun e => ?_
            have g1 := apart i z a1 (old i z a1 hii) k hzo
            have g2 := hyb k e.symm
            omega
      · have ei : i = R.length := by omega
        subst ei
        obtain rfl := new z hii
        have a2 : j < R.length := by omega
        cases hzo : z.ownBlock with
        | none => exact .inl rfl
        | some k =>
          refine .inr fun e => ?_
          have g1 := apart j z' a2 (old j z' a2 hjj) k e.symm
          have g2 := hyb k hzo
          omega

end Go.Proofs.Ytcbkmmadejbbpaa
