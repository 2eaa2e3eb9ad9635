/-
  The contracts of what the models make lists with: 'l01Own', 'l01Put', 'l01Has'. By an AI agent.
-/
import Derived.Test.YtcnnijeokefboaaGreatDoorMath
import Derived.Test.YtcnnijeokefboaaGreatDoorAppend
import Derived.Test.YtcnnijeokefboaaGreatDoorAppendAt
namespace Go.Proofs.YtcnnijeokefboaaGreatDoor
open Go.RowKit Cv
set_option linter.unusedVariables false
set_option linter.unusedSimpArgs false
set_option maxRecDepth 100000

theorem own_cap {w : World} {base g n cap : Nat} {T : List Int} (h : OwnInts w base (.slice (some ⟨g, 0, none⟩) n cap) T) : n ≤ cap ∧ cap ≤ maxLen := by
  rcases h.2 with ⟨hv, _⟩ | ⟨g', c', _, hv, hb, hh, hle, hm, _⟩ <;> simp only [Value.slice.injEq] at hv
  · exact absurd hv.1 (by simp)
  · obtain ⟨_, rfl, rfl⟩ := hv
    exact ⟨hle, hm⟩

theorem wpList_append_ints {w : World} {ops : Array Oper} {rest : List Oper} {o : Oper} {a : Act} {Q : Exit → Act → World → Prop} (hgd : o.guard = none) (s x : Operand)
    (ho : o.op = .call { callee := .builtin .append, args := #[s, x], argTypes := #[24, 24] })
    (base : Nat) (v : Value) (L : List Int) (hs : a.eval s = v) (hown : OwnInts w base v L) (ad : Addr) (T : List Int) (m c : Nat) (hm : m = T.length) (hx : a.eval x = .slice (some ad) m c) (hT : Ints w (some ad) T)
    (hlen : L.length + m ≤ 1073741824) (hbase : base ≤ w.heap.size)
    (h : ∀ v' w', OwnInts w' base v' (L ++ T) → w.grownBy w' v.ownBlock → (v' = .slice none 0 0 ↔ v = .slice none 0 0 ∧ m = 0) → wpList Tryz.prog ops Q rest (a.put o.dst v') w') : wpList Tryz.prog ops Q (o :: rest) a w := by
  subst hm
  obtain ⟨i0, hi, hz0, hz1, hz2⟩ := info_parts infoI64
  refine wpList_append_own w hgd s x 24 ho base 2 i0 (.int .i64 0) 1 8 Tryz.underlying24 hi hz0 hz1 hz2 rfl (by decide) v L.length (L.map (Value.int .i64)) hs hown ad T.length c (T.map (Value.int .i64)) hx (by simp) ?_ ?_ (by unfold maxLen; omega) (by omega) hbase ?_
  · intro j u hj
    have hlt : j < T.length := by
      have := (List.getElem?_eq_some_iff.1 hj).1
      simpa using this
    obtain ⟨b, o', he, _, hc⟩ := hT.at hlt
    obtain rfl : ad = ⟨b, o', none⟩ := by simpa using he
    rw [gi_map T j hlt] at hj
    have := hc j hlt
    simp only [Option.some.injEq] at hj
    subst hj
    by_cases e : j = 0
    · subst e; simpa [Addr.add] using this
    · simpa [Addr.add, e] using this
  · intro u hu
    obtain ⟨y, _, rfl⟩ := List.mem_map.1 hu
    rfl
  · intro v' w' h1 h2 h3
    refine h v' w' ?_ h2 h3
    unfold OwnInts
    rw [List.length_append, List.map_append]
    exact h1

theorem own_ints_take {w : World} {base g n cap : Nat} {T : List Int} (h : OwnInts w base (.slice (some ⟨g, 0, none⟩) n cap) T) (k : Nat) : Ints w (some ⟨g, 0, none⟩) (T.take k) := by
  by_cases e : (T.take k).length = 0
  · exact .inl e
  · refine .inr ⟨g, 0, rfl, h.base_le.2, fun i hi => ?_⟩
    rw [List.length_take] at hi
    rw [gi_take T k i (by omega), Nat.zero_add]
    exact h.cell (by omega)
theorem own_ints_drop {w : World} {base g n cap : Nat} {T : List Int} (h : OwnInts w base (.slice (some ⟨g, 0, none⟩) n cap) T) (k : Nat) : Ints w (some ⟨g, k, none⟩) (T.drop k) := by
  by_cases e : (T.drop k).length = 0
  · exact .inl e
  · refine .inr ⟨g, k, rfl, h.base_le.2, fun i hi => ?_⟩
    rw [List.length_drop] at hi
    have e2 : gi (T.drop k) i = gi T (k + i) := by simp [gi]
    rw [e2]
    exact h.cell (by omega)

theorem l01Own_any (ad : Addr) (T : List Int) (K cap : Nat) (hK : K = T.length) (hl : K ≤ 1048576) (w : World) (hT : Ints w (some ad) T) :
    Calls Tryz.prog 98 #[.slice (some ad) K cap] w fun e w' => ∃ g c, e = .returned (.slice (some ⟨g, 0, none⟩) K c) ∧ OwnInts w' w.heap.size (.slice (some ⟨g, 0, none⟩) K c) T ∧ Below w.heap.size w w' := by
  have B0 : Below w.heap.size w (w.alloc (.cells #[] 2)) := by go_grown
  have o0 := own_empty w w.heap.size (Nat.le_refl _) rfl
  have HK := Lib.hid hK
  clear hK
  go_enter Tryz.func98, Tryz.ntmps98
  go_wp2_with (at_builtin; refine wpList_append_ints rfl _ _ rfl w.heap.size _ [] rfl o0 ad T K cap HK.out rfl (hT.below B0) (by simp; omega) (by simp) ?_; intro v' w4 hown' hgrow hnil)
  go_ret
  rw [List.nil_append] at hown'
  have hb := grown_below B0 B0.size hgrow o0 (Nat.le_refl _)
  rcases hown'.2 with ⟨hv, hn⟩ | ⟨g, c, cur, hv, _⟩
  · exact absurd (Value.slice.inj (hnil.1 hv).1).1 (by simp)
  · rw [← HK.out] at hv
    subst hv
    exact ⟨g, c, rfl, hown', hb⟩

set_option maxHeartbeats 2000000 in
theorem l01Put_any (base g cap : Nat) (L : List Int) (x : Int) (w : World) (hl : L.length ≤ 1048575) (hrow : OwnInts w base (.slice (some ⟨g, 0, none⟩) L.length cap) L) :
    Calls Tryz.prog 123 #[.slice (some ⟨g, 0, none⟩) L.length cap, .int .i64 x] w fun e w' => ∃ g' c', e = .returned (.slice (some ⟨g', 0, none⟩) (putL L x).length c') ∧ OwnInts w' base (.slice (some ⟨g', 0, none⟩) (putL L x).length c') (putL L x) ∧ Below w.heap.size w w' := by
  obtain ⟨hcap, hcm⟩ := own_cap hrow
  obtain ⟨hb1, hb2⟩ := hrow.base_le
  have hI := own_ints hrow
  have hcell : ∀ j, j < L.length → w.cell? ⟨g, j, none⟩ = some (.int .i64 (gi L j)) := fun j hj => hrow.cell hj
  have HL : Hid (putL L x = if 0 < putAt L x L.length ∧ gi L (putAt L x L.length - 1) = x then L else L.take (putAt L x L.length) ++ [x] ++ L.drop (putAt L x L.length)) := Lib.hid rfl
  unfold maxLen at hcm
  go_enter Tryz.func123, Tryz.ntmps123
  go_wp2_with fail
  go_loopw [5] (fun v wr => ∃ k : Nat, k ≤ L.length ∧ v = .int .i64 k ∧ Hid (putAt L x L.length = putAt L x k) ∧ Below w.heap.size w wr) (fun v _ => (intOf v).toNat)
  case atStart => exact ⟨L.length, Nat.le_refl _, rfl, Lib.hid rfl, Below.refl _ _⟩
  case round =>
    obtain ⟨k, hk, rfl, hp, B⟩ := hrel
    by_cases h0 : k = 0
    · subst h0
      have own := hrow.below B
      have i0 := own_ints_take own 0
      have i9 := own_ints_drop own 0
      have hs := B.size
      have HE : Hid (putL L x = L.take 0 ++ [x] ++ L.drop 0) := Lib.hid (by rw [HL.out, hp.out]; simp [putAt])
      go_wp2_with fail
      refine (l01Own_any ⟨g, 0, none⟩ (L.take 0) 0 cap (by rw [List.length_take]; omega) (by omega) _ i0).mono ?_
      rintro e w1 ⟨g1, c1, rfl, o1, hb⟩
      replace i9 := i9.below hb
      have B1 := B.trans (hb.mono hs)
      replace o1 := o1.rebase (base' := w.heap.size) hs
      have hs1 := B1.size
      go_wp2_with (first | (at_builtin; refine wpList_append_int rfl _ _ rfl w.heap.size _ _ rfl (o1.alloc _) w1.heap.size _ rfl (cell_new _ _ _) (by rw [List.length_take]; omega) (by rw [World.size_alloc]; omega) ?_; intro v' w4 hown' hgrow; obtain ⟨g2, c2, hv, hob⟩ := own_some hown' (by simp); subst hv; have hgb := grown_below (B1.alloc hs1 _) (by rw [World.size_alloc]; omega) hgrow (o1.alloc _) (Nat.le_refl _); have i8 := own_ints_drop (hrow.below hgb) 0; clear o1 hgrow; have hs4 := hgb.size) | (at_builtin; refine wpList_append_ints rfl _ _ rfl w.heap.size _ _ rfl hown' ⟨g, 0, none⟩ (L.drop 0) L.length _ (by simp) rfl i8 (by simp; omega) hs4 ?_; intro v5 w5 hown5 hgrow5 hnil5; rw [← HE.out] at hown5; obtain ⟨g3, c3, hv5, _⟩ := own_some hown5 (by rw [HE.out]; simp); obtain ⟨M5, hM5⟩ : ∃ M, M = (putL L x).length := ⟨_, rfl⟩; rw [← hM5] at hv5; subst hv5; replace hM5 := Lib.hid hM5))
      have hgb5 : Below w.heap.size w w5 := by first | exact grown_below hgb hs4 hgrow5 hown' (Nat.le_refl _) | exact grown_below hgb.drew hs4 hgrow5 hown' (Nat.le_refl _)
      go_ret
      exact ⟨g3, c3, by rw [← hM5.out]; rfl, by rw [← hM5.out]; exact hown5.rebase (by omega), hgb5⟩
    · obtain ⟨n, hkn⟩ : ∃ n, k = n + 1 := ⟨k - 1, by omega⟩
      have e1 : IntKind.i64.wrap ((k : Int) - 1) = (n : Int) := by rw [IntWalk.i64_in _ ⟨by omega, by omega⟩]; omega
      have p0 : (0 : Int) < (k : Int) := by omega
      have p1 : n < L.length := by omega
      have hc := kept_cell B (hcell n p1) hb2
      have HK := Lib.hid hkn
      have hsub : k - 1 = n := by omega
      by_cases h1 : x < gi L n
      · have hp' : Hid (putAt L x L.length = putAt L x n) := Lib.hid (by rw [hp.out, hkn, putAt_gt h1])
        have d1 : decide (x < gi L n) = true := by simpa using h1
        clear hkn hsub
        go_wp2_with fail
        go_roundw
        case rel => exact ⟨n, by omega, by go_num, hp', B⟩
        case measure => have := HK.out; simp [intOf]; omega
      · have hp' : Hid (putAt L x L.length = k) := Lib.hid (by rw [hp.out, hkn, putAt_here h1])
        by_cases h2 : gi L n = x
        · have HE : Hid (putL L x = L) := Lib.hid (by rw [HL.out, hp'.out, hsub, if_pos ⟨by omega, h2⟩])
          have d1 : decide (x < gi L n) = false := by simpa using h1
          have d2 : (gi L n == x) = true := by simpa using h2
          clear hkn hsub
          go_wp2_with fail
          go_ret
          exact ⟨g, cap, by rw [HE.out]; rfl, by rw [HE.out]; exact hrow.below B, B⟩
        · have d1 : decide (x < gi L n) = false := by simpa using h1
          have d2 : (gi L n == x) = false := by simpa using h2
          have HE : Hid (putL L x = L.take k ++ [x] ++ L.drop k) := Lib.hid (by rw [HL.out, hp'.out, hsub, if_neg (fun h => h2 h.2)])
          have own := hrow.below B
          have i0 := own_ints_take own k
          have hs := B.size
          clear hkn hsub h0 h1 h2
          by_cases hce : cap = k
          · subst hce
            go_wp2_with fail
            refine (l01Own_any ⟨g, 0, none⟩ (L.take cap) cap cap (by rw [List.length_take]; omega) (by omega) _ i0).mono ?_
            rintro e w1 ⟨g1, c1, rfl, o1, hb⟩
            have B1 := B.trans (hb.mono hs)
            replace o1 := o1.rebase (base' := w.heap.size) hs
            have hs1 := B1.size
            go_wp2_with (first | (at_builtin; refine wpList_append_int rfl _ _ rfl w.heap.size _ _ rfl (o1.alloc _) w1.heap.size _ rfl (cell_new _ _ _) (by rw [List.length_take]; omega) (by rw [World.size_alloc]; omega) ?_; intro v' w4 hown' hgrow; obtain ⟨g2, c2, hv, hob⟩ := own_some hown' (by simp); rw [show (L.take cap ++ [x]).length = cap + 1 by simp; omega] at hv; subst hv; have hgb := grown_below (B1.alloc hs1 _) (by rw [World.size_alloc]; omega) hgrow (o1.alloc _) (Nat.le_refl _); have i8 := own_ints_drop (hrow.below hgb) cap; clear o1 hgrow; have hs4 := hgb.size) | (at_builtin; refine wpList_append_ints rfl _ _ rfl w.heap.size _ _ rfl hown' ⟨g, 0, none⟩ (L.drop cap) _ _ (by rw [List.length_drop]; omega) rfl (.inl (by rw [List.length_drop]; omega)) (by simp; omega) hs4 ?_; intro v5 w5 hown5 hgrow5 hnil5; rw [← HE.out] at hown5; obtain ⟨g3, c3, hv5, _⟩ := own_some hown5 (by rw [HE.out]; simp); obtain ⟨M5, hM5⟩ : ∃ M, M = (putL L x).length := ⟨_, rfl⟩; rw [← hM5] at hv5; subst hv5; replace hM5 := Lib.hid hM5))
            have hgb5 : Below w.heap.size w w5 := by first | exact grown_below hgb hs4 hgrow5 hown' (Nat.le_refl _) | exact grown_below hgb.drew hs4 hgrow5 hown' (Nat.le_refl _)
            go_ret
            exact ⟨g3, c3, by rw [← hM5.out]; rfl, by rw [← hM5.out]; exact hown5.rebase (by omega), hgb5⟩
          · go_wp2_with fail
            refine (l01Own_any ⟨g, 0, none⟩ (L.take k) k cap (by rw [List.length_take]; omega) (by omega) _ i0).mono ?_
            rintro e w1 ⟨g1, c1, rfl, o1, hb⟩
            have B1 := B.trans (hb.mono hs)
            replace o1 := o1.rebase (base' := w.heap.size) hs
            have hs1 := B1.size
            go_wp2_with (first | (at_builtin; refine wpList_append_int rfl _ _ rfl w.heap.size _ _ rfl (o1.alloc _) w1.heap.size _ rfl (cell_new _ _ _) (by rw [List.length_take]; omega) (by rw [World.size_alloc]; omega) ?_; intro v' w4 hown' hgrow; obtain ⟨g2, c2, hv, hob⟩ := own_some hown' (by simp); rw [show (L.take k ++ [x]).length = k + 1 by simp; omega] at hv; subst hv; have hgb := grown_below (B1.alloc hs1 _) (by rw [World.size_alloc]; omega) hgrow (o1.alloc _) (Nat.le_refl _); have i8 := own_ints_drop (hrow.below hgb) k; clear o1 hgrow; have hs4 := hgb.size) | (at_builtin; refine wpList_append_ints rfl _ _ rfl w.heap.size _ _ rfl hown' ⟨g, k, none⟩ (L.drop k) (L.length - k) _ (by simp) rfl i8 (by simp; omega) hs4 ?_; intro v5 w5 hown5 hgrow5 hnil5; rw [← HE.out] at hown5; obtain ⟨g3, c3, hv5, _⟩ := own_some hown5 (by rw [HE.out]; simp); obtain ⟨M5, hM5⟩ : ∃ M, M = (putL L x).length := ⟨_, rfl⟩; rw [← hM5] at hv5; subst hv5; replace hM5 := Lib.hid hM5))
            have hgb5 : Below w.heap.size w w5 := by first | exact grown_below hgb hs4 hgrow5 hown' (Nat.le_refl _) | exact grown_below hgb.drew hs4 hgrow5 hown' (Nat.le_refl _)
            go_ret
            exact ⟨g3, c3, by rw [← hM5.out]; rfl, by rw [← hM5.out]; exact hown5.rebase (by omega), hgb5⟩

end Go.Proofs.YtcnnijeokefboaaGreatDoor
