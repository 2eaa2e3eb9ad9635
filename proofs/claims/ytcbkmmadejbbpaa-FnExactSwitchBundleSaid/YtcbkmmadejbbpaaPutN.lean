/-
  The model's l01Put of a number that the list lacks: the new list lies in new memory. By an AI agent.
-/
import Derived.Test.YtcbkmmadejbbpaaPut
namespace Go.Proofs.Ytcbkmmadejbbpaa
open Go.RowKit Cv
set_option linter.unusedVariables false
set_option linter.unusedSimpArgs false
set_option maxRecDepth 100000

set_option maxHeartbeats 2000000 in
theorem l01Put_new (base g cap : Nat) (L : List Int) (x : Int) (hx : x ∉ L) (w : World) (hl : L.length ≤ 1048575) (hrow : OwnInts w base (.slice (some ⟨g, 0, none⟩) L.length cap) L) :
    Calls Try.prog 79 #[.slice (some ⟨g, 0, none⟩) L.length cap, .int .i64 x] w fun e w' => ∃ g' c', e = .returned (.slice (some ⟨g', 0, none⟩) (putL L x).length c') ∧ OwnInts w' w.heap.size (.slice (some ⟨g', 0, none⟩) (putL L x).length c') (putL L x) ∧ Below w.heap.size w w' := by
  obtain ⟨hcap, hcm⟩ := own_cap hrow
  obtain ⟨hb1, hb2⟩ := hrow.base_le
  have hI := own_ints hrow
  have hcell : ∀ j, j < L.length → w.cell? ⟨g, j, none⟩ = some (.int .i64 (gi L j)) := fun j hj => hrow.cell hj
  have HL : Hid (putL L x = if 0 < putAt L x L.length ∧ gi L (putAt L x L.length - 1) = x then L else L.take (putAt L x L.length) ++ [x] ++ L.drop (putAt L x L.length)) := Lib.hid rfl
  unfold maxLen at hcm
  have HX := Lib.hid hx
  clear hx
  go_enter Try.func79, Try.ntmps79
  go_wp2_with fail
  go_loopw [5] (fun v wr => ∃ k : Nat, k ≤ L.length ∧ v = .int .i64 k ∧ Hid (putAt L x L.length = putAt L x k) ∧ Below w.heap.size w wr) (fun v _ => (intOf v).toNat)
  case atStart => exact ⟨L.length, Nat.le_refl _, rfl, Lib.hid rfl, Below.refl _ _⟩
  case round =>
    obtain ⟨k, hk, rfl, hp, B⟩ := hrel
    by_cases h0 : k = 0
    · subst h0
      have own := hrow.below B
      have i0 := own_ints_take own 0
      have i9 := own_ints_drop own 0
      have hs := B.size
      have HE : Hid (putL L x = L.take 0 ++ [x] ++ L.drop 0) := Lib.hid (by rw [HL.out, hp.out]; simp [putAt])
      go_wp2_with fail
      refine (l01Own_any ⟨g, 0, none⟩ (L.take 0) 0 cap (by rw [List.length_take]; omega) (by omega) _ i0).mono ?_
      rintro e w1 ⟨g1, c1, rfl, o1, hb⟩
      replace i9 := i9.below hb
      have B1 := B.trans (hb.mono hs)
      replace o1 := o1.rebase (base' := w.heap.size) hs
      have hs1 := B1.size
      go_wp2_with (first | (at_builtin; refine wpList_append_int rfl _ _ rfl w.heap.size _ _ rfl (o1.alloc _) w1.heap.size _ rfl (cell_new _ _ _) (by rw [List.length_take]; omega) (by rw [World.size_alloc]; omega) ?_; intro v' w4 hown' hgrow; obtain ⟨g2, c2, hv, hob⟩ := own_some hown' (by simp); subst hv; have hgb := grown_below (B1.alloc hs1 _) (by rw [World.size_alloc]; omega) hgrow (o1.alloc _) (Nat.le_refl _); have i8 := own_ints_drop (hrow.below hgb) 0; clear o1 hgrow; have hs4 := hgb.size) | (at_builtin; refine wpList_append_ints rfl _ _ rfl w.heap.size _ _ rfl hown' ⟨g, 0, none⟩ (L.drop 0) L.length _ (by simp) rfl i8 (by simp; omega) hs4 ?_; intro v5 w5 hown5 hgrow5 hnil5; rw [← HE.out] at hown5; obtain ⟨g3, c3, hv5, _⟩ := own_some hown5 (by rw [HE.out]; simp); obtain ⟨M5, hM5⟩ : ∃ M, M = (putL L x).length := ⟨_, rfl⟩; rw [← hM5] at hv5; subst hv5; replace hM5 := Lib.hid hM5))
      have hgb5 : Below w.heap.size w w5 := by first | exact grown_below hgb hs4 hgrow5 hown' (Nat.le_refl _) | exact grown_below hgb.drew hs4 hgrow5 hown' (Nat.le_refl _)
      go_ret
      exact ⟨g3, c3, by rw [← hM5.out]; rfl, by rw [← hM5.out]; exact hown5, hgb5⟩
    · obtain ⟨n, hkn⟩ : ∃ n, k = n + 1 := ⟨k - 1, by omega⟩
      have e1 : IntKind.i64.wrap ((k : Int) - 1) = (n : Int) := by rw [IntWalk.i64_in _ ⟨by omega, by omega⟩]; omega
      have p0 : (0 : Int) < (k : Int) := by omega
      have p1 : n < L.length := by omega
      have hc := kept_cell B (hcell n p1) hb2
      have HK := Lib.hid hkn
      have hsub : k - 1 = n := by omega
      by_cases h1 : x < gi L n
      · have hp' : Hid (putAt L x L.length = putAt L x n) := Lib.hid (by rw [hp.out, hkn, putAt_gt h1])
        have d1 : decide (x < gi L n) = true := by simpa using h1
        clear hkn hsub
        go_wp2_with fail
        go_roundw
        case rel => exact ⟨n, by omega, by go_num, hp', B⟩
        case measure => have := HK.out; simp [intOf]; omega
      · have hp' : Hid (putAt L x L.length = k) := Lib.hid (by rw [hp.out, hkn, putAt_here h1])
        by_cases h2 : gi L n = x
        · exact absurd (h2 ▸ gi_mem p1) HX.out
        · have d1 : decide (x < gi L n) = false := by simpa using h1
          have d2 : (gi L n == x) = false := by simpa using h2
          have HE : Hid (putL L x = L.take k ++ [x] ++ L.drop k) := Lib.hid (by rw [HL.out, hp'.out, hsub, if_neg (fun h => h2 h.2)])
          have own := hrow.below B
          have i0 := own_ints_take own k
          have hs := B.size
          clear hkn hsub h0 h1 h2
          by_cases hce : cap = k
          · subst hce
            go_wp2_with fail
            refine (l01Own_any ⟨g, 0, none⟩ (L.take cap) cap cap (by rw [List.length_take]; omega) (by omega) _ i0).mono ?_
            rintro e w1 ⟨g1, c1, rfl, o1, hb⟩
            have B1 := B.trans (hb.mono hs)
            replace o1 := o1.rebase (base' := w.heap.size) hs
            have hs1 := B1.size
            go_wp2_with (first | (at_builtin; refine wpList_append_int rfl _ _ rfl w.heap.size _ _ rfl (o1.alloc _) w1.heap.size _ rfl (cell_new _ _ _) (by rw [List.length_take]; omega) (by rw [World.size_alloc]; omega) ?_; intro v' w4 hown' hgrow; obtain ⟨g2, c2, hv, hob⟩ := own_some hown' (by simp); rw [show (L.take cap ++ [x]).length = cap + 1 by simp; omega] at hv; subst hv; have hgb := grown_below (B1.alloc hs1 _) (by rw [World.size_alloc]; omega) hgrow (o1.alloc _) (Nat.le_refl _); have i8 := own_ints_drop (hrow.below hgb) cap; clear o1 hgrow; have hs4 := hgb.size) | (at_builtin; refine wpList_append_ints rfl _ _ rfl w.heap.size _ _ rfl hown' ⟨g, 0, none⟩ (L.drop cap) _ _ (by rw [List.length_drop]; omega) rfl (.inl (by rw [List.length_drop]; omega)) (by simp; omega) hs4 ?_; intro v5 w5 hown5 hgrow5 hnil5; rw [← HE.out] at hown5; obtain ⟨g3, c3, hv5, _⟩ := own_some hown5 (by rw [HE.out]; simp); obtain ⟨M5, hM5⟩ : ∃ M, M = (putL L x).length := ⟨_, rfl⟩; rw [← hM5] at hv5; subst hv5; replace hM5 := Lib.hid hM5))
            have hgb5 : Below w.heap.size w w5 := by first | exact grown_below hgb hs4 hgrow5 hown' (Nat.le_refl _) | exact grown_below hgb.drew hs4 hgrow5 hown' (Nat.le_refl _)
            go_ret
            exact ⟨g3, c3, by rw [← hM5.out]; rfl, by rw [← hM5.out]; exact hown5, hgb5⟩
          · go_wp2_with fail
            refine (l01Own_any ⟨g, 0, none⟩ (L.take k) k cap (by rw [List.length_take]; omega) (by omega) _ i0).mono ?_
            rintro e w1 ⟨g1, c1, rfl, o1, hb⟩
            have B1 := B.trans (hb.mono hs)
            replace o1 := o1.rebase (base' := w.heap.size) hs
            have hs1 := B1.size
            go_wp2_with (first | (at_builtin; refine wpList_append_int rfl _ _ rfl w.heap.size _ _ rfl (o1.alloc _) w1.heap.size _ rfl (cell_new _ _ _) (by rw [List.length_take]; omega) (by rw [World.size_alloc]; omega) ?_; intro v' w4 hown' hgrow; obtain ⟨g2, c2, hv, hob⟩ := own_some hown' (by simp); rw [show (L.take k ++ [x]).length = k + 1 by simp; omega] at hv; subst hv; have hgb := grown_below (B1.alloc hs1 _) (by rw [World.size_alloc]; omega) hgrow (o1.alloc _) (Nat.le_refl _); have i8 := own_ints_drop (hrow.below hgb) k; clear o1 hgrow; have hs4 := hgb.size) | (at_builtin; refine wpList_append_ints rfl _ _ rfl w.heap.size _ _ rfl hown' ⟨g, k, none⟩ (L.drop k) (L.length - k) _ (by simp) rfl i8 (by simp; omega) hs4 ?_; intro v5 w5 hown5 hgrow5 hnil5; rw [← HE.out] at hown5; obtain ⟨g3, c3, hv5, _⟩ := own_some hown5 (by rw [HE.out]; simp); obtain ⟨M5, hM5⟩ : ∃ M, M = (putL L x).length := ⟨_, rfl⟩; rw [← hM5] at hv5; subst hv5; replace hM5 := Lib.hid hM5))
            have hgb5 : Below w.heap.size w w5 := by first | exact grown_below hgb hs4 hgrow5 hown' (Nat.le_refl _) | exact grown_below hgb.drew hs4 hgrow5 hown' (Nat.le_refl _)
            go_ret
            exact ⟨g3, c3, by rw [← hM5.out]; rfl, by rw [← hM5.out]; exact hown5, hgb5⟩

end Go.Proofs.Ytcbkmmadejbbpaa
