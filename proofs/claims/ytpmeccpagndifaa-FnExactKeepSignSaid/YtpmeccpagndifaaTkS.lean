/-
  The contracts of what takes a place out, in the model. By an AI agent.
-/
import Derived.Test.YtpmeccpagndifaaTkI
import Derived.Test.YtpmeccpagndifaaWpA
import Derived.Test.YtpmeccpagndifaaPut
import Derived.Test.YtpmeccpagndifaaAddSb
import Derived.Test.YtpmeccpagndifaaCode2
import Derived.Test.YtpmeccpagndifaaDigits
namespace Go.Proofs.Ytpmeccpagndifaa
open Go.RowKit Go.Shelf Cv
set_option linter.unusedVariables false
set_option linter.unusedSimpArgs false
set_option maxRecDepth 100000

theorem results_cell1 {fn : Func} {p : Tmp} {ty : TypeId} (h : fn.results = #[.cell p ty]) (tmps : Array Value) (P : Program) (w : World) :
    (results fn tmps).run P w = ((asAddr (tmps.getD p undef)).run P w).andThen fun a w₁ => (loadVar ty a).run P w₁ := by
  simp only [results, h]
  simp [Sem.run_bind, Result.andThen]

set_option maxHeartbeats 4000000 in
theorem l03Without_any (as0 : Addr) (S : List Int) (cap k : Nat) (hcap : S.length ≤ cap) (h8 : S.length ≤ 8) (h2 : 2 ≤ S.length) (hk : k < S.length) (w : World) (hS : Ints w (some as0) S) :
    Calls Try.prog 60 #[.agg #[.slice (some as0) S.length cap], .int .i64 (k : Int)] w fun e w' => ∃ g c, e = .returned (.agg #[.slice (some ⟨g, 0, none⟩) (S.length - 1) c]) ∧ OwnInts w' w.heap.size (.slice (some ⟨g, 0, none⟩) (S.length - 1) c) (dropI k S) ∧ Below w.heap.size w w' := by
  obtain ⟨W0, hW0, cS, rR, z0, B0⟩ := box2k w (.slice (some as0) S.length cap) (.slice none 0 0) 28
  have HW0 := Lib.hid hW0
  have z0a : w.heap.size + 2 ≤ W0.heap.size := by omega
  have E1 : IntKind.i64.wrap ((k : Int) + 1) = ((k + 1 : Nat) : Int) := by rw [IntWalk.i64_in _ ⟨by omega, by omega⟩]; rfl
  have HD : Hid ((dropI k S).length = S.length - 1) := Lib.hid (dropI_len k S hk)
  have HB : Hid (∀ W, Ints W (some as0) S → Ints W (some (behind as0 cap (k + 1))) (S.drop (k + 1))) := Lib.hid fun W hI => by
    rcases hI with h | ⟨b, o, e, hb, h⟩
    · omega
    · obtain rfl : as0 = ⟨b, o, none⟩ := by simpa using e
      exact ints_behind (.inr ⟨b, o, rfl, hb, h⟩) hcap
  have HT1 : Hid (k = (S.take k).length) := Lib.hid (by rw [List.length_take]; omega)
  have HT2 : Hid (S.length - (k + 1) = (S.drop (k + 1)).length) := Lib.hid (by rw [List.length_drop])
  have HJ : Hid (S.take k ++ S.drop (k + 1) = dropI k S) := Lib.hid rfl
  have hcpos : 0 < cap := by omega
  obtain ⟨bd, hbd⟩ : ∃ bd, bd = behind as0 cap (k + 1) := ⟨_, rfl⟩
  have HBD := Lib.hid hbd
  rw [← hbd] at HB
  clear hbd
  obtain ⟨n, hn⟩ : ∃ n, n = S.length := ⟨_, rfl⟩
  rw [← hn] at hcap h8 h2 hk cS HD HT2 hW0 ⊢
  replace HW0 := Lib.hid hW0
  clear hW0 z0 hn
  go_enter Try.func60, Try.ntmps60
  go_wp2_with fail
  rw [← HW0.out]
  refine wp_region_held_drew (S := fun w' => w'.cell? ⟨w.heap.size, 0, none⟩ = some (.slice (some as0) n cap)) (by kernel_rfl) cS (fun hHeld => ?_)
  refine wpAnyH_take (i := 0) (v := ?_) rfl (by kernel_rfl) (by kernel_rfl) (by kernel_rfl) (fun _ _ _ h => h) (Or.inl ⟨by rfl, ?_⟩) (by assumption) ?_
  rotate_left
  · (intro w hSw; (try dsimp only at hSw); go_simp; try (with_reducible rfl))
  (try simp only [Act.put, List.setIfInBounds_toArray, List.set_cons_zero, List.set_cons_succ])
  refine wpAnyH_take (i := 1) (v := .slice (some as0) n cap) rfl (by kernel_rfl) (by kernel_rfl) (by kernel_rfl) (fun _ _ _ h => h) (Or.inl ⟨by rfl, ?_⟩) (by assumption) ?_
  · (intro W1 hSw; go_simp)
  (try simp only [Act.put, List.setIfInBounds_toArray, List.set_cons_zero, List.set_cons_succ])
  refine wpAnyH_take (i := 2) (v := .int .i64 (k : Int)) rfl (by kernel_rfl) (by kernel_rfl) (by kernel_rfl) (fun _ _ _ h => h) (Or.inl ⟨by rfl, ?_⟩) (by assumption) ?_
  · (intro W1 hSw; go_simp)
  (try simp only [Act.put, List.setIfInBounds_toArray, List.set_cons_zero, List.set_cons_succ])
  refine wpAnyH_take (i := 3) (v := .slice (some as0) k cap) rfl (by kernel_rfl) (by kernel_rfl) (by kernel_rfl) (fun _ _ _ h => h) (Or.inl ⟨by rfl, ?_⟩) (by assumption) ?_
  · (intro W1 hSw; exact exec_take _ (.tmp 6) (.tmp 7) rfl as0 n cap k (by kernel_rfl) (by kernel_rfl) (by omega) hcpos)
  (try simp only [Act.put, List.setIfInBounds_toArray, List.set_cons_zero, List.set_cons_succ])
  refine wpAnyH_take (i := 5) (v := ?_) rfl (by kernel_rfl) (by kernel_rfl) (by kernel_rfl) (fun _ _ _ h => h) (Or.inl ⟨by rfl, ?_⟩) (by assumption) ?_
  rotate_left
  · (intro w hSw; (try dsimp only at hSw); go_simp; try (with_reducible rfl))
  (try simp only [Act.put, List.setIfInBounds_toArray, List.set_cons_zero, List.set_cons_succ])
  refine wpAnyH_take (i := 6) (v := .slice (some as0) n cap) rfl (by kernel_rfl) (by kernel_rfl) (by kernel_rfl) (fun _ _ _ h => h) (Or.inl ⟨by rfl, ?_⟩) (by assumption) ?_
  · (intro W1 hSw; go_simp)
  (try simp only [Act.put, List.setIfInBounds_toArray, List.set_cons_zero, List.set_cons_succ])
  refine wpAnyH_take (i := 7) (v := .int .i64 (k : Int)) rfl (by kernel_rfl) (by kernel_rfl) (by kernel_rfl) (fun _ _ _ h => h) (Or.inl ⟨by rfl, ?_⟩) (by assumption) ?_
  · (intro W1 hSw; go_simp)
  (try simp only [Act.put, List.setIfInBounds_toArray, List.set_cons_zero, List.set_cons_succ])
  refine wpAnyH_take (i := 8) (v := .int .i64 ((k + 1 : Nat) : Int)) rfl (by kernel_rfl) (by kernel_rfl) (by kernel_rfl) (fun _ _ _ h => h) (Or.inl ⟨by rfl, ?_⟩) (by assumption) ?_
  · (intro W1 hSw; rw [← E1]; go_simp)
  (try simp only [Act.put, List.setIfInBounds_toArray, List.set_cons_zero, List.set_cons_succ])
  refine wpAnyH_take (i := 9) (v := .slice (some bd) (n - (k + 1)) (cap - (k + 1))) rfl (by kernel_rfl) (by kernel_rfl) (by kernel_rfl) (fun _ _ _ h => h) (Or.inl ⟨by rfl, ?_⟩) (by assumption) ?_
  · (intro W1 hSw; rw [HBD.out]; exact exec_drop _ (.tmp 11) (.tmp 13) rfl as0 n cap (k + 1) (by kernel_rfl) (by kernel_rfl) (by omega) hcap)
  (try simp only [Act.put, List.setIfInBounds_toArray, List.set_cons_zero, List.set_cons_succ])
  refine wpAnyH_ready (rs := [4]) (by kernel_rfl) (by simp) ?_
  refine AllReadyH.cons rfl (fun K hK => ?_) AllReadyH.nil
  go_simp
  (go_at_call 96; refine (l01Own_any as0 (S.take k) k cap HT1.out (by omega) _ (ints_front (hS.below B0.drew))).mono ?_)
  rintro e w1 ⟨g, c, rfl, own, hb1'⟩
  have hb1 : Below W0.heap.size W0 w1 := (Below.refl _ W0).drew.trans hb1'
  clear hb1'
  replace own : OwnInts w1 W0.heap.size (.slice (some ⟨g, 0, none⟩) k c) (S.take k) := own
  have cS1 := kept_cell hb1 cS (by omega)
  have rR1 := row_below rR hb1 (by omega)
  have B1 := B0.trans (hb1.mono (by omega))
  have hg := own.base_le
  have s1 := hb1.size
  refine hK.out _ _ (cS1) (fun hHeld => ?_)
  clear hK K
  (try simp only [Act.put, List.setIfInBounds_toArray, List.set_cons_zero, List.set_cons_succ])
  refine wpAnyH_ready (rs := [10]) (by kernel_rfl) (by simp) ?_
  refine AllReadyH.cons rfl (fun K hK => ?_) AllReadyH.nil
  rw [if_pos (by kernel_rfl)]
  refine wp_append_ints (.tmp 9) (.tmp 14) (by kernel_rfl) W0.heap.size _ (S.take k) (by rfl) own bd (S.drop (k + 1)) (n - (k + 1)) (cap - (k + 1)) HT2.out (by rfl) (HB.out _ (hS.below B1)) (by rw [← HT1.out]; omega) (by omega) ?_
  intro v' w2 hown' hgrow hnil
  rw [HJ.out] at hown'
  obtain ⟨g2, c2, hv, _⟩ := own_some hown' (fun h => by have h2 := HD.out; rw [h] at h2; simp at h2; omega)
  rw [HD.out] at hv
  subst hv
  have cS2 := hgrow.cell (a := ⟨w.heap.size, 0, none⟩) cS1 (fun e => by have e2 := Option.some.inj e; simp at e2; omega)
  have rR2 := row_kept rR1 hgrow (fun e => by have e2 := Option.some.inj e; simp at e2; omega)
  have B2 := grown_below B1 (by omega) hgrow own (by omega)
  refine hK.out _ _ (cS2) (fun hHeld => ?_)
  clear hK K
  (try simp only [Act.put, List.setIfInBounds_toArray, List.set_cons_zero, List.set_cons_succ])
  refine wpAnyH_take (i := 11) (v := ?_) rfl (by kernel_rfl) (by kernel_rfl) (by kernel_rfl) (fun _ _ _ h => h) (Or.inl ⟨by rfl, ?_⟩) (by assumption) ?_
  rotate_left
  · (intro w hSw; (try dsimp only at hSw); go_simp; try (with_reducible rfl))
  (try simp only [Act.put, List.setIfInBounds_toArray, List.set_cons_zero, List.set_cons_succ])
  have rc : w2.cell? ⟨w.heap.size + 1, 0, none⟩ = some (.slice none 0 0) := by rw [cell_of_row w2 (w.heap.size + 1) 0 _ _ _ rR2]; rfl
  have rf : w2.frozen? ⟨w.heap.size + 1, 0, none⟩ = false := by have h' := rR2; simp [World.frozen?, h']
  have rs : (w2.setCell ⟨w.heap.size + 1, 0, none⟩ (.slice (some ⟨g2, 0, none⟩) (n - 1) c2)).cell? ⟨w.heap.size + 1, 0, none⟩ = some (.slice (some ⟨g2, 0, none⟩) (n - 1) c2) := World.cell?_setCell_same' _ _ _ (by rw [rc]; rfl)
  refine wpAnyH_ready (rs := [12]) (by kernel_rfl) (by simp) ?_
  refine AllReadyH.cons rfl (fun K hK => ?_) AllReadyH.nil
  go_simp
  refine hK.out _ _ (cell_set_other cS2 (by simp)) (fun hHeld => ?_)
  clear hK K
  (try simp only [Act.put, List.setIfInBounds_toArray, List.set_cons_zero, List.set_cons_succ])
  refine wpAnyH_done (by kernel_rfl) ?_ _
  have B9 : Below w.heap.size w (w2.setCell ⟨w.heap.size + 1, 0, none⟩ (.slice (some ⟨g2, 0, none⟩) (n - 1) c2)) := B2.setCell (show w.heap.size ≤ w.heap.size + 1 by omega) _
  go_wp2_with fail
  refine bodyPost_ret (by rw [results_cell1 rfl]; go_simp; try rfl) rfl ?_
  exact ⟨g2, c2, rfl, (hown'.setBelow (by simp; omega) _).rebase (by omega), B9⟩

set_option maxHeartbeats 4000000 in
theorem l03Out_any (as0 : Addr) (S : List Int) (cap : Nat) (hcap : S.length ≤ cap) (hSp : Sp S) (h2 : 2 ≤ S.length) (ac : Addr) (C : List Int) (capc : Nat) (hlc : C.length ≤ 1024) (hC0 : ∀ i, i < C.length → 0 ≤ gi C i ∧ gi C i ≤ 9223372036854775807) (k : Nat) (hk : k < S.length) (d : Int) (w : World) (hS : Ints w (some as0) S) (hC : Ints w (some ac) C) :
    Calls Try.prog 61 #[.agg #[.slice (some as0) S.length cap], .slice (some ac) C.length capc, .int .i64 (k : Int), .int .i64 d] w fun e w' => ∃ v, e = .returned v ∧ OwnInts w' w.heap.size v (outTo S C k d C.length) ∧ Below w.heap.size w w' := by
  have h8 := hSp.hi
  have HSp := Lib.hid hSp
  have HC0 := Lib.hid hC0
  have HD : Hid ((dropI k S).length = S.length - 1) := Lib.hid (dropI_len k S hk)
  have HX : Hid (∀ i, i < (dropI k S).length → 2 ≤ gi (dropI k S) i ∧ gi (dropI k S) i ≤ 4) := Lib.hid (dropI_bd hSp.bd hk)
  have E1 : IntKind.i64.wrap ((k : Int) + 1) = ((k + 1 : Nat) : Int) := by rw [IntWalk.i64_in _ ⟨by omega, by omega⟩]; rfl
  have B0 : Below w.heap.size w (w.alloc (.cells #[.slice (some as0) S.length cap] 28)) := by go_grown
  have c0 := cell_new w (.slice (some as0) S.length cap) 28
  have l0 := lt_alloc w (.cells #[.slice (some as0) S.length cap] 28)
  have hwo := l03Without_any as0 S cap k hcap h8 h2 hk _ (hS.below B0)
  have HWO := Lib.hid hwo
  clear hSp hC0 hwo
  go_enter Try.func61, Try.ntmps61
  go_wp2_with fail
  refine HWO.out.mono ?_
  rintro e w1 ⟨gx, cx, rfl, ownX, hb1⟩
  rw [World.size_alloc] at ownX
  have c1 := kept_cell hb1 c0 l0
  have l1 := lt_of_below hb1 l0
  have B1 := B0.trans (hb1.mono B0.size)
  have hgx := ownX.base_le
  clear hb1 c0 l0 B0 HWO
  obtain ⟨W3, hW3⟩ : ∃ W3, W3 = (w1.alloc (.cells #[] 2)).alloc (.cells #[.slice (some ⟨gx, 0, none⟩) (S.length - 1) cx] 28) := ⟨_, rfl⟩
  have h13 : Below w1.heap.size w1 W3 := by rw [hW3]; exact ((Below.refl _ w1).alloc (Nat.le_refl _) _).alloc (by simp) _
  have cX3 : W3.cell? ⟨w1.heap.size + 1, 0, none⟩ = some (.slice (some ⟨gx, 0, none⟩) (S.length - 1) cx) := by
    have h := cell_new (w1.alloc (.cells #[] 2)) (.slice (some ⟨gx, 0, none⟩) (S.length - 1) cx) 28
    rw [World.size_alloc] at h; rw [hW3]; exact h
  have own0 : OwnInts W3 w1.heap.size (.slice (some ⟨w1.heap.size, 0, none⟩) 0 0) [] := by
    have h := (own_empty w1 w1.heap.size (Nat.le_refl _) rfl).alloc (.cells #[.slice (some ⟨gx, 0, none⟩) (S.length - 1) cx] 28)
    rw [hW3]; exact h
  have z3 : w1.heap.size + 2 = W3.heap.size := by rw [hW3]; simp
  have HW3 := Lib.hid hW3
  have z3a : w1.heap.size + 2 ≤ W3.heap.size := by omega
  clear hW3 z3
  have cS3 := kept_cell h13 c1 (by omega)
  have ownX3 := ownX.below h13
  have B3 := B1.trans (h13.mono (by omega))
  clear h13 c1 ownX B1
  go_wp2_with fail
  rw [← HW3.out]
  go_loopw [10, 19] (fun vo i wi => ∃ j g c : Nat, j ≤ C.length ∧ i = .int .i64 j ∧ vo = .slice (some ⟨g, 0, none⟩) (outTo S C k d j).length c ∧ OwnInts wi w1.heap.size (.slice (some ⟨g, 0, none⟩) (outTo S C k d j).length c) (outTo S C k d j) ∧ Below W3.heap.size W3 wi) (fun _ i _ => C.length - (intOf i).toNat)
  case atStart => exact ⟨0, w1.heap.size, 0, Nat.zero_le _, rfl, rfl, own0, Below.refl _ _⟩
  case round =>
    clear own0
    obtain ⟨j, g, c, hj, rfl, rfl, own, BW⟩ := hrel
    have B := B3.trans (BW.mono B3.size)
    have cS := kept_cell BW cS3 (by omega)
    have cX := kept_cell BW cX3 (by omega)
    have sW := BW.size
    have hPl := outTo_len S C k d j
    obtain ⟨L, hL⟩ : ∃ L, L = outTo S C k d j := ⟨_, rfl⟩
    rw [← hL] at own hPl ⊢
    have HL := Lib.hid hL
    obtain ⟨P, hP⟩ : ∃ P, P = L.length := ⟨_, rfl⟩
    rw [← hP] at own hPl ⊢
    have HP := Lib.hid hP
    clear hL hP
    by_cases hlt : j < C.length
    · obtain ⟨b, o, he, hbl, hc⟩ := hC.at hlt
      obtain rfl : ac = ⟨b, o, none⟩ := by simpa using he
      have hck := kept_cell B (hc j hlt) hbl
      have lb := lt_of_below B hbl
      have ls : w.heap.size < wr.heap.size := by omega
      obtain ⟨x1, x2⟩ := HC0.out j hlt
      have HDg : Hid (Dg (dropI k S) (dropI k (digs S (gi C j)))) := Lib.hid (dropI_dg ⟨digs_length _ _, fun i hi => by rw [gi_digs _ _ _ hi]; exact dig_bd S _ HSp.out.bd i hi⟩ hk)
      have HW : Hid (∀ (W : World) (ad : Option Addr) (cd : Nat), Ints W (some ⟨gx, 0, none⟩) (dropI k S) → Ints W ad (dropI k (digs S (gi C j))) → Calls Try.prog 104 #[.agg #[.slice (some ⟨gx, 0, none⟩) (S.length - 1) cx], .slice ad (S.length - 1) cd] W fun e w' => e = .returned (.int .i64 (outW S k (gi C j))) ∧ Below W.heap.size W w') := Lib.hid fun W ad cd h1 h2 => by
        have h := l01Word_any (some ⟨gx, 0, none⟩) (dropI k S) cx (by rw [HD.out]; omega) HX.out ad (dropI k (digs S (gi C j))) (dropI k S).length cd rfl HDg.out W h1 h2
        rw [HD.out] at h
        unfold outW; rw [HD.out]; exact h
      clear hc he
      go_wp2_with fail
      go_region_held3 (fun w' => w'.cell? ⟨w.heap.size, 0, none⟩ = some (.slice (some as0) S.length cap) ∧ w'.cell? ⟨b, o + j, none⟩ = some (.int .i64 (gi C j))) (first | exact ⟨cS, hck⟩ | exact ⟨k1, k2⟩) (first | (go_at_call 103; refine (l01Digits_any (some as0) S cap h8 HSp.out.bd (gi C j) x1 x2 _ (hS.below B.drew)).mono ?_; rintro e w4 ⟨gd, rfl, od, hb4'⟩; have hb4 : Below wr.heap.size wr w4 := (Below.refl _ wr).drew.trans hb4'; have k1 := kept_cell hb4 cS ls; have k2 := kept_cell hb4 hck lb))
      replace od : OwnInts w4 wr.heap.size (.slice (some ⟨gd, 0, none⟩) S.length S.length) (digs S (gi C j)) := od
      have own4 := own.below hb4
      have BW4 := BW.trans (hb4.mono sW)
      have cX4 := kept_cell hb4 cX (by omega)
      have hdg := od.cell (k := k) (by rw [digs_length]; exact hk)
      rw [gi_digs S (gi C j) k hk] at hdg
      have s4 := hb4.size
      have hgd := od.base_le
      have i1 : (0 : Int) ≤ (k : Int) := by omega
      have i2 : (k : Int) < (S.length : Int) := by omega
      obtain ⟨bd, hbd⟩ : ∃ bd, bd = behind ⟨gd, 0, none⟩ S.length (k + 1) := ⟨_, rfl⟩
      have HBD := Lib.hid hbd
      clear hbd
      clear k1 k2 hb4 own BW cX cS hck B
      by_cases hd0 : d < 0
      · have hd : decide (d < 0) = true := by simpa using hd0
        have HN : Hid (putL L (outW S k (gi C j)) = outTo S C k d (j + 1)) := Lib.hid (by rw [HL.out, outTo, if_pos (.inl hd0)])
        clear hd0
        go_wp2_with fail
        refine wp_region_held_drew (S := fun w' => w'.cell? ⟨w1.heap.size + 1, 0, none⟩ = some (.slice (some ⟨gx, 0, none⟩) (S.length - 1) cx)) (by kernel_rfl) cX4 (fun hHeld => ?_)
        refine wpAnyH_take (i := 0) (v := ?_) rfl (by kernel_rfl) (by kernel_rfl) (by kernel_rfl) (fun _ _ _ h => h) (Or.inl ⟨by rfl, ?_⟩) (by assumption) ?_
        rotate_left
        · (intro w hSw; (try dsimp only at hSw); go_simp; try (with_reducible rfl))
        (try simp only [Act.put, List.setIfInBounds_toArray, List.set_cons_zero, List.set_cons_succ])
        refine wpAnyH_take (i := 1) (v := .agg #[.slice (some ⟨gx, 0, none⟩) (S.length - 1) cx]) rfl (by kernel_rfl) (by kernel_rfl) (by kernel_rfl) (fun _ _ _ h => h) (Or.inl ⟨by rfl, ?_⟩) (by assumption) ?_
        · (intro W1 hSw; go_simp)
        (try simp only [Act.put, List.setIfInBounds_toArray, List.set_cons_zero, List.set_cons_succ])
        refine wpAnyH_take (i := 2) (v := .slice (some ⟨gd, 0, none⟩) S.length S.length) rfl (by kernel_rfl) (by kernel_rfl) (by kernel_rfl) (fun _ _ _ h => h) (Or.inl ⟨by rfl, ?_⟩) (by assumption) ?_
        · (intro W1 hSw; go_simp)
        (try simp only [Act.put, List.setIfInBounds_toArray, List.set_cons_zero, List.set_cons_succ])
        refine wpAnyH_take (i := 3) (v := .int .i64 (k : Int)) rfl (by kernel_rfl) (by kernel_rfl) (by kernel_rfl) (fun _ _ _ h => h) (Or.inl ⟨by rfl, ?_⟩) (by assumption) ?_
        · (intro W1 hSw; go_simp)
        (try simp only [Act.put, List.setIfInBounds_toArray, List.set_cons_zero, List.set_cons_succ])
        refine wpAnyH_take (i := 4) (v := .slice (some ⟨gd, 0, none⟩) k S.length) rfl (by kernel_rfl) (by kernel_rfl) (by kernel_rfl) (fun _ _ _ h => h) (Or.inl ⟨by rfl, ?_⟩) (by assumption) ?_
        · (intro W1 hSw; exact exec_take _ (.tmp 40) (.tmp 41) rfl ⟨gd, 0, none⟩ S.length S.length k (by kernel_rfl) (by kernel_rfl) (by omega) (by omega))
        (try simp only [Act.put, List.setIfInBounds_toArray, List.set_cons_zero, List.set_cons_succ])
        refine wpAnyH_take (i := 6) (v := .slice (some ⟨gd, 0, none⟩) S.length S.length) rfl (by kernel_rfl) (by kernel_rfl) (by kernel_rfl) (fun _ _ _ h => h) (Or.inl ⟨by rfl, ?_⟩) (by assumption) ?_
        · (intro W1 hSw; go_simp)
        (try simp only [Act.put, List.setIfInBounds_toArray, List.set_cons_zero, List.set_cons_succ])
        refine wpAnyH_take (i := 7) (v := .int .i64 (k : Int)) rfl (by kernel_rfl) (by kernel_rfl) (by kernel_rfl) (fun _ _ _ h => h) (Or.inl ⟨by rfl, ?_⟩) (by assumption) ?_
        · (intro W1 hSw; go_simp)
        (try simp only [Act.put, List.setIfInBounds_toArray, List.set_cons_zero, List.set_cons_succ])
        refine wpAnyH_take (i := 8) (v := .int .i64 ((k + 1 : Nat) : Int)) rfl (by kernel_rfl) (by kernel_rfl) (by kernel_rfl) (fun _ _ _ h => h) (Or.inl ⟨by rfl, ?_⟩) (by assumption) ?_
        · (intro W1 hSw; rw [← E1]; go_simp)
        (try simp only [Act.put, List.setIfInBounds_toArray, List.set_cons_zero, List.set_cons_succ])
        refine wpAnyH_take (i := 9) (v := .slice (some bd) (S.length - (k + 1)) (S.length - (k + 1))) rfl (by kernel_rfl) (by kernel_rfl) (by kernel_rfl) (fun _ _ _ h => h) (Or.inl ⟨by rfl, ?_⟩) (by assumption) ?_
        · (intro W1 hSw; rw [HBD.out]; exact exec_drop _ (.tmp 44) (.tmp 46) rfl ⟨gd, 0, none⟩ S.length S.length (k + 1) (by kernel_rfl) (by kernel_rfl) (by omega) (Nat.le_refl _))
        (try simp only [Act.put, List.setIfInBounds_toArray, List.set_cons_zero, List.set_cons_succ])
        refine wpAnyH_ready (rs := [5]) (by kernel_rfl) (by simp) ?_
        refine AllReadyH.cons rfl (fun K hK => ?_) AllReadyH.nil
        go_simp
        (go_at_call 96; refine (l01Own_any ⟨gd, 0, none⟩ ((digs S (gi C j)).take k) k S.length (by rw [List.length_take, digs_length]; omega) (by omega) _ (ints_front (own_ints od.drew))).mono ?_)
        rintro e w5 ⟨g1, c1, rfl, own1, hb5'⟩
        have hb5 : Below w4.heap.size w4 w5 := (Below.refl _ w4).drew.trans hb5'
        clear hb5'
        replace own1 : OwnInts w5 w4.heap.size (.slice (some ⟨g1, 0, none⟩) k c1) ((digs S (gi C j)).take k) := own1
        have s5 := hb5.size
        have cX5 := kept_cell hb5 cX4 (by omega)
        refine hK.out _ _ (cX5) (fun hHeld => ?_)
        clear hK K
        (try simp only [Act.put, List.setIfInBounds_toArray, List.set_cons_zero, List.set_cons_succ])
        refine wpAnyH_ready (rs := [10]) (by kernel_rfl) (by simp) ?_
        refine AllReadyH.cons rfl (fun K hK => ?_) AllReadyH.nil
        rw [if_pos (by kernel_rfl)]
        refine wp_append_ints (.tmp 43) (.tmp 47) (by kernel_rfl) w4.heap.size _ ((digs S (gi C j)).take k) (by rfl) own1 bd ((digs S (gi C j)).drop (k + 1)) (S.length - (k + 1)) (S.length - (k + 1)) (by rw [List.length_drop, digs_length]) (by rfl) (by rw [HBD.out]; exact ints_behind (own_ints (od.below hb5)) (by rw [digs_length]; exact Nat.le_refl _)) (by rw [List.length_take]; omega) (by omega) ?_
        intro v' w6 hown' hgrow hnil
        have hb6 := grown_below hb5 s5 hgrow own1 (Nat.le_refl _)
        replace hown' : OwnInts w6 w4.heap.size v' (dropI k (digs S (gi C j))) := hown'
        have hdl : (dropI k (digs S (gi C j))).length = S.length - 1 := by rw [dropI_len _ _ (by rw [digs_length]; exact hk), digs_length]
        obtain ⟨g2, c2, hv, _⟩ := own_some hown' (fun h => by rw [h] at hdl; simp at hdl; omega)
        rw [hdl] at hv
        subst hv
        have s6 := hb6.size
        have cX6 := kept_cell hb6 cX4 (by omega)
        clear own1 hgrow hnil hb5 cX5 hdl
        refine hK.out _ _ (cX6) (fun hHeld => ?_)
        clear hK K
        (try simp only [Act.put, List.setIfInBounds_toArray, List.set_cons_zero, List.set_cons_succ])
        refine wpAnyH_ready (rs := [11]) (by kernel_rfl) (by simp) ?_
        refine AllReadyH.cons rfl (fun K hK => ?_) AllReadyH.nil
        go_simp
        (go_at_call 104; refine (HW.out _ (some ⟨g2, 0, none⟩) c2 (own_ints ((ownX3.below BW4).below hb6)) (own_ints hown')).mono ?_)
        rintro e w7 ⟨rfl, hb7'⟩
        have hb7 : Below w4.heap.size w4 w7 := hb6.trans (hb7'.mono s6)
        clear hb7' hb6 hown' cX6
        have s7 := hb7.size
        have cX7 := kept_cell hb7 cX4 (by omega)
        have own7 := own4.below hb7
        have hput := l01Put_any w1.heap.size g c L (outW S k (gi C j)) w7 (by rw [← HP.out]; omega) (by rw [← HP.out]; exact own7)
        rw [← HP.out] at hput
        refine hK.out _ _ (cX7) (fun hHeld => ?_)
        clear hK K
        (try simp only [Act.put, List.setIfInBounds_toArray, List.set_cons_zero, List.set_cons_succ])
        refine wpAnyH_ready (rs := [12]) (by kernel_rfl) (by simp) ?_
        refine AllReadyH.cons rfl (fun K hK => ?_) AllReadyH.nil
        go_simp
        (go_at_call 77; refine hput.mono ?_)
        rintro e w8 ⟨g8, c8, rfl, own8, hb8⟩
        have BW8 := BW4.trans ((hb7.trans (hb8.mono s7)).mono (by omega))
        have cX8 := kept_cell hb8 cX7 (by omega)
        rw [HN.out] at own8 ⊢
        obtain ⟨P8, hP8⟩ : ∃ P8, P8 = (outTo S C k d (j + 1)).length := ⟨_, rfl⟩
        rw [← hP8] at own8 ⊢
        have HP8 := Lib.hid hP8
        clear hput hb7 hb8 own7 cX7 hP8
        refine hK.out _ _ (cX8) (fun hHeld => ?_)
        clear hK K
        (try simp only [Act.put, List.setIfInBounds_toArray, List.set_cons_zero, List.set_cons_succ])
        refine wpAnyH_take (i := 13) (v := ?_) rfl (by kernel_rfl) (by kernel_rfl) (by kernel_rfl) (fun _ _ _ h => h) (Or.inl ⟨by rfl, ?_⟩) (by assumption) ?_
        rotate_left
        · (intro w hSw; (try dsimp only at hSw); go_simp; try (with_reducible rfl))
        (try simp only [Act.put, List.setIfInBounds_toArray, List.set_cons_zero, List.set_cons_succ])
        refine wpAnyH_done (by kernel_rfl) ?_ _
        go_wp2_with fail
        go_roundw
        case rel => exact ⟨j + 1, g8, c8, by omega, by go_num, by rw [← HP8.out], by rw [← HP8.out]; exact own8, BW8⟩
        case measure => simp [intOf]; omega
      · have hd : decide (d < 0) = false := by simpa using hd0
        by_cases hdd : dig S (gi C j) k = d
        · have hq : (dig S (gi C j) k == d) = true := by simpa using hdd
          have HN : Hid (putL L (outW S k (gi C j)) = outTo S C k d (j + 1)) := Lib.hid (by rw [HL.out, outTo, if_pos (.inr hdd)])
          clear hd0 hdd
          go_wp2_with fail
          refine wp_region_held_drew (S := fun w' => w'.cell? ⟨w1.heap.size + 1, 0, none⟩ = some (.slice (some ⟨gx, 0, none⟩) (S.length - 1) cx)) (by kernel_rfl) cX4 (fun hHeld => ?_)
          refine wpAnyH_take (i := 0) (v := ?_) rfl (by kernel_rfl) (by kernel_rfl) (by kernel_rfl) (fun _ _ _ h => h) (Or.inl ⟨by rfl, ?_⟩) (by assumption) ?_
          rotate_left
          · (intro w hSw; (try dsimp only at hSw); go_simp; try (with_reducible rfl))
          (try simp only [Act.put, List.setIfInBounds_toArray, List.set_cons_zero, List.set_cons_succ])
          refine wpAnyH_take (i := 1) (v := .agg #[.slice (some ⟨gx, 0, none⟩) (S.length - 1) cx]) rfl (by kernel_rfl) (by kernel_rfl) (by kernel_rfl) (fun _ _ _ h => h) (Or.inl ⟨by rfl, ?_⟩) (by assumption) ?_
          · (intro W1 hSw; go_simp)
          (try simp only [Act.put, List.setIfInBounds_toArray, List.set_cons_zero, List.set_cons_succ])
          refine wpAnyH_take (i := 2) (v := .slice (some ⟨gd, 0, none⟩) S.length S.length) rfl (by kernel_rfl) (by kernel_rfl) (by kernel_rfl) (fun _ _ _ h => h) (Or.inl ⟨by rfl, ?_⟩) (by assumption) ?_
          · (intro W1 hSw; go_simp)
          (try simp only [Act.put, List.setIfInBounds_toArray, List.set_cons_zero, List.set_cons_succ])
          refine wpAnyH_take (i := 3) (v := .int .i64 (k : Int)) rfl (by kernel_rfl) (by kernel_rfl) (by kernel_rfl) (fun _ _ _ h => h) (Or.inl ⟨by rfl, ?_⟩) (by assumption) ?_
          · (intro W1 hSw; go_simp)
          (try simp only [Act.put, List.setIfInBounds_toArray, List.set_cons_zero, List.set_cons_succ])
          refine wpAnyH_take (i := 4) (v := .slice (some ⟨gd, 0, none⟩) k S.length) rfl (by kernel_rfl) (by kernel_rfl) (by kernel_rfl) (fun _ _ _ h => h) (Or.inl ⟨by rfl, ?_⟩) (by assumption) ?_
          · (intro W1 hSw; exact exec_take _ (.tmp 40) (.tmp 41) rfl ⟨gd, 0, none⟩ S.length S.length k (by kernel_rfl) (by kernel_rfl) (by omega) (by omega))
          (try simp only [Act.put, List.setIfInBounds_toArray, List.set_cons_zero, List.set_cons_succ])
          refine wpAnyH_take (i := 6) (v := .slice (some ⟨gd, 0, none⟩) S.length S.length) rfl (by kernel_rfl) (by kernel_rfl) (by kernel_rfl) (fun _ _ _ h => h) (Or.inl ⟨by rfl, ?_⟩) (by assumption) ?_
          · (intro W1 hSw; go_simp)
          (try simp only [Act.put, List.setIfInBounds_toArray, List.set_cons_zero, List.set_cons_succ])
          refine wpAnyH_take (i := 7) (v := .int .i64 (k : Int)) rfl (by kernel_rfl) (by kernel_rfl) (by kernel_rfl) (fun _ _ _ h => h) (Or.inl ⟨by rfl, ?_⟩) (by assumption) ?_
          · (intro W1 hSw; go_simp)
          (try simp only [Act.put, List.setIfInBounds_toArray, List.set_cons_zero, List.set_cons_succ])
          refine wpAnyH_take (i := 8) (v := .int .i64 ((k + 1 : Nat) : Int)) rfl (by kernel_rfl) (by kernel_rfl) (by kernel_rfl) (fun _ _ _ h => h) (Or.inl ⟨by rfl, ?_⟩) (by assumption) ?_
          · (intro W1 hSw; rw [← E1]; go_simp)
          (try simp only [Act.put, List.setIfInBounds_toArray, List.set_cons_zero, List.set_cons_succ])
          refine wpAnyH_take (i := 9) (v := .slice (some bd) (S.length - (k + 1)) (S.length - (k + 1))) rfl (by kernel_rfl) (by kernel_rfl) (by kernel_rfl) (fun _ _ _ h => h) (Or.inl ⟨by rfl, ?_⟩) (by assumption) ?_
          · (intro W1 hSw; rw [HBD.out]; exact exec_drop _ (.tmp 44) (.tmp 46) rfl ⟨gd, 0, none⟩ S.length S.length (k + 1) (by kernel_rfl) (by kernel_rfl) (by omega) (Nat.le_refl _))
          (try simp only [Act.put, List.setIfInBounds_toArray, List.set_cons_zero, List.set_cons_succ])
          refine wpAnyH_ready (rs := [5]) (by kernel_rfl) (by simp) ?_
          refine AllReadyH.cons rfl (fun K hK => ?_) AllReadyH.nil
          go_simp
          (go_at_call 96; refine (l01Own_any ⟨gd, 0, none⟩ ((digs S (gi C j)).take k) k S.length (by rw [List.length_take, digs_length]; omega) (by omega) _ (ints_front (own_ints od.drew))).mono ?_)
          rintro e w5 ⟨g1, c1, rfl, own1, hb5'⟩
          have hb5 : Below w4.heap.size w4 w5 := (Below.refl _ w4).drew.trans hb5'
          clear hb5'
          replace own1 : OwnInts w5 w4.heap.size (.slice (some ⟨g1, 0, none⟩) k c1) ((digs S (gi C j)).take k) := own1
          have s5 := hb5.size
          have cX5 := kept_cell hb5 cX4 (by omega)
          refine hK.out _ _ (cX5) (fun hHeld => ?_)
          clear hK K
          (try simp only [Act.put, List.setIfInBounds_toArray, List.set_cons_zero, List.set_cons_succ])
          refine wpAnyH_ready (rs := [10]) (by kernel_rfl) (by simp) ?_
          refine AllReadyH.cons rfl (fun K hK => ?_) AllReadyH.nil
          rw [if_pos (by kernel_rfl)]
          refine wp_append_ints (.tmp 43) (.tmp 47) (by kernel_rfl) w4.heap.size _ ((digs S (gi C j)).take k) (by rfl) own1 bd ((digs S (gi C j)).drop (k + 1)) (S.length - (k + 1)) (S.length - (k + 1)) (by rw [List.length_drop, digs_length]) (by rfl) (by rw [HBD.out]; exact ints_behind (own_ints (od.below hb5)) (by rw [digs_length]; exact Nat.le_refl _)) (by rw [List.length_take]; omega) (by omega) ?_
          intro v' w6 hown' hgrow hnil
          have hb6 := grown_below hb5 s5 hgrow own1 (Nat.le_refl _)
          replace hown' : OwnInts w6 w4.heap.size v' (dropI k (digs S (gi C j))) := hown'
          have hdl : (dropI k (digs S (gi C j))).length = S.length - 1 := by rw [dropI_len _ _ (by rw [digs_length]; exact hk), digs_length]
          obtain ⟨g2, c2, hv, _⟩ := own_some hown' (fun h => by rw [h] at hdl; simp at hdl; omega)
          rw [hdl] at hv
          subst hv
          have s6 := hb6.size
          have cX6 := kept_cell hb6 cX4 (by omega)
          clear own1 hgrow hnil hb5 cX5 hdl
          refine hK.out _ _ (cX6) (fun hHeld => ?_)
          clear hK K
          (try simp only [Act.put, List.setIfInBounds_toArray, List.set_cons_zero, List.set_cons_succ])
          refine wpAnyH_ready (rs := [11]) (by kernel_rfl) (by simp) ?_
          refine AllReadyH.cons rfl (fun K hK => ?_) AllReadyH.nil
          go_simp
          (go_at_call 104; refine (HW.out _ (some ⟨g2, 0, none⟩) c2 (own_ints ((ownX3.below BW4).below hb6)) (own_ints hown')).mono ?_)
          rintro e w7 ⟨rfl, hb7'⟩
          have hb7 : Below w4.heap.size w4 w7 := hb6.trans (hb7'.mono s6)
          clear hb7' hb6 hown' cX6
          have s7 := hb7.size
          have cX7 := kept_cell hb7 cX4 (by omega)
          have own7 := own4.below hb7
          have hput := l01Put_any w1.heap.size g c L (outW S k (gi C j)) w7 (by rw [← HP.out]; omega) (by rw [← HP.out]; exact own7)
          rw [← HP.out] at hput
          refine hK.out _ _ (cX7) (fun hHeld => ?_)
          clear hK K
          (try simp only [Act.put, List.setIfInBounds_toArray, List.set_cons_zero, List.set_cons_succ])
          refine wpAnyH_ready (rs := [12]) (by kernel_rfl) (by simp) ?_
          refine AllReadyH.cons rfl (fun K hK => ?_) AllReadyH.nil
          go_simp
          (go_at_call 77; refine hput.mono ?_)
          rintro e w8 ⟨g8, c8, rfl, own8, hb8⟩
          have BW8 := BW4.trans ((hb7.trans (hb8.mono s7)).mono (by omega))
          have cX8 := kept_cell hb8 cX7 (by omega)
          rw [HN.out] at own8 ⊢
          obtain ⟨P8, hP8⟩ : ∃ P8, P8 = (outTo S C k d (j + 1)).length := ⟨_, rfl⟩
          rw [← hP8] at own8 ⊢
          have HP8 := Lib.hid hP8
          clear hput hb7 hb8 own7 cX7 hP8
          refine hK.out _ _ (cX8) (fun hHeld => ?_)
          clear hK K
          (try simp only [Act.put, List.setIfInBounds_toArray, List.set_cons_zero, List.set_cons_succ])
          refine wpAnyH_take (i := 13) (v := ?_) rfl (by kernel_rfl) (by kernel_rfl) (by kernel_rfl) (fun _ _ _ h => h) (Or.inl ⟨by rfl, ?_⟩) (by assumption) ?_
          rotate_left
          · (intro w hSw; (try dsimp only at hSw); go_simp; try (with_reducible rfl))
          (try simp only [Act.put, List.setIfInBounds_toArray, List.set_cons_zero, List.set_cons_succ])
          refine wpAnyH_done (by kernel_rfl) ?_ _
          go_wp2_with fail
          go_roundw
          case rel => exact ⟨j + 1, g8, c8, by omega, by go_num, by rw [← HP8.out], by rw [← HP8.out]; exact own8, BW8⟩
          case measure => simp [intOf]; omega
        · have hq : (dig S (gi C j) k == d) = false := by simpa using hdd
          have HN : Hid (outTo S C k d j = outTo S C k d (j + 1)) := Lib.hid (by rw [outTo, if_neg (by rintro (h | h); exact hd0 h; exact hdd h)])
          clear hd0 hdd
          go_wp2_with fail
          go_roundw
          case rel => exact ⟨j + 1, g, c, by omega, by go_num, by rw [← HN.out, ← HL.out, ← HP.out], by rw [← HN.out, ← HL.out, ← HP.out]; exact own4, BW4⟩
          case measure => simp [intOf]; omega
    · have ej : Hid (j = C.length) := Lib.hid (by omega)
      go_wp2_with fail
      go_ret
      refine ⟨_, rfl, ?_, B⟩
      rw [← ej.out, ← HL.out]
      exact own.rebase (by omega)

end Go.Proofs.Ytpmeccpagndifaa
