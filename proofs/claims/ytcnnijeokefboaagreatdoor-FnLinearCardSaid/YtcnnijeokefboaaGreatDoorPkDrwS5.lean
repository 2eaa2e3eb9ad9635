/-
  The draws of chapter 5: a plain space, words. By an AI agent.
-/
import Derived.Test.YtcnnijeokefboaaGreatDoorPkDrw6
namespace Go.Proofs.YtcnnijeokefboaaGreatDoor
open Go.RowKit Cv
set_option linter.unusedVariables false
set_option linter.unusedSimpArgs false
set_option maxRecDepth 100000

theorem IntsX.lower {A b : Nat} {w : World} {ao : Option Addr} {S : List Int} (h : IntsX A w ao S) (hb : b ≤ A) : IntsX b w ao S := ⟨h.1, fun g o e => by have := h.2 g o e; omega⟩
theorem sp_const {T : List Int} {q : Int} {n : Nat} (h : ∀ i, i < T.length → gi T i = q) (hl : T.length = n) (h1 : 1 ≤ n ∧ n ≤ 7) (hq : q = 2 ∨ q = 3) (h4 : q = 3 → n ≤ 4) : Sp T := by
  have e : T = List.replicate n q := ext_gi (by rw [List.length_replicate, hl]) fun i hi => by
    rw [h i hi]; simp [gi, List.getD, show i < n by omega]
  subst e
  rw [← isSp_iff]
  rcases hq with rfl | rfl
  · rcases (show n = 1 ∨ n = 2 ∨ n = 3 ∨ n = 4 ∨ n = 5 ∨ n = 6 ∨ n = 7 by omega) with rfl | rfl | rfl | rfl | rfl | rfl | rfl <;> decide
  · have := h4 rfl
    rcases (show n = 1 ∨ n = 2 ∨ n = 3 ∨ n = 4 by omega) with rfl | rfl | rfl | rfl <;> decide
theorem cst_snoc {T : List Int} {q : Int} (h : ∀ i, i < T.length → gi T i = q) : ∀ i, i < (T ++ [q]).length → gi (T ++ [q]) i = q := fun i hi => by
  rw [List.length_append, List.length_singleton] at hi
  by_cases e : i < T.length
  · have := h i e
    simp only [gi, List.getD] at this ⊢
    rw [List.getElem?_append_left e]; exact this
  · rw [show i = T.length by omega]; simp [gi]

set_option maxHeartbeats 4000000 in
theorem space5_any (b : Nat) (a : Option Addr) (n cap : Nat) (hn : n ≤ 4096) (w : World) (hs : Src w b a n cap) :
    Calls Tryz.prog 43 #[.pointer (some ⟨b, 0, none⟩)] w fun e w' => ∃ x S c, e = .returned (.agg #[.slice x S.length c]) ∧ IntsX w.heap.size w' x S ∧ Sp S ∧ Src w' b a n cap ∧ w.grownBy w' (some b) := by
  have hbl := hs.lt
  have G := World.grownBy.refl w (some b)
  obtain ⟨A, hA⟩ : ∃ z, z = w.heap.size := ⟨_, rfl⟩
  obtain ⟨u1, hu1⟩ : ∃ z, z = w.alloc (.cells #[.slice none 0 0] 26) := ⟨_, rfl⟩
  have RA : u1.heap[A]? = some (.cells #[.slice none 0 0] 26 (0, 0)) := by rw [hu1, hA]; exact heap_alloc_new _ _
  replace hs : Src u1 b a n cap := by rw [hu1]; exact hs.alloc _
  replace G : w.grownBy u1 (some b) := by rw [hu1]; exact grown_alloc G _
  have HA := Lib.hid hA
  have Hu1 := Lib.hid hu1
  have hAb : b < A := by rw [hA]; exact hbl
  have hnx := next_any b a n cap hn 16 (by omega) u1 hs
  clear hA hu1
  go_enter Tryz.func43, Tryz.ntmps43
  go_wp2_with fail
  rw [← Hu1.out, ← HA.out]
  refine hnx.mono ?_
  rintro e u2 ⟨q, rfl, q0, q1, q2, hs', hg⟩
  replace G := grown_trans G hg
  replace RA := row_g RA hg (by simp; omega)
  replace hs := hs'
  clear hnx hg hs' q0 q1 q2 hbl
  by_cases hq : q = 0
  · have e0 : (q == 0) = true := by simpa using hq
    clear hq
    have zA0 := row_lt RA
    have hc := drawOf_any b a n cap hn 81 (by omega) u2 hs
    go_wp2_with fail
    refine hc.mono ?_
    rintro e u3 ⟨vS, S, rfl, oS, hSp, hs', hg⟩
    obtain ⟨x, c, hvS⟩ := own_shp oS
    subst hvS
    have hX := intsX_own (b := A) oS zA0
    replace G := grown_trans G hg
    replace RA := row_g RA hg (by simp; omega)
    replace hs := hs'
    clear hc hg hs' zA0 oS
    have xAt := cell_of1' RA
    have fAt := frozen_of_row u3 A 0 _ _ RA
    have zAt := row_lt RA
    have hXs := (hX.set A (.slice x S.length c) (fun g o e => by have := hX.2 g o e; omega))
    have hse := hs.setO ⟨A, 0, none⟩ (by simp; omega) (.slice x S.length c)
    have Ge := grown_set G ⟨A, 0, none⟩ (by simp; have := HA.out; omega) (.slice x S.length c)
    go_wp2_with fail
    refine bodyPost_ret (v := .agg #[.slice x S.length c]) (by simp [results, Tryz.results43, go_sem, xAt, fAt, zAt]) rfl ?_
    exact ⟨x, S, c, rfl, (by rw [← HA.out]; exact hXs), hSp, hse, Ge⟩
  · have e0 : (q == 0) = false := by simpa using hq
    clear hq
    have zA0 := row_lt RA
    obtain ⟨E, hE⟩ : ∃ z, z = u2.heap.size := ⟨_, rfl⟩
    obtain ⟨v2, hv2⟩ : ∃ z, z = (u2.alloc (.cells #[] 2)).alloc (.cells #[.int .i64 2, .int .i64 2, .int .i64 3] 2) := ⟨_, rfl⟩
    have o : OwnInts v2 E (.slice (some ⟨E, 0, none⟩) 0 0) [] := by rw [hv2]; exact (own_empty u2 E (by omega) hE).alloc _
    have I2 : Ints v2 (some ⟨E + 1, 0, none⟩) [2, 2, 3] := by
      have := ints_new (u2.alloc (.cells #[] 2)) [2, 2, 3] 2
      rw [show (u2.alloc (.cells #[] 2)).heap.size = E + 1 by simp [hE]] at this
      rw [hv2]; exact this
    have zv2 : v2.heap.size = E + 2 := by rw [hv2, hE]; simp
    replace hs : Src v2 b a n cap := by rw [hv2]; exact (hs.alloc _).alloc _
    replace G : w.grownBy v2 (some b) := by rw [hv2]; exact grown_alloc (grown_alloc G _) _
    replace RA : v2.heap[A]? = some (.cells #[.slice none 0 0] 26 (0, 0)) := by rw [hv2]; exact row_g (row_g RA (World.grownBy_alloc _ _ none) (by simp)) (World.grownBy_alloc _ _ none) (by simp)
    have hAE : A < E := by rw [hE]; exact zA0
    have hc := pick_n b a n cap hn (E + 1) _ 3 rfl (by omega) (by omega) (by omega) v2 hs I2
    have HE := Lib.hid hE
    have Hv2 := Lib.hid hv2
    clear hE hv2 zA0 I2
    go_wp2_with fail
    rw [← Hv2.out, ← HE.out]
    refine hc.mono ?_
    rintro e u3 ⟨kd, rfl, hkd0, hs', hg⟩
    have hkd : kd = 2 ∨ kd = 3 := by simp only [List.mem_cons, List.not_mem_nil, or_false] at hkd0; omega
    replace G := grown_trans G hg
    replace RA := row_g RA hg (by simp; omega)
    replace o := o.kept hg (.inr (by simp [Value.ownBlock]; omega))
    have z3 := hg.size
    replace hs := hs'
    clear hc hg hs' hkd0
    obtain ⟨O, hO⟩ : ∃ z, z = u3.heap.size := ⟨_, rfl⟩
    obtain ⟨v3, hv3⟩ : ∃ z, z = u3.alloc (.cells #[.slice (some ⟨E, 0, none⟩) 0 0] 26) := ⟨_, rfl⟩
    obtain ⟨v4, hv4⟩ : ∃ z, z = v3.alloc (.cells #[.int .i64 3, .int .i64 5, .int .i64 7] 2) := ⟨_, rfl⟩
    have RO3 : v3.heap[O]? = some (.cells #[.slice (some ⟨E, 0, none⟩) 0 0] 26 (0, 0)) := by rw [hv3, hO]; exact heap_alloc_new _ _
    have RO : v4.heap[O]? = some (.cells #[.slice (some ⟨E, 0, none⟩) 0 0] 26 (0, 0)) := by rw [hv4]; exact row_g RO3 (World.grownBy_alloc _ _ none) (by simp)
    have z4 : v3.heap.size = O + 1 := by rw [hv3, hO]; simp
    have I4 : Ints v4 (some ⟨O + 1, 0, none⟩) [3, 5, 7] := by
      have := ints_new v3 [3, 5, 7] 2
      rw [z4] at this
      rw [hv4]; exact this
    replace hs : Src v4 b a n cap := by rw [hv4, hv3]; exact (hs.alloc _).alloc _
    replace G : w.grownBy v4 (some b) := by rw [hv4, hv3]; exact grown_alloc (grown_alloc G _) _
    replace RA : v4.heap[A]? = some (.cells #[.slice none 0 0] 26 (0, 0)) := by rw [hv4, hv3]; exact row_g (row_g RA (World.grownBy_alloc _ _ none) (by simp)) (World.grownBy_alloc _ _ none) (by simp)
    replace o : OwnInts v4 E (.slice (some ⟨E, 0, none⟩) 0 0) [] := by rw [hv4, hv3]; exact (o.alloc _).alloc _
    have hEO : E < O := by omega
    have hc := pick_n b a n cap hn (O + 1) _ 3 rfl (by omega) (by omega) (by omega) v4 hs I4
    have HO := Lib.hid hO
    have Hv3 := Lib.hid hv3
    have Hv4 := Lib.hid hv4
    clear hO hv3 hv4 I4 RO3 zv2 z3 z4
    go_wp2_with fail
    rw [← HO.out, ← Hv3.out, ← Hv4.out]
    refine hc.mono ?_
    rintro e u5 ⟨p, rfl, hp0, hs', hg⟩
    have hp : 3 ≤ p ∧ p ≤ 7 := by simp only [List.mem_cons, List.not_mem_nil, or_false] at hp0; omega
    replace G := grown_trans G hg
    replace RA := row_g RA hg (by simp; omega)
    replace RO := row_g RO hg (by simp; omega)
    replace o := o.kept hg (.inr (by simp [Value.ownBlock]; omega))
    replace hs := hs'
    clear hc hg hs' hp0
    have hnx := next_any b a n cap hn p (by omega) u5 hs
    go_wp2_with fail
    refine hnx.mono ?_
    rintro e u6 ⟨x, rfl, x0, x1, x2, hs', hg⟩
    have hx : x < 7 := by have := x2 (by omega); omega
    replace G := grown_trans G hg
    replace RA := row_g RA hg (by simp; omega)
    replace RO := row_g RO hg (by simp; omega)
    replace o := o.kept hg (.inr (by simp [Value.ownBlock]; omega))
    replace hs := hs'
    clear hnx hg hs' x1 x2 hp
    obtain ⟨n1, hn1⟩ : ∃ n1 : Nat, x = n1 := ⟨x.toNat, by omega⟩
    by_cases hk3 : kd = 3
    · subst hk3
      have b3 : True := trivial
      clear hn1
      have hnx := next_any b a n cap hn 4 (by omega) u6 hs
      go_wp2_with fail
      refine hnx.mono ?_
      rintro e u7 ⟨y, rfl, y0, y1, y2, hs', hg⟩
      have hy : y < 4 := by have := y2 (by omega); omega
      replace G := grown_trans G hg
      replace RA := row_g RA hg (by simp; omega)
      replace RO := row_g RO hg (by simp; omega)
      replace o := o.kept hg (.inr (by simp [Value.ownBlock]; omega))
      replace hs := hs'
      clear hnx hg hs' y1 y2
      obtain ⟨m, rfl⟩ : ∃ m : Nat, y = m := ⟨y.toNat, by omega⟩
      have hm4 : m + 1 ≤ 4 := by omega
      have hm : 1 ≤ m + 1 ∧ m + 1 ≤ 7 := by omega
      clear hx x0 y0 hy
      go_wp2_with fail
      go_loopw [5] (fun kv wr => ∃ (k : Nat) (T : List Int) (vS : Value), kv = .int .i64 (k : Int) ∧ Hid ((∀ i, i < T.length → gi T i = (3 : Int)) ∧ T.length + k = (m + 1)) ∧ OwnInts wr E vS T ∧ (∀ g, vS.ownBlock = some g → g = E ∨ O < g) ∧ wr.heap[O]? = some (.cells #[vS] 26 (0, 0)) ∧ wr.heap[A]? = some (.cells #[.slice none 0 0] 26 (0, 0)) ∧ Src wr b a n cap ∧ w.grownBy wr (some b)) (fun kv _ => (intOf kv).toNat)
      case atStart => exact ⟨(m + 1), [], _, by go_num, Lib.hid ⟨fun i h => by simp at h, by simp⟩, o, fun g hg => .inl (by simp [Value.ownBlock] at hg; omega), RO, RA, hs, G⟩
      case round =>
        clear o RO RA hs G b3
        obtain ⟨k, T, vS, rfl, HT, own, hvS, RO, RA, hs, G⟩ := hrel
        obtain ⟨aS, cS, hvs⟩ := own.shape
        by_cases hkp : 0 < k
        · have i1 : (0 : Int) < (k : Int) := by omega
          have xX := cell_of1' RO
          have hkb : (k : Int) < 16 := by have := HT.out.2; omega
          have hT8 : T.length ≤ 8 := by have := HT.out.2; omega
          clear hvs
          go_wp2_with (at_builtin; refine wpList_append_int_at rfl _ _ rfl E vS T rfl (own.alloc _) wr.heap.size (3 : Int) rfl (cell_new _ _ _) (by omega) (by have := row_lt RO; simp; omega) ?_; intro v' w6 own' hgrow hnew; obtain ⟨a6, c6, hv6⟩ := own_shp own'; rw [List.length_append, List.length_singleton] at hv6; subst hv6; have ROn := row_g (row_g RO (World.grownBy_alloc wr (.cells #[.int .i64 (3 : Int)] 2) none) (by simp)) hgrow (fun e => by rcases hvS _ e.symm with h | h <;> omega); have RAn := row_g (row_g RA (World.grownBy_alloc wr (.cells #[.int .i64 (3 : Int)] 2) none) (by simp)) hgrow (fun e => by rcases hvS _ e.symm with h | h <;> omega); have xO := cell_of1' ROn; have fO := frozen_of_row w6 O 0 _ _ ROn; have zO := row_lt ROn)
          have hvN : ∀ g, (Value.slice a6 (T.length + 1) c6).ownBlock = some g → g = E ∨ O < g := fun g hg => by
            rcases hnew with e | e
            · exact hvS g (e.symm.trans hg)
            · rw [e] at hg
              have := Option.some.inj hg
              have := row_lt RO
              simp at *
              omega
          have hGn : w.grownBy w6 (some b) := grown_over (grown_alloc G _) hgrow (fun g hg => by rcases hvS g hg with h | h <;> (have := HA.out; omega))
          have hsn : Src w6 b a n cap := (hs.alloc _).grownO hgrow (fun g hg => by rcases hvS g hg with h | h <;> omega)
          have HTn : Hid ((∀ i, i < (T ++ [(3 : Int)]).length → gi (T ++ [(3 : Int)]) i = (3 : Int)) ∧ (T ++ [(3 : Int)]).length + (k - 1) = (m + 1)) := Lib.hid ⟨cst_snoc HT.out.1, by rw [List.length_append, List.length_singleton]; have := HT.out.2; omega⟩
          go_roundw
          case rel => exact ⟨k - 1, T ++ [(3 : Int)], _, (by rw [show ((k - 1 : Nat) : Int) = (k : Int) - 1 by omega]), HTn, own_setO own' O (fun e => by rcases hvN _ e with h | h <;> omega) _, hvN, row_store1' _ ROn, row_setO RAn (by simp; omega) _, hsn.setO _ (by simp; omega) _, grown_set hGn _ (by simp; have := HA.out; omega) _⟩
          case measure => simp [intOf]; omega
        · have i1 : ¬ (0 : Int) < (k : Int) := by omega
          have hSp := sp_const HT.out.1 (by have := HT.out.2; omega) hm (by omega) (fun _ => hm4)
          have hX := intsX_own (b := A) (hvs ▸ own) (by omega)
          have xOt := cell_of1' RO
          rw [hvs] at xOt
          have xAt := cell_of1' RA
          have fAt := frozen_of_row wr A 0 _ _ RA
          have zAt := row_lt RA
          have hXs := (hX.set A (.slice aS T.length cS) (fun g o e => by have := hX.2 g o e; omega))
          have hse := hs.setO ⟨A, 0, none⟩ (by simp; omega) (.slice aS T.length cS)
          have Ge := grown_set G ⟨A, 0, none⟩ (by simp; have := HA.out; omega) (.slice aS T.length cS)
          clear hvs
          go_wp2_with fail
          refine bodyPost_ret (v := .agg #[.slice aS T.length cS]) (by simp [results, Tryz.results43, go_sem, xAt, fAt, zAt]) rfl ?_
          exact ⟨aS, T, ⟨cS, rfl⟩, (by rw [← HA.out]; exact hXs), hSp, hse, Ge⟩
    · have b3 : (kd == 3) = false := by simpa using hk3
      have h4 : kd = 3 → n1 + 1 ≤ 4 := fun e => absurd e hk3
      subst hn1
      have hm : 1 ≤ n1 + 1 ∧ n1 + 1 ≤ 7 := by omega
      have H4 := Lib.hid h4
      clear hk3 hx x0 h4
      go_wp2_with fail
      go_loopw [5] (fun kv wr => ∃ (k : Nat) (T : List Int) (vS : Value), kv = .int .i64 (k : Int) ∧ Hid ((∀ i, i < T.length → gi T i = kd) ∧ T.length + k = (n1 + 1)) ∧ OwnInts wr E vS T ∧ (∀ g, vS.ownBlock = some g → g = E ∨ O < g) ∧ wr.heap[O]? = some (.cells #[vS] 26 (0, 0)) ∧ wr.heap[A]? = some (.cells #[.slice none 0 0] 26 (0, 0)) ∧ Src wr b a n cap ∧ w.grownBy wr (some b)) (fun kv _ => (intOf kv).toNat)
      case atStart => exact ⟨(n1 + 1), [], _, by go_num, Lib.hid ⟨fun i h => by simp at h, by simp⟩, o, fun g hg => .inl (by simp [Value.ownBlock] at hg; omega), RO, RA, hs, G⟩
      case round =>
        clear o RO RA hs G b3
        obtain ⟨k, T, vS, rfl, HT, own, hvS, RO, RA, hs, G⟩ := hrel
        obtain ⟨aS, cS, hvs⟩ := own.shape
        by_cases hkp : 0 < k
        · have i1 : (0 : Int) < (k : Int) := by omega
          have xX := cell_of1' RO
          have hkb : (k : Int) < 16 := by have := HT.out.2; omega
          have hT8 : T.length ≤ 8 := by have := HT.out.2; omega
          clear hvs
          go_wp2_with (at_builtin; refine wpList_append_int_at rfl _ _ rfl E vS T rfl (own.alloc _) wr.heap.size kd rfl (cell_new _ _ _) (by omega) (by have := row_lt RO; simp; omega) ?_; intro v' w6 own' hgrow hnew; obtain ⟨a6, c6, hv6⟩ := own_shp own'; rw [List.length_append, List.length_singleton] at hv6; subst hv6; have ROn := row_g (row_g RO (World.grownBy_alloc wr (.cells #[.int .i64 kd] 2) none) (by simp)) hgrow (fun e => by rcases hvS _ e.symm with h | h <;> omega); have RAn := row_g (row_g RA (World.grownBy_alloc wr (.cells #[.int .i64 kd] 2) none) (by simp)) hgrow (fun e => by rcases hvS _ e.symm with h | h <;> omega); have xO := cell_of1' ROn; have fO := frozen_of_row w6 O 0 _ _ ROn; have zO := row_lt ROn)
          have hvN : ∀ g, (Value.slice a6 (T.length + 1) c6).ownBlock = some g → g = E ∨ O < g := fun g hg => by
            rcases hnew with e | e
            · exact hvS g (e.symm.trans hg)
            · rw [e] at hg
              have := Option.some.inj hg
              have := row_lt RO
              simp at *
              omega
          have hGn : w.grownBy w6 (some b) := grown_over (grown_alloc G _) hgrow (fun g hg => by rcases hvS g hg with h | h <;> (have := HA.out; omega))
          have hsn : Src w6 b a n cap := (hs.alloc _).grownO hgrow (fun g hg => by rcases hvS g hg with h | h <;> omega)
          have HTn : Hid ((∀ i, i < (T ++ [kd]).length → gi (T ++ [kd]) i = kd) ∧ (T ++ [kd]).length + (k - 1) = (n1 + 1)) := Lib.hid ⟨cst_snoc HT.out.1, by rw [List.length_append, List.length_singleton]; have := HT.out.2; omega⟩
          go_roundw
          case rel => exact ⟨k - 1, T ++ [kd], _, (by rw [show ((k - 1 : Nat) : Int) = (k : Int) - 1 by omega]), HTn, own_setO own' O (fun e => by rcases hvN _ e with h | h <;> omega) _, hvN, row_store1' _ ROn, row_setO RAn (by simp; omega) _, hsn.setO _ (by simp; omega) _, grown_set hGn _ (by simp; have := HA.out; omega) _⟩
          case measure => simp [intOf]; omega
        · have i1 : ¬ (0 : Int) < (k : Int) := by omega
          have hSp := sp_const HT.out.1 (by have := HT.out.2; omega) hm (by omega) H4.out
          have hX := intsX_own (b := A) (hvs ▸ own) (by omega)
          have xOt := cell_of1' RO
          rw [hvs] at xOt
          have xAt := cell_of1' RA
          have fAt := frozen_of_row wr A 0 _ _ RA
          have zAt := row_lt RA
          have hXs := (hX.set A (.slice aS T.length cS) (fun g o e => by have := hX.2 g o e; omega))
          have hse := hs.setO ⟨A, 0, none⟩ (by simp; omega) (.slice aS T.length cS)
          have Ge := grown_set G ⟨A, 0, none⟩ (by simp; have := HA.out; omega) (.slice aS T.length cS)
          clear hvs
          go_wp2_with fail
          refine bodyPost_ret (v := .agg #[.slice aS T.length cS]) (by simp [results, Tryz.results43, go_sem, xAt, fAt, zAt]) rfl ?_
          exact ⟨aS, T, ⟨cS, rfl⟩, (by rw [← HA.out]; exact hXs), hSp, hse, Ge⟩

set_option maxHeartbeats 4000000 in
theorem some5_any (b : Nat) (a : Option Addr) (n cap : Nat) (hn : n ≤ 4096) (ao : Option Addr) (S : List Int) (capS : Nat) (hSp : Sp S) (w : World) (hs : Src w b a n cap) (hX : IntsX b w ao S) :
    Calls Tryz.prog 44 #[.pointer (some ⟨b, 0, none⟩), .agg #[.slice ao S.length capS]] w fun e w' => ∃ g c L, e = .returned (.slice (some ⟨g, 0, none⟩) L.length c) ∧ OwnInts w' w.heap.size (.slice (some ⟨g, 0, none⟩) L.length c) L ∧ L.length ≤ 5 ∧ (∀ i, i < L.length → 0 ≤ gi L i ∧ gi L i < nW S) ∧ Src w' b a n cap ∧ w.grownBy w' (some b) := by
  have hbl := hs.lt
  obtain ⟨NN1, NN2⟩ := nW_bd hSp
  obtain ⟨N, hN⟩ : ∃ N : Nat, nW S = (N : Int) := ⟨(nW S).toNat, by omega⟩
  have hN4 : 1 ≤ N ∧ N ≤ 1024 := by omega
  have HSp := Lib.hid hSp
  rw [hN]
  obtain ⟨A, hA⟩ : ∃ A, A = w.heap.size := ⟨_, rfl⟩
  obtain ⟨W2, hW2⟩ : ∃ W2, W2 = (w.alloc (.cells #[.slice ao S.length capS] 26)).alloc (.cells #[] 2) := ⟨_, rfl⟩
  have hs2 : Src W2 b a n cap := by rw [hW2]; exact (hs.alloc _).alloc _
  have G : w.grownBy W2 (some b) := by rw [hW2]; exact grown_alloc (grown_alloc (World.grownBy.refl w _) _) _
  have RA : W2.heap[A]? = some (.cells #[.slice ao S.length capS] 26 (0, 0)) := by
    rw [hW2, hA]; exact row_g (heap_alloc_new w _) (World.grownBy_alloc _ _ none) (by simp)
  have hX2 : IntsX b W2 ao S := by rw [hW2]; exact (hX.below (B := 0) ((Below.refl _ _).alloc (Nat.le_refl _) _)).below (B := 0) ((Below.refl _ _).alloc (Nat.le_refl _) _)
  have own2 : OwnInts W2 (A + 1) (.slice (some ⟨A + 1, 0, none⟩) 0 0) [] := by
    rw [hW2]; exact own_empty _ (A + 1) (by simp [hA]) (by simp [hA])
  have hXA : Hid (∀ g o, ao = some ⟨g, o, none⟩ → g < A) := Lib.hid fun g o e => by
    rcases hX.1 with h | ⟨g', o', e', hl, _⟩
    · have := HSp.out.lo; omega
    · rw [e] at e'; cases e'; rw [hA]; exact hl
  have hAb : b < A := by omega
  have hn5 := next_any b a n cap hn 5 (by omega) W2 hs2
  have HA := Lib.hid hA
  have HW2 := Lib.hid hW2
  clear hA hW2 hs hX hSp NN1 NN2 hbl
  go_enter Tryz.func44, Tryz.ntmps44
  go_wp2_with fail
  rw [← HA.out, ← HW2.out]
  refine hn5.mono ?_
  rintro e w5 ⟨x, rfl, x0, x1, x2, hs', hg⟩
  have hx : x < 5 := by have := x2 (by omega); omega
  have RA5 := row_g RA hg (by simp; omega)
  have hX5 := hX2.grown hg
  have hG5 := grown_trans G hg
  have own5 := own2.kept hg (.inr (by simp [Value.ownBlock]; omega))
  clear hn5 hg RA hX2 hs2 G own2 x1 x2
  obtain ⟨k0, rfl⟩ : ∃ k0 : Nat, x = k0 := ⟨x.toNat, by omega⟩
  go_wp2_with fail
  go_loopw [5, 6] (fun lv kv wl => ∃ (k : Nat) (Ck : List Int) (g c : Nat), kv = .int .i64 (k : Int) ∧ lv = .slice (some ⟨g, 0, none⟩) Ck.length c ∧ Hid ((∀ i, i < Ck.length → 0 ≤ gi Ck i ∧ gi Ck i < (N : Int)) ∧ Ck.length + k ≤ 5) ∧ OwnInts wl (A + 1) (.slice (some ⟨g, 0, none⟩) Ck.length c) Ck ∧ wl.heap[A]? = some (.cells #[.slice ao S.length capS] 26 (0, 0)) ∧ IntsX b wl ao S ∧ Src wl b a n cap ∧ w.grownBy wl (some b)) (fun _ kv _ => (intOf kv).toNat)
  case atStart => exact ⟨k0, [], A + 1, 0, rfl, rfl, Lib.hid ⟨fun i hi => by simp at hi, by simp; omega⟩, own5, RA5, hX5, hs', hG5⟩
  case round =>
    clear own5 RA5 hX5 hs' hG5 hx x0
    obtain ⟨k, Ck, g, c, rfl, rfl, HK, own7, RA7, hX7, hs7, hG7⟩ := hrel
    have hNc := l01N_sp ao S capS wr HSp.out hX7.1
    rw [hN] at hNc
    have xA7 := cell_of1' RA7
    by_cases hlt : 0 < k
    · have i1 : (0 : Int) < (k : Int) := by omega
      have hkb : (k : Int) < 16 := by have := HK.out.2; omega
      have hC8 : Ck.length ≤ 5 := by have := HK.out.2; omega
      go_wp2_with fail
      refine hNc.mono ?_
      rintro e w8 ⟨rfl, hb8⟩
      have RA8 := row_g RA7 (grown_of_below hb8 none) (by simp)
      have hX8 := hX7.below (B := 0) hb8
      have hs8 := hs7.below hb8 hs7.lt
      have hG8 := grown_trans hG7 (grown_of_below hb8 _)
      have own8 := own7.below hb8
      clear hNc hb8 RA7 hX7 hs7 hG7 own7 xA7
      have hn9 := next_any b a n cap hn (N : Int) (by omega) w8 hs8
      go_wp2_with fail
      refine hn9.mono ?_
      rintro e w9 ⟨y, rfl, y0, y1, y2, hs9, hg9⟩
      have RA9 := row_g RA8 hg9 (by simp; omega)
      have hX9 := hX8.grown hg9
      have hG9 := grown_trans hG8 hg9
      have zg8 : A + 1 ≤ g := ownBlock_ge5 own8 rfl
      have own9 := own8.kept hg9 (.inr (by simp [Value.ownBlock]; omega))
      clear hn9 hg9 RA8 hX8 hs8 hG8 own8
      have hyN : y < (N : Int) := y2 (by omega)
      have hzA := row_lt RA9
      go_wp2_with (at_builtin; refine wpList_append_int_at rfl _ _ rfl (A + 1) _ Ck rfl (own9.alloc _) w9.heap.size y rfl (cell_new _ _ _) (by omega) (by simp; omega) ?_; intro v' wz own' hgrow hnew; obtain ⟨a6, c6, hv6⟩ := own_shp own'; rw [List.length_append, List.length_singleton] at hv6; subst hv6)
      have RAz := row_g (row_g RA9 (World.grownBy_alloc w9 (.cells #[.int .i64 y] 2) none) (by simp)) hgrow (fun e => by have := ownBlock_ge5 own9 e.symm; omega)
      have hXz := (hX9.below (B := 0) ((Below.refl _ _).alloc (Nat.le_refl _) (.cells #[.int .i64 y] 2))).grownR hgrow (fun g' o e e2 => by have h1 := ownBlock_ge5 own9 e2.symm; have h2 := hXA.out g' o e; omega)
      have hsz : Src wz b a n cap := (hs9.alloc _).grownO hgrow (fun g' e => by have := ownBlock_ge5 own9 e; omega)
      have hGz : w.grownBy wz (some b) := grown_over (grown_alloc hG9 _) hgrow (fun g' e => by have := ownBlock_ge5 own9 e; have := HA.out; omega)
      have HKz : Hid ((∀ i, i < (Ck ++ [y]).length → 0 ≤ gi (Ck ++ [y]) i ∧ gi (Ck ++ [y]) i < (N : Int)) ∧ (Ck ++ [y]).length + (k - 1) ≤ 5) := Lib.hid ⟨fun i hi => by
        rcases List.mem_append.1 (gi_mem hi) with h | h
        · obtain ⟨j, hj, e⟩ := mem_gi h
          rw [← e]; exact HK.out.1 j hj
        · rw [List.mem_singleton] at h; rw [h]; omega, by rw [List.length_append, List.length_singleton]; have := HK.out.2; omega⟩
      obtain ⟨g', rfl⟩ : ∃ g', a6 = some ⟨g', 0, none⟩ := by
        rcases own'.2 with ⟨hv, h0⟩ | ⟨g', cap', cur, hv, _⟩
        · simp at h0
        · simp only [Value.slice.injEq] at hv; exact ⟨g', hv.1⟩
      go_roundw
      case rel => exact ⟨k - 1, Ck ++ [y], g', c6, (by rw [show ((k - 1 : Nat) : Int) = (k : Int) - 1 by omega]), by rw [List.length_append, List.length_singleton], HKz, by rw [List.length_append, List.length_singleton]; exact own', RAz, hXz, hsz, hGz⟩
      case measure => simp [intOf]; omega
    · have i1 : ¬ (0 : Int) < (k : Int) := by omega
      go_wp2_with fail
      go_ret
      exact ⟨g, c, Ck, rfl, own7.rebase (by have := HA.out; omega), by have := HK.out.2; omega, HK.out.1, hs7, hG7⟩

end Go.Proofs.YtcnnijeokefboaaGreatDoor
