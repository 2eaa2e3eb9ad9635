/-
  Texts put together: DrwS9, Put2. By an AI agent.
-/
import Derived.Test.YtamebfbddoeflaaPk24
import Derived.Test.YtamebfbddoeflaaPkPut
namespace Go.Proofs.Ytamebfbddoeflaa
open Go.RowKit Cv
set_option linter.unusedVariables false
set_option linter.unusedSimpArgs false
set_option maxRecDepth 100000

theorem own_capS {w : World} {base n c : Nat} {a : Option Addr} {T : List Int} (h : OwnInts w base (.slice a n c) T) : T.length ≤ c := by
  rcases h.2 with ⟨hv, hl⟩ | ⟨g', c', _, hv, hb, hh, hle, hm, _⟩ <;> simp only [Value.slice.injEq] at hv
  · simp at hl; simp [hl]
  · obtain ⟨_, rfl, rfl⟩ := hv
    exact hle

set_option maxHeartbeats 4000000 in
theorem space9_any (b : Nat) (a : Option Addr) (n cap : Nat) (hn : n ≤ 4096) (w : World) (hs : Src w b a n cap) :
    Calls Try.prog 50 #[.pointer (some ⟨b, 0, none⟩)] w fun e w' => ∃ x S c, e = .returned (.agg #[.slice x S.length c]) ∧ IntsX w.heap.size w' x S ∧ S.length ≤ c ∧ Sp S ∧ Src w' b a n cap ∧ w.grownBy w' (some b) := by
  have hbl := hs.lt
  have G := World.grownBy.refl w (some b)
  obtain ⟨A, hA⟩ : ∃ z, z = w.heap.size := ⟨_, rfl⟩
  obtain ⟨u1, hu1⟩ : ∃ z, z = w.alloc (.cells #[.slice none 0 0] 26) := ⟨_, rfl⟩
  have RA : u1.heap[A]? = some (.cells #[.slice none 0 0] 26 (0, 0)) := by rw [hu1, hA]; exact heap_alloc_new _ _
  replace hs : Src u1 b a n cap := by rw [hu1]; exact hs.alloc _
  replace G : w.grownBy u1 (some b) := by rw [hu1]; exact grown_alloc G _
  have HA := Lib.hid hA
  have Hu1 := Lib.hid hu1
  have hAb : b < A := by rw [hA]; exact hbl
  have hnx := next_any b a n cap hn 16 (by omega) u1 hs
  clear hA hu1
  go_enter Try.func50, Try.ntmps50
  go_wp2_with fail
  rw [← Hu1.out, ← HA.out]
  refine hnx.mono ?_
  rintro e u2 ⟨q, rfl, q0, q1, q2, hs', hg⟩
  replace G := grown_trans G hg
  replace RA := row_g RA hg (by simp; omega)
  replace hs := hs'
  clear hnx hg hs' q0 q1 q2 hbl
  by_cases hq : q = 0
  · have e0 : (q == 0) = true := by simpa using hq
    clear hq
    have zA0 := row_lt RA
    have hc := drawOf_any b a n cap hn 81 (by omega) u2 hs
    go_wp2_with fail
    refine hc.mono ?_
    rintro e u3 ⟨vS, S, rfl, oS, hSp, hs', hg⟩
    obtain ⟨x, c, hvS⟩ := own_shp oS
    subst hvS
    have hX := intsX_own (b := A) oS zA0
    have hcS := own_capS oS
    replace G := grown_trans G hg
    replace RA := row_g RA hg (by simp; omega)
    replace hs := hs'
    clear hc hg hs' zA0 oS
    have xAt := cell_of1' RA
    have fAt := frozen_of_row u3 A 0 _ _ RA
    have zAt := row_lt RA
    have hXs := (hX.set A (.slice x S.length c) (fun g o e => by have := hX.2 g o e; omega))
    have hse := hs.setO ⟨A, 0, none⟩ (by simp; omega) (.slice x S.length c)
    have Ge := grown_set G ⟨A, 0, none⟩ (by simp; have := HA.out; omega) (.slice x S.length c)
    go_wp2_with fail
    refine bodyPost_ret (v := .agg #[.slice x S.length c]) (by simp [results, Try.results50, go_sem, xAt, fAt, zAt]) rfl ?_
    exact ⟨x, S, c, rfl, (by rw [← HA.out]; exact hXs), hcS, hSp, hse, Ge⟩
  · have e0 : (q == 0) = false := by simpa using hq
    clear hq
    have zA0 := row_lt RA
    obtain ⟨E, hE⟩ : ∃ z, z = u2.heap.size := ⟨_, rfl⟩
    obtain ⟨v2, hv2⟩ : ∃ z, z = (u2.alloc (.cells #[] 2)).alloc (.cells #[.int .i64 2, .int .i64 2, .int .i64 3] 2) := ⟨_, rfl⟩
    have o : OwnInts v2 E (.slice (some ⟨E, 0, none⟩) 0 0) [] := by rw [hv2]; exact (own_empty u2 E (by omega) hE).alloc _
    have I2 : Ints v2 (some ⟨E + 1, 0, none⟩) [2, 2, 3] := by
      have := ints_new (u2.alloc (.cells #[] 2)) [2, 2, 3] 2
      rw [show (u2.alloc (.cells #[] 2)).heap.size = E + 1 by simp [hE]] at this
      rw [hv2]; exact this
    have zv2 : v2.heap.size = E + 2 := by rw [hv2, hE]; simp
    replace hs : Src v2 b a n cap := by rw [hv2]; exact (hs.alloc _).alloc _
    replace G : w.grownBy v2 (some b) := by rw [hv2]; exact grown_alloc (grown_alloc G _) _
    replace RA : v2.heap[A]? = some (.cells #[.slice none 0 0] 26 (0, 0)) := by rw [hv2]; exact row_g (row_g RA (World.grownBy_alloc _ _ none) (by simp)) (World.grownBy_alloc _ _ none) (by simp)
    have hAE : A < E := by rw [hE]; exact zA0
    have hc := pick_n b a n cap hn (E + 1) _ 3 rfl (by omega) (by omega) (by omega) v2 hs I2
    have HE := Lib.hid hE
    have Hv2 := Lib.hid hv2
    clear hE hv2 zA0 I2
    go_wp2_with fail
    rw [← Hv2.out, ← HE.out]
    refine hc.mono ?_
    rintro e u3 ⟨kd, rfl, hkd0, hs', hg⟩
    have hkd : kd = 2 ∨ kd = 3 := by simp only [List.mem_cons, List.not_mem_nil, or_false] at hkd0; omega
    replace G := grown_trans G hg
    replace RA := row_g RA hg (by simp; omega)
    replace o := o.kept hg (.inr (by simp [Value.ownBlock]; omega))
    have z3 := hg.size
    replace hs := hs'
    clear hc hg hs' hkd0
    obtain ⟨O, hO⟩ : ∃ z, z = u3.heap.size := ⟨_, rfl⟩
    obtain ⟨v3, hv3⟩ : ∃ z, z = u3.alloc (.cells #[.slice (some ⟨E, 0, none⟩) 0 0] 26) := ⟨_, rfl⟩
    obtain ⟨v4, hv4⟩ : ∃ z, z = v3.alloc (.cells #[.int .i64 3, .int .i64 5, .int .i64 7] 2) := ⟨_, rfl⟩
    have RO3 : v3.heap[O]? = some (.cells #[.slice (some ⟨E, 0, none⟩) 0 0] 26 (0, 0)) := by rw [hv3, hO]; exact heap_alloc_new _ _
    have RO : v4.heap[O]? = some (.cells #[.slice (some ⟨E, 0, none⟩) 0 0] 26 (0, 0)) := by rw [hv4]; exact row_g RO3 (World.grownBy_alloc _ _ none) (by simp)
    have z4 : v3.heap.size = O + 1 := by rw [hv3, hO]; simp
    have I4 : Ints v4 (some ⟨O + 1, 0, none⟩) [3, 5, 7] := by
      have := ints_new v3 [3, 5, 7] 2
      rw [z4] at this
      rw [hv4]; exact this
    replace hs : Src v4 b a n cap := by rw [hv4, hv3]; exact (hs.alloc _).alloc _
    replace G : w.grownBy v4 (some b) := by rw [hv4, hv3]; exact grown_alloc (grown_alloc G _) _
    replace RA : v4.heap[A]? = some (.cells #[.slice none 0 0] 26 (0, 0)) := by rw [hv4, hv3]; exact row_g (row_g RA (World.grownBy_alloc _ _ none) (by simp)) (World.grownBy_alloc _ _ none) (by simp)
    replace o : OwnInts v4 E (.slice (some ⟨E, 0, none⟩) 0 0) [] := by rw [hv4, hv3]; exact (o.alloc _).alloc _
    have hEO : E < O := by omega
    have hc := pick_n b a n cap hn (O + 1) _ 3 rfl (by omega) (by omega) (by omega) v4 hs I4
    have HO := Lib.hid hO
    have Hv3 := Lib.hid hv3
    have Hv4 := Lib.hid hv4
    clear hO hv3 hv4 I4 RO3 zv2 z3 z4
    go_wp2_with fail
    rw [← HO.out, ← Hv3.out, ← Hv4.out]
    refine hc.mono ?_
    rintro e u5 ⟨p, rfl, hp0, hs', hg⟩
    have hp : 3 ≤ p ∧ p ≤ 7 := by simp only [List.mem_cons, List.not_mem_nil, or_false] at hp0; omega
    replace G := grown_trans G hg
    replace RA := row_g RA hg (by simp; omega)
    replace RO := row_g RO hg (by simp; omega)
    replace o := o.kept hg (.inr (by simp [Value.ownBlock]; omega))
    replace hs := hs'
    clear hc hg hs' hp0
    have hnx := next_any b a n cap hn p (by omega) u5 hs
    go_wp2_with fail
    refine hnx.mono ?_
    rintro e u6 ⟨x, rfl, x0, x1, x2, hs', hg⟩
    have hx : x < 7 := by have := x2 (by omega); omega
    replace G := grown_trans G hg
    replace RA := row_g RA hg (by simp; omega)
    replace RO := row_g RO hg (by simp; omega)
    replace o := o.kept hg (.inr (by simp [Value.ownBlock]; omega))
    replace hs := hs'
    clear hnx hg hs' x1 x2 hp
    obtain ⟨n1, hn1⟩ : ∃ n1 : Nat, x = n1 := ⟨x.toNat, by omega⟩
    by_cases hk3 : kd = 3
    · subst hk3
      have b3 : True := trivial
      clear hn1
      have hnx := next_any b a n cap hn 4 (by omega) u6 hs
      go_wp2_with fail
      refine hnx.mono ?_
      rintro e u7 ⟨y, rfl, y0, y1, y2, hs', hg⟩
      have hy : y < 4 := by have := y2 (by omega); omega
      replace G := grown_trans G hg
      replace RA := row_g RA hg (by simp; omega)
      replace RO := row_g RO hg (by simp; omega)
      replace o := o.kept hg (.inr (by simp [Value.ownBlock]; omega))
      replace hs := hs'
      clear hnx hg hs' y1 y2
      obtain ⟨m, rfl⟩ : ∃ m : Nat, y = m := ⟨y.toNat, by omega⟩
      have hm4 : m + 1 ≤ 4 := by omega
      have hm : 1 ≤ m + 1 ∧ m + 1 ≤ 7 := by omega
      clear hx x0 y0 hy
      go_wp2_with fail
      go_loopw [5] (fun kv wr => ∃ (k : Nat) (T : List Int) (vS : Value), kv = .int .i64 (k : Int) ∧ Hid ((∀ i, i < T.length → gi T i = (3 : Int)) ∧ T.length + k = (m + 1)) ∧ OwnInts wr E vS T ∧ (∀ g, vS.ownBlock = some g → g = E ∨ O < g) ∧ wr.heap[O]? = some (.cells #[vS] 26 (0, 0)) ∧ wr.heap[A]? = some (.cells #[.slice none 0 0] 26 (0, 0)) ∧ Src wr b a n cap ∧ w.grownBy wr (some b)) (fun kv _ => (intOf kv).toNat)
      case atStart => exact ⟨(m + 1), [], _, by go_num, Lib.hid ⟨fun i h => by simp at h, by simp⟩, o, fun g hg => .inl (by simp [Value.ownBlock] at hg; omega), RO, RA, hs, G⟩
      case round =>
        clear o RO RA hs G b3
        obtain ⟨k, T, vS, rfl, HT, own, hvS, RO, RA, hs, G⟩ := hrel
        obtain ⟨aS, cS, hvs⟩ := own.shape
        by_cases hkp : 0 < k
        · have i1 : (0 : Int) < (k : Int) := by omega
          have xX := cell_of1' RO
          have hkb : (k : Int) < 16 := by have := HT.out.2; omega
          have hT8 : T.length ≤ 8 := by have := HT.out.2; omega
          clear hvs
          go_wp2_with (at_builtin; refine wpList_append_int_at rfl _ _ rfl E vS T rfl (own.alloc _) wr.heap.size (3 : Int) rfl (cell_new _ _ _) (by omega) (by have := row_lt RO; simp; omega) ?_; intro v' w6 own' hgrow hnew; obtain ⟨a6, c6, hv6⟩ := own_shp own'; rw [List.length_append, List.length_singleton] at hv6; subst hv6; have ROn := row_g (row_g RO (World.grownBy_alloc wr (.cells #[.int .i64 (3 : Int)] 2) none) (by simp)) hgrow (fun e => by rcases hvS _ e.symm with h | h <;> omega); have RAn := row_g (row_g RA (World.grownBy_alloc wr (.cells #[.int .i64 (3 : Int)] 2) none) (by simp)) hgrow (fun e => by rcases hvS _ e.symm with h | h <;> omega); have xO := cell_of1' ROn; have fO := frozen_of_row w6 O 0 _ _ ROn; have zO := row_lt ROn)
          have hvN : ∀ g, (Value.slice a6 (T.length + 1) c6).ownBlock = some g → g = E ∨ O < g := fun g hg => by
            rcases hnew with e | e
            · exact hvS g (e.symm.trans hg)
            · rw [e] at hg
              have := Option.some.inj hg
              have := row_lt RO
              simp at *
              omega
          have hGn : w.grownBy w6 (some b) := grown_over (grown_alloc G _) hgrow (fun g hg => by rcases hvS g hg with h | h <;> (have := HA.out; omega))
          have hsn : Src w6 b a n cap := (hs.alloc _).grownO hgrow (fun g hg => by rcases hvS g hg with h | h <;> omega)
          have HTn : Hid ((∀ i, i < (T ++ [(3 : Int)]).length → gi (T ++ [(3 : Int)]) i = (3 : Int)) ∧ (T ++ [(3 : Int)]).length + (k - 1) = (m + 1)) := Lib.hid ⟨cst_snoc HT.out.1, by rw [List.length_append, List.length_singleton]; have := HT.out.2; omega⟩
          go_roundw
          case rel => exact ⟨k - 1, T ++ [(3 : Int)], _, (by rw [show ((k - 1 : Nat) : Int) = (k : Int) - 1 by omega]), HTn, own_setO own' O (fun e => by rcases hvN _ e with h | h <;> omega) _, hvN, row_store1' _ ROn, row_setO RAn (by simp; omega) _, hsn.setO _ (by simp; omega) _, grown_set hGn _ (by simp; have := HA.out; omega) _⟩
          case measure => simp [intOf]; omega
        · have i1 : ¬ (0 : Int) < (k : Int) := by omega
          have hSp := sp_const HT.out.1 (by have := HT.out.2; omega) hm (by omega) (fun _ => hm4)
          have hX := intsX_own (b := A) (hvs ▸ own) (by omega)
          have hcS := own_capS (hvs ▸ own)
          have xOt := cell_of1' RO
          rw [hvs] at xOt
          have xAt := cell_of1' RA
          have fAt := frozen_of_row wr A 0 _ _ RA
          have zAt := row_lt RA
          have hXs := (hX.set A (.slice aS T.length cS) (fun g o e => by have := hX.2 g o e; omega))
          have hse := hs.setO ⟨A, 0, none⟩ (by simp; omega) (.slice aS T.length cS)
          have Ge := grown_set G ⟨A, 0, none⟩ (by simp; have := HA.out; omega) (.slice aS T.length cS)
          clear hvs
          go_wp2_with fail
          refine bodyPost_ret (v := .agg #[.slice aS T.length cS]) (by simp [results, Try.results50, go_sem, xAt, fAt, zAt]) rfl ?_
          exact ⟨aS, T, cS, rfl, (by rw [← HA.out]; exact hXs), hcS, hSp, hse, Ge⟩
    · have b3 : (kd == 3) = false := by simpa using hk3
      have h4 : kd = 3 → n1 + 1 ≤ 4 := fun e => absurd e hk3
      subst hn1
      have hm : 1 ≤ n1 + 1 ∧ n1 + 1 ≤ 7 := by omega
      have H4 := Lib.hid h4
      clear hk3 hx x0 h4
      go_wp2_with fail
      go_loopw [5] (fun kv wr => ∃ (k : Nat) (T : List Int) (vS : Value), kv = .int .i64 (k : Int) ∧ Hid ((∀ i, i < T.length → gi T i = kd) ∧ T.length + k = (n1 + 1)) ∧ OwnInts wr E vS T ∧ (∀ g, vS.ownBlock = some g → g = E ∨ O < g) ∧ wr.heap[O]? = some (.cells #[vS] 26 (0, 0)) ∧ wr.heap[A]? = some (.cells #[.slice none 0 0] 26 (0, 0)) ∧ Src wr b a n cap ∧ w.grownBy wr (some b)) (fun kv _ => (intOf kv).toNat)
      case atStart => exact ⟨(n1 + 1), [], _, by go_num, Lib.hid ⟨fun i h => by simp at h, by simp⟩, o, fun g hg => .inl (by simp [Value.ownBlock] at hg; omega), RO, RA, hs, G⟩
      case round =>
        clear o RO RA hs G b3
        obtain ⟨k, T, vS, rfl, HT, own, hvS, RO, RA, hs, G⟩ := hrel
        obtain ⟨aS, cS, hvs⟩ := own.shape
        by_cases hkp : 0 < k
        · have i1 : (0 : Int) < (k : Int) := by omega
          have xX := cell_of1' RO
          have hkb : (k : Int) < 16 := by have := HT.out.2; omega
          have hT8 : T.length ≤ 8 := by have := HT.out.2; omega
          clear hvs
          go_wp2_with (at_builtin; refine wpList_append_int_at rfl _ _ rfl E vS T rfl (own.alloc _) wr.heap.size kd rfl (cell_new _ _ _) (by omega) (by have := row_lt RO; simp; omega) ?_; intro v' w6 own' hgrow hnew; obtain ⟨a6, c6, hv6⟩ := own_shp own'; rw [List.length_append, List.length_singleton] at hv6; subst hv6; have ROn := row_g (row_g RO (World.grownBy_alloc wr (.cells #[.int .i64 kd] 2) none) (by simp)) hgrow (fun e => by rcases hvS _ e.symm with h | h <;> omega); have RAn := row_g (row_g RA (World.grownBy_alloc wr (.cells #[.int .i64 kd] 2) none) (by simp)) hgrow (fun e => by rcases hvS _ e.symm with h | h <;> omega); have xO := cell_of1' ROn; have fO := frozen_of_row w6 O 0 _ _ ROn; have zO := row_lt ROn)
          have hvN : ∀ g, (Value.slice a6 (T.length + 1) c6).ownBlock = some g → g = E ∨ O < g := fun g hg => by
            rcases hnew with e | e
            · exact hvS g (e.symm.trans hg)
            · rw [e] at hg
              have := Option.some.inj hg
              have := row_lt RO
              simp at *
              omega
          have hGn : w.grownBy w6 (some b) := grown_over (grown_alloc G _) hgrow (fun g hg => by rcases hvS g hg with h | h <;> (have := HA.out; omega))
          have hsn : Src w6 b a n cap := (hs.alloc _).grownO hgrow (fun g hg => by rcases hvS g hg with h | h <;> omega)
          have HTn : Hid ((∀ i, i < (T ++ [kd]).length → gi (T ++ [kd]) i = kd) ∧ (T ++ [kd]).length + (k - 1) = (n1 + 1)) := Lib.hid ⟨cst_snoc HT.out.1, by rw [List.length_append, List.length_singleton]; have := HT.out.2; omega⟩
          go_roundw
          case rel => exact ⟨k - 1, T ++ [kd], _, (by rw [show ((k - 1 : Nat) : Int) = (k : Int) - 1 by omega]), HTn, own_setO own' O (fun e => by rcases hvN _ e with h | h <;> omega) _, hvN, row_store1' _ ROn, row_setO RAn (by simp; omega) _, hsn.setO _ (by simp; omega) _, grown_set hGn _ (by simp; have := HA.out; omega) _⟩
          case measure => simp [intOf]; omega
        · have i1 : ¬ (0 : Int) < (k : Int) := by omega
          have hSp := sp_const HT.out.1 (by have := HT.out.2; omega) hm (by omega) H4.out
          have hX := intsX_own (b := A) (hvs ▸ own) (by omega)
          have hcS := own_capS (hvs ▸ own)
          have xOt := cell_of1' RO
          rw [hvs] at xOt
          have xAt := cell_of1' RA
          have fAt := frozen_of_row wr A 0 _ _ RA
          have zAt := row_lt RA
          have hXs := (hX.set A (.slice aS T.length cS) (fun g o e => by have := hX.2 g o e; omega))
          have hse := hs.setO ⟨A, 0, none⟩ (by simp; omega) (.slice aS T.length cS)
          have Ge := grown_set G ⟨A, 0, none⟩ (by simp; have := HA.out; omega) (.slice aS T.length cS)
          clear hvs
          go_wp2_with fail
          refine bodyPost_ret (v := .agg #[.slice aS T.length cS]) (by simp [results, Try.results50, go_sem, xAt, fAt, zAt]) rfl ?_
          exact ⟨aS, T, cS, rfl, (by rw [← HA.out]; exact hXs), hcS, hSp, hse, Ge⟩

end Go.Proofs.Ytamebfbddoeflaa

namespace Go.Proofs.Ytamebfbddoeflaa
open Go.RowKit Cv
set_option linter.unusedVariables false
set_option linter.unusedSimpArgs false
set_option maxRecDepth 100000

set_option maxHeartbeats 2000000 in
theorem l01Put_two (base g cap : Nat) (L : List Int) (x : Int) (w : World) (hl : L.length ≤ 1048575) (hrow : OwnInts w base (.slice (some ⟨g, 0, none⟩) L.length cap) L) :
    Calls Try.prog 52 #[.slice (some ⟨g, 0, none⟩) L.length cap, .int .i64 x] w fun e w' => ∃ g' c', e = .returned (.slice (some ⟨g', 0, none⟩) (putL L x).length c') ∧ (g' = g ∨ w.heap.size ≤ g') ∧ OwnInts w' base (.slice (some ⟨g', 0, none⟩) (putL L x).length c') (putL L x) ∧ Below w.heap.size w w' := by
  obtain ⟨hcap, hcm⟩ := own_cap hrow
  obtain ⟨hb1, hb2⟩ := hrow.base_le
  have hI := own_ints hrow
  have hcell : ∀ j, j < L.length → w.cell? ⟨g, j, none⟩ = some (.int .i64 (gi L j)) := fun j hj => hrow.cell hj
  have HL : Hid (putL L x = if 0 < putAt L x L.length ∧ gi L (putAt L x L.length - 1) = x then L else L.take (putAt L x L.length) ++ [x] ++ L.drop (putAt L x L.length)) := Lib.hid rfl
  unfold maxLen at hcm
  go_enter Try.func52, Try.ntmps52
  go_wp2_with fail
  go_loopw [5] (fun v wr => ∃ k : Nat, k ≤ L.length ∧ v = .int .i64 k ∧ Hid (putAt L x L.length = putAt L x k) ∧ Below w.heap.size w wr) (fun v _ => (intOf v).toNat)
  case atStart => exact ⟨L.length, Nat.le_refl _, rfl, Lib.hid rfl, Below.refl _ _⟩
  case round =>
    obtain ⟨k, hk, rfl, hp, B⟩ := hrel
    by_cases h0 : k = 0
    · subst h0
      have own := hrow.below B
      have i0 := own_ints_take own 0
      have i9 := own_ints_drop own 0
      have hs := B.size
      have HE : Hid (putL L x = L.take 0 ++ [x] ++ L.drop 0) := Lib.hid (by rw [HL.out, hp.out]; simp [putAt])
      go_wp2_with fail
      refine (l01Own_any ⟨g, 0, none⟩ (L.take 0) 0 cap (by rw [List.length_take]; omega) (by omega) _ i0).mono ?_
      rintro e w1 ⟨g1, c1, rfl, o1, hb⟩
      replace i9 := i9.below hb
      have B1 := B.trans (hb.mono hs)
      replace o1 := o1.rebase (base' := w.heap.size) hs
      have hs1 := B1.size
      go_wp2_with (first | (at_builtin; refine wpList_append_int rfl _ _ rfl w.heap.size _ _ rfl (o1.alloc _) w1.heap.size _ rfl (cell_new _ _ _) (by rw [List.length_take]; omega) (by rw [World.size_alloc]; omega) ?_; intro v' w4 hown' hgrow; obtain ⟨g2, c2, hv, hob⟩ := own_some hown' (by simp); subst hv; have hgb := grown_below (B1.alloc hs1 _) (by rw [World.size_alloc]; omega) hgrow (o1.alloc _) (Nat.le_refl _); have i8 := own_ints_drop (hrow.below hgb) 0; clear o1 hgrow; have hs4 := hgb.size) | (at_builtin; refine wpList_append_ints rfl _ _ rfl w.heap.size _ _ rfl hown' ⟨g, 0, none⟩ (L.drop 0) L.length _ (by simp) rfl i8 (by simp; omega) hs4 ?_; intro v5 w5 hown5 hgrow5 hnil5; rw [← HE.out] at hown5; obtain ⟨g3, c3, hv5, _⟩ := own_some hown5 (by rw [HE.out]; simp); obtain ⟨M5, hM5⟩ : ∃ M, M = (putL L x).length := ⟨_, rfl⟩; rw [← hM5] at hv5; subst hv5; replace hM5 := Lib.hid hM5))
      have hgb5 : Below w.heap.size w w5 := by first | exact grown_below hgb hs4 hgrow5 hown' (Nat.le_refl _) | exact grown_below hgb.drew hs4 hgrow5 hown' (Nat.le_refl _)
      go_ret
      exact ⟨g3, c3, by rw [← hM5.out]; rfl, .inr hown5.base_le.1, by rw [← hM5.out]; exact hown5.rebase (by omega), hgb5⟩
    · obtain ⟨n, hkn⟩ : ∃ n, k = n + 1 := ⟨k - 1, by omega⟩
      have e1 : IntKind.i64.wrap ((k : Int) - 1) = (n : Int) := by rw [IntWalk.i64_in _ ⟨by omega, by omega⟩]; omega
      have p0 : (0 : Int) < (k : Int) := by omega
      have p1 : n < L.length := by omega
      have hc := kept_cell B (hcell n p1) hb2
      have HK := Lib.hid hkn
      have hsub : k - 1 = n := by omega
      by_cases h1 : x < gi L n
      · have hp' : Hid (putAt L x L.length = putAt L x n) := Lib.hid (by rw [hp.out, hkn, putAt_gt h1])
        have d1 : decide (x < gi L n) = true := by simpa using h1
        clear hkn hsub
        go_wp2_with fail
        go_roundw
        case rel => exact ⟨n, by omega, by go_num, hp', B⟩
        case measure => have := HK.out; simp [intOf]; omega
      · have hp' : Hid (putAt L x L.length = k) := Lib.hid (by rw [hp.out, hkn, putAt_here h1])
        by_cases h2 : gi L n = x
        · have HE : Hid (putL L x = L) := Lib.hid (by rw [HL.out, hp'.out, hsub, if_pos ⟨by omega, h2⟩])
          have d1 : decide (x < gi L n) = false := by simpa using h1
          have d2 : (gi L n == x) = true := by simpa using h2
          clear hkn hsub
          go_wp2_with fail
          go_ret
          exact ⟨g, cap, by rw [HE.out]; rfl, .inl rfl, by rw [HE.out]; exact hrow.below B, B⟩
        · have d1 : decide (x < gi L n) = false := by simpa using h1
          have d2 : (gi L n == x) = false := by simpa using h2
          have HE : Hid (putL L x = L.take k ++ [x] ++ L.drop k) := Lib.hid (by rw [HL.out, hp'.out, hsub, if_neg (fun h => h2 h.2)])
          have own := hrow.below B
          have i0 := own_ints_take own k
          have hs := B.size
          clear hkn hsub h0 h1 h2
          by_cases hce : cap = k
          · subst hce
            go_wp2_with fail
            refine (l01Own_any ⟨g, 0, none⟩ (L.take cap) cap cap (by rw [List.length_take]; omega) (by omega) _ i0).mono ?_
            rintro e w1 ⟨g1, c1, rfl, o1, hb⟩
            have B1 := B.trans (hb.mono hs)
            replace o1 := o1.rebase (base' := w.heap.size) hs
            have hs1 := B1.size
            go_wp2_with (first | (at_builtin; refine wpList_append_int rfl _ _ rfl w.heap.size _ _ rfl (o1.alloc _) w1.heap.size _ rfl (cell_new _ _ _) (by rw [List.length_take]; omega) (by rw [World.size_alloc]; omega) ?_; intro v' w4 hown' hgrow; obtain ⟨g2, c2, hv, hob⟩ := own_some hown' (by simp); rw [show (L.take cap ++ [x]).length = cap + 1 by simp; omega] at hv; subst hv; have hgb := grown_below (B1.alloc hs1 _) (by rw [World.size_alloc]; omega) hgrow (o1.alloc _) (Nat.le_refl _); have i8 := own_ints_drop (hrow.below hgb) cap; clear o1 hgrow; have hs4 := hgb.size) | (at_builtin; refine wpList_append_ints rfl _ _ rfl w.heap.size _ _ rfl hown' ⟨g, 0, none⟩ (L.drop cap) _ _ (by rw [List.length_drop]; omega) rfl (.inl (by rw [List.length_drop]; omega)) (by simp; omega) hs4 ?_; intro v5 w5 hown5 hgrow5 hnil5; rw [← HE.out] at hown5; obtain ⟨g3, c3, hv5, _⟩ := own_some hown5 (by rw [HE.out]; simp); obtain ⟨M5, hM5⟩ : ∃ M, M = (putL L x).length := ⟨_, rfl⟩; rw [← hM5] at hv5; subst hv5; replace hM5 := Lib.hid hM5))
            have hgb5 : Below w.heap.size w w5 := by first | exact grown_below hgb hs4 hgrow5 hown' (Nat.le_refl _) | exact grown_below hgb.drew hs4 hgrow5 hown' (Nat.le_refl _)
            go_ret
            exact ⟨g3, c3, by rw [← hM5.out]; rfl, .inr hown5.base_le.1, by rw [← hM5.out]; exact hown5.rebase (by omega), hgb5⟩
          · go_wp2_with fail
            refine (l01Own_any ⟨g, 0, none⟩ (L.take k) k cap (by rw [List.length_take]; omega) (by omega) _ i0).mono ?_
            rintro e w1 ⟨g1, c1, rfl, o1, hb⟩
            have B1 := B.trans (hb.mono hs)
            replace o1 := o1.rebase (base' := w.heap.size) hs
            have hs1 := B1.size
            go_wp2_with (first | (at_builtin; refine wpList_append_int rfl _ _ rfl w.heap.size _ _ rfl (o1.alloc _) w1.heap.size _ rfl (cell_new _ _ _) (by rw [List.length_take]; omega) (by rw [World.size_alloc]; omega) ?_; intro v' w4 hown' hgrow; obtain ⟨g2, c2, hv, hob⟩ := own_some hown' (by simp); rw [show (L.take k ++ [x]).length = k + 1 by simp; omega] at hv; subst hv; have hgb := grown_below (B1.alloc hs1 _) (by rw [World.size_alloc]; omega) hgrow (o1.alloc _) (Nat.le_refl _); have i8 := own_ints_drop (hrow.below hgb) k; clear o1 hgrow; have hs4 := hgb.size) | (at_builtin; refine wpList_append_ints rfl _ _ rfl w.heap.size _ _ rfl hown' ⟨g, k, none⟩ (L.drop k) (L.length - k) _ (by simp) rfl i8 (by simp; omega) hs4 ?_; intro v5 w5 hown5 hgrow5 hnil5; rw [← HE.out] at hown5; obtain ⟨g3, c3, hv5, _⟩ := own_some hown5 (by rw [HE.out]; simp); obtain ⟨M5, hM5⟩ : ∃ M, M = (putL L x).length := ⟨_, rfl⟩; rw [← hM5] at hv5; subst hv5; replace hM5 := Lib.hid hM5))
            have hgb5 : Below w.heap.size w w5 := by first | exact grown_below hgb hs4 hgrow5 hown' (Nat.le_refl _) | exact grown_below hgb.drew hs4 hgrow5 hown' (Nat.le_refl _)
            go_ret
            exact ⟨g3, c3, by rw [← hM5.out]; rfl, .inr hown5.base_le.1, by rw [← hM5.out]; exact hown5.rebase (by omega), hgb5⟩

end Go.Proofs.Ytamebfbddoeflaa
