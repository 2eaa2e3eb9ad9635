/-
  The contracts of the model's drawn spaces. By an AI agent.
-/
import Derived.Test.YtamebfbddoeflaaPk20
import Derived.Test.YtamebfbddoeflaaPkSpace
namespace Go.Proofs.Ytamebfbddoeflaa
open Go.RowKit Cv
set_option linter.unusedVariables false
set_option linter.unusedSimpArgs false
set_option maxRecDepth 100000

theorem Src.grownO {w w' : World} {r : Option Nat} {b : Nat} {a : Option Addr} {n cap : Nat} (h : Src w b a n cap) (hg : w.grownBy w' r) (hr : ∀ g, r = some g → b < g) : Src w' b a n cap :=
  h.below ((Below.refl (b + 1) w).grown hg h.lt (fun j hj => hr j hj)) (Nat.lt_succ_self b)
theorem Src.setO {w : World} {b : Nat} {a : Option Addr} {n cap : Nat} (h : Src w b a n cap) (p : Addr) (hp : b < p.block) (u : Value) : Src (w.setCell p u) b a n cap :=
  h.below ((Below.refl (b + 1) w).setCell hp u) (Nat.lt_succ_self b)
theorem grown_over {w w1 w2 : World} {r r' : Option Nat} (h : w.grownBy w1 r) (hg : w1.grownBy w2 r') (hr : ∀ g, r' = some g → w.heap.size ≤ g) : w.grownBy w2 r :=
  ⟨hg.os.trans h.os, hg.tape.trans h.tape, hg.output.trans h.output, Nat.le_trans h.size hg.size, fun i hi hir => (hg.block i (Nat.lt_of_lt_of_le hi h.size) (fun e => by have := hr i e.symm; omega)).trans (h.block i hi hir)⟩
theorem grown_set {w w1 : World} {r : Option Nat} (h : w.grownBy w1 r) (p : Addr) (hp : w.heap.size ≤ p.block) (u : Value) : w.grownBy (w1.setCell p u) r :=
  ⟨h.os, h.tape, h.output, by simpa using h.size, fun i hi hir => (Below.heap_setCell _ _ _ _ (by omega)).trans (h.block i hi hir)⟩
theorem row_g {w w' : World} {O : Nat} {o : Obj} {r : Option Nat} (h : w.heap[O]? = some o) (hg : w.grownBy w' r) (hne : some O ≠ r) : w'.heap[O]? = some o := by
  have l := (Array.getElem?_eq_some_iff.1 h).1
  rw [hg.block O l hne]; exact h
theorem row_lt {w : World} {O : Nat} {o : Obj} (h : w.heap[O]? = some o) : O < w.heap.size := (Array.getElem?_eq_some_iff.1 h).1
theorem cell_of1' {w : World} {b : Nat} {v : Value} {t : TypeId} (h : w.heap[b]? = some (.cells #[v] t (0, 0))) : w.cell? ⟨b, 0, none⟩ = some v := by
  rw [cell_of_row w b 0 _ _ _ h]; rfl
theorem row_store1' {w : World} {b : Nat} {v : Value} {t : TypeId} (u : Value) (h : w.heap[b]? = some (.cells #[v] t (0, 0))) : (w.setCell ⟨b, 0, none⟩ u).heap[b]? = some (.cells #[u] t (0, 0)) := by
  rw [setCell_eq_setRow w b 0 _ _ _ u h]
  exact setRow_heap w b _ _ _ _ h
theorem row_setO {w : World} {O : Nat} {o : Obj} {p : Addr} (h : w.heap[O]? = some o) (hne : O ≠ p.block) (u : Value) : (w.setCell p u).heap[O]? = some o := (Below.heap_setCell _ _ _ _ hne).trans h
theorem own_setO {w : World} {base : Nat} {v : Value} {L : List Int} (h : OwnInts w base v L) (p : Nat) (hp : v.ownBlock ≠ some p) (u : Value) : OwnInts (w.setCell ⟨p, 0, none⟩ u) base v L :=
  World.ownsRow.kept h (grown_setCell (World.grownBy.refl w (some p)) 0 u) (.inr hp)

theorem own_shp {w : World} {base : Nat} {v : Value} {L : List Int} (h : OwnInts w base v L) : ∃ a c, v = .slice a L.length c := by
  obtain ⟨x, y, z, _⟩ := h.ints; exact ⟨x, y, z⟩
theorem prodTo_snoc (T : List Int) (q : Int) : prodTo (T ++ [q]) (T.length + 1) = prodTo T T.length * q := by
  have h : ∀ k, k ≤ T.length → prodTo (T ++ [q]) k = prodTo T k := by
    intro k
    induction k with
    | zero => intro _; rfl
    | succ k ih =>
      intro hk
      rw [prodTo, prodTo, ih (by omega)]
      congr 1
      simp only [gi, List.getD]
      rw [List.getElem?_append_left (by omega)]
  rw [prodTo, h _ (Nat.le_refl _)]
  congr 1
  simp [gi]
theorem bd_snoc {T : List Int} {q : Int} (h : ∀ i, i < T.length → 2 ≤ gi T i ∧ gi T i ≤ 4) (hq : 2 ≤ q ∧ q ≤ 4) : ∀ i, i < (T ++ [q]).length → 2 ≤ gi (T ++ [q]) i ∧ gi (T ++ [q]) i ≤ 4 := by
  intro i hi
  rw [List.length_append, List.length_singleton] at hi
  by_cases e : i < T.length
  · have := h i e
    simp only [gi, List.getD] at this ⊢
    rw [List.getElem?_append_left e]; exact this
  · rw [show i = T.length by omega]
    simp [gi]; exact hq
theorem sp_two : Sp [2] := (isSp_iff _).1 (by decide)

set_option maxHeartbeats 2000000 in
theorem drawOf_any (b : Nat) (a : Option Addr) (n cap : Nat) (hn : n ≤ 4096) (M : Int) (hM : 8 ≤ M ∧ M ≤ 256) (w : World) (hs : Src w b a n cap) :
    Calls Try.prog 72 #[.pointer (some ⟨b, 0, none⟩), .int .i64 M] w fun e w' => ∃ v S, e = .returned (.agg #[v]) ∧ OwnInts w' w.heap.size v S ∧ Sp S ∧ Src w' b a n cap ∧ w.grownBy w' (some b) := by
  have hbl := hs.lt
  obtain ⟨A, hA⟩ : ∃ A, A = w.heap.size := ⟨_, rfl⟩
  obtain ⟨W, hW⟩ : ∃ W, W = w.alloc (.cells #[.slice none 0 0] 26) := ⟨_, rfl⟩
  have hWs : W.heap.size = A + 1 := by rw [hW, hA]; simp
  have HRA : Hid (W.heap[A]? = some (.cells #[.slice none 0 0] 26 (0, 0))) := Lib.hid (by rw [hW, hA]; exact heap_alloc_new _ _)
  have hsW : Src W b a n cap := by rw [hW]; exact hs.alloc _
  have hGW : w.grownBy W (some b) := by rw [hW]; exact grown_alloc (World.grownBy.refl w _) _
  have HW := Lib.hid hW
  have HA := Lib.hid hA
  have HWs := Lib.hid hWs
  have oW := own_empty W W.heap.size (Nat.le_refl _) rfl
  obtain ⟨W2, hW2⟩ : ∃ W2, W2 = (W.alloc (.cells #[] 2)).alloc (.cells #[.int .i64 0, .int .i64 2, .int .i64 2, .int .i64 3, .int .i64 3] 2) := ⟨_, rfl⟩
  have hW2s : W2.heap.size = A + 3 := by rw [hW2]; simp; omega
  have hsW2 : Src W2 b a n cap := by rw [hW2]; exact (hsW.alloc _).alloc _
  have hGW2 : w.grownBy W2 (some b) := by rw [hW2]; exact grown_alloc (grown_alloc hGW _) _
  have RA2 : W2.heap[A]? = some (.cells #[.slice none 0 0] 26 (0, 0)) := by
    rw [hW2]; exact row_g (row_g HRA.out (World.grownBy_alloc W _ none) (by simp)) (World.grownBy_alloc _ _ none) (by simp)
  have oW2 : OwnInts W2 (A + 1) (.slice (some ⟨A + 1, 0, none⟩) 0 0) [] := by rw [hW2, ← hWs]; exact oW.alloc _
  have I2 : Ints W2 (some ⟨A + 2, 0, none⟩) [0, 2, 2, 3, 3] := by
    have e : (W.alloc (.cells #[] 2)).heap.size = A + 2 := by simp; omega
    have := ints_new (W.alloc (.cells #[] 2)) [0, 2, 2, 3, 3] 2
    rw [e] at this
    rw [hW2]; exact this
  have HW2 := Lib.hid hW2
  have hp := pick_n b a n cap hn (A + 2) _ 5 rfl (by omega) (by omega) (by omega) W2 hsW2 I2
  have hAb : b < A := by omega
  clear hsW hGW oW I2 hs hW hW2 hA hWs hbl hsW2
  go_enter Try.func72, Try.ntmps72
  go_wp2_with fail
  rw [← HW.out, ← HW2.out, ← HA.out]
  refine hp.mono ?_
  rintro e w1 ⟨kd, rfl, hkd, hs1, hg1⟩
  have HKD : Hid (kd = 0 ∨ kd = 2 ∨ kd = 3) := Lib.hid (by simp only [List.mem_cons, List.not_mem_nil, or_false] at hkd; omega)
  have hG1 := grown_trans hGW2 hg1
  have RA1 := row_g RA2 hg1 (by simp; omega)
  have o1 := oW2.kept hg1 (.inr (by simp [Value.ownBlock]; omega))
  have z1 : A + 3 ≤ w1.heap.size := by have := hg1.size; omega
  clear hp hkd hg1 oW2 RA2 hGW2 hW2s
  obtain ⟨O, hO⟩ : ∃ O, O = w1.heap.size := ⟨_, rfl⟩
  obtain ⟨W3, hW3⟩ : ∃ W3, W3 = w1.alloc (.cells #[.slice (some ⟨A + 1, 0, none⟩) 0 0] 26) := ⟨_, rfl⟩
  have RO3 : W3.heap[O]? = some (.cells #[.slice (some ⟨A + 1, 0, none⟩) 0 0] 26 (0, 0)) := by rw [hW3, hO]; exact heap_alloc_new _ _
  have RA3 : W3.heap[A]? = some (.cells #[.slice none 0 0] 26 (0, 0)) := by rw [hW3]; exact row_g RA1 (World.grownBy_alloc w1 _ none) (by simp)
  have o3 : OwnInts W3 (A + 1) (.slice (some ⟨A + 1, 0, none⟩) 0 0) [] := by rw [hW3]; exact o1.alloc _
  have hs3 : Src W3 b a n cap := by rw [hW3]; exact hs1.alloc _
  have hG3 : w.grownBy W3 (some b) := by rw [hW3]; exact grown_alloc hG1 _
  have hnx := next_any b a n cap hn 8 (by omega) W3 hs3
  rw [← hO] at z1
  have HO := Lib.hid hO
  have HW3 := Lib.hid hW3
  clear hO hW3 RA1 o1 hs1 hG1 hs3
  go_wp2_with fail
  rw [← HW3.out]
  refine hnx.mono ?_
  rintro e w2 ⟨x, rfl, x0, x1, x2, hs2, hg2⟩
  have hG2 := grown_trans hG3 hg2
  have RA2 := row_g RA3 hg2 (by simp; omega)
  have RO2 := row_g RO3 hg2 (by simp; omega)
  have o2 := o3.kept hg2 (.inr (by simp [Value.ownBlock]; omega))
  obtain ⟨k0, rfl⟩ : ∃ k0 : Nat, x = k0 := ⟨x.toNat, by omega⟩
  have hk0 : k0 < 8 := by have := x2 (by omega); omega
  clear hnx hg2 RA3 RO3 o3 hG3 x0 x1 x2
  go_wp2_with fail
  rw [← HO.out]
  go_loopw [7] (fun kv wr => ∃ (k : Nat) (T : List Int) (vS : Value), k ≤ 8 ∧ kv = .int .i64 (k : Int) ∧ Hid ((∀ i, i < T.length → 2 ≤ gi T i ∧ gi T i ≤ 4) ∧ prodTo T T.length ≤ M ∧ T.length + k ≤ 8) ∧ OwnInts wr (A + 1) vS T ∧ (∀ g, vS.ownBlock = some g → g = A + 1 ∨ O < g) ∧ wr.heap[O]? = some (.cells #[vS] 26 (0, 0)) ∧ wr.heap[A]? = some (.cells #[.slice none 0 0] 26 (0, 0)) ∧ Src wr b a n cap ∧ w.grownBy wr (some b)) (fun kv _ => (intOf kv).toNat)
  case atStart => exact ⟨k0 + 1, [], _, by omega, by go_num, Lib.hid ⟨fun i h => by simp at h, by simp [prodTo]; omega, by simp; omega⟩, o2, fun g hg => .inl (by simp [Value.ownBlock] at hg; omega), RO2, RA2, hs2, hG2⟩
  case round =>
    clear o2 RO2 RA2 hs2 hG2 hk0
    obtain ⟨k, T, vS, hk, rfl, HT, own, hvS, RO, RA, hsr, hG⟩ := hrel
    by_cases hkp : 0 < k
    · have i1 : (0 : Int) < (k : Int) := by omega
      by_cases hkd : kd = 0
      · have hbe : (kd == 0) = true := by simpa using hkd
        clear hkd
        obtain ⟨w4, hw4⟩ : ∃ w4, w4 = wr.alloc (.cells #[.int .i64 2, .int .i64 2, .int .i64 3, .int .i64 4] 2) := ⟨_, rfl⟩
        have I4 : Ints w4 (some ⟨wr.heap.size, 0, none⟩) [2, 2, 3, 4] := by rw [hw4]; exact ints_new wr _ _
        have hp := pick_n b a n cap hn wr.heap.size _ 4 rfl (by omega) (by omega) (by have := hsr.lt; omega) w4 (by rw [hw4]; exact hsr.alloc _) I4
        have hg4 := World.grownBy_alloc wr (.cells #[.int .i64 2, .int .i64 2, .int .i64 3, .int .i64 4] 2) none
        rw [← hw4] at hg4
        have own4 : OwnInts w4 (A + 1) vS T := by rw [hw4]; exact own.alloc _
        have RO4 := row_g RO hg4 (by simp)
        have RA4 := row_g RA hg4 (by simp)
        have hG4 : w.grownBy w4 (some b) := by rw [hw4]; exact grown_alloc hG _
        have HW4 := Lib.hid hw4
        clear hw4 I4 hg4
        go_wp2_with fail
        rw [← HW4.out]
        refine hp.mono ?_
        rintro e w7 ⟨q, rfl, hqm, hs7, hg7⟩
        have hq : 2 ≤ q ∧ q ≤ 4 := by simp only [List.mem_cons, List.not_mem_nil, or_false] at hqm; omega
        have own7 := own4.kept hg7 (.inr (fun e => by rcases hvS _ e with h | h <;> omega))
        have RO7 := row_g RO4 hg7 (by simp; omega)
        have RA7 := row_g RA4 hg7 (by simp; omega)
        have hG7 := grown_trans hG4 hg7
        clear hp hqm hg7 own4 RO4 RA4 hG4
        obtain ⟨aS, cS, hvs⟩ := own7.shape
        have hXc := cell_of1' RO7
        obtain ⟨x0, x1, HIv, hI⟩ := own7.ints
        have hN := l01N_any aS T cS w7 (by have := HT.out; omega) HT.out.1 (by rw [hvs] at HIv; simp only [Value.slice.injEq] at HIv; rw [HIv.1]; exact hI)
        rw [← hvs] at hN
        have HVS := Lib.hid hvs
        obtain ⟨P, hP⟩ : ∃ P, P = prodTo T T.length := ⟨_, rfl⟩
        have hP1 : 0 ≤ P ∧ P ≤ 256 := by have h1 := HT.out.2.1; have h2 := prodTo_le T T.length HT.out.1 (by have := HT.out.2.2; omega); omega
        have hPq : 0 ≤ P * q ∧ P * q ≤ 1024 := ⟨Int.mul_nonneg hP1.1 (by omega), by have := Int.mul_le_mul hP1.2 hq.2 (by omega) (by omega); omega⟩
        obtain ⟨m1, m2⟩ := hPq
        rw [← hP] at hN
        have HP := Lib.hid hP
        clear HIv hI hvs hP
        by_cases hov : P * q ≤ M
        · have HOV := Lib.hid hov
          go_wp2_with fail
          refine hN.mono ?_
          rintro e w5 ⟨rfl, hb5⟩
          have g5 := grown_of_below hb5 none
          have RO5 := row_g RO7 g5 (by simp)
          have RA5 := row_g RA7 g5 (by simp)
          have own5 := own7.below hb5
          have hs5 := hs7.below hb5 hs7.lt
          have hG5 := grown_trans hG7 (grown_of_below hb5 _)
          have xO5 := cell_of1' RO5
          clear g5 hb5 hN hXc
          go_wp2_with (at_builtin; refine wpList_append_int_at rfl _ _ rfl (A + 1) vS T rfl (own5.alloc _) w5.heap.size q rfl (cell_new _ _ _) (by have := HT.out.2.2; omega) (by have := row_lt RO5; simp; omega) ?_; intro v' w6 own' hgrow hnew; obtain ⟨a6, c6, hv6⟩ := own_shp own'; rw [List.length_append, List.length_singleton] at hv6; subst hv6; have ROn := row_g (row_g RO5 (World.grownBy_alloc w5 (.cells #[.int .i64 q] 2) none) (by simp)) hgrow (fun e => by rcases hvS _ e.symm with h | h <;> omega); have RAn := row_g (row_g RA5 (World.grownBy_alloc w5 (.cells #[.int .i64 q] 2) none) (by simp)) hgrow (fun e => by rcases hvS _ e.symm with h | h <;> omega); have xO := cell_of1' ROn; have fO := frozen_of_row w6 O 0 _ _ ROn; have xA := cell_of1' RAn; have fA := frozen_of_row w6 A 0 _ _ RAn)
          have hvN : ∀ g, (Value.slice a6 (T.length + 1) c6).ownBlock = some g → g = A + 1 ∨ O < g := fun g hg => by
            rcases hnew with e | e
            · exact hvS g (e.symm.trans hg)
            · rw [e] at hg
              have := Option.some.inj hg
              have := row_lt RO5
              simp at *
              omega
          have hGn : w.grownBy w6 (some b) := grown_over (grown_alloc hG5 _) hgrow (fun g hg => by rcases hvS g hg with h | h <;> (have := HA.out; omega))
          have hsn : Src w6 b a n cap := (hs5.alloc _).grownO hgrow (fun g hg => by rcases hvS g hg with h | h <;> omega)
          have zO := row_lt ROn
          have hps := prodTo_snoc T q
          have HTn : Hid ((∀ i, i < (T ++ [q]).length → 2 ≤ gi (T ++ [q]) i ∧ gi (T ++ [q]) i ≤ 4) ∧ prodTo (T ++ [q]) (T ++ [q]).length ≤ M ∧ (T ++ [q]).length + (k - 1) ≤ 8) := Lib.hid ⟨bd_snoc HT.out.1 hq, by rw [List.length_append, List.length_singleton, hps, ← HP.out]; exact HOV.out, by rw [List.length_append, List.length_singleton]; have := HT.out.2.2; omega⟩
          go_roundw
          case rel => exact ⟨k - 1, T ++ [q], _, by omega, (by rw [show ((k - 1 : Nat) : Int) = (k : Int) - 1 by omega]), HTn, own_setO own' O (fun e => by rcases hvN _ e with h | h <;> omega) _, hvN, row_store1' _ ROn, row_setO RAn (by simp; omega) _, hsn.setO _ (by simp; omega) _, grown_set hGn _ (by simp; have := HA.out; omega) _⟩
          case measure => simp [intOf]; omega
        · have HOV := Lib.hid hov
          go_wp2_with fail
          refine hN.mono ?_
          rintro e w5 ⟨rfl, hb5⟩
          have g5 := grown_of_below hb5 none
          have RO5 := row_g RO7 g5 (by simp)
          have RA5 := row_g RA7 g5 (by simp)
          have own5 := own7.below hb5
          have hs5 := hs7.below hb5 hs7.lt
          have hG5 := grown_trans hG7 (grown_of_below hb5 _)
          clear g5 hb5 hN hXc
          have xOt := cell_of1' RO5
          have xAt := cell_of1' RA5
          have fAt := frozen_of_row w5 A 0 _ _ RA5
          have zAt := row_lt RA5
          have hAO : ¬ A = O := by omega
          have hOA : ¬ O = A := by omega
          have hSh := HVS.out
          by_cases hTn : T.length = 0
          · have hTe : T = [] := List.eq_nil_of_length_eq_zero hTn
            have HTe := Lib.hid hTe
            have hSz : vS = .slice aS 0 cS := by rw [hSh, hTn]
            have HSz := Lib.hid hSz
            rw [hSz] at xOt
            clear hTe hTn hSh hSz
            go_wp2_with (at_builtin; refine wpList_append_int_at rfl _ _ rfl (A + 1) vS T (by exact HSz.out.symm) (own5.alloc _) w5.heap.size 2 rfl (cell_new _ _ _) (by have := HT.out.2.2; omega) (by have := row_lt RO5; simp; omega) ?_; intro v' w6 own' hgrow hnew; obtain ⟨a6, c6, hv6⟩ := own_shp own'; rw [List.length_append, List.length_singleton] at hv6; subst hv6; have ROn := row_g (row_g RO5 (World.grownBy_alloc w5 (.cells #[.int .i64 2] 2) none) (by simp)) hgrow (fun e => by rcases hvS _ e.symm with h | h <;> omega); have RAn := row_g (row_g RA5 (World.grownBy_alloc w5 (.cells #[.int .i64 2] 2) none) (by simp)) hgrow (fun e => by rcases hvS _ e.symm with h | h <;> omega); have xO := cell_of1' ROn; have fO := frozen_of_row w6 O 0 _ _ ROn; have xA := cell_of1' RAn; have fA := frozen_of_row w6 A 0 _ _ RAn)
            have hvN : ∀ g, (Value.slice a6 (T.length + 1) c6).ownBlock = some g → g = A + 1 ∨ O < g := fun g hg => by
              rcases hnew with e | e
              · exact hvS g (e.symm.trans hg)
              · rw [e] at hg
                have := Option.some.inj hg
                have := row_lt RO5
                simp at *
                omega
            have hGn : w.grownBy w6 (some b) := grown_over (grown_alloc hG5 _) hgrow (fun g hg => by rcases hvS g hg with h | h <;> (have := HA.out; omega))
            have hsn : Src w6 b a n cap := (hs5.alloc _).grownO hgrow (fun g hg => by rcases hvS g hg with h | h <;> omega)
            have zO := row_lt ROn
            refine bodyPost_ret (v := .agg #[.slice a6 (T.length + 1) c6]) (by simp [results, Try.results72, go_sem, xO, fO, xA, fA, zO, hAO, hOA]) rfl ?_
            exact ⟨_, T ++ [2], rfl, (own_setO (own_setO own' O (fun e => by rcases hvN _ e with h | h <;> omega) _) A (fun e => by rcases hvN _ e with h | h <;> omega) _).rebase (by have := HA.out; omega), by rw [HTe.out]; exact sp_two, (hsn.setO _ (by simp; omega) _).setO _ (by simp; omega) _, grown_set (grown_set hGn _ (by simp; have := HA.out; omega) _) _ (by simp; have := HA.out; omega) _⟩
          · have HTn := Lib.hid hTn
            have hne : ((T.length : Int) == 0) = false := by simpa using hTn
            rw [hSh] at xOt
            clear hSh hTn
            go_wp2_with fail
            refine bodyPost_ret (v := .agg #[.slice aS T.length cS]) (by simp [results, Try.results72, go_sem, xAt, fAt, zAt]) rfl ?_
            exact ⟨_, T, rfl, (own_setO (by rw [← HVS.out]; exact own5) A (fun e => by rcases hvS _ (by rw [HVS.out]; exact e) with h | h <;> omega) _).rebase (by have := HA.out; omega), ⟨by have := HTn.out; omega, by have := HT.out.2.2; omega, HT.out.1, by have := HT.out.2.1; omega⟩, hs5.setO _ (by simp; omega) _, grown_set hG5 _ (by simp; have := HA.out; omega) _⟩
      · have hbe : (kd == 0) = false := by simpa using hkd
        have hq : 2 ≤ kd ∧ kd ≤ 4 := by have := HKD.out; omega
        obtain ⟨q, hqq⟩ : ∃ q, q = kd := ⟨_, rfl⟩
        obtain ⟨aS, cS, hvs⟩ := own.shape
        have hXc := cell_of1' RO
        obtain ⟨x0, x1, HIv, hI⟩ := own.ints
        have hN := l01N_any aS T cS wr (by have := HT.out; omega) HT.out.1 (by rw [hvs] at HIv; simp only [Value.slice.injEq] at HIv; rw [HIv.1]; exact hI)
        rw [← hvs] at hN
        have HVS := Lib.hid hvs
        obtain ⟨P, hP⟩ : ∃ P, P = prodTo T T.length := ⟨_, rfl⟩
        have hP1 : 0 ≤ P ∧ P ≤ 256 := by have h1 := HT.out.2.1; have h2 := prodTo_le T T.length HT.out.1 (by have := HT.out.2.2; omega); omega
        have hPq : 0 ≤ P * kd ∧ P * kd ≤ 1024 := ⟨Int.mul_nonneg hP1.1 (by omega), by have := Int.mul_le_mul hP1.2 hq.2 (by omega) (by omega); omega⟩
        obtain ⟨m1, m2⟩ := hPq
        rw [← hP] at hN
        have HP := Lib.hid hP
        clear HIv hI hvs hP
        by_cases hov : P * kd ≤ M
        · have HOV := Lib.hid hov
          go_wp2_with fail
          refine hN.mono ?_
          rintro e w5 ⟨rfl, hb5⟩
          have g5 := grown_of_below hb5 none
          have RO5 := row_g RO g5 (by simp)
          have RA5 := row_g RA g5 (by simp)
          have own5 := own.below hb5
          have hs5 := hsr.below hb5 hsr.lt
          have hG5 := grown_trans hG (grown_of_below hb5 _)
          have xO5 := cell_of1' RO5
          clear g5 hb5 hN hXc
          go_wp2_with (at_builtin; refine wpList_append_int_at rfl _ _ rfl (A + 1) vS T rfl (own5.alloc _) w5.heap.size kd rfl (cell_new _ _ _) (by have := HT.out.2.2; omega) (by have := row_lt RO5; simp; omega) ?_; intro v' w6 own' hgrow hnew; obtain ⟨a6, c6, hv6⟩ := own_shp own'; rw [List.length_append, List.length_singleton] at hv6; subst hv6; have ROn := row_g (row_g RO5 (World.grownBy_alloc w5 (.cells #[.int .i64 kd] 2) none) (by simp)) hgrow (fun e => by rcases hvS _ e.symm with h | h <;> omega); have RAn := row_g (row_g RA5 (World.grownBy_alloc w5 (.cells #[.int .i64 kd] 2) none) (by simp)) hgrow (fun e => by rcases hvS _ e.symm with h | h <;> omega); have xO := cell_of1' ROn; have fO := frozen_of_row w6 O 0 _ _ ROn; have xA := cell_of1' RAn; have fA := frozen_of_row w6 A 0 _ _ RAn)
          have hvN : ∀ g, (Value.slice a6 (T.length + 1) c6).ownBlock = some g → g = A + 1 ∨ O < g := fun g hg => by
            rcases hnew with e | e
            · exact hvS g (e.symm.trans hg)
            · rw [e] at hg
              have := Option.some.inj hg
              have := row_lt RO5
              simp at *
              omega
          have hGn : w.grownBy w6 (some b) := grown_over (grown_alloc hG5 _) hgrow (fun g hg => by rcases hvS g hg with h | h <;> (have := HA.out; omega))
          have hsn : Src w6 b a n cap := (hs5.alloc _).grownO hgrow (fun g hg => by rcases hvS g hg with h | h <;> omega)
          have zO := row_lt ROn
          have hps := prodTo_snoc T kd
          have HTn : Hid ((∀ i, i < (T ++ [kd]).length → 2 ≤ gi (T ++ [kd]) i ∧ gi (T ++ [kd]) i ≤ 4) ∧ prodTo (T ++ [kd]) (T ++ [kd]).length ≤ M ∧ (T ++ [kd]).length + (k - 1) ≤ 8) := Lib.hid ⟨bd_snoc HT.out.1 hq, by rw [List.length_append, List.length_singleton, hps, ← HP.out]; exact HOV.out, by rw [List.length_append, List.length_singleton]; have := HT.out.2.2; omega⟩
          go_roundw
          case rel => exact ⟨k - 1, T ++ [kd], _, by omega, (by rw [show ((k - 1 : Nat) : Int) = (k : Int) - 1 by omega]), HTn, own_setO own' O (fun e => by rcases hvN _ e with h | h <;> omega) _, hvN, row_store1' _ ROn, row_setO RAn (by simp; omega) _, hsn.setO _ (by simp; omega) _, grown_set hGn _ (by simp; have := HA.out; omega) _⟩
          case measure => simp [intOf]; omega
        · have HOV := Lib.hid hov
          go_wp2_with fail
          refine hN.mono ?_
          rintro e w5 ⟨rfl, hb5⟩
          have g5 := grown_of_below hb5 none
          have RO5 := row_g RO g5 (by simp)
          have RA5 := row_g RA g5 (by simp)
          have own5 := own.below hb5
          have hs5 := hsr.below hb5 hsr.lt
          have hG5 := grown_trans hG (grown_of_below hb5 _)
          clear g5 hb5 hN hXc
          have xOt := cell_of1' RO5
          have xAt := cell_of1' RA5
          have fAt := frozen_of_row w5 A 0 _ _ RA5
          have zAt := row_lt RA5
          have hAO : ¬ A = O := by omega
          have hOA : ¬ O = A := by omega
          have hSh := HVS.out
          by_cases hTn : T.length = 0
          · have hTe : T = [] := List.eq_nil_of_length_eq_zero hTn
            have HTe := Lib.hid hTe
            have hSz : vS = .slice aS 0 cS := by rw [hSh, hTn]
            have HSz := Lib.hid hSz
            rw [hSz] at xOt
            clear hTe hTn hSh hSz
            go_wp2_with (at_builtin; refine wpList_append_int_at rfl _ _ rfl (A + 1) vS T (by exact HSz.out.symm) (own5.alloc _) w5.heap.size 2 rfl (cell_new _ _ _) (by have := HT.out.2.2; omega) (by have := row_lt RO5; simp; omega) ?_; intro v' w6 own' hgrow hnew; obtain ⟨a6, c6, hv6⟩ := own_shp own'; rw [List.length_append, List.length_singleton] at hv6; subst hv6; have ROn := row_g (row_g RO5 (World.grownBy_alloc w5 (.cells #[.int .i64 2] 2) none) (by simp)) hgrow (fun e => by rcases hvS _ e.symm with h | h <;> omega); have RAn := row_g (row_g RA5 (World.grownBy_alloc w5 (.cells #[.int .i64 2] 2) none) (by simp)) hgrow (fun e => by rcases hvS _ e.symm with h | h <;> omega); have xO := cell_of1' ROn; have fO := frozen_of_row w6 O 0 _ _ ROn; have xA := cell_of1' RAn; have fA := frozen_of_row w6 A 0 _ _ RAn)
            have hvN : ∀ g, (Value.slice a6 (T.length + 1) c6).ownBlock = some g → g = A + 1 ∨ O < g := fun g hg => by
              rcases hnew with e | e
              · exact hvS g (e.symm.trans hg)
              · rw [e] at hg
                have := Option.some.inj hg
                have := row_lt RO5
                simp at *
                omega
            have hGn : w.grownBy w6 (some b) := grown_over (grown_alloc hG5 _) hgrow (fun g hg => by rcases hvS g hg with h | h <;> (have := HA.out; omega))
            have hsn : Src w6 b a n cap := (hs5.alloc _).grownO hgrow (fun g hg => by rcases hvS g hg with h | h <;> omega)
            have zO := row_lt ROn
            refine bodyPost_ret (v := .agg #[.slice a6 (T.length + 1) c6]) (by simp [results, Try.results72, go_sem, xO, fO, xA, fA, zO, hAO, hOA]) rfl ?_
            exact ⟨_, T ++ [2], rfl, (own_setO (own_setO own' O (fun e => by rcases hvN _ e with h | h <;> omega) _) A (fun e => by rcases hvN _ e with h | h <;> omega) _).rebase (by have := HA.out; omega), by rw [HTe.out]; exact sp_two, (hsn.setO _ (by simp; omega) _).setO _ (by simp; omega) _, grown_set (grown_set hGn _ (by simp; have := HA.out; omega) _) _ (by simp; have := HA.out; omega) _⟩
          · have HTn := Lib.hid hTn
            have hne : ((T.length : Int) == 0) = false := by simpa using hTn
            rw [hSh] at xOt
            clear hSh hTn
            go_wp2_with fail
            refine bodyPost_ret (v := .agg #[.slice aS T.length cS]) (by simp [results, Try.results72, go_sem, xAt, fAt, zAt]) rfl ?_
            exact ⟨_, T, rfl, (own_setO (by rw [← HVS.out]; exact own5) A (fun e => by rcases hvS _ (by rw [HVS.out]; exact e) with h | h <;> omega) _).rebase (by have := HA.out; omega), ⟨by have := HTn.out; omega, by have := HT.out.2.2; omega, HT.out.1, by have := HT.out.2.1; omega⟩, hs5.setO _ (by simp; omega) _, grown_set hG5 _ (by simp; have := HA.out; omega) _⟩
    · obtain rfl : k = 0 := by omega
      obtain ⟨aS, cS, hvs⟩ := own.shape
      have HVS := Lib.hid hvs
      have hq : True := trivial
      clear hvs
      have xOt := cell_of1' RO
      have xAt := cell_of1' RA
      have fAt := frozen_of_row wr A 0 _ _ RA
      have zAt := row_lt RA
      have hAO : ¬ A = O := by omega
      have hOA : ¬ O = A := by omega
      have hSh := HVS.out
      by_cases hTn : T.length = 0
      · have hTe : T = [] := List.eq_nil_of_length_eq_zero hTn
        have HTe := Lib.hid hTe
        have hSz : vS = .slice aS 0 cS := by rw [hSh, hTn]
        have HSz := Lib.hid hSz
        rw [hSz] at xOt
        clear hTe hTn hSh hSz
        go_wp2_with (at_builtin; refine wpList_append_int_at rfl _ _ rfl (A + 1) vS T (by exact HSz.out.symm) (own.alloc _) wr.heap.size 2 rfl (cell_new _ _ _) (by have := HT.out.2.2; omega) (by have := row_lt RO; simp; omega) ?_; intro v' w6 own' hgrow hnew; obtain ⟨a6, c6, hv6⟩ := own_shp own'; rw [List.length_append, List.length_singleton] at hv6; subst hv6; have ROn := row_g (row_g RO (World.grownBy_alloc wr (.cells #[.int .i64 2] 2) none) (by simp)) hgrow (fun e => by rcases hvS _ e.symm with h | h <;> omega); have RAn := row_g (row_g RA (World.grownBy_alloc wr (.cells #[.int .i64 2] 2) none) (by simp)) hgrow (fun e => by rcases hvS _ e.symm with h | h <;> omega); have xO := cell_of1' ROn; have fO := frozen_of_row w6 O 0 _ _ ROn; have xA := cell_of1' RAn; have fA := frozen_of_row w6 A 0 _ _ RAn)
        have hvN : ∀ g, (Value.slice a6 (T.length + 1) c6).ownBlock = some g → g = A + 1 ∨ O < g := fun g hg => by
          rcases hnew with e | e
          · exact hvS g (e.symm.trans hg)
          · rw [e] at hg
            have := Option.some.inj hg
            have := row_lt RO
            simp at *
            omega
        have hGn : w.grownBy w6 (some b) := grown_over (grown_alloc hG _) hgrow (fun g hg => by rcases hvS g hg with h | h <;> (have := HA.out; omega))
        have hsn : Src w6 b a n cap := (hsr.alloc _).grownO hgrow (fun g hg => by rcases hvS g hg with h | h <;> omega)
        have zO := row_lt ROn
        refine bodyPost_ret (v := .agg #[.slice a6 (T.length + 1) c6]) (by simp [results, Try.results72, go_sem, xO, fO, xA, fA, zO, hAO, hOA]) rfl ?_
        exact ⟨_, T ++ [2], rfl, (own_setO (own_setO own' O (fun e => by rcases hvN _ e with h | h <;> omega) _) A (fun e => by rcases hvN _ e with h | h <;> omega) _).rebase (by have := HA.out; omega), by rw [HTe.out]; exact sp_two, (hsn.setO _ (by simp; omega) _).setO _ (by simp; omega) _, grown_set (grown_set hGn _ (by simp; have := HA.out; omega) _) _ (by simp; have := HA.out; omega) _⟩
      · have HTn := Lib.hid hTn
        have hne : ((T.length : Int) == 0) = false := by simpa using hTn
        rw [hSh] at xOt
        clear hSh hTn
        go_wp2_with fail
        refine bodyPost_ret (v := .agg #[.slice aS T.length cS]) (by simp [results, Try.results72, go_sem, xAt, fAt, zAt]) rfl ?_
        exact ⟨_, T, rfl, (own_setO (by rw [← HVS.out]; exact own) A (fun e => by rcases hvS _ (by rw [HVS.out]; exact e) with h | h <;> omega) _).rebase (by have := HA.out; omega), ⟨by have := HTn.out; omega, by have := HT.out.2.2; omega, HT.out.1, by have := HT.out.2.1; omega⟩, hsr.setO _ (by simp; omega) _, grown_set hG _ (by simp; have := HA.out; omega) _⟩

end Go.Proofs.Ytamebfbddoeflaa
