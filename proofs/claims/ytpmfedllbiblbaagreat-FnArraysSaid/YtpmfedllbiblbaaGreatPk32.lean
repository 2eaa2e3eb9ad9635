/-
  Texts put together: Drw, Drw2. By an AI agent.
-/
import Derived.Test.YtpmfedllbiblbaaGreatPk31
import Derived.Test.YtpmfedllbiblbaaGreatPkSpace
import Derived.Test.YtpmfedllbiblbaaGreatPkAppendAt
import Derived.Test.YtpmfedllbiblbaaGreatPkMark
import Derived.Test.YtpmfedllbiblbaaGreatPkPut
import Derived.Deep.RegionHeld3
namespace Go.Proofs.YtpmfedllbiblbaaGreat
open Go.RowKit Cv
set_option linter.unusedVariables false
set_option linter.unusedSimpArgs false
set_option maxRecDepth 100000

theorem Src.grownO {w w' : World} {r : Option Nat} {b : Nat} {a : Option Addr} {n cap : Nat} (h : Src w b a n cap) (hg : w.grownBy w' r) (hr : ∀ g, r = some g → b < g) : Src w' b a n cap :=
  h.below ((Below.refl (b + 1) w).grown hg h.lt (fun j hj => hr j hj)) (Nat.lt_succ_self b)
theorem Src.setO {w : World} {b : Nat} {a : Option Addr} {n cap : Nat} (h : Src w b a n cap) (p : Addr) (hp : b < p.block) (u : Value) : Src (w.setCell p u) b a n cap :=
  h.below ((Below.refl (b + 1) w).setCell hp u) (Nat.lt_succ_self b)
theorem grown_over {w w1 w2 : World} {r r' : Option Nat} (h : w.grownBy w1 r) (hg : w1.grownBy w2 r') (hr : ∀ g, r' = some g → w.heap.size ≤ g) : w.grownBy w2 r :=
  ⟨hg.os.trans h.os, hg.tape.trans h.tape, hg.output.trans h.output, Nat.le_trans h.size hg.size, fun i hi hir => (hg.block i (Nat.lt_of_lt_of_le hi h.size) (fun e => by have := hr i e.symm; omega)).trans (h.block i hi hir)⟩
theorem grown_set {w w1 : World} {r : Option Nat} (h : w.grownBy w1 r) (p : Addr) (hp : w.heap.size ≤ p.block) (u : Value) : w.grownBy (w1.setCell p u) r :=
  ⟨h.os, h.tape, h.output, by simpa using h.size, fun i hi hir => (Below.heap_setCell _ _ _ _ (by omega)).trans (h.block i hi hir)⟩
theorem row_g {w w' : World} {O : Nat} {o : Obj} {r : Option Nat} (h : w.heap[O]? = some o) (hg : w.grownBy w' r) (hne : some O ≠ r) : w'.heap[O]? = some o := by
  have l := (Array.getElem?_eq_some_iff.1 h).1
  rw [hg.block O l hne]; exact h
theorem row_lt {w : World} {O : Nat} {o : Obj} (h : w.heap[O]? = some o) : O < w.heap.size := (Array.getElem?_eq_some_iff.1 h).1
theorem cell_of1' {w : World} {b : Nat} {v : Value} {t : TypeId} (h : w.heap[b]? = some (.cells #[v] t (0, 0))) : w.cell? ⟨b, 0, none⟩ = some v := by
  rw [cell_of_row w b 0 _ _ _ h]; rfl
theorem row_store1' {w : World} {b : Nat} {v : Value} {t : TypeId} (u : Value) (h : w.heap[b]? = some (.cells #[v] t (0, 0))) : (w.setCell ⟨b, 0, none⟩ u).heap[b]? = some (.cells #[u] t (0, 0)) := by
  rw [setCell_eq_setRow w b 0 _ _ _ u h]
  exact setRow_heap w b _ _ _ _ h
theorem row_setO {w : World} {O : Nat} {o : Obj} {p : Addr} (h : w.heap[O]? = some o) (hne : O ≠ p.block) (u : Value) : (w.setCell p u).heap[O]? = some o := (Below.heap_setCell _ _ _ _ hne).trans h
theorem own_setO {w : World} {base : Nat} {v : Value} {L : List Int} (h : OwnInts w base v L) (p : Nat) (hp : v.ownBlock ≠ some p) (u : Value) : OwnInts (w.setCell ⟨p, 0, none⟩ u) base v L :=
  World.ownsRow.kept h (grown_setCell (World.grownBy.refl w (some p)) 0 u) (.inr hp)

theorem own_shp {w : World} {base : Nat} {v : Value} {L : List Int} (h : OwnInts w base v L) : ∃ a c, v = .slice a L.length c := by
  obtain ⟨x, y, z, _⟩ := h.ints; exact ⟨x, y, z⟩
theorem prodTo_snoc (T : List Int) (q : Int) : prodTo (T ++ [q]) (T.length + 1) = prodTo T T.length * q := by
  have h : ∀ k, k ≤ T.length → prodTo (T ++ [q]) k = prodTo T k := by
    intro k
    induction k with
    | zero => intro _; rfl
    | succ k ih =>
      intro hk
      rw [prodTo, prodTo, ih (by omega)]
      congr 1
      simp only [gi, List.getD]
      rw [List.getElem?_append_left (by omega)]
  rw [prodTo, h _ (Nat.le_refl _)]
  congr 1
  simp [gi]
theorem bd_snoc {T : List Int} {q : Int} (h : ∀ i, i < T.length → 2 ≤ gi T i ∧ gi T i ≤ 4) (hq : 2 ≤ q ∧ q ≤ 4) : ∀ i, i < (T ++ [q]).length → 2 ≤ gi (T ++ [q]) i ∧ gi (T ++ [q]) i ≤ 4 := by
  intro i hi
  rw [List.length_append, List.length_singleton] at hi
  by_cases e : i < T.length
  · have := h i e
    simp only [gi, List.getD] at this ⊢
    rw [List.getElem?_append_left e]; exact this
  · rw [show i = T.length by omega]
    simp [gi]; exact hq
theorem sp_two : Sp [2] := (isSp_iff _).1 (by decide)

set_option maxHeartbeats 2000000 in
theorem drawOf_any (b : Nat) (a : Option Addr) (n cap : Nat) (hn : n ≤ 4096) (M : Int) (hM : 8 ≤ M ∧ M ≤ 256) (w : World) (hs : Src w b a n cap) :
    Calls Tryz.prog 107 #[.pointer (some ⟨b, 0, none⟩), .int .i64 M] w fun e w' => ∃ v S, e = .returned (.agg #[v]) ∧ OwnInts w' w.heap.size v S ∧ Sp S ∧ Src w' b a n cap ∧ w.grownBy w' (some b) := by
  have hbl := hs.lt
  obtain ⟨A, hA⟩ : ∃ A, A = w.heap.size := ⟨_, rfl⟩
  obtain ⟨W, hW⟩ : ∃ W, W = w.alloc (.cells #[.slice none 0 0] 26) := ⟨_, rfl⟩
  have hWs : W.heap.size = A + 1 := by rw [hW, hA]; simp
  have HRA : Hid (W.heap[A]? = some (.cells #[.slice none 0 0] 26 (0, 0))) := Lib.hid (by rw [hW, hA]; exact heap_alloc_new _ _)
  have hsW : Src W b a n cap := by rw [hW]; exact hs.alloc _
  have hGW : w.grownBy W (some b) := by rw [hW]; exact grown_alloc (World.grownBy.refl w _) _
  have HW := Lib.hid hW
  have HA := Lib.hid hA
  have HWs := Lib.hid hWs
  have oW := own_empty W W.heap.size (Nat.le_refl _) rfl
  obtain ⟨W2, hW2⟩ : ∃ W2, W2 = (W.alloc (.cells #[] 2)).alloc (.cells #[.int .i64 0, .int .i64 2, .int .i64 2, .int .i64 3, .int .i64 3] 2) := ⟨_, rfl⟩
  have hW2s : W2.heap.size = A + 3 := by rw [hW2]; simp; omega
  have hsW2 : Src W2 b a n cap := by rw [hW2]; exact (hsW.alloc _).alloc _
  have hGW2 : w.grownBy W2 (some b) := by rw [hW2]; exact grown_alloc (grown_alloc hGW _) _
  have RA2 : W2.heap[A]? = some (.cells #[.slice none 0 0] 26 (0, 0)) := by
    rw [hW2]; exact row_g (row_g HRA.out (World.grownBy_alloc W _ none) (by simp)) (World.grownBy_alloc _ _ none) (by simp)
  have oW2 : OwnInts W2 (A + 1) (.slice (some ⟨A + 1, 0, none⟩) 0 0) [] := by rw [hW2, ← hWs]; exact oW.alloc _
  have I2 : Ints W2 (some ⟨A + 2, 0, none⟩) [0, 2, 2, 3, 3] := by
    have e : (W.alloc (.cells #[] 2)).heap.size = A + 2 := by simp; omega
    have := ints_new (W.alloc (.cells #[] 2)) [0, 2, 2, 3, 3] 2
    rw [e] at this
    rw [hW2]; exact this
  have HW2 := Lib.hid hW2
  have hp := pick_n b a n cap hn (A + 2) _ 5 rfl (by omega) (by omega) (by omega) W2 hsW2 I2
  have hAb : b < A := by omega
  clear hsW hGW oW I2 hs hW hW2 hA hWs hbl hsW2
  go_enter Tryz.func107, Tryz.ntmps107
  go_wp2_with fail
  rw [← HW.out, ← HW2.out, ← HA.out]
  refine hp.mono ?_
  rintro e w1 ⟨kd, rfl, hkd, hs1, hg1⟩
  have HKD : Hid (kd = 0 ∨ kd = 2 ∨ kd = 3) := Lib.hid (by simp only [List.mem_cons, List.not_mem_nil, or_false] at hkd; omega)
  have hG1 := grown_trans hGW2 hg1
  have RA1 := row_g RA2 hg1 (by simp; omega)
  have o1 := oW2.kept hg1 (.inr (by simp [Value.ownBlock]; omega))
  have z1 : A + 3 ≤ w1.heap.size := by have := hg1.size; omega
  clear hp hkd hg1 oW2 RA2 hGW2 hW2s
  obtain ⟨O, hO⟩ : ∃ O, O = w1.heap.size := ⟨_, rfl⟩
  obtain ⟨W3, hW3⟩ : ∃ W3, W3 = w1.alloc (.cells #[.slice (some ⟨A + 1, 0, none⟩) 0 0] 26) := ⟨_, rfl⟩
  have RO3 : W3.heap[O]? = some (.cells #[.slice (some ⟨A + 1, 0, none⟩) 0 0] 26 (0, 0)) := by rw [hW3, hO]; exact heap_alloc_new _ _
  have RA3 : W3.heap[A]? = some (.cells #[.slice none 0 0] 26 (0, 0)) := by rw [hW3]; exact row_g RA1 (World.grownBy_alloc w1 _ none) (by simp)
  have o3 : OwnInts W3 (A + 1) (.slice (some ⟨A + 1, 0, none⟩) 0 0) [] := by rw [hW3]; exact o1.alloc _
  have hs3 : Src W3 b a n cap := by rw [hW3]; exact hs1.alloc _
  have hG3 : w.grownBy W3 (some b) := by rw [hW3]; exact grown_alloc hG1 _
  have hnx := next_any b a n cap hn 8 (by omega) W3 hs3
  rw [← hO] at z1
  have HO := Lib.hid hO
  have HW3 := Lib.hid hW3
  clear hO hW3 RA1 o1 hs1 hG1 hs3
  go_wp2_with fail
  rw [← HW3.out]
  refine hnx.mono ?_
  rintro e w2 ⟨x, rfl, x0, x1, x2, hs2, hg2⟩
  have hG2 := grown_trans hG3 hg2
  have RA2 := row_g RA3 hg2 (by simp; omega)
  have RO2 := row_g RO3 hg2 (by simp; omega)
  have o2 := o3.kept hg2 (.inr (by simp [Value.ownBlock]; omega))
  obtain ⟨k0, rfl⟩ : ∃ k0 : Nat, x = k0 := ⟨x.toNat, by omega⟩
  have hk0 : k0 < 8 := by have := x2 (by omega); omega
  clear hnx hg2 RA3 RO3 o3 hG3 x0 x1 x2
  go_wp2_with fail
  rw [← HO.out]
  go_loopw [7] (fun kv wr => ∃ (k : Nat) (T : List Int) (vS : Value), k ≤ 8 ∧ kv = .int .i64 (k : Int) ∧ Hid ((∀ i, i < T.length → 2 ≤ gi T i ∧ gi T i ≤ 4) ∧ prodTo T T.length ≤ M ∧ T.length + k ≤ 8) ∧ OwnInts wr (A + 1) vS T ∧ (∀ g, vS.ownBlock = some g → g = A + 1 ∨ O < g) ∧ wr.heap[O]? = some (.cells #[vS] 26 (0, 0)) ∧ wr.heap[A]? = some (.cells #[.slice none 0 0] 26 (0, 0)) ∧ Src wr b a n cap ∧ w.grownBy wr (some b)) (fun kv _ => (intOf kv).toNat)
  case atStart => exact ⟨k0 + 1, [], _, by omega, by go_num, Lib.hid ⟨fun i h => by simp at h, by simp [prodTo]; omega, by simp; omega⟩, o2, fun g hg => .inl (by simp [Value.ownBlock] at hg; omega), RO2, RA2, hs2, hG2⟩
  case round =>
    clear o2 RO2 RA2 hs2 hG2 hk0
    obtain ⟨k, T, vS, hk, rfl, HT, own, hvS, RO, RA, hsr, hG⟩ := hrel
    by_cases hkp : 0 < k
    · have i1 : (0 : Int) < (k : Int) := by omega
      by_cases hkd : kd = 0
      · have hbe : (kd == 0) = true := by simpa using hkd
        clear hkd
        obtain ⟨w4, hw4⟩ : ∃ w4, w4 = wr.alloc (.cells #[.int .i64 2, .int .i64 2, .int .i64 3, .int .i64 4] 2) := ⟨_, rfl⟩
        have I4 : Ints w4 (some ⟨wr.heap.size, 0, none⟩) [2, 2, 3, 4] := by rw [hw4]; exact ints_new wr _ _
        have hp := pick_n b a n cap hn wr.heap.size _ 4 rfl (by omega) (by omega) (by have := hsr.lt; omega) w4 (by rw [hw4]; exact hsr.alloc _) I4
        have hg4 := World.grownBy_alloc wr (.cells #[.int .i64 2, .int .i64 2, .int .i64 3, .int .i64 4] 2) none
        rw [← hw4] at hg4
        have own4 : OwnInts w4 (A + 1) vS T := by rw [hw4]; exact own.alloc _
        have RO4 := row_g RO hg4 (by simp)
        have RA4 := row_g RA hg4 (by simp)
        have hG4 : w.grownBy w4 (some b) := by rw [hw4]; exact grown_alloc hG _
        have HW4 := Lib.hid hw4
        clear hw4 I4 hg4
        go_wp2_with fail
        rw [← HW4.out]
        refine hp.mono ?_
        rintro e w7 ⟨q, rfl, hqm, hs7, hg7⟩
        have hq : 2 ≤ q ∧ q ≤ 4 := by simp only [List.mem_cons, List.not_mem_nil, or_false] at hqm; omega
        have own7 := own4.kept hg7 (.inr (fun e => by rcases hvS _ e with h | h <;> omega))
        have RO7 := row_g RO4 hg7 (by simp; omega)
        have RA7 := row_g RA4 hg7 (by simp; omega)
        have hG7 := grown_trans hG4 hg7
        clear hp hqm hg7 own4 RO4 RA4 hG4
        obtain ⟨aS, cS, hvs⟩ := own7.shape
        have hXc := cell_of1' RO7
        obtain ⟨x0, x1, HIv, hI⟩ := own7.ints
        have hN := l01N_any aS T cS w7 (by have := HT.out; omega) HT.out.1 (by rw [hvs] at HIv; simp only [Value.slice.injEq] at HIv; rw [HIv.1]; exact hI)
        rw [← hvs] at hN
        have HVS := Lib.hid hvs
        obtain ⟨P, hP⟩ : ∃ P, P = prodTo T T.length := ⟨_, rfl⟩
        have hP1 : 0 ≤ P ∧ P ≤ 256 := by have h1 := HT.out.2.1; have h2 := prodTo_le T T.length HT.out.1 (by have := HT.out.2.2; omega); omega
        have hPq : 0 ≤ P * q ∧ P * q ≤ 1024 := ⟨Int.mul_nonneg hP1.1 (by omega), by have := Int.mul_le_mul hP1.2 hq.2 (by omega) (by omega); omega⟩
        obtain ⟨m1, m2⟩ := hPq
        rw [← hP] at hN
        have HP := Lib.hid hP
        clear HIv hI hvs hP
        by_cases hov : P * q ≤ M
        · have HOV := Lib.hid hov
          go_wp2_with fail
          refine hN.mono ?_
          rintro e w5 ⟨rfl, hb5⟩
          have g5 := grown_of_below hb5 none
          have RO5 := row_g RO7 g5 (by simp)
          have RA5 := row_g RA7 g5 (by simp)
          have own5 := own7.below hb5
          have hs5 := hs7.below hb5 hs7.lt
          have hG5 := grown_trans hG7 (grown_of_below hb5 _)
          have xO5 := cell_of1' RO5
          clear g5 hb5 hN hXc
          go_wp2_with (at_builtin; refine wpList_append_int_at rfl _ _ rfl (A + 1) vS T rfl (own5.alloc _) w5.heap.size q rfl (cell_new _ _ _) (by have := HT.out.2.2; omega) (by have := row_lt RO5; simp; omega) ?_; intro v' w6 own' hgrow hnew; obtain ⟨a6, c6, hv6⟩ := own_shp own'; rw [List.length_append, List.length_singleton] at hv6; subst hv6; have ROn := row_g (row_g RO5 (World.grownBy_alloc w5 (.cells #[.int .i64 q] 2) none) (by simp)) hgrow (fun e => by rcases hvS _ e.symm with h | h <;> omega); have RAn := row_g (row_g RA5 (World.grownBy_alloc w5 (.cells #[.int .i64 q] 2) none) (by simp)) hgrow (fun e => by rcases hvS _ e.symm with h | h <;> omega); have xO := cell_of1' ROn; have fO := frozen_of_row w6 O 0 _ _ ROn; have xA := cell_of1' RAn; have fA := frozen_of_row w6 A 0 _ _ RAn)
          have hvN : ∀ g, (Value.slice a6 (T.length + 1) c6).ownBlock = some g → g = A + 1 ∨ O < g := fun g hg => by
            rcases hnew with e | e
            · exact hvS g (e.symm.trans hg)
            · rw [e] at hg
              have := Option.some.inj hg
              have := row_lt RO5
              simp at *
              omega
          have hGn : w.grownBy w6 (some b) := grown_over (grown_alloc hG5 _) hgrow (fun g hg => by rcases hvS g hg with h | h <;> (have := HA.out; omega))
          have hsn : Src w6 b a n cap := (hs5.alloc _).grownO hgrow (fun g hg => by rcases hvS g hg with h | h <;> omega)
          have zO := row_lt ROn
          have hps := prodTo_snoc T q
          have HTn : Hid ((∀ i, i < (T ++ [q]).length → 2 ≤ gi (T ++ [q]) i ∧ gi (T ++ [q]) i ≤ 4) ∧ prodTo (T ++ [q]) (T ++ [q]).length ≤ M ∧ (T ++ [q]).length + (k - 1) ≤ 8) := Lib.hid ⟨bd_snoc HT.out.1 hq, by rw [List.length_append, List.length_singleton, hps, ← HP.out]; exact HOV.out, by rw [List.length_append, List.length_singleton]; have := HT.out.2.2; omega⟩
          go_roundw
          case rel => exact ⟨k - 1, T ++ [q], _, by omega, (by rw [show ((k - 1 : Nat) : Int) = (k : Int) - 1 by omega]), HTn, own_setO own' O (fun e => by rcases hvN _ e with h | h <;> omega) _, hvN, row_store1' _ ROn, row_setO RAn (by simp; omega) _, hsn.setO _ (by simp; omega) _, grown_set hGn _ (by simp; have := HA.out; omega) _⟩
          case measure => simp [intOf]; omega
        · have HOV := Lib.hid hov
          go_wp2_with fail
          refine hN.mono ?_
          rintro e w5 ⟨rfl, hb5⟩
          have g5 := grown_of_below hb5 none
          have RO5 := row_g RO7 g5 (by simp)
          have RA5 := row_g RA7 g5 (by simp)
          have own5 := own7.below hb5
          have hs5 := hs7.below hb5 hs7.lt
          have hG5 := grown_trans hG7 (grown_of_below hb5 _)
          clear g5 hb5 hN hXc
          have xOt := cell_of1' RO5
          have xAt := cell_of1' RA5
          have fAt := frozen_of_row w5 A 0 _ _ RA5
          have zAt := row_lt RA5
          have hAO : ¬ A = O := by omega
          have hOA : ¬ O = A := by omega
          have hSh := HVS.out
          by_cases hTn : T.length = 0
          · have hTe : T = [] := List.eq_nil_of_length_eq_zero hTn
            have HTe := Lib.hid hTe
            have hSz : vS = .slice aS 0 cS := by rw [hSh, hTn]
            have HSz := Lib.hid hSz
            rw [hSz] at xOt
            clear hTe hTn hSh hSz
            go_wp2_with (at_builtin; refine wpList_append_int_at rfl _ _ rfl (A + 1) vS T (by exact HSz.out.symm) (own5.alloc _) w5.heap.size 2 rfl (cell_new _ _ _) (by have := HT.out.2.2; omega) (by have := row_lt RO5; simp; omega) ?_; intro v' w6 own' hgrow hnew; obtain ⟨a6, c6, hv6⟩ := own_shp own'; rw [List.length_append, List.length_singleton] at hv6; subst hv6; have ROn := row_g (row_g RO5 (World.grownBy_alloc w5 (.cells #[.int .i64 2] 2) none) (by simp)) hgrow (fun e => by rcases hvS _ e.symm with h | h <;> omega); have RAn := row_g (row_g RA5 (World.grownBy_alloc w5 (.cells #[.int .i64 2] 2) none) (by simp)) hgrow (fun e => by rcases hvS _ e.symm with h | h <;> omega); have xO := cell_of1' ROn; have fO := frozen_of_row w6 O 0 _ _ ROn; have xA := cell_of1' RAn; have fA := frozen_of_row w6 A 0 _ _ RAn)
            have hvN : ∀ g, (Value.slice a6 (T.length + 1) c6).ownBlock = some g → g = A + 1 ∨ O < g := fun g hg => by
              rcases hnew with e | e
              · exact hvS g (e.symm.trans hg)
              · rw [e] at hg
                have := Option.some.inj hg
                have := row_lt RO5
                simp at *
                omega
            have hGn : w.grownBy w6 (some b) := grown_over (grown_alloc hG5 _) hgrow (fun g hg => by rcases hvS g hg with h | h <;> (have := HA.out; omega))
            have hsn : Src w6 b a n cap := (hs5.alloc _).grownO hgrow (fun g hg => by rcases hvS g hg with h | h <;> omega)
            have zO := row_lt ROn
            refine bodyPost_ret (v := .agg #[.slice a6 (T.length + 1) c6]) (by simp [results, Tryz.results107, go_sem, xO, fO, xA, fA, zO, hAO, hOA]) rfl ?_
            exact ⟨_, T ++ [2], rfl, (own_setO (own_setO own' O (fun e => by rcases hvN _ e with h | h <;> omega) _) A (fun e => by rcases hvN _ e with h | h <;> omega) _).rebase (by have := HA.out; omega), by rw [HTe.out]; exact sp_two, (hsn.setO _ (by simp; omega) _).setO _ (by simp; omega) _, grown_set (grown_set hGn _ (by simp; have := HA.out; omega) _) _ (by simp; have := HA.out; omega) _⟩
          · have HTn := Lib.hid hTn
            have hne : ((T.length : Int) == 0) = false := by simpa using hTn
            rw [hSh] at xOt
            clear hSh hTn
            go_wp2_with fail
            refine bodyPost_ret (v := .agg #[.slice aS T.length cS]) (by simp [results, Tryz.results107, go_sem, xAt, fAt, zAt]) rfl ?_
            exact ⟨_, T, rfl, (own_setO (by rw [← HVS.out]; exact own5) A (fun e => by rcases hvS _ (by rw [HVS.out]; exact e) with h | h <;> omega) _).rebase (by have := HA.out; omega), ⟨by have := HTn.out; omega, by have := HT.out.2.2; omega, HT.out.1, by have := HT.out.2.1; omega⟩, hs5.setO _ (by simp; omega) _, grown_set hG5 _ (by simp; have := HA.out; omega) _⟩
      · have hbe : (kd == 0) = false := by simpa using hkd
        have hq : 2 ≤ kd ∧ kd ≤ 4 := by have := HKD.out; omega
        obtain ⟨q, hqq⟩ : ∃ q, q = kd := ⟨_, rfl⟩
        obtain ⟨aS, cS, hvs⟩ := own.shape
        have hXc := cell_of1' RO
        obtain ⟨x0, x1, HIv, hI⟩ := own.ints
        have hN := l01N_any aS T cS wr (by have := HT.out; omega) HT.out.1 (by rw [hvs] at HIv; simp only [Value.slice.injEq] at HIv; rw [HIv.1]; exact hI)
        rw [← hvs] at hN
        have HVS := Lib.hid hvs
        obtain ⟨P, hP⟩ : ∃ P, P = prodTo T T.length := ⟨_, rfl⟩
        have hP1 : 0 ≤ P ∧ P ≤ 256 := by have h1 := HT.out.2.1; have h2 := prodTo_le T T.length HT.out.1 (by have := HT.out.2.2; omega); omega
        have hPq : 0 ≤ P * kd ∧ P * kd ≤ 1024 := ⟨Int.mul_nonneg hP1.1 (by omega), by have := Int.mul_le_mul hP1.2 hq.2 (by omega) (by omega); omega⟩
        obtain ⟨m1, m2⟩ := hPq
        rw [← hP] at hN
        have HP := Lib.hid hP
        clear HIv hI hvs hP
        by_cases hov : P * kd ≤ M
        · have HOV := Lib.hid hov
          go_wp2_with fail
          refine hN.mono ?_
          rintro e w5 ⟨rfl, hb5⟩
          have g5 := grown_of_below hb5 none
          have RO5 := row_g RO g5 (by simp)
          have RA5 := row_g RA g5 (by simp)
          have own5 := own.below hb5
          have hs5 := hsr.below hb5 hsr.lt
          have hG5 := grown_trans hG (grown_of_below hb5 _)
          have xO5 := cell_of1' RO5
          clear g5 hb5 hN hXc
          go_wp2_with (at_builtin; refine wpList_append_int_at rfl _ _ rfl (A + 1) vS T rfl (own5.alloc _) w5.heap.size kd rfl (cell_new _ _ _) (by have := HT.out.2.2; omega) (by have := row_lt RO5; simp; omega) ?_; intro v' w6 own' hgrow hnew; obtain ⟨a6, c6, hv6⟩ := own_shp own'; rw [List.length_append, List.length_singleton] at hv6; subst hv6; have ROn := row_g (row_g RO5 (World.grownBy_alloc w5 (.cells #[.int .i64 kd] 2) none) (by simp)) hgrow (fun e => by rcases hvS _ e.symm with h | h <;> omega); have RAn := row_g (row_g RA5 (World.grownBy_alloc w5 (.cells #[.int .i64 kd] 2) none) (by simp)) hgrow (fun e => by rcases hvS _ e.symm with h | h <;> omega); have xO := cell_of1' ROn; have fO := frozen_of_row w6 O 0 _ _ ROn; have xA := cell_of1' RAn; have fA := frozen_of_row w6 A 0 _ _ RAn)
          have hvN : ∀ g, (Value.slice a6 (T.length + 1) c6).ownBlock = some g → g = A + 1 ∨ O < g := fun g hg => by
            rcases hnew with e | e
            · exact hvS g (e.symm.trans hg)
            · rw [e] at hg
              have := Option.some.inj hg
              have := row_lt RO5
              simp at *
              omega
          have hGn : w.grownBy w6 (some b) := grown_over (grown_alloc hG5 _) hgrow (fun g hg => by rcases hvS g hg with h | h <;> (have := HA.out; omega))
          have hsn : Src w6 b a n cap := (hs5.alloc _).grownO hgrow (fun g hg => by rcases hvS g hg with h | h <;> omega)
          have zO := row_lt ROn
          have hps := prodTo_snoc T kd
          have HTn : Hid ((∀ i, i < (T ++ [kd]).length → 2 ≤ gi (T ++ [kd]) i ∧ gi (T ++ [kd]) i ≤ 4) ∧ prodTo (T ++ [kd]) (T ++ [kd]).length ≤ M ∧ (T ++ [kd]).length + (k - 1) ≤ 8) := Lib.hid ⟨bd_snoc HT.out.1 hq, by rw [List.length_append, List.length_singleton, hps, ← HP.out]; exact HOV.out, by rw [List.length_append, List.length_singleton]; have := HT.out.2.2; omega⟩
          go_roundw
          case rel => exact ⟨k - 1, T ++ [kd], _, by omega, (by rw [show ((k - 1 : Nat) : Int) = (k : Int) - 1 by omega]), HTn, own_setO own' O (fun e => by rcases hvN _ e with h | h <;> omega) _, hvN, row_store1' _ ROn, row_setO RAn (by simp; omega) _, hsn.setO _ (by simp; omega) _, grown_set hGn _ (by simp; have := HA.out; omega) _⟩
          case measure => simp [intOf]; omega
        · have HOV := Lib.hid hov
          go_wp2_with fail
          refine hN.mono ?_
          rintro e w5 ⟨rfl, hb5⟩
          have g5 := grown_of_below hb5 none
          have RO5 := row_g RO g5 (by simp)
          have RA5 := row_g RA g5 (by simp)
          have own5 := own.below hb5
          have hs5 := hsr.below hb5 hsr.lt
          have hG5 := grown_trans hG (grown_of_below hb5 _)
          clear g5 hb5 hN hXc
          have xOt := cell_of1' RO5
          have xAt := cell_of1' RA5
          have fAt := frozen_of_row w5 A 0 _ _ RA5
          have zAt := row_lt RA5
          have hAO : ¬ A = O := by omega
          have hOA : ¬ O = A := by omega
          have hSh := HVS.out
          by_cases hTn : T.length = 0
          · have hTe : T = [] := List.eq_nil_of_length_eq_zero hTn
            have HTe := Lib.hid hTe
            have hSz : vS = .slice aS 0 cS := by rw [hSh, hTn]
            have HSz := Lib.hid hSz
            rw [hSz] at xOt
            clear hTe hTn hSh hSz
            go_wp2_with (at_builtin; refine wpList_append_int_at rfl _ _ rfl (A + 1) vS T (by exact HSz.out.symm) (own5.alloc _) w5.heap.size 2 rfl (cell_new _ _ _) (by have := HT.out.2.2; omega) (by have := row_lt RO5; simp; omega) ?_; intro v' w6 own' hgrow hnew; obtain ⟨a6, c6, hv6⟩ := own_shp own'; rw [List.length_append, List.length_singleton] at hv6; subst hv6; have ROn := row_g (row_g RO5 (World.grownBy_alloc w5 (.cells #[.int .i64 2] 2) none) (by simp)) hgrow (fun e => by rcases hvS _ e.symm with h | h <;> omega); have RAn := row_g (row_g RA5 (World.grownBy_alloc w5 (.cells #[.int .i64 2] 2) none) (by simp)) hgrow (fun e => by rcases hvS _ e.symm with h | h <;> omega); have xO := cell_of1' ROn; have fO := frozen_of_row w6 O 0 _ _ ROn; have xA := cell_of1' RAn; have fA := frozen_of_row w6 A 0 _ _ RAn)
            have hvN : ∀ g, (Value.slice a6 (T.length + 1) c6).ownBlock = some g → g = A + 1 ∨ O < g := fun g hg => by
              rcases hnew with e | e
              · exact hvS g (e.symm.trans hg)
              · rw [e] at hg
                have := Option.some.inj hg
                have := row_lt RO5
                simp at *
                omega
            have hGn : w.grownBy w6 (some b) := grown_over (grown_alloc hG5 _) hgrow (fun g hg => by rcases hvS g hg with h | h <;> (have := HA.out; omega))
            have hsn : Src w6 b a n cap := (hs5.alloc _).grownO hgrow (fun g hg => by rcases hvS g hg with h | h <;> omega)
            have zO := row_lt ROn
            refine bodyPost_ret (v := .agg #[.slice a6 (T.length + 1) c6]) (by simp [results, Tryz.results107, go_sem, xO, fO, xA, fA, zO, hAO, hOA]) rfl ?_
            exact ⟨_, T ++ [2], rfl, (own_setO (own_setO own' O (fun e => by rcases hvN _ e with h | h <;> omega) _) A (fun e => by rcases hvN _ e with h | h <;> omega) _).rebase (by have := HA.out; omega), by rw [HTe.out]; exact sp_two, (hsn.setO _ (by simp; omega) _).setO _ (by simp; omega) _, grown_set (grown_set hGn _ (by simp; have := HA.out; omega) _) _ (by simp; have := HA.out; omega) _⟩
          · have HTn := Lib.hid hTn
            have hne : ((T.length : Int) == 0) = false := by simpa using hTn
            rw [hSh] at xOt
            clear hSh hTn
            go_wp2_with fail
            refine bodyPost_ret (v := .agg #[.slice aS T.length cS]) (by simp [results, Tryz.results107, go_sem, xAt, fAt, zAt]) rfl ?_
            exact ⟨_, T, rfl, (own_setO (by rw [← HVS.out]; exact own5) A (fun e => by rcases hvS _ (by rw [HVS.out]; exact e) with h | h <;> omega) _).rebase (by have := HA.out; omega), ⟨by have := HTn.out; omega, by have := HT.out.2.2; omega, HT.out.1, by have := HT.out.2.1; omega⟩, hs5.setO _ (by simp; omega) _, grown_set hG5 _ (by simp; have := HA.out; omega) _⟩
    · obtain rfl : k = 0 := by omega
      obtain ⟨aS, cS, hvs⟩ := own.shape
      have HVS := Lib.hid hvs
      have hq : True := trivial
      clear hvs
      have xOt := cell_of1' RO
      have xAt := cell_of1' RA
      have fAt := frozen_of_row wr A 0 _ _ RA
      have zAt := row_lt RA
      have hAO : ¬ A = O := by omega
      have hOA : ¬ O = A := by omega
      have hSh := HVS.out
      by_cases hTn : T.length = 0
      · have hTe : T = [] := List.eq_nil_of_length_eq_zero hTn
        have HTe := Lib.hid hTe
        have hSz : vS = .slice aS 0 cS := by rw [hSh, hTn]
        have HSz := Lib.hid hSz
        rw [hSz] at xOt
        clear hTe hTn hSh hSz
        go_wp2_with (at_builtin; refine wpList_append_int_at rfl _ _ rfl (A + 1) vS T (by exact HSz.out.symm) (own.alloc _) wr.heap.size 2 rfl (cell_new _ _ _) (by have := HT.out.2.2; omega) (by have := row_lt RO; simp; omega) ?_; intro v' w6 own' hgrow hnew; obtain ⟨a6, c6, hv6⟩ := own_shp own'; rw [List.length_append, List.length_singleton] at hv6; subst hv6; have ROn := row_g (row_g RO (World.grownBy_alloc wr (.cells #[.int .i64 2] 2) none) (by simp)) hgrow (fun e => by rcases hvS _ e.symm with h | h <;> omega); have RAn := row_g (row_g RA (World.grownBy_alloc wr (.cells #[.int .i64 2] 2) none) (by simp)) hgrow (fun e => by rcases hvS _ e.symm with h | h <;> omega); have xO := cell_of1' ROn; have fO := frozen_of_row w6 O 0 _ _ ROn; have xA := cell_of1' RAn; have fA := frozen_of_row w6 A 0 _ _ RAn)
        have hvN : ∀ g, (Value.slice a6 (T.length + 1) c6).ownBlock = some g → g = A + 1 ∨ O < g := fun g hg => by
          rcases hnew with e | e
          · exact hvS g (e.symm.trans hg)
          · rw [e] at hg
            have := Option.some.inj hg
            have := row_lt RO
            simp at *
            omega
        have hGn : w.grownBy w6 (some b) := grown_over (grown_alloc hG _) hgrow (fun g hg => by rcases hvS g hg with h | h <;> (have := HA.out; omega))
        have hsn : Src w6 b a n cap := (hsr.alloc _).grownO hgrow (fun g hg => by rcases hvS g hg with h | h <;> omega)
        have zO := row_lt ROn
        refine bodyPost_ret (v := .agg #[.slice a6 (T.length + 1) c6]) (by simp [results, Tryz.results107, go_sem, xO, fO, xA, fA, zO, hAO, hOA]) rfl ?_
        exact ⟨_, T ++ [2], rfl, (own_setO (own_setO own' O (fun e => by rcases hvN _ e with h | h <;> omega) _) A (fun e => by rcases hvN _ e with h | h <;> omega) _).rebase (by have := HA.out; omega), by rw [HTe.out]; exact sp_two, (hsn.setO _ (by simp; omega) _).setO _ (by simp; omega) _, grown_set (grown_set hGn _ (by simp; have := HA.out; omega) _) _ (by simp; have := HA.out; omega) _⟩
      · have HTn := Lib.hid hTn
        have hne : ((T.length : Int) == 0) = false := by simpa using hTn
        rw [hSh] at xOt
        clear hSh hTn
        go_wp2_with fail
        refine bodyPost_ret (v := .agg #[.slice aS T.length cS]) (by simp [results, Tryz.results107, go_sem, xAt, fAt, zAt]) rfl ?_
        exact ⟨_, T, rfl, (own_setO (by rw [← HVS.out]; exact own) A (fun e => by rcases hvS _ (by rw [HVS.out]; exact e) with h | h <;> omega) _).rebase (by have := HA.out; omega), ⟨by have := HTn.out; omega, by have := HT.out.2.2; omega, HT.out.1, by have := HT.out.2.1; omega⟩, hsr.setO _ (by simp; omega) _, grown_set hG _ (by simp; have := HA.out; omega) _⟩

end Go.Proofs.YtpmfedllbiblbaaGreat

namespace Go.Proofs.YtpmfedllbiblbaaGreat
open Go.RowKit Cv
set_option linter.unusedVariables false
set_option linter.unusedSimpArgs false
set_option maxRecDepth 100000

set_option maxHeartbeats 1000000 in
theorem small_any (b : Nat) (a : Option Addr) (n cap : Nat) (hn : n ≤ 4096) (w : World) (hs : Src w b a n cap) :
    Calls Tryz.prog 92 #[.pointer (some ⟨b, 0, none⟩)] w fun e w' => ∃ v S, e = .returned (.agg #[v]) ∧ OwnInts w' w.heap.size v S ∧ Sp S ∧ Src w' b a n cap ∧ w.grownBy w' (some b) := by
  have hbl := hs.lt
  obtain ⟨A, hA⟩ : ∃ A, A = w.heap.size := ⟨_, rfl⟩
  obtain ⟨W2, hW2⟩ : ∃ W2, W2 = (w.alloc (.cells #[.slice none 0 0] 26)).alloc (.cells #[.int .i64 8, .int .i64 27, .int .i64 81] 2) := ⟨_, rfl⟩
  have hs2 : Src W2 b a n cap := by rw [hW2]; exact (hs.alloc _).alloc _
  have hG2 : w.grownBy W2 (some b) := by rw [hW2]; exact grown_alloc (grown_alloc (World.grownBy.refl w _) _) _
  have RA2 : W2.heap[A]? = some (.cells #[.slice none 0 0] 26 (0, 0)) := by
    rw [hW2, hA]; exact row_g (heap_alloc_new w _) (World.grownBy_alloc _ _ none) (by simp)
  have I2 : Ints W2 (some ⟨A + 1, 0, none⟩) [8, 27, 81] := by
    have e : (w.alloc (.cells #[.slice none 0 0] 26)).heap.size = A + 1 := by rw [hA]; simp
    have := ints_new (w.alloc (.cells #[.slice none 0 0] 26)) [8, 27, 81] 2
    rw [e] at this
    rw [hW2]; exact this
  have zA : A < W2.heap.size := row_lt RA2
  have hp := pick_n b a n cap hn (A + 1) _ 3 rfl (by omega) (by omega) (by omega) W2 hs2 I2
  have HA := Lib.hid hA
  have HW2 := Lib.hid hW2
  have hAb : b < A := by omega
  clear hA hW2 hs hs2 I2 hbl
  go_enter Tryz.func92, Tryz.ntmps92
  go_wp2_with fail
  rw [← HW2.out, ← HA.out]
  refine hp.mono ?_
  rintro e w3 ⟨M, rfl, hM, hs3, hg3⟩
  have hM' : 8 ≤ M ∧ M ≤ 256 := by simp only [List.mem_cons, List.not_mem_nil, or_false] at hM; omega
  have hG3 := grown_trans hG2 hg3
  have RA3 := row_g RA2 hg3 (by simp; omega)
  have hd := drawOf_any b a n cap hn M hM' w3 hs3
  clear hp hM hg3 RA2 hG2 hs3
  go_wp2_with fail
  refine hd.mono ?_
  rintro e w4 ⟨v, S, rfl, own, hSp, hs4, hg4⟩
  obtain ⟨x, c, hv⟩ := own_shp own
  subst hv
  have hG4 := grown_trans hG3 hg4
  have RA4 := row_g RA3 hg4 (by simp; omega)
  have hA3 : A < w3.heap.size := row_lt RA3
  have xA := cell_of1' RA4
  have fA := frozen_of_row w4 A 0 _ _ RA4
  have zA4 := row_lt RA4
  clear hd hg4 RA3 hG3
  go_wp2_with fail
  refine bodyPost_ret (v := .agg #[.slice x S.length c]) (by simp [results, Tryz.results92, go_sem, xA, fA, zA4]) rfl ?_
  exact ⟨_, S, rfl, (own.setBelow (by simp; omega) _).rebase (by have := HA.out; omega), hSp, hs4.setO _ (by simp; omega) _, grown_set hG4 _ (by simp; have := HA.out; omega) _⟩

/-- the length of the slice in a cell -/
def lenAt (w : World) (a : Addr) : Nat := match w.cell? a with
  | some (.slice _ n _) => n
  | _ => 0
/-- the numbers S lie at ao, behind the block b -/
def IntsX (b : Nat) (w : World) (ao : Option Addr) (S : List Int) : Prop := Ints w ao S ∧ ∀ g o, ao = some ⟨g, o, none⟩ → b < g
theorem IntsX.below {b B : Nat} {w w' : World} {ao : Option Addr} {S : List Int} (h : IntsX b w ao S) (hb : Below w.heap.size w w') : IntsX b w' ao S := ⟨h.1.below hb, h.2⟩
theorem IntsX.grown {b : Nat} {w w' : World} {ao : Option Addr} {S : List Int} (h : IntsX b w ao S) (hg : w.grownBy w' (some b)) : IntsX b w' ao S := by
  obtain ⟨h1, h2⟩ := h
  refine ⟨?_, h2⟩
  rcases h1 with h | ⟨g, o, rfl, hlt, hc⟩
  · exact .inl h
  · have := h2 g o rfl
    exact .inr ⟨g, o, rfl, Nat.lt_of_lt_of_le hlt hg.size, fun i hi => grown_cell hg (hc i hi) (by omega)⟩
theorem intsX_own {b base : Nat} {w : World} {a : Option Addr} {n cap : Nat} {S : List Int} (h : OwnInts w base (.slice a n cap) S) (hb : b < base) : IntsX b w a S := by
  refine ⟨own_ints h, fun g o e => ?_⟩
  subst e
  rcases h.2 with ⟨hv, _⟩ | ⟨g', _, _, hv, hg, _⟩
  · simp at hv
  · simp only [Value.slice.injEq, Option.some.injEq, Addr.mk.injEq] at hv; omega
theorem IntsX.set {b : Nat} {w : World} {ao : Option Addr} {S : List Int} (h : IntsX b w ao S) (p : Nat) (u : Value) (hp : ∀ g o, ao = some ⟨g, o, none⟩ → g ≠ p) : IntsX b (w.setCell ⟨p, 0, none⟩ u) ao S := by
  obtain ⟨h1, h2⟩ := h
  refine ⟨?_, h2⟩
  rcases h1 with h | ⟨g, o, rfl, hlt, hc⟩
  · exact .inl h
  · exact .inr ⟨g, o, rfl, by simpa using hlt, fun i hi => cell_set_other (hc i hi) (hp g o rfl)⟩

set_option maxHeartbeats 4000000 in
theorem bad_any (b : Nat) (a : Option Addr) (n cap : Nat) (hn : n ≤ 4096) (ao : Option Addr) (S : List Int) (capS : Nat) (hSp : Sp S) (w : World) (hs : Src w b a n cap) (hX : IntsX b w ao S) :
    Calls Tryz.prog 93 #[.pointer (some ⟨b, 0, none⟩), .agg #[.slice ao S.length capS]] w fun e w' => ∃ ax T cx, e = .returned (.agg #[.slice ax T.length cx]) ∧ IntsX b w' ax T ∧ T.length ≤ 8 ∧ Src w' b a n cap ∧ w.grownBy w' (some b) := by
  have hbl := hs.lt
  obtain ⟨s1, s8⟩ := And.intro hSp.lo hSp.hi
  obtain ⟨A, hA⟩ : ∃ A, A = w.heap.size := ⟨_, rfl⟩
  obtain ⟨W2, hW2⟩ : ∃ W2, W2 = (w.alloc (.cells #[.slice ao S.length capS] 26)).alloc (.cells #[.slice none 0 0] 26) := ⟨_, rfl⟩
  have hs2 : Src W2 b a n cap := by rw [hW2]; exact (hs.alloc _).alloc _
  have hG2 : w.grownBy W2 (some b) := by rw [hW2]; exact grown_alloc (grown_alloc (World.grownBy.refl w _) _) _
  have zW : W2.heap.size = A + 2 := by rw [hW2, hA]; simp
  have RA2 : W2.heap[A]? = some (.cells #[.slice ao S.length capS] 26 (0, 0)) := by
    rw [hW2, hA]; exact row_g (heap_alloc_new w _) (World.grownBy_alloc _ _ none) (by simp)
  have RR2 : W2.heap[A + 1]? = some (.cells #[.slice none 0 0] 26 (0, 0)) := by
    have e : (w.alloc (.cells #[.slice ao S.length capS] 26)).heap.size = A + 1 := by rw [hA]; simp
    rw [hW2, ← e]; exact heap_alloc_new _ _
  have hX2 : IntsX b W2 ao S := by rw [hW2]; exact (hX.below (B := 0) ((Below.refl _ _).alloc (Nat.le_refl _) _)).below (B := 0) ((Below.refl _ _).alloc (Nat.le_refl _) _)
  have hXA : Hid (∀ g o, ao = some ⟨g, o, none⟩ → g < A) := Lib.hid fun g o e => by
    rcases hX.1 with h | ⟨g', o', e', hl, _⟩
    · omega
    · rw [e] at e'; cases e'; rw [hA]; exact hl
  obtain ⟨g0, o0, hao⟩ : ∃ g0 o0, ao = some ⟨g0, o0, none⟩ := by
    rcases hX.1 with h | ⟨g', o', e', _⟩
    · omega
    · exact ⟨g', o', e'⟩
  subst hao
  have hown := l01Own_any ⟨g0, o0, none⟩ S S.length capS rfl (by omega) W2 hX2.1
  have xA2 := cell_of1' RA2
  have HA := Lib.hid hA
  have HW2 := Lib.hid hW2
  have hAb : b < A := by omega
  clear hA hW2 hs hbl hX hSp
  go_enter Tryz.func93, Tryz.ntmps93
  go_wp2_with fail
  rw [← HW2.out, ← HA.out]
  refine hown.mono ?_
  rintro e w3 ⟨g, c, rfl, own3, hb3⟩
  have g3 := grown_of_below hb3 none
  have hG3 := grown_trans hG2 (grown_of_below hb3 (some b))
  have RA3 := row_g RA2 g3 (by simp)
  have RR3 := row_g RR2 g3 (by simp)
  have hs3 := hs2.below hb3 hs2.lt
  have hX3 := hX2.below (B := 0) hb3
  have hgA : A + 2 ≤ g ∧ g < w3.heap.size := by have := own3.base_le; omega
  clear hown g3 hb3 RA2 RR2 hs2 hX2 hG2 xA2
  obtain ⟨O, hO⟩ : ∃ O, O = w3.heap.size := ⟨_, rfl⟩
  obtain ⟨W4, hW4⟩ : ∃ W4, W4 = w3.alloc (.cells #[.slice (some ⟨g, 0, none⟩) S.length c] 26) := ⟨_, rfl⟩
  have RO4 : W4.heap[O]? = some (.cells #[.slice (some ⟨g, 0, none⟩) S.length c] 26 (0, 0)) := by rw [hW4, hO]; exact heap_alloc_new _ _
  have RA4 := row_g RA3 (World.grownBy_alloc w3 (.cells #[.slice (some ⟨g, 0, none⟩) S.length c] 26) none) (by simp)
  have RR4 := row_g RR3 (World.grownBy_alloc w3 (.cells #[.slice (some ⟨g, 0, none⟩) S.length c] 26) none) (by simp)
  have own4 := own3.alloc (.cells #[.slice (some ⟨g, 0, none⟩) S.length c] 26)
  have hs4 := hs3.alloc (.cells #[.slice (some ⟨g, 0, none⟩) S.length c] 26)
  have hG4 := grown_alloc hG3 (.cells #[.slice (some ⟨g, 0, none⟩) S.length c] 26)
  have hX4 := hX3.below (B := 0) ((Below.refl _ _).alloc (Nat.le_refl _) (.cells #[.slice (some ⟨g, 0, none⟩) S.length c] 26))
  rw [← hW4] at RA4 RR4 own4 hs4 hG4 hX4
  rw [zW] at own4
  have HW4 := Lib.hid hW4
  have HO := Lib.hid hO
  rw [← hO] at hgA
  have hnx := next_any b a n cap hn 50 (by omega) W4 hs4
  clear hW4 hO RA3 RR3 own3 hs3 hX3 hG3 hs4
  go_wp2_with fail
  rw [← HW4.out, ← HO.out]
  refine hnx.mono ?_
  rintro e wr ⟨x, rfl, x0, x1, x2, hsr, hgr⟩
  have hG := grown_trans hG4 hgr
  have RA := row_g RA4 hgr (by simp; omega)
  have RR := row_g RR4 hgr (by simp; omega)
  have RO := row_g RO4 hgr (by simp; omega)
  have own := own4.kept hgr (.inr (by simp [Value.ownBlock]; omega))
  have hXr := hX4.grown hgr
  clear hnx hgr RA4 RR4 RO4 own4 hX4 hG4 x1 x2
  have xA := cell_of1' RA
  have xR := cell_of1' RR
  have xO := cell_of1' RO
  have fR := frozen_of_row wr (A + 1) 0 _ _ RR
  have zR := row_lt RR
  by_cases e0 : x = 0
  · have b0 : (x == 0) = true := by simpa using e0
    clear e0
    go_wp2_with fail
    refine bodyPost_ret (v := .agg #[.slice none 0 0]) (by simp [results, Tryz.results93, go_sem, xR, fR, zR]) rfl ?_
    exact ⟨none, [], 0, rfl, ⟨.inl rfl, fun g o e => by cases e⟩, by simp, hsr.setO _ (by simp; omega) _, grown_set hG _ (by simp; have := HA.out; omega) _⟩
  have b0 : (x == 0) = false := by simpa using e0
  by_cases e1 : x = 1
  · have b1 : (x == 1) = true := by simpa using e1
    clear e0 e1
    go_wp2_with fail
    refine wp_region_held_drew (S := fun w' => w'.cell? ⟨O, 0, none⟩ = some (.slice (some ⟨g, 0, none⟩) S.length c)) (by kernel_rfl) xO (fun hHeld => ?_)
    refine wpAnyH_take (i := 0) (v := ?_) rfl (by kernel_rfl) (by kernel_rfl) (by kernel_rfl) (fun _ _ _ h => h) (Or.inl ⟨by rfl, ?_⟩) (by assumption) ?_
    rotate_left
    · (intro w hSw; (try dsimp only at hSw); go_simp; try (with_reducible rfl))
    (try simp only [Act.put, List.setIfInBounds_toArray, List.set_cons_zero, List.set_cons_succ])
    refine wpAnyH_take (i := 1) (v := ?_) rfl (by kernel_rfl) (by kernel_rfl) (by kernel_rfl) (fun _ _ _ h => h) (Or.inl ⟨by rfl, ?_⟩) (by assumption) ?_
    rotate_left
    · (intro w hSw; (try dsimp only at hSw); go_simp; try (with_reducible rfl))
    (try simp only [Act.put, List.setIfInBounds_toArray, List.set_cons_zero, List.set_cons_succ])
    refine wpAnyH_take (i := 2) (v := ?_) rfl (by kernel_rfl) (by kernel_rfl) (by kernel_rfl) (fun _ _ _ h => h) (Or.inl ⟨by rfl, ?_⟩) (by assumption) ?_
    rotate_left
    · (intro w hSw; (try dsimp only at hSw); go_simp; try (with_reducible rfl))
    (try simp only [Act.put, List.setIfInBounds_toArray, List.set_cons_zero, List.set_cons_succ])
    refine wpAnyH_take (i := 3) (v := ?_) rfl (by kernel_rfl) (by kernel_rfl) (by kernel_rfl) (fun _ _ _ h => h) (Or.inl ⟨by rfl, ?_⟩) (by assumption) ?_
    rotate_left
    · (intro w hSw; (try dsimp only at hSw); go_simp; try (with_reducible rfl))
    (try simp only [Act.put, List.setIfInBounds_toArray, List.set_cons_zero, List.set_cons_succ])
    refine wpAnyH_take (i := 4) (v := ?_) rfl (by kernel_rfl) (by kernel_rfl) (by kernel_rfl) (fun _ _ _ h => h) (Or.inl ⟨by rfl, ?_⟩) (by assumption) ?_
    rotate_left
    · (intro w hSw; (try dsimp only at hSw); go_simp; try (with_reducible rfl))
    (try simp only [Act.put, List.setIfInBounds_toArray, List.set_cons_zero, List.set_cons_succ])
    refine wpAnyH_take (i := 5) (v := ?_) rfl (by kernel_rfl) (by kernel_rfl) (by kernel_rfl) (fun _ _ _ h => h) (Or.inl ⟨by rfl, ?_⟩) (by assumption) ?_
    rotate_left
    · (intro w hSw; (try dsimp only at hSw); go_simp; try (with_reducible rfl))
    (try simp only [Act.put, List.setIfInBounds_toArray, List.set_cons_zero, List.set_cons_succ])
    refine wpAnyH_take (i := 7) (v := ?_) rfl (by kernel_rfl) (by kernel_rfl) (by kernel_rfl) (fun _ _ _ h => h) (Or.inl ⟨by rfl, ?_⟩) (by assumption) ?_
    rotate_left
    · (intro w hSw; (try dsimp only at hSw); go_simp; try (with_reducible rfl))
    (try simp only [Act.put, List.setIfInBounds_toArray, List.set_cons_zero, List.set_cons_succ])
    refine wpAnyH_ready (rs := [6, 8]) (by kernel_rfl) (by simp) ?_
    refine AllReadyH.cons rfl (fun K hK => ?_) ?_
    · go_simp
      (go_at_call 59; refine (next_any b a n cap hn (S.length : Int) (by omega) wr.drew (hsr.drewN 1)).mono ?_)
      rintro e uA ⟨yA, rfl, y0, y1, y2, hsA, hgA⟩
      obtain ⟨k, rfl⟩ : ∃ k : Nat, yA = k := ⟨yA.toNat, by omega⟩
      have hk : k < S.length := by have := y2 (by omega); omega
      have ROA := row_g (show wr.drew.heap[O]? = _ from RO) hgA (by simp; omega)
      have RAA := row_g (show wr.drew.heap[A]? = _ from RA) hgA (by simp; omega)
      have RRA := row_g (show wr.drew.heap[A + 1]? = _ from RR) hgA (by simp; omega)
      have ownA := (own.drew).kept hgA (.inr (by simp [Value.ownBlock]; omega))
      have hGA := grown_trans (grown_drewN hG 1) hgA
      refine hK.out _ _ (cell_of1' ROA) (fun hHeld => ?_)
      clear hK K
      (try simp only [Act.put, List.setIfInBounds_toArray, List.set_cons_zero, List.set_cons_succ])
      refine wpAnyH_ready (rs := [8]) (by kernel_rfl) (by simp) ?_
      refine AllReadyH.cons rfl (fun K hK => ?_) AllReadyH.nil
      go_simp
      obtain ⟨uB, huB⟩ : ∃ u, u = uA.alloc (.cells #[.int .i64 1, .int .i64 5, .int .i64 0, .int .i64 (-1), .int .i64 1099511627776] 2) := ⟨_, rfl⟩
      rw [← huB]
      have ROB : uB.heap[O]? = some (.cells #[.slice (some ⟨g, 0, none⟩) S.length c] 26 (0, 0)) := by rw [huB]; exact row_g ROA (World.grownBy_alloc uA (.cells #[.int .i64 1, .int .i64 5, .int .i64 0, .int .i64 (-1), .int .i64 1099511627776] 2) none) (by simp)
      have RAB : uB.heap[A]? = some (.cells #[.slice (some ⟨g0, o0, none⟩) S.length capS] 26 (0, 0)) := by rw [huB]; exact row_g RAA (World.grownBy_alloc uA (.cells #[.int .i64 1, .int .i64 5, .int .i64 0, .int .i64 (-1), .int .i64 1099511627776] 2) none) (by simp)
      have RRB : uB.heap[A + 1]? = some (.cells #[.slice none 0 0] 26 (0, 0)) := by rw [huB]; exact row_g RRA (World.grownBy_alloc uA (.cells #[.int .i64 1, .int .i64 5, .int .i64 0, .int .i64 (-1), .int .i64 1099511627776] 2) none) (by simp)
      have ownB : OwnInts uB (A + 2) (.slice (some ⟨g, 0, none⟩) S.length c) S := by rw [huB]; exact ownA.alloc _
      have hsB : Src uB b a n cap := by rw [huB]; exact hsA.alloc _
      have hGB : w.grownBy uB (some b) := by rw [huB]; exact grown_alloc hGA _
      have IB : Ints uB (some ⟨uA.heap.size, 0, none⟩) [1, 5, 0, -1, 1099511627776] := by rw [huB]; exact ints_new uA _ _
      have zIB : b < uA.heap.size := hsA.lt
      clear huB
      refine hK.out _ _ (cell_of1' ROB) (fun hHeld => ?_)
      clear hK K
      (try simp only [Act.put, List.setIfInBounds_toArray, List.set_cons_zero, List.set_cons_succ])
      refine wpAnyH_ready (rs := [9]) (by kernel_rfl) (by simp) ?_
      refine AllReadyH.cons rfl (fun K hK => ?_) AllReadyH.nil
      go_simp
      (go_at_call 61; refine (pick_n b a n cap hn uA.heap.size _ 5 rfl (by omega) (by omega) (by omega) uB hsB IB).mono ?_)
      rintro e uC ⟨z, rfl, hz, hsC, hgC⟩
      have ROC := row_g ROB hgC (by simp; omega)
      have RAC := row_g RAB hgC (by simp; omega)
      have RRC := row_g RRB hgC (by simp; omega)
      have ownC := ownB.kept hgC (.inr (by simp [Value.ownBlock]; omega))
      have hGC := grown_trans hGB hgC
      refine hK.out _ _ (cell_of1' ROC) (fun hHeld => ?_)
      clear hK K
      (try simp only [Act.put, List.setIfInBounds_toArray, List.set_cons_zero, List.set_cons_succ])
      have i1 : (0 : Int) ≤ (k : Int) := by omega
      have i2 : (k : Int) < (S.length : Int) := by omega
      have hcell := ownC.cell (k := k) hk
      have hfree := ownC.free k
      refine wpAnyH_take (i := 10) (v := ?_) rfl (by kernel_rfl) (by kernel_rfl) (by kernel_rfl) (fun _ _ _ h => h) (Or.inl ⟨by rfl, ?_⟩) (by assumption) ?_
      rotate_left
      · (intro w hSw; (try dsimp only at hSw); go_simp; try (with_reducible rfl))
      (try simp only [Act.put, List.setIfInBounds_toArray, List.set_cons_zero, List.set_cons_succ])
      refine wpAnyH_ready (rs := [11]) (by kernel_rfl) (by simp) ?_
      refine AllReadyH.cons rfl (fun K hK => ?_) AllReadyH.nil
      go_simp
      have ROe := row_setO ROC (p := ⟨g, k, none⟩) (by simp; omega) (.int .i64 z)
      have RAe := row_setO RAC (p := ⟨g, k, none⟩) (by simp; omega) (.int .i64 z)
      have RRe := row_setO RRC (p := ⟨g, k, none⟩) (by simp; omega) (.int .i64 z)
      have owne := ownC.stored k z
      have hse := hsC.setO ⟨g, k, none⟩ (by simp; omega) (.int .i64 z)
      have hGe := grown_set hGC ⟨g, k, none⟩ (by simp; have := HA.out; omega) (.int .i64 z)
      refine hK.out _ _ (cell_of1' ROe) (fun hHeld => ?_)
      clear hK K
      (try simp only [Act.put, List.setIfInBounds_toArray, List.set_cons_zero, List.set_cons_succ])
      obtain ⟨we, hwe⟩ : ∃ we, we = uC.setCell ⟨g, k, none⟩ (.int .i64 z) := ⟨_, rfl⟩
      rw [← hwe] at ROe RAe RRe owne hse hGe ⊢
      have xOe := cell_of1' ROe
      have xRe := cell_of1' RRe
      have fRe := frozen_of_row we (A + 1) 0 _ _ RRe
      have zRe := row_lt RRe
      have hT : (S.set k z).length = S.length := List.length_set
      clear hwe hcell hfree
      refine wpAnyH_done (by kernel_rfl) ?_ _
      (try simp only [List.getElem_toArray, List.getElem_cons_succ, List.getElem_cons_zero, Act.put, List.setIfInBounds_toArray, List.set_cons_zero, List.set_cons_succ])
      go_wp2_with fail
      refine bodyPost_ret (v := .agg #[.slice (some ⟨g, 0, none⟩) S.length c]) (by simp [results, Tryz.results93, go_sem, xRe, fRe, zRe]) rfl ?_
      exact ⟨_, S.set k z, c, by rw [hT], (intsX_own owne (by omega)).set _ _ (fun g' o' e => by cases e; omega), by rw [hT]; exact s8, hse.setO _ (by simp; omega) _, grown_set hGe _ (by simp; have := HA.out; omega) _⟩
    refine AllReadyH.cons rfl (fun K hK => ?_) AllReadyH.nil
    go_simp
    obtain ⟨uA, huA⟩ : ∃ u, u = (wr.alloc (.cells #[.int .i64 1, .int .i64 5, .int .i64 0, .int .i64 (-1), .int .i64 1099511627776] 2)).drew := ⟨_, rfl⟩
    rw [← huA]
    have ROA : uA.heap[O]? = some (.cells #[.slice (some ⟨g, 0, none⟩) S.length c] 26 (0, 0)) := by rw [huA]; exact (show (wr.alloc (.cells #[.int .i64 1, .int .i64 5, .int .i64 0, .int .i64 (-1), .int .i64 1099511627776] 2)).heap[O]? = _ from row_g RO (World.grownBy_alloc wr (.cells #[.int .i64 1, .int .i64 5, .int .i64 0, .int .i64 (-1), .int .i64 1099511627776] 2) none) (by simp))
    have RAA : uA.heap[A]? = some (.cells #[.slice (some ⟨g0, o0, none⟩) S.length capS] 26 (0, 0)) := by rw [huA]; exact (show (wr.alloc (.cells #[.int .i64 1, .int .i64 5, .int .i64 0, .int .i64 (-1), .int .i64 1099511627776] 2)).heap[A]? = _ from row_g RA (World.grownBy_alloc wr (.cells #[.int .i64 1, .int .i64 5, .int .i64 0, .int .i64 (-1), .int .i64 1099511627776] 2) none) (by simp))
    have RRA : uA.heap[A + 1]? = some (.cells #[.slice none 0 0] 26 (0, 0)) := by rw [huA]; exact (show (wr.alloc (.cells #[.int .i64 1, .int .i64 5, .int .i64 0, .int .i64 (-1), .int .i64 1099511627776] 2)).heap[A + 1]? = _ from row_g RR (World.grownBy_alloc wr (.cells #[.int .i64 1, .int .i64 5, .int .i64 0, .int .i64 (-1), .int .i64 1099511627776] 2) none) (by simp))
    have ownA : OwnInts uA (A + 2) (.slice (some ⟨g, 0, none⟩) S.length c) S := by rw [huA]; exact (own.alloc _).drew
    have hsA : Src uA b a n cap := by rw [huA]; exact (hsr.alloc _).drewN 1
    have hGA : w.grownBy uA (some b) := by rw [huA]; exact grown_drewN (grown_alloc hG _) 1
    have IA : Ints uA (some ⟨wr.heap.size, 0, none⟩) [1, 5, 0, -1, 1099511627776] := by rw [huA]; exact (show Ints (wr.alloc (.cells #[.int .i64 1, .int .i64 5, .int .i64 0, .int .i64 (-1), .int .i64 1099511627776] 2)) _ _ from ints_new wr _ _)
    have zIA : b < wr.heap.size := hsr.lt
    clear huA
    refine hK.out _ _ (cell_of1' ROA) (fun hHeld => ?_)
    clear hK K
    (try simp only [Act.put, List.setIfInBounds_toArray, List.set_cons_zero, List.set_cons_succ])
    refine wpAnyH_ready (rs := [6]) (by kernel_rfl) (by simp) ?_
    refine AllReadyH.cons rfl (fun K hK => ?_) AllReadyH.nil
    go_simp
    (go_at_call 59; refine (next_any b a n cap hn (S.length : Int) (by omega) uA hsA).mono ?_)
    rintro e uB ⟨yB, rfl, y0, y1, y2, hsB, hgB⟩
    obtain ⟨k, rfl⟩ : ∃ k : Nat, yB = k := ⟨yB.toNat, by omega⟩
    have hk : k < S.length := by have := y2 (by omega); omega
    have ROB := row_g ROA hgB (by simp; omega)
    have RAB := row_g RAA hgB (by simp; omega)
    have RRB := row_g RRA hgB (by simp; omega)
    have ownB := ownA.kept hgB (.inr (by simp [Value.ownBlock]; omega))
    have hGB := grown_trans hGA hgB
    have IB := (IntsX.grown (b := b) ⟨IA, fun g' o' e => by cases e; exact zIA⟩ hgB).1
    refine hK.out _ _ (cell_of1' ROB) (fun hHeld => ?_)
    clear hK K
    (try simp only [Act.put, List.setIfInBounds_toArray, List.set_cons_zero, List.set_cons_succ])
    refine wpAnyH_ready (rs := [9]) (by kernel_rfl) (by simp) ?_
    refine AllReadyH.cons rfl (fun K hK => ?_) AllReadyH.nil
    go_simp
    (go_at_call 61; refine (pick_n b a n cap hn wr.heap.size _ 5 rfl (by omega) (by omega) (by omega) uB hsB IB).mono ?_)
    rintro e uC ⟨z, rfl, hz, hsC, hgC⟩
    have ROC := row_g ROB hgC (by simp; omega)
    have RAC := row_g RAB hgC (by simp; omega)
    have RRC := row_g RRB hgC (by simp; omega)
    have ownC := ownB.kept hgC (.inr (by simp [Value.ownBlock]; omega))
    have hGC := grown_trans hGB hgC
    refine hK.out _ _ (cell_of1' ROC) (fun hHeld => ?_)
    clear hK K
    (try simp only [Act.put, List.setIfInBounds_toArray, List.set_cons_zero, List.set_cons_succ])
    have i1 : (0 : Int) ≤ (k : Int) := by omega
    have i2 : (k : Int) < (S.length : Int) := by omega
    have hcell := ownC.cell (k := k) hk
    have hfree := ownC.free k
    refine wpAnyH_take (i := 10) (v := ?_) rfl (by kernel_rfl) (by kernel_rfl) (by kernel_rfl) (fun _ _ _ h => h) (Or.inl ⟨by rfl, ?_⟩) (by assumption) ?_
    rotate_left
    · (intro w hSw; (try dsimp only at hSw); go_simp; try (with_reducible rfl))
    (try simp only [Act.put, List.setIfInBounds_toArray, List.set_cons_zero, List.set_cons_succ])
    refine wpAnyH_ready (rs := [11]) (by kernel_rfl) (by simp) ?_
    refine AllReadyH.cons rfl (fun K hK => ?_) AllReadyH.nil
    go_simp
    have ROe := row_setO ROC (p := ⟨g, k, none⟩) (by simp; omega) (.int .i64 z)
    have RAe := row_setO RAC (p := ⟨g, k, none⟩) (by simp; omega) (.int .i64 z)
    have RRe := row_setO RRC (p := ⟨g, k, none⟩) (by simp; omega) (.int .i64 z)
    have owne := ownC.stored k z
    have hse := hsC.setO ⟨g, k, none⟩ (by simp; omega) (.int .i64 z)
    have hGe := grown_set hGC ⟨g, k, none⟩ (by simp; have := HA.out; omega) (.int .i64 z)
    refine hK.out _ _ (cell_of1' ROe) (fun hHeld => ?_)
    clear hK K
    (try simp only [Act.put, List.setIfInBounds_toArray, List.set_cons_zero, List.set_cons_succ])
    obtain ⟨we, hwe⟩ : ∃ we, we = uC.setCell ⟨g, k, none⟩ (.int .i64 z) := ⟨_, rfl⟩
    rw [← hwe] at ROe RAe RRe owne hse hGe ⊢
    have xOe := cell_of1' ROe
    have xRe := cell_of1' RRe
    have fRe := frozen_of_row we (A + 1) 0 _ _ RRe
    have zRe := row_lt RRe
    have hT : (S.set k z).length = S.length := List.length_set
    clear hwe hcell hfree
    refine wpAnyH_done (by kernel_rfl) ?_ _
    (try simp only [List.getElem_toArray, List.getElem_cons_succ, List.getElem_cons_zero, Act.put, List.setIfInBounds_toArray, List.set_cons_zero, List.set_cons_succ])
    go_wp2_with fail
    refine bodyPost_ret (v := .agg #[.slice (some ⟨g, 0, none⟩) S.length c]) (by simp [results, Tryz.results93, go_sem, xRe, fRe, zRe]) rfl ?_
    exact ⟨_, S.set k z, c, by rw [hT], (intsX_own owne (by omega)).set _ _ (fun g' o' e => by cases e; omega), by rw [hT]; exact s8, hse.setO _ (by simp; omega) _, grown_set hGe _ (by simp; have := HA.out; omega) _⟩
  have b1 : (x == 1) = false := by simpa using e1
  by_cases e2 : x = 2
  · have b2 : (x == 2) = true := by simpa using e2
    clear e0 e1 e2
    have hgO : ∀ g', (Value.slice (some ⟨g, 0, none⟩) S.length c).ownBlock = some g' → A + 2 ≤ g' ∧ g' ≠ O := fun g' e => by simp [Value.ownBlock] at e; omega
    have hSl : Hid (S.length ≤ 8) := Lib.hid s8
    go_wp2_with fail
    go_loopw [33] (fun _ wl => ∃ (T : List Int) (vS : Value), Hid (T.length ≤ 8) ∧ OwnInts wl (A + 2) vS T ∧ (∀ g', vS.ownBlock = some g' → A + 2 ≤ g' ∧ g' ≠ O) ∧ wl.heap[O]? = some (.cells #[vS] 26 (0, 0)) ∧ wl.heap[A + 1]? = some (.cells #[.slice none 0 0] 26 (0, 0)) ∧ Src wl b a n cap ∧ w.grownBy wl (some b)) (fun _ wl => 6 - lenAt wl ⟨O, 0, none⟩)
    case atStart => exact ⟨S, _, hSl, own, hgO, RO, RR, hsr, hG⟩
    case round =>
      clear own hgO RO RR RA xA xR xO fR zR hXr hsr hG
      obtain ⟨T, vS, HT, own, hvS, RO, RR, hsr, hG⟩ := hrel
      obtain ⟨aS, cS, hvs⟩ := own_shp own
      subst hvs
      have xO := cell_of1' RO
      have zO := row_lt RO
      by_cases hlt : T.length < 6
      · have i1 : (T.length : Int) < 6 := by omega
        have hl0 : lenAt wr ⟨O, 0, none⟩ = T.length := by unfold lenAt; rw [xO]
        have HL0 := Lib.hid hl0
        clear hl0
        go_wp2_with (at_builtin; refine wpList_append_int_at rfl _ _ rfl (A + 2) _ T rfl (own.alloc _) wr.heap.size 4 rfl (cell_new _ _ _) (by omega) (by have := zO; simp; omega) ?_; intro v' w6 own' hgrow hnew; obtain ⟨a6, c6, hv6⟩ := own_shp own'; rw [List.length_append, List.length_singleton] at hv6; subst hv6; have ROn := row_g (row_g RO (World.grownBy_alloc wr (.cells #[.int .i64 4] 2) none) (by simp)) hgrow (fun e => (hvS _ e.symm).2 rfl); have RRn := row_g (row_g RR (World.grownBy_alloc wr (.cells #[.int .i64 4] 2) none) (by simp)) hgrow (fun e => by have := (hvS _ e.symm).1; omega); have xO6 := cell_of1' ROn; have fO6 := frozen_of_row w6 O 0 _ _ ROn)
        have hvN : ∀ g', (Value.slice a6 (T.length + 1) c6).ownBlock = some g' → A + 2 ≤ g' ∧ g' ≠ O := fun g' hg => by
          rcases hnew with e | e
          · exact hvS g' (e.symm.trans hg)
          · rw [e] at hg
            have := Option.some.inj hg
            simp at this
            omega
        have hGn : w.grownBy w6 (some b) := grown_over (grown_alloc hG _) hgrow (fun g' hg => by have := (hvS g' hg).1; have := HA.out; omega)
        have hsn : Src w6 b a n cap := (hsr.alloc _).grownO hgrow (fun g' hg => by have := (hvS g' hg).1; omega)
        have xOn := cell_of1' (row_store1' (.slice a6 (T.length + 1) c6) ROn)
        have hl1 : lenAt (w6.setCell ⟨O, 0, none⟩ (.slice a6 (T.length + 1) c6)) ⟨O, 0, none⟩ = T.length + 1 := by unfold lenAt; rw [xOn]
        have HL1 := Lib.hid hl1
        clear hl1 xOn
        go_roundw
        case rel => exact ⟨T ++ [4], _, Lib.hid (by rw [List.length_append, List.length_singleton]; omega), own_setO own' O (fun e => (hvN _ e).2 rfl) _, hvN, row_store1' _ ROn, row_setO RRn (by simp; omega) _, hsn.setO _ (by simp; omega) _, grown_set hGn _ (by simp; have := HA.out; omega) _⟩
        case measure => rw [HL0.out, HL1.out]; omega
      · have i1 : ¬ (T.length : Int) < 6 := by omega
        have xR := cell_of1' RR
        have fR := frozen_of_row wr (A + 1) 0 _ _ RR
        have zR := row_lt RR
        go_wp2_with fail
        refine bodyPost_ret (v := .agg #[.slice aS T.length cS]) (by simp [results, Tryz.results93, go_sem, xR, fR, zR]) rfl ?_
        exact ⟨aS, T, ⟨cS, rfl⟩, (intsX_own own (by omega)).set _ _ (fun g' o' e => by have := (hvS g' (by rw [e]; rfl)).1; omega), HT.out, hsr.setO _ (by simp; omega) _, grown_set hG _ (by simp; have := HA.out; omega) _⟩
  · have b2 : (x == 2) = false := by simpa using e2
    clear e0 e1 e2
    go_wp2_with fail
    refine bodyPost_ret (v := .agg #[.slice (some ⟨g0, o0, none⟩) S.length capS]) (by simp [results, Tryz.results93, go_sem, xR, fR, zR]) rfl ?_
    exact ⟨_, S, capS, rfl, hXr.set _ _ (fun g o e => by have := hXA.out g o e; omega), s8, hsr.setO _ (by simp; omega) _, grown_set hG _ (by simp; have := HA.out; omega) _⟩

end Go.Proofs.YtpmfedllbiblbaaGreat
