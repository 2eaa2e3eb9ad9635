/-
  Merged texts: Drw, Drw2, Drw3, Drw5, Drw6, Drw7. Never import this beside one of them. By an AI agent.
-/
import Derived.Test.YtfpcdffahjoejaaSrc
import Derived.Test.YtfpcdffahjoejaaSpace
import Derived.Test.YtfpcdffahjoejaaAppendAt
import Derived.Test.YtfpcdffahjoejaaMark
import Derived.Test.YtfpcdffahjoejaaPut
import Derived.Deep.RegionHeld3
import Derived.Test.YtfpcdffahjoejaaDigits
import Derived.Test.YtfpcdffahjoejaaWords
import Derived.Test.YtfpcdffahjoejaaDist
import Derived.Test.YtfpcdffahjoejaaFam
import Derived.Laws.AppendOwnNone
import Derived.Lib.MinMax
namespace Go.Proofs.Ytfpcdffahjoejaa
open Go.RowKit Cv
set_option linter.unusedVariables false
set_option linter.unusedSimpArgs false
set_option maxRecDepth 100000

theorem Src.grownO {w w' : World} {r : Option Nat} {b : Nat} {a : Option Addr} {n cap : Nat} (h : Src w b a n cap) (hg : w.grownBy w' r) (hr : ∀ g, r = some g → b < g) : Src w' b a n cap :=
  h.below ((Below.refl (b + 1) w).grown hg h.lt (fun j hj => hr j hj)) (Nat.lt_succ_self b)
theorem Src.setO {w : World} {b : Nat} {a : Option Addr} {n cap : Nat} (h : Src w b a n cap) (p : Addr) (hp : b < p.block) (u : Value) : Src (w.setCell p u) b a n cap :=
  h.below ((Below.refl (b + 1) w).setCell hp u) (Nat.lt_succ_self b)
theorem grown_over {w w1 w2 : World} {r r' : Option Nat} (h : w.grownBy w1 r) (hg : w1.grownBy w2 r') (hr : ∀ g, r' = some g → w.heap.size ≤ g) : w.grownBy w2 r :=
  ⟨hg.os.trans h.os, hg.tape.trans h.tape, hg.output.trans h.output, Nat.le_trans h.size hg.size, fun i hi hir => (hg.block i (Nat.lt_of_lt_of_le hi h.size) (fun e => by have := hr i e.symm; omega)).trans (h.block i hi hir)⟩
theorem grown_set {w w1 : World} {r : Option Nat} (h : w.grownBy w1 r) (p : Addr) (hp : w.heap.size ≤ p.block) (u : Value) : w.grownBy (w1.setCell p u) r :=
  ⟨h.os, h.tape, h.output, by simpa using h.size, fun i hi hir => (Below.heap_setCell _ _ _ _ (by omega)).trans (h.block i hi hir)⟩
theorem row_g {w w' : World} {O : Nat} {o : Obj} {r : Option Nat} (h : w.heap[O]? = some o) (hg : w.grownBy w' r) (hne : some O ≠ r) : w'.heap[O]? = some o := by
  have l := (Array.getElem?_eq_some_iff.1 h).1
  rw [hg.block O l hne]; exact h
theorem row_lt {w : World} {O : Nat} {o : Obj} (h : w.heap[O]? = some o) : O < w.heap.size := (Array.getElem?_eq_some_iff.1 h).1
theorem cell_of1' {w : World} {b : Nat} {v : Value} {t : TypeId} (h : w.heap[b]? = some (.cells #[v] t (0, 0))) : w.cell? ⟨b, 0, none⟩ = some v := by
  rw [cell_of_row w b 0 _ _ _ h]; rfl
theorem row_store1' {w : World} {b : Nat} {v : Value} {t : TypeId} (u : Value) (h : w.heap[b]? = some (.cells #[v] t (0, 0))) : (w.setCell ⟨b, 0, none⟩ u).heap[b]? = some (.cells #[u] t (0, 0)) := by
  rw [setCell_eq_setRow w b 0 _ _ _ u h]
  exact setRow_heap w b _ _ _ _ h
theorem row_setO {w : World} {O : Nat} {o : Obj} {p : Addr} (h : w.heap[O]? = some o) (hne : O ≠ p.block) (u : Value) : (w.setCell p u).heap[O]? = some o := (Below.heap_setCell _ _ _ _ hne).trans h
theorem own_setO {w : World} {base : Nat} {v : Value} {L : List Int} (h : OwnInts w base v L) (p : Nat) (hp : v.ownBlock ≠ some p) (u : Value) : OwnInts (w.setCell ⟨p, 0, none⟩ u) base v L :=
  World.ownsRow.kept h (grown_setCell (World.grownBy.refl w (some p)) 0 u) (.inr hp)

theorem own_shp {w : World} {base : Nat} {v : Value} {L : List Int} (h : OwnInts w base v L) : ∃ a c, v = .slice a L.length c := by
  obtain ⟨x, y, z, _⟩ := h.ints; exact ⟨x, y, z⟩
theorem prodTo_snoc (T : List Int) (q : Int) : prodTo (T ++ [q]) (T.length + 1) = prodTo T T.length * q := by
  have h : ∀ k, k ≤ T.length → prodTo (T ++ [q]) k = prodTo T k := by
    intro k
    induction k with
    | zero => intro _; rfl
    | succ k ih =>
      intro hk
      rw [prodTo, prodTo, ih (by omega)]
      congr 1
      simp only [gi, List.getD]
      rw [List.getElem?_append_left (by omega)]
  rw [prodTo, h _ (Nat.le_refl _)]
  congr 1
  simp [gi]
theorem bd_snoc {T : List Int} {q : Int} (h : ∀ i, i < T.length → 2 ≤ gi T i ∧ gi T i ≤ 4) (hq : 2 ≤ q ∧ q ≤ 4) : ∀ i, i < (T ++ [q]).length → 2 ≤ gi (T ++ [q]) i ∧ gi (T ++ [q]) i ≤ 4 := by
  intro i hi
  rw [List.length_append, List.length_singleton] at hi
  by_cases e : i < T.length
  · have := h i e
    simp only [gi, List.getD] at this ⊢
    rw [List.getElem?_append_left e]; exact this
  · rw [show i = T.length by omega]
    simp [gi]; exact hq
theorem sp_two : Sp [2] := (isSp_iff _).1 (by decide)

set_option maxHeartbeats 2000000 in
theorem drawOf_any (b : Nat) (a : Option Addr) (n cap : Nat) (hn : n ≤ 4096) (M : Int) (hM : 8 ≤ M ∧ M ≤ 256) (w : World) (hs : Src w b a n cap) :
    Calls Try.prog 86 #[.pointer (some ⟨b, 0, none⟩), .int .i64 M] w fun e w' => ∃ v S, e = .returned (.agg #[v]) ∧ OwnInts w' w.heap.size v S ∧ Sp S ∧ Src w' b a n cap ∧ w.grownBy w' (some b) := by
  have hbl := hs.lt
  obtain ⟨A, hA⟩ : ∃ A, A = w.heap.size := ⟨_, rfl⟩
  obtain ⟨W, hW⟩ : ∃ W, W = w.alloc (.cells #[.slice none 0 0] 26) := ⟨_, rfl⟩
  have hWs : W.heap.size = A + 1 := by rw [hW, hA]; simp
  have HRA : Hid (W.heap[A]? = some (.cells #[.slice none 0 0] 26 (0, 0))) := Lib.hid (by rw [hW, hA]; exact heap_alloc_new _ _)
  have hsW : Src W b a n cap := by rw [hW]; exact hs.alloc _
  have hGW : w.grownBy W (some b) := by rw [hW]; exact grown_alloc (World.grownBy.refl w _) _
  have HW := Lib.hid hW
  have HA := Lib.hid hA
  have HWs := Lib.hid hWs
  have oW := own_empty W W.heap.size (Nat.le_refl _) rfl
  obtain ⟨W2, hW2⟩ : ∃ W2, W2 = (W.alloc (.cells #[] 2)).alloc (.cells #[.int .i64 0, .int .i64 2, .int .i64 2, .int .i64 3, .int .i64 3] 2) := ⟨_, rfl⟩
  have hW2s : W2.heap.size = A + 3 := by rw [hW2]; simp; omega
  have hsW2 : Src W2 b a n cap := by rw [hW2]; exact (hsW.alloc _).alloc _
  have hGW2 : w.grownBy W2 (some b) := by rw [hW2]; exact grown_alloc (grown_alloc hGW _) _
  have RA2 : W2.heap[A]? = some (.cells #[.slice none 0 0] 26 (0, 0)) := by
    rw [hW2]; exact row_g (row_g HRA.out (World.grownBy_alloc W _ none) (by simp)) (World.grownBy_alloc _ _ none) (by simp)
  have oW2 : OwnInts W2 (A + 1) (.slice (some ⟨A + 1, 0, none⟩) 0 0) [] := by rw [hW2, ← hWs]; exact oW.alloc _
  have I2 : Ints W2 (some ⟨A + 2, 0, none⟩) [0, 2, 2, 3, 3] := by
    have e : (W.alloc (.cells #[] 2)).heap.size = A + 2 := by simp; omega
    have := ints_new (W.alloc (.cells #[] 2)) [0, 2, 2, 3, 3] 2
    rw [e] at this
    rw [hW2]; exact this
  have HW2 := Lib.hid hW2
  have hp := pick_n b a n cap hn (A + 2) _ 5 rfl (by omega) (by omega) (by omega) W2 hsW2 I2
  have hAb : b < A := by omega
  clear hsW hGW oW I2 hs hW hW2 hA hWs hbl hsW2
  go_enter Try.func86, Try.ntmps86
  go_wp2_with fail
  rw [← HW.out, ← HW2.out, ← HA.out]
  refine hp.mono ?_
  rintro e w1 ⟨kd, rfl, hkd, hs1, hg1⟩
  have HKD : Hid (kd = 0 ∨ kd = 2 ∨ kd = 3) := Lib.hid (by simp only [List.mem_cons, List.not_mem_nil, or_false] at hkd; omega)
  have hG1 := grown_trans hGW2 hg1
  have RA1 := row_g RA2 hg1 (by simp; omega)
  have o1 := oW2.kept hg1 (.inr (by simp [Value.ownBlock]; omega))
  have z1 : A + 3 ≤ w1.heap.size := by have := hg1.size; omega
  clear hp hkd hg1 oW2 RA2 hGW2 hW2s
  obtain ⟨O, hO⟩ : ∃ O, O = w1.heap.size := ⟨_, rfl⟩
  obtain ⟨W3, hW3⟩ : ∃ W3, W3 = w1.alloc (.cells #[.slice (some ⟨A + 1, 0, none⟩) 0 0] 26) := ⟨_, rfl⟩
  have RO3 : W3.heap[O]? = some (.cells #[.slice (some ⟨A + 1, 0, none⟩) 0 0] 26 (0, 0)) := by rw [hW3, hO]; exact heap_alloc_new _ _
  have RA3 : W3.heap[A]? = some (.cells #[.slice none 0 0] 26 (0, 0)) := by rw [hW3]; exact row_g RA1 (World.grownBy_alloc w1 _ none) (by simp)
  have o3 : OwnInts W3 (A + 1) (.slice (some ⟨A + 1, 0, none⟩) 0 0) [] := by rw [hW3]; exact o1.alloc _
  have hs3 : Src W3 b a n cap := by rw [hW3]; exact hs1.alloc _
  have hG3 : w.grownBy W3 (some b) := by rw [hW3]; exact grown_alloc hG1 _
  have hnx := next_any b a n cap hn 8 (by omega) W3 hs3
  rw [← hO] at z1
  have HO := Lib.hid hO
  have HW3 := Lib.hid hW3
  clear hO hW3 RA1 o1 hs1 hG1 hs3
  go_wp2_with fail
  rw [← HW3.out]
  refine hnx.mono ?_
  rintro e w2 ⟨x, rfl, x0, x1, x2, hs2, hg2⟩
  have hG2 := grown_trans hG3 hg2
  have RA2 := row_g RA3 hg2 (by simp; omega)
  have RO2 := row_g RO3 hg2 (by simp; omega)
  have o2 := o3.kept hg2 (.inr (by simp [Value.ownBlock]; omega))
  obtain ⟨k0, rfl⟩ : ∃ k0 : Nat, x = k0 := ⟨x.toNat, by omega⟩
  have hk0 : k0 < 8 := by have := x2 (by omega); omega
  clear hnx hg2 RA3 RO3 o3 hG3 x0 x1 x2
  go_wp2_with fail
  rw [← HO.out]
  go_loopw [7] (fun kv wr => ∃ (k : Nat) (T : List Int) (vS : Value), k ≤ 8 ∧ kv = .int .i64 (k : Int) ∧ Hid ((∀ i, i < T.length → 2 ≤ gi T i ∧ gi T i ≤ 4) ∧ prodTo T T.length ≤ M ∧ T.length + k ≤ 8) ∧ OwnInts wr (A + 1) vS T ∧ (∀ g, vS.ownBlock = some g → g = A + 1 ∨ O < g) ∧ wr.heap[O]? = some (.cells #[vS] 26 (0, 0)) ∧ wr.heap[A]? = some (.cells #[.slice none 0 0] 26 (0, 0)) ∧ Src wr b a n cap ∧ w.grownBy wr (some b)) (fun kv _ => (intOf kv).toNat)
  case atStart => exact ⟨k0 + 1, [], _, by omega, by go_num, Lib.hid ⟨fun i h => by simp at h, by simp [prodTo]; omega, by simp; omega⟩, o2, fun g hg => .inl (by simp [Value.ownBlock] at hg; omega), RO2, RA2, hs2, hG2⟩
  case round =>
    clear o2 RO2 RA2 hs2 hG2 hk0
    obtain ⟨k, T, vS, hk, rfl, HT, own, hvS, RO, RA, hsr, hG⟩ := hrel
    by_cases hkp : 0 < k
    · have i1 : (0 : Int) < (k : Int) := by omega
      by_cases hkd : kd = 0
      · have hbe : (kd == 0) = true := by simpa using hkd
        clear hkd
        obtain ⟨w4, hw4⟩ : ∃ w4, w4 = wr.alloc (.cells #[.int .i64 2, .int .i64 2, .int .i64 3, .int .i64 4] 2) := ⟨_, rfl⟩
        have I4 : Ints w4 (some ⟨wr.heap.size, 0, none⟩) [2, 2, 3, 4] := by rw [hw4]; exact ints_new wr _ _
        have hp := pick_n b a n cap hn wr.heap.size _ 4 rfl (by omega) (by omega) (by have := hsr.lt; omega) w4 (by rw [hw4]; exact hsr.alloc _) I4
        have hg4 := World.grownBy_alloc wr (.cells #[.int .i64 2, .int .i64 2, .int .i64 3, .int .i64 4] 2) none
        rw [← hw4] at hg4
        have own4 : OwnInts w4 (A + 1) vS T := by rw [hw4]; exact own.alloc _
        have RO4 := row_g RO hg4 (by simp)
        have RA4 := row_g RA hg4 (by simp)
        have hG4 : w.grownBy w4 (some b) := by rw [hw4]; exact grown_alloc hG _
        have HW4 := Lib.hid hw4
        clear hw4 I4 hg4
        go_wp2_with fail
        rw [← HW4.out]
        refine hp.mono ?_
        rintro e w7 ⟨q, rfl, hqm, hs7, hg7⟩
        have hq : 2 ≤ q ∧ q ≤ 4 := by simp only [List.mem_cons, List.not_mem_nil, or_false] at hqm; omega
        have own7 := own4.kept hg7 (.inr (fun e => by rcases hvS _ e with h | h <;> omega))
        have RO7 := row_g RO4 hg7 (by simp; omega)
        have RA7 := row_g RA4 hg7 (by simp; omega)
        have hG7 := grown_trans hG4 hg7
        clear hp hqm hg7 own4 RO4 RA4 hG4
        obtain ⟨aS, cS, hvs⟩ := own7.shape
        have hXc := cell_of1' RO7
        obtain ⟨x0, x1, HIv, hI⟩ := own7.ints
        have hN := l01N_any aS T cS w7 (by have := HT.out; omega) HT.out.1 (by rw [hvs] at HIv; simp only [Value.slice.injEq] at HIv; rw [HIv.1]; exact hI)
        rw [← hvs] at hN
        have HVS := Lib.hid hvs
        obtain ⟨P, hP⟩ : ∃ P, P = prodTo T T.length := ⟨_, rfl⟩
        have hP1 : 0 ≤ P ∧ P ≤ 256 := by have h1 := HT.out.2.1; have h2 := prodTo_le T T.length HT.out.1 (by have := HT.out.2.2; omega); omega
        have hPq : 0 ≤ P * q ∧ P * q ≤ 1024 := ⟨Int.mul_nonneg hP1.1 (by omega), by have := Int.mul_le_mul hP1.2 hq.2 (by omega) (by omega); omega⟩
        obtain ⟨m1, m2⟩ := hPq
        rw [← hP] at hN
        have HP := Lib.hid hP
        clear HIv hI hvs hP
        by_cases hov : P * q ≤ M
        · have HOV := Lib.hid hov
          go_wp2_with fail
          refine hN.mono ?_
          rintro e w5 ⟨rfl, hb5⟩
          have g5 := grown_of_below hb5 none
          have RO5 := row_g RO7 g5 (by simp)
          have RA5 := row_g RA7 g5 (by simp)
          have own5 := own7.below hb5
          have hs5 := hs7.below hb5 hs7.lt
          have hG5 := grown_trans hG7 (grown_of_below hb5 _)
          have xO5 := cell_of1' RO5
          clear g5 hb5 hN hXc
          go_wp2_with (at_builtin; refine wpList_append_int_at rfl _ _ rfl (A + 1) vS T rfl (own5.alloc _) w5.heap.size q rfl (cell_new _ _ _) (by have := HT.out.2.2; omega) (by have := row_lt RO5; simp; omega) ?_; intro v' w6 own' hgrow hnew; obtain ⟨a6, c6, hv6⟩ := own_shp own'; rw [List.length_append, List.length_singleton] at hv6; subst hv6; have ROn := row_g (row_g RO5 (World.grownBy_alloc w5 (.cells #[.int .i64 q] 2) none) (by simp)) hgrow (fun e => by rcases hvS _ e.symm with h | h <;> omega); have RAn := row_g (row_g RA5 (World.grownBy_alloc w5 (.cells #[.int .i64 q] 2) none) (by simp)) hgrow (fun e => by rcases hvS _ e.symm with h | h <;> omega); have xO := cell_of1' ROn; have fO := frozen_of_row w6 O 0 _ _ ROn; have xA := cell_of1' RAn; have fA := frozen_of_row w6 A 0 _ _ RAn)
          have hvN : ∀ g, (Value.slice a6 (T.length + 1) c6).ownBlock = some g → g = A + 1 ∨ O < g := fun g hg => by
            rcases hnew with e | e
            · exact hvS g (e.symm.trans hg)
            · rw [e] at hg
              have := Option.some.inj hg
              have := row_lt RO5
              simp at *
              omega
          have hGn : w.grownBy w6 (some b) := grown_over (grown_alloc hG5 _) hgrow (fun g hg => by rcases hvS g hg with h | h <;> (have := HA.out; omega))
          have hsn : Src w6 b a n cap := (hs5.alloc _).grownO hgrow (fun g hg => by rcases hvS g hg with h | h <;> omega)
          have zO := row_lt ROn
          have hps := prodTo_snoc T q
          have HTn : Hid ((∀ i, i < (T ++ [q]).length → 2 ≤ gi (T ++ [q]) i ∧ gi (T ++ [q]) i ≤ 4) ∧ prodTo (T ++ [q]) (T ++ [q]).length ≤ M ∧ (T ++ [q]).length + (k - 1) ≤ 8) := Lib.hid ⟨bd_snoc HT.out.1 hq, by rw [List.length_append, List.length_singleton, hps, ← HP.out]; exact HOV.out, by rw [List.length_append, List.length_singleton]; have := HT.out.2.2; omega⟩
          go_roundw
          case rel => exact ⟨k - 1, T ++ [q], _, by omega, (by rw [show ((k - 1 : Nat) : Int) = (k : Int) - 1 by omega]), HTn, own_setO own' O (fun e => by rcases hvN _ e with h | h <;> omega) _, hvN, row_store1' _ ROn, row_setO RAn (by simp; omega) _, hsn.setO _ (by simp; omega) _, grown_set hGn _ (by simp; have := HA.out; omega) _⟩
          case measure => simp [intOf]; omega
        · have HOV := Lib.hid hov
          go_wp2_with fail
          refine hN.mono ?_
          rintro e w5 ⟨rfl, hb5⟩
          have g5 := grown_of_below hb5 none
          have RO5 := row_g RO7 g5 (by simp)
          have RA5 := row_g RA7 g5 (by simp)
          have own5 := own7.below hb5
          have hs5 := hs7.below hb5 hs7.lt
          have hG5 := grown_trans hG7 (grown_of_below hb5 _)
          clear g5 hb5 hN hXc
          have xOt := cell_of1' RO5
          have xAt := cell_of1' RA5
          have fAt := frozen_of_row w5 A 0 _ _ RA5
          have zAt := row_lt RA5
          have hAO : ¬ A = O := by omega
          have hOA : ¬ O = A := by omega
          have hSh := HVS.out
          by_cases hTn : T.length = 0
          · have hTe : T = [] := List.eq_nil_of_length_eq_zero hTn
            have HTe := Lib.hid hTe
            have hSz : vS = .slice aS 0 cS := by rw [hSh, hTn]
            have HSz := Lib.hid hSz
            rw [hSz] at xOt
            clear hTe hTn hSh hSz
            go_wp2_with (at_builtin; refine wpList_append_int_at rfl _ _ rfl (A + 1) vS T (by exact HSz.out.symm) (own5.alloc _) w5.heap.size 2 rfl (cell_new _ _ _) (by have := HT.out.2.2; omega) (by have := row_lt RO5; simp; omega) ?_; intro v' w6 own' hgrow hnew; obtain ⟨a6, c6, hv6⟩ := own_shp own'; rw [List.length_append, List.length_singleton] at hv6; subst hv6; have ROn := row_g (row_g RO5 (World.grownBy_alloc w5 (.cells #[.int .i64 2] 2) none) (by simp)) hgrow (fun e => by rcases hvS _ e.symm with h | h <;> omega); have RAn := row_g (row_g RA5 (World.grownBy_alloc w5 (.cells #[.int .i64 2] 2) none) (by simp)) hgrow (fun e => by rcases hvS _ e.symm with h | h <;> omega); have xO := cell_of1' ROn; have fO := frozen_of_row w6 O 0 _ _ ROn; have xA := cell_of1' RAn; have fA := frozen_of_row w6 A 0 _ _ RAn)
            have hvN : ∀ g, (Value.slice a6 (T.length + 1) c6).ownBlock = some g → g = A + 1 ∨ O < g := fun g hg => by
              rcases hnew with e | e
              · exact hvS g (e.symm.trans hg)
              · rw [e] at hg
                have := Option.some.inj hg
                have := row_lt RO5
                simp at *
                omega
            have hGn : w.grownBy w6 (some b) := grown_over (grown_alloc hG5 _) hgrow (fun g hg => by rcases hvS g hg with h | h <;> (have := HA.out; omega))
            have hsn : Src w6 b a n cap := (hs5.alloc _).grownO hgrow (fun g hg => by rcases hvS g hg with h | h <;> omega)
            have zO := row_lt ROn
            refine bodyPost_ret (v := .agg #[.slice a6 (T.length + 1) c6]) (by simp [results, Try.results86, go_sem, xO, fO, xA, fA, zO, hAO, hOA]) rfl ?_
            exact ⟨_, T ++ [2], rfl, (own_setO (own_setO own' O (fun e => by rcases hvN _ e with h | h <;> omega) _) A (fun e => by rcases hvN _ e with h | h <;> omega) _).rebase (by have := HA.out; omega), by rw [HTe.out]; exact sp_two, (hsn.setO _ (by simp; omega) _).setO _ (by simp; omega) _, grown_set (grown_set hGn _ (by simp; have := HA.out; omega) _) _ (by simp; have := HA.out; omega) _⟩
          · have HTn := Lib.hid hTn
            have hne : ((T.length : Int) == 0) = false := by simpa using hTn
            rw [hSh] at xOt
            clear hSh hTn
            go_wp2_with fail
            refine bodyPost_ret (v := .agg #[.slice aS T.length cS]) (by simp [results, Try.results86, go_sem, xAt, fAt, zAt]) rfl ?_
            exact ⟨_, T, rfl, (own_setO (by rw [← HVS.out]; exact own5) A (fun e => by rcases hvS _ (by rw [HVS.out]; exact e) with h | h <;> omega) _).rebase (by have := HA.out; omega), ⟨by have := HTn.out; omega, by have := HT.out.2.2; omega, HT.out.1, by have := HT.out.2.1; omega⟩, hs5.setO _ (by simp; omega) _, grown_set hG5 _ (by simp; have := HA.out; omega) _⟩
      · have hbe : (kd == 0) = false := by simpa using hkd
        have hq : 2 ≤ kd ∧ kd ≤ 4 := by have := HKD.out; omega
        obtain ⟨q, hqq⟩ : ∃ q, q = kd := ⟨_, rfl⟩
        obtain ⟨aS, cS, hvs⟩ := own.shape
        have hXc := cell_of1' RO
        obtain ⟨x0, x1, HIv, hI⟩ := own.ints
        have hN := l01N_any aS T cS wr (by have := HT.out; omega) HT.out.1 (by rw [hvs] at HIv; simp only [Value.slice.injEq] at HIv; rw [HIv.1]; exact hI)
        rw [← hvs] at hN
        have HVS := Lib.hid hvs
        obtain ⟨P, hP⟩ : ∃ P, P = prodTo T T.length := ⟨_, rfl⟩
        have hP1 : 0 ≤ P ∧ P ≤ 256 := by have h1 := HT.out.2.1; have h2 := prodTo_le T T.length HT.out.1 (by have := HT.out.2.2; omega); omega
        have hPq : 0 ≤ P * kd ∧ P * kd ≤ 1024 := ⟨Int.mul_nonneg hP1.1 (by omega), by have := Int.mul_le_mul hP1.2 hq.2 (by omega) (by omega); omega⟩
        obtain ⟨m1, m2⟩ := hPq
        rw [← hP] at hN
        have HP := Lib.hid hP
        clear HIv hI hvs hP
        by_cases hov : P * kd ≤ M
        · have HOV := Lib.hid hov
          go_wp2_with fail
          refine hN.mono ?_
          rintro e w5 ⟨rfl, hb5⟩
          have g5 := grown_of_below hb5 none
          have RO5 := row_g RO g5 (by simp)
          have RA5 := row_g RA g5 (by simp)
          have own5 := own.below hb5
          have hs5 := hsr.below hb5 hsr.lt
          have hG5 := grown_trans hG (grown_of_below hb5 _)
          have xO5 := cell_of1' RO5
          clear g5 hb5 hN hXc
          go_wp2_with (at_builtin; refine wpList_append_int_at rfl _ _ rfl (A + 1) vS T rfl (own5.alloc _) w5.heap.size kd rfl (cell_new _ _ _) (by have := HT.out.2.2; omega) (by have := row_lt RO5; simp; omega) ?_; intro v' w6 own' hgrow hnew; obtain ⟨a6, c6, hv6⟩ := own_shp own'; rw [List.length_append, List.length_singleton] at hv6; subst hv6; have ROn := row_g (row_g RO5 (World.grownBy_alloc w5 (.cells #[.int .i64 kd] 2) none) (by simp)) hgrow (fun e => by rcases hvS _ e.symm with h | h <;> omega); have RAn := row_g (row_g RA5 (World.grownBy_alloc w5 (.cells #[.int .i64 kd] 2) none) (by simp)) hgrow (fun e => by rcases hvS _ e.symm with h | h <;> omega); have xO := cell_of1' ROn; have fO := frozen_of_row w6 O 0 _ _ ROn; have xA := cell_of1' RAn; have fA := frozen_of_row w6 A 0 _ _ RAn)
          have hvN : ∀ g, (Value.slice a6 (T.length + 1) c6).ownBlock = some g → g = A + 1 ∨ O < g := fun g hg => by
            rcases hnew with e | e
            · exact hvS g (e.symm.trans hg)
            · rw [e] at hg
              have := Option.some.inj hg
              have := row_lt RO5
              simp at *
              omega
          have hGn : w.grownBy w6 (some b) := grown_over (grown_alloc hG5 _) hgrow (fun g hg => by rcases hvS g hg with h | h <;> (have := HA.out; omega))
          have hsn : Src w6 b a n cap := (hs5.alloc _).grownO hgrow (fun g hg => by rcases hvS g hg with h | h <;> omega)
          have zO := row_lt ROn
          have hps := prodTo_snoc T kd
          have HTn : Hid ((∀ i, i < (T ++ [kd]).length → 2 ≤ gi (T ++ [kd]) i ∧ gi (T ++ [kd]) i ≤ 4) ∧ prodTo (T ++ [kd]) (T ++ [kd]).length ≤ M ∧ (T ++ [kd]).length + (k - 1) ≤ 8) := Lib.hid ⟨bd_snoc HT.out.1 hq, by rw [List.length_append, List.length_singleton, hps, ← HP.out]; exact HOV.out, by rw [List.length_append, List.length_singleton]; have := HT.out.2.2; omega⟩
          go_roundw
          case rel => exact ⟨k - 1, T ++ [kd], _, by omega, (by rw [show ((k - 1 : Nat) : Int) = (k : Int) - 1 by omega]), HTn, own_setO own' O (fun e => by rcases hvN _ e with h | h <;> omega) _, hvN, row_store1' _ ROn, row_setO RAn (by simp; omega) _, hsn.setO _ (by simp; omega) _, grown_set hGn _ (by simp; have := HA.out; omega) _⟩
          case measure => simp [intOf]; omega
        · have HOV := Lib.hid hov
          go_wp2_with fail
          refine hN.mono ?_
          rintro e w5 ⟨rfl, hb5⟩
          have g5 := grown_of_below hb5 none
          have RO5 := row_g RO g5 (by simp)
          have RA5 := row_g RA g5 (by simp)
          have own5 := own.below hb5
          have hs5 := hsr.below hb5 hsr.lt
          have hG5 := grown_trans hG (grown_of_below hb5 _)
          clear g5 hb5 hN hXc
          have xOt := cell_of1' RO5
          have xAt := cell_of1' RA5
          have fAt := frozen_of_row w5 A 0 _ _ RA5
          have zAt := row_lt RA5
          have hAO : ¬ A = O := by omega
          have hOA : ¬ O = A := by omega
          have hSh := HVS.out
          by_cases hTn : T.length = 0
          · have hTe : T = [] := List.eq_nil_of_length_eq_zero hTn
            have HTe := Lib.hid hTe
            have hSz : vS = .slice aS 0 cS := by rw [hSh, hTn]
            have HSz := Lib.hid hSz
            rw [hSz] at xOt
            clear hTe hTn hSh hSz
            go_wp2_with (at_builtin; refine wpList_append_int_at rfl _ _ rfl (A + 1) vS T (by exact HSz.out.symm) (own5.alloc _) w5.heap.size 2 rfl (cell_new _ _ _) (by have := HT.out.2.2; omega) (by have := row_lt RO5; simp; omega) ?_; intro v' w6 own' hgrow hnew; obtain ⟨a6, c6, hv6⟩ := own_shp own'; rw [List.length_append, List.length_singleton] at hv6; subst hv6; have ROn := row_g (row_g RO5 (World.grownBy_alloc w5 (.cells #[.int .i64 2] 2) none) (by simp)) hgrow (fun e => by rcases hvS _ e.symm with h | h <;> omega); have RAn := row_g (row_g RA5 (World.grownBy_alloc w5 (.cells #[.int .i64 2] 2) none) (by simp)) hgrow (fun e => by rcases hvS _ e.symm with h | h <;> omega); have xO := cell_of1' ROn; have fO := frozen_of_row w6 O 0 _ _ ROn; have xA := cell_of1' RAn; have fA := frozen_of_row w6 A 0 _ _ RAn)
            have hvN : ∀ g, (Value.slice a6 (T.length + 1) c6).ownBlock = some g → g = A + 1 ∨ O < g := fun g hg => by
              rcases hnew with e | e
              · exact hvS g (e.symm.trans hg)
              · rw [e] at hg
                have := Option.some.inj hg
                have := row_lt RO5
                simp at *
                omega
            have hGn : w.grownBy w6 (some b) := grown_over (grown_alloc hG5 _) hgrow (fun g hg => by rcases hvS g hg with h | h <;> (have := HA.out; omega))
            have hsn : Src w6 b a n cap := (hs5.alloc _).grownO hgrow (fun g hg => by rcases hvS g hg with h | h <;> omega)
            have zO := row_lt ROn
            refine bodyPost_ret (v := .agg #[.slice a6 (T.length + 1) c6]) (by simp [results, Try.results86, go_sem, xO, fO, xA, fA, zO, hAO, hOA]) rfl ?_
            exact ⟨_, T ++ [2], rfl, (own_setO (own_setO own' O (fun e => by rcases hvN _ e with h | h <;> omega) _) A (fun e => by rcases hvN _ e with h | h <;> omega) _).rebase (by have := HA.out; omega), by rw [HTe.out]; exact sp_two, (hsn.setO _ (by simp; omega) _).setO _ (by simp; omega) _, grown_set (grown_set hGn _ (by simp; have := HA.out; omega) _) _ (by simp; have := HA.out; omega) _⟩
          · have HTn := Lib.hid hTn
            have hne : ((T.length : Int) == 0) = false := by simpa using hTn
            rw [hSh] at xOt
            clear hSh hTn
            go_wp2_with fail
            refine bodyPost_ret (v := .agg #[.slice aS T.length cS]) (by simp [results, Try.results86, go_sem, xAt, fAt, zAt]) rfl ?_
            exact ⟨_, T, rfl, (own_setO (by rw [← HVS.out]; exact own5) A (fun e => by rcases hvS _ (by rw [HVS.out]; exact e) with h | h <;> omega) _).rebase (by have := HA.out; omega), ⟨by have := HTn.out; omega, by have := HT.out.2.2; omega, HT.out.1, by have := HT.out.2.1; omega⟩, hs5.setO _ (by simp; omega) _, grown_set hG5 _ (by simp; have := HA.out; omega) _⟩
    · obtain rfl : k = 0 := by omega
      obtain ⟨aS, cS, hvs⟩ := own.shape
      have HVS := Lib.hid hvs
      have hq : True := trivial
      clear hvs
      have xOt := cell_of1' RO
      have xAt := cell_of1' RA
      have fAt := frozen_of_row wr A 0 _ _ RA
      have zAt := row_lt RA
      have hAO : ¬ A = O := by omega
      have hOA : ¬ O = A := by omega
      have hSh := HVS.out
      by_cases hTn : T.length = 0
      · have hTe : T = [] := List.eq_nil_of_length_eq_zero hTn
        have HTe := Lib.hid hTe
        have hSz : vS = .slice aS 0 cS := by rw [hSh, hTn]
        have HSz := Lib.hid hSz
        rw [hSz] at xOt
        clear hTe hTn hSh hSz
        go_wp2_with (at_builtin; refine wpList_append_int_at rfl _ _ rfl (A + 1) vS T (by exact HSz.out.symm) (own.alloc _) wr.heap.size 2 rfl (cell_new _ _ _) (by have := HT.out.2.2; omega) (by have := row_lt RO; simp; omega) ?_; intro v' w6 own' hgrow hnew; obtain ⟨a6, c6, hv6⟩ := own_shp own'; rw [List.length_append, List.length_singleton] at hv6; subst hv6; have ROn := row_g (row_g RO (World.grownBy_alloc wr (.cells #[.int .i64 2] 2) none) (by simp)) hgrow (fun e => by rcases hvS _ e.symm with h | h <;> omega); have RAn := row_g (row_g RA (World.grownBy_alloc wr (.cells #[.int .i64 2] 2) none) (by simp)) hgrow (fun e => by rcases hvS _ e.symm with h | h <;> omega); have xO := cell_of1' ROn; have fO := frozen_of_row w6 O 0 _ _ ROn; have xA := cell_of1' RAn; have fA := frozen_of_row w6 A 0 _ _ RAn)
        have hvN : ∀ g, (Value.slice a6 (T.length + 1) c6).ownBlock = some g → g = A + 1 ∨ O < g := fun g hg => by
          rcases hnew with e | e
          · exact hvS g (e.symm.trans hg)
          · rw [e] at hg
            have := Option.some.inj hg
            have := row_lt RO
            simp at *
            omega
        have hGn : w.grownBy w6 (some b) := grown_over (grown_alloc hG _) hgrow (fun g hg => by rcases hvS g hg with h | h <;> (have := HA.out; omega))
        have hsn : Src w6 b a n cap := (hsr.alloc _).grownO hgrow (fun g hg => by rcases hvS g hg with h | h <;> omega)
        have zO := row_lt ROn
        refine bodyPost_ret (v := .agg #[.slice a6 (T.length + 1) c6]) (by simp [results, Try.results86, go_sem, xO, fO, xA, fA, zO, hAO, hOA]) rfl ?_
        exact ⟨_, T ++ [2], rfl, (own_setO (own_setO own' O (fun e => by rcases hvN _ e with h | h <;> omega) _) A (fun e => by rcases hvN _ e with h | h <;> omega) _).rebase (by have := HA.out; omega), by rw [HTe.out]; exact sp_two, (hsn.setO _ (by simp; omega) _).setO _ (by simp; omega) _, grown_set (grown_set hGn _ (by simp; have := HA.out; omega) _) _ (by simp; have := HA.out; omega) _⟩
      · have HTn := Lib.hid hTn
        have hne : ((T.length : Int) == 0) = false := by simpa using hTn
        rw [hSh] at xOt
        clear hSh hTn
        go_wp2_with fail
        refine bodyPost_ret (v := .agg #[.slice aS T.length cS]) (by simp [results, Try.results86, go_sem, xAt, fAt, zAt]) rfl ?_
        exact ⟨_, T, rfl, (own_setO (by rw [← HVS.out]; exact own) A (fun e => by rcases hvS _ (by rw [HVS.out]; exact e) with h | h <;> omega) _).rebase (by have := HA.out; omega), ⟨by have := HTn.out; omega, by have := HT.out.2.2; omega, HT.out.1, by have := HT.out.2.1; omega⟩, hsr.setO _ (by simp; omega) _, grown_set hG _ (by simp; have := HA.out; omega) _⟩

end Go.Proofs.Ytfpcdffahjoejaa

namespace Go.Proofs.Ytfpcdffahjoejaa
open Go.RowKit Cv
set_option linter.unusedVariables false
set_option linter.unusedSimpArgs false
set_option maxRecDepth 100000

set_option maxHeartbeats 1000000 in
theorem draw_any (b : Nat) (a : Option Addr) (n cap : Nat) (hn : n ≤ 4096) (w : World) (hs : Src w b a n cap) :
    Calls Try.prog 65 #[.pointer (some ⟨b, 0, none⟩)] w fun e w' => ∃ v S, e = .returned (.agg #[v]) ∧ OwnInts w' w.heap.size v S ∧ Sp S ∧ Src w' b a n cap ∧ w.grownBy w' (some b) := by
  have hbl := hs.lt
  obtain ⟨A, hA⟩ : ∃ A, A = w.heap.size := ⟨_, rfl⟩
  obtain ⟨W2, hW2⟩ : ∃ W2, W2 = (w.alloc (.cells #[.slice none 0 0] 26)).alloc (.cells #[.int .i64 16, .int .i64 81, .int .i64 256, .int .i64 256] 2) := ⟨_, rfl⟩
  have hs2 : Src W2 b a n cap := by rw [hW2]; exact (hs.alloc _).alloc _
  have hG2 : w.grownBy W2 (some b) := by rw [hW2]; exact grown_alloc (grown_alloc (World.grownBy.refl w _) _) _
  have RA2 : W2.heap[A]? = some (.cells #[.slice none 0 0] 26 (0, 0)) := by
    rw [hW2, hA]; exact row_g (heap_alloc_new w _) (World.grownBy_alloc _ _ none) (by simp)
  have I2 : Ints W2 (some ⟨A + 1, 0, none⟩) [16, 81, 256, 256] := by
    have e : (w.alloc (.cells #[.slice none 0 0] 26)).heap.size = A + 1 := by rw [hA]; simp
    have := ints_new (w.alloc (.cells #[.slice none 0 0] 26)) [16, 81, 256, 256] 2
    rw [e] at this
    rw [hW2]; exact this
  have zA : A < W2.heap.size := row_lt RA2
  have hp := pick_n b a n cap hn (A + 1) _ 4 rfl (by omega) (by omega) (by omega) W2 hs2 I2
  have HA := Lib.hid hA
  have HW2 := Lib.hid hW2
  have hAb : b < A := by omega
  clear hA hW2 hs hs2 I2 hbl
  go_enter Try.func65, Try.ntmps65
  go_wp2_with fail
  rw [← HW2.out, ← HA.out]
  refine hp.mono ?_
  rintro e w3 ⟨M, rfl, hM, hs3, hg3⟩
  have hM' : 8 ≤ M ∧ M ≤ 256 := by simp only [List.mem_cons, List.not_mem_nil, or_false] at hM; omega
  have hG3 := grown_trans hG2 hg3
  have RA3 := row_g RA2 hg3 (by simp; omega)
  have hd := drawOf_any b a n cap hn M hM' w3 hs3
  clear hp hM hg3 RA2 hG2 hs3
  go_wp2_with fail
  refine hd.mono ?_
  rintro e w4 ⟨v, S, rfl, own, hSp, hs4, hg4⟩
  obtain ⟨x, c, hv⟩ := own_shp own
  subst hv
  have hG4 := grown_trans hG3 hg4
  have RA4 := row_g RA3 hg4 (by simp; omega)
  have hA3 : A < w3.heap.size := row_lt RA3
  have xA := cell_of1' RA4
  have fA := frozen_of_row w4 A 0 _ _ RA4
  have zA4 := row_lt RA4
  clear hd hg4 RA3 hG3
  go_wp2_with fail
  refine bodyPost_ret (v := .agg #[.slice x S.length c]) (by simp [results, Try.results65, go_sem, xA, fA, zA4]) rfl ?_
  exact ⟨_, S, rfl, (own.setBelow (by simp; omega) _).rebase (by have := HA.out; omega), hSp, hs4.setO _ (by simp; omega) _, grown_set hG4 _ (by simp; have := HA.out; omega) _⟩

set_option maxHeartbeats 1000000 in
theorem small_any (b : Nat) (a : Option Addr) (n cap : Nat) (hn : n ≤ 4096) (w : World) (hs : Src w b a n cap) :
    Calls Try.prog 94 #[.pointer (some ⟨b, 0, none⟩)] w fun e w' => ∃ v S, e = .returned (.agg #[v]) ∧ OwnInts w' w.heap.size v S ∧ Sp S ∧ Src w' b a n cap ∧ w.grownBy w' (some b) := by
  have hbl := hs.lt
  obtain ⟨A, hA⟩ : ∃ A, A = w.heap.size := ⟨_, rfl⟩
  obtain ⟨W2, hW2⟩ : ∃ W2, W2 = (w.alloc (.cells #[.slice none 0 0] 26)).alloc (.cells #[.int .i64 8, .int .i64 27, .int .i64 81] 2) := ⟨_, rfl⟩
  have hs2 : Src W2 b a n cap := by rw [hW2]; exact (hs.alloc _).alloc _
  have hG2 : w.grownBy W2 (some b) := by rw [hW2]; exact grown_alloc (grown_alloc (World.grownBy.refl w _) _) _
  have RA2 : W2.heap[A]? = some (.cells #[.slice none 0 0] 26 (0, 0)) := by
    rw [hW2, hA]; exact row_g (heap_alloc_new w _) (World.grownBy_alloc _ _ none) (by simp)
  have I2 : Ints W2 (some ⟨A + 1, 0, none⟩) [8, 27, 81] := by
    have e : (w.alloc (.cells #[.slice none 0 0] 26)).heap.size = A + 1 := by rw [hA]; simp
    have := ints_new (w.alloc (.cells #[.slice none 0 0] 26)) [8, 27, 81] 2
    rw [e] at this
    rw [hW2]; exact this
  have zA : A < W2.heap.size := row_lt RA2
  have hp := pick_n b a n cap hn (A + 1) _ 3 rfl (by omega) (by omega) (by omega) W2 hs2 I2
  have HA := Lib.hid hA
  have HW2 := Lib.hid hW2
  have hAb : b < A := by omega
  clear hA hW2 hs hs2 I2 hbl
  go_enter Try.func94, Try.ntmps94
  go_wp2_with fail
  rw [← HW2.out, ← HA.out]
  refine hp.mono ?_
  rintro e w3 ⟨M, rfl, hM, hs3, hg3⟩
  have hM' : 8 ≤ M ∧ M ≤ 256 := by simp only [List.mem_cons, List.not_mem_nil, or_false] at hM; omega
  have hG3 := grown_trans hG2 hg3
  have RA3 := row_g RA2 hg3 (by simp; omega)
  have hd := drawOf_any b a n cap hn M hM' w3 hs3
  clear hp hM hg3 RA2 hG2 hs3
  go_wp2_with fail
  refine hd.mono ?_
  rintro e w4 ⟨v, S, rfl, own, hSp, hs4, hg4⟩
  obtain ⟨x, c, hv⟩ := own_shp own
  subst hv
  have hG4 := grown_trans hG3 hg4
  have RA4 := row_g RA3 hg4 (by simp; omega)
  have hA3 : A < w3.heap.size := row_lt RA3
  have xA := cell_of1' RA4
  have fA := frozen_of_row w4 A 0 _ _ RA4
  have zA4 := row_lt RA4
  clear hd hg4 RA3 hG3
  go_wp2_with fail
  refine bodyPost_ret (v := .agg #[.slice x S.length c]) (by simp [results, Try.results94, go_sem, xA, fA, zA4]) rfl ?_
  exact ⟨_, S, rfl, (own.setBelow (by simp; omega) _).rebase (by have := HA.out; omega), hSp, hs4.setO _ (by simp; omega) _, grown_set hG4 _ (by simp; have := HA.out; omega) _⟩

/-- the length of the slice in a cell -/
def lenAt (w : World) (a : Addr) : Nat := match w.cell? a with
  | some (.slice _ n _) => n
  | _ => 0
/-- the numbers S lie at ao, behind the block b -/
def IntsX (b : Nat) (w : World) (ao : Option Addr) (S : List Int) : Prop := Ints w ao S ∧ ∀ g o, ao = some ⟨g, o, none⟩ → b < g
theorem IntsX.below {b B : Nat} {w w' : World} {ao : Option Addr} {S : List Int} (h : IntsX b w ao S) (hb : Below w.heap.size w w') : IntsX b w' ao S := ⟨h.1.below hb, h.2⟩
theorem IntsX.grown {b : Nat} {w w' : World} {ao : Option Addr} {S : List Int} (h : IntsX b w ao S) (hg : w.grownBy w' (some b)) : IntsX b w' ao S := by
  obtain ⟨h1, h2⟩ := h
  refine ⟨?_, h2⟩
  rcases h1 with h | ⟨g, o, rfl, hlt, hc⟩
  · exact .inl h
  · have := h2 g o rfl
    exact .inr ⟨g, o, rfl, Nat.lt_of_lt_of_le hlt hg.size, fun i hi => grown_cell hg (hc i hi) (by omega)⟩
theorem intsX_own {b base : Nat} {w : World} {a : Option Addr} {n cap : Nat} {S : List Int} (h : OwnInts w base (.slice a n cap) S) (hb : b < base) : IntsX b w a S := by
  refine ⟨own_ints h, fun g o e => ?_⟩
  subst e
  rcases h.2 with ⟨hv, _⟩ | ⟨g', _, _, hv, hg, _⟩
  · simp at hv
  · simp only [Value.slice.injEq, Option.some.injEq, Addr.mk.injEq] at hv; omega
theorem IntsX.set {b : Nat} {w : World} {ao : Option Addr} {S : List Int} (h : IntsX b w ao S) (p : Nat) (u : Value) (hp : ∀ g o, ao = some ⟨g, o, none⟩ → g ≠ p) : IntsX b (w.setCell ⟨p, 0, none⟩ u) ao S := by
  obtain ⟨h1, h2⟩ := h
  refine ⟨?_, h2⟩
  rcases h1 with h | ⟨g, o, rfl, hlt, hc⟩
  · exact .inl h
  · exact .inr ⟨g, o, rfl, by simpa using hlt, fun i hi => cell_set_other (hc i hi) (hp g o rfl)⟩

set_option maxHeartbeats 4000000 in
theorem bad_any (b : Nat) (a : Option Addr) (n cap : Nat) (hn : n ≤ 4096) (ao : Option Addr) (S : List Int) (capS : Nat) (hSp : Sp S) (w : World) (hs : Src w b a n cap) (hX : IntsX b w ao S) :
    Calls Try.prog 67 #[.pointer (some ⟨b, 0, none⟩), .agg #[.slice ao S.length capS]] w fun e w' => ∃ ax T cx, e = .returned (.agg #[.slice ax T.length cx]) ∧ IntsX b w' ax T ∧ T.length ≤ 8 ∧ Src w' b a n cap ∧ w.grownBy w' (some b) := by
  have hbl := hs.lt
  obtain ⟨s1, s8⟩ := And.intro hSp.lo hSp.hi
  obtain ⟨A, hA⟩ : ∃ A, A = w.heap.size := ⟨_, rfl⟩
  obtain ⟨W2, hW2⟩ : ∃ W2, W2 = (w.alloc (.cells #[.slice ao S.length capS] 26)).alloc (.cells #[.slice none 0 0] 26) := ⟨_, rfl⟩
  have hs2 : Src W2 b a n cap := by rw [hW2]; exact (hs.alloc _).alloc _
  have hG2 : w.grownBy W2 (some b) := by rw [hW2]; exact grown_alloc (grown_alloc (World.grownBy.refl w _) _) _
  have zW : W2.heap.size = A + 2 := by rw [hW2, hA]; simp
  have RA2 : W2.heap[A]? = some (.cells #[.slice ao S.length capS] 26 (0, 0)) := by
    rw [hW2, hA]; exact row_g (heap_alloc_new w _) (World.grownBy_alloc _ _ none) (by simp)
  have RR2 : W2.heap[A + 1]? = some (.cells #[.slice none 0 0] 26 (0, 0)) := by
    have e : (w.alloc (.cells #[.slice ao S.length capS] 26)).heap.size = A + 1 := by rw [hA]; simp
    rw [hW2, ← e]; exact heap_alloc_new _ _
  have hX2 : IntsX b W2 ao S := by rw [hW2]; exact (hX.below (B := 0) ((Below.refl _ _).alloc (Nat.le_refl _) _)).below (B := 0) ((Below.refl _ _).alloc (Nat.le_refl _) _)
  have hXA : Hid (∀ g o, ao = some ⟨g, o, none⟩ → g < A) := Lib.hid fun g o e => by
    rcases hX.1 with h | ⟨g', o', e', hl, _⟩
    · omega
    · rw [e] at e'; cases e'; rw [hA]; exact hl
  obtain ⟨g0, o0, hao⟩ : ∃ g0 o0, ao = some ⟨g0, o0, none⟩ := by
    rcases hX.1 with h | ⟨g', o', e', _⟩
    · omega
    · exact ⟨g', o', e'⟩
  subst hao
  have hown := l01Own_any ⟨g0, o0, none⟩ S S.length capS rfl (by omega) W2 hX2.1
  have xA2 := cell_of1' RA2
  have HA := Lib.hid hA
  have HW2 := Lib.hid hW2
  have hAb : b < A := by omega
  clear hA hW2 hs hbl hX hSp
  go_enter Try.func67, Try.ntmps67
  go_wp2_with fail
  rw [← HW2.out, ← HA.out]
  refine hown.mono ?_
  rintro e w3 ⟨g, c, rfl, own3, hb3⟩
  have g3 := grown_of_below hb3 none
  have hG3 := grown_trans hG2 (grown_of_below hb3 (some b))
  have RA3 := row_g RA2 g3 (by simp)
  have RR3 := row_g RR2 g3 (by simp)
  have hs3 := hs2.below hb3 hs2.lt
  have hX3 := hX2.below (B := 0) hb3
  have hgA : A + 2 ≤ g ∧ g < w3.heap.size := by have := own3.base_le; omega
  clear hown g3 hb3 RA2 RR2 hs2 hX2 hG2 xA2
  obtain ⟨O, hO⟩ : ∃ O, O = w3.heap.size := ⟨_, rfl⟩
  obtain ⟨W4, hW4⟩ : ∃ W4, W4 = w3.alloc (.cells #[.slice (some ⟨g, 0, none⟩) S.length c] 26) := ⟨_, rfl⟩
  have RO4 : W4.heap[O]? = some (.cells #[.slice (some ⟨g, 0, none⟩) S.length c] 26 (0, 0)) := by rw [hW4, hO]; exact heap_alloc_new _ _
  have RA4 := row_g RA3 (World.grownBy_alloc w3 (.cells #[.slice (some ⟨g, 0, none⟩) S.length c] 26) none) (by simp)
  have RR4 := row_g RR3 (World.grownBy_alloc w3 (.cells #[.slice (some ⟨g, 0, none⟩) S.length c] 26) none) (by simp)
  have own4 := own3.alloc (.cells #[.slice (some ⟨g, 0, none⟩) S.length c] 26)
  have hs4 := hs3.alloc (.cells #[.slice (some ⟨g, 0, none⟩) S.length c] 26)
  have hG4 := grown_alloc hG3 (.cells #[.slice (some ⟨g, 0, none⟩) S.length c] 26)
  have hX4 := hX3.below (B := 0) ((Below.refl _ _).alloc (Nat.le_refl _) (.cells #[.slice (some ⟨g, 0, none⟩) S.length c] 26))
  rw [← hW4] at RA4 RR4 own4 hs4 hG4 hX4
  rw [zW] at own4
  have HW4 := Lib.hid hW4
  have HO := Lib.hid hO
  rw [← hO] at hgA
  have hnx := next_any b a n cap hn 50 (by omega) W4 hs4
  clear hW4 hO RA3 RR3 own3 hs3 hX3 hG3 hs4
  go_wp2_with fail
  rw [← HW4.out, ← HO.out]
  refine hnx.mono ?_
  rintro e wr ⟨x, rfl, x0, x1, x2, hsr, hgr⟩
  have hG := grown_trans hG4 hgr
  have RA := row_g RA4 hgr (by simp; omega)
  have RR := row_g RR4 hgr (by simp; omega)
  have RO := row_g RO4 hgr (by simp; omega)
  have own := own4.kept hgr (.inr (by simp [Value.ownBlock]; omega))
  have hXr := hX4.grown hgr
  clear hnx hgr RA4 RR4 RO4 own4 hX4 hG4 x1 x2
  have xA := cell_of1' RA
  have xR := cell_of1' RR
  have xO := cell_of1' RO
  have fR := frozen_of_row wr (A + 1) 0 _ _ RR
  have zR := row_lt RR
  by_cases e0 : x = 0
  · have b0 : (x == 0) = true := by simpa using e0
    clear e0
    go_wp2_with fail
    refine bodyPost_ret (v := .agg #[.slice none 0 0]) (by simp [results, Try.results67, go_sem, xR, fR, zR]) rfl ?_
    exact ⟨none, [], 0, rfl, ⟨.inl rfl, fun g o e => by cases e⟩, by simp, hsr.setO _ (by simp; omega) _, grown_set hG _ (by simp; have := HA.out; omega) _⟩
  have b0 : (x == 0) = false := by simpa using e0
  by_cases e1 : x = 1
  · have b1 : (x == 1) = true := by simpa using e1
    clear e0 e1
    go_wp2_with fail
    refine wp_region_held_drew (S := fun w' => w'.cell? ⟨O, 0, none⟩ = some (.slice (some ⟨g, 0, none⟩) S.length c)) (by kernel_rfl) xO (fun hHeld => ?_)
    refine wpAnyH_take (i := 0) (v := ?_) rfl (by kernel_rfl) (by kernel_rfl) (by kernel_rfl) (fun _ _ _ h => h) (Or.inl ⟨by rfl, ?_⟩) (by assumption) ?_
    rotate_left
    · (intro w hSw; (try dsimp only at hSw); go_simp; try (with_reducible rfl))
    (try simp only [Act.put, List.setIfInBounds_toArray, List.set_cons_zero, List.set_cons_succ])
    refine wpAnyH_take (i := 1) (v := ?_) rfl (by kernel_rfl) (by kernel_rfl) (by kernel_rfl) (fun _ _ _ h => h) (Or.inl ⟨by rfl, ?_⟩) (by assumption) ?_
    rotate_left
    · (intro w hSw; (try dsimp only at hSw); go_simp; try (with_reducible rfl))
    (try simp only [Act.put, List.setIfInBounds_toArray, List.set_cons_zero, List.set_cons_succ])
    refine wpAnyH_take (i := 2) (v := ?_) rfl (by kernel_rfl) (by kernel_rfl) (by kernel_rfl) (fun _ _ _ h => h) (Or.inl ⟨by rfl, ?_⟩) (by assumption) ?_
    rotate_left
    · (intro w hSw; (try dsimp only at hSw); go_simp; try (with_reducible rfl))
    (try simp only [Act.put, List.setIfInBounds_toArray, List.set_cons_zero, List.set_cons_succ])
    refine wpAnyH_take (i := 3) (v := ?_) rfl (by kernel_rfl) (by kernel_rfl) (by kernel_rfl) (fun _ _ _ h => h) (Or.inl ⟨by rfl, ?_⟩) (by assumption) ?_
    rotate_left
    · (intro w hSw; (try dsimp only at hSw); go_simp; try (with_reducible rfl))
    (try simp only [Act.put, List.setIfInBounds_toArray, List.set_cons_zero, List.set_cons_succ])
    refine wpAnyH_take (i := 4) (v := ?_) rfl (by kernel_rfl) (by kernel_rfl) (by kernel_rfl) (fun _ _ _ h => h) (Or.inl ⟨by rfl, ?_⟩) (by assumption) ?_
    rotate_left
    · (intro w hSw; (try dsimp only at hSw); go_simp; try (with_reducible rfl))
    (try simp only [Act.put, List.setIfInBounds_toArray, List.set_cons_zero, List.set_cons_succ])
    refine wpAnyH_take (i := 5) (v := ?_) rfl (by kernel_rfl) (by kernel_rfl) (by kernel_rfl) (fun _ _ _ h => h) (Or.inl ⟨by rfl, ?_⟩) (by assumption) ?_
    rotate_left
    · (intro w hSw; (try dsimp only at hSw); go_simp; try (with_reducible rfl))
    (try simp only [Act.put, List.setIfInBounds_toArray, List.set_cons_zero, List.set_cons_succ])
    refine wpAnyH_take (i := 7) (v := ?_) rfl (by kernel_rfl) (by kernel_rfl) (by kernel_rfl) (fun _ _ _ h => h) (Or.inl ⟨by rfl, ?_⟩) (by assumption) ?_
    rotate_left
    · (intro w hSw; (try dsimp only at hSw); go_simp; try (with_reducible rfl))
    (try simp only [Act.put, List.setIfInBounds_toArray, List.set_cons_zero, List.set_cons_succ])
    refine wpAnyH_ready (rs := [6, 8]) (by kernel_rfl) (by simp) ?_
    refine AllReadyH.cons rfl (fun K hK => ?_) ?_
    · go_simp
      (go_at_call 70; refine (next_any b a n cap hn (S.length : Int) (by omega) wr.drew (hsr.drewN 1)).mono ?_)
      rintro e uA ⟨yA, rfl, y0, y1, y2, hsA, hgA⟩
      obtain ⟨k, rfl⟩ : ∃ k : Nat, yA = k := ⟨yA.toNat, by omega⟩
      have hk : k < S.length := by have := y2 (by omega); omega
      have ROA := row_g (show wr.drew.heap[O]? = _ from RO) hgA (by simp; omega)
      have RAA := row_g (show wr.drew.heap[A]? = _ from RA) hgA (by simp; omega)
      have RRA := row_g (show wr.drew.heap[A + 1]? = _ from RR) hgA (by simp; omega)
      have ownA := (own.drew).kept hgA (.inr (by simp [Value.ownBlock]; omega))
      have hGA := grown_trans (grown_drewN hG 1) hgA
      refine hK.out _ _ (cell_of1' ROA) (fun hHeld => ?_)
      clear hK K
      (try simp only [Act.put, List.setIfInBounds_toArray, List.set_cons_zero, List.set_cons_succ])
      refine wpAnyH_ready (rs := [8]) (by kernel_rfl) (by simp) ?_
      refine AllReadyH.cons rfl (fun K hK => ?_) AllReadyH.nil
      go_simp
      obtain ⟨uB, huB⟩ : ∃ u, u = uA.alloc (.cells #[.int .i64 1, .int .i64 5, .int .i64 0, .int .i64 (-1), .int .i64 1099511627776] 2) := ⟨_, rfl⟩
      rw [← huB]
      have ROB : uB.heap[O]? = some (.cells #[.slice (some ⟨g, 0, none⟩) S.length c] 26 (0, 0)) := by rw [huB]; exact row_g ROA (World.grownBy_alloc uA (.cells #[.int .i64 1, .int .i64 5, .int .i64 0, .int .i64 (-1), .int .i64 1099511627776] 2) none) (by simp)
      have RAB : uB.heap[A]? = some (.cells #[.slice (some ⟨g0, o0, none⟩) S.length capS] 26 (0, 0)) := by rw [huB]; exact row_g RAA (World.grownBy_alloc uA (.cells #[.int .i64 1, .int .i64 5, .int .i64 0, .int .i64 (-1), .int .i64 1099511627776] 2) none) (by simp)
      have RRB : uB.heap[A + 1]? = some (.cells #[.slice none 0 0] 26 (0, 0)) := by rw [huB]; exact row_g RRA (World.grownBy_alloc uA (.cells #[.int .i64 1, .int .i64 5, .int .i64 0, .int .i64 (-1), .int .i64 1099511627776] 2) none) (by simp)
      have ownB : OwnInts uB (A + 2) (.slice (some ⟨g, 0, none⟩) S.length c) S := by rw [huB]; exact ownA.alloc _
      have hsB : Src uB b a n cap := by rw [huB]; exact hsA.alloc _
      have hGB : w.grownBy uB (some b) := by rw [huB]; exact grown_alloc hGA _
      have IB : Ints uB (some ⟨uA.heap.size, 0, none⟩) [1, 5, 0, -1, 1099511627776] := by rw [huB]; exact ints_new uA _ _
      have zIB : b < uA.heap.size := hsA.lt
      clear huB
      refine hK.out _ _ (cell_of1' ROB) (fun hHeld => ?_)
      clear hK K
      (try simp only [Act.put, List.setIfInBounds_toArray, List.set_cons_zero, List.set_cons_succ])
      refine wpAnyH_ready (rs := [9]) (by kernel_rfl) (by simp) ?_
      refine AllReadyH.cons rfl (fun K hK => ?_) AllReadyH.nil
      go_simp
      (go_at_call 68; refine (pick_n b a n cap hn uA.heap.size _ 5 rfl (by omega) (by omega) (by omega) uB hsB IB).mono ?_)
      rintro e uC ⟨z, rfl, hz, hsC, hgC⟩
      have ROC := row_g ROB hgC (by simp; omega)
      have RAC := row_g RAB hgC (by simp; omega)
      have RRC := row_g RRB hgC (by simp; omega)
      have ownC := ownB.kept hgC (.inr (by simp [Value.ownBlock]; omega))
      have hGC := grown_trans hGB hgC
      refine hK.out _ _ (cell_of1' ROC) (fun hHeld => ?_)
      clear hK K
      (try simp only [Act.put, List.setIfInBounds_toArray, List.set_cons_zero, List.set_cons_succ])
      have i1 : (0 : Int) ≤ (k : Int) := by omega
      have i2 : (k : Int) < (S.length : Int) := by omega
      have hcell := ownC.cell (k := k) hk
      have hfree := ownC.free k
      refine wpAnyH_take (i := 10) (v := ?_) rfl (by kernel_rfl) (by kernel_rfl) (by kernel_rfl) (fun _ _ _ h => h) (Or.inl ⟨by rfl, ?_⟩) (by assumption) ?_
      rotate_left
      · (intro w hSw; (try dsimp only at hSw); go_simp; try (with_reducible rfl))
      (try simp only [Act.put, List.setIfInBounds_toArray, List.set_cons_zero, List.set_cons_succ])
      refine wpAnyH_ready (rs := [11]) (by kernel_rfl) (by simp) ?_
      refine AllReadyH.cons rfl (fun K hK => ?_) AllReadyH.nil
      go_simp
      have ROe := row_setO ROC (p := ⟨g, k, none⟩) (by simp; omega) (.int .i64 z)
      have RAe := row_setO RAC (p := ⟨g, k, none⟩) (by simp; omega) (.int .i64 z)
      have RRe := row_setO RRC (p := ⟨g, k, none⟩) (by simp; omega) (.int .i64 z)
      have owne := ownC.stored k z
      have hse := hsC.setO ⟨g, k, none⟩ (by simp; omega) (.int .i64 z)
      have hGe := grown_set hGC ⟨g, k, none⟩ (by simp; have := HA.out; omega) (.int .i64 z)
      refine hK.out _ _ (cell_of1' ROe) (fun hHeld => ?_)
      clear hK K
      (try simp only [Act.put, List.setIfInBounds_toArray, List.set_cons_zero, List.set_cons_succ])
      obtain ⟨we, hwe⟩ : ∃ we, we = uC.setCell ⟨g, k, none⟩ (.int .i64 z) := ⟨_, rfl⟩
      rw [← hwe] at ROe RAe RRe owne hse hGe ⊢
      have xOe := cell_of1' ROe
      have xRe := cell_of1' RRe
      have fRe := frozen_of_row we (A + 1) 0 _ _ RRe
      have zRe := row_lt RRe
      have hT : (S.set k z).length = S.length := List.length_set
      clear hwe hcell hfree
      refine wpAnyH_done (by kernel_rfl) ?_ _
      (try simp only [List.getElem_toArray, List.getElem_cons_succ, List.getElem_cons_zero, Act.put, List.setIfInBounds_toArray, List.set_cons_zero, List.set_cons_succ])
      go_wp2_with fail
      refine bodyPost_ret (v := .agg #[.slice (some ⟨g, 0, none⟩) S.length c]) (by simp [results, Try.results67, go_sem, xRe, fRe, zRe]) rfl ?_
      exact ⟨_, S.set k z, c, by rw [hT], (intsX_own owne (by omega)).set _ _ (fun g' o' e => by cases e; omega), by rw [hT]; exact s8, hse.setO _ (by simp; omega) _, grown_set hGe _ (by simp; have := HA.out; omega) _⟩
    refine AllReadyH.cons rfl (fun K hK => ?_) AllReadyH.nil
    go_simp
    obtain ⟨uA, huA⟩ : ∃ u, u = (wr.alloc (.cells #[.int .i64 1, .int .i64 5, .int .i64 0, .int .i64 (-1), .int .i64 1099511627776] 2)).drew := ⟨_, rfl⟩
    rw [← huA]
    have ROA : uA.heap[O]? = some (.cells #[.slice (some ⟨g, 0, none⟩) S.length c] 26 (0, 0)) := by rw [huA]; exact (show (wr.alloc (.cells #[.int .i64 1, .int .i64 5, .int .i64 0, .int .i64 (-1), .int .i64 1099511627776] 2)).heap[O]? = _ from row_g RO (World.grownBy_alloc wr (.cells #[.int .i64 1, .int .i64 5, .int .i64 0, .int .i64 (-1), .int .i64 1099511627776] 2) none) (by simp))
    have RAA : uA.heap[A]? = some (.cells #[.slice (some ⟨g0, o0, none⟩) S.length capS] 26 (0, 0)) := by rw [huA]; exact (show (wr.alloc (.cells #[.int .i64 1, .int .i64 5, .int .i64 0, .int .i64 (-1), .int .i64 1099511627776] 2)).heap[A]? = _ from row_g RA (World.grownBy_alloc wr (.cells #[.int .i64 1, .int .i64 5, .int .i64 0, .int .i64 (-1), .int .i64 1099511627776] 2) none) (by simp))
    have RRA : uA.heap[A + 1]? = some (.cells #[.slice none 0 0] 26 (0, 0)) := by rw [huA]; exact (show (wr.alloc (.cells #[.int .i64 1, .int .i64 5, .int .i64 0, .int .i64 (-1), .int .i64 1099511627776] 2)).heap[A + 1]? = _ from row_g RR (World.grownBy_alloc wr (.cells #[.int .i64 1, .int .i64 5, .int .i64 0, .int .i64 (-1), .int .i64 1099511627776] 2) none) (by simp))
    have ownA : OwnInts uA (A + 2) (.slice (some ⟨g, 0, none⟩) S.length c) S := by rw [huA]; exact (own.alloc _).drew
    have hsA : Src uA b a n cap := by rw [huA]; exact (hsr.alloc _).drewN 1
    have hGA : w.grownBy uA (some b) := by rw [huA]; exact grown_drewN (grown_alloc hG _) 1
    have IA : Ints uA (some ⟨wr.heap.size, 0, none⟩) [1, 5, 0, -1, 1099511627776] := by rw [huA]; exact (show Ints (wr.alloc (.cells #[.int .i64 1, .int .i64 5, .int .i64 0, .int .i64 (-1), .int .i64 1099511627776] 2)) _ _ from ints_new wr _ _)
    have zIA : b < wr.heap.size := hsr.lt
    clear huA
    refine hK.out _ _ (cell_of1' ROA) (fun hHeld => ?_)
    clear hK K
    (try simp only [Act.put, List.setIfInBounds_toArray, List.set_cons_zero, List.set_cons_succ])
    refine wpAnyH_ready (rs := [6]) (by kernel_rfl) (by simp) ?_
    refine AllReadyH.cons rfl (fun K hK => ?_) AllReadyH.nil
    go_simp
    (go_at_call 70; refine (next_any b a n cap hn (S.length : Int) (by omega) uA hsA).mono ?_)
    rintro e uB ⟨yB, rfl, y0, y1, y2, hsB, hgB⟩
    obtain ⟨k, rfl⟩ : ∃ k : Nat, yB = k := ⟨yB.toNat, by omega⟩
    have hk : k < S.length := by have := y2 (by omega); omega
    have ROB := row_g ROA hgB (by simp; omega)
    have RAB := row_g RAA hgB (by simp; omega)
    have RRB := row_g RRA hgB (by simp; omega)
    have ownB := ownA.kept hgB (.inr (by simp [Value.ownBlock]; omega))
    have hGB := grown_trans hGA hgB
    have IB := (IntsX.grown (b := b) ⟨IA, fun g' o' e => by cases e; exact zIA⟩ hgB).1
    refine hK.out _ _ (cell_of1' ROB) (fun hHeld => ?_)
    clear hK K
    (try simp only [Act.put, List.setIfInBounds_toArray, List.set_cons_zero, List.set_cons_succ])
    refine wpAnyH_ready (rs := [9]) (by kernel_rfl) (by simp) ?_
    refine AllReadyH.cons rfl (fun K hK => ?_) AllReadyH.nil
    go_simp
    (go_at_call 68; refine (pick_n b a n cap hn wr.heap.size _ 5 rfl (by omega) (by omega) (by omega) uB hsB IB).mono ?_)
    rintro e uC ⟨z, rfl, hz, hsC, hgC⟩
    have ROC := row_g ROB hgC (by simp; omega)
    have RAC := row_g RAB hgC (by simp; omega)
    have RRC := row_g RRB hgC (by simp; omega)
    have ownC := ownB.kept hgC (.inr (by simp [Value.ownBlock]; omega))
    have hGC := grown_trans hGB hgC
    refine hK.out _ _ (cell_of1' ROC) (fun hHeld => ?_)
    clear hK K
    (try simp only [Act.put, List.setIfInBounds_toArray, List.set_cons_zero, List.set_cons_succ])
    have i1 : (0 : Int) ≤ (k : Int) := by omega
    have i2 : (k : Int) < (S.length : Int) := by omega
    have hcell := ownC.cell (k := k) hk
    have hfree := ownC.free k
    refine wpAnyH_take (i := 10) (v := ?_) rfl (by kernel_rfl) (by kernel_rfl) (by kernel_rfl) (fun _ _ _ h => h) (Or.inl ⟨by rfl, ?_⟩) (by assumption) ?_
    rotate_left
    · (intro w hSw; (try dsimp only at hSw); go_simp; try (with_reducible rfl))
    (try simp only [Act.put, List.setIfInBounds_toArray, List.set_cons_zero, List.set_cons_succ])
    refine wpAnyH_ready (rs := [11]) (by kernel_rfl) (by simp) ?_
    refine AllReadyH.cons rfl (fun K hK => ?_) AllReadyH.nil
    go_simp
    have ROe := row_setO ROC (p := ⟨g, k, none⟩) (by simp; omega) (.int .i64 z)
    have RAe := row_setO RAC (p := ⟨g, k, none⟩) (by simp; omega) (.int .i64 z)
    have RRe := row_setO RRC (p := ⟨g, k, none⟩) (by simp; omega) (.int .i64 z)
    have owne := ownC.stored k z
    have hse := hsC.setO ⟨g, k, none⟩ (by simp; omega) (.int .i64 z)
    have hGe := grown_set hGC ⟨g, k, none⟩ (by simp; have := HA.out; omega) (.int .i64 z)
    refine hK.out _ _ (cell_of1' ROe) (fun hHeld => ?_)
    clear hK K
    (try simp only [Act.put, List.setIfInBounds_toArray, List.set_cons_zero, List.set_cons_succ])
    obtain ⟨we, hwe⟩ : ∃ we, we = uC.setCell ⟨g, k, none⟩ (.int .i64 z) := ⟨_, rfl⟩
    rw [← hwe] at ROe RAe RRe owne hse hGe ⊢
    have xOe := cell_of1' ROe
    have xRe := cell_of1' RRe
    have fRe := frozen_of_row we (A + 1) 0 _ _ RRe
    have zRe := row_lt RRe
    have hT : (S.set k z).length = S.length := List.length_set
    clear hwe hcell hfree
    refine wpAnyH_done (by kernel_rfl) ?_ _
    (try simp only [List.getElem_toArray, List.getElem_cons_succ, List.getElem_cons_zero, Act.put, List.setIfInBounds_toArray, List.set_cons_zero, List.set_cons_succ])
    go_wp2_with fail
    refine bodyPost_ret (v := .agg #[.slice (some ⟨g, 0, none⟩) S.length c]) (by simp [results, Try.results67, go_sem, xRe, fRe, zRe]) rfl ?_
    exact ⟨_, S.set k z, c, by rw [hT], (intsX_own owne (by omega)).set _ _ (fun g' o' e => by cases e; omega), by rw [hT]; exact s8, hse.setO _ (by simp; omega) _, grown_set hGe _ (by simp; have := HA.out; omega) _⟩
  have b1 : (x == 1) = false := by simpa using e1
  by_cases e2 : x = 2
  · have b2 : (x == 2) = true := by simpa using e2
    clear e0 e1 e2
    have hgO : ∀ g', (Value.slice (some ⟨g, 0, none⟩) S.length c).ownBlock = some g' → A + 2 ≤ g' ∧ g' ≠ O := fun g' e => by simp [Value.ownBlock] at e; omega
    have hSl : Hid (S.length ≤ 8) := Lib.hid s8
    go_wp2_with fail
    go_loopw [33] (fun _ wl => ∃ (T : List Int) (vS : Value), Hid (T.length ≤ 8) ∧ OwnInts wl (A + 2) vS T ∧ (∀ g', vS.ownBlock = some g' → A + 2 ≤ g' ∧ g' ≠ O) ∧ wl.heap[O]? = some (.cells #[vS] 26 (0, 0)) ∧ wl.heap[A + 1]? = some (.cells #[.slice none 0 0] 26 (0, 0)) ∧ Src wl b a n cap ∧ w.grownBy wl (some b)) (fun _ wl => 6 - lenAt wl ⟨O, 0, none⟩)
    case atStart => exact ⟨S, _, hSl, own, hgO, RO, RR, hsr, hG⟩
    case round =>
      clear own hgO RO RR RA xA xR xO fR zR hXr hsr hG
      obtain ⟨T, vS, HT, own, hvS, RO, RR, hsr, hG⟩ := hrel
      obtain ⟨aS, cS, hvs⟩ := own_shp own
      subst hvs
      have xO := cell_of1' RO
      have zO := row_lt RO
      by_cases hlt : T.length < 6
      · have i1 : (T.length : Int) < 6 := by omega
        have hl0 : lenAt wr ⟨O, 0, none⟩ = T.length := by unfold lenAt; rw [xO]
        have HL0 := Lib.hid hl0
        clear hl0
        go_wp2_with (at_builtin; refine wpList_append_int_at rfl _ _ rfl (A + 2) _ T rfl (own.alloc _) wr.heap.size 4 rfl (cell_new _ _ _) (by omega) (by have := zO; simp; omega) ?_; intro v' w6 own' hgrow hnew; obtain ⟨a6, c6, hv6⟩ := own_shp own'; rw [List.length_append, List.length_singleton] at hv6; subst hv6; have ROn := row_g (row_g RO (World.grownBy_alloc wr (.cells #[.int .i64 4] 2) none) (by simp)) hgrow (fun e => (hvS _ e.symm).2 rfl); have RRn := row_g (row_g RR (World.grownBy_alloc wr (.cells #[.int .i64 4] 2) none) (by simp)) hgrow (fun e => by have := (hvS _ e.symm).1; omega); have xO6 := cell_of1' ROn; have fO6 := frozen_of_row w6 O 0 _ _ ROn)
        have hvN : ∀ g', (Value.slice a6 (T.length + 1) c6).ownBlock = some g' → A + 2 ≤ g' ∧ g' ≠ O := fun g' hg => by
          rcases hnew with e | e
          · exact hvS g' (e.symm.trans hg)
          · rw [e] at hg
            have := Option.some.inj hg
            simp at this
            omega
        have hGn : w.grownBy w6 (some b) := grown_over (grown_alloc hG _) hgrow (fun g' hg => by have := (hvS g' hg).1; have := HA.out; omega)
        have hsn : Src w6 b a n cap := (hsr.alloc _).grownO hgrow (fun g' hg => by have := (hvS g' hg).1; omega)
        have xOn := cell_of1' (row_store1' (.slice a6 (T.length + 1) c6) ROn)
        have hl1 : lenAt (w6.setCell ⟨O, 0, none⟩ (.slice a6 (T.length + 1) c6)) ⟨O, 0, none⟩ = T.length + 1 := by unfold lenAt; rw [xOn]
        have HL1 := Lib.hid hl1
        clear hl1 xOn
        go_roundw
        case rel => exact ⟨T ++ [4], _, Lib.hid (by rw [List.length_append, List.length_singleton]; omega), own_setO own' O (fun e => (hvN _ e).2 rfl) _, hvN, row_store1' _ ROn, row_setO RRn (by simp; omega) _, hsn.setO _ (by simp; omega) _, grown_set hGn _ (by simp; have := HA.out; omega) _⟩
        case measure => rw [HL0.out, HL1.out]; omega
      · have i1 : ¬ (T.length : Int) < 6 := by omega
        have xR := cell_of1' RR
        have fR := frozen_of_row wr (A + 1) 0 _ _ RR
        have zR := row_lt RR
        go_wp2_with fail
        refine bodyPost_ret (v := .agg #[.slice aS T.length cS]) (by simp [results, Try.results67, go_sem, xR, fR, zR]) rfl ?_
        exact ⟨aS, T, ⟨cS, rfl⟩, (intsX_own own (by omega)).set _ _ (fun g' o' e => by have := (hvS g' (by rw [e]; rfl)).1; omega), HT.out, hsr.setO _ (by simp; omega) _, grown_set hG _ (by simp; have := HA.out; omega) _⟩
  · have b2 : (x == 2) = false := by simpa using e2
    clear e0 e1 e2
    go_wp2_with fail
    refine bodyPost_ret (v := .agg #[.slice (some ⟨g0, o0, none⟩) S.length capS]) (by simp [results, Try.results67, go_sem, xR, fR, zR]) rfl ?_
    exact ⟨_, S, capS, rfl, hXr.set _ _ (fun g o e => by have := hXA.out g o e; omega), s8, hsr.setO _ (by simp; omega) _, grown_set hG _ (by simp; have := HA.out; omega) _⟩

end Go.Proofs.Ytfpcdffahjoejaa

namespace Go.Proofs.Ytfpcdffahjoejaa
open Go.RowKit Cv
set_option linter.unusedVariables false
set_option linter.unusedSimpArgs false
set_option maxRecDepth 100000

theorem below_g {A b : Nat} {w w1 w2 : World} (B : Below A w w1) (hA : A ≤ w1.heap.size) (hg : w1.grownBy w2 (some b)) (hb : A ≤ b) : Below A w w2 := B.grown hg hA (fun k hk => by cases hk; exact hb)
theorem own_blk {base : Nat} {w : World} {a : Option Addr} {n cap : Nat} {S : List Int} (h : OwnInts w base (.slice a n cap) S) : ∀ g o, a = some ⟨g, o, none⟩ → g < w.heap.size := fun g o e => by
  subst e
  rcases h.2 with ⟨hv, _⟩ | ⟨g', _, _, hv, _, hh, _⟩
  · simp at hv
  · simp only [Value.slice.injEq, Option.some.injEq, Addr.mk.injEq] at hv
    have := (Array.getElem?_eq_some_iff.1 hh).1
    omega
theorem IntsX.grownO {b g' : Nat} {w w' : World} {ao : Option Addr} {S : List Int} (h : IntsX b w ao S) (hg : w.grownBy w' (some g')) (hne : ∀ g o, ao = some ⟨g, o, none⟩ → g ≠ g') : IntsX b w' ao S := by
  obtain ⟨h1, h2⟩ := h
  refine ⟨?_, h2⟩
  rcases h1 with h | ⟨g, o, rfl, hlt, hc⟩
  · exact .inl h
  · exact .inr ⟨g, o, rfl, Nat.lt_of_lt_of_le hlt hg.size, fun i hi => grown_cell hg (hc i hi) (hne g o rfl)⟩
theorem results_cell_tmp2w {fn : Func} {p u1 u2 : Tmp} {ty : TypeId} (h : fn.results = #[.cell p ty, .tmp u1, .tmp u2]) (tmps : Array Value) (P : Program) (w : World) :
    (results fn tmps).run P w =
      ((asAddr (tmps.getD p undef)).run P w).andThen fun a w₁ => ((loadVar ty a).run P w₁).andThen fun v w₂ => .ok (.tuple #[v, tmps.getD u1 undef, tmps.getD u2 undef]) w₂ := by
  simp only [results, h]
  simp [Sem.run_bind, Result.andThen]
theorem results_cell_tmp3w {fn : Func} {p u1 u2 u3 : Tmp} {ty : TypeId} (h : fn.results = #[.cell p ty, .tmp u1, .tmp u2, .tmp u3]) (tmps : Array Value) (P : Program) (w : World) :
    (results fn tmps).run P w =
      ((asAddr (tmps.getD p undef)).run P w).andThen fun a w₁ => ((loadVar ty a).run P w₁).andThen fun v w₂ => .ok (.tuple #[v, tmps.getD u1 undef, tmps.getD u2 undef, tmps.getD u3 undef]) w₂ := by
  simp only [results, h]
  simp [Sem.run_bind, Result.andThen]

set_option maxHeartbeats 2000000 in
theorem with_any (a : Option Addr) (n cap : Nat) (hn : n ≤ 4096) (w : World) (hY : Byts w w.heap.size a n) :
    Calls Try.prog 43 #[.slice a n cap] w fun e w' => ∃ ax T cx u y, e = .returned (.tuple #[.agg #[.slice ax T.length cx], .int .i64 u, .int .i64 y]) ∧ Ints w' ax T ∧ (∀ g o, ax = some ⟨g, o, none⟩ → w.heap.size ≤ g) ∧ T.length ≤ 8 ∧ (-9223372036854775808 ≤ u ∧ u ≤ 9223372036854775807) ∧ (-9223372036854775808 ≤ y ∧ y ≤ 9223372036854775807) ∧ Below w.heap.size w w' := by
  obtain ⟨A, hA⟩ : ∃ A, A = w.heap.size := ⟨_, rfl⟩
  obtain ⟨W, hW⟩ : ∃ W, W = w.alloc (.cells #[.slice none 0 0] 26) := ⟨_, rfl⟩
  have zW : W.heap.size = A + 1 := by rw [hW, hA]; simp
  have RA0 : W.heap[A]? = some (.cells #[.slice none 0 0] 26 (0, 0)) := by rw [hW, hA]; exact heap_alloc_new w _
  have B0 : Below A w W := by rw [hW, hA]; exact (Below.refl _ w).alloc (Nat.le_refl _) _
  have hY0 : Byts W W.heap.size a n := by rw [zW]; exact ((hY.mono (by omega)).keep fun b o v hb h => by rw [hW]; exact kept_cell ((Below.refl w.heap.size w).alloc (Nat.le_refl _) _) h (by have := World.block_lt_of_cell? w _ h; exact this))
  have hfr := from_any a n cap hn W hY0
  have HA := Lib.hid hA
  have HW := Lib.hid hW
  obtain ⟨b, hb⟩ : ∃ b, b = W.heap.size := ⟨_, rfl⟩
  rw [← hb] at hfr
  have hbA : b = A + 1 := by omega
  have HB := Lib.hid hb
  clear hA hW hY0
  go_enter Try.func43, Try.ntmps43
  go_wp2_with fail
  rw [← HW.out, ← HA.out]
  refine hfr.mono ?_
  rintro e w1 ⟨rfl, hs1, hb1⟩
  rw [hb] at hb1
  have RA1 := row_g RA0 (grown_of_below hb1 none) (by simp)
  have B1 : Below A w w1 := B0.trans (hb1.mono (by omega))
  have hd := draw_any b a n cap hn w1 hs1
  have hAb : A < b := by omega
  have z1 := hs1.lt
  clear hfr hb1 RA0 B0 hs1 hb zW hbA
  go_wp2_with fail
  refine hd.mono ?_
  rintro e w2 ⟨v, S, rfl, own2, hSp, hs2, hg2⟩
  obtain ⟨x, c, hv⟩ := own_shp own2
  subst hv
  have RA2 := row_g RA1 hg2 (by simp; omega)
  have B2 := below_g B1 (by omega) hg2 (by omega)
  have hX2 := intsX_own own2 z1
  have z2 := hs2.lt
  have HXs := Lib.hid (own_blk own2)
  clear hd hg2 RA1 B1 own2 z1
  obtain ⟨X, hX⟩ : ∃ X, X = w2.heap.size := ⟨_, rfl⟩
  obtain ⟨W3, hW3⟩ : ∃ W3, W3 = w2.alloc (.cells #[.slice x S.length c] 26) := ⟨_, rfl⟩
  have RX3 : W3.heap[X]? = some (.cells #[.slice x S.length c] 26 (0, 0)) := by rw [hW3, hX]; exact heap_alloc_new _ _
  have RA3 : W3.heap[A]? = some (.cells #[.slice none 0 0] 26 (0, 0)) := by rw [hW3]; exact row_g RA2 (World.grownBy_alloc w2 _ none) (by simp)
  have hs3 : Src W3 b a n cap := by rw [hW3]; exact hs2.alloc _
  have hX3 : IntsX b W3 x S := by rw [hW3]; exact hX2.below (B := 0) ((Below.refl _ _).alloc (Nat.le_refl _) _)
  have B3 : Below A w W3 := by rw [hW3]; exact B2.alloc (by omega) _
  rw [← hX] at z2 HXs
  have HX := Lib.hid hX
  have HW3 := Lib.hid hW3
  clear RA2 B2 hX2 hs2 hX hW3
  obtain ⟨N1, N2⟩ := nW_bd hSp
  have EN : IntKind.i64.wrap (prodTo S S.length - 1) = prodTo S S.length - 1 := IntWalk.i64_in _ ⟨by unfold nW at N1; omega, by unfold nW at N2; omega⟩
  unfold nW at N1 N2
  go_wp2_with fail
  rw [← HW3.out, ← HX.out]
  refine wp_region_held_drew (S := fun w' => w'.cell? ⟨X, 0, none⟩ = some (.slice x S.length c)) (by kernel_rfl) (cell_of1' RX3) (fun hHeld => ?_)
  refine wpAnyH_take (i := 0) (v := ?_) rfl (by kernel_rfl) (by kernel_rfl) (by kernel_rfl) (fun _ _ _ h => h) (Or.inl ⟨by rfl, ?_⟩) (by assumption) ?_
  rotate_left
  · (intro w hSw; (try dsimp only at hSw); go_simp; try (with_reducible rfl))
  (try simp only [Act.put, List.setIfInBounds_toArray, List.set_cons_zero, List.set_cons_succ])
  refine wpAnyH_take (i := 1) (v := ?_) rfl (by kernel_rfl) (by kernel_rfl) (by kernel_rfl) (fun _ _ _ h => h) (Or.inl ⟨by rfl, ?_⟩) (by assumption) ?_
  rotate_left
  · (intro w hSw; (try dsimp only at hSw); go_simp; try (with_reducible rfl))
  (try simp only [Act.put, List.setIfInBounds_toArray, List.set_cons_zero, List.set_cons_succ])
  refine wpAnyH_take (i := 5) (v := ?_) rfl (by kernel_rfl) (by kernel_rfl) (by kernel_rfl) (fun _ _ _ h => h) (Or.inl ⟨by rfl, ?_⟩) (by assumption) ?_
  rotate_left
  · (intro w hSw; (try dsimp only at hSw); go_simp; try (with_reducible rfl))
  (try simp only [Act.put, List.setIfInBounds_toArray, List.set_cons_zero, List.set_cons_succ])
  refine wpAnyH_take (i := 6) (v := ?_) rfl (by kernel_rfl) (by kernel_rfl) (by kernel_rfl) (fun _ _ _ h => h) (Or.inl ⟨by rfl, ?_⟩) (by assumption) ?_
  rotate_left
  · (intro w hSw; (try dsimp only at hSw); go_simp; try (with_reducible rfl))
  (try simp only [Act.put, List.setIfInBounds_toArray, List.set_cons_zero, List.set_cons_succ])
  have RXD : W3.drew.heap[X]? = some (.cells #[.slice x S.length c] 26 (0, 0)) := RX3
  have RAD : W3.drew.heap[A]? = some (.cells #[.slice none 0 0] 26 (0, 0)) := RA3
  have hsD : Src W3.drew b a n cap := hs3.drewN 1
  have hXD : IntsX b W3.drew x S := hX3
  have BD : Below A w W3.drew := B3.drew
  refine wpAnyH_ready (rs := [2]) (by kernel_rfl) (by simp) ?_
  refine AllReadyH.cons rfl (fun K hK => ?_) AllReadyH.nil
  go_simp
  (go_at_call 62; refine (l01N_any x S c W3.drew hSp.hi hSp.bd hXD.1).mono ?_)
  rintro e u4 ⟨rfl, hb4⟩
  have RX4 := row_g RXD (grown_of_below hb4 none) (by simp)
  have RA4 := row_g RAD (grown_of_below hb4 none) (by simp)
  have hs4 := hsD.below hb4 hsD.lt
  have hX4 := hXD.below (B := 0) hb4
  have B4 := BD.trans (hb4.mono (by have := hsD.lt; omega))
  refine hK.out _ _ (cell_of1' RX4) (fun hHeld => ?_)
  clear hK K
  (try simp only [Act.put, List.setIfInBounds_toArray, List.set_cons_zero, List.set_cons_succ])
  refine wpAnyH_take (i := 3) (v := ?_) rfl (by kernel_rfl) (by kernel_rfl) (by kernel_rfl) (fun _ _ _ h => h) (Or.inl ⟨by rfl, ?_⟩) (by assumption) ?_
  rotate_left
  · (intro w hSw; (try dsimp only at hSw); go_simp; try (with_reducible rfl))
  (try simp only [Act.put, List.setIfInBounds_toArray, List.set_cons_zero, List.set_cons_succ])
  refine wpAnyH_ready (rs := [4]) (by kernel_rfl) (by simp) ?_
  refine AllReadyH.cons rfl (fun K hK => ?_) AllReadyH.nil
  go_simp
  (go_at_call 66; refine (near_any b a n cap hn (prodTo S S.length - 1) (by omega) u4 hs4).mono ?_)
  rintro e u5 ⟨y1, rfl, hy1, hs5, hg5⟩
  have RX5 := row_g RX4 hg5 (by simp; omega)
  have RA5 := row_g RA4 hg5 (by simp; omega)
  have hX5 := hX4.grown hg5
  have B5 := below_g B4 (by have := hs4.lt; omega) hg5 (by omega)
  refine hK.out _ _ (cell_of1' RX5) (fun hHeld => ?_)
  clear hK K
  (try simp only [Act.put, List.setIfInBounds_toArray, List.set_cons_zero, List.set_cons_succ])
  refine wpAnyH_ready (rs := [7]) (by kernel_rfl) (by simp) ?_
  refine AllReadyH.cons rfl (fun K hK => ?_) AllReadyH.nil
  go_simp
  (go_at_call 62; refine (l01N_any x S c u5 hSp.hi hSp.bd hX5.1).mono ?_)
  rintro e u6 ⟨rfl, hb6⟩
  have RX6 := row_g RX5 (grown_of_below hb6 none) (by simp)
  have RA6 := row_g RA5 (grown_of_below hb6 none) (by simp)
  have hs6 := hs5.below hb6 hs5.lt
  have hX6 := hX5.below (B := 0) hb6
  have B6 := B5.trans (hb6.mono (by have := hs5.lt; omega))
  refine hK.out _ _ (cell_of1' RX6) (fun hHeld => ?_)
  clear hK K
  (try simp only [Act.put, List.setIfInBounds_toArray, List.set_cons_zero, List.set_cons_succ])
  refine wpAnyH_take (i := 8) (v := ?_) rfl (by kernel_rfl) (by kernel_rfl) (by kernel_rfl) (fun _ _ _ h => h) (Or.inl ⟨by rfl, ?_⟩) (by assumption) ?_
  rotate_left
  · (intro w hSw; (try dsimp only at hSw); go_simp; try (with_reducible rfl))
  (try simp only [Act.put, List.setIfInBounds_toArray, List.set_cons_zero, List.set_cons_succ])
  refine wpAnyH_ready (rs := [9]) (by kernel_rfl) (by simp) ?_
  refine AllReadyH.cons rfl (fun K hK => ?_) AllReadyH.nil
  go_simp
  (go_at_call 66; refine (near_any b a n cap hn (prodTo S S.length - 1) (by omega) u6 hs6).mono ?_)
  rintro e u7 ⟨y2, rfl, hy2, hs7, hg7⟩
  have RX7 := row_g RX6 hg7 (by simp; omega)
  have RA7 := row_g RA6 hg7 (by simp; omega)
  have hX7 := hX6.grown hg7
  have B7 := below_g B6 (by have := hs6.lt; omega) hg7 (by omega)
  refine hK.out _ _ (cell_of1' RX7) (fun hHeld => ?_)
  clear hK K
  (try simp only [Act.put, List.setIfInBounds_toArray, List.set_cons_zero, List.set_cons_succ])
  refine wpAnyH_take (i := 10) (v := ?_) rfl (by kernel_rfl) (by kernel_rfl) (by kernel_rfl) (fun _ _ _ h => h) (Or.inl ⟨by rfl, ?_⟩) (by assumption) ?_
  rotate_left
  · (intro w hSw; (try dsimp only at hSw); go_simp; try (with_reducible rfl))
  (try simp only [Act.put, List.setIfInBounds_toArray, List.set_cons_zero, List.set_cons_succ])
  refine wpAnyH_take (i := 11) (v := ?_) rfl (by kernel_rfl) (by kernel_rfl) (by kernel_rfl) (fun _ _ _ h => h) (Or.inl ⟨by rfl, ?_⟩) (by assumption) ?_
  rotate_left
  · (intro w hSw; (try dsimp only at hSw); go_simp; try (with_reducible rfl))
  (try simp only [Act.put, List.setIfInBounds_toArray, List.set_cons_zero, List.set_cons_succ])
  refine wpAnyH_done (by kernel_rfl) ?_ _
  (try simp only [List.getElem_toArray, List.getElem_cons_succ, List.getElem_cons_zero, Act.put, List.setIfInBounds_toArray, List.set_cons_zero, List.set_cons_succ])
  have hbd := bad_any b a n cap hn x S c hSp u7 hs7 hX7
  have xX7 := cell_of1' RX7
  clear EN
  go_wp2_with fail
  refine hbd.mono ?_
  rintro e w8 ⟨ax, T, cx, rfl, hX8, hT, hs8, hg8⟩
  have RA8 := row_g RA7 hg8 (by simp; omega)
  have B8 := below_g B7 (by have := hs7.lt; omega) hg8 (by omega)
  have xA8 := cell_of1' RA8
  have fA8 := frozen_of_row w8 A 0 _ _ RA8
  have zA8 := row_lt RA8
  have hAx : ∀ g o, ax = some ⟨g, o, none⟩ → g ≠ A := fun g o e => by have := hX8.2 g o e; omega
  clear hbd xX7
  go_wp2_with fail
  refine bodyPost_ret (by rw [results_cell_tmp2w rfl]; go_simp; try rfl) rfl ?_
  exact ⟨ax, T, cx, y1, y2, rfl, (hX8.set _ _ hAx).1, (fun g o e => by have := hX8.2 g o e; have := HA.out; omega), hT, hy1, hy2, by rw [← HA.out]; exact B8.setCell (by simp) _⟩

set_option maxHeartbeats 1000000 in
theorem drawSum_any (a : Option Addr) (n cap : Nat) (hn : n ≤ 4096) (w : World) (hY : Byts w w.heap.size a n) :
    Calls Try.prog 6 #[.slice a n cap] w fun e w' => ∃ ax T cx u y, e = .returned (.tuple #[.agg #[.slice ax T.length cx], .int .i64 u, .int .i64 y]) ∧ Ints w' ax T ∧ (∀ g o, ax = some ⟨g, o, none⟩ → w.heap.size ≤ g) ∧ T.length ≤ 8 ∧ (-9223372036854775808 ≤ u ∧ u ≤ 9223372036854775807) ∧ (-9223372036854775808 ≤ y ∧ y ≤ 9223372036854775807) ∧ Below w.heap.size w w' := by
  obtain ⟨A, hA⟩ : ∃ A, A = w.heap.size := ⟨_, rfl⟩
  obtain ⟨W, hW⟩ : ∃ W, W = w.alloc (.cells #[.slice none 0 0] 26) := ⟨_, rfl⟩
  have zW : W.heap.size = A + 1 := by rw [hW, hA]; simp
  have RA0 : W.heap[A]? = some (.cells #[.slice none 0 0] 26 (0, 0)) := by rw [hW, hA]; exact heap_alloc_new w _
  have B0 : Below A w W := by rw [hW, hA]; exact (Below.refl _ w).alloc (Nat.le_refl _) _
  have hY0 : Byts W W.heap.size a n := by rw [zW]; exact ((hY.mono (by omega)).keep fun b o v hb h => by rw [hW]; exact kept_cell ((Below.refl w.heap.size w).alloc (Nat.le_refl _) _) h (by have := World.block_lt_of_cell? w _ h; exact this))
  have hc := with_any a n cap hn W hY0
  have HA := Lib.hid hA
  have HW := Lib.hid hW
  clear hA hW hY0
  go_enter Try.func6, Try.ntmps6
  go_wp2_with fail
  rw [← HW.out, ← HA.out]
  refine hc.mono ?_
  rintro e w1 ⟨ax, T, cx, u, y, rfl, hI, hax, hT, hu, hy, hb1⟩
  have hNA : ∀ g o, ax = some ⟨g, o, none⟩ → g ≠ A := fun g o e => by have := hax g o e; omega
  have HXX := Lib.hid hax
  have RA1 := row_g RA0 (grown_of_below hb1 none) (by simp)
  have B1 : Below A w w1 := B0.trans (hb1.mono (by omega))
  have RA3 : (w1.alloc (.cells #[.slice ax T.length cx] 26)).heap[A]? = some (.cells #[.slice none 0 0] 26 (0, 0)) := row_g RA1 (World.grownBy_alloc w1 _ none) (by simp)
  have hI3 : Ints (w1.alloc (.cells #[.slice ax T.length cx] 26)) ax T := hI.below ((Below.refl _ _).alloc (Nat.le_refl _) _)
  have z1 := B1.size
  have B3 : Below A w (w1.alloc (.cells #[.slice ax T.length cx] 26)) := B1.alloc (by have := HA.out; omega) _
  have xA3 := cell_of1' RA3
  have fA3 := frozen_of_row _ A 0 _ _ RA3
  have zA3 := row_lt RA3
  have HI3 := Lib.hid hI3
  have HB3 := Lib.hid B3
  have HAX : Hid (Ints ((w1.alloc (.cells #[.slice ax T.length cx] 26)).setCell ⟨A, 0, none⟩ (.slice ax T.length cx)) ax T) := Lib.hid (by
    rcases hI3 with h | ⟨g, o, e, hl, hcc⟩
    · exact .inl h
    · refine .inr ⟨g, o, e, by simpa using hl, fun i hi => cell_set_other (hcc i hi) ?_⟩
      intro hgA
      have h1 := hcc i hi
      have h2 := hNA
      exact h2 g o e hgA)
  clear hc hb1 RA0 hI RA1 B1 hI3 B3 hNA hax z1
  go_wp2_with fail
  refine bodyPost_ret (by rw [results_cell_tmp2w rfl]; go_simp; try rfl) rfl ?_
  exact ⟨ax, T, cx, u, y, rfl, HAX.out, (fun g o e => by have := HXX.out g o e; have := B0.size; omega), hT, hu, hy, by rw [← HA.out]; exact HB3.out.setCell (by simp) _⟩

theorem ints_setA {w : World} {ax : Option Addr} {T : List Int} {A : Nat} {u : Value} (h : Ints w ax T) (hA : ∀ g o, ax = some ⟨g, o, none⟩ → g ≠ A) : Ints (w.setCell ⟨A, 0, none⟩ u) ax T := by
  rcases h with h | ⟨g, o, e, hl, hcc⟩
  · exact .inl h
  · exact .inr ⟨g, o, e, by simpa using hl, fun i hi => cell_set_other (hcc i hi) (hA g o e)⟩

set_option maxHeartbeats 4000000 in
theorem radius_any (a : Option Addr) (n cap : Nat) (hn : n ≤ 4096) (w : World) (hY : Byts w w.heap.size a n) :
    Calls Try.prog 57 #[.slice a n cap] w fun e w' => ∃ ax T cx u y, e = .returned (.tuple #[.agg #[.slice ax T.length cx], .int .i64 u, .int .i64 y]) ∧ Ints w' ax T ∧ (∀ g o, ax = some ⟨g, o, none⟩ → w.heap.size ≤ g) ∧ T.length ≤ 8 ∧ (-9223372036854775808 ≤ u ∧ u ≤ 9223372036854775807) ∧ (-9223372036854775808 ≤ y ∧ y ≤ 9223372036854775807) ∧ Below w.heap.size w w' := by
  obtain ⟨A, hA⟩ : ∃ A, A = w.heap.size := ⟨_, rfl⟩
  obtain ⟨W, hW⟩ : ∃ W, W = w.alloc (.cells #[.slice none 0 0] 26) := ⟨_, rfl⟩
  have zW : W.heap.size = A + 1 := by rw [hW, hA]; simp
  have RA0 : W.heap[A]? = some (.cells #[.slice none 0 0] 26 (0, 0)) := by rw [hW, hA]; exact heap_alloc_new w _
  have B0 : Below A w W := by rw [hW, hA]; exact (Below.refl _ w).alloc (Nat.le_refl _) _
  have hY0 : Byts W W.heap.size a n := by rw [zW]; exact ((hY.mono (by omega)).keep fun b o v hb h => by rw [hW]; exact kept_cell ((Below.refl w.heap.size w).alloc (Nat.le_refl _) _) h (by have := World.block_lt_of_cell? w _ h; exact this))
  have hc := with_any a n cap hn W hY0
  have HA := Lib.hid hA
  have HW := Lib.hid hW
  clear hA hW hY0
  go_enter Try.func57, Try.ntmps57
  go_wp2_with fail
  rw [← HW.out, ← HA.out]
  refine hc.mono ?_
  rintro e w1 ⟨ax, T, cx, u, y, rfl, hI, hax, hT, hu, hy, hb1⟩
  have hNA : ∀ g o, ax = some ⟨g, o, none⟩ → g ≠ A := fun g o e => by have := hax g o e; omega
  have HXX := Lib.hid hax
  have RA1 := row_g RA0 (grown_of_below hb1 none) (by simp)
  have B1 : Below A w w1 := B0.trans (hb1.mono (by omega))
  obtain ⟨X, hX⟩ : ∃ X, X = w1.heap.size := ⟨_, rfl⟩
  obtain ⟨E, hE⟩ : ∃ E, E = w1.alloc (.cells #[.slice ax T.length cx] 26) := ⟨_, rfl⟩
  obtain ⟨Z, hZ⟩ : ∃ Z, Z = E.heap.size := ⟨_, rfl⟩
  have zE : Z = X + 1 := by rw [hZ, hE, hX]; simp
  have RX : E.heap[X]? = some (.cells #[.slice ax T.length cx] 26 (0, 0)) := by rw [hE, hX]; exact heap_alloc_new _ _
  have RA : E.heap[A]? = some (.cells #[.slice none 0 0] 26 (0, 0)) := by rw [hE]; exact row_g RA1 (World.grownBy_alloc w1 _ none) (by simp)
  have hI3 : Ints E ax T := by rw [hE]; exact hI.below ((Below.refl _ _).alloc (Nat.le_refl _) _)
  have z1 := B1.size
  have zAX : A < X := by rw [hX]; exact row_lt RA1
  have BE : Below A w E := by rw [hE]; exact B1.alloc (by have := HA.out; omega) _
  have hyE : Byts E Z a n := (hY.mono (by have := HA.out; omega)).keep fun b o v hb h => by
    have h1 := World.block_lt_of_cell? w _ h
    exact kept_cell BE h (by rw [HA.out]; exact h1)
  have hax' : ∀ g o, ax = some ⟨g, o, none⟩ → w.heap.size ≤ g := fun g o e => by have := HXX.out g o e; have := B0.size; omega
  have hHX := Lib.hid hX
  have HE := Lib.hid hE
  have zX : X < Z := by omega
  have zA : A < Z := by omega
  clear hc hb1 RA0 RA1 hI B1 hX hE hax z1 hy
  have hI := hI3
  go_wp2_with fail
  rw [← HE.out, ← hHX.out]
  refine wp_region_held_drew (S := fun w' => w'.cell? ⟨X, 0, none⟩ = some (.slice ax T.length cx)) (by kernel_rfl) (cell_of1' RX) (fun hHeld => ?_)
  refine wpAnyH_take (i := 0) (v := ?_) rfl (by kernel_rfl) (by kernel_rfl) (by kernel_rfl) (fun _ _ _ h => h) (Or.inl ⟨by rfl, ?_⟩) (by assumption) ?_
  rotate_left
  · (intro w hSw; (try dsimp only at hSw); go_simp; try (with_reducible rfl))
  (try simp only [Act.put, List.setIfInBounds_toArray, List.set_cons_zero, List.set_cons_succ])
  refine wpAnyH_take (i := 1) (v := ?_) rfl (by kernel_rfl) (by kernel_rfl) (by kernel_rfl) (fun _ _ _ h => h) (Or.inl ⟨by rfl, ?_⟩) (by assumption) ?_
  rotate_left
  · (intro w hSw; (try dsimp only at hSw); go_simp; try (with_reducible rfl))
  (try simp only [Act.put, List.setIfInBounds_toArray, List.set_cons_zero, List.set_cons_succ])
  refine wpAnyH_take (i := 2) (v := ?_) rfl (by kernel_rfl) (by kernel_rfl) (by kernel_rfl) (fun _ _ _ h => h) (Or.inl ⟨by rfl, ?_⟩) (by assumption) ?_
  rotate_left
  · (intro w hSw; (try dsimp only at hSw); go_simp; try (with_reducible rfl))
  (try simp only [Act.put, List.setIfInBounds_toArray, List.set_cons_zero, List.set_cons_succ])
  refine wpAnyH_take (i := 4) (v := ?_) rfl (by kernel_rfl) (by kernel_rfl) (by kernel_rfl) (fun _ _ _ h => h) (Or.inl ⟨by rfl, ?_⟩) (by assumption) ?_
  rotate_left
  · (intro w hSw; (try dsimp only at hSw); go_simp; try (with_reducible rfl))
  (try simp only [Act.put, List.setIfInBounds_toArray, List.set_cons_zero, List.set_cons_succ])
  refine wpAnyH_ready (rs := [3, 6]) (by kernel_rfl) (by simp) ?_
  refine AllReadyH.cons rfl (fun K hK => ?_) ?_
  · go_simp
    obtain ⟨b1, hb1⟩ : ∃ b, b = E.drew.heap.size := ⟨_, rfl⟩
    have hzb1 : Z ≤ b1 := by rw [hb1]; exact Below.size ((Below.refl Z E).drew) |> fun h => by rw [hZ]; exact h
    have hfb1 := from_any a n cap hn E.drew ((hyE.keep fun b o v hb h => kept_cell ((Below.refl Z E).drew) h hb).mono (by rw [← hb1]; exact hzb1))
    rw [← hb1] at hfb1
    (go_at_call 64; refine hfb1.mono ?_)
    rintro e v1 ⟨rfl, hsb1_1, hbb1⟩
    rw [hb1] at hbb1
    have bz1 : Below Z E v1 := Below.trans ((Below.refl Z E).drew) (hbb1.mono (by rw [← hb1]; exact hzb1))
    clear hfb1 hb1
    refine hK.out _ _ (kept_cell (bz1) (cell_of1' RX) zX) (fun hHeld => ?_)
    clear hK K
    (try simp only [Act.put, List.setIfInBounds_toArray, List.set_cons_zero, List.set_cons_succ])
    refine wpAnyH_ready (rs := [5, 6]) (by kernel_rfl) (by simp) ?_
    refine AllReadyH.cons rfl (fun K hK => ?_) ?_
    · go_simp
      obtain ⟨b2, hb2⟩ : ∃ b, b = v1.heap.size := ⟨_, rfl⟩
      have hzb2 : Z ≤ b2 := by rw [hb2]; exact Below.size (bz1) |> fun h => by rw [hZ]; exact h
      have hfb2 := from_any a n cap hn v1 ((hyE.keep fun b o v hb h => kept_cell (bz1) h hb).mono (by rw [← hb2]; exact hzb2))
      rw [← hb2] at hfb2
      (go_at_call 64; refine hfb2.mono ?_)
      rintro e v2 ⟨rfl, hsb2_2, hbb2⟩
      rw [hb2] at hbb2
      have bz2 : Below Z E v2 := Below.trans (bz1) (hbb2.mono (by rw [← hb2]; exact hzb2))
      have hsb1_2 := hsb1_1.below hbb2 hsb1_1.lt
      have ltb1b2 : b1 < b2 := by rw [hb2]; exact hsb1_1.lt
      clear hfb2 hb2
      refine hK.out _ _ (kept_cell (bz2) (cell_of1' RX) zX) (fun hHeld => ?_)
      clear hK K
      (try simp only [Act.put, List.setIfInBounds_toArray, List.set_cons_zero, List.set_cons_succ])
      refine wpAnyH_ready (rs := [6]) (by kernel_rfl) (by simp) ?_
      refine AllReadyH.cons rfl (fun K hK => ?_) AllReadyH.nil
      go_simp
      obtain ⟨v3, hv3⟩ : ∃ u, u = v2.alloc (.cells #[.int .i64 1, .int .i64 2, .int .i64 3, .int .i64 8] 2) := ⟨_, rfl⟩
      rw [← hv3]
      have bz3 : Below Z E v3 := by rw [hv3]; exact Below.alloc (bz2) (by have := Below.size (bz2); rw [hZ]; exact this) _
      have I3 : Ints v3 (some ⟨v2.heap.size, 0, none⟩) [1, 2, 3, 8] := by rw [hv3]; exact ints_new v2 _ _
      have hsb1_3 : Src v3 b1 a n cap := by rw [hv3]; exact hsb1_2.alloc _
      have ltb1 : b1 < v2.heap.size := hsb1_2.lt
      have hsb2_3 : Src v3 b2 a n cap := by rw [hv3]; exact hsb2_2.alloc _
      have ltb2 : b2 < v2.heap.size := hsb2_2.lt
      have ltg3 : v2.heap.size < v3.heap.size := by rw [hv3]; exact lt_alloc _ _
      clear hv3
      refine hK.out _ _ (kept_cell (bz3) (cell_of1' RX) zX) (fun hHeld => ?_)
      clear hK K
      (try simp only [Act.put, List.setIfInBounds_toArray, List.set_cons_zero, List.set_cons_succ])
      refine wpAnyH_ready (rs := [7]) (by kernel_rfl) (by simp) ?_
      refine AllReadyH.cons rfl (fun K hK => ?_) AllReadyH.nil
      go_simp
      have hne : v2.heap.size ≠ b2 := by omega
      (go_at_call 68; refine (pick_n b2 a n cap hn v2.heap.size [1, 2, 3, 8] 4 rfl (by omega) (by omega) hne v3 hsb2_3 I3).mono ?_)
      rintro e v4 ⟨M, rfl, hM, hsb2_4, hg4⟩
      have hM' : 1 ≤ M ∧ M ≤ 8 := by simp only [List.mem_cons, List.not_mem_nil, or_false] at hM; omega
      have bz4 : Below Z E v4 := below_g (bz3) (by have := Below.size (bz3); rw [hZ]; exact this) hg4 hzb2
      have hsb1_4 := hsb1_3.grownO hg4 (fun g e => by cases e; omega)
      refine hK.out _ _ (kept_cell (bz4) (cell_of1' RX) zX) (fun hHeld => ?_)
      clear hK K
      (try simp only [Act.put, List.setIfInBounds_toArray, List.set_cons_zero, List.set_cons_succ])
      refine wpAnyH_ready (rs := [8]) (by kernel_rfl) (by simp) ?_
      refine AllReadyH.cons rfl (fun K hK => ?_) AllReadyH.nil
      go_simp
      (go_at_call 66; refine (near_any b1 a n cap hn M (by omega) v4 hsb1_4).mono ?_)
      rintro e v5 ⟨y2, rfl, hy2, hsz, hg5⟩
      have bz5 : Below Z E v5 := below_g (bz4) (by have := Below.size (bz4); rw [hZ]; exact this) hg5 hzb1
      refine hK.out _ _ (kept_cell (bz5) (cell_of1' RX) zX) (fun hHeld => ?_)
      clear hK K
      (try simp only [Act.put, List.setIfInBounds_toArray, List.set_cons_zero, List.set_cons_succ])
      refine wpAnyH_ready (rs := [9]) (by kernel_rfl) (by simp) ?_
      refine AllReadyH.cons rfl (fun K hK => ?_) AllReadyH.nil
      have RAe : v5.heap[A]? = some (.cells #[.slice none 0 0] 26 (0, 0)) := (bz5.block A zA).trans RA
      have xAe := cell_of1' RAe
      have fAe := frozen_of_row v5 A 0 _ _ RAe
      go_simp
      have HIe : Ints (v5.setCell ⟨A, 0, none⟩ (.slice ax T.length cx)) ax T := ints_setA (hI.below (by rw [← hZ]; exact bz5)) hNA
      have Be : Below A w (v5.setCell ⟨A, 0, none⟩ (.slice ax T.length cx)) := (BE.trans (bz5.mono (by omega))).setCell (by simp) _
      refine hK.out _ _ ((show (v5.setCell ⟨A, 0, none⟩ (.slice ax T.length cx)).cell? ⟨X, 0, none⟩ = _ from cell_set_other (kept_cell (bz5) (cell_of1' RX) zX) (by simp; omega))) (fun hHeld => ?_)
      clear hK K
      (try simp only [Act.put, List.setIfInBounds_toArray, List.set_cons_zero, List.set_cons_succ])
      have zAe := row_lt RAe
      refine wpAnyH_take (i := 10) (v := ?_) rfl (by kernel_rfl) (by kernel_rfl) (by kernel_rfl) (fun _ _ _ h => h) (Or.inl ⟨by rfl, ?_⟩) (by assumption) ?_
      rotate_left
      · (intro w hSw; (try dsimp only at hSw); go_simp; try (with_reducible rfl))
      (try simp only [Act.put, List.setIfInBounds_toArray, List.set_cons_zero, List.set_cons_succ])
      refine wpAnyH_take (i := 11) (v := ?_) rfl (by kernel_rfl) (by kernel_rfl) (by kernel_rfl) (fun _ _ _ h => h) (Or.inl ⟨by rfl, ?_⟩) (by assumption) ?_
      rotate_left
      · (intro w hSw; (try dsimp only at hSw); go_simp; try (with_reducible rfl))
      (try simp only [Act.put, List.setIfInBounds_toArray, List.set_cons_zero, List.set_cons_succ])
      refine wpAnyH_done (by kernel_rfl) ?_ _
      (try simp only [List.getElem_toArray, List.getElem_cons_succ, List.getElem_cons_zero, Act.put, List.setIfInBounds_toArray, List.set_cons_zero, List.set_cons_succ])
      go_wp2_with fail
      refine bodyPost_ret (by rw [results_cell_tmp2w rfl]; go_simp; try rfl) rfl ?_
      exact ⟨ax, T, cx, u, y2, rfl, HIe, hax', hT, hu, hy2, by rw [← HA.out]; exact Be⟩
    refine AllReadyH.cons rfl (fun K hK => ?_) AllReadyH.nil
    go_simp
    obtain ⟨v2, hv2⟩ : ∃ u, u = v1.alloc (.cells #[.int .i64 1, .int .i64 2, .int .i64 3, .int .i64 8] 2) := ⟨_, rfl⟩
    rw [← hv2]
    have bz2 : Below Z E v2 := by rw [hv2]; exact Below.alloc (bz1) (by have := Below.size (bz1); rw [hZ]; exact this) _
    have I2 : Ints v2 (some ⟨v1.heap.size, 0, none⟩) [1, 2, 3, 8] := by rw [hv2]; exact ints_new v1 _ _
    have hsb1_2 : Src v2 b1 a n cap := by rw [hv2]; exact hsb1_1.alloc _
    have ltb1 : b1 < v1.heap.size := hsb1_1.lt
    have ltg2 : v1.heap.size < v2.heap.size := by rw [hv2]; exact lt_alloc _ _
    clear hv2
    refine hK.out _ _ (kept_cell (bz2) (cell_of1' RX) zX) (fun hHeld => ?_)
    clear hK K
    (try simp only [Act.put, List.setIfInBounds_toArray, List.set_cons_zero, List.set_cons_succ])
    refine wpAnyH_ready (rs := [5]) (by kernel_rfl) (by simp) ?_
    refine AllReadyH.cons rfl (fun K hK => ?_) AllReadyH.nil
    go_simp
    obtain ⟨b2, hb2⟩ : ∃ b, b = v2.heap.size := ⟨_, rfl⟩
    have hzb2 : Z ≤ b2 := by rw [hb2]; exact Below.size (bz2) |> fun h => by rw [hZ]; exact h
    have hfb2 := from_any a n cap hn v2 ((hyE.keep fun b o v hb h => kept_cell (bz2) h hb).mono (by rw [← hb2]; exact hzb2))
    rw [← hb2] at hfb2
    (go_at_call 64; refine hfb2.mono ?_)
    rintro e v3 ⟨rfl, hsb2_3, hbb3⟩
    rw [hb2] at hbb3
    have bz3 : Below Z E v3 := Below.trans (bz2) (hbb3.mono (by rw [← hb2]; exact hzb2))
    have hsb1_3 := hsb1_2.below hbb3 hsb1_2.lt
    have ltb1b2 : b1 < b2 := by rw [hb2]; exact hsb1_2.lt
    have I3 := I2.below hbb3
    have ltgb2 : v1.heap.size < b2 := by rw [hb2]; exact ltg2
    clear hfb2 hb2
    refine hK.out _ _ (kept_cell (bz3) (cell_of1' RX) zX) (fun hHeld => ?_)
    clear hK K
    (try simp only [Act.put, List.setIfInBounds_toArray, List.set_cons_zero, List.set_cons_succ])
    refine wpAnyH_ready (rs := [7]) (by kernel_rfl) (by simp) ?_
    refine AllReadyH.cons rfl (fun K hK => ?_) AllReadyH.nil
    go_simp
    have hne : v1.heap.size ≠ b2 := by omega
    (go_at_call 68; refine (pick_n b2 a n cap hn v1.heap.size [1, 2, 3, 8] 4 rfl (by omega) (by omega) hne v3 hsb2_3 I3).mono ?_)
    rintro e v4 ⟨M, rfl, hM, hsb2_4, hg4⟩
    have hM' : 1 ≤ M ∧ M ≤ 8 := by simp only [List.mem_cons, List.not_mem_nil, or_false] at hM; omega
    have bz4 : Below Z E v4 := below_g (bz3) (by have := Below.size (bz3); rw [hZ]; exact this) hg4 hzb2
    have hsb1_4 := hsb1_3.grownO hg4 (fun g e => by cases e; omega)
    refine hK.out _ _ (kept_cell (bz4) (cell_of1' RX) zX) (fun hHeld => ?_)
    clear hK K
    (try simp only [Act.put, List.setIfInBounds_toArray, List.set_cons_zero, List.set_cons_succ])
    refine wpAnyH_ready (rs := [8]) (by kernel_rfl) (by simp) ?_
    refine AllReadyH.cons rfl (fun K hK => ?_) AllReadyH.nil
    go_simp
    (go_at_call 66; refine (near_any b1 a n cap hn M (by omega) v4 hsb1_4).mono ?_)
    rintro e v5 ⟨y2, rfl, hy2, hsz, hg5⟩
    have bz5 : Below Z E v5 := below_g (bz4) (by have := Below.size (bz4); rw [hZ]; exact this) hg5 hzb1
    refine hK.out _ _ (kept_cell (bz5) (cell_of1' RX) zX) (fun hHeld => ?_)
    clear hK K
    (try simp only [Act.put, List.setIfInBounds_toArray, List.set_cons_zero, List.set_cons_succ])
    refine wpAnyH_ready (rs := [9]) (by kernel_rfl) (by simp) ?_
    refine AllReadyH.cons rfl (fun K hK => ?_) AllReadyH.nil
    have RAe : v5.heap[A]? = some (.cells #[.slice none 0 0] 26 (0, 0)) := (bz5.block A zA).trans RA
    have xAe := cell_of1' RAe
    have fAe := frozen_of_row v5 A 0 _ _ RAe
    go_simp
    have HIe : Ints (v5.setCell ⟨A, 0, none⟩ (.slice ax T.length cx)) ax T := ints_setA (hI.below (by rw [← hZ]; exact bz5)) hNA
    have Be : Below A w (v5.setCell ⟨A, 0, none⟩ (.slice ax T.length cx)) := (BE.trans (bz5.mono (by omega))).setCell (by simp) _
    refine hK.out _ _ ((show (v5.setCell ⟨A, 0, none⟩ (.slice ax T.length cx)).cell? ⟨X, 0, none⟩ = _ from cell_set_other (kept_cell (bz5) (cell_of1' RX) zX) (by simp; omega))) (fun hHeld => ?_)
    clear hK K
    (try simp only [Act.put, List.setIfInBounds_toArray, List.set_cons_zero, List.set_cons_succ])
    have zAe := row_lt RAe
    refine wpAnyH_take (i := 10) (v := ?_) rfl (by kernel_rfl) (by kernel_rfl) (by kernel_rfl) (fun _ _ _ h => h) (Or.inl ⟨by rfl, ?_⟩) (by assumption) ?_
    rotate_left
    · (intro w hSw; (try dsimp only at hSw); go_simp; try (with_reducible rfl))
    (try simp only [Act.put, List.setIfInBounds_toArray, List.set_cons_zero, List.set_cons_succ])
    refine wpAnyH_take (i := 11) (v := ?_) rfl (by kernel_rfl) (by kernel_rfl) (by kernel_rfl) (fun _ _ _ h => h) (Or.inl ⟨by rfl, ?_⟩) (by assumption) ?_
    rotate_left
    · (intro w hSw; (try dsimp only at hSw); go_simp; try (with_reducible rfl))
    (try simp only [Act.put, List.setIfInBounds_toArray, List.set_cons_zero, List.set_cons_succ])
    refine wpAnyH_done (by kernel_rfl) ?_ _
    (try simp only [List.getElem_toArray, List.getElem_cons_succ, List.getElem_cons_zero, Act.put, List.setIfInBounds_toArray, List.set_cons_zero, List.set_cons_succ])
    go_wp2_with fail
    refine bodyPost_ret (by rw [results_cell_tmp2w rfl]; go_simp; try rfl) rfl ?_
    exact ⟨ax, T, cx, u, y2, rfl, HIe, hax', hT, hu, hy2, by rw [← HA.out]; exact Be⟩
  refine AllReadyH.cons rfl (fun K hK => ?_) AllReadyH.nil
  go_simp
  obtain ⟨v1, hv1⟩ : ∃ u, u = (E.alloc (.cells #[.int .i64 1, .int .i64 2, .int .i64 3, .int .i64 8] 2)).drew := ⟨_, rfl⟩
  rw [← hv1]
  have bz1 : Below Z E v1 := by rw [hv1, hZ]; exact ((Below.refl E.heap.size E).alloc (Nat.le_refl _) _).drew
  have I1 : Ints v1 (some ⟨E.heap.size, 0, none⟩) [1, 2, 3, 8] := by rw [hv1]; exact (show Ints (E.alloc (.cells #[.int .i64 1, .int .i64 2, .int .i64 3, .int .i64 8] 2)) _ _ from ints_new E _ _)
  have ltg1 : E.heap.size < v1.heap.size := by rw [hv1]; exact lt_alloc _ _
  clear hv1
  refine hK.out _ _ (kept_cell (bz1) (cell_of1' RX) zX) (fun hHeld => ?_)
  clear hK K
  (try simp only [Act.put, List.setIfInBounds_toArray, List.set_cons_zero, List.set_cons_succ])
  refine wpAnyH_ready (rs := [3]) (by kernel_rfl) (by simp) ?_
  refine AllReadyH.cons rfl (fun K hK => ?_) AllReadyH.nil
  go_simp
  obtain ⟨b1, hb1⟩ : ∃ b, b = v1.heap.size := ⟨_, rfl⟩
  have hzb1 : Z ≤ b1 := by rw [hb1]; exact Below.size (bz1) |> fun h => by rw [hZ]; exact h
  have hfb1 := from_any a n cap hn v1 ((hyE.keep fun b o v hb h => kept_cell (bz1) h hb).mono (by rw [← hb1]; exact hzb1))
  rw [← hb1] at hfb1
  (go_at_call 64; refine hfb1.mono ?_)
  rintro e v2 ⟨rfl, hsb1_2, hbb2⟩
  rw [hb1] at hbb2
  have bz2 : Below Z E v2 := Below.trans (bz1) (hbb2.mono (by rw [← hb1]; exact hzb1))
  have I2 := I1.below hbb2
  have ltgb1 : E.heap.size < b1 := by rw [hb1]; exact ltg1
  clear hfb1 hb1
  refine hK.out _ _ (kept_cell (bz2) (cell_of1' RX) zX) (fun hHeld => ?_)
  clear hK K
  (try simp only [Act.put, List.setIfInBounds_toArray, List.set_cons_zero, List.set_cons_succ])
  refine wpAnyH_ready (rs := [5]) (by kernel_rfl) (by simp) ?_
  refine AllReadyH.cons rfl (fun K hK => ?_) AllReadyH.nil
  go_simp
  obtain ⟨b2, hb2⟩ : ∃ b, b = v2.heap.size := ⟨_, rfl⟩
  have hzb2 : Z ≤ b2 := by rw [hb2]; exact Below.size (bz2) |> fun h => by rw [hZ]; exact h
  have hfb2 := from_any a n cap hn v2 ((hyE.keep fun b o v hb h => kept_cell (bz2) h hb).mono (by rw [← hb2]; exact hzb2))
  rw [← hb2] at hfb2
  (go_at_call 64; refine hfb2.mono ?_)
  rintro e v3 ⟨rfl, hsb2_3, hbb3⟩
  rw [hb2] at hbb3
  have bz3 : Below Z E v3 := Below.trans (bz2) (hbb3.mono (by rw [← hb2]; exact hzb2))
  have hsb1_3 := hsb1_2.below hbb3 hsb1_2.lt
  have ltb1b2 : b1 < b2 := by rw [hb2]; exact hsb1_2.lt
  have I3 := I2.below hbb3
  have ltgb2 : E.heap.size < b2 := by omega
  clear hfb2 hb2
  refine hK.out _ _ (kept_cell (bz3) (cell_of1' RX) zX) (fun hHeld => ?_)
  clear hK K
  (try simp only [Act.put, List.setIfInBounds_toArray, List.set_cons_zero, List.set_cons_succ])
  refine wpAnyH_ready (rs := [7]) (by kernel_rfl) (by simp) ?_
  refine AllReadyH.cons rfl (fun K hK => ?_) AllReadyH.nil
  go_simp
  have hne : E.heap.size ≠ b2 := by omega
  (go_at_call 68; refine (pick_n b2 a n cap hn E.heap.size [1, 2, 3, 8] 4 rfl (by omega) (by omega) hne v3 hsb2_3 I3).mono ?_)
  rintro e v4 ⟨M, rfl, hM, hsb2_4, hg4⟩
  have hM' : 1 ≤ M ∧ M ≤ 8 := by simp only [List.mem_cons, List.not_mem_nil, or_false] at hM; omega
  have bz4 : Below Z E v4 := below_g (bz3) (by have := Below.size (bz3); rw [hZ]; exact this) hg4 hzb2
  have hsb1_4 := hsb1_3.grownO hg4 (fun g e => by cases e; omega)
  refine hK.out _ _ (kept_cell (bz4) (cell_of1' RX) zX) (fun hHeld => ?_)
  clear hK K
  (try simp only [Act.put, List.setIfInBounds_toArray, List.set_cons_zero, List.set_cons_succ])
  refine wpAnyH_ready (rs := [8]) (by kernel_rfl) (by simp) ?_
  refine AllReadyH.cons rfl (fun K hK => ?_) AllReadyH.nil
  go_simp
  (go_at_call 66; refine (near_any b1 a n cap hn M (by omega) v4 hsb1_4).mono ?_)
  rintro e v5 ⟨y2, rfl, hy2, hsz, hg5⟩
  have bz5 : Below Z E v5 := below_g (bz4) (by have := Below.size (bz4); rw [hZ]; exact this) hg5 hzb1
  refine hK.out _ _ (kept_cell (bz5) (cell_of1' RX) zX) (fun hHeld => ?_)
  clear hK K
  (try simp only [Act.put, List.setIfInBounds_toArray, List.set_cons_zero, List.set_cons_succ])
  refine wpAnyH_ready (rs := [9]) (by kernel_rfl) (by simp) ?_
  refine AllReadyH.cons rfl (fun K hK => ?_) AllReadyH.nil
  have RAe : v5.heap[A]? = some (.cells #[.slice none 0 0] 26 (0, 0)) := (bz5.block A zA).trans RA
  have xAe := cell_of1' RAe
  have fAe := frozen_of_row v5 A 0 _ _ RAe
  go_simp
  have HIe : Ints (v5.setCell ⟨A, 0, none⟩ (.slice ax T.length cx)) ax T := ints_setA (hI.below (by rw [← hZ]; exact bz5)) hNA
  have Be : Below A w (v5.setCell ⟨A, 0, none⟩ (.slice ax T.length cx)) := (BE.trans (bz5.mono (by omega))).setCell (by simp) _
  refine hK.out _ _ ((show (v5.setCell ⟨A, 0, none⟩ (.slice ax T.length cx)).cell? ⟨X, 0, none⟩ = _ from cell_set_other (kept_cell (bz5) (cell_of1' RX) zX) (by simp; omega))) (fun hHeld => ?_)
  clear hK K
  (try simp only [Act.put, List.setIfInBounds_toArray, List.set_cons_zero, List.set_cons_succ])
  have zAe := row_lt RAe
  refine wpAnyH_take (i := 10) (v := ?_) rfl (by kernel_rfl) (by kernel_rfl) (by kernel_rfl) (fun _ _ _ h => h) (Or.inl ⟨by rfl, ?_⟩) (by assumption) ?_
  rotate_left
  · (intro w hSw; (try dsimp only at hSw); go_simp; try (with_reducible rfl))
  (try simp only [Act.put, List.setIfInBounds_toArray, List.set_cons_zero, List.set_cons_succ])
  refine wpAnyH_take (i := 11) (v := ?_) rfl (by kernel_rfl) (by kernel_rfl) (by kernel_rfl) (fun _ _ _ h => h) (Or.inl ⟨by rfl, ?_⟩) (by assumption) ?_
  rotate_left
  · (intro w hSw; (try dsimp only at hSw); go_simp; try (with_reducible rfl))
  (try simp only [Act.put, List.setIfInBounds_toArray, List.set_cons_zero, List.set_cons_succ])
  refine wpAnyH_done (by kernel_rfl) ?_ _
  (try simp only [List.getElem_toArray, List.getElem_cons_succ, List.getElem_cons_zero, Act.put, List.setIfInBounds_toArray, List.set_cons_zero, List.set_cons_succ])
  go_wp2_with fail
  refine bodyPost_ret (by rw [results_cell_tmp2w rfl]; go_simp; try rfl) rfl ?_
  exact ⟨ax, T, cx, u, y2, rfl, HIe, hax', hT, hu, hy2, by rw [← HA.out]; exact Be⟩

set_option maxHeartbeats 1000000 in
theorem drawBall_any (a : Option Addr) (n cap : Nat) (hn : n ≤ 4096) (w : World) (hY : Byts w w.heap.size a n) :
    Calls Try.prog 21 #[.slice a n cap] w fun e w' => ∃ ax T cx u y, e = .returned (.tuple #[.agg #[.slice ax T.length cx], .int .i64 u, .int .i64 y]) ∧ Ints w' ax T ∧ (∀ g o, ax = some ⟨g, o, none⟩ → w.heap.size ≤ g) ∧ T.length ≤ 8 ∧ (-9223372036854775808 ≤ u ∧ u ≤ 9223372036854775807) ∧ (-9223372036854775808 ≤ y ∧ y ≤ 9223372036854775807) ∧ Below w.heap.size w w' := by
  obtain ⟨A, hA⟩ : ∃ A, A = w.heap.size := ⟨_, rfl⟩
  obtain ⟨W, hW⟩ : ∃ W, W = w.alloc (.cells #[.slice none 0 0] 26) := ⟨_, rfl⟩
  have zW : W.heap.size = A + 1 := by rw [hW, hA]; simp
  have RA0 : W.heap[A]? = some (.cells #[.slice none 0 0] 26 (0, 0)) := by rw [hW, hA]; exact heap_alloc_new w _
  have B0 : Below A w W := by rw [hW, hA]; exact (Below.refl _ w).alloc (Nat.le_refl _) _
  have hY0 : Byts W W.heap.size a n := by rw [zW]; exact ((hY.mono (by omega)).keep fun b o v hb h => by rw [hW]; exact kept_cell ((Below.refl w.heap.size w).alloc (Nat.le_refl _) _) h (by have := World.block_lt_of_cell? w _ h; exact this))
  have hc := radius_any a n cap hn W hY0
  have HA := Lib.hid hA
  have HW := Lib.hid hW
  clear hA hW hY0
  go_enter Try.func21, Try.ntmps21
  go_wp2_with fail
  rw [← HW.out, ← HA.out]
  refine hc.mono ?_
  rintro e w1 ⟨ax, T, cx, u, y, rfl, hI, hax, hT, hu, hy, hb1⟩
  have hNA : ∀ g o, ax = some ⟨g, o, none⟩ → g ≠ A := fun g o e => by have := hax g o e; omega
  have HXX := Lib.hid hax
  have RA1 := row_g RA0 (grown_of_below hb1 none) (by simp)
  have B1 : Below A w w1 := B0.trans (hb1.mono (by omega))
  have RA3 : (w1.alloc (.cells #[.slice ax T.length cx] 26)).heap[A]? = some (.cells #[.slice none 0 0] 26 (0, 0)) := row_g RA1 (World.grownBy_alloc w1 _ none) (by simp)
  have hI3 : Ints (w1.alloc (.cells #[.slice ax T.length cx] 26)) ax T := hI.below ((Below.refl _ _).alloc (Nat.le_refl _) _)
  have z1 := B1.size
  have B3 : Below A w (w1.alloc (.cells #[.slice ax T.length cx] 26)) := B1.alloc (by have := HA.out; omega) _
  have xA3 := cell_of1' RA3
  have fA3 := frozen_of_row _ A 0 _ _ RA3
  have zA3 := row_lt RA3
  have HI3 := Lib.hid hI3
  have HB3 := Lib.hid B3
  have HAX : Hid (Ints ((w1.alloc (.cells #[.slice ax T.length cx] 26)).setCell ⟨A, 0, none⟩ (.slice ax T.length cx)) ax T) := Lib.hid (by
    rcases hI3 with h | ⟨g, o, e, hl, hcc⟩
    · exact .inl h
    · refine .inr ⟨g, o, e, by simpa using hl, fun i hi => cell_set_other (hcc i hi) ?_⟩
      intro hgA
      have h1 := hcc i hi
      have h2 := hNA
      exact h2 g o e hgA)
  clear hc hb1 RA0 hI RA1 B1 hI3 B3 hNA hax z1
  go_wp2_with fail
  refine bodyPost_ret (by rw [results_cell_tmp2w rfl]; go_simp; try rfl) rfl ?_
  exact ⟨ax, T, cx, u, y, rfl, HAX.out, (fun g o e => by have := HXX.out g o e; have := B0.size; omega), hT, hu, hy, by rw [← HA.out]; exact HB3.out.setCell (by simp) _⟩

end Go.Proofs.Ytfpcdffahjoejaa

namespace Go.Proofs.Ytfpcdffahjoejaa
open Go.RowKit Cv
set_option linter.unusedVariables false
set_option linter.unusedSimpArgs false
set_option maxRecDepth 100000

theorem ownBlock_ge5 {w : World} {base : Nat} {v : Value} {L : List Int} (h : OwnInts w base v L) {g : Nat} (e : v.ownBlock = some g) : base ≤ g := by
  obtain ⟨h1, h2⟩ := h
  rcases h2 with ⟨hv, _⟩ | ⟨g', _, _, hv, hg, _⟩
  · rw [hv] at e; simp [Value.ownBlock] at e
  · rw [hv] at e; simp [Value.ownBlock] at e; omega
theorem IntsX.grownR {b : Nat} {w w' : World} {r : Option Nat} {ao : Option Addr} {S : List Int} (h : IntsX b w ao S) (hg : w.grownBy w' r) (hne : ∀ g o, ao = some ⟨g, o, none⟩ → some g ≠ r) : IntsX b w' ao S := by
  obtain ⟨h1, h2⟩ := h
  refine ⟨?_, h2⟩
  rcases h1 with h | ⟨g, o, rfl, hlt, hc⟩
  · exact .inl h
  · exact .inr ⟨g, o, rfl, Nat.lt_of_lt_of_le hlt hg.size, fun i hi => hg.cell (a := ⟨g, o + i, none⟩) (hc i hi) (by simpa using hne g o rfl)⟩
/-- numbers from 0 to k - 1, at most k of them -/
def CL (C : List Int) (k : Nat) : Prop := (∀ i, i < C.length → 0 ≤ gi C i ∧ gi C i < (k : Int)) ∧ C.length ≤ k
theorem CL.mono {C : List Int} {k : Nat} (h : CL C k) : CL C (k + 1) := ⟨fun i hi => by have := h.1 i hi; omega, by have := h.2; omega⟩
theorem CL.snoc {C : List Int} {k : Nat} (h : CL C k) : CL (C ++ [(k : Int)]) (k + 1) := by
  refine ⟨fun i hi => ?_, by rw [List.length_append, List.length_singleton]; have := h.2; omega⟩
  rw [List.length_append, List.length_singleton] at hi
  by_cases e : i < C.length
  · have := h.1 i e
    simp only [gi, List.getD] at this ⊢
    rw [List.getElem?_append_left e]
    omega
  · rw [show i = C.length by omega]
    simp [gi]
    omega
theorem cl_nil : CL [] 0 := ⟨fun i hi => by simp at hi, by simp⟩

set_option maxHeartbeats 8000000 in
theorem drawCode_any (b : Nat) (a : Option Addr) (n cap : Nat) (hn : n ≤ 4096) (ao : Option Addr) (S : List Int) (capS : Nat) (hSp : Sp S) (w : World) (hs : Src w b a n cap) (hX : IntsX b w ao S) :
    Calls Try.prog 95 #[.pointer (some ⟨b, 0, none⟩), .agg #[.slice ao S.length capS]] w fun e w' => ∃ v C, e = .returned v ∧ OwnInts w' w.heap.size v C ∧ CL C 1024 ∧ Src w' b a n cap ∧ w.grownBy w' (some b) := by
  have hbl := hs.lt
  obtain ⟨NN1, NN2⟩ := nW_bd hSp
  obtain ⟨N, hN⟩ : ∃ N : Nat, nW S = (N : Int) := ⟨(nW S).toNat, by omega⟩
  have hN4 : N ≤ 1024 := by omega
  have HSp := Lib.hid hSp
  have s1 := hSp.lo
  have s8 := hSp.hi
  obtain ⟨A, hA⟩ : ∃ A, A = w.heap.size := ⟨_, rfl⟩
  obtain ⟨W2, hW2⟩ : ∃ W2, W2 = (w.alloc (.cells #[.slice ao S.length capS] 26)).alloc (.cells #[] 2) := ⟨_, rfl⟩
  have hs2 : Src W2 b a n cap := by rw [hW2]; exact (hs.alloc _).alloc _
  have hG2 : w.grownBy W2 (some b) := by rw [hW2]; exact grown_alloc (grown_alloc (World.grownBy.refl w _) _) _
  have RA2 : W2.heap[A]? = some (.cells #[.slice ao S.length capS] 26 (0, 0)) := by
    rw [hW2, hA]; exact row_g (heap_alloc_new w _) (World.grownBy_alloc _ _ none) (by simp)
  have hX2 : IntsX b W2 ao S := by rw [hW2]; exact (hX.below (B := 0) ((Below.refl _ _).alloc (Nat.le_refl _) _)).below (B := 0) ((Below.refl _ _).alloc (Nat.le_refl _) _)
  obtain ⟨v, hv⟩ : ∃ v, v = Value.slice (some ⟨A + 1, 0, none⟩) 0 0 := ⟨_, rfl⟩
  obtain ⟨C, hC⟩ : ∃ C : List Int, C = [] := ⟨_, rfl⟩
  have own2 : OwnInts W2 (A + 1) v C := by
    rw [hW2, hv, hC]; exact own_empty _ (A + 1) (by rw [hA]; simp) (by rw [hA]; simp)
  have hXA : Hid (∀ g o, ao = some ⟨g, o, none⟩ → g < A) := Lib.hid fun g o e => by
    rcases hX.1 with h | ⟨g', o', e', hl, _⟩
    · omega
    · rw [e] at e'; cases e'; rw [hA]; exact hl
  have HA := Lib.hid hA
  have HW2 := Lib.hid hW2
  have HV := Lib.hid hv
  have HC := Lib.hid hC
  have hAb : b < A := by omega
  have hnx := next_any b a n cap hn 4 (by omega) W2 hs2
  clear hA hW2 hs hbl hX hSp hv hC NN1 NN2
  go_enter Try.func95, Try.ntmps95
  go_wp2_with fail
  rw [← HW2.out, ← HA.out]
  rw [← HV.out]
  refine hnx.mono ?_
  rintro e w3 ⟨q, rfl, q0, q1, q2, hs3, hg3⟩
  have RA3 := row_g RA2 hg3 (by simp; omega)
  have hX3 := hX2.grown hg3
  have hG3 := grown_trans hG2 hg3
  have own3 := own2.kept hg3 (.inr (fun e => by have := ownBlock_ge5 own2 e; omega))
  clear hnx hg3 RA2 hX2 hs2 hG2 own2 q1 q2
  by_cases e0 : q = 0
  · have b0 : (q == 0) = true := by simpa using e0
    clear e0
    obtain ⟨u3a, hu3a⟩ : ∃ u, u = w3.alloc (.cells #[.int .i64 2, .int .i64 2, .int .i64 3, .int .i64 4] 2) := ⟨_, rfl⟩
    have RA3a : u3a.heap[A]? = some (.cells #[.slice ao S.length capS] 26 (0, 0)) := by rw [hu3a]; exact row_g RA3 (World.grownBy_alloc w3 _ none) (by simp)
    have hX3a : IntsX b u3a ao S := by rw [hu3a]; exact hX3.below (B := 0) ((Below.refl _ _).alloc (Nat.le_refl _) _)
    have hs3a : Src u3a b a n cap := by rw [hu3a]; exact hs3.alloc _
    have hG3a : w.grownBy u3a (some b) := by rw [hu3a]; exact grown_alloc hG3 _
    have own3a : OwnInts u3a (A + 1) v C := by rw [hu3a]; exact own3.alloc _
    have I3a : Ints u3a (some ⟨w3.heap.size, 0, none⟩) [2, 2, 3, 4] := by rw [hu3a]; exact ints_new w3 _ _
    have hp3a := pick_n b a n cap hn w3.heap.size _ 4 rfl (by omega) (by omega) (by have := hs3.lt; omega) u3a hs3a I3a
    have HU3a := Lib.hid hu3a
    clear hu3a I3a
    go_wp2_with fail
    rw [← HU3a.out]
    refine hp3a.mono ?_
    rintro e w5 ⟨m, rfl, hm5, hs5, hg5⟩
    have RA5 := row_g RA3a hg5 (by simp; omega)
    have hX5 := hX3a.grown hg5
    have hG5 := grown_trans hG3a hg5
    have own5 := own3a.kept hg5 (.inr (fun e => by have := ownBlock_ge5 own3a e; omega))
    clear hp3a hg5 RA3a hX3a hs3a hG3a own3a RA3 hX3 hs3 hG3 own3
    have hm : 2 ≤ m ∧ m ≤ 4 := by simp only [List.mem_cons, List.not_mem_nil, or_false] at hm5; omega
    clear hm5
    have hn6 := next_any b a n cap hn 2 (by omega) w5 hs5
    go_wp2_with fail
    refine hn6.mono ?_
    rintro e w6 ⟨t, rfl, t0, t1, t2, hs6, hg6⟩
    have RA6 := row_g RA5 hg6 (by simp; omega)
    have hX6 := hX5.grown hg6
    have hG6 := grown_trans hG5 hg6
    have own6 := own5.kept hg6 (.inr (fun e => by have := ownBlock_ge5 own5 e; omega))
    clear hn6 hg6 RA5 hX5 hs5 hG5 own5
    go_wp2_with fail
    go_loopw [5, 8] (fun lv kv wl => ∃ (k : Nat) (Ck : List Int), k ≤ N ∧ kv = .int .i64 (k : Int) ∧ Hid (CL Ck k) ∧ OwnInts wl (A + 1) lv Ck ∧ wl.heap[A]? = some (.cells #[.slice ao S.length capS] 26 (0, 0)) ∧ IntsX b wl ao S ∧ Src wl b a n cap ∧ w.grownBy wl (some b)) (fun _ kv _ => N - (intOf kv).toNat)
    case atStart => exact ⟨0, C, Nat.zero_le _, rfl, Lib.hid (by rw [HC.out]; exact cl_nil), own6, RA6, hX6, hs6, hG6⟩
    case round =>
      clear own6 RA6 hX6 hs6 hG6
      obtain ⟨k, Ck, hk, rfl, HK, own7, RA7, hX7, hs7, hG7⟩ := hrel
      have hNc := l01N_sp ao S capS wr HSp.out hX7.1
      rw [hN] at hNc
      have xA7 := cell_of1' RA7
      by_cases hlt : k < N
      · have i1 : (k : Int) < (N : Int) := by omega
        go_wp2_with fail
        refine hNc.mono ?_
        rintro e w8 ⟨rfl, hb8⟩
        have RA8 := row_g RA7 (grown_of_below hb8 none) (by simp)
        have hX8 := hX7.below (B := 0) hb8
        have hs8 := hs7.below hb8 hs7.lt
        have hG8 := grown_trans hG7 (grown_of_below hb8 _)
        have own8 := own7.below hb8
        clear hNc hb8 RA7 hX7 hs7 hG7 own7 xA7
        have xA8 := cell_of1' RA8
        have hd := l01Digits_any ao S capS s8 HSp.out.bd (k : Int) (by omega) (by omega) w8 hX8.1
        go_wp2_with fail
        refine hd.mono ?_
        rintro e w9 ⟨g, rfl, ownD, hb9⟩
        have RA9 := row_g RA8 (grown_of_below hb9 none) (by simp)
        have hX9 := hX8.below (B := 0) hb9
        have hs9 := hs8.below hb9 hs8.lt
        have hG9 := grown_trans hG8 (grown_of_below hb9 _)
        have own9 := own8.below hb9
        clear hd hb9 RA8 hX8 hs8 hG8 own8 xA8
        have HDg : Hid (∀ j, j < S.length → 0 ≤ gi (digs S (k : Int)) j ∧ gi (digs S (k : Int)) j ≤ 4) := Lib.hid fun j hj => by rw [gi_digs _ _ _ hj]; have h1 := dig_bd S (k : Int) HSp.out.bd j hj; have h2 := HSp.out.bd j hj; omega
        have hDl : (digs S (k : Int)).length = S.length := by simp [digs]
        obtain ⟨D, hD⟩ : ∃ D, D = digs S (k : Int) := ⟨_, rfl⟩
        rw [← hD] at ownD HDg hDl
        have HDl := Lib.hid hDl
        clear hD hDl
        go_wp2_with fail
        go_loopw [10, 38] (fun sv jv wj => ∃ j x : Nat, j ≤ S.length ∧ jv = .int .i64 (j : Int) ∧ sv = .int .i64 (x : Int) ∧ x ≤ 4 * j ∧ wj = w9) (fun _ jv _ => S.length - (intOf jv).toNat)
        case atStart => exact ⟨0, 0, Nat.zero_le _, rfl, rfl, by omega, rfl⟩
        case round =>
          obtain ⟨j, x, hj, rfl, rfl, hx, hw⟩ := hrel
          subst hw
          by_cases hjl : j < S.length
          · have hck := ownD.cell (k := j) (by rw [HDl.out]; exact hjl)
            obtain ⟨d0, d1⟩ := HDg.out j hjl
            obtain ⟨y, hy⟩ : ∃ y : Nat, gi D j = (y : Int) := ⟨(gi D j).toNat, by omega⟩
            rw [hy] at hck d0 d1
            have hy4 : y ≤ 4 := by omega
            have i2 : (0 : Int) ≤ (j : Int) := by omega
            have i3 : (j : Int) < (S.length : Int) := by omega
            clear hy d0 d1
            go_wp2_with fail
            go_roundw
            case rel => exact ⟨j + 1, x + y, by omega, by go_num, by go_num, by omega, by first | rfl | trivial⟩
            case measure => simp [intOf]; omega
          · have i3 : ¬ (j : Int) < (S.length : Int) := by omega
            have hm0 : ¬ m = 0 := by omega
            have hm1 : (m == 0) = false := by simp; omega
            have hx0 : (0 : Int) ≤ (x : Int) := by omega
            have hmod : (x : Int).tmod m = (x : Int) % m := Int.tmod_eq_emod_of_nonneg hx0
            by_cases he : (x : Int) % m = t
            · have hbe : ((x : Int) % m == t) = true := by simpa using he
              have HE := Lib.hid he
              clear he
              have hlC : Ck.length ≤ 1073741824 := by have := HK.out.2; omega
              have hzA : A + 1 ≤ (wr.alloc (.cells #[.int .i64 (k : Int)] 2)).heap.size := by have := row_lt RA9; simp; omega
              go_wp2_with (at_builtin; refine wpList_append_int_at rfl _ _ rfl (A + 1) _ Ck rfl (own9.alloc _) wr.heap.size (k : Int) rfl (cell_new _ _ _) hlC hzA ?_; intro v' wz own' hgrow hnew)
              have RAz := row_g (row_g RA9 (World.grownBy_alloc wr (.cells #[.int .i64 (k : Int)] 2) none) (by simp)) hgrow (fun e => by have := ownBlock_ge5 own9 e.symm; omega)
              have hXz := (hX9.below (B := 0) ((Below.refl _ _).alloc (Nat.le_refl _) (.cells #[.int .i64 (k : Int)] 2))).grownR hgrow (fun g o e e2 => by have h1 := ownBlock_ge5 own9 e2.symm; have h2 := hXA.out g o e; omega)
              have hsz : Src wz b a n cap := (hs9.alloc _).grownO hgrow (fun g' e => by have := ownBlock_ge5 own9 e; omega)
              have hGz : w.grownBy wz (some b) := grown_over (grown_alloc hG9 _) hgrow (fun g' e => by have := ownBlock_ge5 own9 e; have := HA.out; omega)
              clear hmod
              go_roundw
              case rel => exact ⟨k + 1, Ck ++ [(k : Int)], by omega, by go_num, Lib.hid HK.out.snoc, own', RAz, hXz, hsz, hGz⟩
              case measure => simp [intOf]; omega
            · have hbe : ((x : Int) % m == t) = false := by simpa using he
              have HE := Lib.hid he
              clear he
              go_wp2_with fail
              clear hmod
              go_roundw
              case rel => exact ⟨k + 1, Ck, by omega, by go_num, Lib.hid HK.out.mono, own9, RA9, hX9, hs9, hG9⟩
              case measure => simp [intOf]; omega
      · have i1 : ¬ (k : Int) < (N : Int) := by omega
        go_wp2_with fail
        refine hNc.mono ?_
        rintro e w8 ⟨rfl, hb8⟩
        have RA8 := row_g RA7 (grown_of_below hb8 none) (by simp)
        have hX8 := hX7.below (B := 0) hb8
        have hs8 := hs7.below hb8 hs7.lt
        have hG8 := grown_trans hG7 (grown_of_below hb8 _)
        have own8 := own7.below hb8
        go_wp2_with fail
        go_ret
        exact ⟨_, _, rfl, own8.rebase (by have := HA.out; omega), ⟨fun i hi => by have := HK.out.1 i hi; omega, by have := HK.out.2; omega⟩, hs8, hG8⟩
  have b0 : (q == 0) = false := by simpa using e0
  by_cases e1 : q = 1
  · have b1 : (q == 1) = true := by simpa using e1
    clear e0 e1
    obtain ⟨u3a, hu3a⟩ : ∃ u, u = w3.alloc (.cells #[.int .i64 2, .int .i64 3, .int .i64 3] 2) := ⟨_, rfl⟩
    have RA3a : u3a.heap[A]? = some (.cells #[.slice ao S.length capS] 26 (0, 0)) := by rw [hu3a]; exact row_g RA3 (World.grownBy_alloc w3 _ none) (by simp)
    have hX3a : IntsX b u3a ao S := by rw [hu3a]; exact hX3.below (B := 0) ((Below.refl _ _).alloc (Nat.le_refl _) _)
    have hs3a : Src u3a b a n cap := by rw [hu3a]; exact hs3.alloc _
    have hG3a : w.grownBy u3a (some b) := by rw [hu3a]; exact grown_alloc hG3 _
    have own3a : OwnInts u3a (A + 1) v C := by rw [hu3a]; exact own3.alloc _
    have I3a : Ints u3a (some ⟨w3.heap.size, 0, none⟩) [2, 3, 3] := by rw [hu3a]; exact ints_new w3 _ _
    have hp3a := pick_n b a n cap hn w3.heap.size _ 3 rfl (by omega) (by omega) (by have := hs3.lt; omega) u3a hs3a I3a
    have HU3a := Lib.hid hu3a
    clear hu3a I3a
    go_wp2_with fail
    rw [← HU3a.out]
    refine hp3a.mono ?_
    rintro e w6 ⟨m, rfl, hm6, hs6, hg6⟩
    have RA6 := row_g RA3a hg6 (by simp; omega)
    have hX6 := hX3a.grown hg6
    have hG6 := grown_trans hG3a hg6
    have own6 := own3a.kept hg6 (.inr (fun e => by have := ownBlock_ge5 own3a e; omega))
    clear hp3a hg6 RA3a hX3a hs3a hG3a own3a RA3 hX3 hs3 hG3 own3
    have hm : 2 ≤ m ∧ m ≤ 3 := by simp only [List.mem_cons, List.not_mem_nil, or_false] at hm6; omega
    clear hm6
    go_wp2_with fail
    go_loopw [5, 13] (fun lv kv wl => ∃ (k : Nat) (Ck : List Int), k ≤ N ∧ kv = .int .i64 (k : Int) ∧ Hid (CL Ck k) ∧ OwnInts wl (A + 1) lv Ck ∧ wl.heap[A]? = some (.cells #[.slice ao S.length capS] 26 (0, 0)) ∧ IntsX b wl ao S ∧ Src wl b a n cap ∧ w.grownBy wl (some b)) (fun _ kv _ => N - (intOf kv).toNat)
    case atStart => exact ⟨0, C, Nat.zero_le _, rfl, Lib.hid (by rw [HC.out]; exact cl_nil), own6, RA6, hX6, hs6, hG6⟩
    case round =>
      clear own6 RA6 hX6 hs6 hG6
      obtain ⟨k, Ck, hk, rfl, HK, own7, RA7, hX7, hs7, hG7⟩ := hrel
      have hNc := l01N_sp ao S capS wr HSp.out hX7.1
      rw [hN] at hNc
      have xA7 := cell_of1' RA7
      obtain ⟨aC, cC, hvC⟩ := own_shp own7
      subst hvC
      by_cases hlt : k < N
      · have i1 : (k : Int) < (N : Int) := by omega
        go_wp2_with fail
        refine hNc.mono ?_
        rintro e w8 ⟨rfl, hb8⟩
        have RA8 := row_g RA7 (grown_of_below hb8 none) (by simp)
        have hX8 := hX7.below (B := 0) hb8
        have hs8 := hs7.below hb8 hs7.lt
        have hG8 := grown_trans hG7 (grown_of_below hb8 _)
        have own8 := own7.below hb8
        clear hNc hb8 RA7 hX7 hs7 hG7 own7 xA7
        have hlC0 : Ck.length ≤ 1024 := by have := HK.out.2; omega
        have IC := own_ints own8
        have HIC := Lib.hid IC
        clear IC
        go_wp2_with fail
        go_loopw [14, 71] (fun gv jv wj => ∃ (j : Nat) (gd : Bool), j ≤ Ck.length ∧ jv = .int .i64 (j : Int) ∧ gv = .bool gd ∧ Below w8.heap.size w8 wj) (fun _ jv _ => Ck.length - (intOf jv).toNat)
        case atStart => exact ⟨0, true, Nat.zero_le _, rfl, rfl, Below.refl _ _⟩
        case round =>
          obtain ⟨j, gd, hj, rfl, rfl, Bj⟩ := hrel
          have RAj := row_g RA8 (grown_of_below Bj none) (by simp)
          have xAj := cell_of1' RAj
          by_cases hjl : j < Ck.length
          · have i2 : (0 : Int) ≤ (j : Int) := by omega
            have i3 : (j : Int) < (Ck.length : Int) := by omega
            have sj := Bj.size
            cases gd with
            | false =>
              go_wp2_with fail
              have fA := fam_cell xAj
              refine wp_region_fam (by kernel_rfl) (by kernel_rfl) ?_
              repeat (go_big_quiet_step (fail))
              refine wpQuiet_nil ?_
              rintro _ ⟨y, rfl⟩
              have hb2 := fam_below y
              generalize fam wr y = w2 at hb2 ⊢
              clear fA
              go_wp2_with fail
              go_roundw
              case rel => exact ⟨j + 1, false, by omega, by go_num, rfl, Bj.trans (hb2.mono sj)⟩
              case measure => simp [intOf]; omega
            | true =>
              obtain ⟨gC, oC, hgC, hlC, hcC⟩ := (HIC.out.below Bj).at hjl
              subst hgC
              have hck := hcC j hjl
              obtain ⟨c0, c1⟩ := HK.out.1 j hjl
              have hdist := fun W hI => l01Distance_any ao S capS s8 HSp.out.bd (gi Ck j) (k : Int) c0 (by omega) (by omega) (by omega) W hI
              obtain ⟨D, hD⟩ : ∃ D, D = dist S (gi Ck j) (k : Int) := ⟨_, rfl⟩
              rw [← hD] at hdist
              have hIX := (hX8.below (B := 0) Bj).1
              clear hcC hD c0 c1
              go_wp2_with fail
              have fA := fam_cell xAj
              have fC := fam_cell hck
              refine wp_region_fam (by kernel_rfl) (by kernel_rfl) ?_
              repeat (go_big_quiet_step ((go_at_call 49; exact fam_calls (hdist _ (hIX.below (fam_below _))))))
              refine wpQuiet_nil ?_
              rintro _ ⟨y, rfl⟩
              have hb2 := fam_below y
              generalize fam wr y = w2 at hb2 ⊢
              clear fA fC hdist hIX
              go_wp2_with fail
              go_roundw
              case rel => exact ⟨j + 1, _, by omega, by go_num, rfl, Bj.trans (hb2.mono sj)⟩
              case measure => simp [intOf]; omega
          · have i3 : ¬ (j : Int) < (Ck.length : Int) := by omega
            have hX9 := hX8.below (B := 0) Bj
            have hs9 := hs8.below Bj hs8.lt
            have hG9 := grown_trans hG8 (grown_of_below Bj _)
            have own9 := own8.below Bj
            have RA9 := RAj
            cases gd with
            | true =>
              have hlC : Ck.length ≤ 1073741824 := by have := HK.out.2; omega
              have hzA : A + 1 ≤ (wr.alloc (.cells #[.int .i64 (k : Int)] 2)).heap.size := by have := row_lt RA9; simp; omega
              go_wp2_with (at_builtin; refine wpList_append_int_at rfl _ _ rfl (A + 1) _ Ck rfl (own9.alloc _) wr.heap.size (k : Int) rfl (cell_new _ _ _) hlC hzA ?_; intro v' wz own' hgrow hnew)
              have RAz := row_g (row_g RA9 (World.grownBy_alloc wr (.cells #[.int .i64 (k : Int)] 2) none) (by simp)) hgrow (fun e => by have := ownBlock_ge5 own9 e.symm; omega)
              have hXz := (hX9.below (B := 0) ((Below.refl _ _).alloc (Nat.le_refl _) (.cells #[.int .i64 (k : Int)] 2))).grownR hgrow (fun g o e e2 => by have h1 := ownBlock_ge5 own9 e2.symm; have h2 := hXA.out g o e; omega)
              have hsz : Src wz b a n cap := (hs9.alloc _).grownO hgrow (fun g' e => by have := ownBlock_ge5 own9 e; omega)
              have hGz : w.grownBy wz (some b) := grown_over (grown_alloc hG9 _) hgrow (fun g' e => by have := ownBlock_ge5 own9 e; have := HA.out; omega)
              go_roundw
              case rel => exact ⟨k + 1, Ck ++ [(k : Int)], by omega, by go_num, Lib.hid HK.out.snoc, own', RAz, hXz, hsz, hGz⟩
              case measure => simp [intOf]; omega
            | false =>
              go_wp2_with fail
              go_roundw
              case rel => exact ⟨k + 1, Ck, by omega, by go_num, Lib.hid HK.out.mono, own9, RA9, hX9, hs9, hG9⟩
              case measure => simp [intOf]; omega
      · have i1 : ¬ (k : Int) < (N : Int) := by omega
        go_wp2_with fail
        refine hNc.mono ?_
        rintro e w8 ⟨rfl, hb8⟩
        have RA8 := row_g RA7 (grown_of_below hb8 none) (by simp)
        have hX8 := hX7.below (B := 0) hb8
        have hs8 := hs7.below hb8 hs7.lt
        have hG8 := grown_trans hG7 (grown_of_below hb8 _)
        have own8 := own7.below hb8
        go_wp2_with fail
        go_ret
        exact ⟨_, _, rfl, own8.rebase (by have := HA.out; omega), ⟨fun i hi => by have := HK.out.1 i hi; omega, by have := HK.out.2; omega⟩, hs8, hG8⟩
  · have b1 : (q == 1) = false := by simpa using e1
    clear e0 e1
    obtain ⟨u3a, hu3a⟩ : ∃ u, u = w3.alloc (.cells #[.int .i64 3, .int .i64 8, .int .i64 20] 2) := ⟨_, rfl⟩
    have RA3a : u3a.heap[A]? = some (.cells #[.slice ao S.length capS] 26 (0, 0)) := by rw [hu3a]; exact row_g RA3 (World.grownBy_alloc w3 _ none) (by simp)
    have hX3a : IntsX b u3a ao S := by rw [hu3a]; exact hX3.below (B := 0) ((Below.refl _ _).alloc (Nat.le_refl _) _)
    have hs3a : Src u3a b a n cap := by rw [hu3a]; exact hs3.alloc _
    have hG3a : w.grownBy u3a (some b) := by rw [hu3a]; exact grown_alloc hG3 _
    have own3a : OwnInts u3a (A + 1) v C := by rw [hu3a]; exact own3.alloc _
    have I3a : Ints u3a (some ⟨w3.heap.size, 0, none⟩) [3, 8, 20] := by rw [hu3a]; exact ints_new w3 _ _
    have hp3a := pick_n b a n cap hn w3.heap.size _ 3 rfl (by omega) (by omega) (by have := hs3.lt; omega) u3a hs3a I3a
    have HU3a := Lib.hid hu3a
    clear hu3a I3a
    go_wp2_with fail
    rw [← HU3a.out]
    refine hp3a.mono ?_
    rintro e w6 ⟨m, rfl, hm6, hs6, hg6⟩
    have RA6 := row_g RA3a hg6 (by simp; omega)
    have hX6 := hX3a.grown hg6
    have hG6 := grown_trans hG3a hg6
    have own6 := own3a.kept hg6 (.inr (fun e => by have := ownBlock_ge5 own3a e; omega))
    clear hp3a hg6 RA3a hX3a hs3a hG3a own3a RA3 hX3 hs3 hG3 own3
    have hm : 3 ≤ m ∧ m ≤ 20 := by simp only [List.mem_cons, List.not_mem_nil, or_false] at hm6; omega
    clear hm6
    have hn5 := next_any b a n cap hn m (by omega) w6 hs6
    go_wp2_with fail
    refine hn5.mono ?_
    rintro e w5 ⟨x, rfl, x0, x1, x2, hs5, hg5⟩
    have RA5 := row_g RA6 hg5 (by simp; omega)
    have hX5 := hX6.grown hg5
    have hG5 := grown_trans hG6 hg5
    have own5 := own6.kept hg5 (.inr (fun e => by have := ownBlock_ge5 own6 e; omega))
    clear hn5 hg5 RA6 hX6 hs6 hG6 own6
    have hx : x < 20 := by have := x2 (by omega); omega
    obtain ⟨k0, rfl⟩ : ∃ k0 : Nat, x = k0 := ⟨x.toNat, by omega⟩
    clear x1 x2
    go_wp2_with fail
    go_loopw [5, 16] (fun lv kv wl => ∃ (k : Nat) (Ck : List Int) (g c : Nat), k ≤ 20 ∧ kv = .int .i64 (k : Int) ∧ lv = .slice (some ⟨g, 0, none⟩) Ck.length c ∧ Hid ((∀ i, i < Ck.length → 0 ≤ gi Ck i ∧ gi Ck i < (N : Int)) ∧ Ck.length + k ≤ 40) ∧ OwnInts wl (A + 1) (.slice (some ⟨g, 0, none⟩) Ck.length c) Ck ∧ wl.heap[A]? = some (.cells #[.slice ao S.length capS] 26 (0, 0)) ∧ IntsX b wl ao S ∧ Src wl b a n cap ∧ w.grownBy wl (some b)) (fun _ kv _ => (intOf kv).toNat)
    case atStart => exact ⟨k0, C, A + 1, 0, by omega, rfl, by rw [HV.out, HC.out]; rfl, Lib.hid ⟨by rw [HC.out]; intro i hi; simp at hi, by rw [HC.out]; simp; omega⟩, by rw [HC.out] at own5 ⊢; rw [HV.out] at own5; exact own5, RA5, hX5, hs5, hG5⟩
    case round =>
      clear own5 RA5 hX5 hs5 hG5 hx x0
      obtain ⟨k, Ck, g, c, hk, rfl, rfl, HK, own7, RA7, hX7, hs7, hG7⟩ := hrel
      have hNc := l01N_sp ao S capS wr HSp.out hX7.1
      rw [hN] at hNc
      have xA7 := cell_of1' RA7
      by_cases hlt : 0 < k
      · have i1 : (0 : Int) < (k : Int) := by omega
        go_wp2_with fail
        refine hNc.mono ?_
        rintro e w8 ⟨rfl, hb8⟩
        have RA8 := row_g RA7 (grown_of_below hb8 none) (by simp)
        have hX8 := hX7.below (B := 0) hb8
        have hs8 := hs7.below hb8 hs7.lt
        have hG8 := grown_trans hG7 (grown_of_below hb8 _)
        have own8 := own7.below hb8
        clear hNc hb8 RA7 hX7 hs7 hG7 own7 xA7
        have hN1 : 1 ≤ N := by have h1 := (nW_bd HSp.out).1; rw [hN] at h1; omega
        have hn9 := next_any b a n cap hn (N : Int) (by omega) w8 hs8
        go_wp2_with fail
        refine hn9.mono ?_
        rintro e w9 ⟨y, rfl, y0, y1, y2, hs9, hg9⟩
        have RA9 := row_g RA8 hg9 (by simp; omega)
        have hX9 := hX8.grown hg9
        have hG9 := grown_trans hG8 hg9
        have own9 := own8.kept hg9 (.inr (fun e => by have := ownBlock_ge5 own8 e; omega))
        clear hn9 hg9 RA8 hX8 hs8 hG8 own8
        have hyN : y < (N : Int) := y2 (by omega)
        have hput := l01Put_any (A + 1) g c Ck y w9 (by have := HK.out.2; omega) own9
        go_wp2_with fail
        refine hput.mono ?_
        rintro e wp ⟨g', c', rfl, ownp, hbp⟩
        have RAp := row_g RA9 (grown_of_below hbp none) (by simp)
        have hXp := hX9.below (B := 0) hbp
        have hsp := hs9.below hbp hs9.lt
        have hGp := grown_trans hG9 (grown_of_below hbp _)
        have HKp : Hid ((∀ i, i < (putL Ck y).length → 0 ≤ gi (putL Ck y) i ∧ gi (putL Ck y) i < (N : Int)) ∧ (putL Ck y).length + (k - 1) ≤ 40) := Lib.hid ⟨fun i hi => by
          rcases (mem_putL Ck y _).1 (gi_mem hi) with h | h
          · obtain ⟨j, hj, e⟩ := mem_gi h
            rw [← e]; exact HK.out.1 j hj
          · rw [h]; omega, by have h1 := (putL_len Ck y).2; have h2 := HK.out.2; omega⟩
        clear hput RA9 hX9 hs9 hG9 own9 hbp y0 y1 y2 hyN
        go_wp2_with fail
        go_roundw
        case rel => exact ⟨k - 1, putL Ck y, g', c', by omega, (by rw [show ((k - 1 : Nat) : Int) = (k : Int) - 1 by omega]), rfl, HKp, ownp, RAp, hXp, hsp, hGp⟩
        case measure => simp [intOf]; omega
      · have i1 : ¬ (0 : Int) < (k : Int) := by omega
        go_wp2_with fail
        go_ret
        exact ⟨_, rfl, Ck, own7.rebase (by have := HA.out; omega), ⟨fun i hi => by have := HK.out.1 i hi; omega, by have := HK.out.2; omega⟩, hs7, hG7⟩

end Go.Proofs.Ytfpcdffahjoejaa

namespace Go.Proofs.Ytfpcdffahjoejaa
open Go.RowKit Cv
set_option linter.unusedVariables false
set_option linter.unusedSimpArgs false
set_option maxRecDepth 100000

theorem l01OwnX_any (ao : Option Addr) (T : List Int) (cap : Nat) (hc : ao = none → cap = 0) (hl : T.length ≤ 1048576) (w : World) (hT : Ints w ao T) :
    Calls Try.prog 87 #[.slice ao T.length cap] w fun e w' => ∃ g c, e = .returned (.slice (some ⟨g, 0, none⟩) T.length c) ∧ OwnInts w' w.heap.size (.slice (some ⟨g, 0, none⟩) T.length c) T ∧ Below w.heap.size w w' := by
  cases ao with
  | some ad => exact l01Own_any ad T T.length cap rfl hl w hT
  | none =>
    obtain rfl := hc rfl
    have hT0 : T.length = 0 := by
      rcases hT with h | ⟨g, o, e, _⟩
      · exact h
      · cases e
    obtain rfl : T = [] := List.eq_nil_of_length_eq_zero hT0
    have B0 : Below w.heap.size w (w.alloc (.cells #[] 2)) := by go_grown
    have o0 := own_empty w w.heap.size (Nat.le_refl _) rfl
    obtain ⟨i0, hi, hz0, hz1, hz2⟩ := info_parts infoI64
    go_enter Try.func87, Try.ntmps87
    go_wp2_with (at_builtin; refine wpList_append_own_none rfl _ _ 24 rfl w.heap.size 2 i0 1 Try.underlying24 hi _ 0 _ rfl o0 rfl ?_)
    go_ret
    exact ⟨w.heap.size, 0, rfl, o0, B0⟩

set_option maxHeartbeats 4000000 in
theorem badCode_any (b : Nat) (a : Option Addr) (n cap : Nat) (hn : n ≤ 4096) (ao : Option Addr) (S : List Int) (capS : Nat) (hSp : Sp S) (ac : Option Addr) (C : List Int) (cc : Nat) (hac : ac = none → cc = 0) (hCl : C.length ≤ 1048576) (w : World) (hs : Src w b a n cap) (hX : IntsX b w ao S) (hXC : IntsX b w ac C) :
    Calls Try.prog 97 #[.pointer (some ⟨b, 0, none⟩), .agg #[.slice ao S.length capS], .slice ac C.length cc] w fun e w' => ∃ g c T, e = .returned (.slice (some ⟨g, 0, none⟩) T.length c) ∧ OwnInts w' w.heap.size (.slice (some ⟨g, 0, none⟩) T.length c) T ∧ T.length ≤ 1048577 ∧ Src w' b a n cap ∧ w.grownBy w' (some b) := by
  have hbl := hs.lt
  obtain ⟨NN1, NN2⟩ := nW_bd hSp
  obtain ⟨N, hN⟩ : ∃ N : Nat, nW S = (N : Int) := ⟨(nW S).toNat, by omega⟩
  have hN4 : N ≤ 1024 := by omega
  have HSp := Lib.hid hSp
  obtain ⟨A, hA⟩ : ∃ A, A = w.heap.size := ⟨_, rfl⟩
  obtain ⟨W2, hW2⟩ : ∃ W2, W2 = w.alloc (.cells #[.slice ao S.length capS] 26) := ⟨_, rfl⟩
  have hs2 : Src W2 b a n cap := by rw [hW2]; exact hs.alloc _
  have hG2 : w.grownBy W2 (some b) := by rw [hW2]; exact grown_alloc (World.grownBy.refl w _) _
  have RA2 : W2.heap[A]? = some (.cells #[.slice ao S.length capS] 26 (0, 0)) := by rw [hW2, hA]; exact heap_alloc_new w _
  have hX2 : IntsX b W2 ao S := by rw [hW2]; exact hX.below (B := 0) ((Below.refl _ _).alloc (Nat.le_refl _) _)
  have hXC2 : IntsX b W2 ac C := by rw [hW2]; exact hXC.below (B := 0) ((Below.refl _ _).alloc (Nat.le_refl _) _)
  have zW : W2.heap.size = A + 1 := by rw [hW2, hA]; simp
  have hXA : Hid (∀ g o, ao = some ⟨g, o, none⟩ → g < A) := Lib.hid fun g o e => by
    rcases hX.1 with h | ⟨g', o', e', hl, _⟩
    · have := hSp.lo; omega
    · rw [e] at e'; cases e'; rw [hA]; exact hl
  have hown := l01OwnX_any ac C cc hac (by omega) W2 hXC2.1
  rw [zW] at hown
  have HA := Lib.hid hA
  have HW2 := Lib.hid hW2
  have hAb : b < A := by omega
  clear hA hW2 hs hbl hX hSp hXC NN1 NN2
  go_enter Try.func97, Try.ntmps97
  go_wp2_with fail
  rw [← HW2.out, ← HA.out]
  refine hown.mono ?_
  rintro e w3 ⟨g, c, rfl, own3, hb3⟩
  rw [← zW] at hb3
  have RA3 := row_g RA2 (grown_of_below hb3 none) (by simp)
  have hX3 := hX2.below (B := 0) hb3
  have hs3 := hs2.below hb3 hs2.lt
  have hG3 := grown_trans hG2 (grown_of_below hb3 _)
  have hg1 : A + 1 ≤ g := ownBlock_ge5 own3 rfl
  have hnx := next_any b a n cap hn 30 (by omega) w3 hs3
  clear hown hb3 RA2 hX2 hs2 hG2 hXC2 zW
  go_wp2_with fail
  refine hnx.mono ?_
  rintro e w4 ⟨q, rfl, q0, q1, q2, hs4, hg4⟩
  have RA4 := row_g RA3 hg4 (by simp; omega)
  have hX4 := hX3.grown hg4
  have hG4 := grown_trans hG3 hg4
  have own4 := own3.kept hg4 (.inr (by simp [Value.ownBlock]; omega))
  clear hnx hg4 RA3 hX3 hs3 hG3 own3 q1 q2
  have xA4 := cell_of1' RA4
  by_cases e0 : q = 0
  · have b0 : (q == 0) = true := by simpa using e0
    clear e0
    have hNc := l01N_sp ao S capS w4 HSp.out hX4.1
    rw [hN] at hNc
    go_wp2_with fail
    refine hNc.mono ?_
    rintro e w5 ⟨rfl, hb5⟩
    have hs5 := hs4.below hb5 hs4.lt
    have hG5 := grown_trans hG4 (grown_of_below hb5 _)
    have own5 := own4.below hb5
    clear hNc hb5 RA4 hX4 hs4 hG4 own4 xA4
    obtain ⟨u5, hu5⟩ : ∃ u, u = w5.alloc (.cells #[.int .i64 (-1), .int .i64 (N : Int), .int .i64 0, .int .i64 1099511627776] 2) := ⟨_, rfl⟩
    have hs5a : Src u5 b a n cap := by rw [hu5]; exact hs5.alloc _
    have hG5a : w.grownBy u5 (some b) := by rw [hu5]; exact grown_alloc hG5 _
    have own5a : OwnInts u5 (A + 1) (.slice (some ⟨g, 0, none⟩) C.length c) C := by rw [hu5]; exact own5.alloc _
    have I5a : Ints u5 (some ⟨w5.heap.size, 0, none⟩) [-1, (N : Int), 0, 1099511627776] := by rw [hu5]; exact ints_new w5 _ _
    have hp5a := pick_n b a n cap hn w5.heap.size _ 4 rfl (by omega) (by omega) (by have := hs5.lt; omega) u5 hs5a I5a
    have HU5a := Lib.hid hu5
    clear hu5 I5a
    go_wp2_with fail
    rw [← HU5a.out]
    refine hp5a.mono ?_
    rintro e w6 ⟨z, rfl, hz, hs6, hg6⟩
    have hG6 := grown_trans hG5a hg6
    have own6 := own5a.kept hg6 (.inr (by simp [Value.ownBlock]; omega))
    have hzA : A + 1 ≤ (w6.alloc (.cells #[.int .i64 z] 2)).heap.size := by have := own6.base_le; simp; omega
    have hlC : C.length ≤ 1073741824 := by omega
    clear hp5a hg6 hs5a hG5a own5a hz
    go_wp2_with (at_builtin; refine wpList_append_int_at rfl _ _ rfl (A + 1) _ C rfl (own6.alloc _) w6.heap.size z rfl (cell_new _ _ _) hlC hzA ?_; intro v' wz own' hgrow hnew)
    have hsz : Src wz b a n cap := (hs6.alloc _).grownO hgrow (fun g' e => by have := ownBlock_ge5 own6 e; omega)
    have hGz : w.grownBy wz (some b) := grown_over (grown_alloc hG6 _) hgrow (fun g' e => by have := ownBlock_ge5 own6 e; have := HA.out; omega)
    obtain ⟨g', c', hv, _⟩ := own_some own' (by simp)
    subst hv
    go_ret
    exact ⟨g', c', _, rfl, own'.rebase (by have := HA.out; omega), by rw [List.length_append, List.length_singleton]; omega, hsz, hGz⟩
  have b0 : (q == 0) = false := by simpa using e0
  by_cases e1 : q = 1
  · have b1 : (q == 1) = true := by simpa using e1
    clear e0 e1
    by_cases hl1 : 1 < C.length
    · have i1 : (1 : Int) < (C.length : Int) := by omega
      have i0 : (0 : Int) < (C.length : Int) := by omega
      have hcell := own4.cell (k := 1) hl1
      have hfree := own4.free 0
      have hcell0 := own4.cell (k := 0) (by omega)
      go_wp2_with fail
      go_ret
      have hs5 := hs4.setO ⟨g, 0, none⟩ (by simp; omega) (.int .i64 (gi C 1))
      have hG5 := grown_set hG4 ⟨g, 0, none⟩ (by simp; have := HA.out; omega) (.int .i64 (gi C 1))
      have own5 := own4.stored 0 (gi C 1)
      exact ⟨g, c, C.set 0 (gi C 1), by rw [List.length_set]; rfl, by rw [List.length_set]; exact own5.rebase (by have := HA.out; omega), by rw [List.length_set]; omega, hs5, hG5⟩
    · have i1 : ¬ (1 : Int) < (C.length : Int) := by omega
      go_wp2_with fail
      go_ret
      exact ⟨g, c, C, rfl, own4.rebase (by have := HA.out; omega), by omega, hs4, hG4⟩
  · have b1 : (q == 1) = false := by simpa using e1
    clear e0 e1
    go_wp2_with fail
    go_ret
    exact ⟨g, c, C, rfl, own4.rebase (by have := HA.out; omega), by omega, hs4, hG4⟩

end Go.Proofs.Ytfpcdffahjoejaa

namespace Go.Proofs.Ytfpcdffahjoejaa
open Go.RowKit Cv
set_option linter.unusedVariables false
set_option linter.unusedSimpArgs false
set_option maxRecDepth 100000

theorem own_cap0 {w : World} {base n cap : Nat} {a : Option Addr} {T : List Int} (h : OwnInts w base (.slice a n cap) T) (e : a = none) : cap = 0 := by
  subst e
  rcases h.2 with ⟨hv, _⟩ | ⟨g', _, _, hv, _⟩
  · simp only [Value.slice.injEq] at hv; exact hv.2.2
  · simp at hv

set_option maxHeartbeats 8000000 in
theorem l02With_of (hGr : ∀ (ao : Option Addr) (S : List Int) (cap : Nat) (r : Int) (w : World), Sp S → 1 ≤ r → r ≤ 8 → Ints w ao S → Calls Try.prog 96 #[.agg #[.slice ao S.length cap], .int .i64 r] w fun e w' => ∃ v L k, e = .returned (.tuple #[v, .int .i64 k]) ∧ OwnInts w' w.heap.size v L ∧ L.length ≤ 1048576 ∧ Below w.heap.size w w')
    (a : Option Addr) (n cap : Nat) (hn : n ≤ 4096) (w : World) (hY : Byts w w.heap.size a n) :
    Calls Try.prog 88 #[.slice a n cap] w fun e w' => ∃ ax T cx g cg F r, e = .returned (.tuple #[.agg #[.slice ax T.length cx], .slice (some ⟨g, 0, none⟩) F.length cg, .int .i64 r]) ∧ Ints w' ax T ∧ (∀ g o, ax = some ⟨g, o, none⟩ → w.heap.size ≤ g) ∧ T.length ≤ 8 ∧ OwnInts w' w.heap.size (.slice (some ⟨g, 0, none⟩) F.length cg) F ∧ F.length ≤ 1048577 ∧ (-9223372036854775808 ≤ r ∧ r ≤ 9223372036854775807) ∧ Below w.heap.size w w' := by
  obtain ⟨A, hA⟩ : ∃ A, A = w.heap.size := ⟨_, rfl⟩
  obtain ⟨W, hW⟩ : ∃ W, W = w.alloc (.cells #[.slice none 0 0] 26) := ⟨_, rfl⟩
  have zW : W.heap.size = A + 1 := by rw [hW, hA]; simp
  have RA0 : W.heap[A]? = some (.cells #[.slice none 0 0] 26 (0, 0)) := by rw [hW, hA]; exact heap_alloc_new w _
  have B0 : Below A w W := by rw [hW, hA]; exact (Below.refl _ w).alloc (Nat.le_refl _) _
  have hY0 : Byts W W.heap.size a n := by rw [zW]; exact ((hY.mono (by omega)).keep fun b o v hb h => by rw [hW]; exact kept_cell ((Below.refl w.heap.size w).alloc (Nat.le_refl _) _) h (by have := World.block_lt_of_cell? w _ h; exact this))
  have hfr := from_any a n cap hn W hY0
  have HA := Lib.hid hA
  have HW := Lib.hid hW
  obtain ⟨b, hb⟩ : ∃ b, b = W.heap.size := ⟨_, rfl⟩
  rw [← hb] at hfr
  have hbA : b = A + 1 := by omega
  have HB := Lib.hid hb
  clear hA hW hY0
  go_enter Try.func88, Try.ntmps88
  go_wp2_with fail
  rw [← HW.out, ← HA.out]
  refine hfr.mono ?_
  rintro e w1 ⟨rfl, hs1, hb1⟩
  rw [hb] at hb1
  have RA1 := row_g RA0 (grown_of_below hb1 none) (by simp)
  have B1 : Below A w w1 := B0.trans (hb1.mono (by omega))
  have hd := small_any b a n cap hn w1 hs1
  have hAb : A < b := by omega
  have z1 := hs1.lt
  clear hfr hb1 RA0 B0 hs1 hb zW hbA
  go_wp2_with fail
  refine hd.mono ?_
  rintro e w2 ⟨v, S, rfl, own2, hSp, hs2, hg2⟩
  obtain ⟨x, c, hv⟩ := own_shp own2
  subst hv
  have RA2 := row_g RA1 hg2 (by simp; omega)
  have B2 := below_g B1 (by omega) hg2 (by omega)
  have hX2 := intsX_own own2 z1
  have z2 := hs2.lt
  have HXs := Lib.hid (own_blk own2)
  clear hd hg2 RA1 B1 own2 z1
  obtain ⟨X, hX⟩ : ∃ X, X = w2.heap.size := ⟨_, rfl⟩
  obtain ⟨W3, hW3⟩ : ∃ W3, W3 = w2.alloc (.cells #[.slice x S.length c] 26) := ⟨_, rfl⟩
  have RX3 : W3.heap[X]? = some (.cells #[.slice x S.length c] 26 (0, 0)) := by rw [hW3, hX]; exact heap_alloc_new _ _
  have RA3 : W3.heap[A]? = some (.cells #[.slice none 0 0] 26 (0, 0)) := by rw [hW3]; exact row_g RA2 (World.grownBy_alloc w2 _ none) (by simp)
  have hs3 : Src W3 b a n cap := by rw [hW3]; exact hs2.alloc _
  have hX3 : IntsX b W3 x S := by rw [hW3]; exact hX2.below (B := 0) ((Below.refl _ _).alloc (Nat.le_refl _) _)
  have B3 : Below A w W3 := by rw [hW3]; exact B2.alloc (by omega) _
  rw [← hX] at z2 HXs
  have HX := Lib.hid hX
  have HW3 := Lib.hid hW3
  clear RA2 B2 hX2 hs2 hX hW3
  have hdc := drawCode_any b a n cap hn x S c hSp W3 hs3 hX3
  have xX3 := cell_of1' RX3
  have zbX : b < X := z2
  have zAX : A < X := by omega
  go_wp2_with fail
  rw [← HW3.out, ← HX.out]
  refine hdc.mono ?_
  rintro e w4 ⟨vC, C, rfl, ownC, hCL, hs4, hg4⟩
  obtain ⟨aC, cC, hvC⟩ := own_shp ownC
  subst hvC
  have RX4 := row_g RX3 hg4 (by simp; omega)
  have RA4 := row_g RA3 hg4 (by simp; omega)
  have hX4 := hX3.grown hg4
  have B4 := below_g B3 (by have := hs3.lt; omega) hg4 (by omega)
  have hXC4 := intsX_own ownC hs3.lt
  have haC := own_cap0 ownC
  have hCl : C.length ≤ 1048576 := by have := hCL.2; omega
  clear hdc ownC hCL hg4 RX3 RA3 hX3 B3 hs3 xX3
  have hnr := near_any b a n cap hn 8 (by omega) w4 hs4
  go_wp2_with fail
  refine hnr.mono ?_
  rintro e w5 ⟨y, rfl, hy, hs5, hg5⟩
  have RX5 := row_g RX4 hg5 (by simp; omega)
  have RA5 := row_g RA4 hg5 (by simp; omega)
  have hX5 := hX4.grown hg5
  have B5 := below_g B4 (by have := hs4.lt; omega) hg5 (by omega)
  have hXC5 := hXC4.grown hg5
  clear hnr hg5 RX4 RA4 hX4 hXC4 B4 hs4
  obtain ⟨u5, hu5⟩ : ∃ u, u = w5.alloc (.cells #[.int .i64 0, .int .i64 1, .int .i64 1, .int .i64 1, .int .i64 2, .int .i64 y] 2) := ⟨_, rfl⟩
  have RX6 : u5.heap[X]? = some (.cells #[.slice x S.length c] 26 (0, 0)) := by rw [hu5]; exact row_g RX5 (World.grownBy_alloc w5 _ none) (by simp)
  have RA6 : u5.heap[A]? = some (.cells #[.slice none 0 0] 26 (0, 0)) := by rw [hu5]; exact row_g RA5 (World.grownBy_alloc w5 _ none) (by simp)
  have hs6 : Src u5 b a n cap := by rw [hu5]; exact hs5.alloc _
  have hX6 : IntsX b u5 x S := by rw [hu5]; exact hX5.below (B := 0) ((Below.refl _ _).alloc (Nat.le_refl _) _)
  have hXC6 : IntsX b u5 aC C := by rw [hu5]; exact hXC5.below (B := 0) ((Below.refl _ _).alloc (Nat.le_refl _) _)
  have B6 : Below A w u5 := by rw [hu5]; exact B5.alloc (by have := hs5.lt; omega) _
  have I6 : Ints u5 (some ⟨w5.heap.size, 0, none⟩) [0, 1, 1, 1, 2, y] := by rw [hu5]; exact ints_new w5 _ _
  have hp6 := pick_n b a n cap hn w5.heap.size _ 6 rfl (by omega) (by omega) (by have := hs5.lt; omega) u5 hs6 I6
  have HU5 := Lib.hid hu5
  clear hu5 I6 RX5 RA5 hX5 hXC5 B5 hs5
  go_wp2_with fail
  rw [← HU5.out]
  refine hp6.mono ?_
  rintro e w7 ⟨r, rfl, hr, hs7, hg7⟩
  replace hr : -9223372036854775808 ≤ r ∧ r ≤ 9223372036854775807 := by simp only [List.mem_cons, List.not_mem_nil, or_false] at hr; omega
  have RX7 := row_g RX6 hg7 (by simp; omega)
  have RA7 := row_g RA6 hg7 (by simp; omega)
  have hX7 := hX6.grown hg7
  have B7 := below_g B6 (by have := hs6.lt; omega) hg7 (by omega)
  have hXC7 := hXC6.grown hg7
  clear hp6 hg7 RX6 RA6 hX6 hXC6 B6 hs6
  have hnx := next_any b a n cap hn 4 (by omega) w7 hs7
  go_wp2_with fail
  refine hnx.mono ?_
  rintro e w8 ⟨q, rfl, q0, q1, q2, hs8, hg8⟩
  have RX8 := row_g RX7 hg8 (by simp; omega)
  have RA8 := row_g RA7 hg8 (by simp; omega)
  have hX8 := hX7.grown hg8
  have B8 := below_g B7 (by have := hs7.lt; omega) hg8 (by omega)
  have hXC8 := hXC7.grown hg8
  clear hnx hg8 RX7 RA7 hX7 hXC7 B7 hs7 q0 q1 q2
  have xX8 := cell_of1' RX8
  by_cases e0 : q = 0
  · have b0 : (q == 0) = true := by simpa using e0
    clear e0
    have hG := hGr x S c (max (min r 8) 1) w8 hSp (by omega) (by omega) hX8.1
    go_wp2_with fail
    refine hG.mono ?_
    rintro e w9 ⟨v, D, k, rfl, ownD, hDl, hb9⟩
    obtain ⟨aD, cD, hvD⟩ := own_shp ownD
    subst hvD
    have RX9 := row_g RX8 (grown_of_below hb9 none) (by simp)
    have RA9 := row_g RA8 (grown_of_below hb9 none) (by simp)
    have hs9 := hs8.below hb9 hs8.lt
    have hX9 := hX8.below (B := 0) hb9
    have B9 := B8.trans (hb9.mono (by have := hs8.lt; omega))
    have hXC9 := intsX_own ownD hs8.lt
    have haD := own_cap0 ownD
    clear hG ownD hb9 RX8 RA8 hX8 hXC8 B8 hs8 xX8
    clear hGr
    go_wp2_with fail
    refine wp_region_held_drew (S := fun w' => w'.cell? ⟨X, 0, none⟩ = some (.slice x S.length c)) (by kernel_rfl) (cell_of1' RX9) (fun hHeld => ?_)
    refine wpAnyH_take (i := 0) (v := ?_) rfl (by kernel_rfl) (by kernel_rfl) (by kernel_rfl) (fun _ _ _ h => h) (Or.inl ⟨by rfl, ?_⟩) (by assumption) ?_
    rotate_left
    · (intro w hSw; (try dsimp only at hSw); go_simp; try (with_reducible rfl))
    (try simp only [Act.put, List.setIfInBounds_toArray, List.set_cons_zero, List.set_cons_succ])
    refine wpAnyH_take (i := 1) (v := ?_) rfl (by kernel_rfl) (by kernel_rfl) (by kernel_rfl) (fun _ _ _ h => h) (Or.inl ⟨by rfl, ?_⟩) (by assumption) ?_
    rotate_left
    · (intro w hSw; (try dsimp only at hSw); go_simp; try (with_reducible rfl))
    (try simp only [Act.put, List.setIfInBounds_toArray, List.set_cons_zero, List.set_cons_succ])
    refine wpAnyH_take (i := 3) (v := ?_) rfl (by kernel_rfl) (by kernel_rfl) (by kernel_rfl) (fun _ _ _ h => h) (Or.inl ⟨by rfl, ?_⟩) (by assumption) ?_
    rotate_left
    · (intro w hSw; (try dsimp only at hSw); go_simp; try (with_reducible rfl))
    (try simp only [Act.put, List.setIfInBounds_toArray, List.set_cons_zero, List.set_cons_succ])
    refine wpAnyH_take (i := 4) (v := ?_) rfl (by kernel_rfl) (by kernel_rfl) (by kernel_rfl) (fun _ _ _ h => h) (Or.inl ⟨by rfl, ?_⟩) (by assumption) ?_
    rotate_left
    · (intro w hSw; (try dsimp only at hSw); go_simp; try (with_reducible rfl))
    (try simp only [Act.put, List.setIfInBounds_toArray, List.set_cons_zero, List.set_cons_succ])
    refine wpAnyH_take (i := 5) (v := ?_) rfl (by kernel_rfl) (by kernel_rfl) (by kernel_rfl) (fun _ _ _ h => h) (Or.inl ⟨by rfl, ?_⟩) (by assumption) ?_
    rotate_left
    · (intro w hSw; (try dsimp only at hSw); go_simp; try (with_reducible rfl))
    (try simp only [Act.put, List.setIfInBounds_toArray, List.set_cons_zero, List.set_cons_succ])
    refine wpAnyH_take (i := 7) (v := ?_) rfl (by kernel_rfl) (by kernel_rfl) (by kernel_rfl) (fun _ _ _ h => h) (Or.inl ⟨by rfl, ?_⟩) (by assumption) ?_
    rotate_left
    · (intro w hSw; (try dsimp only at hSw); go_simp; try (with_reducible rfl))
    (try simp only [Act.put, List.setIfInBounds_toArray, List.set_cons_zero, List.set_cons_succ])
    have RXD : w9.drew.heap[X]? = some (.cells #[.slice x S.length c] 26 (0, 0)) := RX9
    have RAD : w9.drew.heap[A]? = some (.cells #[.slice none 0 0] 26 (0, 0)) := RA9
    have hsD : Src w9.drew b a n cap := hs9.drewN 1
    have hXD : IntsX b w9.drew x S := hX9
    have hXCD : IntsX b w9.drew aD D := hXC9
    have BD : Below A w w9.drew := B9.drew
    refine wpAnyH_ready (rs := [2]) (by kernel_rfl) (by simp) ?_
    refine AllReadyH.cons rfl (fun K hK => ?_) AllReadyH.nil
    go_simp
    (go_at_call 67; refine (bad_any b a n cap hn x S c hSp w9.drew hsD hXD).mono ?_)
    rintro e uP ⟨ax, T, cx, rfl, hXTP, hT, hsP, hgP⟩
    have RXP := row_g RXD hgP (by simp; omega)
    have RAP := row_g RAD hgP (by simp; omega)
    have hXP := hXD.grown hgP
    have BP := below_g BD (by have := hsD.lt; omega) hgP (by omega)
    have hXCP := hXCD.grown hgP
    refine hK.out _ _ (cell_of1' RXP) (fun hHeld => ?_)
    clear hK K
    (try simp only [Act.put, List.setIfInBounds_toArray, List.set_cons_zero, List.set_cons_succ])
    refine wpAnyH_ready (rs := [6]) (by kernel_rfl) (by simp) ?_
    refine AllReadyH.cons rfl (fun K hK => ?_) AllReadyH.nil
    go_simp
    (go_at_call 97; refine (badCode_any b a n cap hn x S c hSp aD D cD haD hDl uP hsP hXP hXCP).mono ?_)
    rintro e uQ ⟨g, cg, E, rfl, ownE, hE, hsQ, hgQ⟩
    have RXQ := row_g RXP hgQ (by simp; omega)
    have RAQ := row_g RAP hgQ (by simp; omega)
    have hXQ := hXP.grown hgQ
    have BQ := below_g BP (by have := hsP.lt; omega) hgQ (by omega)
    have hXTQ := hXTP.grown hgQ
    have zPb := hsP.lt
    have hgP2 : uP.heap.size ≤ g := ownBlock_ge5 ownE rfl
    have zAP := row_lt RAP
    refine hK.out _ _ (cell_of1' RXQ) (fun hHeld => ?_)
    clear hK K
    (try simp only [Act.put, List.setIfInBounds_toArray, List.set_cons_zero, List.set_cons_succ])
    refine wpAnyH_ready (rs := [8]) (by kernel_rfl) (by simp) ?_
    refine AllReadyH.cons rfl (fun K hK => ?_) AllReadyH.nil
    have xAe := cell_of1' RAQ
    have fAe := frozen_of_row uQ A 0 _ _ RAQ
    go_simp
    have hAx : ∀ g o, ax = some ⟨g, o, none⟩ → g ≠ A := fun g o e => by have := hXTQ.2 g o e; omega
    have HIe : Ints (uQ.setCell ⟨A, 0, none⟩ (.slice ax T.length cx)) ax T := ints_setA hXTQ.1 hAx
    have owne := (own_setO ownE A (fun e => by simp [Value.ownBlock] at e; omega) (.slice ax T.length cx)).rebase (base' := w.heap.size) (by have := HA.out; omega)
    have Be : Below A w (uQ.setCell ⟨A, 0, none⟩ (.slice ax T.length cx)) := BQ.setCell (by simp) _
    refine hK.out _ _ (show (uQ.setCell ⟨A, 0, none⟩ (.slice ax T.length cx)).cell? ⟨X, 0, none⟩ = _ from cell_set_other (cell_of1' RXQ) (by simp; omega)) (fun hHeld => ?_)
    clear hK K
    (try simp only [Act.put, List.setIfInBounds_toArray, List.set_cons_zero, List.set_cons_succ])
    have zAe := row_lt RAQ
    refine wpAnyH_take (i := 9) (v := ?_) rfl (by kernel_rfl) (by kernel_rfl) (by kernel_rfl) (fun _ _ _ h => h) (Or.inl ⟨by rfl, ?_⟩) (by assumption) ?_
    rotate_left
    · (intro w hSw; (try dsimp only at hSw); go_simp; try (with_reducible rfl))
    (try simp only [Act.put, List.setIfInBounds_toArray, List.set_cons_zero, List.set_cons_succ])
    refine wpAnyH_take (i := 10) (v := ?_) rfl (by kernel_rfl) (by kernel_rfl) (by kernel_rfl) (fun _ _ _ h => h) (Or.inl ⟨by rfl, ?_⟩) (by assumption) ?_
    rotate_left
    · (intro w hSw; (try dsimp only at hSw); go_simp; try (with_reducible rfl))
    (try simp only [Act.put, List.setIfInBounds_toArray, List.set_cons_zero, List.set_cons_succ])
    refine wpAnyH_done (by kernel_rfl) ?_ _
    (try simp only [List.getElem_toArray, List.getElem_cons_succ, List.getElem_cons_zero, Act.put, List.setIfInBounds_toArray, List.set_cons_zero, List.set_cons_succ])
    go_wp2_with fail
    refine bodyPost_ret (by rw [results_cell_tmp2w rfl]; go_simp; try rfl) rfl ?_
    exact ⟨ax, T, cx, g, cg, E, r, rfl, HIe, (fun g o e => by have := hXTQ.2 g o e; have := HA.out; omega), hT, owne, hE, hr, by rw [← HA.out]; exact Be⟩
  · have b0 : (q == 0) = false := by simpa using e0
    clear e0 xX8
    clear hGr
    go_wp2_with fail
    refine wp_region_held_drew (S := fun w' => w'.cell? ⟨X, 0, none⟩ = some (.slice x S.length c)) (by kernel_rfl) (cell_of1' RX8) (fun hHeld => ?_)
    refine wpAnyH_take (i := 0) (v := ?_) rfl (by kernel_rfl) (by kernel_rfl) (by kernel_rfl) (fun _ _ _ h => h) (Or.inl ⟨by rfl, ?_⟩) (by assumption) ?_
    rotate_left
    · (intro w hSw; (try dsimp only at hSw); go_simp; try (with_reducible rfl))
    (try simp only [Act.put, List.setIfInBounds_toArray, List.set_cons_zero, List.set_cons_succ])
    refine wpAnyH_take (i := 1) (v := ?_) rfl (by kernel_rfl) (by kernel_rfl) (by kernel_rfl) (fun _ _ _ h => h) (Or.inl ⟨by rfl, ?_⟩) (by assumption) ?_
    rotate_left
    · (intro w hSw; (try dsimp only at hSw); go_simp; try (with_reducible rfl))
    (try simp only [Act.put, List.setIfInBounds_toArray, List.set_cons_zero, List.set_cons_succ])
    refine wpAnyH_take (i := 3) (v := ?_) rfl (by kernel_rfl) (by kernel_rfl) (by kernel_rfl) (fun _ _ _ h => h) (Or.inl ⟨by rfl, ?_⟩) (by assumption) ?_
    rotate_left
    · (intro w hSw; (try dsimp only at hSw); go_simp; try (with_reducible rfl))
    (try simp only [Act.put, List.setIfInBounds_toArray, List.set_cons_zero, List.set_cons_succ])
    refine wpAnyH_take (i := 4) (v := ?_) rfl (by kernel_rfl) (by kernel_rfl) (by kernel_rfl) (fun _ _ _ h => h) (Or.inl ⟨by rfl, ?_⟩) (by assumption) ?_
    rotate_left
    · (intro w hSw; (try dsimp only at hSw); go_simp; try (with_reducible rfl))
    (try simp only [Act.put, List.setIfInBounds_toArray, List.set_cons_zero, List.set_cons_succ])
    refine wpAnyH_take (i := 5) (v := ?_) rfl (by kernel_rfl) (by kernel_rfl) (by kernel_rfl) (fun _ _ _ h => h) (Or.inl ⟨by rfl, ?_⟩) (by assumption) ?_
    rotate_left
    · (intro w hSw; (try dsimp only at hSw); go_simp; try (with_reducible rfl))
    (try simp only [Act.put, List.setIfInBounds_toArray, List.set_cons_zero, List.set_cons_succ])
    refine wpAnyH_take (i := 7) (v := ?_) rfl (by kernel_rfl) (by kernel_rfl) (by kernel_rfl) (fun _ _ _ h => h) (Or.inl ⟨by rfl, ?_⟩) (by assumption) ?_
    rotate_left
    · (intro w hSw; (try dsimp only at hSw); go_simp; try (with_reducible rfl))
    (try simp only [Act.put, List.setIfInBounds_toArray, List.set_cons_zero, List.set_cons_succ])
    have RXD : w8.drew.heap[X]? = some (.cells #[.slice x S.length c] 26 (0, 0)) := RX8
    have RAD : w8.drew.heap[A]? = some (.cells #[.slice none 0 0] 26 (0, 0)) := RA8
    have hsD : Src w8.drew b a n cap := hs8.drewN 1
    have hXD : IntsX b w8.drew x S := hX8
    have hXCD : IntsX b w8.drew aC C := hXC8
    have BD : Below A w w8.drew := B8.drew
    refine wpAnyH_ready (rs := [2]) (by kernel_rfl) (by simp) ?_
    refine AllReadyH.cons rfl (fun K hK => ?_) AllReadyH.nil
    go_simp
    (go_at_call 67; refine (bad_any b a n cap hn x S c hSp w8.drew hsD hXD).mono ?_)
    rintro e uP ⟨ax, T, cx, rfl, hXTP, hT, hsP, hgP⟩
    have RXP := row_g RXD hgP (by simp; omega)
    have RAP := row_g RAD hgP (by simp; omega)
    have hXP := hXD.grown hgP
    have BP := below_g BD (by have := hsD.lt; omega) hgP (by omega)
    have hXCP := hXCD.grown hgP
    refine hK.out _ _ (cell_of1' RXP) (fun hHeld => ?_)
    clear hK K
    (try simp only [Act.put, List.setIfInBounds_toArray, List.set_cons_zero, List.set_cons_succ])
    refine wpAnyH_ready (rs := [6]) (by kernel_rfl) (by simp) ?_
    refine AllReadyH.cons rfl (fun K hK => ?_) AllReadyH.nil
    go_simp
    (go_at_call 97; refine (badCode_any b a n cap hn x S c hSp aC C cC haC hCl uP hsP hXP hXCP).mono ?_)
    rintro e uQ ⟨g, cg, E, rfl, ownE, hE, hsQ, hgQ⟩
    have RXQ := row_g RXP hgQ (by simp; omega)
    have RAQ := row_g RAP hgQ (by simp; omega)
    have hXQ := hXP.grown hgQ
    have BQ := below_g BP (by have := hsP.lt; omega) hgQ (by omega)
    have hXTQ := hXTP.grown hgQ
    have zPb := hsP.lt
    have hgP2 : uP.heap.size ≤ g := ownBlock_ge5 ownE rfl
    have zAP := row_lt RAP
    refine hK.out _ _ (cell_of1' RXQ) (fun hHeld => ?_)
    clear hK K
    (try simp only [Act.put, List.setIfInBounds_toArray, List.set_cons_zero, List.set_cons_succ])
    refine wpAnyH_ready (rs := [8]) (by kernel_rfl) (by simp) ?_
    refine AllReadyH.cons rfl (fun K hK => ?_) AllReadyH.nil
    have xAe := cell_of1' RAQ
    have fAe := frozen_of_row uQ A 0 _ _ RAQ
    go_simp
    have hAx : ∀ g o, ax = some ⟨g, o, none⟩ → g ≠ A := fun g o e => by have := hXTQ.2 g o e; omega
    have HIe : Ints (uQ.setCell ⟨A, 0, none⟩ (.slice ax T.length cx)) ax T := ints_setA hXTQ.1 hAx
    have owne := (own_setO ownE A (fun e => by simp [Value.ownBlock] at e; omega) (.slice ax T.length cx)).rebase (base' := w.heap.size) (by have := HA.out; omega)
    have Be : Below A w (uQ.setCell ⟨A, 0, none⟩ (.slice ax T.length cx)) := BQ.setCell (by simp) _
    refine hK.out _ _ (show (uQ.setCell ⟨A, 0, none⟩ (.slice ax T.length cx)).cell? ⟨X, 0, none⟩ = _ from cell_set_other (cell_of1' RXQ) (by simp; omega)) (fun hHeld => ?_)
    clear hK K
    (try simp only [Act.put, List.setIfInBounds_toArray, List.set_cons_zero, List.set_cons_succ])
    have zAe := row_lt RAQ
    refine wpAnyH_take (i := 9) (v := ?_) rfl (by kernel_rfl) (by kernel_rfl) (by kernel_rfl) (fun _ _ _ h => h) (Or.inl ⟨by rfl, ?_⟩) (by assumption) ?_
    rotate_left
    · (intro w hSw; (try dsimp only at hSw); go_simp; try (with_reducible rfl))
    (try simp only [Act.put, List.setIfInBounds_toArray, List.set_cons_zero, List.set_cons_succ])
    refine wpAnyH_take (i := 10) (v := ?_) rfl (by kernel_rfl) (by kernel_rfl) (by kernel_rfl) (fun _ _ _ h => h) (Or.inl ⟨by rfl, ?_⟩) (by assumption) ?_
    rotate_left
    · (intro w hSw; (try dsimp only at hSw); go_simp; try (with_reducible rfl))
    (try simp only [Act.put, List.setIfInBounds_toArray, List.set_cons_zero, List.set_cons_succ])
    refine wpAnyH_done (by kernel_rfl) ?_ _
    (try simp only [List.getElem_toArray, List.getElem_cons_succ, List.getElem_cons_zero, Act.put, List.setIfInBounds_toArray, List.set_cons_zero, List.set_cons_succ])
    go_wp2_with fail
    refine bodyPost_ret (by rw [results_cell_tmp2w rfl]; go_simp; try rfl) rfl ?_
    exact ⟨ax, T, cx, g, cg, E, r, rfl, HIe, (fun g o e => by have := hXTQ.2 g o e; have := HA.out; omega), hT, owne, hE, hr, by rw [← HA.out]; exact Be⟩

end Go.Proofs.Ytfpcdffahjoejaa
