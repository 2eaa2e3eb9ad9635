/-
  The contracts of the model of DirectSum. By an AI agent.
-/
import Derived.Test.YtcbkmmadejbbpaaPut
import Derived.Test.YtcbkmmadejbbpaaCode2
import Derived.Test.YtcbkmmadejbbpaaMath
import Derived.StillTailTactics
import Derived.Deep.RegionHeld3
namespace Go.Proofs.Ytcbkmmadejbbpaa
open Go.RowKit Cv
set_option linter.unusedVariables false
set_option linter.unusedSimpArgs false
set_option maxRecDepth 100000

theorem wp_append_int {w : World} {o : Oper} {a : Act} {K : Act → World → Prop} {Q : Exit → Act → World → Prop} (s x : Operand)
    (ho : o.op = .call { callee := .builtin .append, args := #[s, x], argTypes := #[22, 22] })
    (base : Nat) (v : Value) (L : List Int) (hs : a.eval s = v) (hown : OwnInts w base v L) (b : Nat) (y : Int) (hx : a.eval x = .slice (some ⟨b, 0, none⟩) 1 1) (hc : w.cell? ⟨b, 0, none⟩ = some (.int .i64 y))
    (hlen : L.length ≤ 1073741824) (hbase : base ≤ w.heap.size)
    (h : ∀ v' w', OwnInts w' base v' (L ++ [y]) → w.grownBy w' v.ownBlock → K (a.put o.dst v') w') : o.wp Try.prog a w K Q := by
  obtain ⟨i0, hi, hz0, hz1, hz2⟩ := info_parts infoI64
  refine wp_append_own w s x 22 ho base 2 i0 (.int .i64 0) 1 8 Try.underlying22 hi hz0 hz1 hz2 rfl (by decide) v L.length (L.map (Value.int .i64)) hs hown ⟨b, 0, none⟩ 1 1 [.int .i64 y] hx rfl ?_ ?_ (by unfold maxLen; omega) (by omega) hbase ?_
  · intro j u hj
    match j, hj with
    | 0, hj => simp at hj; subst hj; simpa [Addr.add] using hc
  · intro u hu; simp at hu; subst hu; rfl
  · intro v' w' h1 h2 _
    refine h v' w' ?_ h2
    unfold OwnInts
    rw [List.length_append, List.map_append]
    exact h1

set_option maxHeartbeats 2000000 in
theorem l03Sum_any (ac ad : Option Addr) (C O : List Int) (capc capd : Nat) (n : Int) (hn : 0 ≤ n ∧ n ≤ 1024) (hC : C.length ≤ 1024 ∧ ∀ i, i < C.length → 0 ≤ gi C i ∧ gi C i < 1024) (hO : O.length ≤ 1024 ∧ ∀ i, i < O.length → 0 ≤ gi O i ∧ gi O i < 1024) (w : World) (hCI : Ints w ac C) (hOI : Ints w ad O) :
    Calls Try.prog 49 #[.slice ac C.length capc, .slice ad O.length capd, .int .i64 n] w fun e w' => ∃ v, e = .returned v ∧ OwnInts w' w.heap.size v (dsTo C O n C.length) ∧ Below w.heap.size w w' := by
  have HC := Lib.hid hC.2
  have HO := Lib.hid hO.2
  have lc := hC.1
  have lo := hO.1
  clear hC hO
  have oo := own_empty w w.heap.size (Nat.le_refl _) rfl
  have B0 : Below w.heap.size w (w.alloc (.cells #[] 2)) := by go_grown
  go_enter Try.func49, Try.ntmps49
  go_wp2_with fail
  go_loopw [7, 13] (fun v i wr => ∃ k : Nat, k ≤ C.length ∧ i = .int .i64 k ∧ OwnInts wr w.heap.size v (dsTo C O n k) ∧ Below w.heap.size w wr) (fun _ i _ => C.length - (intOf i).toNat)
  case atStart => exact ⟨0, Nat.zero_le _, rfl, oo, B0⟩
  case round =>
    clear oo B0
    obtain ⟨k, hk, rfl, own, B⟩ := hrel
    by_cases hlt : k < C.length
    · obtain ⟨bc, oc, rfl, hbc, hcc⟩ := hCI.at hlt
      have hck0 := hcc k hlt
      obtain ⟨x1, x2⟩ := HC.out k hlt
      clear hcc
      rw [← dsIn_zero] at own
      go_wp2_with fail
      go_loopw [7, 18] (fun v i wr => ∃ j : Nat, j ≤ O.length ∧ i = .int .i64 j ∧ OwnInts wr w.heap.size v (dsIn C O n k j) ∧ Below w.heap.size w wr) (fun _ i _ => O.length - (intOf i).toNat)
      case atStart => exact ⟨0, Nat.zero_le _, rfl, own, B⟩
      case round =>
        clear own B
        obtain ⟨j, hj, rfl, own, B⟩ := hrel
        by_cases hlt2 : j < O.length
        · obtain ⟨bo, o2, rfl, hbo, hco⟩ := hOI.at hlt2
          have hcj0 := hco j hlt2
          have hcj := kept_cell B hcj0 hbo
          have own2 : OwnInts (wr.alloc (.cells #[.int .i64 (gi C k * n + gi O j)] 2)).drew w.heap.size _ (dsIn C O n k j) := (own.alloc _).drew
          have B3 : Below w.heap.size w (wr.alloc (.cells #[.int .i64 (gi C k * n + gi O j)] 2)).drew := (B.alloc B.size _).drew
          have hck := kept_cell B hck0 hbc
          obtain ⟨y1, y2⟩ := HO.out j hlt2
          have hdl := dsIn_len C O n k j (by omega) lo hj
          have m1 : 0 ≤ gi C k * n := Int.mul_nonneg x1 hn.1
          have m2 : gi C k * n ≤ 1024 * 1024 := Int.mul_le_mul (by omega) hn.2 hn.1 (by omega)
          have E1 : IntKind.i64.wrap (gi C k * n) = gi C k * n := IntWalk.i64_in _ ⟨by omega, by omega⟩
          have E2 : IntKind.i64.wrap (gi C k * n + gi O j) = gi C k * n + gi O j := IntWalk.i64_in _ ⟨by omega, by omega⟩
          have H2 : Hid (dsIn C O n k (j + 1) = dsIn C O n k j ++ [gi C k * n + gi O j]) := Lib.hid (dsIn_succ C O n k j hlt2)
          have hs := B.size
          have i1 : (0 : Int) ≤ (k : Int) := by omega
          have i2 : (k : Int) < (C.length : Int) := by omega
          have i3 : (0 : Int) ≤ (j : Int) := by omega
          have i4 : (j : Int) < (O.length : Int) := by omega
          clear hco
          go_wp2_with fail
          refine wp_region_held_drew (S := fun w' => w'.cell? ⟨bc, oc + k, none⟩ = some (.int .i64 (gi C k)) ∧ w'.cell? ⟨bo, o2 + j, none⟩ = some (.int .i64 (gi O j))) (by kernel_rfl) ⟨hck, hcj⟩ (fun hHeld => ?_)
          refine wpAnyH_take (i := 0) (v := ?_) rfl (by kernel_rfl) (by kernel_rfl) (by kernel_rfl) (fun _ _ _ h => h) (Or.inl ⟨by rfl, ?_⟩) (by assumption) ?_
          rotate_left
          · (intro w hSw; obtain ⟨hSa, hSb⟩ := hSw; (try dsimp only at hSa hSb); go_simp; try (with_reducible rfl))
          (try simp only [Act.put, List.setIfInBounds_toArray, List.set_cons_zero, List.set_cons_succ])
          refine wpAnyH_take (i := 1) (v := ?_) rfl (by kernel_rfl) (by kernel_rfl) (by kernel_rfl) (fun _ _ _ h => h) (Or.inl ⟨by rfl, ?_⟩) (by assumption) ?_
          rotate_left
          · (intro w hSw; obtain ⟨hSa, hSb⟩ := hSw; (try dsimp only at hSa hSb); go_simp; try (with_reducible rfl))
          (try simp only [Act.put, List.setIfInBounds_toArray, List.set_cons_zero, List.set_cons_succ])
          refine wpAnyH_take (i := 2) (v := ?_) rfl (by kernel_rfl) (by kernel_rfl) (by kernel_rfl) (fun _ _ _ h => h) (Or.inl ⟨by rfl, ?_⟩) (by assumption) ?_
          rotate_left
          · (intro w hSw; obtain ⟨hSa, hSb⟩ := hSw; (try dsimp only at hSa hSb); go_simp; try (with_reducible rfl))
          (try simp only [Act.put, List.setIfInBounds_toArray, List.set_cons_zero, List.set_cons_succ])
          refine wpAnyH_take (i := 3) (v := ?_) rfl (by kernel_rfl) (by kernel_rfl) (by kernel_rfl) (fun _ _ _ h => h) (Or.inl ⟨by rfl, ?_⟩) (by assumption) ?_
          rotate_left
          · (intro w hSw; obtain ⟨hSa, hSb⟩ := hSw; (try dsimp only at hSa hSb); go_simp; try (with_reducible rfl))
          (try simp only [Act.put, List.setIfInBounds_toArray, List.set_cons_zero, List.set_cons_succ])
          refine wpAnyH_take (i := 4) (v := ?_) rfl (by kernel_rfl) (by kernel_rfl) (by kernel_rfl) (fun _ _ _ h => h) (Or.inl ⟨by rfl, ?_⟩) (by assumption) ?_
          rotate_left
          · (intro w hSw; obtain ⟨hSa, hSb⟩ := hSw; (try dsimp only at hSa hSb); go_simp; try (with_reducible rfl))
          (try simp only [Act.put, List.setIfInBounds_toArray, List.set_cons_zero, List.set_cons_succ])
          refine wpAnyH_take (i := 5) (v := ?_) rfl (by kernel_rfl) (by kernel_rfl) (by kernel_rfl) (fun _ _ _ h => h) (Or.inl ⟨by rfl, ?_⟩) (by assumption) ?_
          rotate_left
          · (intro w hSw; obtain ⟨hSa, hSb⟩ := hSw; (try dsimp only at hSa hSb); go_simp; try (with_reducible rfl))
          (try simp only [Act.put, List.setIfInBounds_toArray, List.set_cons_zero, List.set_cons_succ])
          refine wpAnyH_take (i := 6) (v := ?_) rfl (by kernel_rfl) (by kernel_rfl) (by kernel_rfl) (fun _ _ _ h => h) (Or.inl ⟨by rfl, ?_⟩) (by assumption) ?_
          rotate_left
          · (intro w hSw; obtain ⟨hSa, hSb⟩ := hSw; (try dsimp only at hSa hSb); go_simp; try (with_reducible rfl))
          (try simp only [Act.put, List.setIfInBounds_toArray, List.set_cons_zero, List.set_cons_succ])
          refine wpAnyH_take (i := 7) (v := ?_) rfl (by kernel_rfl) (by kernel_rfl) (by kernel_rfl) (fun _ _ _ h => h) (Or.inl ⟨by rfl, ?_⟩) (by assumption) ?_
          rotate_left
          · (intro w hSw; obtain ⟨hSa, hSb⟩ := hSw; (try dsimp only at hSa hSb); go_simp; try (with_reducible rfl))
          (try simp only [Act.put, List.setIfInBounds_toArray, List.set_cons_zero, List.set_cons_succ])
          refine wpAnyH_take (i := 8) (v := ?_) rfl (by kernel_rfl) (by kernel_rfl) (by kernel_rfl) (fun _ _ _ h => h) (Or.inl ⟨by rfl, ?_⟩) (by assumption) ?_
          rotate_left
          · (intro w hSw; obtain ⟨hSa, hSb⟩ := hSw; (try dsimp only at hSa hSb); go_simp; try (with_reducible rfl))
          (try simp only [Act.put, List.setIfInBounds_toArray, List.set_cons_zero, List.set_cons_succ])
          refine wpAnyH_take (i := 9) (v := ?_) rfl (by kernel_rfl) (by kernel_rfl) (by kernel_rfl) (fun _ _ _ h => h) (Or.inl ⟨by rfl, ?_⟩) (by assumption) ?_
          rotate_left
          · (intro w hSw; obtain ⟨hSa, hSb⟩ := hSw; (try dsimp only at hSa hSb); go_simp; try (with_reducible rfl))
          (try simp only [Act.put, List.setIfInBounds_toArray, List.set_cons_zero, List.set_cons_succ])
          refine wpAnyH_take (i := 10) (v := ?_) rfl (by kernel_rfl) (by kernel_rfl) (by kernel_rfl) (fun _ _ _ h => h) (Or.inl ⟨by rfl, ?_⟩) (by assumption) ?_
          rotate_left
          · (intro w hSw; obtain ⟨hSa, hSb⟩ := hSw; (try dsimp only at hSa hSb); go_simp; try (with_reducible rfl))
          (try simp only [Act.put, List.setIfInBounds_toArray, List.set_cons_zero, List.set_cons_succ])
          refine wpAnyH_take (i := 11) (v := ?_) rfl (by kernel_rfl) (by kernel_rfl) (by kernel_rfl) (fun _ _ _ h => h) (Or.inl ⟨by rfl, ?_⟩) (by assumption) ?_
          rotate_left
          · (intro w hSw; obtain ⟨hSa, hSb⟩ := hSw; (try dsimp only at hSa hSb); go_simp; try (with_reducible rfl))
          (try simp only [Act.put, List.setIfInBounds_toArray, List.set_cons_zero, List.set_cons_succ])
          have B2 : Below wr.drew.heap.size wr.drew (wr.drew.alloc (.cells #[.int .i64 (gi C k * n + gi O j)] 2)) := (Below.refl _ _).alloc (Nat.le_refl _) _
          refine wpAnyH_ready (rs := [12]) (by kernel_rfl) (by simp) ?_
          refine AllReadyH.cons rfl (fun K hK => ?_) AllReadyH.nil
          go_simp
          refine hK.out _ _ (⟨kept_cell B2 hck (Nat.lt_of_lt_of_le hbc hs), kept_cell B2 hcj (Nat.lt_of_lt_of_le hbo hs)⟩) (fun hHeld => ?_)
          clear hK K
          (try simp only [Act.put, List.setIfInBounds_toArray, List.set_cons_zero, List.set_cons_succ])
          refine wpAnyH_ready (rs := [13]) (by kernel_rfl) (by simp) ?_
          refine AllReadyH.cons rfl (fun K hK => ?_) AllReadyH.nil
          rw [if_pos (by kernel_rfl)]
          refine wp_append_int (.tmp 21) (.tmp 33) (by kernel_rfl) w.heap.size _ (dsIn C O n k j) (by rfl) own2 wr.heap.size (gi C k * n + gi O j) (by rfl) (cell_new wr _ _) (by omega) (Nat.le_trans hs (by simp)) ?_
          intro v' w4 hown' hgrow
          have hgb := grown_below B3 (Nat.le_trans hs (by simp)) hgrow own2 (Nat.le_refl _)
          refine hK.out _ _ (⟨kept_cell hgb hck0 hbc, kept_cell hgb hcj0 hbo⟩) (fun hHeld => ?_)
          clear hK K own own2 hgrow E1 E2 B2 B3 hck hcj
          (try simp only [Act.put, List.setIfInBounds_toArray, List.set_cons_zero, List.set_cons_succ])
          refine wpAnyH_take (i := 14) (v := ?_) rfl (by kernel_rfl) (by kernel_rfl) (by kernel_rfl) (fun _ _ _ h => h) (Or.inl ⟨by rfl, ?_⟩) (by assumption) ?_
          rotate_left
          · (intro w hSw; obtain ⟨hSa, hSb⟩ := hSw; (try dsimp only at hSa hSb); go_simp; try (with_reducible rfl))
          refine wpAnyH_done (by kernel_rfl) ?_ _
          simp only [List.getElem_toArray, List.getElem_cons_succ, List.getElem_cons_zero, Act.put, List.setIfInBounds_toArray, List.set_cons_zero, List.set_cons_succ]
          go_wp2_with fail
          go_roundw
          case rel => exact ⟨j + 1, by omega, by go_num, by rw [H2.out]; exact hown', hgb⟩
          case measure => simp [intOf]; omega
        · have ej : Hid (j = O.length) := Lib.hid (by omega)
          go_wp2_with fail
          go_roundw
          case rel => exact ⟨k + 1, by omega, by go_num, by rw [← dsIn_all, ← ej.out]; exact own, B⟩
          case measure => simp [intOf]; omega
    · have ek : Hid (k = C.length) := Lib.hid (by omega)
      go_wp2_with fail
      go_ret
      exact ⟨_, rfl, by rw [← ek.out]; exact own, B⟩

end Go.Proofs.Ytcbkmmadejbbpaa
