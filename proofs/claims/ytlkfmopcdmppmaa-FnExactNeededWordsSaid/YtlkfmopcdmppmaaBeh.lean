/-
  The sets behind each set of a list, together. By an AI agent.
-/
import Derived.Test.YtlkfmopcdmppmaaSets
import Derived.Deep.RegionHeld3
namespace Go.Proofs.Ytlkfmopcdmppmaa
open Go.RowKit Cv
set_option linter.unusedVariables false
set_option linter.unusedSimpArgs false
set_option maxRecDepth 100000

theorem infoSets : (Try.prog.info? 66).map (fun i => (i.zero, i.size, i.bytes)) = some (some (.agg (setA fun _ => false)), 16, 128) := infoSet
theorem own_madeSets {w : World} {base : Nat} {v : Value} {n : Nat} (h : w.ownsRow base 66 16 v n (madeCells (Value.agg (setA fun _ => false)).cells (n * 16)).toList) : OwnSets w base v (List.replicate n fun _ => false) := by
  unfold OwnSets
  rw [List.length_replicate]
  have e : (madeCells (Value.agg (setA fun _ => false)).cells (n * 16)).toList = cellsP (List.replicate n fun _ => false) := by
    apply List.ext_getElem?
    intro i
    by_cases hi : i < n * 16
    · rw [cellsP_get _ _ (by simpa using hi)]
      have e1 : pAt (List.replicate n fun _ => false) (i / 16) = fun _ => false := by
        unfold pAt; rw [List.getD_eq_getElem?_getD, List.getElem?_replicate]; split <;> rfl
      rw [e1, Array.getElem?_toList]
      have h16 : i % 16 < (setA fun _ => false).size := by rw [setA_size]; omega
      simp only [madeCells, Value.cells, setA_size, Array.getElem?_map, Array.getElem?_range]
      rw [if_pos hi, Option.map_some, getElem!_pos (setA fun _ => false) (i % 16) h16, Array.getElem?_eq_getElem h16]
    · rw [List.getElem?_eq_none (by simp [size_madeCells]; omega), List.getElem?_eq_none (by rw [cellsP_len]; simp; omega)]
  rw [← e]; exact h

/-- the sets behind the j-th one, together -/
def behU (L : List (Nat → Bool)) (j : Nat) : Nat → Bool := unionL (L.drop (j + 1))
theorem behU_step (L : List (Nat → Bool)) (k : Nat) (h1 : 1 ≤ k) (hk : k < L.length) : (fun u => behU L k u || pAt L k u) = behU L (k - 1) := by
  funext u
  unfold behU unionL
  rw [show k - 1 + 1 = k by omega, List.drop_eq_getElem_cons hk, List.any_cons, Bool.or_comm]
  congr 1
  simp [pAt, List.getD, hk]
theorem behU_last (L : List (Nat → Bool)) (j : Nat) (h : L.length ≤ j + 1) : behU L j = fun _ => false := by
  unfold behU; rw [List.drop_eq_nil_of_le h]; rfl
theorem wp_stAt {o : Oper} {a : Act} {w w3 : World} {K : Act → World → Prop} {Q : Exit → Act → World → Prop} {g q : Nat} {p : Nat → Bool} (x y : Operand) (ho : o.op = .store 66 x y) (hx : a.eval x = .pointer (some ⟨g, q, none⟩)) (hy : a.eval y = .agg (setA p))
    (hst : (storeVar 66 ⟨g, q, none⟩ (.agg (setA p))).run Try.prog w = .ok () w3) (h : K (a.put o.dst undef) w3) : o.wp Try.prog a w K Q := by
  unfold Oper.wp execOp
  simp only [ho, hx, hy, Instr.storeAt, Instr.sureAddr, Sem.run_bind, Sem.run_pure, Result.andThen_ok, hst]
  exact h

set_option maxHeartbeats 2000000 in
theorem setsBehind_any (bs : Nat) (av : Option Addr) (cap : Nat) (PS : List (Nat → Bool)) (hl : PS.length ≤ 1048576) (w : World) (hbs : bs ≤ w.heap.size) (hS : OwnSets w bs (.slice av PS.length cap) PS) :
    Calls Try.prog 105 #[.slice av PS.length cap] w fun e w' => ∃ g L, e = .returned (.slice (some ⟨g, 0, none⟩) PS.length PS.length) ∧ OwnSets w' w.heap.size (.slice (some ⟨g, 0, none⟩) PS.length PS.length) L ∧ L.length = PS.length ∧ (∀ j, j < PS.length → pAt L j = behU PS j) ∧ Below w.heap.size w w' := by
  obtain ⟨i0, hi, hz0, hz1, hz2⟩ := info_parts infoSet
  go_enter Try.func105, Try.ntmps105
  go_wp2_with (at_make; refine wpList_make_full _ rfl _ _ 97 rfl w.heap.size 66 i0 (.agg (setA fun _ => false)) 16 Try.underlying97 hi hz0 hz1 .i64 .i64 _ _ PS.length rfl rfl rfl rfl (by rw [hz2]; omega) (by unfold maxLen; omega) (by omega) ?_; intro w1 hown hgrow)
  replace hown := own_madeSets hown
  have B1 : Below w.heap.size w w1 := below_grown0 hgrow
  obtain ⟨g, hg, hown⟩ : ∃ g, g = w.heap.size ∧ OwnSets w1 w.heap.size (.slice (some ⟨g, 0, none⟩) PS.length PS.length) (List.replicate PS.length fun _ => false) := ⟨_, rfl, hown⟩
  have hgw : w.heap.size ≤ g := by omega
  obtain ⟨K, hK⟩ : ∃ K, K = PS.length := ⟨_, rfl⟩
  rw [← hg]
  rw [← hK] at hown hS hl ⊢
  have HK := Lib.hid hK
  have hg1 := hown.base_le
  have E1 : IntKind.i64.wrap ((K : Int) - 1) = (K : Int) - 1 := IntWalk.i64_in _ ⟨by omega, by omega⟩
  clear hg hK hgrow
  go_wp2_with fail
  go_loopw [4] (fun i wr => ∃ (k : Int) (L : List (Nat → Bool)), -1 ≤ k ∧ k < K ∧ i = .int .i64 k ∧ OwnSets wr w.heap.size (.slice (some ⟨g, 0, none⟩) K K) L ∧ Hid (L.length = K ∧ ∀ j : Nat, j < K → pAt L j = if k ≤ (j : Int) then behU PS j else fun _ => false) ∧ Below w.heap.size w wr) (fun i _ => (intOf i).toNat)
  case atStart =>
    refine ⟨(K : Int) - 1, _, by omega, by omega, rfl, hown, Lib.hid ⟨by simp, fun j hj => ?_⟩, B1⟩
    have e1 : pAt (List.replicate K fun _ => false) j = fun _ => false := by
      unfold pAt; rw [List.getD_eq_getElem?_getD, List.getElem?_replicate]; split <;> rfl
    rw [e1]
    split
    · rw [behU_last]; rw [← HK.out]; omega
    · rfl
  case round =>
    clear hown B1 hg1 E1
    obtain ⟨k, L, hk, hkK, rfl, own, HL, B⟩ := hrel
    by_cases hlt : 0 < k
    · obtain ⟨n, hn⟩ : ∃ n : Nat, k = (n : Int) := ⟨k.toNat, by omega⟩
      subst hn
      have hnK : n < K := by omega
      have own0 := hS.below B
      obtain ⟨gs, cs, hv⟩ := sets_some hS (by intro h; rw [h] at HK; have := HK.out; simp at this; omega)
      have hS2 : OwnSets wr bs (.slice av K cap) PS := hS.below B
      simp only [Value.slice.injEq] at hv
      obtain ⟨rfl, hv2, rfl⟩ := hv
      clear hv2 own0
      have cS := hS2.cells n (by rw [← HK.out]; exact hnK)
      have cL := own.cells n (by rw [HL.out.1]; exact hnK)
      rw [HL.out.2 n hnK, if_pos (Int.le_refl _)] at cL
      have b1 : (n : Int) < (K : Int) := by omega
      have b2 : (0 : Int) ≤ (n : Int) := by omega
      have b3 : (n : Int) - 1 < (K : Int) := by omega
      have b4 : (0 : Int) ≤ (n : Int) - 1 := by omega
      have E2 : IntKind.i64.wrap ((n : Int) - 1) = (n : Int) - 1 := IntWalk.i64_in _ ⟨by omega, by omega⟩
      have E3 : ((n : Int) - 1).toNat = n - 1 := by omega
      go_wp2_with fail
      refine wp_region_held_drew (S := fun w' => (∀ k, k < 16 → w'.cell? ⟨g, n * 16 + k, none⟩ = some (.int .u64 (partN (behU PS n) k))) ∧ (∀ k, k < 16 → w'.cell? ⟨gs, n * 16 + k, none⟩ = some (.int .u64 (partN (pAt PS n) k)))) (by kernel_rfl) ⟨cL, cS⟩ (fun hHeld => ?_)
      refine wpAnyH_take (i := 0) (v := ?_) rfl (by kernel_rfl) (by kernel_rfl) (by kernel_rfl) (fun _ _ _ h => h) (Or.inl ⟨by rfl, ?_⟩) (by assumption) ?_
      rotate_left
      · (intro W hSw; go_simp; try (with_reducible rfl))
      (try simp only [Act.put, List.setIfInBounds_toArray, List.set_cons_zero, List.set_cons_succ])
      refine wpAnyH_take (i := 1) (v := ?_) rfl (by kernel_rfl) (by kernel_rfl) (by kernel_rfl) (fun _ _ _ h => h) (Or.inl ⟨by rfl, ?_⟩) (by assumption) ?_
      rotate_left
      · (intro W hSw; go_simp; try (with_reducible rfl))
      (try simp only [Act.put, List.setIfInBounds_toArray, List.set_cons_zero, List.set_cons_succ])
      refine wpAnyH_take (i := 2) (v := ?_) rfl (by kernel_rfl) (by kernel_rfl) (by kernel_rfl) (fun _ _ _ h => h) (Or.inl ⟨by rfl, ?_⟩) (by assumption) ?_
      rotate_left
      · (intro W hSw; go_simp; try (with_reducible rfl))
      (try simp only [Act.put, List.setIfInBounds_toArray, List.set_cons_zero, List.set_cons_succ])
      refine wpAnyH_take (i := 3) (v := ?_) rfl (by kernel_rfl) (by kernel_rfl) (by kernel_rfl) (fun _ _ _ h => h) (Or.inl ⟨by rfl, ?_⟩) (by assumption) ?_
      rotate_left
      · (intro W hSw; go_simp; try (with_reducible rfl))
      (try simp only [Act.put, List.setIfInBounds_toArray, List.set_cons_zero, List.set_cons_succ])
      refine wpAnyH_take (i := 4) (v := ?_) rfl (by kernel_rfl) (by kernel_rfl) (by kernel_rfl) (fun _ _ _ h => h) (Or.inl ⟨by rfl, ?_⟩) (by assumption) ?_
      rotate_left
      · (intro W hSw; go_simp; try (with_reducible rfl))
      (try simp only [Act.put, List.setIfInBounds_toArray, List.set_cons_zero, List.set_cons_succ])
      refine wpAnyH_take (i := 5) (v := .pointer (some ⟨g, n * 16, none⟩)) rfl (by kernel_rfl) (by kernel_rfl) (by kernel_rfl) (fun _ _ _ h => h) (Or.inl ⟨by rfl, ?_⟩) (by assumption) ?_
      · (intro W hSw; go_simp)
      (try simp only [Act.put, List.setIfInBounds_toArray, List.set_cons_zero, List.set_cons_succ])
      refine wpAnyH_take (i := 6) (v := .agg (setA (behU PS n))) rfl (by kernel_rfl) (by kernel_rfl) (by kernel_rfl) (fun _ _ _ h => h) (Or.inl ⟨by rfl, ?_⟩) (by assumption) ?_
      · (intro W hSw; exact exec_ldAt hSw.1 _ (.tmp 20) (by kernel_rfl) (by kernel_rfl))
      (try simp only [Act.put, List.setIfInBounds_toArray, List.set_cons_zero, List.set_cons_succ])
      refine wpAnyH_take (i := 7) (v := ?_) rfl (by kernel_rfl) (by kernel_rfl) (by kernel_rfl) (fun _ _ _ h => h) (Or.inl ⟨by rfl, ?_⟩) (by assumption) ?_
      rotate_left
      · (intro W hSw; go_simp; try (with_reducible rfl))
      (try simp only [Act.put, List.setIfInBounds_toArray, List.set_cons_zero, List.set_cons_succ])
      refine wpAnyH_take (i := 8) (v := ?_) rfl (by kernel_rfl) (by kernel_rfl) (by kernel_rfl) (fun _ _ _ h => h) (Or.inl ⟨by rfl, ?_⟩) (by assumption) ?_
      rotate_left
      · (intro W hSw; go_simp; try (with_reducible rfl))
      (try simp only [Act.put, List.setIfInBounds_toArray, List.set_cons_zero, List.set_cons_succ])
      refine wpAnyH_take (i := 9) (v := .pointer (some ⟨gs, n * 16, none⟩)) rfl (by kernel_rfl) (by kernel_rfl) (by kernel_rfl) (fun _ _ _ h => h) (Or.inl ⟨by rfl, ?_⟩) (by assumption) ?_
      · (intro W hSw; go_simp)
      (try simp only [Act.put, List.setIfInBounds_toArray, List.set_cons_zero, List.set_cons_succ])
      refine wpAnyH_take (i := 10) (v := .agg (setA (pAt PS n))) rfl (by kernel_rfl) (by kernel_rfl) (by kernel_rfl) (fun _ _ _ h => h) (Or.inl ⟨by rfl, ?_⟩) (by assumption) ?_
      · (intro W hSw; exact exec_ldAt hSw.2 _ (.tmp 24) (by kernel_rfl) (by kernel_rfl))
      (try simp only [Act.put, List.setIfInBounds_toArray, List.set_cons_zero, List.set_cons_succ])
      refine wpAnyH_ready (rs := [11]) (by kernel_rfl) (by simp) ?_
      refine AllReadyH.cons rfl (fun K hK => ?_) AllReadyH.nil
      go_simp
      (go_at_call 70; refine (with_any (behU PS n) (pAt PS n) _).mono ?_)
      rintro e w2 ⟨rfl, hb2'⟩
      have hb2 : Below wr.heap.size wr w2 := (Below.refl _ wr).drew.trans hb2'
      have own2 := own.below hb2
      have B2 := B.trans (hb2.mono B.size)
      obtain ⟨w3, hst, own3, g3⟩ := own2.stored (n - 1) (by rw [HL.out.1]; omega) (fun u => behU PS n u || pAt PS n u)
      have B3 : Below w.heap.size w w3 := B2.grown g3 B2.size (fun j e => by cases e; exact hgw)
      clear own2 hHeld
      refine hK.out _ _ ⟨fun k hk => (hb2.cell (p := ⟨g, n * 16 + k, none⟩) (own.base_le.2)).trans (cL k hk), fun k hk => (hb2.cell (p := ⟨gs, n * 16 + k, none⟩) (hS2.base_le.2)).trans (cS k hk)⟩ (fun hHeld => ?_)
      clear hK K
      (try simp only [Act.put, List.setIfInBounds_toArray, List.set_cons_zero, List.set_cons_succ])
      refine wpAnyH_take (i := 12) (v := .pointer (some ⟨g, (n - 1) * 16, none⟩)) rfl (by kernel_rfl) (by kernel_rfl) (by kernel_rfl) (fun _ _ _ h => h) (Or.inl ⟨by rfl, ?_⟩) (by assumption) ?_
      · (intro W hSw; go_simp; intro h; omega)
      (try simp only [Act.put, List.setIfInBounds_toArray, List.set_cons_zero, List.set_cons_succ])
      refine wpAnyH_ready (rs := [13]) (by kernel_rfl) (by simp) ?_
      refine AllReadyH.cons rfl (fun K' hK => ?_) AllReadyH.nil
      rw [if_pos (by kernel_rfl)]
      refine wp_stAt (.tmp 27) (.tmp 26) (by kernel_rfl) (by kernel_rfl) (by kernel_rfl) hst ?_
      refine hK.out _ _ ⟨fun k hk => ?_, fun k hk => g3.cell (a := ⟨gs, n * 16 + k, none⟩) ((hb2.cell (p := ⟨gs, n * 16 + k, none⟩) hS2.base_le.2).trans (cS k hk)) (fun e => by have h1 := Option.some.inj e; have h2 := hS.base_le.2; simp at h1; omega)⟩ (fun hHeld => ?_)
      · rw [own3.cells n (by simp; rw [HL.out.1]; exact hnK) k hk, pAt_set _ _ _ _ (by rw [HL.out.1]; omega), if_neg (by omega), HL.out.2 n hnK, if_pos (Int.le_refl _)]
      clear hK K'
      (try simp only [Act.put, List.setIfInBounds_toArray, List.set_cons_zero, List.set_cons_succ])
      refine wpAnyH_done (by kernel_rfl) ?_ _
      go_wp2_with fail
      go_roundw
      case rel =>
        refine ⟨(n : Int) - 1, _, by omega, by omega, by go_num, own3, Lib.hid ⟨by simp; exact HL.out.1, fun j hj => ?_⟩, B3⟩
        rw [pAt_set _ _ _ _ (by rw [HL.out.1]; omega), behU_step PS n (by omega) (by rw [← HK.out]; exact hnK)]
        by_cases e : j = n - 1
        · subst e; rw [if_pos rfl, if_pos (by omega)]
        · rw [if_neg e, HL.out.2 j hj]
          by_cases h : (n : Int) ≤ (j : Int)
          · rw [if_pos h, if_pos (by omega)]
          · rw [if_neg h, if_neg (by omega)]
      case measure => simp [intOf]; omega
    · go_wp2_with fail
      go_ret
      exact ⟨g, by rw [← HK.out]; rfl, L, by rw [← HK.out]; exact own, by rw [← HK.out]; exact HL.out.1, fun j hj => by rw [HL.out.2 j (by rw [HK.out]; exact hj), if_pos (by omega)], B⟩

end Go.Proofs.Ytlkfmopcdmppmaa
