/-
  The rest of the sum of digits, and the digits with it behind. By an AI agent.
-/
import Derived.Test.YtijlcjgbekcefaaChg
import Derived.Test.YtijlcjgbekcefaaMath22
import Derived.ArgAppend
namespace Go.Proofs.Ytijlcjgbekcefaa
open Go.RowKit Cv
set_option linter.unusedVariables false
set_option linter.unusedSimpArgs false
set_option maxRecDepth 100000

theorem restOfSum_any (a : Option Addr) (T : List Int) (n c : Nat) (hn : n = T.length) (hl : T.length ≤ 8) (hb : ∀ i, i < T.length → 0 ≤ gi T i ∧ gi T i ≤ 4) (q : Int) (hq : 2 ≤ q ∧ q ≤ 4) (w : World) (hT : Ints w a T) :
    Calls Try.prog 28 #[.slice a n c, .int .i64 q] w fun e w' => e = .returned (.int .i64 (sumTo T T.length % q)) ∧ Below w.heap.size w w' := by
  subst hn
  have HB := Lib.hid hb
  clear hb
  go_enter Try.func28, Try.ntmps28
  go_wp2_with fail
  go_loopw [5, 10] (fun v i wr => ∃ k : Nat, k ≤ T.length ∧ i = .int .i64 k ∧ v = .int .i64 (sumTo T k) ∧ Below w.heap.size w wr) (fun _ i _ => T.length - (intOf i).toNat)
  case atStart => exact ⟨0, Nat.zero_le _, rfl, rfl, Below.refl _ _⟩
  case round =>
    obtain ⟨k, hk, rfl, rfl, B⟩ := hrel
    obtain ⟨t1, t2⟩ := sumTo_bd T HB.out k hk
    by_cases hlt : k < T.length
    · obtain ⟨b, o, rfl, hbl, hc⟩ := hT.at hlt
      have hck := kept_cell B (hc k hlt) hbl
      obtain ⟨t3, t4⟩ := HB.out k hlt
      have E1 : IntKind.i64.wrap (sumTo T k + gi T k) = sumTo T k + gi T k := IntWalk.i64_in _ ⟨by omega, by omega⟩
      clear hc
      go_wp2_with fail
      go_roundw
      case rel => exact ⟨k + 1, by omega, by go_num, rfl, B⟩
      case measure => simp [intOf]; omega
    · have ek : k = T.length := by omega
      have E2 : (sumTo T k).tmod q = sumTo T k % q := Int.tmod_eq_emod_of_nonneg t1
      have hz : (q == 0) = false := by simp; omega
      have hz2 : ¬ q = 0 := by omega
      have HR : Hid (sumTo T T.length % q = sumTo T k % q) := Lib.hid (by rw [ek])
      clear ek
      go_wp2_with fail
      go_ret
      exact ⟨by rw [HR.out]; rfl, B⟩

set_option maxHeartbeats 1000000 in
theorem add_chg (S : List Int) (hl : S.length ≤ 8) (hbd : ∀ i, i < S.length → 2 ≤ gi S i ∧ gi S i ≤ 4) (q : Int) (hq : 2 ≤ q ∧ q ≤ 4) (qb : Nat) (w : World) (hqb : w.cell? ⟨qb, 0, none⟩ = some (.int .i64 q)) (hlt : qb < w.heap.size) :
    ChgN 27 #[] #[.pointer (some ⟨qb, 0, none⟩)] S (S ++ [q]) (addD q) w := by
  intro W g o T hW hT hTI
  obtain ⟨i0, hi, hz0, hz1, hz2⟩ := info_parts infoI64
  have hTl : T.length = S.length := hT.1
  have hTb : ∀ i, i < T.length → 0 ≤ gi T i ∧ gi T i ≤ 4 := fun i h => by have h1 := hT.2 i (by omega); have h2 := hbd i (by omega); omega
  have cq := kept_cell hW hqb hlt
  have lq : qb < W.heap.size := Nat.lt_of_lt_of_le hlt hW.size
  have HT := Lib.hid hTI
  have HTb := Lib.hid hTb
  have hD : Dg (S ++ [q]) (addD q T) := by
    refine ⟨by simp [addD, hTl], fun i h => ?_⟩
    rw [List.length_append, List.length_singleton] at h
    by_cases e : i < S.length
    · unfold addD
      rw [gi_append_lt _ _ _ (by omega), gi_append_lt _ _ _ e]; exact hT.2 i e
    · have e2 : i = S.length := by omega
      subst e2
      unfold addD
      rw [← hTl, gi_append_ge _ _ _ (Nat.le_refl _), hTl, gi_append_ge _ _ _ (Nat.le_refl _)]
      simp only [Nat.sub_self]
      exact ⟨Int.emod_nonneg _ (by omega), Int.emod_lt_of_pos _ (by omega)⟩
  have HD := Lib.hid hD
  have HTl := Lib.hid hTl
  clear hTb hbd hD hTl hT
  show Calls Try.prog 27 #[.slice (some ⟨g, o, none⟩) S.length S.length, .pointer (some ⟨qb, 0, none⟩)] W _
  go_enter Try.func27, Try.ntmps27
  go_wp2_with fail
  refine (restOfSum_any (some ⟨g, o, none⟩) T S.length S.length HTl.out.symm (by rw [HTl.out]; exact hl) HTb.out q hq _ HT.out).mono ?_
  rintro e w2 ⟨rfl, hb2⟩
  have hT2 := HT.out.below hb2
  have s2 := hb2.size
  go_wp2_with (at_builtin; refine wpList_append_grows _ rfl _ _ 22 rfl 2 i0 (.int .i64 0) 1 8 Try.underlying22 hi hz0 hz1 hz2 rfl (by decide) (some ⟨g, o, none⟩) S.length S.length (T.map (Value.int .i64)) rfl (by simp) (by simp; exact HTl.out) ?_ ⟨w2.heap.size, 0, none⟩ 1 1 [.int .i64 (sumTo T T.length % q)] rfl rfl ?_ ?_ (by omega) (by unfold maxLen; omega) (by omega) ?_)
  · intro b hb j u hj
    cases hb
    have hadd : (⟨g, o, none⟩ : Addr).add j = ⟨g, o + j, none⟩ := by unfold Addr.add; split <;> simp_all
    rw [hadd]
    have hjl : j < T.length := by
      have := (List.getElem?_eq_some_iff.1 hj).1
      simpa using this
    obtain ⟨b', o', e, hbl, hc⟩ := hT2.at hjl
    simp only [Option.some.injEq, Addr.mk.injEq, and_true] at e
    obtain ⟨rfl, rfl⟩ := e
    have h := hc j hjl
    have hu : u = .int .i64 (gi T j) := by
      rw [List.getElem?_map, List.getElem?_eq_getElem hjl] at hj
      simp only [Option.map_some, Option.some.injEq] at hj
      rw [gi_lt T j hjl, ← hj]
    rw [hu]
    exact kept_cell ((Below.refl w2.heap.size w2).alloc (Nat.le_refl _) _) h hbl
  · intro j u hj
    match j, hj with
    | 0, hj => simp at hj; subst hj; simp [Addr.add]
  · intro u hu; simp at hu; subst hu; rfl
  · intro v' w' h1 h2
    have own : OwnInts w' (w2.heap.size + 1) v' (addD q T) := by
      have e1 : (addD q T).length = S.length + 1 := by simp [addD, HTl.out]
      have e2 : (addD q T).map (Value.int .i64) = T.map (Value.int .i64) ++ [.int .i64 (sumTo T T.length % q)] := by simp [addD]
      unfold OwnInts
      rw [e1, e2]
      exact h1
    have hlen : (addD q T).length = (S ++ [q]).length := by simp [addD, HTl.out]
    obtain ⟨a, c, hv, hI⟩ := own.ints
    rw [hlen] at hv
    have HV := Lib.hid hv
    have B' : Below W.heap.size W w' := hb2.trans (((Below.refl w2.heap.size w2).alloc (Nat.le_refl _) _).trans ((below_grown0 h2).mono (by simp)) |>.mono s2)
    clear hlen hv h1 h2
    go_wp2_with fail
    go_ret
    exact ⟨a, c, by rw [HV.out]; rfl, hI, HD.out, B'⟩

end Go.Proofs.Ytijlcjgbekcefaa
