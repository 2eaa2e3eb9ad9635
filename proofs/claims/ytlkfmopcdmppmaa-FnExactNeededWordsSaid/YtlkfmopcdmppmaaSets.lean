/-
  A list of sets of the call's own: loads and stores of its sets. By an AI agent.
-/
import Derived.Test.YtlkfmopcdmppmaaColl
namespace Go.Proofs.Ytlkfmopcdmppmaa
open Go.RowKit Cv
set_option linter.unusedVariables false
set_option linter.unusedSimpArgs false
set_option maxRecDepth 100000

theorem addr_add (g o i : Nat) : (⟨g, o, none⟩ : Addr).add i = ⟨g, o + i, none⟩ := by unfold Addr.add; split <;> simp_all
def pAt (L : List (Nat → Bool)) (j : Nat) : Nat → Bool := L.getD j fun _ => false
theorem cellsP_get (L : List (Nat → Bool)) (i : Nat) (h : i < L.length * 16) : (cellsP L)[i]? = (setA (pAt L (i / 16)))[i % 16]? := by
  induction L generalizing i with
  | nil => simp at h
  | cons p L ih =>
    rw [cellsP, List.flatMap_cons, ← cellsP]
    have hp : (setA p).toList.length = 16 := by simp [setA_size]
    by_cases h16 : i < 16
    · rw [List.getElem?_append_left (by omega), Nat.div_eq_of_lt h16, Nat.mod_eq_of_lt h16]; simp [pAt]
    · rw [List.getElem?_append_right (by omega), hp, ih (i - 16) (by simp at h; omega)]
      have e1 : i / 16 = (i - 16) / 16 + 1 := by omega
      have e2 : i % 16 = (i - 16) % 16 := by omega
      rw [e1, e2]; simp [pAt]

def putCells (cur : Array Value) (o : Nat) : List Value → Array Value
  | [] => cur
  | v :: vs => putCells (cur.setIfInBounds o v) (o + 1) vs
theorem putCells_size (vs : List Value) (cur : Array Value) (o : Nat) : (putCells cur o vs).size = cur.size := by
  induction vs generalizing cur o with
  | nil => rfl
  | cons v vs ih => rw [putCells, ih]; simp
theorem putCells_get (vs : List Value) (cur : Array Value) (o : Nat) (h : o + vs.length ≤ cur.size) (k : Nat) : (putCells cur o vs)[k]? = if o ≤ k ∧ k < o + vs.length then vs[k - o]? else cur[k]? := by
  induction vs generalizing cur o with
  | nil => rw [putCells, if_neg (by simp)]
  | cons v vs ih =>
    rw [putCells, ih _ _ (by simp at h ⊢; omega)]
    simp only [List.length_cons] at h ⊢
    by_cases e : k = o
    · subst e
      rw [if_neg (by omega), if_pos (by omega), Nat.sub_self]
      simp [show k < cur.size by omega]
    · by_cases h2 : o + 1 ≤ k ∧ k < o + 1 + vs.length
      · rw [if_pos h2, if_pos (by omega), show k - o = (k - (o + 1)) + 1 by omega, List.getElem?_cons_succ]
      · rw [if_neg h2, if_neg (by omega), Array.getElem?_setIfInBounds_ne (by omega)]

theorem run_storeCells_mid (g : Nat) (t : TypeId) : ∀ (vs : List Value) (o i : Nat) (cur : Array Value) (w : World), w.heap[g]? = some (.cells cur t (0, 0)) → o + i + vs.length ≤ cur.size → (∀ v ∈ vs, v.oneCell' = true) →
    (storeCells ⟨g, o, none⟩ vs i).run Try.prog w = .ok () (w.setRow g (putCells cur (o + i) vs))
  | [], o, i, cur, w, hg, hl, _ => by
    have h := run_storeCells_from (P := Try.prog) g t [] cur.size cur w hg (by simp) (by simp)
    rw [putCells]
    simp only [storeCells] at h ⊢
    simpa [List.take_of_length_le] using h
  | v :: rest, o, i, cur, w, hg, hl, h1 => by
    simp only [List.length_cons] at hl
    have hi : o + i < cur.size := by omega
    have hcell : w.cell? ⟨g, o + i, none⟩ = some cur[o + i] := by simp [World.cell?, hg, hi]
    have hfro : w.frozen? ⟨g, o + i, none⟩ = false := by simp [World.frozen?, hg]
    have hst : (store ((⟨g, o, none⟩ : Addr).add i) v).run Try.prog w = .ok () (w.setRow g (cur.setIfInBounds (o + i) v)) := by
      rw [addr_add, run_store Try.prog w _ v _ (h1 v (by simp)), hcell]
      simp [hfro, setCell_eq_setRow w g (o + i) cur t (0, 0) v hg]
    have ih := run_storeCells_mid g t rest o (i + 1) (cur.setIfInBounds (o + i) v) (w.setRow g (cur.setIfInBounds (o + i) v)) (setRow_heap w g cur _ t _ hg) (by simp; omega) (fun x hx => h1 x (by simp [hx]))
    simp only [storeCells, Sem.run_bind, hst, Result.andThen_ok, ih, setRow_setRow, putCells]
    rfl

theorem ldAt {w : World} {g o : Nat} {p : Nat → Bool} (h : ∀ k, k < 16 → w.cell? ⟨g, o + k, none⟩ = some (.int .u64 (partN p k))) : (loadVar 66 ⟨g, o, none⟩).run Try.prog w = .ok (.agg (setA p)) w := by
  have hl : (loadCells ⟨g, o, none⟩ (setA p).toList.length).run Try.prog w = .ok (setA p).toList.toArray w :=
    run_loadCells_list (P := Try.prog) w ⟨g, o, none⟩ (setA p).toList (fun j v hv => by
      have hj : j < 16 := by
        have := (List.getElem?_eq_some_iff.1 hv).1
        simpa [setA_size] using this
      rw [addr_add, h j hj, ← setA_get p j hj]
      simpa using hv)
  cases hq : Try.prog.info? 66 with
  | none => have := info81; simp [hq] at this
  | some i =>
    have hs : i.size = 16 := by have := info81; simpa [hq] using this
    have hagg : (isAgg 66).run Try.prog w = .ok true w := by
      unfold isAgg
      rw [Sem.run_bind, run_underlying Try.underlying66 w]
      rfl
    simp only [Array.length_toList, Array.toArray_toList, setA_size] at hl
    simp [loadVar, Sem.run_bind, hagg, sizeOf, typeInfo, hq, hs, hl]
theorem exec_ldAt {a : Act} {w : World} {g q : Nat} {p : Nat → Bool} (h : ∀ k, k < 16 → w.cell? ⟨g, q + k, none⟩ = some (.int .u64 (partN p k))) (o : Oper) (x : Operand) (ho : o.op = .load 66 x) (hx : a.eval x = .pointer (some ⟨g, q, none⟩)) : (execOp a.eval o).run Try.prog w = .ok (.value (.agg (setA p))) w := by
  unfold execOp
  simp only [ho, hx, Instr.loadAt, Instr.sureAddr, Sem.run_bind, Sem.run_pure, Result.andThen_ok, ldAt h]

theorem OwnSets.cells {w : World} {base g n c : Nat} {L : List (Nat → Bool)} (h : OwnSets w base (.slice (some ⟨g, 0, none⟩) n c) L) (j : Nat) (hj : j < L.length) (k : Nat) (hk : k < 16) : w.cell? ⟨g, j * 16 + k, none⟩ = some (.int .u64 (partN (pAt L j) k)) := by
  rcases h.2 with ⟨hv, _⟩ | ⟨g', c', cur, hv, hb, hh, hle, hm, hs, ht⟩
  · simp at hv
  · simp only [Value.slice.injEq, Option.some.injEq, Addr.mk.injEq, and_true, true_and] at hv
    obtain ⟨rfl, rfl, rfl⟩ := hv
    have h1 := cellsP_get L (j * 16 + k) (by omega)
    rw [← ht, List.getElem?_take_of_lt (by omega), show (j * 16 + k) / 16 = j by omega, show (j * 16 + k) % 16 = k by omega, setA_get _ _ hk] at h1
    rw [cell_of_row w g _ _ _ _ hh]
    simpa using h1
theorem OwnSets.base_le {w : World} {base g n c : Nat} {L : List (Nat → Bool)} (h : OwnSets w base (.slice (some ⟨g, 0, none⟩) n c) L) : base ≤ g ∧ g < w.heap.size := by
  rcases h.2 with ⟨hv, _⟩ | ⟨g', c', cur, hv, hb, hh, hle, hm, hs, ht⟩
  · simp at hv
  · simp only [Value.slice.injEq, Option.some.injEq, Addr.mk.injEq, and_true, true_and] at hv
    obtain ⟨rfl, rfl, rfl⟩ := hv
    exact ⟨hb, (Array.getElem?_eq_some_iff.1 hh).1⟩
theorem pAt_set (L : List (Nat → Bool)) (j i : Nat) (p : Nat → Bool) (hj : j < L.length) : pAt (L.set j p) i = if i = j then p else pAt L i := by
  unfold pAt
  by_cases e : i = j
  · subst e; simp [List.getD, hj]
  · rw [if_neg e]; simp [List.getD, List.getElem?_set_ne (Ne.symm e)]

/-- a store of a set into the list -/
theorem OwnSets.stored {w : World} {base g n c : Nat} {L : List (Nat → Bool)} (h : OwnSets w base (.slice (some ⟨g, 0, none⟩) n c) L) (j : Nat) (hj : j < L.length) (p : Nat → Bool) :
    ∃ w2, (storeVar 66 ⟨g, j * 16, none⟩ (.agg (setA p))).run Try.prog w = .ok () w2 ∧ OwnSets w2 base (.slice (some ⟨g, 0, none⟩) n c) (L.set j p) ∧ w.grownBy w2 (some g) := by
  obtain ⟨h1, h2⟩ := h
  rcases h2 with ⟨hv, _⟩ | ⟨g', c', cur, hv, hb, hh, hle, hm, hs, ht⟩
  · simp at hv
  · simp only [Value.slice.injEq, Option.some.injEq, Addr.mk.injEq, and_true, true_and] at hv
    obtain ⟨rfl, rfl, rfl⟩ := hv
    have hlen : (setA p).toList.length = 16 := by simp [setA_size]
    have hr := run_storeCells_mid g 66 (setA p).toList (j * 16) 0 cur w hh (by rw [hlen]; omega) (fun v hv => (Array.all_eq_true_iff_forall_mem.1 (setA_one p)) v (by simpa using hv))
    refine ⟨w.setRow g (putCells cur (j * 16) (setA p).toList), ?_, ⟨?_, .inr ⟨g, c, putCells cur (j * 16) (setA p).toList, by simp, hb, setRow_heap w g _ _ _ _ hh, by simpa using hle, hm, by rw [putCells_size, hs], ?_⟩⟩, grown_setRow _⟩
    · cases hq : Try.prog.info? 66 with
      | none => have := info81; simp [hq] at this
      | some i =>
        have hsz : i.size = 16 := by have := info81; simpa [hq] using this
        simp only [Nat.add_zero] at hr
        simp [storeVar, sizeOf, typeInfo, hq, Value.cells, hsz, setA_size, hr]
    · rw [cellsP_len]
    · apply List.ext_getElem?
      intro i
      by_cases hi : i < L.length * 16
      · rw [List.getElem?_take_of_lt (by simpa using hi), cellsP_get _ _ (by simpa using hi), Array.getElem?_toList, putCells_get _ _ _ (by rw [hlen]; omega), hlen, pAt_set _ _ _ _ hj]
        by_cases e : j * 16 ≤ i ∧ i < j * 16 + 16
        · rw [if_pos e, if_pos (by omega), show i % 16 = i - j * 16 by omega]; simp
        · rw [if_neg e, if_neg (by omega), ← cellsP_get _ _ hi, ← ht, List.getElem?_take_of_lt hi, Array.getElem?_toList]
      · rw [List.getElem?_eq_none (by simp [putCells_size]; omega), List.getElem?_eq_none (by rw [cellsP_len]; simp; omega)]

end Go.Proofs.Ytlkfmopcdmppmaa
