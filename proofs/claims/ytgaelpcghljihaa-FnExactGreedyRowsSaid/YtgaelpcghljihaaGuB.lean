/-
  Merged texts: ChoA, PltA, Chc10, Grm10. Never import this beside one of them. By an AI agent.
-/
import Derived.Test.YtgaelpcghljihaaMisA
import Derived.StillTailTactics
import Derived.Deep.WholeRow
import Derived.Test.YtgaelpcghljihaaSets
import Derived.Test.YtgaelpcghljihaaParts
import Derived.Test.YtgaelpcghljihaaPlaA
import Derived.Test.YtgaelpcghljihaaClone
import Derived.Test.YtgaelpcghljihaaAllW
import Derived.Test.YtgaelpcghljihaaGuA
import Derived.Test.YtgaelpcghljihaaRow10
namespace Go.Proofs.Ytgaelpcghljihaa
open Go.RowKit Cv
set_option linter.unusedVariables false
set_option linter.unusedSimpArgs false
set_option maxRecDepth 100000

/-- the choice of t places in a list -/
def chV (ao : Option Addr) (n cap g o t d cd : Nat) : Value := .agg #[.slice ao n cap, .slice (some ⟨g, o, none⟩) t t, .slice (some ⟨g, o + t, none⟩) d cd]

theorem infoCh : (Try.prog.info? 71).map (·.size) = some 3 := by kernel_rfl
theorem grown_setRowC {w : World} {b : Nat} (q : Array Value) : w.grownBy (w.setRow b q) (some b) :=
  ⟨rfl, rfl, rfl, by simp, fun i hi hne => setRow_other w b i q (by simpa using hne)⟩

set_option maxHeartbeats 2000000 in
theorem choiceOf_any (ao : Option Addr) (n cap g o m c t : Nat) (h0 : 0 < t) (hm : m / 2 = t) (hmc : m ≤ c) (hm9 : m ≤ 4294967296) (hc : c ≤ 4611686018427387904) (w : World) :
    Calls Try.prog 68 #[.agg #[.slice ao n cap], .slice (some ⟨g, o, none⟩) m c] w fun e w' => e = .returned (chV ao n cap g o t (m - t) (c - t)) ∧ Below w.heap.size w w' := by
  have e2 : (m : Int).tdiv 2 = (t : Int) := by rw [Int.tdiv_eq_ediv_of_nonneg (by omega)]; omega
  have htm : t ≤ m := by omega
  have htc : t ≤ c := by omega
  have htc2 : ¬ c = t := by omega
  have htcI : (t : Int) ≤ (c : Int) := by omega
  have htmI : (t : Int) ≤ (m : Int) := by omega
  have HM := Lib.hid hm
  obtain ⟨W, hW⟩ : ∃ W, W = (w.alloc (.cells #[.slice ao n cap] 24)).alloc (.cells #[.slice none 0 0, .slice none 0 0, .slice none 0 0] 71) := ⟨_, rfl⟩
  have B0 : Below w.heap.size w W := by rw [hW]; go_grown
  have c0 : W.cell? ⟨w.heap.size, 0, none⟩ = some (.slice ao n cap) := by
    rw [hW]; exact kept_cell ((Below.refl _ (w.alloc (.cells #[.slice ao n cap] 24))).alloc (Nat.le_refl _) _) (cell_new _ _ _) (by simp)
  have r1 : W.heap[w.heap.size + 1]? = some (.cells #[.slice none 0 0, .slice none 0 0, .slice none 0 0] 71 (0, 0)) := by
    have e : (w.alloc (.cells #[.slice ao n cap] 24)).heap.size = w.heap.size + 1 := by simp
    rw [hW, ← e]; exact heap_alloc_new _ _
  have HW := Lib.hid hW
  clear hW hm
  go_enter Try.func68, Try.ntmps68
  go_wp2_with fail
  rw [← HW.out]
  go_still_tail 9, (by kernel_rfl)
  change wpList _ _ _ _ _ W.drew
  refine wpList_store_row rfl _ _ _ rfl (w.heap.size + 1) _ rfl rfl 71 _ r1 infoCh rfl (by simp [Value.oneCell']) ?_
  have hg : W.drew.grownBy (W.drew.setRow (w.heap.size + 1) #[.slice ao n cap, .slice (some ⟨g, o, none⟩) t t, .slice (some ⟨g, o + t, none⟩) (m - t) (c - t)]) (some (w.heap.size + 1)) := grown_setRowC _
  have B1 := B0.drew.grown hg (by have := B0.size; exact this) (fun j e => by cases e; omega)
  have r2 : (W.drew.setRow (w.heap.size + 1) #[.slice ao n cap, .slice (some ⟨g, o, none⟩) t t, .slice (some ⟨g, o + t, none⟩) (m - t) (c - t)]).heap[w.heap.size + 1]? = some (.cells #[.slice ao n cap, .slice (some ⟨g, o, none⟩) t t, .slice (some ⟨g, o + t, none⟩) (m - t) (c - t)] 71 (0, 0)) := setRow_heap W.drew (w.heap.size + 1) _ _ _ _ r1
  clear c0 hg
  go_wp2_with fail
  refine bodyPost_ret (v := chV ao n cap g o t (m - t) (c - t)) (results_cell_row (P := Try.prog) rfl _ _ (w.heap.size + 1) _ _ _ _ rfl r2 Try.underlying71 rfl infoCh) rfl ?_
  exact ⟨rfl, B1⟩

set_option maxHeartbeats 2000000 in
theorem isIn_any (ao : Option Addr) (n cap g o t cd gD oD nD cD : Nat) (c D : List Int) (hn8 : nD ≤ 8) (hDl : D.length = nD) (hcl : c.length = 2 * t) (h0 : 0 < t) (ht3 : t ≤ 3) (hcb : ∀ k, k < t → 0 ≤ gi c k ∧ gi c k < nD) (w : World) (hD : Ints w (some ⟨gD, oD, none⟩) D) (hc : Ints w (some ⟨g, o, none⟩) c) :
    Calls Try.prog 69 #[chV ao n cap g o t t cd, .slice (some ⟨gD, oD, none⟩) nD cD] w fun e w' => e = .returned (.bool (hasC D c)) ∧ Below w.heap.size w w' := by
  have HX : Hid (hasC D c = hcTo D c t t) := Lib.hid (by unfold hasC; rw [hcl, Nat.mul_div_cancel_left _ (by omega)])
  have HC : Hid (∀ k, k < t → ∃ p : Nat, gi c k = (p : Int) ∧ p < nD ∧ gD < w.heap.size ∧ g < w.heap.size ∧ w.cell? ⟨g, o + k, none⟩ = some (.int .i64 (p : Int)) ∧ w.cell? ⟨gD, oD + p, none⟩ = some (.int .i64 (gi D p)) ∧ w.cell? ⟨g, o + t + k, none⟩ = some (.int .i64 (gi c (t + k)))) := Lib.hid fun k hk => by
    have h := hcb k hk
    obtain ⟨b, o, he, hb, hcc⟩ := hc.at (show k < c.length by omega)
    cases he
    obtain ⟨b, o, he, hbD, hDD⟩ := hD.at (show (gi c k).toNat < D.length by omega)
    cases he
    have h1 := hcc k (by omega)
    have h2 := hcc (t + k) (by omega)
    have h3 := hDD (gi c k).toNat (by omega)
    rw [← Nat.add_assoc] at h2
    exact ⟨(gi c k).toNat, by omega, by omega, hbD, hb, by rw [h1]; congr 2; omega, h3, h2⟩
  have HN := Lib.hid fun k => @hcTo_no D c t k
  obtain ⟨W, hW⟩ : ∃ W, W = w.alloc (.cells #[.slice ao n cap, .slice (some ⟨g, o, none⟩) t t, .slice (some ⟨g, o + t, none⟩) t cd] 71) := ⟨_, rfl⟩
  have B0 : Below w.heap.size w W := by rw [hW]; go_grown
  have r0 : W.heap[w.heap.size]? = some (.cells #[.slice ao n cap, .slice (some ⟨g, o, none⟩) t t, .slice (some ⟨g, o + t, none⟩) t cd] 71 (0, 0)) := by rw [hW]; exact heap_alloc_new _ _
  have c1 : W.cell? ⟨w.heap.size, 1, none⟩ = some (.slice (some ⟨g, o, none⟩) t t) := by rw [cell_of_row W _ 1 _ _ _ r0]; rfl
  have c2 : W.cell? ⟨w.heap.size, 2, none⟩ = some (.slice (some ⟨g, o + t, none⟩) t cd) := by rw [cell_of_row W _ 2 _ _ _ r0]; rfl
  have l0 : w.heap.size < W.heap.size := (Array.getElem?_eq_some_iff.1 r0).1
  have HW := Lib.hid hW
  clear hcb hD hc hW r0
  unfold chV
  go_enter Try.func69, Try.ntmps69
  go_wp2_with fail
  rw [← HW.out]
  go_wp2_with fail
  go_loopw [10] (fun x wr => ∃ k : Nat, k ≤ t ∧ x = .int .i64 (k : Int) ∧ Hid (hcTo D c t k = true) ∧ Below W.heap.size W wr) (fun x _ => t - (intOf x).toNat)
  case atStart => exact ⟨0, Nat.zero_le _, rfl, Lib.hid rfl, Below.refl _ _⟩
  case round =>
    obtain ⟨k, hk, rfl, HK, B⟩ := hrel
    have B9 := B0.trans (B.mono B0.size)
    by_cases hlt : k < t
    · have hkI : (k : Int) < (t : Int) := by omega
      obtain ⟨p, hp, hpn, l1, l2, k1, k2, k3⟩ := HC.out k hlt
      have hpI : (p : Int) < (nD : Int) := by omega
      have hp0 : (0 : Int) ≤ (p : Int) := by omega
      have HQ : Hid (gi D (gi c k).toNat = gi D p) := Lib.hid (by rw [hp, Int.toNat_natCast])
      obtain ⟨x, hx⟩ : ∃ x, x = gi D p := ⟨_, rfl⟩
      obtain ⟨y, hy⟩ : ∃ y, y = gi c (t + k) := ⟨_, rfl⟩
      rw [← hx] at k2 HQ
      rw [← hy] at k3
      have HY := Lib.hid hy
      clear hx hy hp
      replace k1 := kept_cell B9 k1 l2
      replace k2 := kept_cell B9 k2 l1
      replace k3 := kept_cell B9 k3 l2
      have c2r := kept_cell B c2 l0
      by_cases hxy : x = y
      · have HS : Hid (hcTo D c t (k + 1) = true) := Lib.hid (by rw [hcTo, HK.out, HQ.out, ← HY.out, hxy]; simp)
        subst hxy
        go_wp2_with fail
        go_quiet (fail)
        go_wp2_with fail
        go_roundw
        case rel => exact ⟨k + 1, by omega, by go_num, HS, below_drewN B _⟩
        case measure => simp [intOf]; omega
      · have hb : (x != y) = true := by simpa using hxy
        have HF : Hid (hasC D c = false) := Lib.hid (by rw [HX.out]; exact HN.out k (by rw [HQ.out, ← HY.out]; simpa using hxy) t hlt)
        clear hxy
        go_wp2_with fail
        go_quiet (fail)
        go_wp2_with fail
        go_ret
        exact ⟨ret_bool HF.out.symm, below_drewN B9 _⟩
    · have hkI : ¬ (k : Int) < (t : Int) := by omega
      have HF : Hid (hasC D c = true) := Lib.hid (by rw [HX.out, ← HK.out, show k = t by omega])
      go_wp2_with fail
      go_ret
      exact ⟨ret_bool HF.out.symm, B9⟩

end Go.Proofs.Ytgaelpcghljihaa

namespace Go.Proofs.Ytgaelpcghljihaa
open Go.RowKit Cv
set_option linter.unusedVariables false
set_option linter.unusedSimpArgs false
set_option maxRecDepth 100000

/-- three cells of a choice -/
structure Ch3 where
  a : Value
  b : Value
  c : Value
def Ch3.arr (x : Ch3) : Array Value := #[x.a, x.b, x.c]
def Ch3.z : Ch3 := ⟨.slice none 0 0, .slice none 0 0, .slice none 0 0⟩
def Ch3.one (x : Ch3) : Prop := x.arr.all (·.oneCell') = true
/-- the choice at an offset of a list -/
def chX (ao : Option Addr) (n cap g t : Nat) (o : Nat) : Ch3 := ⟨.slice ao n cap, .slice (some ⟨g, o, none⟩) t t, .slice (some ⟨g, o + t, none⟩) t t⟩
theorem chX_one (ao : Option Addr) (n cap g t o : Nat) : (chX ao n cap g t o).one := by simp [Ch3.one, Ch3.arr, chX, Value.oneCell']
theorem chX_arr (ao : Option Addr) (n cap g t o : Nat) : Value.agg (chX ao n cap g t o).arr = chV ao n cap g o t t t := rfl
def cellsX (X : List Ch3) : List Value := X.flatMap fun x => x.arr.toList
theorem cellsX_len (X : List Ch3) : (cellsX X).length = X.length * 3 := by
  induction X with
  | nil => rfl
  | cons p X ih => rw [cellsX, List.flatMap_cons, List.length_append, ← cellsX, ih]; simp [Ch3.arr]; omega
theorem cellsX_snoc (X : List Ch3) (p : Ch3) : cellsX (X ++ [p]) = cellsX X ++ p.arr.toList := by simp [cellsX]
def xAt (X : List Ch3) (j : Nat) : Ch3 := X.getD j Ch3.z
theorem cellsX_get (L : List Ch3) (i : Nat) (h : i < L.length * 3) : (cellsX L)[i]? = (xAt L (i / 3)).arr[i % 3]? := by
  induction L generalizing i with
  | nil => simp at h
  | cons p L ih =>
    rw [cellsX, List.flatMap_cons, ← cellsX]
    have hp : p.arr.toList.length = 3 := by simp [Ch3.arr]
    by_cases h16 : i < 3
    · rw [List.getElem?_append_left (by omega), Nat.div_eq_of_lt h16, Nat.mod_eq_of_lt h16]; simp [xAt]
    · rw [List.getElem?_append_right (by omega), hp, ih (i - 3) (by simp at h; omega)]
      have e1 : i / 3 = (i - 3) / 3 + 1 := by omega
      have e2 : i % 3 = (i - 3) % 3 := by omega
      rw [e1, e2]; simp [xAt]
theorem xAt_set (L : List Ch3) (j i : Nat) (p : Ch3) (hj : j < L.length) : xAt (L.set j p) i = if i = j then p else xAt L i := by
  unfold xAt
  by_cases e : i = j
  · subst e; simp [List.getD, hj]
  · rw [if_neg e]; simp [List.getD, List.getElem?_set_ne (Ne.symm e)]
def OwnXs (w : World) (base : Nat) (v : Value) (X : List Ch3) : Prop := w.ownsRow base 71 3 v X.length (cellsX X)
theorem infoCh3 : (Try.prog.info? 71).map (fun i => (i.zero, i.size, i.bytes)) = some (some (.agg Ch3.z.arr), 3, 72) := by kernel_rfl
theorem OwnXs.below {w w' : World} {base : Nat} {v : Value} {X : List Ch3} (h : OwnXs w base v X) (hb : Below w.heap.size w w') : OwnXs w' base v X := by
  obtain ⟨h1, h2⟩ := h
  refine ⟨h1, ?_⟩
  rcases h2 with h2 | ⟨g, cap, cur, hv, hg, hh, r⟩
  · exact Or.inl h2
  · exact Or.inr ⟨g, cap, cur, hv, hg, by rw [hb.block g (Array.getElem?_eq_some_iff.1 hh).1]; exact hh, r⟩
theorem OwnXs.alloc {w : World} {base : Nat} {v : Value} {X : List Ch3} (h : OwnXs w base v X) (o : Obj) : OwnXs (w.alloc o) base v X := World.ownsRow.alloc h o
theorem OwnXs.kept {w w' : World} {base : Nat} {v : Value} {X : List Ch3} {row : Option Nat} (h : OwnXs w base v X) (hg : w.grownBy w' row) (hne : v.ownBlock = none ∨ v.ownBlock ≠ row) : OwnXs w' base v X := World.ownsRow.kept h hg hne
theorem OwnXs.shape {w : World} {base : Nat} {v : Value} {X : List Ch3} (h : OwnXs w base v X) : ∃ a c, v = .slice a X.length c := by
  rcases h.2 with ⟨hv, hn⟩ | ⟨g, cap, cur, hv, _⟩
  · exact ⟨none, 0, by rw [hn]; exact hv⟩
  · exact ⟨_, _, hv⟩
theorem OwnXs.base_le {w : World} {base g n c : Nat} {L : List Ch3} (h : OwnXs w base (.slice (some ⟨g, 0, none⟩) n c) L) : base ≤ g ∧ g < w.heap.size := World.ownsRow.lt h g rfl
theorem OwnXs.rebase {w : World} {base base' : Nat} {v : Value} {X : List Ch3} (h : OwnXs w base v X) (hb : base' ≤ base) : OwnXs w base' v X := by
  obtain ⟨h1, h2⟩ := h
  refine ⟨h1, ?_⟩
  rcases h2 with h2 | ⟨g, cap, cur, hv, hg, r⟩
  · exact Or.inl h2
  · exact Or.inr ⟨g, cap, cur, hv, by omega, r⟩
theorem OwnXs.cells {w : World} {base g n c : Nat} {L : List Ch3} (h : OwnXs w base (.slice (some ⟨g, 0, none⟩) n c) L) (j : Nat) (hj : j < L.length) : w.cell? ⟨g, j * 3, none⟩ = some (xAt L j).a ∧ w.cell? ⟨g, j * 3 + 1, none⟩ = some (xAt L j).b ∧ w.cell? ⟨g, j * 3 + 2, none⟩ = some (xAt L j).c := by
  rcases h.2 with ⟨hv, _⟩ | ⟨g', c', cur, hv, hb, hh, hle, hm, hs, ht⟩
  · simp at hv
  · simp only [Value.slice.injEq, Option.some.injEq, Addr.mk.injEq, and_true, true_and] at hv
    obtain ⟨rfl, rfl, rfl⟩ := hv
    have hk : ∀ k, k < 3 → w.cell? ⟨g, j * 3 + k, none⟩ = (xAt L j).arr[k]? := fun k hk => by
      have h1 := cellsX_get L (j * 3 + k) (by omega)
      rw [← ht, List.getElem?_take_of_lt (by omega), show (j * 3 + k) / 3 = j by omega, show (j * 3 + k) % 3 = k by omega] at h1
      rw [cell_of_row w g _ _ _ _ hh]
      simpa using h1
    exact ⟨hk 0 (by omega), hk 1 (by omega), hk 2 (by omega)⟩
theorem OwnXs.free {w : World} {base g n c : Nat} {L : List Ch3} (h : OwnXs w base (.slice (some ⟨g, 0, none⟩) n c) L) (k : Nat) : w.frozen? ⟨g, k, none⟩ = false := by
  rcases h.2 with ⟨hv, _⟩ | ⟨g', c', cur, hv, hb, hh, _⟩
  · simp at hv
  · simp only [Value.slice.injEq, Option.some.injEq, Addr.mk.injEq, and_true, true_and] at hv
    obtain ⟨rfl, rfl, rfl⟩ := hv
    exact frozen_of_row w g k _ _ hh
/-- a store of a choice into the list -/
theorem OwnXs.stored {w : World} {base g n c : Nat} {L : List Ch3} (h : OwnXs w base (.slice (some ⟨g, 0, none⟩) n c) L) (j : Nat) (hj : j < L.length) (p : Ch3) (hp1 : p.one) :
    ∃ w2, (storeVar 71 ⟨g, j * 3, none⟩ (.agg p.arr)).run Try.prog w = .ok () w2 ∧ OwnXs w2 base (.slice (some ⟨g, 0, none⟩) n c) (L.set j p) ∧ w.grownBy w2 (some g) := by
  obtain ⟨h1, h2⟩ := h
  rcases h2 with ⟨hv, _⟩ | ⟨g', c', cur, hv, hb, hh, hle, hm, hs, ht⟩
  · simp at hv
  · simp only [Value.slice.injEq, Option.some.injEq, Addr.mk.injEq, and_true, true_and] at hv
    obtain ⟨rfl, rfl, rfl⟩ := hv
    have hlen : p.arr.toList.length = 3 := by simp [Ch3.arr]
    have hr := run_storeCells_mid g 71 p.arr.toList (j * 3) 0 cur w hh (by rw [hlen]; omega) (fun v hv => (Array.all_eq_true_iff_forall_mem.1 hp1) v (by simpa using hv))
    refine ⟨w.setRow g (putCells cur (j * 3) p.arr.toList), ?_, ⟨?_, .inr ⟨g, c, putCells cur (j * 3) p.arr.toList, by simp, hb, setRow_heap w g _ _ _ _ hh, by simpa using hle, hm, by rw [putCells_size, hs], ?_⟩⟩, grown_setRowC _⟩
    · cases hq : Try.prog.info? 71 with
      | none => have := infoCh; simp [hq] at this
      | some i =>
        have hsz : i.size = 3 := by have := infoCh; simpa [hq] using this
        have hsz2 : p.arr.size = 3 := rfl
        simp only [Nat.add_zero] at hr
        simp [storeVar, sizeOf, typeInfo, hq, Value.cells, hsz, hsz2, hr]
    · rw [cellsX_len]
    · apply List.ext_getElem?
      intro i
      by_cases hi : i < L.length * 3
      · rw [List.getElem?_take_of_lt (by simpa using hi), cellsX_get _ _ (by simpa using hi), Array.getElem?_toList, putCells_get _ _ _ (by rw [hlen]; omega), hlen, xAt_set _ _ _ _ hj]
        by_cases e : j * 3 ≤ i ∧ i < j * 3 + 3
        · rw [if_pos e, if_pos (by omega), show i % 3 = i - j * 3 by omega]; simp
        · rw [if_neg e, if_neg (by omega), ← cellsX_get _ _ hi, ← ht, List.getElem?_take_of_lt hi, Array.getElem?_toList]
      · rw [List.getElem?_eq_none (by simp [putCells_size]; omega), List.getElem?_eq_none (by rw [cellsX_len]; simp; omega)]
theorem own_madeXs {w : World} {base : Nat} {v : Value} {n : Nat} (h : w.ownsRow base 71 3 v n (madeCells (Value.agg Ch3.z.arr).cells (n * 3)).toList) : OwnXs w base v (List.replicate n Ch3.z) := by
  unfold OwnXs
  rw [List.length_replicate]
  have e : (madeCells (Value.agg Ch3.z.arr).cells (n * 3)).toList = cellsX (List.replicate n Ch3.z) := by
    apply List.ext_getElem?
    intro i
    by_cases hi : i < n * 3
    · rw [cellsX_get _ _ (by simpa using hi)]
      have e1 : xAt (List.replicate n Ch3.z) (i / 3) = Ch3.z := by
        unfold xAt; rw [List.getD_eq_getElem?_getD, List.getElem?_replicate]; split <;> rfl
      rw [e1, Array.getElem?_toList]
      have hz : Ch3.z.arr.size = 3 := rfl
      have h16 : i % 3 < Ch3.z.arr.size := by rw [hz]; omega
      simp only [madeCells, Value.cells, hz, Array.getElem?_map, Array.getElem?_range]
      rw [if_pos hi, Option.map_some, getElem!_pos Ch3.z.arr (i % 3) h16, Array.getElem?_eq_getElem h16]
    · rw [List.getElem?_eq_none (by simp [size_madeCells]; omega), List.getElem?_eq_none (by rw [cellsX_len]; simp; omega)]
  rw [← e]; exact h
theorem wp_stX {o : Oper} {a : Act} {w w3 : World} {K : Act → World → Prop} {Q : Exit → Act → World → Prop} {g q : Nat} {p : Ch3} (x y : Operand) (ho : o.op = .store 71 x y) (hx : a.eval x = .pointer (some ⟨g, q, none⟩)) (hy : a.eval y = .agg p.arr)
    (hst : (storeVar 71 ⟨g, q, none⟩ (.agg p.arr)).run Try.prog w = .ok () w3) (h : K (a.put o.dst undef) w3) : o.wp Try.prog a w K Q := by
  unfold Oper.wp execOp
  simp only [ho, hx, hy, Instr.storeAt, Instr.sureAddr, Sem.run_bind, Sem.run_pure, Result.andThen_ok, hst]
  exact h
theorem wpList_stX {ops : Array Oper} {rest : List Oper} {o : Oper} {a : Act} {w w3 : World} {Q : Exit → Act → World → Prop} (hgd : o.guard = none) {g q : Nat} {p : Ch3} (x y : Operand) (ho : o.op = .store 71 x y) (hx : a.eval x = .pointer (some ⟨g, q, none⟩)) (hy : a.eval y = .agg p.arr)
    (hst : (storeVar 71 ⟨g, q, none⟩ (.agg p.arr)).run Try.prog w = .ok () w3) (h : wpList Try.prog ops Q rest (a.put o.dst undef) w3) : wpList Try.prog ops Q (o :: rest) a w :=
  wpList_plain hgd fun _ hK => wp_stX x y ho hx hy hst (hK _ _ h)
/-- a load of a choice -/
theorem ldX {w : World} {g q : Nat} {p : Ch3} (h : w.cell? ⟨g, q, none⟩ = some p.a ∧ w.cell? ⟨g, q + 1, none⟩ = some p.b ∧ w.cell? ⟨g, q + 2, none⟩ = some p.c) : (loadVar 71 ⟨g, q, none⟩).run Try.prog w = .ok (.agg p.arr) w := by
  have hl : (loadCells ⟨g, q, none⟩ p.arr.toList.length).run Try.prog w = .ok p.arr.toList.toArray w :=
    run_loadCells_list (P := Try.prog) w ⟨g, q, none⟩ p.arr.toList (fun j v hv => by
      rw [addr_add]
      match j, hv with
      | 0, hv => simp [Ch3.arr] at hv; subst hv; exact h.1
      | 1, hv => simp [Ch3.arr] at hv; subst hv; exact h.2.1
      | 2, hv => simp [Ch3.arr] at hv; subst hv; exact h.2.2
      | j + 3, hv => simp [Ch3.arr] at hv)
  cases hq : Try.prog.info? 71 with
  | none => have := infoCh; simp [hq] at this
  | some i =>
    have hs : i.size = 3 := by have := infoCh; simpa [hq] using this
    have hagg : (isAgg 71).run Try.prog w = .ok true w := by
      unfold isAgg
      rw [Sem.run_bind, run_underlying Try.underlying71 w]
      rfl
    have hsz2 : p.arr.toList.length = 3 := rfl
    rw [hsz2] at hl
    simp [loadVar, Sem.run_bind, hagg, sizeOf, typeInfo, hq, hs, hl]
theorem wpList_ldX {ops : Array Oper} {rest : List Oper} {o : Oper} {a : Act} {w : World} {Q : Exit → Act → World → Prop} (hgd : o.guard = none) (x : Operand) (ho : o.op = .load 71 x) {g q : Nat} {p : Ch3}
    (h : w.cell? ⟨g, q, none⟩ = some p.a ∧ w.cell? ⟨g, q + 1, none⟩ = some p.b ∧ w.cell? ⟨g, q + 2, none⟩ = some p.c) (hx : a.eval x = .pointer (some ⟨g, q, none⟩)) (hk : wpList Try.prog ops Q rest (a.put o.dst (.agg p.arr)) w) : wpList Try.prog ops Q (o :: rest) a w :=
  wpList_plain hgd fun _ hK => by
    unfold Oper.wp execOp
    simp only [ho, hx, Instr.loadAt, Instr.sureAddr, Sem.run_bind, Sem.run_pure, Result.andThen_ok, ldX h]
    exact hK _ _ hk
theorem xs_apart {w : World} {base base' : Nat} {v z : Value} {X : List Ch3} {T : List Int} (h : OwnXs w base v X) (ho : OwnInts w base' z T) : z.ownBlock = none ∨ z.ownBlock ≠ v.ownBlock := by
  rcases ho.2 with ⟨hz, _⟩ | ⟨g, cap, cur, hz, _, hh, _⟩
  · exact .inl (by rw [hz]; rfl)
  · rcases h.2 with ⟨hv, _⟩ | ⟨g', cap', cur', hv, _, hh', _⟩
    · refine .inr (fun e => ?_)
      rw [hz, hv] at e
      simp [Value.ownBlock] at e
    · refine .inr fun e => ?_
      rw [hz, hv] at e
      have e' : g = g' := Option.some.inj e
      subst e'
      rw [hh] at hh'
      simp at hh'

end Go.Proofs.Ytgaelpcghljihaa

namespace Go.Proofs.Ytgaelpcghljihaa
open Go.RowKit Cv
set_option linter.unusedVariables false
set_option linter.unusedSimpArgs false
set_option maxRecDepth 100000

theorem putAt_any (g q : Nat) (p : Nat → Bool) (u : Nat) (hu : u < 1024) (w : World) (hc : w.cell? ⟨g, q + u / 64, none⟩ = some (.int .u64 (partN p (u / 64)))) (hf : w.frozen? ⟨g, q + u / 64, none⟩ = false) :
    Calls Try.prog 131 #[.pointer (some ⟨g, q, none⟩), .int .i64 u] w fun e w' => e = .returned (.tuple #[]) ∧ w' = (w.setCell ⟨g, q + u / 64, none⟩ (.int .u64 (partN (putB p u) (u / 64)))).drew := by
  have hc' : w.drew.cell? ⟨g, q + u / 64, none⟩ = some (.int .u64 (partN p (u / 64))) := hc
  have hf' : w.drew.frozen? ⟨g, q + u / 64, none⟩ = false := hf
  have w1 : IntKind.i64.wrap ((u : Int) / 64) = (u : Int) / 64 := IntWalk.i64_in _ ⟨by omega, by omega⟩
  have w2 : IntKind.i64.wrap ((u : Int) % 64) = (u : Int) % 64 := IntWalk.i64_in _ ⟨by omega, by omega⟩
  go_enter Try.func131, Try.ntmps131
  go_region
  all_goals (go_wp2; go_end0)
  refine ⟨rfl, ?_⟩
  rw [part_put1 p u]
theorem OwnSets.putAt {w : World} {base g n c : Nat} {L : List (Nat → Bool)} (h : OwnSets w base (.slice (some ⟨g, 0, none⟩) n c) L) (k : Nat) (hk : k < L.length) (u : Nat) (hu : u < 1024) :
    OwnSets (w.setCell ⟨g, k * 16 + u / 64, none⟩ (.int .u64 (partN (putB (pAt L k) u) (u / 64)))) base (.slice (some ⟨g, 0, none⟩) n c) (L.set k (putB (pAt L k) u)) := by
  obtain ⟨h1, h2⟩ := h
  rcases h2 with ⟨hv, _⟩ | ⟨g', c', cur, hv, hb, hh, hle, hm, hs, ht⟩
  · simp at hv
  · simp only [Value.slice.injEq, Option.some.injEq, Addr.mk.injEq, and_true, true_and] at hv
    obtain ⟨rfl, rfl, rfl⟩ := hv
    refine ⟨by rw [cellsP_len], .inr ⟨g, c, cur.setIfInBounds (k * 16 + u / 64) (.int .u64 (partN (putB (pAt L k) u) (u / 64))), by simp, hb, heap_setCell_same w g _ _ _ _ hh, by simpa using hle, hm, by rw [Array.size_setIfInBounds, hs], ?_⟩⟩
    apply List.ext_getElem?
    intro i
    by_cases hi : i < L.length * 16
    · rw [List.getElem?_take_of_lt (by simpa using hi), cellsP_get _ _ (by simpa using hi), Array.getElem?_toList, pAt_set _ _ _ _ hk]
      have hold : cur[i]? = (setA (pAt L (i / 16)))[i % 16]? := by
        rw [← cellsP_get _ _ hi, ← ht, List.getElem?_take_of_lt hi, Array.getElem?_toList]
      by_cases e : i / 16 = k
      · rw [if_pos e, ← setA_put (pAt L k) u hu]
        by_cases e2 : i % 16 = u / 64
        · have : i = k * 16 + u / 64 := by omega
          subst this
          rw [e2, Array.getElem?_setIfInBounds_self_of_lt (show k * 16 + u / 64 < cur.size by rw [hs]; omega), Array.getElem?_setIfInBounds_self_of_lt (by rw [setA_size]; omega)]
        · rw [Array.getElem?_setIfInBounds_ne (fun h => e2 h.symm), Array.getElem?_setIfInBounds_ne (by omega), hold, e]
      · rw [if_neg e, Array.getElem?_setIfInBounds_ne (by omega), hold]
    · rw [List.getElem?_eq_none (by simp; omega), List.getElem?_eq_none (by rw [cellsP_len]; simp; omega)]
theorem OwnSets.free {w : World} {base g n c : Nat} {L : List (Nat → Bool)} (h : OwnSets w base (.slice (some ⟨g, 0, none⟩) n c) L) (k : Nat) : w.frozen? ⟨g, k, none⟩ = false := by
  rcases h.2 with ⟨hv, _⟩ | ⟨g', c', cur, hv, hb, hh, _⟩
  · simp at hv
  · simp only [Value.slice.injEq, Option.some.injEq, Addr.mk.injEq, and_true, true_and] at hv
    obtain ⟨rfl, rfl, rfl⟩ := hv
    exact frozen_of_row w g k _ _ hh

/-- choices of t places in memory -/
def ChMem (w : World) (ao : Option Addr) (n cap gx : Nat) (C : List (List Int)) (t : Nat) : Prop :=
  ∀ j, j < C.length → gx < w.heap.size ∧ ∃ g o, (w.cell? ⟨gx, j * 3, none⟩ = some (chX ao n cap g t o).a ∧ w.cell? ⟨gx, j * 3 + 1, none⟩ = some (chX ao n cap g t o).b ∧ w.cell? ⟨gx, j * 3 + 2, none⟩ = some (chX ao n cap g t o).c) ∧ Ints w (some ⟨g, o, none⟩) (rr C j)
theorem ChMem.below {w w' : World} {ao : Option Addr} {n cap gx : Nat} {C : List (List Int)} {t : Nat} (h : ChMem w ao n cap gx C t) (hb : Below w.heap.size w w') : ChMem w' ao n cap gx C t := fun j hj => by
  obtain ⟨h1, g, o, ⟨h2, h3, h4⟩, h5⟩ := h j hj
  exact ⟨lt_of_below hb h1, g, o, ⟨kept_cell hb h2 h1, kept_cell hb h3 h1, kept_cell hb h4 h1⟩, h5.below hb⟩
theorem ChMem.all {w : World} {ao : Option Addr} {n cap gx g nF cF base base' N : Nat} {C : List (List Int)} {t : Nat} (hN : N = C.length) (hC : ∀ c, c ∈ C → c.length = 2 * t) (hX : OwnXs w base (.slice (some ⟨gx, 0, none⟩) N N) ((List.range N).map fun j => chX ao n cap g t (j * (2 * t)))) (hF : OwnInts w base' (.slice (some ⟨g, 0, none⟩) nF cF) C.flatten) (hfl : ∀ k j, k < C.length → j < 2 * t → k * (2 * t) + j < C.flatten.length ∧ gi C.flatten (k * (2 * t) + j) = gi (rr C k) j) : ChMem w ao n cap gx C t := fun j hj => by
  subst hN
  have hc := hX.cells j (by simpa using hj)
  have e : xAt ((List.range C.length).map fun j => chX ao n cap g t (j * (2 * t))) j = chX ao n cap g t (j * (2 * t)) := by simp [xAt, hj]
  rw [e] at hc
  refine ⟨hX.base_le.2, g, j * (2 * t), hc, .inr ⟨g, j * (2 * t), rfl, hF.base_le.2, fun i hi => ?_⟩⟩
  have hl : (rr C j).length = 2 * t := hC _ (by unfold rr; rw [List.getD, List.getElem?_eq_getElem hj]; exact List.getElem_mem _)
  obtain ⟨f1, f2⟩ := hfl j i hj (by omega)
  rw [hF.cell f1, f2]

end Go.Proofs.Ytgaelpcghljihaa

namespace Go.Proofs.Ytgaelpcghljihaa
open Go.RowKit Cv
set_option linter.unusedVariables false
set_option linter.unusedSimpArgs false
set_option maxRecDepth 100000

/-- which of the first i choices a row has -/
def chP (D : List Int) (C : List (List Int)) (i : Nat) : Nat → Bool := fun u => decide (u < i) && hasC D (rr C u)
theorem chP_0 (D : List Int) (C : List (List Int)) : chP D C 0 = fun _ => false := by funext u; simp [chP]
theorem chP_yes {D : List Int} {C : List (List Int)} {i : Nat} (h : hasC D (rr C i) = true) : putB (chP D C i) i = chP D C (i + 1) := by
  funext u
  unfold putB chP
  by_cases e : u = i
  · subst e; simp [h]
  · simp only [e, decide_false, Bool.or_false]
    congr 1
    exact decide_eq_decide.2 (by omega)
theorem chP_no {D : List Int} {C : List (List Int)} {i : Nat} (h : hasC D (rr C i) = false) : chP D C i = chP D C (i + 1) := by
  funext u
  unfold chP
  by_cases e : u = i
  · subst e; simp [h]
  · congr 1
    exact decide_eq_decide.2 (by omega)
def chSets (S : List Int) (C : List (List Int)) (R : List Int) : List (Nat → Bool) := R.map fun x => chP (digs S x) C C.length
theorem chSets_len (S : List Int) (C : List (List Int)) (R : List Int) : (chSets S C R).length = R.length := by simp [chSets]
theorem pAt_chSets (S : List Int) (C : List (List Int)) (R : List Int) (j : Nat) (h : j < R.length) : pAt (chSets S C R) j = chP (digs S (gi R j)) C C.length := by
  simp [pAt, chSets, gi, h]
theorem sets_ext {X Y : List (Nat → Bool)} (h : X.length = Y.length) (g : ∀ j, j < X.length → pAt X j = pAt Y j) : X = Y := by
  refine List.ext_getElem h fun i h1 h2 => ?_
  have := g i h1
  simpa [pAt, List.getD, List.getElem?_eq_getElem h1, List.getElem?_eq_getElem h2] using this
theorem cell_heapS {w w' : World} {b : Nat} (h : w'.heap[b]? = w.heap[b]?) (o : Nat) : w'.cell? ⟨b, o, none⟩ = w.cell? ⟨b, o, none⟩ := by
  simp only [World.cell?, h]
theorem ints_heapS {w w' : World} {b o : Nat} {T : List Int} (h : Ints w (some ⟨b, o, none⟩) T) (hk : w'.heap[b]? = w.heap[b]?) (hl : b < w'.heap.size) : Ints w' (some ⟨b, o, none⟩) T := by
  rcases h with h | ⟨b', o', he, hlt, hc⟩
  · exact .inl h
  · simp only [Option.some.injEq, Addr.mk.injEq, and_true] at he
    obtain ⟨rfl, rfl⟩ := he
    exact .inr ⟨_, _, rfl, hl, fun i hi => (cell_heapS hk _).trans (hc i hi)⟩

set_option maxHeartbeats 4000000 in
theorem choiceSets_any (ao : Option Addr) (S : List Int) (cap : Nat) (hSp : Sp S) (ar : Option Addr) (R : List Int) (capr : Nat) (hRl : R.length ≤ 1048576) (hR : ∀ i, i < R.length → 0 ≤ gi R i ∧ gi R i < nW S) (gx cx n2 cap2 t : Nat) (a2 : Option Addr) (C : List (List Int)) (ht1 : 0 < t) (ht3 : t ≤ 3) (hCl : C.length ≤ 1024) (hC : IsCs S.length t C) (w : World) (hS : Ints w ao S) (hRI : Ints w ar R) (hCM : ChMem w a2 n2 cap2 gx C t) :
    Calls Try.prog 77 #[.agg #[.slice ao S.length cap], .slice ar R.length capr, .slice (some ⟨gx, 0, none⟩) C.length cx] w fun e w' => ∃ g, e = .returned (.slice (some ⟨g, 0, none⟩) R.length R.length) ∧ OwnSets w' w.heap.size (.slice (some ⟨g, 0, none⟩) R.length R.length) (chSets S C R) ∧ Below w.heap.size w w' := by
  have HSp := Lib.hid hSp
  have HCM := Lib.hid hCM
  have HC := Lib.hid hC
  have hn8 := hSp.hi
  have hn1 := hSp.lo
  have HD : Hid (∀ i, i < R.length → 0 ≤ gi R i ∧ gi R i ≤ 9223372036854775807) := Lib.hid fun i hi => by have := hR i hi; have := nW_bd hSp; omega
  obtain ⟨K, hK⟩ : ∃ K, K = R.length := ⟨_, rfl⟩
  obtain ⟨NC, hNC⟩ : ∃ NC, NC = C.length := ⟨_, rfl⟩
  have HKl := Lib.hid hK
  have HNC := Lib.hid hNC
  rw [← hK] at hRl ⊢
  rw [← hNC] at hCl ⊢
  clear hSp hCM hC hR hK hNC
  obtain ⟨i0, hi, hz0, hz1, hz2⟩ := info_parts infoSet
  have B0 : Below w.heap.size w (w.alloc (.cells #[.slice ao S.length cap] 24)) := by go_grown
  have c0 := cell_new w (.slice ao S.length cap) 24
  have l0 := lt_alloc w (.cells #[.slice ao S.length cap] 24)
  obtain ⟨W, hW⟩ : ∃ W, W = w.alloc (.cells #[.slice ao S.length cap] 24) := ⟨_, rfl⟩
  rw [← hW] at B0 c0 l0
  have HW := Lib.hid hW
  clear hW
  go_enter Try.func77, Try.ntmps77
  go_wp2_with (first | (at_make; refine wpList_make_full _ rfl _ _ 81 rfl W.heap.size 96 i0 (.agg (setA fun _ => false)) 16 Try.underlying81 hi hz0 hz1 .i64 .i64 (K : Int) (K : Int) K rfl rfl rfl rfl (by rw [hz2]; omega) (by unfold maxLen; omega) (by rw [HW.out]; exact Nat.le_refl _) ?_; rw [← HW.out]; intro w2 hown hgrow; have c2 := kept_cell (below_grown0 hgrow) c0 l0) | fail)
  have hb2 : Below W.heap.size W w2 := below_grown0 hgrow
  replace hown := own_madeSets hown
  have l2 := lt_of_below hb2 l0
  have B2 := B0.trans (hb2.mono B0.size)
  clear hgrow hi hz0 hz1 hz2 c0
  refine (digitParts_n ao S cap hn1 hn8 HSp.out.bd ar R K capr HKl.out (by omega) HD.out _ (hS.below B2) (hRI.below B2)).mono ?_
  rintro e wZ ⟨Pp, gU, U, rfl, hPA, hbZ⟩
  have oS := hown.below hbZ
  have cZ := kept_cell hbZ c2 l2
  have lZ := lt_of_below hbZ l2
  have BZ := B2.trans (hbZ.mono B2.size)
  have hWl := hown.base_le
  have HPc : Hid (∀ k, k < K → wZ.cell? ⟨Pp, k, none⟩ = some (.slice (some ⟨gU, k * S.length, none⟩) S.length S.length) ∧ Ints wZ (some ⟨gU, k * S.length, none⟩) (digs S (gi R k))) := Lib.hid fun k hk => by
    have hk' : k < R.length := by rw [← HKl.out]; exact hk
    refine ⟨hPA.row k hk', .inr ⟨gU, k * S.length, rfl, hPA.own.base_le.2, fun j hj => ?_⟩⟩
    rw [digs_length] at hj
    have hkj : k * S.length + j < U.length := by
      rw [hPA.len]
      have := Nat.mul_le_mul_right S.length (show k + 1 ≤ R.length from hk')
      rw [Nat.succ_mul] at this; omega
    rw [hPA.own.cell hkj, gi_digs _ _ _ hj, hPA.dg k j hk' hj]
  have hgU := hPA.own.base_le
  have hPp := And.intro hPA.bp hPA.pl
  obtain ⟨Z, hZe⟩ : ∃ Z, Z = wZ.heap.size := ⟨_, rfl⟩
  have HZ := Lib.hid hZe
  rw [← hZe] at hgU hPp
  have hWZ : W.heap.size < Z := by rw [hZe]; exact Nat.lt_of_lt_of_le hWl.2 hbZ.size
  have hgUW : gU ≠ W.heap.size := by omega
  have hPpW : Pp ≠ W.heap.size := by omega
  have hl0W : w.heap.size < W.heap.size := l0
  have BWZ : Below W.heap.size W wZ := hb2.trans (hbZ.mono hb2.size)
  clear c2 l2 B2 hbZ hown hPA hZe hb2 l0
  go_wp2_with fail
  go_loopw [19] (fun x wr => ∃ (k : Nat) (X : List (Nat → Bool)), k ≤ K ∧ x = .int .i64 (k : Int) ∧ OwnSets wr W.heap.size (.slice (some ⟨W.heap.size, 0, none⟩) K K) X ∧ Hid (X.length = K ∧ (∀ j, j < k → pAt X j = chP (digs S (gi R j)) C C.length) ∧ ∀ j, k ≤ j → j < K → pAt X j = fun _ => false) ∧ Hid (∀ b, b < Z → b ≠ W.heap.size → wr.heap[b]? = wZ.heap[b]?) ∧ Z ≤ wr.heap.size ∧ Below W.heap.size W wr) (fun x _ => K - (intOf x).toNat)
  case atStart => exact ⟨0, _, Nat.zero_le _, rfl, oS, Lib.hid ⟨by simp, fun j hj => by omega, fun j _ hj => by unfold pAt; rw [List.getD_eq_getElem?_getD, List.getElem?_replicate]; split <;> rfl⟩, Lib.hid fun b _ _ => rfl, by rw [HZ.out]; exact Nat.le_refl _, BWZ⟩
  case round =>
    clear oS cZ lZ BZ BWZ
    obtain ⟨k, X, hk, rfl, oX, HX, HK, hZr, B⟩ := hrel
    by_cases hlt : k < K
    · have hkI : (k : Int) < (K : Int) := by omega
      have hcp := (cell_heapS (HK.out Pp hPp.2 hPpW) k).trans (HPc.out k hlt).1
      have HDk : Hid (Ints wZ (some ⟨gU, k * S.length, none⟩) (digs S (gi R k))) := Lib.hid (HPc.out k hlt).2
      have HDl : Hid ((digs S (gi R k)).length = S.length) := Lib.hid (digs_length _ _)
      obtain ⟨D, hDe⟩ : ∃ D, D = digs S (gi R k) := ⟨_, rfl⟩
      rw [← hDe] at HDk HDl
      have HDe := Lib.hid hDe
      obtain ⟨kn, hkn⟩ : ∃ kn, kn = k * S.length := ⟨_, rfl⟩
      rw [← hkn] at hcp HDk
      obtain ⟨w0, rfl⟩ : ∃ w0, w0 = wr := ⟨_, rfl⟩
      clear hDe hkn
      go_wp2_with fail
      go_loopw [26] (fun x wk => ∃ (i : Nat) (Y : List (Nat → Bool)), i ≤ NC ∧ x = .int .i64 (i : Int) ∧ OwnSets wk W.heap.size (.slice (some ⟨W.heap.size, 0, none⟩) K K) Y ∧ Hid (Y.length = K ∧ (∀ j, j < k → pAt Y j = chP (digs S (gi R j)) C C.length) ∧ pAt Y k = chP D C i ∧ ∀ j, k < j → j < K → pAt Y j = fun _ => false) ∧ Hid (∀ b, b < Z → b ≠ W.heap.size → wk.heap[b]? = wZ.heap[b]?) ∧ Z ≤ wk.heap.size ∧ Below W.heap.size W wk) (fun x _ => NC - (intOf x).toNat)
      case atStart => exact ⟨0, X, Nat.zero_le _, rfl, oX, Lib.hid ⟨HX.out.1, HX.out.2.1, by rw [HX.out.2.2 k (Nat.le_refl _) hlt, chP_0], fun j h1 h2 => HX.out.2.2 j (by omega) h2⟩, HK, hZr, B⟩
      case round =>
        clear oX HX HK hZr B hcp
        obtain ⟨i, Y, hi, rfl, oY, HY, HK, hZr, B⟩ := hrel
        by_cases hli : i < NC
        · have hiI : (i : Int) < (NC : Int) := by omega
          obtain ⟨hgx, g, o, ⟨hx1, hx2, hx3⟩, hIc⟩ := HCM.out i (by rw [← HNC.out]; exact hli)
          have BB := B0.trans (B.mono (Nat.le_of_lt hl0W))
          replace hx1 := kept_cell BB hx1 hgx
          replace hx2 := kept_cell BB hx2 hgx
          replace hx3 := kept_cell BB hx3 hgx
          replace hIc := hIc.below BB
          simp only [chX] at hx1 hx2 hx3
          obtain ⟨hcl, hcb⟩ := HC.out (rr C i) (rr_mem (by rw [← HNC.out]; exact hli))
          have hDw := ints_heapS HDk.out (HK.out gU hgU.2 hgUW) (by omega)
          have HPY := Lib.hid (@chP_yes D C i)
          have HPN := Lib.hid (@chP_no D C i)
          obtain ⟨E, hE⟩ : ∃ E, E = rr C i := ⟨_, rfl⟩
          rw [← hE] at hIc hcl hcb HPY HPN
          clear hE
          obtain ⟨w1, rfl⟩ : ∃ w1, w1 = wr := ⟨_, rfl⟩
          have hb1 : Below w1.heap.size w1 (w1.alloc (.cells #[.slice a2 n2 cap2, .slice (some ⟨g, o, none⟩) t t, .slice (some ⟨g, o + t, none⟩) t t] 71)) := (Below.refl _ _).alloc (Nat.le_refl _) _
          have hin := isIn_any a2 n2 cap2 g o t t gU kn S.length S.length E D hn8 HDl.out hcl ht1 ht3 hcb _ (hDw.below hb1) (hIc.below hb1)
          unfold chV at hin
          have Hin := Lib.hid hin
          clear hin hcb
          go_wp2_with fail
          refine Hin.out.mono ?_
          cases hh : hasC D E with
          | false =>
            have HN := Lib.hid (HPN.out hh)
            rintro e w5 ⟨rfl, hb5⟩
            have H5 : Below w1.heap.size w1 w5 := hb1.trans (hb5.mono hb1.size)
            have oY5 := oY.below H5
            have HK5 : Hid (∀ b, b < Z → b ≠ W.heap.size → w5.heap[b]? = wZ.heap[b]?) := Lib.hid fun b h1 h2 => (H5.block b (by omega)).trans (HK.out b h1 h2)
            have hZ5 := Nat.le_trans hZr H5.size
            have B5 := B.trans (H5.mono B.size)
            have HY5 : Hid (Y.length = K ∧ (∀ j, j < k → pAt Y j = chP (digs S (gi R j)) C C.length) ∧ pAt Y k = chP D C (i + 1) ∧ ∀ j, k < j → j < K → pAt Y j = fun _ => false) := Lib.hid ⟨HY.out.1, HY.out.2.1, by rw [HY.out.2.2.1, HN.out], HY.out.2.2.2⟩
            clear oY HY HK B hb1 hb5 H5 hx1 hx2 hx3 hIc hDw hh HPY HPN Hin
            go_wp2_with fail
            go_roundw
            case rel => exact ⟨i + 1, Y, by omega, by go_num, oY5, HY5, HK5, hZ5, B5⟩
            case measure => simp [intOf]; omega
          | true =>
            have HN := Lib.hid (HPY.out hh)
            rintro e w5 ⟨rfl, hb5⟩
            have H5 : Below w1.heap.size w1 w5 := hb1.trans (hb5.mono hb1.size)
            have oY5 := oY.below H5
            have HK5 : Hid (∀ b, b < Z → b ≠ W.heap.size → w5.heap[b]? = wZ.heap[b]?) := Lib.hid fun b h1 h2 => (H5.block b (by omega)).trans (HK.out b h1 h2)
            have hZ5 := Nat.le_trans hZr H5.size
            have B5 := B.trans (H5.mono B.size)
            have hi1024 : i < 1024 := by omega
            have hkY : k < Y.length := by rw [HY.out.1]; exact hlt
            have hput := putAt_any W.heap.size (k * 16) (pAt Y k) i hi1024 w5 (oY5.cells k hkY (i / 64) (by omega)) (oY5.free _)
            have oY6 := (oY5.putAt k hkY i hi1024)
            have B6 : Below W.heap.size W (w5.setCell ⟨W.heap.size, k * 16 + i / 64, none⟩ (.int .u64 (partN (putB (pAt Y k) i) (i / 64)))).drew := (B5.setCell (Nat.le_refl _) _).drew
            have HK6 : Hid (∀ b, b < Z → b ≠ W.heap.size → (w5.setCell ⟨W.heap.size, k * 16 + i / 64, none⟩ (.int .u64 (partN (putB (pAt Y k) i) (i / 64)))).drew.heap[b]? = wZ.heap[b]?) := Lib.hid fun b h1 h2 => by
              have hg : w5.grownBy (w5.setCell ⟨W.heap.size, k * 16 + i / 64, none⟩ (.int .u64 (partN (putB (pAt Y k) i) (i / 64)))) (some W.heap.size) := grown_setCell (World.grownBy.refl w5 _) _ _
              exact (hg.block b (by omega) (by intro e; exact h2 (Option.some.inj e))).trans (HK5.out b h1 h2)
            have hZ6 : Z ≤ (w5.setCell ⟨W.heap.size, k * 16 + i / 64, none⟩ (.int .u64 (partN (putB (pAt Y k) i) (i / 64)))).drew.heap.size := Nat.le_trans hZ5 (Nat.le_of_eq (by simp [World.drew]))
            have HY6 : Hid ((Y.set k (putB (pAt Y k) i)).length = K ∧ (∀ j, j < k → pAt (Y.set k (putB (pAt Y k) i)) j = chP (digs S (gi R j)) C C.length) ∧ pAt (Y.set k (putB (pAt Y k) i)) k = chP D C (i + 1) ∧ ∀ j, k < j → j < K → pAt (Y.set k (putB (pAt Y k) i)) j = fun _ => false) := Lib.hid ⟨by rw [List.length_set]; exact HY.out.1, fun j hj => by rw [pAt_set _ _ _ _ hkY, if_neg (by omega)]; exact HY.out.2.1 j hj, by rw [pAt_set _ _ _ _ hkY, if_pos rfl, HY.out.2.2.1, HN.out], fun j h1 h2 => by rw [pAt_set _ _ _ _ hkY, if_neg (by omega)]; exact HY.out.2.2.2 j h1 h2⟩
            obtain ⟨V, hV⟩ : ∃ V, V = Value.int .u64 (partN (putB (pAt Y k) i) (i / 64)) := ⟨_, rfl⟩
            rw [← hV] at hput oY6 B6 HK6 hZ6
            obtain ⟨Y2, hY2⟩ : ∃ Y2, Y2 = Y.set k (putB (pAt Y k) i) := ⟨_, rfl⟩
            rw [← hY2] at oY6 HY6
            obtain ⟨kq, hkq⟩ : ∃ kq, kq = k * 16 + i / 64 := ⟨_, rfl⟩
            rw [← hkq] at hput oY6 B6 HK6 hZ6
            clear oY oY5 HY HK HK5 B B5 hZ5 hb1 hb5 H5 hx1 hx2 hx3 hIc hDw hh HPY HPN Hin hV hY2 hkq
            go_wp2_with fail
            refine hput.mono ?_
            rintro e w6 ⟨rfl, rfl⟩
            go_wp2_with fail
            go_roundw
            case rel => exact ⟨i + 1, Y2, by omega, by go_num, oY6, HY6, HK6, hZ6, B6⟩
            case measure => simp [intOf]; omega
        · have hiI : ¬ (i : Int) < (NC : Int) := by omega
          have HY2 : Hid (Y.length = K ∧ (∀ j, j < k + 1 → pAt Y j = chP (digs S (gi R j)) C C.length) ∧ ∀ j, k + 1 ≤ j → j < K → pAt Y j = fun _ => false) := Lib.hid ⟨HY.out.1, fun j hj => by
            by_cases e : j = k
            · subst e; rw [HY.out.2.2.1, HDe.out, show i = C.length by rw [← HNC.out]; omega]
            · exact HY.out.2.1 j (by omega), fun j h1 h2 => HY.out.2.2.2 j (by omega) h2⟩
          go_wp2_with fail
          go_roundw
          case rel => exact ⟨k + 1, Y, by omega, by go_num, oY, HY2, HK, hZr, B⟩
          case measure => simp [intOf]; omega
    · have hkI : ¬ (k : Int) < (K : Int) := by omega
      have HE : Hid (X = chSets S C R) := Lib.hid (sets_ext (by rw [HX.out.1, chSets_len, HKl.out]) fun j hj => by
        rw [HX.out.1] at hj
        rw [HX.out.2.1 j (by omega), pAt_chSets S C R j (by rw [← HKl.out]; exact hj)])
      rw [HE.out] at oX
      go_wp2_with fail
      go_ret
      obtain ⟨q1, q2⟩ := oX
      exact ⟨_, rfl, by
        refine ⟨q1, ?_⟩
        rcases q2 with h2 | ⟨g, cap, cur, hv, hg, r⟩
        · exact Or.inl h2
        · exact Or.inr ⟨g, cap, cur, hv, by omega, r⟩, B0.trans (B.mono (Nat.le_of_lt hl0W))⟩

end Go.Proofs.Ytgaelpcghljihaa

namespace Go.Proofs.Ytgaelpcghljihaa
open Go.RowKit Cv
set_option linter.unusedVariables false
set_option linter.unusedSimpArgs false
set_option maxRecDepth 100000

set_option maxHeartbeats 2000000 in
theorem partOf_any (ao : Option Addr) (S : List Int) (cap : Nat) (hn1 : 1 ≤ S.length) (hS8 : S.length ≤ 8) (bp op t cp : Nat) (P : List Int) (hPl : P.length = t) (ht : t ≤ 8) (hP : ∀ k, k < t → 0 ≤ gi P k ∧ gi P k < S.length) (w : World) (hS : Ints w ao S) (hPI : Ints w (some ⟨bp, op, none⟩) P) :
    Calls Try.prog 133 #[.agg #[.slice ao S.length cap], .slice (some ⟨bp, op, none⟩) t cp] w fun e w' => ∃ g, e = .returned (.agg #[.slice (some ⟨g, 0, none⟩) t t]) ∧ OwnInts w' w.heap.size (.slice (some ⟨g, 0, none⟩) t t) (szP S P) ∧ Below w.heap.size w w' := by
  obtain ⟨i0, hi, hz0, hz1, hz2⟩ := info_parts infoI64
  obtain ⟨bS, oS, rfl, hbS, hcS⟩ := hS.at (show 0 < S.length by omega)
  have HC : Hid (∀ k, k < t → ∃ p : Nat, gi (szP S P) k = gi S p ∧ p < S.length ∧ bp < w.heap.size ∧ w.cell? ⟨bp, op + k, none⟩ = some (.int .i64 (p : Int)) ∧ w.cell? ⟨bS, oS + p, none⟩ = some (.int .i64 (gi S p))) := Lib.hid fun k hk => by
    have h := hP k hk
    obtain ⟨b, o, he, hb, hcc⟩ := hPI.at (show k < P.length by omega)
    cases he
    refine ⟨(gi P k).toNat, gi_szP S P k (by omega), by omega, hb, ?_, hcS _ (by omega)⟩
    rw [hcc k (by omega)]; congr 2; omega
  have HQl : Hid ((szP S P).length = t) := Lib.hid (by rw [szP_len, hPl])
  obtain ⟨Q, hQ⟩ : ∃ Q, Q = szP S P := ⟨_, rfl⟩
  rw [← hQ] at HC HQl ⊢
  clear hQ hP hPI hcS
  obtain ⟨W, hW⟩ : ∃ W, W = (w.alloc (.cells #[.slice (some ⟨bS, oS, none⟩) S.length cap] 24)).alloc (.cells #[.slice none 0 0] 24) := ⟨_, rfl⟩
  have hWs : W.heap.size = w.heap.size + 2 := by rw [hW]; simp
  have B0 : Below w.heap.size w W := by rw [hW]; go_grown
  have c0 : W.cell? ⟨w.heap.size, 0, none⟩ = some (.slice (some ⟨bS, oS, none⟩) S.length cap) := by
    rw [hW]; exact kept_cell ((Below.refl _ (w.alloc (.cells #[.slice (some ⟨bS, oS, none⟩) S.length cap] 24))).alloc (Nat.le_refl _) _) (cell_new _ _ _) (by simp)
  have r1 : W.heap[w.heap.size + 1]? = some (.cells #[.slice none 0 0] 24 (0, 0)) := by
    have e : (w.alloc (.cells #[.slice (some ⟨bS, oS, none⟩) S.length cap] 24)).heap.size = w.heap.size + 1 := by simp
    rw [hW, ← e]; exact heap_alloc_new _ _
  have HW := Lib.hid hW
  have hlw : w.heap.size + 1 < W.heap.size := by omega
  have hlw0 : w.heap.size < W.heap.size := by omega
  clear hW hWs
  go_enter Try.func133, Try.ntmps133
  go_wp2_with (first | (at_make; refine wpList_make_full _ rfl _ _ 22 rfl W.heap.size 2 i0 (.int .i64 0) 1 Try.underlying22 hi hz0 hz1 .i64 .i64 (t : Int) (t : Int) t rfl rfl rfl rfl (by rw [hz2]; omega) (by unfold maxLen; omega) (by rw [HW.out]; exact Nat.le_refl _) ?_; rw [← HW.out]; intro w2 hown hgrow) | fail)
  have B2 : Below W.heap.size W w2 := below_grown0 hgrow
  replace hown := own_made hown
  have lg := hown.base_le
  clear hgrow hi hz0 hz1 hz2
  go_loopw [13] (fun i wr => ∃ (k : Nat) (T : List Int), k ≤ t ∧ i = .int .i64 (k : Int) ∧ OwnInts wr W.heap.size (.slice (some ⟨W.heap.size, 0, none⟩) t t) T ∧ Hid (T.length = t ∧ ∀ j, j < k → gi T j = gi Q j) ∧ Below W.heap.size W wr ∧ W.heap.size < wr.heap.size) (fun i _ => t - (intOf i).toNat)
  case atStart => exact ⟨0, _, Nat.zero_le _, rfl, hown, Lib.hid ⟨by simp, fun j hj => by omega⟩, B2, lg.2⟩
  case round =>
    clear hown B2 lg
    obtain ⟨k, T, hk, rfl, own, HT, B, lW⟩ := hrel
    have c1 := kept_cell B c0 (by omega)
    by_cases hlt : k < t
    · have hkI : (k : Int) < (t : Int) := by omega
      obtain ⟨p, hq, hpS, lbp, k1, k2⟩ := HC.out k hlt
      have hpI : (p : Int) < (S.length : Int) := by omega
      have hp0 : (0 : Int) ≤ (p : Int) := by omega
      replace k1 := kept_cell B (kept_cell B0 k1 lbp) (by omega)
      replace k2 := kept_cell B (kept_cell B0 k2 hbS) (by omega)
      obtain ⟨x, hx⟩ : ∃ x, x = gi S p := ⟨_, rfl⟩
      rw [← hx] at hq k2
      have hcell := own.cell (k := k) (by rw [HT.out.1]; exact hlt)
      have hfree := own.free k
      have own2 := own.stored k x
      have HT2 : Hid ((T.set k x).length = t ∧ ∀ j, j < k + 1 → gi (T.set k x) j = gi Q j) := Lib.hid ⟨by rw [List.length_set]; exact HT.out.1, fun j hj => by
        rw [gi_set _ _ _ _ (by rw [HT.out.1]; exact hlt)]
        by_cases e : j = k
        · subst e; rw [if_pos rfl, hq]
        · rw [if_neg e]; exact HT.out.2 j (by omega)⟩
      have B3 : Below W.heap.size W (wr.setCell ⟨W.heap.size, k, none⟩ (.int .i64 x)) := B.setCell (Nat.le_refl _) _
      have l3 : W.heap.size < (wr.setCell ⟨W.heap.size, k, none⟩ (.int .i64 x)).heap.size := by simpa using lW
      clear hx hq own
      go_wp2_with fail
      go_roundw
      case rel => exact ⟨k + 1, _, by omega, by go_num, own2, HT2, B3, l3⟩
      case measure => simp [intOf]; omega
    · have hkI : ¬ (k : Int) < (t : Int) := by omega
      have HTe : Hid (T = Q) := Lib.hid (ext_gi (by rw [HT.out.1, HQl.out]) fun j hj => by rw [HT.out.1] at hj; exact HT.out.2 j (by omega))
      have rr2 := (B.block _ hlw).trans r1
      have hc1 : wr.cell? ⟨w.heap.size + 1, 0, none⟩ = some (.slice none 0 0) := by rw [cell_of_row wr _ 0 _ _ _ rr2]; rfl
      have hf1 := frozen_of_row wr (w.heap.size + 1) 0 _ _ rr2
      have hz : w.heap.size + 1 < wr.heap.size := by omega
      have B5 := B0.trans (B.mono (Nat.le_of_lt hlw0))
      rw [HTe.out] at own
      go_wp2_with fail
      refine bodyPost_ret (v := .agg #[.slice (some ⟨W.heap.size, 0, none⟩) t t]) (by simp [results, Try.results133, go_sem, hc1, hf1, hz]) rfl ?_
      exact ⟨_, rfl, (own.setBelow (a := ⟨w.heap.size + 1, 0, none⟩) (by simp; omega) _).rebase (by omega), B5.setCell (by simp) _⟩

end Go.Proofs.Ytgaelpcghljihaa

namespace Go.Proofs.Ytgaelpcghljihaa
open Go.RowKit Cv
set_option linter.unusedVariables false
set_option linter.unusedSimpArgs false
set_option maxRecDepth 100000

/-- what may follow the first j lists -/
def exJ (L : List (List Int)) (n j : Nat) : List (List Int) := (L.take j).flatMap fun l => extTo l n
theorem exJ_succ (L : List (List Int)) (n j : Nat) (h : j < L.length) : exJ L n (j + 1) = exJ L n j ++ extTo (rr L j) n := by
  unfold exJ; rw [take_rr L j h, List.flatMap_append]; simp
theorem exJ_all (n t : Nat) : exJ (plP n t) n (plP n t).length = plP n (t + 1) := by unfold exJ; rw [List.take_length]; rfl
theorem extTo_len (l : List Int) (k : Nat) : (extTo l k).length ≤ k := by
  unfold extTo; rw [List.length_map]; exact Nat.le_trans (List.length_filter_le _ _) (by simp)
theorem exJ_len (L : List (List Int)) (n j : Nat) (h : j ≤ L.length) : (exJ L n j).length ≤ n * j := by
  induction j with
  | zero => simp [exJ]
  | succ j ih =>
    rw [exJ_succ L n j (by omega), List.length_append, Nat.mul_succ]
    have := extTo_len (rr L j) n
    have := ih (by omega)
    omega
theorem plP_len (n t : Nat) : ∀ l, l ∈ plP n t → l.length = t := fun l h => (plM_len n t 0 l (by rw [← plP_eq]; exact h)).1

set_option maxHeartbeats 4000000 in
theorem placesTogether_any (ao : Option Addr) (S : List Int) (cap : Nat) (hl : S.length ≤ 8) (t : Nat) (ht : t ≤ 3) (w : World) (hS : Ints w ao S) :
    Calls Try.prog 132 #[.agg #[.slice ao S.length cap], .int .i64 (t : Int)] w fun e w' => ∃ g c, e = .returned (.slice (some ⟨g, 0, none⟩) (plM S.length 0 t).length c) ∧ LsAt w' w.heap.size (.slice (some ⟨g, 0, none⟩) (plM S.length 0 t).length c) (plM S.length 0 t) ∧ Below w.heap.size w w' := by
  obtain ⟨n, hn⟩ : ∃ n, n = S.length := ⟨_, rfl⟩
  have HN := Lib.hid fun k (hk : k ≤ 3) => show (plP n k).length ≤ 512 by rw [plP_eq]; exact plM_512 n (by omega) k hk 0
  have HLn : Hid (∀ k j, j < (plP n k).length → (rr (plP n k) j).length = k) := Lib.hid fun k j hj => plP_len n k _ (rr_mem hj)
  have HJA := Lib.hid fun k => exJ_all n k
  have HF : Hid (plP n t = plM n 0 t) := Lib.hid (plP_eq n t)
  have HP0 : Hid (plP n 0 = [[]]) := Lib.hid rfl
  rw [← hn]
  have hn8 : n ≤ 8 := by omega
  have B0 : Below w.heap.size w (w.alloc (.cells #[.slice ao n cap] 24)) := by go_grown
  have c0 := cell_new w (.slice ao n cap) 24
  have l0 := lt_alloc w (.cells #[.slice ao n cap] 24)
  have B1 := B0.alloc B0.size (.cells #[] 2)
  have c1 := kept_cell ((Below.refl _ (w.alloc (.cells #[.slice ao n cap] 24))).alloc (Nat.le_refl _) (.cells #[] 2)) c0 l0
  have l1 : w.heap.size < ((w.alloc (.cells #[.slice ao n cap] 24)).alloc (.cells #[] 2)).heap.size := by simp; try omega
  have o1 := own_empty (w.alloc (.cells #[.slice ao n cap] 24)) (w.heap.size + 1) (by simp) (n := w.heap.size + 1) (by simp)
  have ls1 := LsAt.one (lo := w.heap.size + 1) (n := 0) (L := []) (by simp; try omega) rfl o1 (b := w.heap.size + 2) (by simp)
  have B2 := B1.alloc B1.size (.cells #[.slice (some ⟨w.heap.size + 1, 0, none⟩) 0 0] 22)
  have c2 := kept_cell ((Below.refl _ ((w.alloc (.cells #[.slice ao n cap] 24)).alloc (.cells #[] 2))).alloc (Nat.le_refl _) (.cells #[.slice (some ⟨w.heap.size + 1, 0, none⟩) 0 0] 22)) c1 l1
  obtain ⟨W1, hW1⟩ : ∃ W1, W1 = ((w.alloc (.cells #[.slice ao n cap] 24)).alloc (.cells #[] 2)).alloc (.cells #[.slice (some ⟨w.heap.size + 1, 0, none⟩) 0 0] 22) := ⟨_, rfl⟩
  have l2 : w.heap.size < W1.heap.size := by rw [hW1]; simp; try omega
  rw [← hW1] at B2 ls1 c2
  have HW1 := Lib.hid hW1
  clear hW1 B0 B1 c0 l0 c1 l1 o1 hn
  go_enter Try.func132, Try.ntmps132
  go_wp2_with fail
  rw [← HW1.out]
  go_loopw [5, 13] (fun o i wr => ∃ k g c : Nat, k ≤ t ∧ i = .int .i64 (k : Int) ∧ o = .slice (some ⟨g, 0, none⟩) (plP n k).length c ∧ LsAt wr (w.heap.size + 1) (.slice (some ⟨g, 0, none⟩) (plP n k).length c) (plP n k) ∧ wr.cell? ⟨w.heap.size, 0, none⟩ = some (.slice ao n cap) ∧ w.heap.size < wr.heap.size ∧ Below w.heap.size w wr) (fun _ i _ => t - (intOf i).toNat)
  case atStart => exact ⟨0, _, 1, by omega, rfl, rfl, ls1, c2, l2, B2⟩
  case round =>
    clear ls1 c2 l2 B2
    obtain ⟨k, g, c, hk, rfl, rfl, ls, c1, l1, B⟩ := hrel
    have hNk := HN.out k (by omega)
    have HLk := Lib.hid (HLn.out k)
    have HJk := Lib.hid (HJA.out k)
    obtain ⟨D, hD⟩ : ∃ D, D = plP n k := ⟨_, rfl⟩
    rw [← hD] at hNk HLk HJk ls ⊢
    have HD := Lib.hid hD
    clear hD
    by_cases hlt : k < t
    · have hlI : (k : Int) < (t : Int) := by omega
      have hk2 : k ≤ 2 := by omega
      have HJL := Lib.hid fun j (h : j ≤ D.length) => exJ_len D n j h
      have HJS := Lib.hid fun j (h : j < D.length) => exJ_succ D n j h
      obtain ⟨w0, rfl⟩ : ∃ w0, w0 = wr := ⟨_, rfl⟩
      have lsE := LsAt.empty w0 (w.heap.size + 1) l1 (n := w0.heap.size) rfl
      have lsA := ls.alloc (.cells #[] 22)
      have hgl := ls.lo_le g rfl
      have hgg : w0.heap.size ≠ g := by omega
      have cA := kept_cell ((Below.refl _ w0).alloc (Nat.le_refl _) (.cells #[] 22)) c1 l1
      have lA : w.heap.size < (w0.alloc (.cells #[] 22)).heap.size := by simp; try omega
      have BA := B.alloc B.size (.cells #[] 22)
      clear ls c1 B
      go_wp2_with fail
      go_loopw [6, 18] (fun o x wk => ∃ j g' c' : Nat, j ≤ D.length ∧ x = .int .i64 (j : Int) ∧ o = .slice (some ⟨g', 0, none⟩) (exJ D n j).length c' ∧ LsAt wk (w.heap.size + 1) (.slice (some ⟨g', 0, none⟩) (exJ D n j).length c') (exJ D n j) ∧ LsAt wk (w.heap.size + 1) (.slice (some ⟨g, 0, none⟩) D.length c) D ∧ g' ≠ g ∧ wk.cell? ⟨w.heap.size, 0, none⟩ = some (.slice ao n cap) ∧ w.heap.size < wk.heap.size ∧ Below w.heap.size w wk) (fun _ x _ => D.length - (intOf x).toNat)
      case atStart => exact ⟨0, _, 0, Nat.zero_le _, rfl, rfl, lsE, lsA, hgg, cA, lA, BA⟩
      case round =>
        clear lsE lsA hgg hgl cA lA BA
        obtain ⟨j, g', c', hj, rfl, rfl, lsN, lsD, hgg, c1, l1, B⟩ := hrel
        have hJl := HJL.out j hj
        have HJs := Lib.hid (HJS.out j)
        obtain ⟨R, hR⟩ : ∃ R, R = exJ D n j := ⟨_, rfl⟩
        rw [← hR] at hJl HJs lsN ⊢
        have HR := Lib.hid hR
        have hRl : R.length ≤ 8192 := Nat.le_trans hJl (Nat.le_trans (Nat.mul_le_mul hn8 (show j ≤ 512 by omega)) (by omega))
        clear hR hJl
        by_cases hlj : j < D.length
        · have hjI : (j : Int) < (D.length : Int) := by omega
          obtain ⟨gq, gr, cr, hgq, hlq, hcq, hoq⟩ := lsD.at hlj
          obtain rfl : g = gq := by simpa using hgq
          have HSj := Lib.hid (HJs.out hlj)
          have hLl := HLk.out j hlj
          obtain ⟨L, hL⟩ : ∃ L, L = rr D j := ⟨_, rfl⟩
          rw [← hL] at HSj hLl hcq hoq
          rw [hLl] at hcq hoq
          have HLl := Lib.hid hLl
          have HRE := Lib.hid fun m => extTo_succ L m
          have HREl := Lib.hid fun m => extTo_len L m
          obtain ⟨v0, rfl⟩ : ∃ v0, v0 = wr := ⟨_, rfl⟩
          clear hgq hL hLl
          go_wp2_with fail
          go_loopw [6, 25] (fun o x wk => ∃ d g5 c5 : Nat, d ≤ n ∧ x = .int .i64 (d : Int) ∧ o = .slice (some ⟨g5, 0, none⟩) (R ++ extTo L d).length c5 ∧ LsAt wk (w.heap.size + 1) (.slice (some ⟨g5, 0, none⟩) (R ++ extTo L d).length c5) (R ++ extTo L d) ∧ LsAt wk (w.heap.size + 1) (.slice (some ⟨g, 0, none⟩) D.length c) D ∧ OwnInts wk (w.heap.size + 1) (.slice (some ⟨gr, 0, none⟩) k cr) L ∧ g5 ≠ g ∧ wk.cell? ⟨w.heap.size, 0, none⟩ = some (.slice ao n cap) ∧ w.heap.size < wk.heap.size ∧ Below w.heap.size w wk) (fun _ x _ => n - (intOf x).toNat)
          case atStart => exact ⟨0, g', c', Nat.zero_le _, rfl, by simp [extTo], by simpa [extTo] using lsN, lsD, hoq, hgg, c1, l1, B⟩
          case round =>
            clear lsN lsD hgg c1 l1 B hcq hoq hlq
            obtain ⟨d, g5, c5, hd, rfl, rfl, lsN, lsD, hoq, hgg, c1, l1, B⟩ := hrel
            have hEl := HREl.out d
            have HEs := Lib.hid (HRE.out d)
            obtain ⟨T, hT⟩ : ∃ T, T = R ++ extTo L d := ⟨_, rfl⟩
            have HTs : Hid (okE L d = true → R ++ extTo L (d + 1) = T ++ [L ++ [(d : Int)]]) := Lib.hid fun h => by rw [HEs.out, if_pos h, hT, List.append_assoc]
            have HTn : Hid (okE L d = false → R ++ extTo L (d + 1) = T) := Lib.hid fun h => by rw [HEs.out, if_neg (by rw [h]; decide), hT, List.append_nil]
            have HTa : Hid (d = n → exJ D n (j + 1) = T) := Lib.hid fun h => by rw [HSj.out, hT, h]
            have hTl : T.length ≤ 8200 := by rw [hT, List.length_append]; omega
            rw [← hT] at lsN ⊢
            clear hT hEl
            by_cases hld : d < n
            · have hdI : (d : Int) < (n : Int) := by omega
              obtain hk0 | hk0 : k = 0 ∨ 0 < k := by omega
              · have hok : okE L d = true := by
                  have : L = [] := List.eq_nil_of_length_eq_zero (by rw [HLl.out]; exact hk0)
                  rw [this]; rfl
                have kb : ((k : Int) == 0) = true := by simp [hk0]
                clear hk0
                have hcl := clone_any 0 L cr 0 wr (by rw [HLl.out]; omega) (Nat.zero_le _) ⟨gr, 0, none⟩ (own_ints hoq)
                rw [HLl.out] at hcl
                have HT2 := Lib.hid (HTs.out hok)
                have hL3 : L.length ≤ 3 := by rw [HLl.out]; omega
                have hgl5 := (lsN.lo_le g5 rfl).1
                clear hok HTs HTn HTa
                go_wp2_with fail
                refine hcl.mono ?_
                rintro e w6 ⟨g6, c6, rfl, own6, hb6⟩
                have l6 : w.heap.size + 1 ≤ w6.heap.size := Nat.le_trans l1 hb6.size
                clear hcl
                go_wp2_with (first
                  | (at_builtin; refine wpList_append_int rfl _ _ rfl wr.heap.size _ L rfl (own6.alloc _) w6.heap.size (d : Int) rfl (cell_new _ _ _) (by omega) (by have := hb6.size; simp; omega) ?_; intro v3 w7 own7 hgrow7; obtain ⟨g7, c7, hv7, _⟩ := own_some own7 (by simp); have b7 := grown_below (hb6.alloc hb6.size (.cells #[.int .i64 (d : Int)] 2)) (by have := hb6.size; simp; omega) hgrow7 (own6.alloc _) (Nat.le_refl _); rw [show (L ++ [(d : Int)]).length = k + 1 by simp [HLl.out]] at hv7; subst hv7)
                  | (at_builtin; refine wpList_append_ls rfl _ _ rfl (w.heap.size + 1) _ T rfl ((lsN.below b7).alloc _) w7.heap.size g7 c7 (k + 1) (L ++ [(d : Int)]) (by simp [HLl.out]) ((own7.rebase (show w.heap.size + 1 ≤ wr.heap.size from l1)).alloc _) rfl (cell_new _ _ _) (by omega) (by have := b7.size; simp; omega) ?_; intro g9 c9 w9 ls9 hg9 hat9)
                  | fail)
                have lsN8 := (lsN.below b7).alloc (.cells #[.slice (some ⟨g7, 0, none⟩) (k + 1) c7] 22)
                have B8 := (b7.mono (show w.heap.size + 1 ≤ wr.heap.size from l1)).alloc (Nat.le_trans l1 b7.size) (.cells #[.slice (some ⟨g7, 0, none⟩) (k + 1) c7] 22)
                have B9 := ls_grown B8 (Nat.le_trans l1 B8.size) hg9 lsN8 (Nat.le_refl _)
                have lsD9 := ((lsD.below b7).alloc (.cells #[.slice (some ⟨g7, 0, none⟩) (k + 1) c7] 22)).kept2 lsN8 hg9 (.inr (by simp only [Value.ownBlock]; intro e; exact hgg (Option.some.inj e).symm))
                have hoq9 : OwnInts w9 (w.heap.size + 1) (.slice (some ⟨gr, 0, none⟩) k cr) L := by
                  obtain ⟨hs, _, e2, _⟩ := lsN8
                  exact ((hoq.below b7).alloc (.cells #[.slice (some ⟨g7, 0, none⟩) (k + 1) c7] 22)).kept hg9 (ls_apart e2 ((hoq.below b7).alloc _))
                have c9b := kept_cell B9 c1 (Nat.lt_succ_self _)
                have l9 := Nat.lt_of_lt_of_le l1 B9.size
                have hne9 : g9 ≠ g := by
                  rcases hat9 with e | e
                  · have e' : g5 = g9 := Option.some.inj e
                    omega
                  · have h1 := (lsD.lo_le g rfl).2; have h2 := b7.size; rw [World.size_alloc] at e; omega
                have BB := B.trans (B9.mono (Nat.le_succ _))
                have HTl : Hid (T.length + 1 = (R ++ extTo L (d + 1)).length) := Lib.hid (by rw [HT2.out]; simp)
                rw [← HT2.out, HTl.out] at ls9
                rw [HTl.out]
                clear lsN lsD c1 l1 B hoq hb6 lsN8 B8 B9 hg9 hat9 b7 own6 own7 hgrow7 hgg
                go_wp2_with fail
                go_roundw
                case rel => exact ⟨d + 1, g9, c9, by omega, by go_num, rfl, ls9, lsD9, hoq9, hne9, c9b, l9, BB⟩
                case measure => simp [intOf]; omega
              · have kb : ((k : Int) == 0) = false := by simp; omega
                obtain ⟨k1, hk1⟩ : ∃ k1 : Nat, (k : Int) - 1 = (k1 : Int) := ⟨k - 1, by omega⟩
                have hkk : k1 < k := by omega
                have hcx := hoq.cell (k := k1) (by rw [HLl.out]; exact hkk)
                have hkI : (k1 : Int) < (k : Int) := by omega
                have hk10 : (0 : Int) ≤ (k1 : Int) := by omega
                have hOE : Hid (okE L d = decide (gi L k1 < (d : Int))) := Lib.hid (by
                  unfold okE
                  have e1 : L.isEmpty = false := by
                    cases L with
                    | nil => have := HLl.out; simp at this; omega
                    | cons a l => rfl
                  have e2 : L.length - 1 = k1 := by rw [HLl.out]; omega
                  rw [e1, e2, Bool.false_or])
                obtain ⟨x, hx⟩ : ∃ x, x = gi L k1 := ⟨_, rfl⟩
                rw [← hx] at hcx hOE
                clear hx
                by_cases hxd : x < (d : Int)
                · have hok : okE L d = true := by rw [hOE.out]; simpa using hxd
                  have hcl := clone_any 0 L cr 0 wr (by rw [HLl.out]; omega) (Nat.zero_le _) ⟨gr, 0, none⟩ (own_ints hoq)
                  rw [HLl.out] at hcl
                  have HT2 := Lib.hid (HTs.out hok)
                  have hL3 : L.length ≤ 3 := by rw [HLl.out]; omega
                  have hgl5 := (lsN.lo_le g5 rfl).1
                  clear hok HTs HTn HTa
                  go_wp2_with fail
                  refine hcl.mono ?_
                  rintro e w6 ⟨g6, c6, rfl, own6, hb6⟩
                  have l6 : w.heap.size + 1 ≤ w6.heap.size := Nat.le_trans l1 hb6.size
                  clear hcl
                  go_wp2_with (first
                    | (at_builtin; refine wpList_append_int rfl _ _ rfl wr.heap.size _ L rfl (own6.alloc _) w6.heap.size (d : Int) rfl (cell_new _ _ _) (by omega) (by have := hb6.size; simp; omega) ?_; intro v3 w7 own7 hgrow7; obtain ⟨g7, c7, hv7, _⟩ := own_some own7 (by simp); have b7 := grown_below (hb6.alloc hb6.size (.cells #[.int .i64 (d : Int)] 2)) (by have := hb6.size; simp; omega) hgrow7 (own6.alloc _) (Nat.le_refl _); rw [show (L ++ [(d : Int)]).length = k + 1 by simp [HLl.out]] at hv7; subst hv7)
                    | (at_builtin; refine wpList_append_ls rfl _ _ rfl (w.heap.size + 1) _ T rfl ((lsN.below b7).alloc _) w7.heap.size g7 c7 (k + 1) (L ++ [(d : Int)]) (by simp [HLl.out]) ((own7.rebase (show w.heap.size + 1 ≤ wr.heap.size from l1)).alloc _) rfl (cell_new _ _ _) (by omega) (by have := b7.size; simp; omega) ?_; intro g9 c9 w9 ls9 hg9 hat9)
                    | fail)
                  have lsN8 := (lsN.below b7).alloc (.cells #[.slice (some ⟨g7, 0, none⟩) (k + 1) c7] 22)
                  have B8 := (b7.mono (show w.heap.size + 1 ≤ wr.heap.size from l1)).alloc (Nat.le_trans l1 b7.size) (.cells #[.slice (some ⟨g7, 0, none⟩) (k + 1) c7] 22)
                  have B9 := ls_grown B8 (Nat.le_trans l1 B8.size) hg9 lsN8 (Nat.le_refl _)
                  have lsD9 := ((lsD.below b7).alloc (.cells #[.slice (some ⟨g7, 0, none⟩) (k + 1) c7] 22)).kept2 lsN8 hg9 (.inr (by simp only [Value.ownBlock]; intro e; exact hgg (Option.some.inj e).symm))
                  have hoq9 : OwnInts w9 (w.heap.size + 1) (.slice (some ⟨gr, 0, none⟩) k cr) L := by
                    obtain ⟨hs, _, e2, _⟩ := lsN8
                    exact ((hoq.below b7).alloc (.cells #[.slice (some ⟨g7, 0, none⟩) (k + 1) c7] 22)).kept hg9 (ls_apart e2 ((hoq.below b7).alloc _))
                  have c9b := kept_cell B9 c1 (Nat.lt_succ_self _)
                  have l9 := Nat.lt_of_lt_of_le l1 B9.size
                  have hne9 : g9 ≠ g := by
                    rcases hat9 with e | e
                    · have e' : g5 = g9 := Option.some.inj e
                      omega
                    · have h1 := (lsD.lo_le g rfl).2; have h2 := b7.size; rw [World.size_alloc] at e; omega
                  have BB := B.trans (B9.mono (Nat.le_succ _))
                  have HTl : Hid (T.length + 1 = (R ++ extTo L (d + 1)).length) := Lib.hid (by rw [HT2.out]; simp)
                  rw [← HT2.out, HTl.out] at ls9
                  rw [HTl.out]
                  clear lsN lsD c1 l1 B hoq hb6 lsN8 B8 B9 hg9 hat9 b7 own6 own7 hgrow7 hgg
                  go_wp2_with fail
                  go_roundw
                  case rel => exact ⟨d + 1, g9, c9, by omega, by go_num, rfl, ls9, lsD9, hoq9, hne9, c9b, l9, BB⟩
                  case measure => simp [intOf]; omega
                · have HT2 := Lib.hid (HTn.out (by rw [hOE.out]; simpa using hxd))
                  clear HTs HTn HTa
                  go_wp2_with fail
                  go_roundw
                  case rel => exact ⟨d + 1, g5, c5, by omega, by go_num, by rw [HT2.out], by rw [HT2.out]; exact lsN, lsD, hoq, hgg, c1, l1, B⟩
                  case measure => simp [intOf]; omega
            · have hdI : ¬ (d : Int) < (n : Int) := by omega
              have HTe := Lib.hid (HTa.out (by omega))
              go_wp2_with fail
              go_roundw
              case rel => exact ⟨j + 1, g5, c5, by omega, by go_num, by rw [HTe.out], by rw [HTe.out]; exact lsN, lsD, hgg, c1, l1, B⟩
              case measure => simp [intOf]; omega
        · have hjI : ¬ (j : Int) < (D.length : Int) := by omega
          have HRn : Hid (plP n (k + 1) = R) := Lib.hid (by rw [← HJk.out, HR.out, show j = D.length by omega])
          go_wp2_with fail
          go_roundw
          case rel => exact ⟨k + 1, g', c', by omega, by go_num, by rw [HRn.out], by rw [HRn.out]; exact lsN, c1, l1, B⟩
          case measure => simp [intOf]; omega
    · have hlI : ¬ (k : Int) < (t : Int) := by omega
      have HE : Hid (D = plM n 0 t) := Lib.hid (by rw [HD.out, ← HF.out, show k = t by omega])
      rw [HE.out] at ls
      go_wp2_with fail
      go_ret
      exact ⟨g, c, by rw [HE.out]; rfl, ls.rebase (Nat.le_succ _), B⟩

end Go.Proofs.Ytgaelpcghljihaa

namespace Go.Proofs.Ytgaelpcghljihaa
open Go.RowKit Cv
set_option linter.unusedVariables false
set_option linter.unusedSimpArgs false
set_option maxRecDepth 100000

theorem cell_heapC {w w' : World} {b : Nat} (h : w'.heap[b]? = w.heap[b]?) (o : Nat) : w'.cell? ⟨b, o, none⟩ = w.cell? ⟨b, o, none⟩ := by
  simp only [World.cell?, h]
theorem ints_heapC {w w' : World} {b o : Nat} {T : List Int} (h : Ints w (some ⟨b, o, none⟩) T) (hk : w'.heap[b]? = w.heap[b]?) (hl : b < w'.heap.size) : Ints w' (some ⟨b, o, none⟩) T := by
  rcases h with h | ⟨b', o', he, hlt, hc⟩
  · exact .inl h
  · simp only [Option.some.injEq, Addr.mk.injEq, and_true] at he
    obtain ⟨rfl, rfl⟩ := he
    exact .inr ⟨_, _, rfl, hl, fun i hi => (cell_heapC hk _).trans (hc i hi)⟩
theorem mulwC (k m km : Nat) (h : km = k * m) (hb : km ≤ 1000000) : IntKind.i64.wrap ((k : Int) * (m : Int)) = (km : Int) ∧ wrap64 ((k : Int) * (m : Int)) = (km : Int) := by
  have e : (k : Int) * (m : Int) = (km : Int) := by rw [h, Int.natCast_mul]
  rw [e]
  exact ⟨IntWalk.i64_in _ ⟨by omega, by omega⟩, IntWalk.wrap64_in _ ⟨by omega, by omega⟩⟩
theorem mulwC1 (k m km kn : Nat) (h : km = k * m) (h2 : kn = km + m) (hb : km + m ≤ 1000000) : IntKind.i64.wrap (((k : Int) + 1) * (m : Int)) = (kn : Int) ∧ wrap64 (((k : Int) + 1) * (m : Int)) = (kn : Int) := by
  have e : ((k : Int) + 1) * (m : Int) = (kn : Int) := by rw [h2, h, Int.add_mul, Int.one_mul, Int.natCast_add, Int.natCast_mul]
  rw [e]
  exact ⟨IntWalk.i64_in _ ⟨by omega, by omega⟩, IntWalk.wrap64_in _ ⟨by omega, by omega⟩⟩
theorem Ints.kept7 {w w' : World} {b o : Nat} {T : List Int} {row : Option Nat} (h : Ints w (some ⟨b, o, none⟩) T) (hg : w.grownBy w' row) (hne : some b ≠ row) : Ints w' (some ⟨b, o, none⟩) T := by
  rcases h with h | ⟨b', o', he, hlt, hc⟩
  · exact .inl h
  · simp only [Option.some.injEq, Addr.mk.injEq, and_true] at he
    obtain ⟨rfl, rfl⟩ := he
    exact ints_heapC (.inr ⟨_, _, rfl, hlt, hc⟩) (hg.block _ hlt hne) (Nat.lt_of_lt_of_le hlt hg.size)
theorem wpList_append_intsL {w : World} {ops : Array Oper} {rest : List Oper} {o : Oper} {a : Act} {Q : Exit → Act → World → Prop} (hgd : o.guard = none) (s x : Operand)
    (ho : o.op = .call { callee := .builtin .append, args := #[s, x], argTypes := #[22, 22] })
    (base : Nat) (v : Value) (L : List Int) (hs : a.eval s = v) (hown : OwnInts w base v L) (ad : Addr) (T : List Int) (m c n : Nat) (hm : m = T.length) (h0 : 0 < m) (hx : a.eval x = .slice (some ad) m c) (hT : Ints w (some ad) T)
    (hlen : L.length + m ≤ 1073741824) (hbase : base ≤ w.heap.size) (hn : n = L.length + m)
    (h : ∀ g cap w', OwnInts w' base (.slice (some ⟨g, 0, none⟩) n cap) (L ++ T) → w.grownBy w' v.ownBlock → (v.ownBlock = some g ∨ g = w.heap.size) → wpList Try.prog ops Q rest (a.put o.dst (.slice (some ⟨g, 0, none⟩) n cap)) w') : wpList Try.prog ops Q (o :: rest) a w :=
  wpList_plain hgd fun _ hK => wp_append_intsL s x ho base v L hs hown ad T m c n hm h0 hx hT hlen hbase hn fun g cap w' h1 h2 h3 => hK _ _ (h g cap w' h1 h2 h3)
theorem PartsAt.rebase {w : World} {base lo' P g : Nat} {S T U : List Int} (h : PartsAt w base P g S T U) (hl : lo' ≤ base) : PartsAt w lo' P g S T U :=
  ⟨h.len, h.dg, h.own.rebase hl, h.row, Nat.le_trans hl h.bp, h.pl, h.ne⟩
/-- the numbers of lists of one length, one list behind the other -/
theorem flat_lenC {m : Nat} : ∀ {L : List (List Int)}, (∀ l, l ∈ L → l.length = m) → L.flatten.length = L.length * m
  | [], _ => by simp
  | a :: L, h => by
    rw [List.flatten_cons, List.length_append, h a (by simp), flat_lenC (fun l hl => h l (by simp [hl])), List.length_cons, Nat.succ_mul]; omega
theorem gi_flat {m : Nat} : ∀ {L : List (List Int)} (k j : Nat), (∀ l, l ∈ L → l.length = m) → k < L.length → j < m → gi L.flatten (k * m + j) = gi (rr L k) j
  | [], k, j, _, hk, _ => by simp at hk
  | a :: L, 0, j, h, _, hj => by
    rw [List.flatten_cons, gi_append_lt _ _ _ (by rw [h a (by simp)]; omega), Nat.zero_mul, Nat.zero_add]; rfl
  | a :: L, k + 1, j, h, hk, hj => by
    have ha := h a (by simp)
    rw [List.flatten_cons, gi_append_ge _ _ _ (by rw [ha, Nat.succ_mul]; omega), ha, show (k + 1) * m + j - m = k * m + j by rw [Nat.succ_mul]; omega, gi_flat k j (fun l hl => h l (by simp [hl])) (by simpa using hk) hj]
    rfl
theorem sp_part {S : List Int} (hS : Sp S) {t : Nat} (h1 : 0 < t) (h3 : t ≤ 3) {P : List Int} (hP : P ∈ plM S.length 0 t) : Sp (szP S P) := by
  obtain ⟨h1', h2⟩ := szP_bd hS hP
  refine ⟨by omega, by omega, h2, ?_⟩
  have := (prodTo_bd (szP S P) (szP S P).length h2).2
  have : ((4 : Int) ^ (szP S P).length) ≤ 64 := by
    rw [h1']
    have : t = 1 ∨ t = 2 ∨ t = 3 := by omega
    rcases this with rfl | rfl | rfl <;> decide
  omega
theorem dg_part {S : List Int} (hS : Sp S) {t : Nat} {P : List Int} (hP : P ∈ plM S.length 0 t) (N : Nat) (hN : nW (szP S P) = (N : Int)) : (dgTo (szP S P) t).length = N ∧ ∀ k, k < N → rr (dgTo (szP S P) t) k = digs (szP S P) (k : Int) := by
  obtain ⟨h1, h2⟩ := szP_bd hS hP
  have e := dgTo_digs (szP S P) h2 t (by omega)
  rw [show prodTo (szP S P) t = (N : Int) from by rw [← hN, ← h1]; rfl, Int.toNat_natCast, List.take_of_length_le (by omega)] at e
  refine ⟨by rw [e]; simp, fun k hk => ?_⟩
  rw [e]
  simp [rr, List.getD, hk]
/-- the choices as the program cuts them out -/
def chL (ao : Option Addr) (n cap g t k : Nat) : List Ch3 := (List.range k).map fun j => chX ao n cap g t (j * (2 * t))
theorem chL_len (ao : Option Addr) (n cap g t k : Nat) : (chL ao n cap g t k).length = k := by simp [chL]
theorem xAt_chL (ao : Option Addr) (n cap g t k j : Nat) (h : j < k) : xAt (chL ao n cap g t k) j = chX ao n cap g t (j * (2 * t)) := by simp [xAt, chL, h]
theorem xs_ext {X Y : List Ch3} (h : X.length = Y.length) (g : ∀ j, j < X.length → xAt X j = xAt Y j) : X = Y := by
  refine List.ext_getElem h fun i h1 h2 => ?_
  have := g i h1
  simpa [xAt, List.getD, List.getElem?_eq_getElem h1, List.getElem?_eq_getElem h2] using this

set_option maxHeartbeats 4000000 in
theorem choicesOf_any (ao : Option Addr) (S : List Int) (cap : Nat) (hSp : Sp S) (t : Nat) (ht1 : 0 < t) (ht3 : t ≤ 3) (w : World) (hS : Ints w ao S) :
    Calls Try.prog 79 #[.agg #[.slice ao S.length cap], .int .i64 (t : Int)] w fun e w' => ∃ gx g nF cF, e = .returned (.slice (some ⟨gx, 0, none⟩) (allC S t).length (allC S t).length) ∧ OwnXs w' w.heap.size (.slice (some ⟨gx, 0, none⟩) (allC S t).length (allC S t).length) (chL ao S.length cap g t (allC S t).length) ∧ OwnInts w' w.heap.size (.slice (some ⟨g, 0, none⟩) nF cF) (allC S t).flatten ∧ Below w.heap.size w w' := by
  have HSp := Lib.hid hSp
  have HPM : Hid (∀ j, j < (plM S.length 0 t).length → rr (plM S.length 0 t) j ∈ plM S.length 0 t) := Lib.hid fun j hj => rr_mem hj
  have HPL : Hid (∀ j, j < (plM S.length 0 t).length → (rr (plM S.length 0 t) j).length = t ∧ ∀ k, k < t → 0 ≤ gi (rr (plM S.length 0 t) j) k ∧ gi (rr (plM S.length 0 t) j) k < S.length) := Lib.hid fun j hj => by
    obtain ⟨h1, h2⟩ := plM_len _ _ _ _ (rr_mem hj)
    refine ⟨h1, fun k hk => ?_⟩
    have := h2 (gi (rr (plM S.length 0 t) j) k) (by rw [gi_lt _ _ (by omega)]; exact List.getElem_mem _)
    omega
  have HAS := Lib.hid fun j => alJ_succ S t j
  have HAL := Lib.hid fun j => Nat.le_trans (alJ_len S t j) (allC_le hSp ht1 ht3)
  have HA2 : Hid (∀ j l, l ∈ alJ S t j → l.length = 2 * t) := Lib.hid fun j l hl => by
    refine allC_len2 S t l ?_
    have e : allC S t = alJ S t j ++ ((plM S.length 0 t).drop j).flatMap fun P => (dgTo (szP S P) t).map fun D => P ++ D := by
      unfold alJ allC
      rw [← List.flatMap_append, List.take_append_drop]
    rw [e]; exact List.mem_append.2 (.inl hl)
  have HAA := Lib.hid (alJ_all S t)
  have hP512 := plM_512 S.length hSp.hi t ht3 0
  have hhi := hSp.hi
  have hlo := hSp.lo
  have hpl := placesTogether_any ao S cap hSp.hi t ht3
  obtain ⟨PL, hPL⟩ : ∃ PL, PL = plM S.length 0 t := ⟨_, rfl⟩
  rw [← hPL] at HPM HPL HAS HAA hP512 hpl
  have HPLe := Lib.hid hPL
  clear hPL hSp
  have B0 : Below w.heap.size w (w.alloc (.cells #[.slice ao S.length cap] 24)) := by go_grown
  have c0 := cell_new w (.slice ao S.length cap) 24
  have l0 := lt_alloc w (.cells #[.slice ao S.length cap] 24)
  have B1 := B0.alloc B0.size (.cells #[] 2)
  have c1 := kept_cell ((Below.refl _ (w.alloc (.cells #[.slice ao S.length cap] 24))).alloc (Nat.le_refl _) (.cells #[] 2)) c0 l0
  have l1 : w.heap.size < ((w.alloc (.cells #[.slice ao S.length cap] 24)).alloc (.cells #[] 2)).heap.size := by simp; try omega
  have o1 := own_empty (w.alloc (.cells #[.slice ao S.length cap] 24)) (w.heap.size + 1) (by simp) (n := w.heap.size + 1) (by simp)
  obtain ⟨W1, hW1⟩ : ∃ W1, W1 = (w.alloc (.cells #[.slice ao S.length cap] 24)).alloc (.cells #[] 2) := ⟨_, rfl⟩
  have hz1 : w.heap.size + 2 ≤ W1.heap.size := by rw [hW1]; simp
  rw [← hW1] at B1 c1 l1 o1
  have HW1 := Lib.hid hW1
  clear hW1 c0 l0
  go_enter Try.func79, Try.ntmps79
  go_wp2_with fail
  rw [← HW1.out]
  refine (hpl W1 (hS.below B1)).mono ?_
  rintro e wY ⟨gp, cp, rfl, lsP, hb1⟩
  have cY := kept_cell hb1 c1 l1
  have lY := lt_of_below hb1 l1
  have BY := B1.trans (hb1.mono B1.size)
  have oY := o1.below hb1
  replace lsP := lsP.rebase (lo' := w.heap.size + 2) hz1
  obtain ⟨Y, hYe⟩ : ∃ Y, Y = wY.heap.size := ⟨_, rfl⟩
  have HY := Lib.hid hYe
  have hgp := lsP.lo_le gp rfl
  rw [← hYe] at hgp
  have hY2 : w.heap.size + 2 ≤ Y := by omega
  clear hpl B0 B1 c1 l1 o1 hb1 hz1 hYe
  have HPc : Hid (∀ i, i < PL.length → ∃ gr cr, wY.cell? ⟨gp, i, none⟩ = some (.slice (some ⟨gr, 0, none⟩) t cr) ∧ Ints wY (some ⟨gr, 0, none⟩) (rr PL i) ∧ w.heap.size + 2 ≤ gr ∧ gr < Y) := Lib.hid fun i hi => by
    obtain ⟨gp', gr, cr, he, hlt, hcc, ho⟩ := lsP.at hi
    obtain rfl : gp = gp' := by simpa using he
    rw [(HPL.out i hi).1] at hcc ho
    have := ho.base_le
    exact ⟨gr, cr, hcc, own_ints ho, this.1, by rw [HY.out]; exact this.2⟩
  clear lsP
  obtain ⟨m, hm⟩ : ∃ m, m = 2 * t := ⟨_, rfl⟩
  have HM := Lib.hid hm
  have hm6 : m ≤ 6 := by omega
  have hm2 : 2 ≤ m := by omega
  have em : 2 * (t : Int) = (m : Int) := by omega
  clear hm
  go_wp2_with fail
  go_loopw [5, 19] (fun o x wr => ∃ i gF cF : Nat, i ≤ PL.length ∧ x = .int .i64 (i : Int) ∧ o = .slice (some ⟨gF, 0, none⟩) (alJ S t i).flatten.length cF ∧ OwnInts wr (w.heap.size + 1) (.slice (some ⟨gF, 0, none⟩) (alJ S t i).flatten.length cF) (alJ S t i).flatten ∧ (gF = w.heap.size + 1 ∨ Y ≤ gF) ∧ Hid (∀ b, b < Y → b ≠ w.heap.size + 1 → wr.heap[b]? = wY.heap[b]?) ∧ Y ≤ wr.heap.size ∧ wr.cell? ⟨w.heap.size, 0, none⟩ = some (.slice ao S.length cap) ∧ w.heap.size < wr.heap.size ∧ Below w.heap.size w wr) (fun _ x _ => PL.length - (intOf x).toNat)
  case atStart => exact ⟨0, w.heap.size + 1, 0, Nat.zero_le _, rfl, rfl, oY, .inl rfl, Lib.hid fun b _ _ => rfl, by rw [HY.out]; exact Nat.le_refl _, cY, lY, BY⟩
  case round =>
    clear oY cY lY BY
    obtain ⟨i, gF, cF, hi, rfl, rfl, oF, hgF, HK, hYr, c1, l1, B⟩ := hrel
    have hOl := HAL.out i
    have HOs := Lib.hid (HAS.out i)
    have HO2 := Lib.hid (HA2.out i)
    obtain ⟨O, hO⟩ : ∃ O, O = alJ S t i := ⟨_, rfl⟩
    rw [← hO] at hOl HOs HO2 oF ⊢
    have HO := Lib.hid hO
    have HFl : Hid (O.flatten.length = O.length * m) := Lib.hid (by rw [HM.out]; exact flat_lenC HO2.out)
    clear hO
    by_cases hlt : i < PL.length
    · have hlI : (i : Int) < (PL.length : Int) := by omega
      obtain ⟨gr, cr, hcq, hIq, hgr1, hgr2⟩ := HPc.out i hlt
      replace hcq := (cell_heapC (HK.out gp hgp.2 (by omega)) i).trans hcq
      replace hIq := ints_heapC hIq (HK.out gr hgr2 (by omega)) (by omega)
      have hgFl := oF.base_le
      have HOn := Lib.hid (HOs.out hlt)
      have hPm := HPM.out i hlt
      obtain ⟨hPl, hPb⟩ := HPL.out i hlt
      obtain ⟨P, hP⟩ : ∃ P, P = rr PL i := ⟨_, rfl⟩
      rw [← hP] at HOn hPm hPl hPb hIq
      rw [HPLe.out] at hPm
      have HPm := Lib.hid hPm
      have HPl := Lib.hid hPl
      have hSpQ := sp_part HSp.out ht1 ht3 hPm
      obtain ⟨Nn, hNn⟩ : ∃ Nn : Nat, nW (szP S P) = (Nn : Int) := ⟨(nW (szP S P)).toNat, by have := nW_bd hSpQ; omega⟩
      obtain ⟨hDl, hDr⟩ := dg_part HSp.out hPm Nn hNn
      have hN1024 : Nn ≤ 1024 := by have := nW_bd hSpQ; omega
      have HQl : Hid ((szP S P).length = t) := Lib.hid (by rw [szP_len, hPl])
      have hpo := partOf_any ao S cap hlo hhi gr 0 t cr P hPl (by omega) hPb wr (hS.below B) hIq
      have HAW0 := Lib.hid fun (gQ : Nat) (W : World) (h : Ints W (some ⟨gQ, 0, none⟩) (szP S P)) => allWords_any (some ⟨gQ, 0, none⟩) (szP S P) t hSpQ Nn (Lib.hid hNn) W h
      have HDP0 := Lib.hid fun (gQ q : Nat) (W : World) (h : Ints W (some ⟨gQ, 0, none⟩) (szP S P)) (h2 : Ints W (some ⟨q, 0, none⟩) (upto Nn)) => digitParts_n (some ⟨gQ, 0, none⟩) (szP S P) t hSpQ.lo hSpQ.hi hSpQ.bd (some ⟨q, 0, none⟩) (upto Nn) Nn Nn (upto_len Nn).symm (by omega) (fun j hj => by rw [upto_len] at hj; rw [gi_upto _ _ hj]; omega) W h h2
      obtain ⟨Q, hQ⟩ : ∃ Q, Q = szP S P := ⟨_, rfl⟩
      obtain ⟨D, hD⟩ : ∃ D, D = dgTo (szP S P) t := ⟨_, rfl⟩
      rw [← hD] at hDl hDr HOn
      rw [← hQ] at hDr HQl hpo HAW0 HDP0
      have HDl := Lib.hid hDl
      have HDr := Lib.hid hDr
      have HD2 : Hid (∀ k, k < Nn → (rr D k).length = t) := Lib.hid fun k hk => by rw [HDr.out k hk, digs_length, HQl.out]
      rw [HQl.out] at HAW0 HDP0
      clear hP hPm hSpQ hNn hDl hDr hD hQ hPl hPb
      go_wp2_with fail
      refine hpo.mono ?_
      rintro e wq ⟨gQ, rfl, oQ, hbq⟩
      have hqs := hbq.size
      go_wp2_with fail
      have HAW := Lib.hid (HAW0.out gQ)
      have HDP := Lib.hid (HDP0.out gQ)
      obtain ⟨wb, hwb0⟩ : ∃ wb, wb = wq.alloc (.cells #[.slice (some ⟨gQ, 0, none⟩) t t] 24) := ⟨_, rfl⟩
      have cB : wb.cell? ⟨wq.heap.size, 0, none⟩ = some (.slice (some ⟨gQ, 0, none⟩) t t) := by rw [hwb0]; exact cell_new _ _ _
      have lB : wq.heap.size < wb.heap.size := by rw [hwb0]; exact lt_alloc _ _
      have hbb : Below wr.heap.size wr wb := by rw [hwb0]; exact hbq.alloc hbq.size _
      have hQI : Ints wb (some ⟨gQ, 0, none⟩) Q := by rw [hwb0]; exact own_ints (oQ.alloc _)
      have hwb : wr.heap.size ≤ wb.heap.size := hbb.size
      rw [← hwb0]
      clear hwb0 hpo hbq oQ HAW0 HDP0
      refine wp_region_held_drew (S := fun w' => w'.cell? ⟨wq.heap.size, 0, none⟩ = some (.slice (some ⟨gQ, 0, none⟩) t t)) (by kernel_rfl) (cB) (fun hHeld => ?_)
      refine wpAnyH_take (i := 0) (v := ?_) rfl (by kernel_rfl) (by kernel_rfl) (by kernel_rfl) (fun _ _ _ h => h) (Or.inl ⟨by rfl, ?_⟩) (by assumption) ?_
      rotate_left
      · (intro w hSw; obtain hSw := hSw; (try dsimp only at hSw); go_simp; try (with_reducible rfl))
      (try simp only [Act.put, List.setIfInBounds_toArray, List.set_cons_zero, List.set_cons_succ, List.getElem_toArray, List.getElem_cons_succ, List.getElem_cons_zero])
      refine wpAnyH_take (i := 1) (v := ?_) rfl (by kernel_rfl) (by kernel_rfl) (by kernel_rfl) (fun _ _ _ h => h) (Or.inl ⟨by rfl, ?_⟩) (by assumption) ?_
      rotate_left
      · (intro w hSw; obtain hSw := hSw; (try dsimp only at hSw); go_simp; try (with_reducible rfl))
      (try simp only [Act.put, List.setIfInBounds_toArray, List.set_cons_zero, List.set_cons_succ, List.getElem_toArray, List.getElem_cons_succ, List.getElem_cons_zero])
      refine wpAnyH_take (i := 5) (v := ?_) rfl (by kernel_rfl) (by kernel_rfl) (by kernel_rfl) (fun _ _ _ h => h) (Or.inl ⟨by rfl, ?_⟩) (by assumption) ?_
      rotate_left
      · (intro w hSw; obtain hSw := hSw; (try dsimp only at hSw); go_simp; try (with_reducible rfl))
      (try simp only [Act.put, List.setIfInBounds_toArray, List.set_cons_zero, List.set_cons_succ, List.getElem_toArray, List.getElem_cons_succ, List.getElem_cons_zero])
      refine wpAnyH_ready (rs := [2]) (by kernel_rfl) (by simp) ?_
      refine AllReadyH.cons rfl (fun K hK => ?_) AllReadyH.nil
      go_simp
      (go_at_call 78; refine (HAW.out _ (hQI.below (Below.refl wb.heap.size wb).drew)).mono ?_)
      rintro e x1 ⟨q1, rfl, ow1, hb1⟩
      have H1 : Below wb.heap.size wb x1 := Below.trans (Below.refl wb.heap.size wb).drew (hb1.mono (Below.size (Below.refl wb.heap.size wb).drew))
      refine hK.out _ _ (kept_cell H1 cB lB) (fun hHeld => ?_)
      clear hK K
      (try simp only [Act.put, List.setIfInBounds_toArray, List.set_cons_zero, List.set_cons_succ, List.getElem_toArray, List.getElem_cons_succ, List.getElem_cons_zero])
      refine wpAnyH_ready (rs := [3]) (by kernel_rfl) (by simp) ?_
      refine AllReadyH.cons rfl (fun K hK => ?_) AllReadyH.nil
      go_simp
      (go_at_call 70; refine (HDP.out q1 _ (hQI.below H1) (own_ints ow1)).mono ?_)
      rintro e x2 ⟨Pp, gU, U, rfl, hPA, hb2⟩
      have H2 : Below wb.heap.size wb x2 := Below.trans H1 (hb2.mono (Below.size H1))
      replace ow1 := ow1.below hb2
      refine hK.out _ _ (kept_cell H2 cB lB) (fun hHeld => ?_)
      clear hK K
      (try simp only [Act.put, List.setIfInBounds_toArray, List.set_cons_zero, List.set_cons_succ, List.getElem_toArray, List.getElem_cons_succ, List.getElem_cons_zero])
      refine wpAnyH_take (i := 4) (v := ?_) rfl (by kernel_rfl) (by kernel_rfl) (by kernel_rfl) (fun _ _ _ h => h) (Or.inl ⟨by rfl, ?_⟩) (by assumption) ?_
      rotate_left
      · (intro w hSw; obtain hSw := hSw; (try dsimp only at hSw); go_simp; try (with_reducible rfl))
      (try simp only [Act.put, List.setIfInBounds_toArray, List.set_cons_zero, List.set_cons_succ, List.getElem_toArray, List.getElem_cons_succ, List.getElem_cons_zero])
      refine wpAnyH_done (by kernel_rfl) ?_ _
      (try simp only [Act.put, List.setIfInBounds_toArray, List.set_cons_zero, List.set_cons_succ, List.getElem_toArray, List.getElem_cons_succ, List.getElem_cons_zero])
      have Hn : Below wb.heap.size wb x2 := H2
      replace hPA := PartsAt.rebase (lo' := wr.heap.size) hPA (Nat.le_trans hwb (Below.size H1))
      obtain ⟨w5, hw5⟩ : ∃ z, z = x2 := ⟨_, rfl⟩
      rw [← hw5] at Hn hPA ⊢
      clear hw5 hHeld
      have HP5 : Hid (∀ k, k < Nn → w5.cell? ⟨Pp, k, none⟩ = some (.slice (some ⟨gU, k * t, none⟩) t t) ∧ Ints w5 (some ⟨gU, k * t, none⟩) (rr D k)) := Lib.hid fun k hk => by
        refine ⟨by have := hPA.row k (by rw [upto_len]; exact hk); rwa [HQl.out] at this, .inr ⟨gU, k * t, rfl, hPA.own.base_le.2, fun j hj => ?_⟩⟩
        rw [HD2.out k hk] at hj
        have hUl := hPA.len
        rw [upto_len, HQl.out] at hUl
        have hkj : k * t + j < U.length := by
          rw [hUl]
          have := Nat.mul_le_mul_right t (show k + 1 ≤ Nn from hk)
          rw [Nat.succ_mul] at this; omega
        rw [hPA.own.cell hkj, HDr.out k hk, gi_digs _ _ _ (by rw [HQl.out]; exact hj)]
        have := hPA.dg k j (by rw [upto_len]; exact hk) (by rw [HQl.out]; exact hj)
        rw [HQl.out, gi_upto _ _ hk] at this
        rw [this]
      have hgU := hPA.own.base_le
      have hPp := And.intro hPA.bp hPA.pl
      have H5 : Below wr.heap.size wr w5 := hbb.trans (Hn.mono hwb)
      obtain ⟨Z, hZe⟩ : ∃ Z, Z = w5.heap.size := ⟨_, rfl⟩
      have HZ := Lib.hid hZe
      have hZr : wr.heap.size ≤ Z := by rw [hZe]; exact H5.size
      rw [← hZe] at hgU hPp
      obtain ⟨w0, rfl⟩ : ∃ w0, w0 = wr := ⟨_, rfl⟩
      have oF5 := oF.below H5
      have c5 := kept_cell H5 c1 l1
      have l5 := lt_of_below H5 l1
      have B5 := B.trans (H5.mono B.size)
      have hI5 := hIq.below H5
      have HK5 : Hid (∀ b, b < Y → b ≠ w.heap.size + 1 → w5.heap[b]? = wY.heap[b]?) := Lib.hid fun b h1 h2 => (H5.block b (by omega)).trans (HK.out b h1 h2)
      have hFl : Hid (∀ k, k ≤ Nn → (O ++ (D.take k).map fun E => P ++ E).flatten.length = O.length * m + k * m) := Lib.hid fun k hk => by
        rw [List.flatten_append, List.length_append, HFl.out]
        have := flat_lenC (m := m) (L := (D.take k).map fun E => P ++ E) (fun l hl => by
          obtain ⟨E, hE, rfl⟩ := List.mem_map.1 hl
          obtain ⟨j, hj, e⟩ := List.mem_iff_getElem.1 (List.mem_of_mem_take hE)
          have e2 : rr D j = E := by rw [← e]; simp [rr, List.getD, hj]
          have := HD2.out j (by rw [← HDl.out]; exact hj)
          rw [List.length_append, HPl.out, ← e2, this, HM.out]; omega)
        rw [this]
        simp [HDl.out, hk]
      have HFs : Hid (∀ k, k < Nn → (O ++ (D.take k).map fun E => P ++ E).flatten ++ P ++ rr D k = (O ++ (D.take (k + 1)).map fun E => P ++ E).flatten) := Lib.hid fun k hk => by
        rw [take_rr D k (by rw [HDl.out]; exact hk)]; simp
      have hgF0 := hgF
      have hwF : gF < w0.heap.size := hgFl.2
      have hw0Y : Y ≤ w0.heap.size := hYr
      have hgU2 : w0.heap.size ≤ gU := hgU.1
      have hgrY : gr < Y := hgr2
      clear oF hgF HK hYr c1 l1 B hcq hIq hbb Hn hPA H5 hZe cB lB hQI
      go_wp2_with fail
      go_loopw [5, 31] (fun o x wk => ∃ k g5 c5 : Nat, k ≤ Nn ∧ x = .int .i64 (k : Int) ∧ o = .slice (some ⟨g5, 0, none⟩) (O ++ (D.take k).map fun E => P ++ E).flatten.length c5 ∧ OwnInts wk (w.heap.size + 1) (.slice (some ⟨g5, 0, none⟩) (O ++ (D.take k).map fun E => P ++ E).flatten.length c5) (O ++ (D.take k).map fun E => P ++ E).flatten ∧ (g5 = gF ∨ Z ≤ g5) ∧ Hid (∀ b, b < Z → b ≠ gF → wk.heap[b]? = w5.heap[b]?) ∧ Z ≤ wk.heap.size ∧ wk.cell? ⟨w.heap.size, 0, none⟩ = some (.slice ao S.length cap) ∧ w.heap.size < wk.heap.size ∧ Below w.heap.size w wk) (fun _ x _ => Nn - (intOf x).toNat)
      case atStart => exact ⟨0, gF, cF, Nat.zero_le _, rfl, by simp, by simpa using oF5, .inl rfl, Lib.hid fun b _ _ => rfl, by rw [HZ.out]; exact Nat.le_refl _, c5, l5, B5⟩
      case round =>
        clear oF5 c5 l5 B5
        obtain ⟨k, g5, c5, hk, rfl, rfl, oF, hgF, HK, hZk, c1, l1, B⟩ := hrel
        have hFk := hFl.out k hk
        have HFk := Lib.hid (HFs.out k)
        have HFa : Hid (k = Nn → (O ++ (D.take k).map fun E => P ++ E) = alJ S t (i + 1)) := Lib.hid fun h => by rw [HOn.out, h, ← HDl.out, List.take_length]
        obtain ⟨TT, hTT⟩ : ∃ TT, TT = (O ++ (D.take k).map fun E => P ++ E) := ⟨_, rfl⟩
        rw [← hTT] at HFk HFa hFk oF ⊢
        obtain ⟨F, hF⟩ : ∃ F, F = TT.flatten := ⟨_, rfl⟩
        rw [← hF] at HFk hFk oF ⊢
        have HF := Lib.hid hF
        have hF9 : F.length ≤ 20000 := by
          have h1 := Nat.mul_le_mul (show O.length ≤ 832 from hOl) hm6
          have h2 := Nat.mul_le_mul (show k ≤ 1024 by omega) hm6
          omega
        clear hTT hF hFk
        by_cases hlk : k < Nn
        · have hkI : (k : Int) < (Nn : Int) := by omega
          obtain ⟨hcp, hIE⟩ := HP5.out k hlk
          replace hcp := (cell_heapC (HK.out Pp hPp.2 (by omega)) k).trans hcp
          have hlPp : Pp < wr.heap.size := by omega
          have hEl := HD2.out k hlk
          have HFn := Lib.hid (HFk.out hlk)
          obtain ⟨E, hE⟩ : ∃ E, E = rr D k := ⟨_, rfl⟩
          rw [← hE] at hIE hEl HFn
          have HEl := Lib.hid hEl
          obtain ⟨kt, hkt⟩ : ∃ kt, kt = k * t := ⟨_, rfl⟩
          rw [← hkt] at hcp hIE
          have hIP := ints_heapC hI5 (HK.out gr (by omega) (by omega)) (by omega)
          have hIE5 := ints_heapC hIE (HK.out gU hgU.2 (by omega)) (by omega)
          have hbl : w.heap.size + 1 ≤ wr.heap.size := l1
          have hg51 := oF.base_le
          clear hE hEl hkt hIE HFk HFa
          go_wp2_with (first
            | (at_builtin; refine wpList_append_intsL rfl _ _ rfl (w.heap.size + 1) _ F rfl oF ⟨gr, 0, none⟩ P t cr (F.length + t) HPl.out.symm ht1 rfl hIP (by omega) hbl rfl ?_; intro g7 c7 w7 oF7 hg7 hat7)
            | (at_builtin; refine wpList_append_intsL rfl _ _ rfl (w.heap.size + 1) _ (F ++ P) rfl oF7 ⟨gU, kt, none⟩ E t t (F.length + t + t) HEl.out.symm ht1 rfl (hIE5.kept7 hg7 (by simp only [Value.ownBlock]; intro e; have e' : gU = g5 := Option.some.inj e; omega)) (by rw [List.length_append, HPl.out]; omega) (Nat.le_trans hbl hg7.size) (by rw [List.length_append, HPl.out]) ?_; intro g8 c8 w8 oF8 hg8 hat8)
            | fail)
          have HK8 : Hid (∀ b, b < Z → b ≠ gF → w8.heap[b]? = w5.heap[b]?) := Lib.hid fun b h1 h2 => by
            have n5 : b ≠ g5 := by omega
            have n7 : b ≠ g7 := by
              rcases hat7 with e | e
              · have e' : g5 = g7 := Option.some.inj e
                omega
              · omega
            have z7 := hg7.size
            rw [hg8.block b (by omega) (by simp only [Value.ownBlock]; intro e; exact n7 (Option.some.inj e)), hg7.block b (by omega) (by simp only [Value.ownBlock]; intro e; exact n5 (Option.some.inj e))]
            exact HK.out b h1 h2
          have B7 : Below (w.heap.size + 1) wr w7 := ((Below.refl _ wr).mono hbl).grown hg7 hbl (fun z hz => by cases hz; exact hg51.1)
          have hg71 : w.heap.size + 1 ≤ g7 := oF7.base_le.1
          have B8 : Below (w.heap.size + 1) wr w8 := B7.grown hg8 (Nat.le_trans hbl B7.size) (fun z hz => by cases hz; exact hg71)
          have c8b := kept_cell B8 c1 (Nat.lt_succ_self _)
          have l8 := Nat.lt_of_lt_of_le l1 B8.size
          have B9 := B.trans (B8.mono (Nat.le_succ _))
          have hZ8 : Z ≤ w8.heap.size := Nat.le_trans hZk B8.size
          have hg8b : g8 = gF ∨ Z ≤ g8 := by
            have z7 := hg7.size
            rcases hat8 with e | e
            · have e' : g7 = g8 := Option.some.inj e
              rcases hat7 with f | f
              · have f' : g5 = g7 := Option.some.inj f
                omega
              · omega
            · omega
          have HFm : Hid (F.length + t + t = (O ++ (D.take (k + 1)).map fun E => P ++ E).flatten.length) := Lib.hid (by rw [← HFn.out, List.length_append, List.length_append, HPl.out, HEl.out])
          rw [HFn.out, HFm.out] at oF8
          rw [HFm.out]
          clear oF HK c1 l1 B B7 B8 hg7 hg8 hat7 hat8 oF7 hIP hIE5 hcp
          go_wp2_with fail
          go_roundw
          case rel => exact ⟨k + 1, g8, c8, by omega, by go_num, rfl, oF8, hg8b, HK8, hZ8, c8b, l8, B9⟩
          case measure => simp [intOf]; omega
        · have hkI : ¬ (k : Int) < (Nn : Int) := by omega
          have HTe := Lib.hid (HFa.out (by omega))
          have HFe : Hid (F = (alJ S t (i + 1)).flatten) := Lib.hid (by rw [HF.out, HTe.out])
          have HKY : Hid (∀ b, b < Y → b ≠ w.heap.size + 1 → wr.heap[b]? = wY.heap[b]?) := Lib.hid fun b h1 h2 => (HK.out b (by omega) (by omega)).trans (HK5.out b h1 h2)
          rw [HFe.out] at oF
          go_wp2_with fail
          go_roundw
          case rel => exact ⟨i + 1, g5, c5, by omega, by go_num, by rw [HFe.out], oF, by omega, HKY, by omega, c1, l1, B⟩
          case measure => simp [intOf]; omega
    · have hlI : ¬ (i : Int) < (PL.length : Int) := by omega
      have HE : Hid (O = allC S t) := Lib.hid (by rw [HO.out, ← HAA.out, show i = PL.length by omega])
      obtain ⟨NC, hNC⟩ : ∃ NC, NC = (allC S t).length := ⟨_, rfl⟩
      have HNC := Lib.hid hNC
      have hNC9 : NC ≤ 832 := by rw [hNC, ← HE.out]; exact hOl
      obtain ⟨LF, hLF⟩ : ∃ LF, LF = O.flatten.length := ⟨_, rfl⟩
      have hLFe : LF = NC * m := by rw [hLF, HFl.out, HE.out, ← hNC]
      rw [← hLF] at oF ⊢
      rw [HE.out] at oF
      have HLF := Lib.hid hLFe
      have hLF9 : LF ≤ 6000 := by
        have := Nat.mul_le_mul hNC9 hm6
        omega
      have eq : (LF : Int).tdiv (m : Int) = (NC : Int) := by
        rw [Int.tdiv_eq_ediv_of_nonneg (by omega), hLFe]; push_cast
        rw [Int.mul_ediv_cancel _ (by omega)]
      have mz : ((m : Int) == 0) = false := by simp; omega
      have mz2 : ¬ (m : Int) = 0 := by omega
      obtain ⟨i0, hi0, hz0, hz1, hz2⟩ := info_parts infoCh3
      obtain ⟨w0, rfl⟩ : ∃ w0, w0 = wr := ⟨_, rfl⟩
      have hcapF := own_cap oF
      unfold maxLen at hcapF
      have hgFl := oF.base_le
      clear hgF HK hLF hLFe hNC hlt
      go_wp2_with (first | (at_make; refine wpList_make_full _ rfl _ _ 84 rfl w0.heap.size 71 i0 (.agg Ch3.z.arr) 3 Try.underlying84 hi0 hz0 hz1 .i64 .i64 (NC : Int) (NC : Int) NC rfl rfl rfl rfl (by rw [hz2]; omega) (by unfold maxLen; omega) (Nat.le_refl _) ?_; intro w2 hown hgrow) | fail)
      have hb2 : Below w0.heap.size w0 w2 := below_grown0 hgrow
      replace hown := own_madeXs hown
      have lg := hown.base_le
      have oF2 := oF.below hb2
      have c2 := kept_cell hb2 c1 l1
      have l2 := lt_of_below hb2 l1
      have B2 := B.trans (hb2.mono B.size)
      have HCO : Hid (∀ km W, Calls Try.prog 68 #[.agg #[.slice ao S.length cap], .slice (some ⟨gF, km, none⟩) m m] W fun e w' => e = .returned (.agg (chX ao S.length cap gF t km).arr) ∧ Below W.heap.size W w') := Lib.hid fun km W => by
        have h := choiceOf_any ao S.length cap gF km m m t ht1 (by rw [HM.out]; omega) (Nat.le_refl _) (by omega) (by omega) W
        rwa [show m - t = t by rw [HM.out]; omega] at h
      clear hgrow hi0 hz0 hz1 hz2 eq mz mz2 c1 B
      go_wp2_with fail
      go_loopw [51] (fun x wr => ∃ (k : Nat) (X : List Ch3), k ≤ NC ∧ x = .int .i64 (k : Int) ∧ OwnXs wr w0.heap.size (.slice (some ⟨w0.heap.size, 0, none⟩) NC NC) X ∧ Hid (X.length = NC ∧ ∀ j, j < k → xAt X j = chX ao S.length cap gF t (j * (2 * t))) ∧ OwnInts wr (w.heap.size + 1) (.slice (some ⟨gF, 0, none⟩) LF cF) (allC S t).flatten ∧ wr.cell? ⟨w.heap.size, 0, none⟩ = some (.slice ao S.length cap) ∧ w.heap.size < wr.heap.size ∧ Below w.heap.size w wr) (fun x _ => NC - (intOf x).toNat)
      case atStart => exact ⟨0, _, Nat.zero_le _, rfl, hown, Lib.hid ⟨by simp, fun j hj => by omega⟩, oF2, c2, l2, B2⟩
      case round =>
        clear hown lg oF2 c2 l2 B2 oF
        obtain ⟨k, X, hk, rfl, oX, HX, oF, c1, l1, B⟩ := hrel
        by_cases hlt : k < NC
        · have hkI : (k : Int) < (NC : Int) := by omega
          obtain ⟨km, hkm⟩ : ∃ km, km = k * m := ⟨_, rfl⟩
          have hkm2 : km + m ≤ LF := by
            have := Nat.mul_le_mul_right m (show k + 1 ≤ NC from hlt)
            rw [Nat.succ_mul] at this
            rw [HLF.out, hkm]; omega
          have hkn6 : km + m ≤ 1000000 := Nat.le_trans hkm2 (Nat.le_trans hLF9 (by decide))
          have hkm6 : km ≤ 1000000 := Nat.le_trans (Nat.le_add_right _ _) hkn6
          have HKM : Hid (km = k * (2 * t)) := Lib.hid (by rw [hkm, HM.out])
          obtain ⟨kn, hkn⟩ : ∃ kn, kn = km + m := ⟨_, rfl⟩
          have f1 : km ≤ kn := by omega
          have f2 : kn ≤ cF := by omega
          have f3 : ¬ kn = km := by omega
          have f4 : kn - km = m := by omega
          have f5 : (km : Int) ≤ (kn : Int) := by omega
          have f6 : (kn : Int) ≤ (cF : Int) := by omega
          have hgX : w.heap.size + 1 ≤ w0.heap.size := by omega
          have hgXF : w0.heap.size ≠ gF := by omega
          have f7 : max (kn : Int) 0 = (kn : Int) := by omega
          have e0 : IntKind.i64.wrap ((k : Int) + 1) = (k : Int) + 1 := IntWalk.i64_in _ ⟨by omega, by omega⟩
          obtain ⟨e1, e1b⟩ := mulwC k m km hkm hkm6
          obtain ⟨e2, e2b⟩ := mulwC1 k m km kn hkm hkn hkn6
          clear hkm
          clear hkn
          go_wp2_with fail
          refine wp_region_held_drew (S := fun w' => w'.cell? ⟨w.heap.size, 0, none⟩ = some (.slice ao S.length cap)) (by kernel_rfl) (c1) (fun hHeld => ?_)
          refine wpAnyH_take (i := 0) (v := ?_) rfl (by kernel_rfl) (by kernel_rfl) (by kernel_rfl) (fun _ _ _ h => h) (Or.inl ⟨by rfl, ?_⟩) (by assumption) ?_
          rotate_left
          · (intro w hSw; obtain hSw := hSw; (try dsimp only at hSw); go_simp; try (with_reducible rfl))
          (try simp only [Act.put, List.setIfInBounds_toArray, List.set_cons_zero, List.set_cons_succ, List.getElem_toArray, List.getElem_cons_succ, List.getElem_cons_zero])
          refine wpAnyH_take (i := 1) (v := ?_) rfl (by kernel_rfl) (by kernel_rfl) (by kernel_rfl) (fun _ _ _ h => h) (Or.inl ⟨by rfl, ?_⟩) (by assumption) ?_
          rotate_left
          · (intro w hSw; obtain hSw := hSw; (try dsimp only at hSw); go_simp; try (with_reducible rfl))
          (try simp only [Act.put, List.setIfInBounds_toArray, List.set_cons_zero, List.set_cons_succ, List.getElem_toArray, List.getElem_cons_succ, List.getElem_cons_zero])
          refine wpAnyH_take (i := 2) (v := ?_) rfl (by kernel_rfl) (by kernel_rfl) (by kernel_rfl) (fun _ _ _ h => h) (Or.inl ⟨by rfl, ?_⟩) (by assumption) ?_
          rotate_left
          · (intro w hSw; obtain hSw := hSw; (try dsimp only at hSw); go_simp; try (with_reducible rfl))
          (try simp only [Act.put, List.setIfInBounds_toArray, List.set_cons_zero, List.set_cons_succ, List.getElem_toArray, List.getElem_cons_succ, List.getElem_cons_zero])
          refine wpAnyH_take (i := 3) (v := ?_) rfl (by kernel_rfl) (by kernel_rfl) (by kernel_rfl) (fun _ _ _ h => h) (Or.inl ⟨by rfl, ?_⟩) (by assumption) ?_
          rotate_left
          · (intro w hSw; obtain hSw := hSw; (try dsimp only at hSw); go_simp; try (with_reducible rfl))
          (try simp only [Act.put, List.setIfInBounds_toArray, List.set_cons_zero, List.set_cons_succ, List.getElem_toArray, List.getElem_cons_succ, List.getElem_cons_zero])
          refine wpAnyH_take (i := 4) (v := ?_) rfl (by kernel_rfl) (by kernel_rfl) (by kernel_rfl) (fun _ _ _ h => h) (Or.inl ⟨by rfl, ?_⟩) (by assumption) ?_
          rotate_left
          · (intro w hSw; obtain hSw := hSw; (try dsimp only at hSw); go_simp; try (with_reducible rfl))
          (try simp only [Act.put, List.setIfInBounds_toArray, List.set_cons_zero, List.set_cons_succ, List.getElem_toArray, List.getElem_cons_succ, List.getElem_cons_zero])
          refine wpAnyH_take (i := 5) (v := ?_) rfl (by kernel_rfl) (by kernel_rfl) (by kernel_rfl) (fun _ _ _ h => h) (Or.inl ⟨by rfl, ?_⟩) (by assumption) ?_
          rotate_left
          · (intro w hSw; obtain hSw := hSw; (try dsimp only at hSw); go_simp; try (with_reducible rfl))
          (try simp only [Act.put, List.setIfInBounds_toArray, List.set_cons_zero, List.set_cons_succ, List.getElem_toArray, List.getElem_cons_succ, List.getElem_cons_zero])
          refine wpAnyH_take (i := 6) (v := ?_) rfl (by kernel_rfl) (by kernel_rfl) (by kernel_rfl) (fun _ _ _ h => h) (Or.inl ⟨by rfl, ?_⟩) (by assumption) ?_
          rotate_left
          · (intro w hSw; obtain hSw := hSw; (try dsimp only at hSw); go_simp; try (with_reducible rfl))
          (try simp only [Act.put, List.setIfInBounds_toArray, List.set_cons_zero, List.set_cons_succ, List.getElem_toArray, List.getElem_cons_succ, List.getElem_cons_zero])
          refine wpAnyH_take (i := 7) (v := ?_) rfl (by kernel_rfl) (by kernel_rfl) (by kernel_rfl) (fun _ _ _ h => h) (Or.inl ⟨by rfl, ?_⟩) (by assumption) ?_
          rotate_left
          · (intro w hSw; obtain hSw := hSw; (try dsimp only at hSw); go_simp; try (with_reducible rfl))
          (try simp only [Act.put, List.setIfInBounds_toArray, List.set_cons_zero, List.set_cons_succ, List.getElem_toArray, List.getElem_cons_succ, List.getElem_cons_zero])
          refine wpAnyH_take (i := 8) (v := ?_) rfl (by kernel_rfl) (by kernel_rfl) (by kernel_rfl) (fun _ _ _ h => h) (Or.inl ⟨by rfl, ?_⟩) (by assumption) ?_
          rotate_left
          · (intro w hSw; obtain hSw := hSw; (try dsimp only at hSw); go_simp; try (with_reducible rfl))
          (try simp only [Act.put, List.setIfInBounds_toArray, List.set_cons_zero, List.set_cons_succ, List.getElem_toArray, List.getElem_cons_succ, List.getElem_cons_zero])
          refine wpAnyH_take (i := 9) (v := ?_) rfl (by kernel_rfl) (by kernel_rfl) (by kernel_rfl) (fun _ _ _ h => h) (Or.inl ⟨by rfl, ?_⟩) (by assumption) ?_
          rotate_left
          · (intro w hSw; obtain hSw := hSw; (try dsimp only at hSw); go_simp; try (with_reducible rfl))
          (try simp only [Act.put, List.setIfInBounds_toArray, List.set_cons_zero, List.set_cons_succ, List.getElem_toArray, List.getElem_cons_succ, List.getElem_cons_zero])
          refine wpAnyH_take (i := 10) (v := ?_) rfl (by kernel_rfl) (by kernel_rfl) (by kernel_rfl) (fun _ _ _ h => h) (Or.inl ⟨by rfl, ?_⟩) (by assumption) ?_
          rotate_left
          · (intro w hSw; obtain hSw := hSw; (try dsimp only at hSw); go_simp; try (with_reducible rfl))
          (try simp only [Act.put, List.setIfInBounds_toArray, List.set_cons_zero, List.set_cons_succ, List.getElem_toArray, List.getElem_cons_succ, List.getElem_cons_zero])
          refine wpAnyH_take (i := 11) (v := ?_) rfl (by kernel_rfl) (by kernel_rfl) (by kernel_rfl) (fun _ _ _ h => h) (Or.inl ⟨by rfl, ?_⟩) (by assumption) ?_
          rotate_left
          · (intro w hSw; obtain hSw := hSw; (try dsimp only at hSw); go_simp; try (with_reducible rfl))
          (try simp only [Act.put, List.setIfInBounds_toArray, List.set_cons_zero, List.set_cons_succ, List.getElem_toArray, List.getElem_cons_succ, List.getElem_cons_zero])
          refine wpAnyH_take (i := 12) (v := ?_) rfl (by kernel_rfl) (by kernel_rfl) (by kernel_rfl) (fun _ _ _ h => h) (Or.inl ⟨by rfl, ?_⟩) (by assumption) ?_
          rotate_left
          · (intro w hSw; obtain hSw := hSw; (try dsimp only at hSw); go_simp; try (with_reducible rfl))
          (try simp only [Act.put, List.setIfInBounds_toArray, List.set_cons_zero, List.set_cons_succ, List.getElem_toArray, List.getElem_cons_succ, List.getElem_cons_zero])
          refine wpAnyH_take (i := 13) (v := ?_) rfl (by kernel_rfl) (by kernel_rfl) (by kernel_rfl) (fun _ _ _ h => h) (Or.inl ⟨by rfl, ?_⟩) (by assumption) ?_
          rotate_left
          · (intro w hSw; obtain hSw := hSw; (try dsimp only at hSw); go_simp; try (with_reducible rfl))
          (try simp only [Act.put, List.setIfInBounds_toArray, List.set_cons_zero, List.set_cons_succ, List.getElem_toArray, List.getElem_cons_succ, List.getElem_cons_zero])
          refine wpAnyH_take (i := 14) (v := ?_) rfl (by kernel_rfl) (by kernel_rfl) (by kernel_rfl) (fun _ _ _ h => h) (Or.inl ⟨by rfl, ?_⟩) (by assumption) ?_
          rotate_left
          · (intro w hSw; obtain hSw := hSw; (try dsimp only at hSw); go_simp; try (with_reducible rfl))
          (try simp only [Act.put, List.setIfInBounds_toArray, List.set_cons_zero, List.set_cons_succ, List.getElem_toArray, List.getElem_cons_succ, List.getElem_cons_zero])
          refine wpAnyH_take (i := 15) (v := ?_) rfl (by kernel_rfl) (by kernel_rfl) (by kernel_rfl) (fun _ _ _ h => h) (Or.inl ⟨by rfl, ?_⟩) (by assumption) ?_
          rotate_left
          · (intro w hSw; obtain hSw := hSw; (try dsimp only at hSw); go_simp; try (with_reducible rfl))
          (try simp only [Act.put, List.setIfInBounds_toArray, List.set_cons_zero, List.set_cons_succ, List.getElem_toArray, List.getElem_cons_succ, List.getElem_cons_zero])
          refine wpAnyH_ready (rs := [16]) (by kernel_rfl) (by simp) ?_
          refine AllReadyH.cons rfl (fun K hK => ?_) AllReadyH.nil
          go_simp
          (go_at_call 68; refine (HCO.out km _).mono ?_)
          rintro e x1 ⟨rfl, hb1⟩
          have H1 : Below wr.heap.size wr x1 := Below.trans (Below.refl wr.heap.size wr).drew (hb1.mono (Below.size (Below.refl wr.heap.size wr).drew))
          refine hK.out _ _ (kept_cell H1 c1 l1) (fun hHeld => ?_)
          clear hK K
          (try simp only [Act.put, List.setIfInBounds_toArray, List.set_cons_zero, List.set_cons_succ, List.getElem_toArray, List.getElem_cons_succ, List.getElem_cons_zero])
          refine wpAnyH_take (i := 17) (v := ?_) rfl (by kernel_rfl) (by kernel_rfl) (by kernel_rfl) (fun _ _ _ h => h) (Or.inl ⟨by rfl, ?_⟩) (by assumption) ?_
          rotate_left
          · (intro w hSw; obtain hSw := hSw; (try dsimp only at hSw); go_simp; try (with_reducible rfl))
          (try simp only [Act.put, List.setIfInBounds_toArray, List.set_cons_zero, List.set_cons_succ, List.getElem_toArray, List.getElem_cons_succ, List.getElem_cons_zero])
          refine wpAnyH_ready (rs := [18]) (by kernel_rfl) (by simp) ?_
          refine AllReadyH.cons rfl (fun K hK => ?_) AllReadyH.nil
          rw [if_pos (by kernel_rfl)]
          obtain ⟨w9, hst, oX9, g9⟩ := (oX.below H1).stored k (by rw [HX.out.1]; exact hlt) (chX ao S.length cap gF t km) (chX_one _ _ _ _ _ _)
          refine wp_stX (.tmp 71) (.tmp 70) (by kernel_rfl) (by kernel_rfl) (by kernel_rfl) hst ?_
          have H9 : Below (w.heap.size + 1) wr w9 := (Below.mono H1 l1).grown g9 (Nat.le_trans l1 (Below.size H1)) (fun z hz => by cases hz; exact hgX)
          refine hK.out _ _ (kept_cell H9 c1 (Nat.lt_succ_self _)) (fun hHeld => ?_)
          clear hK K
          (try simp only [Act.put, List.setIfInBounds_toArray, List.set_cons_zero, List.set_cons_succ, List.getElem_toArray, List.getElem_cons_succ, List.getElem_cons_zero])
          refine wpAnyH_done (by kernel_rfl) ?_ _
          (try simp only [Act.put, List.setIfInBounds_toArray, List.set_cons_zero, List.set_cons_succ, List.getElem_toArray, List.getElem_cons_succ, List.getElem_cons_zero])
          have oF9 := (oF.below H1).kept g9 (.inr (by intro e; exact hgXF (Option.some.inj e).symm))
          have c9 := kept_cell H9 c1 (Nat.lt_succ_self _)
          have l9 := Nat.lt_of_lt_of_le l1 H9.size
          have B9 := B.trans (H9.mono (Nat.le_succ _))
          clear hHeld oX oF c1 l1 B g9 H9 hst
          have HX9 : Hid ((X.set k (chX ao S.length cap gF t km)).length = NC ∧ ∀ j, j < k + 1 → xAt (X.set k (chX ao S.length cap gF t km)) j = chX ao S.length cap gF t (j * (2 * t))) := Lib.hid ⟨by rw [List.length_set]; exact HX.out.1, fun j hj => by
            rw [xAt_set _ _ _ _ (by rw [HX.out.1]; exact hlt)]
            by_cases e : j = k
            · subst e; rw [if_pos rfl, HKM.out]
            · rw [if_neg e]; exact HX.out.2 j (by omega)⟩
          clear e0 f7 e1 e1b e2 e2b f1 f2 f3 f4 f5 f6
          go_wp2_with fail
          go_roundw
          case rel => exact ⟨k + 1, _, by omega, by go_num, oX9, HX9, oF9, c9, l9, B9⟩
          case measure => simp [intOf]; omega
        · have hkI : ¬ (k : Int) < (NC : Int) := by omega
          have HXe : Hid (X = chL ao S.length cap gF t NC) := Lib.hid (xs_ext (by rw [HX.out.1, chL_len]) fun j hj => by rw [HX.out.1] at hj; rw [HX.out.2 j (by omega), xAt_chL _ _ _ _ _ _ _ hj])
          rw [HXe.out] at oX
          go_wp2_with fail
          go_ret
          rw [← HNC.out]
          exact ⟨w0.heap.size, rfl, gF, oX.rebase (by omega), ⟨LF, cF, oF.rebase (Nat.le_succ _)⟩, B⟩

end Go.Proofs.Ytgaelpcghljihaa

namespace Go.Proofs.Ytgaelpcghljihaa
open Go.RowKit Cv
set_option linter.unusedVariables false
set_option linter.unusedSimpArgs false

theorem plM_pw (n t : Nat) : ∀ f l, l ∈ plM n f t → l.Pairwise (· < ·) := by
  induction t with
  | zero => intro f l h; simp [plM] at h; subst h; exact List.Pairwise.nil
  | succ t ih =>
    intro f l h
    simp only [plM, List.mem_flatMap, List.mem_range, List.mem_map] at h
    obtain ⟨i, hi, l', hl', rfl⟩ := h
    refine List.Pairwise.cons (fun x hx => ?_) (ih _ _ hl')
    have := ((plM_len n t _ _ hl').2 x hx).1
    omega
theorem dgTo_bd (Q : List Int) (k : Nat) : ∀ l, l ∈ dgTo Q k → ∀ j, j < k → 0 ≤ gi l j ∧ gi l j < gi Q j := by
  induction k with
  | zero => intro l h j hj; omega
  | succ k ih =>
    intro l h j hj
    simp only [dgTo, List.mem_flatMap, List.mem_map, List.mem_range] at h
    obtain ⟨l', hl', d, hd, rfl⟩ := h
    have hlen := dgTo_len Q k l' hl'
    by_cases e : j = k
    · subst e
      rw [gi_append_ge _ _ _ (by omega), hlen, Nat.sub_self, show gi [(d : Int)] 0 = (d : Int) from rfl]
      omega
    · rw [gi_append_lt _ _ _ (by omega)]
      exact ih l' hl' j (by omega)
/-- the digit that a choice gives a place -/
def dgAt (P D : List Int) (i : Int) : Nat → Int
  | 0 => 0
  | k + 1 => if gi P k = i then gi D k else dgAt P D i k
theorem dgAt_at (P D : List Int) (hP : P.Pairwise (· < ·)) (t : Nat) (ht : t ≤ P.length) (j : Nat) (hj : j < t) : dgAt P D (gi P j) t = gi D j := by
  induction t with
  | zero => omega
  | succ t ih =>
    rw [dgAt]
    by_cases e : j = t
    · subst e; rw [if_pos rfl]
    · have hlt : gi P j < gi P t := by
        rw [gi_lt P j (by omega), gi_lt P t (by omega)]
        exact List.pairwise_iff_getElem.1 hP j t (by omega) (by omega) (by omega)
      rw [if_neg (by omega)]
      exact ih (by omega) (by omega)
theorem dgAt_bd (P D : List Int) (q i : Int) (hq : 0 < q) (t : Nat) (h : ∀ j, j < t → gi P j = i → 0 ≤ gi D j ∧ gi D j < q) : 0 ≤ dgAt P D i t ∧ dgAt P D i t < q := by
  induction t with
  | zero => exact ⟨Int.le_refl _, hq⟩
  | succ t ih =>
    rw [dgAt]
    by_cases e : gi P t = i
    · rw [if_pos e]; exact h t (by omega) e
    · rw [if_neg e]; exact ih fun j hj => h j (by omega)
theorem hcTo_all {D c : List Int} {t : Nat} (n : Nat) (h : ∀ k, k < n → gi D (gi c k).toNat = gi c (t + k)) : hcTo D c t n = true := by
  induction n with
  | zero => rfl
  | succ n ih => rw [hcTo, ih fun k hk => h k (by omega), h n (by omega)]; simp
/-- each choice is in some word -/
theorem allC_in {S : List Int} (hS : Sp S) {t : Nat} {c : List Int} (hc : c ∈ allC S t) : ∃ x : Int, 0 ≤ x ∧ x < nW S ∧ hasC (digs S x) c = true := by
  have hl2 := allC_len2 S t c hc
  simp only [allC, List.mem_flatMap, List.mem_map] at hc
  obtain ⟨P, hP, D, hD, rfl⟩ := hc
  obtain ⟨p1, p2⟩ := plM_len _ _ _ _ hP
  have pw := plM_pw _ _ _ _ hP
  have d1 := dgTo_len _ _ _ hD
  have d2 := dgTo_bd _ _ _ hD
  have gP : ∀ j, j < t → 0 ≤ gi P j ∧ gi P j < S.length := fun j hj => by
    have := p2 (gi P j) (by rw [gi_lt _ _ (by omega)]; exact List.getElem_mem _)
    omega
  obtain ⟨W, hW⟩ : ∃ W, W = (List.range S.length).map fun (i : Nat) => dgAt P D (i : Int) t := ⟨_, rfl⟩
  have wl : W.length = S.length := by simp [hW]
  have wg : ∀ i, i < S.length → gi W i = dgAt P D (i : Int) t := fun i hi => by rw [hW]; simp [gi, hi]
  have wb : ∀ i, i < S.length → 0 ≤ gi W i ∧ gi W i < gi S i := fun i hi => by
    rw [wg i hi]
    have s := hS.bd i hi
    refine dgAt_bd P D _ _ (by omega) t fun j hj e => ?_
    have := d2 j hj
    rw [gi_szP _ _ _ (by omega), e, Int.toNat_natCast] at this
    exact this
  obtain ⟨a, b⟩ := wordTo_bd S W S.length hS.bd wb
  refine ⟨wordTo S W S.length, a, b, ?_⟩
  rw [digs_word hS wl wb]
  have ht : (P ++ D).length / 2 = t := by rw [hl2]; omega
  unfold hasC
  rw [ht]
  refine hcTo_all t fun k hk => ?_
  obtain ⟨g1, g2⟩ := gP k hk
  rw [gi_append_lt _ _ _ (by omega), gi_append_ge _ _ _ (by omega), p1, Nat.add_sub_cancel_left, wg _ (by omega), Int.toNat_of_nonneg g1]
  exact dgAt_at P D pw t (by omega) k hk

/-- whether one of the rows has the choice -/
def anyG (S L c : List Int) : Bool := L.any fun x => hasC (digs S x) c
theorem anyG_snoc (S L c : List Int) (x : Int) : anyG S (L ++ [x]) c = (anyG S L c || hasC (digs S x) c) := by simp [anyG]
theorem union_chG (S : List Int) (C : List (List Int)) (L : List Int) (u : Nat) : unionL (chSets S C L) u = (decide (u < C.length) && anyG S L (rr C u)) := by
  induction L with
  | nil => simp [unionL, chSets, anyG]
  | cons x L ih =>
    unfold unionL chSets anyG at ih ⊢
    rw [List.map_cons, List.any_cons, List.any_cons, ih, chP]
    cases decide (u < C.length) <;> simp
theorem cntTo_filterG (C : List (List Int)) (f : List Int → Bool) (N : Nat) (hN : C.length ≤ N) : (C.filter f).length = cntTo (fun u => decide (u < C.length) && f (rr C u)) N := by
  have h1 : ∀ n, n ≤ C.length → ((C.take n).filter f).length = cntTo (fun u => decide (u < C.length) && f (rr C u)) n := fun n hn => by
    induction n with
    | zero => simp [cntTo]
    | succ n ih =>
      rw [take_rr C n (by omega), List.filter_append, List.length_append, ih (by omega), cntTo]
      congr 1
      cases h : f (rr C n) <;> simp [h, show n < C.length by omega]
  have h2 : ∀ m, cntTo (fun u => decide (u < C.length) && f (rr C u)) (C.length + m) = cntTo (fun u => decide (u < C.length) && f (rr C u)) C.length := fun m => by
    induction m with
    | zero => rfl
    | succ m ih => rw [← Nat.add_assoc, cntTo, ih]; simp [show ¬ C.length + m < C.length by omega]
  have h3 := h1 C.length (Nat.le_refl _)
  rw [List.take_length] at h3
  rw [h3, ← h2 (N - C.length), Nat.add_sub_cancel' hN]
theorem cntTo_ext {p q : Nat → Bool} (h : ∀ u, p u = q u) (n : Nat) : cntTo p n = cntTo q n := by rw [show p = q from funext h]
theorem mbI_ext {k : Nat} {f g : Nat → Nat} (h : ∀ j, j < k → f j = g j) : mbI f k = mbI g k := (gn_congr h).1

/-- what the rounds have together -/
def cvG (S : List Int) (C : List (List Int)) (O : List Int) : Nat → Bool := fun u => decide (u < C.length) && anyG S O (rr C u)
/-- the sets of all words -/
def psG (S : List Int) (C : List (List Int)) (N : Nat) : List (Nat → Bool) := chSets S C (upto N)
theorem psG_len (S : List Int) (C : List (List Int)) (N : Nat) : (psG S C N).length = N := by unfold psG; rw [chSets_len, upto_len]
theorem psG_bd (S : List Int) (C : List (List Int)) (N : Nat) (hC : C.length ≤ 1024) : ∀ p, p ∈ psG S C N → ∀ u, p u = true → u < 1024 := by
  intro p hp u hu
  simp only [psG, chSets, List.mem_map] at hp
  obtain ⟨x, _, rfl⟩ := hp
  simp only [chP, Bool.and_eq_true, decide_eq_true_eq] at hu
  omega
theorem psG_at (S : List Int) (C : List (List Int)) (N j : Nat) (hj : j < N) : pAt (psG S C N) j = chP (digs S (j : Int)) C C.length := by
  unfold psG
  rw [pAt_chSets _ _ _ _ (by rw [upto_len]; exact hj), gi_upto _ _ hj]
/-- all choices together -/
theorem unG {S : List Int} (hS : Sp S) {t N : Nat} (hN : nW S = (N : Int)) (u : Nat) : unionL (psG S (allC S t) N) u = decide (u < (allC S t).length) := by
  unfold psG
  rw [union_chG]
  by_cases h : u < (allC S t).length
  · have hm : rr (allC S t) u ∈ allC S t := rr_mem h
    obtain ⟨x, x0, x1, hx⟩ := allC_in hS hm
    have : anyG S (upto N) (rr (allC S t) u) = true := by
      refine List.any_eq_true.2 ⟨x, ?_, hx⟩
      rw [hN] at x1
      simp only [upto, List.mem_map, List.mem_range]
      exact ⟨x.toNat, by omega, by omega⟩
    rw [this]; simp [h]
  · simp [h]

/-- what holds between two rounds: the rows so far, the choices left -/
structure RiG (S : List Int) (C : List (List Int)) (N : Nat) (O : List Int) (L : List (List Int)) : Prop where
  g : GnI (pAt (psG S C N)) N (unionL (psG S C N)) (cvG S C O) O
  l : L = C.filter fun c => !anyG S O c
/-- how many of the choices left a word has -/
def hkG (S : List Int) (L : List (List Int)) (j : Nat) : Nat := (L.filter fun c => hasC (digs S (j : Int)) c).length
theorem cvG_nil (S : List Int) (C : List (List Int)) : cvG S C [] = fun _ => false := by funext u; simp [cvG, anyG]
theorem riG_0 (S : List Int) (C : List (List Int)) (N : Nat) : RiG S C N [] C := ⟨by rw [cvG_nil]; exact gni_0 _ _ _, by symm; exact List.filter_eq_self.2 fun _ _ => rfl⟩
theorem riG_eqS {S : List Int} (hS : Sp S) {t N : Nat} (hN : nW S = (N : Int)) (hC : (allC S t).length ≤ 1024) {O : List Int} {L : List (List Int)} (h : RiG S (allC S t) N O L) : eqS (cvG S (allC S t) O) (unionL (psG S (allC S t) N)) = true ↔ L = [] := by
  rw [eqS_iff, h.l, List.filter_eq_nil_iff]
  constructor
  · intro g c hc
    obtain ⟨u, hu, rfl⟩ := List.getElem_of_mem hc
    have := g u (by omega)
    rw [unG hS hN] at this
    have er : rr (allC S t) u = (allC S t)[u] := by simp [rr, List.getD, List.getElem?_eq_getElem hu]
    simp only [cvG, er, hu, decide_true, Bool.true_and] at this
    simp [this]
  · intro g u hu
    rw [unG hS hN]
    unfold cvG
    by_cases e : u < (allC S t).length
    · have := g _ (rr_mem e)
      simp only [Bool.not_eq_true', Bool.not_eq_false] at this
      simp only [e, decide_true, Bool.true_and]
      simpa using this
    · simp [e]
theorem riG_len {S : List Int} {C : List (List Int)} {N : Nat} {O : List Int} {L : List (List Int)} (h : RiG S C N O L) : O.length ≤ (upL (psG S C N) N).length := gni_len h.g
theorem riG_done {S : List Int} (hS : Sp S) {t N : Nat} (hN : nW S = (N : Int)) (hC : (allC S t).length ≤ 1024) {O : List Int} (h : RiG S (allC S t) N O []) : O = upL (psG S (allC S t) N) N := gni_done h.g ((riG_eqS hS hN hC h).2 rfl)
theorem riG_gF {S : List Int} {C : List (List Int)} (hC : C.length ≤ 1024) {N : Nat} {O : List Int} {L : List (List Int)} (h : RiG S C N O L) (j : Nat) (hj : j < N) : gF (pAt (psG S C N)) (cvG S C O) j = hkG S L j := by
  unfold gF hkG
  rw [h.l, List.filter_filter, cntTo_filterG C _ 1024 hC]
  refine cntTo_ext (fun u => ?_) _
  rw [psG_at S C N j hj]
  unfold byd chP cvG
  cases decide (u < C.length) <;> simp
theorem riG_step {S : List Int} (hS : Sp S) {t N : Nat} (hN : nW S = (N : Int)) (hC : (allC S t).length ≤ 1024) {O : List Int} {L : List (List Int)} (h : RiG S (allC S t) N O L) (hne : L ≠ []) : mbI (hkG S L) N < N ∧ O.length + 1 ≤ (upL (psG S (allC S t) N) N).length ∧ RiG S (allC S t) N (O ++ [((mbI (hkG S L) N : Nat) : Int)]) (L.filter fun c => !hasC (digs S ((mbI (hkG S L) N : Nat) : Int)) c) := by
  have he : eqS (cvG S (allC S t) O) (unionL (psG S (allC S t) N)) = false := by
    rw [← Bool.not_eq_true]; exact fun e => hne ((riG_eqS hS hN hC h).1 e)
  have hcv := cvr_union (psG S (allC S t) N) N (psG_len _ _ _).symm (psG_bd _ _ _ hC)
  obtain ⟨s1, s2, s3⟩ := gni_step hcv h.g he
  have eW : gnW (pAt (psG S (allC S t) N)) N (cvG S (allC S t) O) = mbI (hkG S L) N := mbI_ext fun j hj => riG_gF hC h j hj
  rw [eW] at s1 s3
  have eC : gnC (pAt (psG S (allC S t) N)) N (cvG S (allC S t) O) = cvG S (allC S t) (O ++ [((mbI (hkG S L) N : Nat) : Int)]) := by
    funext u
    unfold gnC
    rw [eW, psG_at _ _ _ _ s1]
    unfold cvG chP
    rw [anyG_snoc]
    cases decide (u < (allC S t).length) <;> simp
  rw [eC] at s3
  refine ⟨s1, ?_, s3, ?_⟩
  · have := gni_len s3
    rw [List.length_append] at this
    exact this
  · rw [h.l, List.filter_filter]
    congr 1
    funext c
    rw [anyG_snoc, Bool.not_or, Bool.and_comm]

theorem eR10_nilG (S : List Int) (t : Int) : eR10 S [] t = eC10 S t := by
  rcases h' : isSp S with _ | _
  · rw [eR10_inv h', eC10_inv h']
  · exact eR10_ok h' ⟨(okW_iff S [] _).2 (fun i hi => by simp at hi), by simp⟩
/-- the greedy rows and their error -/
def vGu (S : List Int) (t : Int) : List Int := if eC10 S t = 0 then upV (psG S (allC S t.toNat) (nW S).toNat) (nW S).toNat 200 else []
def eGu (S : List Int) (t : Int) : Int := if eC10 S t = 0 then upE (psG S (allC S t.toNat) (nW S).toNat) (nW S).toNat 200 else eC10 S t
theorem vGu_len (S : List Int) (t : Int) : (vGu S t).length ≤ 1024 := by
  unfold vGu upV
  split
  · split
    · omega
    · simp
  · simp
theorem eGu_bd (S : List Int) (t : Int) : 0 ≤ eGu S t ∧ eGu S t ≤ 3 := by
  unfold eGu upE eC10
  split
  · split <;> omega
  · split
    · split <;> omega
    · omega

end Go.Proofs.Ytgaelpcghljihaa
