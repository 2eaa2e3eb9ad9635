/-
  Merged texts: Cho10, Chs10, Pua10, Cse10. Never import this beside one of them. By an AI agent.
-/
import Derived.Test.YtpmfedllbiblbaaGreatPkMisA
import Derived.StillTailTactics
import Derived.Deep.WholeRow
import Derived.Test.YtpmfedllbiblbaaGreatPk34
import Derived.Test.YtpmfedllbiblbaaGreatPkParts
namespace Go.Proofs.YtpmfedllbiblbaaGreat
open Go.RowKit Cv
set_option linter.unusedVariables false
set_option linter.unusedSimpArgs false
set_option maxRecDepth 100000

/-- the choice of t places in a list -/
def chV (ao : Option Addr) (n cap g o t d cd : Nat) : Value := .agg #[.slice ao n cap, .slice (some ⟨g, o, none⟩) t t, .slice (some ⟨g, o + t, none⟩) d cd]

theorem infoCh : (Tryz.prog.info? 64).map (·.size) = some 3 := by kernel_rfl
theorem grown_setRowC {w : World} {b : Nat} (q : Array Value) : w.grownBy (w.setRow b q) (some b) :=
  ⟨rfl, rfl, rfl, by simp, fun i hi hne => setRow_other w b i q (by simpa using hne)⟩

set_option maxHeartbeats 2000000 in
theorem choiceOf_any (ao : Option Addr) (n cap g o m c t : Nat) (h0 : 0 < t) (hm : m / 2 = t) (hmc : m ≤ c) (hm9 : m ≤ 4294967296) (hc : c ≤ 9223372036854775807) (w : World) :
    Calls Tryz.prog 65 #[.agg #[.slice ao n cap], .slice (some ⟨g, o, none⟩) m c] w fun e w' => e = .returned (chV ao n cap g o t (m - t) (c - t)) ∧ Below w.heap.size w w' := by
  have e2 : (m : Int).tdiv 2 = (t : Int) := by rw [Int.tdiv_eq_ediv_of_nonneg (by omega)]; omega
  have htm : t ≤ m := by omega
  have htc : t ≤ c := by omega
  have htc2 : ¬ c = t := by omega
  have htcI : (t : Int) ≤ (c : Int) := by omega
  have htmI : (t : Int) ≤ (m : Int) := by omega
  have HM := Lib.hid hm
  obtain ⟨W, hW⟩ : ∃ W, W = (w.alloc (.cells #[.slice ao n cap] 26)).alloc (.cells #[.slice none 0 0, .slice none 0 0, .slice none 0 0] 64) := ⟨_, rfl⟩
  have B0 : Below w.heap.size w W := by rw [hW]; go_grown
  have c0 : W.cell? ⟨w.heap.size, 0, none⟩ = some (.slice ao n cap) := by
    rw [hW]; exact kept_cell ((Below.refl _ (w.alloc (.cells #[.slice ao n cap] 26))).alloc (Nat.le_refl _) _) (cell_new _ _ _) (by simp)
  have r1 : W.heap[w.heap.size + 1]? = some (.cells #[.slice none 0 0, .slice none 0 0, .slice none 0 0] 64 (0, 0)) := by
    have e : (w.alloc (.cells #[.slice ao n cap] 26)).heap.size = w.heap.size + 1 := by simp
    rw [hW, ← e]; exact heap_alloc_new _ _
  have HW := Lib.hid hW
  clear hW hm
  go_enter Tryz.func65, Tryz.ntmps65
  go_wp2_with fail
  rw [← HW.out]
  go_still_tail 9, (by kernel_rfl)
  change wpList _ _ _ _ _ W.drew
  refine wpList_store_row rfl _ _ _ rfl (w.heap.size + 1) _ rfl rfl 64 _ r1 infoCh rfl (by simp [Value.oneCell']) ?_
  have hg : W.drew.grownBy (W.drew.setRow (w.heap.size + 1) #[.slice ao n cap, .slice (some ⟨g, o, none⟩) t t, .slice (some ⟨g, o + t, none⟩) (m - t) (c - t)]) (some (w.heap.size + 1)) := grown_setRowC _
  have B1 := B0.drew.grown hg (by have := B0.size; exact this) (fun j e => by cases e; omega)
  have r2 : (W.drew.setRow (w.heap.size + 1) #[.slice ao n cap, .slice (some ⟨g, o, none⟩) t t, .slice (some ⟨g, o + t, none⟩) (m - t) (c - t)]).heap[w.heap.size + 1]? = some (.cells #[.slice ao n cap, .slice (some ⟨g, o, none⟩) t t, .slice (some ⟨g, o + t, none⟩) (m - t) (c - t)] 64 (0, 0)) := setRow_heap W.drew (w.heap.size + 1) _ _ _ _ r1
  clear c0 hg
  go_wp2_with fail
  refine bodyPost_ret (v := chV ao n cap g o t (m - t) (c - t)) (results_cell_row (P := Tryz.prog) rfl _ _ (w.heap.size + 1) _ _ _ _ rfl r2 Tryz.underlying64 rfl infoCh) rfl ?_
  exact ⟨rfl, B1⟩

set_option maxHeartbeats 2000000 in
theorem isIn_any (ao : Option Addr) (n cap g o t cd gD oD nD cD : Nat) (c D : List Int) (hn8 : nD ≤ 8) (hDl : D.length = nD) (hcl : c.length = 2 * t) (h0 : 0 < t) (ht3 : t ≤ 3) (hcb : ∀ k, k < t → 0 ≤ gi c k ∧ gi c k < nD) (w : World) (hD : Ints w (some ⟨gD, oD, none⟩) D) (hc : Ints w (some ⟨g, o, none⟩) c) :
    Calls Tryz.prog 66 #[chV ao n cap g o t t cd, .slice (some ⟨gD, oD, none⟩) nD cD] w fun e w' => e = .returned (.bool (hasC D c)) ∧ Below w.heap.size w w' := by
  have HX : Hid (hasC D c = hcTo D c t t) := Lib.hid (by unfold hasC; rw [hcl, Nat.mul_div_cancel_left _ (by omega)])
  have HC : Hid (∀ k, k < t → ∃ p : Nat, gi c k = (p : Int) ∧ p < nD ∧ gD < w.heap.size ∧ g < w.heap.size ∧ w.cell? ⟨g, o + k, none⟩ = some (.int .i64 (p : Int)) ∧ w.cell? ⟨gD, oD + p, none⟩ = some (.int .i64 (gi D p)) ∧ w.cell? ⟨g, o + t + k, none⟩ = some (.int .i64 (gi c (t + k)))) := Lib.hid fun k hk => by
    have h := hcb k hk
    obtain ⟨b, o, he, hb, hcc⟩ := hc.at (show k < c.length by omega)
    cases he
    obtain ⟨b, o, he, hbD, hDD⟩ := hD.at (show (gi c k).toNat < D.length by omega)
    cases he
    have h1 := hcc k (by omega)
    have h2 := hcc (t + k) (by omega)
    have h3 := hDD (gi c k).toNat (by omega)
    rw [← Nat.add_assoc] at h2
    exact ⟨(gi c k).toNat, by omega, by omega, hbD, hb, by rw [h1]; congr 2; omega, h3, h2⟩
  have HN := Lib.hid fun k => @hcTo_no D c t k
  obtain ⟨W, hW⟩ : ∃ W, W = w.alloc (.cells #[.slice ao n cap, .slice (some ⟨g, o, none⟩) t t, .slice (some ⟨g, o + t, none⟩) t cd] 64) := ⟨_, rfl⟩
  have B0 : Below w.heap.size w W := by rw [hW]; go_grown
  have r0 : W.heap[w.heap.size]? = some (.cells #[.slice ao n cap, .slice (some ⟨g, o, none⟩) t t, .slice (some ⟨g, o + t, none⟩) t cd] 64 (0, 0)) := by rw [hW]; exact heap_alloc_new _ _
  have c1 : W.cell? ⟨w.heap.size, 1, none⟩ = some (.slice (some ⟨g, o, none⟩) t t) := by rw [cell_of_row W _ 1 _ _ _ r0]; rfl
  have c2 : W.cell? ⟨w.heap.size, 2, none⟩ = some (.slice (some ⟨g, o + t, none⟩) t cd) := by rw [cell_of_row W _ 2 _ _ _ r0]; rfl
  have l0 : w.heap.size < W.heap.size := (Array.getElem?_eq_some_iff.1 r0).1
  have HW := Lib.hid hW
  clear hcb hD hc hW r0
  unfold chV
  go_enter Tryz.func66, Tryz.ntmps66
  go_wp2_with fail
  rw [← HW.out]
  go_wp2_with fail
  go_loopw [10] (fun x wr => ∃ k : Nat, k ≤ t ∧ x = .int .i64 (k : Int) ∧ Hid (hcTo D c t k = true) ∧ Below W.heap.size W wr) (fun x _ => t - (intOf x).toNat)
  case atStart => exact ⟨0, Nat.zero_le _, rfl, Lib.hid rfl, Below.refl _ _⟩
  case round =>
    obtain ⟨k, hk, rfl, HK, B⟩ := hrel
    have B9 := B0.trans (B.mono B0.size)
    by_cases hlt : k < t
    · have hkI : (k : Int) < (t : Int) := by omega
      obtain ⟨p, hp, hpn, l1, l2, k1, k2, k3⟩ := HC.out k hlt
      have hpI : (p : Int) < (nD : Int) := by omega
      have hp0 : (0 : Int) ≤ (p : Int) := by omega
      have HQ : Hid (gi D (gi c k).toNat = gi D p) := Lib.hid (by rw [hp, Int.toNat_natCast])
      obtain ⟨x, hx⟩ : ∃ x, x = gi D p := ⟨_, rfl⟩
      obtain ⟨y, hy⟩ : ∃ y, y = gi c (t + k) := ⟨_, rfl⟩
      rw [← hx] at k2 HQ
      rw [← hy] at k3
      have HY := Lib.hid hy
      clear hx hy hp
      replace k1 := kept_cell B9 k1 l2
      replace k2 := kept_cell B9 k2 l1
      replace k3 := kept_cell B9 k3 l2
      have c2r := kept_cell B c2 l0
      by_cases hxy : x = y
      · have HS : Hid (hcTo D c t (k + 1) = true) := Lib.hid (by rw [hcTo, HK.out, HQ.out, ← HY.out, hxy]; simp)
        subst hxy
        go_wp2_with fail
        go_quiet (fail)
        go_wp2_with fail
        go_roundw
        case rel => exact ⟨k + 1, by omega, by go_num, HS, below_drewN B _⟩
        case measure => simp [intOf]; omega
      · have hb : (x != y) = true := by simpa using hxy
        have HF : Hid (hasC D c = false) := Lib.hid (by rw [HX.out]; exact HN.out k (by rw [HQ.out, ← HY.out]; simpa using hxy) t hlt)
        clear hxy
        go_wp2_with fail
        go_quiet (fail)
        go_wp2_with fail
        go_ret
        exact ⟨ret_bool HF.out.symm, below_drewN B9 _⟩
    · have hkI : ¬ (k : Int) < (t : Int) := by omega
      have HF : Hid (hasC D c = true) := Lib.hid (by rw [HX.out, ← HK.out, show k = t by omega])
      go_wp2_with fail
      go_ret
      exact ⟨ret_bool HF.out.symm, B9⟩

end Go.Proofs.YtpmfedllbiblbaaGreat

namespace Go.Proofs.YtpmfedllbiblbaaGreat
open Go.RowKit Cv
set_option linter.unusedVariables false
set_option linter.unusedSimpArgs false
set_option maxRecDepth 100000

/-- three cells of a choice -/
structure Ch3 where
  a : Value
  b : Value
  c : Value
def Ch3.arr (x : Ch3) : Array Value := #[x.a, x.b, x.c]
def Ch3.z : Ch3 := ⟨.slice none 0 0, .slice none 0 0, .slice none 0 0⟩
def Ch3.one (x : Ch3) : Prop := x.arr.all (·.oneCell') = true
/-- the choice at an offset of a list -/
def chX (ao : Option Addr) (n cap g t : Nat) (o : Nat) : Ch3 := ⟨.slice ao n cap, .slice (some ⟨g, o, none⟩) t t, .slice (some ⟨g, o + t, none⟩) t t⟩
theorem chX_one (ao : Option Addr) (n cap g t o : Nat) : (chX ao n cap g t o).one := by simp [Ch3.one, Ch3.arr, chX, Value.oneCell']
def cellsX (X : List Ch3) : List Value := X.flatMap fun x => x.arr.toList
theorem cellsX_len (X : List Ch3) : (cellsX X).length = X.length * 3 := by
  induction X with
  | nil => rfl
  | cons p X ih => rw [cellsX, List.flatMap_cons, List.length_append, ← cellsX, ih]; simp [Ch3.arr]; omega
theorem cellsX_snoc (X : List Ch3) (p : Ch3) : cellsX (X ++ [p]) = cellsX X ++ p.arr.toList := by simp [cellsX]
def xAt (X : List Ch3) (j : Nat) : Ch3 := X.getD j Ch3.z
theorem cellsX_get (L : List Ch3) (i : Nat) (h : i < L.length * 3) : (cellsX L)[i]? = (xAt L (i / 3)).arr[i % 3]? := by
  induction L generalizing i with
  | nil => simp at h
  | cons p L ih =>
    rw [cellsX, List.flatMap_cons, ← cellsX]
    have hp : p.arr.toList.length = 3 := by simp [Ch3.arr]
    by_cases h16 : i < 3
    · rw [List.getElem?_append_left (by omega), Nat.div_eq_of_lt h16, Nat.mod_eq_of_lt h16]; simp [xAt]
    · rw [List.getElem?_append_right (by omega), hp, ih (i - 3) (by simp at h; omega)]
      have e1 : i / 3 = (i - 3) / 3 + 1 := by omega
      have e2 : i % 3 = (i - 3) % 3 := by omega
      rw [e1, e2]; simp [xAt]
theorem xAt_set (L : List Ch3) (j i : Nat) (p : Ch3) (hj : j < L.length) : xAt (L.set j p) i = if i = j then p else xAt L i := by
  unfold xAt
  by_cases e : i = j
  · subst e; simp [List.getD, hj]
  · rw [if_neg e]; simp [List.getD, List.getElem?_set_ne (Ne.symm e)]
def OwnXs (w : World) (base : Nat) (v : Value) (X : List Ch3) : Prop := w.ownsRow base 64 3 v X.length (cellsX X)
theorem infoCh3 : (Tryz.prog.info? 64).map (fun i => (i.zero, i.size, i.bytes)) = some (some (.agg Ch3.z.arr), 3, 72) := by kernel_rfl
theorem OwnXs.below {w w' : World} {base : Nat} {v : Value} {X : List Ch3} (h : OwnXs w base v X) (hb : Below w.heap.size w w') : OwnXs w' base v X := by
  obtain ⟨h1, h2⟩ := h
  refine ⟨h1, ?_⟩
  rcases h2 with h2 | ⟨g, cap, cur, hv, hg, hh, r⟩
  · exact Or.inl h2
  · exact Or.inr ⟨g, cap, cur, hv, hg, by rw [hb.block g (Array.getElem?_eq_some_iff.1 hh).1]; exact hh, r⟩
theorem OwnXs.alloc {w : World} {base : Nat} {v : Value} {X : List Ch3} (h : OwnXs w base v X) (o : Obj) : OwnXs (w.alloc o) base v X := World.ownsRow.alloc h o
theorem OwnXs.kept {w w' : World} {base : Nat} {v : Value} {X : List Ch3} {row : Option Nat} (h : OwnXs w base v X) (hg : w.grownBy w' row) (hne : v.ownBlock = none ∨ v.ownBlock ≠ row) : OwnXs w' base v X := World.ownsRow.kept h hg hne
theorem OwnXs.shape {w : World} {base : Nat} {v : Value} {X : List Ch3} (h : OwnXs w base v X) : ∃ a c, v = .slice a X.length c := by
  rcases h.2 with ⟨hv, hn⟩ | ⟨g, cap, cur, hv, _⟩
  · exact ⟨none, 0, by rw [hn]; exact hv⟩
  · exact ⟨_, _, hv⟩
theorem OwnXs.base_le {w : World} {base g n c : Nat} {L : List Ch3} (h : OwnXs w base (.slice (some ⟨g, 0, none⟩) n c) L) : base ≤ g ∧ g < w.heap.size := World.ownsRow.lt h g rfl
theorem OwnXs.rebase {w : World} {base base' : Nat} {v : Value} {X : List Ch3} (h : OwnXs w base v X) (hb : base' ≤ base) : OwnXs w base' v X := by
  obtain ⟨h1, h2⟩ := h
  refine ⟨h1, ?_⟩
  rcases h2 with h2 | ⟨g, cap, cur, hv, hg, r⟩
  · exact Or.inl h2
  · exact Or.inr ⟨g, cap, cur, hv, by omega, r⟩
theorem OwnXs.cells {w : World} {base g n c : Nat} {L : List Ch3} (h : OwnXs w base (.slice (some ⟨g, 0, none⟩) n c) L) (j : Nat) (hj : j < L.length) : w.cell? ⟨g, j * 3, none⟩ = some (xAt L j).a ∧ w.cell? ⟨g, j * 3 + 1, none⟩ = some (xAt L j).b ∧ w.cell? ⟨g, j * 3 + 2, none⟩ = some (xAt L j).c := by
  rcases h.2 with ⟨hv, _⟩ | ⟨g', c', cur, hv, hb, hh, hle, hm, hs, ht⟩
  · simp at hv
  · simp only [Value.slice.injEq, Option.some.injEq, Addr.mk.injEq, and_true, true_and] at hv
    obtain ⟨rfl, rfl, rfl⟩ := hv
    have hk : ∀ k, k < 3 → w.cell? ⟨g, j * 3 + k, none⟩ = (xAt L j).arr[k]? := fun k hk => by
      have h1 := cellsX_get L (j * 3 + k) (by omega)
      rw [← ht, List.getElem?_take_of_lt (by omega), show (j * 3 + k) / 3 = j by omega, show (j * 3 + k) % 3 = k by omega] at h1
      rw [cell_of_row w g _ _ _ _ hh]
      simpa using h1
    exact ⟨hk 0 (by omega), hk 1 (by omega), hk 2 (by omega)⟩
theorem OwnXs.free {w : World} {base g n c : Nat} {L : List Ch3} (h : OwnXs w base (.slice (some ⟨g, 0, none⟩) n c) L) (k : Nat) : w.frozen? ⟨g, k, none⟩ = false := by
  rcases h.2 with ⟨hv, _⟩ | ⟨g', c', cur, hv, hb, hh, _⟩
  · simp at hv
  · simp only [Value.slice.injEq, Option.some.injEq, Addr.mk.injEq, and_true, true_and] at hv
    obtain ⟨rfl, rfl, rfl⟩ := hv
    exact frozen_of_row w g k _ _ hh
/-- a store of a choice into the list -/
theorem OwnXs.stored {w : World} {base g n c : Nat} {L : List Ch3} (h : OwnXs w base (.slice (some ⟨g, 0, none⟩) n c) L) (j : Nat) (hj : j < L.length) (p : Ch3) (hp1 : p.one) :
    ∃ w2, (storeVar 64 ⟨g, j * 3, none⟩ (.agg p.arr)).run Tryz.prog w = .ok () w2 ∧ OwnXs w2 base (.slice (some ⟨g, 0, none⟩) n c) (L.set j p) ∧ w.grownBy w2 (some g) := by
  obtain ⟨h1, h2⟩ := h
  rcases h2 with ⟨hv, _⟩ | ⟨g', c', cur, hv, hb, hh, hle, hm, hs, ht⟩
  · simp at hv
  · simp only [Value.slice.injEq, Option.some.injEq, Addr.mk.injEq, and_true, true_and] at hv
    obtain ⟨rfl, rfl, rfl⟩ := hv
    have hlen : p.arr.toList.length = 3 := by simp [Ch3.arr]
    have hr := run_storeCells_mid g 64 p.arr.toList (j * 3) 0 cur w hh (by rw [hlen]; omega) (fun v hv => (Array.all_eq_true_iff_forall_mem.1 hp1) v (by simpa using hv))
    refine ⟨w.setRow g (putCells cur (j * 3) p.arr.toList), ?_, ⟨?_, .inr ⟨g, c, putCells cur (j * 3) p.arr.toList, by simp, hb, setRow_heap w g _ _ _ _ hh, by simpa using hle, hm, by rw [putCells_size, hs], ?_⟩⟩, grown_setRowC _⟩
    · cases hq : Tryz.prog.info? 64 with
      | none => have := infoCh; simp [hq] at this
      | some i =>
        have hsz : i.size = 3 := by have := infoCh; simpa [hq] using this
        have hsz2 : p.arr.size = 3 := rfl
        simp only [Nat.add_zero] at hr
        simp [storeVar, sizeOf, typeInfo, hq, Value.cells, hsz, hsz2, hr]
    · rw [cellsX_len]
    · apply List.ext_getElem?
      intro i
      by_cases hi : i < L.length * 3
      · rw [List.getElem?_take_of_lt (by simpa using hi), cellsX_get _ _ (by simpa using hi), Array.getElem?_toList, putCells_get _ _ _ (by rw [hlen]; omega), hlen, xAt_set _ _ _ _ hj]
        by_cases e : j * 3 ≤ i ∧ i < j * 3 + 3
        · rw [if_pos e, if_pos (by omega), show i % 3 = i - j * 3 by omega]; simp
        · rw [if_neg e, if_neg (by omega), ← cellsX_get _ _ hi, ← ht, List.getElem?_take_of_lt hi, Array.getElem?_toList]
      · rw [List.getElem?_eq_none (by simp [putCells_size]; omega), List.getElem?_eq_none (by rw [cellsX_len]; simp; omega)]
theorem own_madeXs {w : World} {base : Nat} {v : Value} {n : Nat} (h : w.ownsRow base 64 3 v n (madeCells (Value.agg Ch3.z.arr).cells (n * 3)).toList) : OwnXs w base v (List.replicate n Ch3.z) := by
  unfold OwnXs
  rw [List.length_replicate]
  have e : (madeCells (Value.agg Ch3.z.arr).cells (n * 3)).toList = cellsX (List.replicate n Ch3.z) := by
    apply List.ext_getElem?
    intro i
    by_cases hi : i < n * 3
    · rw [cellsX_get _ _ (by simpa using hi)]
      have e1 : xAt (List.replicate n Ch3.z) (i / 3) = Ch3.z := by
        unfold xAt; rw [List.getD_eq_getElem?_getD, List.getElem?_replicate]; split <;> rfl
      rw [e1, Array.getElem?_toList]
      have hz : Ch3.z.arr.size = 3 := rfl
      have h16 : i % 3 < Ch3.z.arr.size := by rw [hz]; omega
      simp only [madeCells, Value.cells, hz, Array.getElem?_map, Array.getElem?_range]
      rw [if_pos hi, Option.map_some, getElem!_pos Ch3.z.arr (i % 3) h16, Array.getElem?_eq_getElem h16]
    · rw [List.getElem?_eq_none (by simp [size_madeCells]; omega), List.getElem?_eq_none (by rw [cellsX_len]; simp; omega)]
  rw [← e]; exact h
theorem wp_stX {o : Oper} {a : Act} {w w3 : World} {K : Act → World → Prop} {Q : Exit → Act → World → Prop} {g q : Nat} {p : Ch3} (x y : Operand) (ho : o.op = .store 64 x y) (hx : a.eval x = .pointer (some ⟨g, q, none⟩)) (hy : a.eval y = .agg p.arr)
    (hst : (storeVar 64 ⟨g, q, none⟩ (.agg p.arr)).run Tryz.prog w = .ok () w3) (h : K (a.put o.dst undef) w3) : o.wp Tryz.prog a w K Q := by
  unfold Oper.wp execOp
  simp only [ho, hx, hy, Instr.storeAt, Instr.sureAddr, Sem.run_bind, Sem.run_pure, Result.andThen_ok, hst]
  exact h
end Go.Proofs.YtpmfedllbiblbaaGreat

namespace Go.Proofs.YtpmfedllbiblbaaGreat
open Go.RowKit Cv
set_option linter.unusedVariables false
set_option linter.unusedSimpArgs false
set_option maxRecDepth 100000

theorem putAt_any (g q : Nat) (p : Nat → Bool) (u : Nat) (hu : u < 1024) (w : World) (hc : w.cell? ⟨g, q + u / 64, none⟩ = some (.int .u64 (partN p (u / 64)))) (hf : w.frozen? ⟨g, q + u / 64, none⟩ = false) :
    Calls Tryz.prog 82 #[.pointer (some ⟨g, q, none⟩), .int .i64 u] w fun e w' => e = .returned (.tuple #[]) ∧ w' = (w.setCell ⟨g, q + u / 64, none⟩ (.int .u64 (partN (putB p u) (u / 64)))).drew := by
  have hc' : w.drew.cell? ⟨g, q + u / 64, none⟩ = some (.int .u64 (partN p (u / 64))) := hc
  have hf' : w.drew.frozen? ⟨g, q + u / 64, none⟩ = false := hf
  have w1 : IntKind.i64.wrap ((u : Int) / 64) = (u : Int) / 64 := IntWalk.i64_in _ ⟨by omega, by omega⟩
  have w2 : IntKind.i64.wrap ((u : Int) % 64) = (u : Int) % 64 := IntWalk.i64_in _ ⟨by omega, by omega⟩
  go_enter Tryz.func82, Tryz.ntmps82
  go_region
  all_goals (go_wp2; go_end0)
  refine ⟨rfl, ?_⟩
  rw [part_put1 p u]
theorem OwnSets.putAt {w : World} {base g n c : Nat} {L : List (Nat → Bool)} (h : OwnSets w base (.slice (some ⟨g, 0, none⟩) n c) L) (k : Nat) (hk : k < L.length) (u : Nat) (hu : u < 1024) :
    OwnSets (w.setCell ⟨g, k * 16 + u / 64, none⟩ (.int .u64 (partN (putB (pAt L k) u) (u / 64)))) base (.slice (some ⟨g, 0, none⟩) n c) (L.set k (putB (pAt L k) u)) := by
  obtain ⟨h1, h2⟩ := h
  rcases h2 with ⟨hv, _⟩ | ⟨g', c', cur, hv, hb, hh, hle, hm, hs, ht⟩
  · simp at hv
  · simp only [Value.slice.injEq, Option.some.injEq, Addr.mk.injEq, and_true, true_and] at hv
    obtain ⟨rfl, rfl, rfl⟩ := hv
    refine ⟨by rw [cellsP_len], .inr ⟨g, c, cur.setIfInBounds (k * 16 + u / 64) (.int .u64 (partN (putB (pAt L k) u) (u / 64))), by simp, hb, heap_setCell_same w g _ _ _ _ hh, by simpa using hle, hm, by rw [Array.size_setIfInBounds, hs], ?_⟩⟩
    apply List.ext_getElem?
    intro i
    by_cases hi : i < L.length * 16
    · rw [List.getElem?_take_of_lt (by simpa using hi), cellsP_get _ _ (by simpa using hi), Array.getElem?_toList, pAt_set _ _ _ _ hk]
      have hold : cur[i]? = (setA (pAt L (i / 16)))[i % 16]? := by
        rw [← cellsP_get _ _ hi, ← ht, List.getElem?_take_of_lt hi, Array.getElem?_toList]
      by_cases e : i / 16 = k
      · rw [if_pos e, ← setA_put (pAt L k) u hu]
        by_cases e2 : i % 16 = u / 64
        · have : i = k * 16 + u / 64 := by omega
          subst this
          rw [e2, Array.getElem?_setIfInBounds_self_of_lt (show k * 16 + u / 64 < cur.size by rw [hs]; omega), Array.getElem?_setIfInBounds_self_of_lt (by rw [setA_size]; omega)]
        · rw [Array.getElem?_setIfInBounds_ne (fun h => e2 h.symm), Array.getElem?_setIfInBounds_ne (by omega), hold, e]
      · rw [if_neg e, Array.getElem?_setIfInBounds_ne (by omega), hold]
    · rw [List.getElem?_eq_none (by simp; omega), List.getElem?_eq_none (by rw [cellsP_len]; simp; omega)]
theorem OwnSets.free {w : World} {base g n c : Nat} {L : List (Nat → Bool)} (h : OwnSets w base (.slice (some ⟨g, 0, none⟩) n c) L) (k : Nat) : w.frozen? ⟨g, k, none⟩ = false := by
  rcases h.2 with ⟨hv, _⟩ | ⟨g', c', cur, hv, hb, hh, _⟩
  · simp at hv
  · simp only [Value.slice.injEq, Option.some.injEq, Addr.mk.injEq, and_true, true_and] at hv
    obtain ⟨rfl, rfl, rfl⟩ := hv
    exact frozen_of_row w g k _ _ hh

/-- choices of t places in memory -/
def ChMem (w : World) (ao : Option Addr) (n cap gx : Nat) (C : List (List Int)) (t : Nat) : Prop :=
  ∀ j, j < C.length → gx < w.heap.size ∧ ∃ g o, (w.cell? ⟨gx, j * 3, none⟩ = some (chX ao n cap g t o).a ∧ w.cell? ⟨gx, j * 3 + 1, none⟩ = some (chX ao n cap g t o).b ∧ w.cell? ⟨gx, j * 3 + 2, none⟩ = some (chX ao n cap g t o).c) ∧ Ints w (some ⟨g, o, none⟩) (rr C j)
theorem ChMem.below {w w' : World} {ao : Option Addr} {n cap gx : Nat} {C : List (List Int)} {t : Nat} (h : ChMem w ao n cap gx C t) (hb : Below w.heap.size w w') : ChMem w' ao n cap gx C t := fun j hj => by
  obtain ⟨h1, g, o, ⟨h2, h3, h4⟩, h5⟩ := h j hj
  exact ⟨lt_of_below hb h1, g, o, ⟨kept_cell hb h2 h1, kept_cell hb h3 h1, kept_cell hb h4 h1⟩, h5.below hb⟩
theorem ChMem.all {w : World} {ao : Option Addr} {n cap gx g nF cF base base' N : Nat} {C : List (List Int)} {t : Nat} (hN : N = C.length) (hC : ∀ c, c ∈ C → c.length = 2 * t) (hX : OwnXs w base (.slice (some ⟨gx, 0, none⟩) N N) ((List.range N).map fun j => chX ao n cap g t (j * (2 * t)))) (hF : OwnInts w base' (.slice (some ⟨g, 0, none⟩) nF cF) C.flatten) (hfl : ∀ k j, k < C.length → j < 2 * t → k * (2 * t) + j < C.flatten.length ∧ gi C.flatten (k * (2 * t) + j) = gi (rr C k) j) : ChMem w ao n cap gx C t := fun j hj => by
  subst hN
  have hc := hX.cells j (by simpa using hj)
  have e : xAt ((List.range C.length).map fun j => chX ao n cap g t (j * (2 * t))) j = chX ao n cap g t (j * (2 * t)) := by simp [xAt, hj]
  rw [e] at hc
  refine ⟨hX.base_le.2, g, j * (2 * t), hc, .inr ⟨g, j * (2 * t), rfl, hF.base_le.2, fun i hi => ?_⟩⟩
  have hl : (rr C j).length = 2 * t := hC _ (by unfold rr; rw [List.getD, List.getElem?_eq_getElem hj]; exact List.getElem_mem _)
  obtain ⟨f1, f2⟩ := hfl j i hj (by omega)
  rw [hF.cell f1, f2]

end Go.Proofs.YtpmfedllbiblbaaGreat

namespace Go.Proofs.YtpmfedllbiblbaaGreat
open Go.RowKit Cv
set_option linter.unusedVariables false
set_option linter.unusedSimpArgs false
set_option maxRecDepth 100000

/-- which of the first i choices a row has -/
def chP (D : List Int) (C : List (List Int)) (i : Nat) : Nat → Bool := fun u => decide (u < i) && hasC D (rr C u)
theorem chP_0 (D : List Int) (C : List (List Int)) : chP D C 0 = fun _ => false := by funext u; simp [chP]
theorem chP_yes {D : List Int} {C : List (List Int)} {i : Nat} (h : hasC D (rr C i) = true) : putB (chP D C i) i = chP D C (i + 1) := by
  funext u
  unfold putB chP
  by_cases e : u = i
  · subst e; simp [h]
  · simp only [e, decide_false, Bool.or_false]
    congr 1
    exact decide_eq_decide.2 (by omega)
theorem chP_no {D : List Int} {C : List (List Int)} {i : Nat} (h : hasC D (rr C i) = false) : chP D C i = chP D C (i + 1) := by
  funext u
  unfold chP
  by_cases e : u = i
  · subst e; simp [h]
  · congr 1
    exact decide_eq_decide.2 (by omega)
def chSets (S : List Int) (C : List (List Int)) (R : List Int) : List (Nat → Bool) := R.map fun x => chP (digs S x) C C.length
theorem chSets_len (S : List Int) (C : List (List Int)) (R : List Int) : (chSets S C R).length = R.length := by simp [chSets]
theorem pAt_chSets (S : List Int) (C : List (List Int)) (R : List Int) (j : Nat) (h : j < R.length) : pAt (chSets S C R) j = chP (digs S (gi R j)) C C.length := by
  simp [pAt, chSets, gi, h]
theorem sets_ext {X Y : List (Nat → Bool)} (h : X.length = Y.length) (g : ∀ j, j < X.length → pAt X j = pAt Y j) : X = Y := by
  refine List.ext_getElem h fun i h1 h2 => ?_
  have := g i h1
  simpa [pAt, List.getD, List.getElem?_eq_getElem h1, List.getElem?_eq_getElem h2] using this
theorem cell_heapS {w w' : World} {b : Nat} (h : w'.heap[b]? = w.heap[b]?) (o : Nat) : w'.cell? ⟨b, o, none⟩ = w.cell? ⟨b, o, none⟩ := by
  simp only [World.cell?, h]
theorem ints_heapS {w w' : World} {b o : Nat} {T : List Int} (h : Ints w (some ⟨b, o, none⟩) T) (hk : w'.heap[b]? = w.heap[b]?) (hl : b < w'.heap.size) : Ints w' (some ⟨b, o, none⟩) T := by
  rcases h with h | ⟨b', o', he, hlt, hc⟩
  · exact .inl h
  · simp only [Option.some.injEq, Addr.mk.injEq, and_true] at he
    obtain ⟨rfl, rfl⟩ := he
    exact .inr ⟨_, _, rfl, hl, fun i hi => (cell_heapS hk _).trans (hc i hi)⟩

set_option maxHeartbeats 4000000 in
theorem choiceSets_any (ao : Option Addr) (S : List Int) (cap : Nat) (hSp : Sp S) (ar : Option Addr) (R : List Int) (capr : Nat) (hRl : R.length ≤ 1048576) (hR : ∀ i, i < R.length → 0 ≤ gi R i ∧ gi R i < nW S) (gx cx n2 cap2 t : Nat) (a2 : Option Addr) (C : List (List Int)) (ht1 : 0 < t) (ht3 : t ≤ 3) (hCl : C.length ≤ 1024) (hC : IsCs S.length t C) (w : World) (hS : Ints w ao S) (hRI : Ints w ar R) (hCM : ChMem w a2 n2 cap2 gx C t) :
    Calls Tryz.prog 40 #[.agg #[.slice ao S.length cap], .slice ar R.length capr, .slice (some ⟨gx, 0, none⟩) C.length cx] w fun e w' => ∃ g, e = .returned (.slice (some ⟨g, 0, none⟩) R.length R.length) ∧ OwnSets w' w.heap.size (.slice (some ⟨g, 0, none⟩) R.length R.length) (chSets S C R) ∧ Below w.heap.size w w' := by
  have HSp := Lib.hid hSp
  have HCM := Lib.hid hCM
  have HC := Lib.hid hC
  have hn8 := hSp.hi
  have hn1 := hSp.lo
  have HD : Hid (∀ i, i < R.length → 0 ≤ gi R i ∧ gi R i ≤ 9223372036854775807) := Lib.hid fun i hi => by have := hR i hi; have := nW_bd hSp; omega
  obtain ⟨K, hK⟩ : ∃ K, K = R.length := ⟨_, rfl⟩
  obtain ⟨NC, hNC⟩ : ∃ NC, NC = C.length := ⟨_, rfl⟩
  have HKl := Lib.hid hK
  have HNC := Lib.hid hNC
  rw [← hK] at hRl ⊢
  rw [← hNC] at hCl ⊢
  clear hSp hCM hC hR hK hNC
  obtain ⟨i0, hi, hz0, hz1, hz2⟩ := info_parts infoSet
  have B0 : Below w.heap.size w (w.alloc (.cells #[.slice ao S.length cap] 26)) := by go_grown
  have c0 := cell_new w (.slice ao S.length cap) 26
  have l0 := lt_alloc w (.cells #[.slice ao S.length cap] 26)
  obtain ⟨W, hW⟩ : ∃ W, W = w.alloc (.cells #[.slice ao S.length cap] 26) := ⟨_, rfl⟩
  rw [← hW] at B0 c0 l0
  have HW := Lib.hid hW
  clear hW
  go_enter Tryz.func40, Tryz.ntmps40
  go_wp2_with (first | (at_make; refine wpList_make_full _ rfl _ _ 55 rfl W.heap.size 68 i0 (.agg (setA fun _ => false)) 16 Tryz.underlying55 hi hz0 hz1 .i64 .i64 (K : Int) (K : Int) K rfl rfl rfl rfl (by rw [hz2]; omega) (by unfold maxLen; omega) (by rw [HW.out]; exact Nat.le_refl _) ?_; rw [← HW.out]; intro w2 hown hgrow; have c2 := kept_cell (below_grown0 hgrow) c0 l0) | fail)
  have hb2 : Below W.heap.size W w2 := below_grown0 hgrow
  replace hown := own_madeSets hown
  have l2 := lt_of_below hb2 l0
  have B2 := B0.trans (hb2.mono B0.size)
  clear hgrow hi hz0 hz1 hz2 c0
  refine (digitParts_n ao S cap hn1 hn8 HSp.out.bd ar R K capr HKl.out (by omega) HD.out _ (hS.below B2) (hRI.below B2)).mono ?_
  rintro e wZ ⟨Pp, gU, U, rfl, hPA, hbZ⟩
  have oS := hown.below hbZ
  have cZ := kept_cell hbZ c2 l2
  have lZ := lt_of_below hbZ l2
  have BZ := B2.trans (hbZ.mono B2.size)
  have hWl := hown.base_le
  have HPc : Hid (∀ k, k < K → wZ.cell? ⟨Pp, k, none⟩ = some (.slice (some ⟨gU, k * S.length, none⟩) S.length S.length) ∧ Ints wZ (some ⟨gU, k * S.length, none⟩) (digs S (gi R k))) := Lib.hid fun k hk => by
    have hk' : k < R.length := by rw [← HKl.out]; exact hk
    refine ⟨hPA.row k hk', .inr ⟨gU, k * S.length, rfl, hPA.own.base_le.2, fun j hj => ?_⟩⟩
    rw [digs_length] at hj
    have hkj : k * S.length + j < U.length := by
      rw [hPA.len]
      have := Nat.mul_le_mul_right S.length (show k + 1 ≤ R.length from hk')
      rw [Nat.succ_mul] at this; omega
    rw [hPA.own.cell hkj, gi_digs _ _ _ hj, hPA.dg k j hk' hj]
  have hgU := hPA.own.base_le
  have hPp := And.intro hPA.bp hPA.pl
  obtain ⟨Z, hZe⟩ : ∃ Z, Z = wZ.heap.size := ⟨_, rfl⟩
  have HZ := Lib.hid hZe
  rw [← hZe] at hgU hPp
  have hWZ : W.heap.size < Z := by rw [hZe]; exact Nat.lt_of_lt_of_le hWl.2 hbZ.size
  have hgUW : gU ≠ W.heap.size := by omega
  have hPpW : Pp ≠ W.heap.size := by omega
  have hl0W : w.heap.size < W.heap.size := l0
  have BWZ : Below W.heap.size W wZ := hb2.trans (hbZ.mono hb2.size)
  clear c2 l2 B2 hbZ hown hPA hZe hb2 l0
  go_wp2_with fail
  go_loopw [19] (fun x wr => ∃ (k : Nat) (X : List (Nat → Bool)), k ≤ K ∧ x = .int .i64 (k : Int) ∧ OwnSets wr W.heap.size (.slice (some ⟨W.heap.size, 0, none⟩) K K) X ∧ Hid (X.length = K ∧ (∀ j, j < k → pAt X j = chP (digs S (gi R j)) C C.length) ∧ ∀ j, k ≤ j → j < K → pAt X j = fun _ => false) ∧ Hid (∀ b, b < Z → b ≠ W.heap.size → wr.heap[b]? = wZ.heap[b]?) ∧ Z ≤ wr.heap.size ∧ Below W.heap.size W wr) (fun x _ => K - (intOf x).toNat)
  case atStart => exact ⟨0, _, Nat.zero_le _, rfl, oS, Lib.hid ⟨by simp, fun j hj => by omega, fun j _ hj => by unfold pAt; rw [List.getD_eq_getElem?_getD, List.getElem?_replicate]; split <;> rfl⟩, Lib.hid fun b _ _ => rfl, by rw [HZ.out]; exact Nat.le_refl _, BWZ⟩
  case round =>
    clear oS cZ lZ BZ BWZ
    obtain ⟨k, X, hk, rfl, oX, HX, HK, hZr, B⟩ := hrel
    by_cases hlt : k < K
    · have hkI : (k : Int) < (K : Int) := by omega
      have hcp := (cell_heapS (HK.out Pp hPp.2 hPpW) k).trans (HPc.out k hlt).1
      have HDk : Hid (Ints wZ (some ⟨gU, k * S.length, none⟩) (digs S (gi R k))) := Lib.hid (HPc.out k hlt).2
      have HDl : Hid ((digs S (gi R k)).length = S.length) := Lib.hid (digs_length _ _)
      obtain ⟨D, hDe⟩ : ∃ D, D = digs S (gi R k) := ⟨_, rfl⟩
      rw [← hDe] at HDk HDl
      have HDe := Lib.hid hDe
      obtain ⟨kn, hkn⟩ : ∃ kn, kn = k * S.length := ⟨_, rfl⟩
      rw [← hkn] at hcp HDk
      obtain ⟨w0, rfl⟩ : ∃ w0, w0 = wr := ⟨_, rfl⟩
      clear hDe hkn
      go_wp2_with fail
      go_loopw [26] (fun x wk => ∃ (i : Nat) (Y : List (Nat → Bool)), i ≤ NC ∧ x = .int .i64 (i : Int) ∧ OwnSets wk W.heap.size (.slice (some ⟨W.heap.size, 0, none⟩) K K) Y ∧ Hid (Y.length = K ∧ (∀ j, j < k → pAt Y j = chP (digs S (gi R j)) C C.length) ∧ pAt Y k = chP D C i ∧ ∀ j, k < j → j < K → pAt Y j = fun _ => false) ∧ Hid (∀ b, b < Z → b ≠ W.heap.size → wk.heap[b]? = wZ.heap[b]?) ∧ Z ≤ wk.heap.size ∧ Below W.heap.size W wk) (fun x _ => NC - (intOf x).toNat)
      case atStart => exact ⟨0, X, Nat.zero_le _, rfl, oX, Lib.hid ⟨HX.out.1, HX.out.2.1, by rw [HX.out.2.2 k (Nat.le_refl _) hlt, chP_0], fun j h1 h2 => HX.out.2.2 j (by omega) h2⟩, HK, hZr, B⟩
      case round =>
        clear oX HX HK hZr B hcp
        obtain ⟨i, Y, hi, rfl, oY, HY, HK, hZr, B⟩ := hrel
        by_cases hli : i < NC
        · have hiI : (i : Int) < (NC : Int) := by omega
          obtain ⟨hgx, g, o, ⟨hx1, hx2, hx3⟩, hIc⟩ := HCM.out i (by rw [← HNC.out]; exact hli)
          have BB := B0.trans (B.mono (Nat.le_of_lt hl0W))
          replace hx1 := kept_cell BB hx1 hgx
          replace hx2 := kept_cell BB hx2 hgx
          replace hx3 := kept_cell BB hx3 hgx
          replace hIc := hIc.below BB
          simp only [chX] at hx1 hx2 hx3
          obtain ⟨hcl, hcb⟩ := HC.out (rr C i) (rr_mem (by rw [← HNC.out]; exact hli))
          have hDw := ints_heapS HDk.out (HK.out gU hgU.2 hgUW) (by omega)
          have HPY := Lib.hid (@chP_yes D C i)
          have HPN := Lib.hid (@chP_no D C i)
          obtain ⟨E, hE⟩ : ∃ E, E = rr C i := ⟨_, rfl⟩
          rw [← hE] at hIc hcl hcb HPY HPN
          clear hE
          obtain ⟨w1, rfl⟩ : ∃ w1, w1 = wr := ⟨_, rfl⟩
          have hb1 : Below w1.heap.size w1 (w1.alloc (.cells #[.slice a2 n2 cap2, .slice (some ⟨g, o, none⟩) t t, .slice (some ⟨g, o + t, none⟩) t t] 64)) := (Below.refl _ _).alloc (Nat.le_refl _) _
          have hin := isIn_any a2 n2 cap2 g o t t gU kn S.length S.length E D hn8 HDl.out hcl ht1 ht3 hcb _ (hDw.below hb1) (hIc.below hb1)
          unfold chV at hin
          have Hin := Lib.hid hin
          clear hin hcb
          go_wp2_with fail
          refine Hin.out.mono ?_
          cases hh : hasC D E with
          | false =>
            have HN := Lib.hid (HPN.out hh)
            rintro e w5 ⟨rfl, hb5⟩
            have H5 : Below w1.heap.size w1 w5 := hb1.trans (hb5.mono hb1.size)
            have oY5 := oY.below H5
            have HK5 : Hid (∀ b, b < Z → b ≠ W.heap.size → w5.heap[b]? = wZ.heap[b]?) := Lib.hid fun b h1 h2 => (H5.block b (by omega)).trans (HK.out b h1 h2)
            have hZ5 := Nat.le_trans hZr H5.size
            have B5 := B.trans (H5.mono B.size)
            have HY5 : Hid (Y.length = K ∧ (∀ j, j < k → pAt Y j = chP (digs S (gi R j)) C C.length) ∧ pAt Y k = chP D C (i + 1) ∧ ∀ j, k < j → j < K → pAt Y j = fun _ => false) := Lib.hid ⟨HY.out.1, HY.out.2.1, by rw [HY.out.2.2.1, HN.out], HY.out.2.2.2⟩
            clear oY HY HK B hb1 hb5 H5 hx1 hx2 hx3 hIc hDw hh HPY HPN Hin
            go_wp2_with fail
            go_roundw
            case rel => exact ⟨i + 1, Y, by omega, by go_num, oY5, HY5, HK5, hZ5, B5⟩
            case measure => simp [intOf]; omega
          | true =>
            have HN := Lib.hid (HPY.out hh)
            rintro e w5 ⟨rfl, hb5⟩
            have H5 : Below w1.heap.size w1 w5 := hb1.trans (hb5.mono hb1.size)
            have oY5 := oY.below H5
            have HK5 : Hid (∀ b, b < Z → b ≠ W.heap.size → w5.heap[b]? = wZ.heap[b]?) := Lib.hid fun b h1 h2 => (H5.block b (by omega)).trans (HK.out b h1 h2)
            have hZ5 := Nat.le_trans hZr H5.size
            have B5 := B.trans (H5.mono B.size)
            have hi1024 : i < 1024 := by omega
            have hkY : k < Y.length := by rw [HY.out.1]; exact hlt
            have hput := putAt_any W.heap.size (k * 16) (pAt Y k) i hi1024 w5 (oY5.cells k hkY (i / 64) (by omega)) (oY5.free _)
            have oY6 := (oY5.putAt k hkY i hi1024)
            have B6 : Below W.heap.size W (w5.setCell ⟨W.heap.size, k * 16 + i / 64, none⟩ (.int .u64 (partN (putB (pAt Y k) i) (i / 64)))).drew := (B5.setCell (Nat.le_refl _) _).drew
            have HK6 : Hid (∀ b, b < Z → b ≠ W.heap.size → (w5.setCell ⟨W.heap.size, k * 16 + i / 64, none⟩ (.int .u64 (partN (putB (pAt Y k) i) (i / 64)))).drew.heap[b]? = wZ.heap[b]?) := Lib.hid fun b h1 h2 => by
              have hg : w5.grownBy (w5.setCell ⟨W.heap.size, k * 16 + i / 64, none⟩ (.int .u64 (partN (putB (pAt Y k) i) (i / 64)))) (some W.heap.size) := grown_setCell (World.grownBy.refl w5 _) _ _
              exact (hg.block b (by omega) (by intro e; exact h2 (Option.some.inj e))).trans (HK5.out b h1 h2)
            have hZ6 : Z ≤ (w5.setCell ⟨W.heap.size, k * 16 + i / 64, none⟩ (.int .u64 (partN (putB (pAt Y k) i) (i / 64)))).drew.heap.size := Nat.le_trans hZ5 (Nat.le_of_eq (by simp [World.drew]))
            have HY6 : Hid ((Y.set k (putB (pAt Y k) i)).length = K ∧ (∀ j, j < k → pAt (Y.set k (putB (pAt Y k) i)) j = chP (digs S (gi R j)) C C.length) ∧ pAt (Y.set k (putB (pAt Y k) i)) k = chP D C (i + 1) ∧ ∀ j, k < j → j < K → pAt (Y.set k (putB (pAt Y k) i)) j = fun _ => false) := Lib.hid ⟨by rw [List.length_set]; exact HY.out.1, fun j hj => by rw [pAt_set _ _ _ _ hkY, if_neg (by omega)]; exact HY.out.2.1 j hj, by rw [pAt_set _ _ _ _ hkY, if_pos rfl, HY.out.2.2.1, HN.out], fun j h1 h2 => by rw [pAt_set _ _ _ _ hkY, if_neg (by omega)]; exact HY.out.2.2.2 j h1 h2⟩
            obtain ⟨V, hV⟩ : ∃ V, V = Value.int .u64 (partN (putB (pAt Y k) i) (i / 64)) := ⟨_, rfl⟩
            rw [← hV] at hput oY6 B6 HK6 hZ6
            obtain ⟨Y2, hY2⟩ : ∃ Y2, Y2 = Y.set k (putB (pAt Y k) i) := ⟨_, rfl⟩
            rw [← hY2] at oY6 HY6
            obtain ⟨kq, hkq⟩ : ∃ kq, kq = k * 16 + i / 64 := ⟨_, rfl⟩
            rw [← hkq] at hput oY6 B6 HK6 hZ6
            clear oY oY5 HY HK HK5 B B5 hZ5 hb1 hb5 H5 hx1 hx2 hx3 hIc hDw hh HPY HPN Hin hV hY2 hkq
            go_wp2_with fail
            refine hput.mono ?_
            rintro e w6 ⟨rfl, rfl⟩
            go_wp2_with fail
            go_roundw
            case rel => exact ⟨i + 1, Y2, by omega, by go_num, oY6, HY6, HK6, hZ6, B6⟩
            case measure => simp [intOf]; omega
        · have hiI : ¬ (i : Int) < (NC : Int) := by omega
          have HY2 : Hid (Y.length = K ∧ (∀ j, j < k + 1 → pAt Y j = chP (digs S (gi R j)) C C.length) ∧ ∀ j, k + 1 ≤ j → j < K → pAt Y j = fun _ => false) := Lib.hid ⟨HY.out.1, fun j hj => by
            by_cases e : j = k
            · subst e; rw [HY.out.2.2.1, HDe.out, show i = C.length by rw [← HNC.out]; omega]
            · exact HY.out.2.1 j (by omega), fun j h1 h2 => HY.out.2.2.2 j (by omega) h2⟩
          go_wp2_with fail
          go_roundw
          case rel => exact ⟨k + 1, Y, by omega, by go_num, oY, HY2, HK, hZr, B⟩
          case measure => simp [intOf]; omega
    · have hkI : ¬ (k : Int) < (K : Int) := by omega
      have HE : Hid (X = chSets S C R) := Lib.hid (sets_ext (by rw [HX.out.1, chSets_len, HKl.out]) fun j hj => by
        rw [HX.out.1] at hj
        rw [HX.out.2.1 j (by omega), pAt_chSets S C R j (by rw [← HKl.out]; exact hj)])
      rw [HE.out] at oX
      go_wp2_with fail
      go_ret
      obtain ⟨q1, q2⟩ := oX
      exact ⟨_, rfl, by
        refine ⟨q1, ?_⟩
        rcases q2 with h2 | ⟨g, cap, cur, hv, hg, r⟩
        · exact Or.inl h2
        · exact Or.inr ⟨g, cap, cur, hv, by omega, r⟩, B0.trans (B.mono (Nat.le_of_lt hl0W))⟩

end Go.Proofs.YtpmfedllbiblbaaGreat
