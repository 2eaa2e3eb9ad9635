/-
  The program's list of all choices. By an AI agent.
-/
import Derived.Test.YtpmfedllbiblbaaGreatPkChoA
import Derived.Test.YtpmfedllbiblbaaGreatPk45
import Derived.Test.YtpmfedllbiblbaaGreatPkPlaA
namespace Go.Proofs.YtpmfedllbiblbaaGreat
open Go.RowKit Cv
set_option linter.unusedVariables false
set_option linter.unusedSimpArgs false
set_option maxRecDepth 100000

theorem cell_heapC {w w' : World} {b : Nat} (h : w'.heap[b]? = w.heap[b]?) (o : Nat) : w'.cell? ⟨b, o, none⟩ = w.cell? ⟨b, o, none⟩ := by
  simp only [World.cell?, h]
theorem ints_heapC {w w' : World} {b o : Nat} {T : List Int} (h : Ints w (some ⟨b, o, none⟩) T) (hk : w'.heap[b]? = w.heap[b]?) (hl : b < w'.heap.size) : Ints w' (some ⟨b, o, none⟩) T := by
  rcases h with h | ⟨b', o', he, hlt, hc⟩
  · exact .inl h
  · simp only [Option.some.injEq, Addr.mk.injEq, and_true] at he
    obtain ⟨rfl, rfl⟩ := he
    exact .inr ⟨_, _, rfl, hl, fun i hi => (cell_heapC hk _).trans (hc i hi)⟩
theorem mulwC (k m km : Nat) (h : km = k * m) (hb : km ≤ 1000000) : IntKind.i64.wrap ((k : Int) * (m : Int)) = (km : Int) ∧ wrap64 ((k : Int) * (m : Int)) = (km : Int) := by
  have e : (k : Int) * (m : Int) = (km : Int) := by rw [h, Int.natCast_mul]
  rw [e]
  exact ⟨IntWalk.i64_in _ ⟨by omega, by omega⟩, IntWalk.wrap64_in _ ⟨by omega, by omega⟩⟩
theorem mulwC1 (k m km kn : Nat) (h : km = k * m) (h2 : kn = km + m) (hb : km + m ≤ 1000000) : IntKind.i64.wrap (((k : Int) + 1) * (m : Int)) = (kn : Int) ∧ wrap64 (((k : Int) + 1) * (m : Int)) = (kn : Int) := by
  have e : ((k : Int) + 1) * (m : Int) = (kn : Int) := by rw [h2, h, Int.add_mul, Int.one_mul, Int.natCast_add, Int.natCast_mul]
  rw [e]
  exact ⟨IntWalk.i64_in _ ⟨by omega, by omega⟩, IntWalk.wrap64_in _ ⟨by omega, by omega⟩⟩
theorem Ints.kept7 {w w' : World} {b o : Nat} {T : List Int} {row : Option Nat} (h : Ints w (some ⟨b, o, none⟩) T) (hg : w.grownBy w' row) (hne : some b ≠ row) : Ints w' (some ⟨b, o, none⟩) T := by
  rcases h with h | ⟨b', o', he, hlt, hc⟩
  · exact .inl h
  · simp only [Option.some.injEq, Addr.mk.injEq, and_true] at he
    obtain ⟨rfl, rfl⟩ := he
    exact ints_heapC (.inr ⟨_, _, rfl, hlt, hc⟩) (hg.block _ hlt hne) (Nat.lt_of_lt_of_le hlt hg.size)
theorem wpList_append_intsL {w : World} {ops : Array Oper} {rest : List Oper} {o : Oper} {a : Act} {Q : Exit → Act → World → Prop} (hgd : o.guard = none) (s x : Operand)
    (ho : o.op = .call { callee := .builtin .append, args := #[s, x], argTypes := #[24, 24] })
    (base : Nat) (v : Value) (L : List Int) (hs : a.eval s = v) (hown : OwnInts w base v L) (ad : Addr) (T : List Int) (m c n : Nat) (hm : m = T.length) (h0 : 0 < m) (hx : a.eval x = .slice (some ad) m c) (hT : Ints w (some ad) T)
    (hlen : L.length + m ≤ 1073741824) (hbase : base ≤ w.heap.size) (hn : n = L.length + m)
    (h : ∀ g cap w', OwnInts w' base (.slice (some ⟨g, 0, none⟩) n cap) (L ++ T) → w.grownBy w' v.ownBlock → (v.ownBlock = some g ∨ g = w.heap.size) → wpList Tryz.prog ops Q rest (a.put o.dst (.slice (some ⟨g, 0, none⟩) n cap)) w') : wpList Tryz.prog ops Q (o :: rest) a w :=
  wpList_plain hgd fun _ hK => wp_append_intsL s x ho base v L hs hown ad T m c n hm h0 hx hT hlen hbase hn fun g cap w' h1 h2 h3 => hK _ _ (h g cap w' h1 h2 h3)
theorem PartsAt.rebase {w : World} {base lo' P g : Nat} {S T U : List Int} (h : PartsAt w base P g S T U) (hl : lo' ≤ base) : PartsAt w lo' P g S T U :=
  ⟨h.len, h.dg, h.own.rebase hl, h.row, Nat.le_trans hl h.bp, h.pl, h.ne⟩
/-- the numbers of lists of one length, one list behind the other -/
theorem flat_lenC {m : Nat} : ∀ {L : List (List Int)}, (∀ l, l ∈ L → l.length = m) → L.flatten.length = L.length * m
  | [], _ => by simp
  | a :: L, h => by
    rw [List.flatten_cons, List.length_append, h a (by simp), flat_lenC (fun l hl => h l (by simp [hl])), List.length_cons, Nat.succ_mul]; omega
theorem gi_flat {m : Nat} : ∀ {L : List (List Int)} (k j : Nat), (∀ l, l ∈ L → l.length = m) → k < L.length → j < m → gi L.flatten (k * m + j) = gi (rr L k) j
  | [], k, j, _, hk, _ => by simp at hk
  | a :: L, 0, j, h, _, hj => by
    rw [List.flatten_cons, gi_append_lt _ _ _ (by rw [h a (by simp)]; omega), Nat.zero_mul, Nat.zero_add]; rfl
  | a :: L, k + 1, j, h, hk, hj => by
    have ha := h a (by simp)
    rw [List.flatten_cons, gi_append_ge _ _ _ (by rw [ha, Nat.succ_mul]; omega), ha, show (k + 1) * m + j - m = k * m + j by rw [Nat.succ_mul]; omega, gi_flat k j (fun l hl => h l (by simp [hl])) (by simpa using hk) hj]
    rfl
theorem sp_part {S : List Int} (hS : Sp S) {t : Nat} (h1 : 0 < t) (h3 : t ≤ 3) {P : List Int} (hP : P ∈ plM S.length 0 t) : Sp (szP S P) := by
  obtain ⟨h1', h2⟩ := szP_bd hS hP
  refine ⟨by omega, by omega, h2, ?_⟩
  have := (prodTo_bd (szP S P) (szP S P).length h2).2
  have : ((4 : Int) ^ (szP S P).length) ≤ 64 := by
    rw [h1']
    have : t = 1 ∨ t = 2 ∨ t = 3 := by omega
    rcases this with rfl | rfl | rfl <;> decide
  omega
theorem dg_part {S : List Int} (hS : Sp S) {t : Nat} {P : List Int} (hP : P ∈ plM S.length 0 t) (N : Nat) (hN : nW (szP S P) = (N : Int)) : (dgTo (szP S P) t).length = N ∧ ∀ k, k < N → rr (dgTo (szP S P) t) k = digs (szP S P) (k : Int) := by
  obtain ⟨h1, h2⟩ := szP_bd hS hP
  have e := dgTo_digs (szP S P) h2 t (by omega)
  rw [show prodTo (szP S P) t = (N : Int) from by rw [← hN, ← h1]; rfl, Int.toNat_natCast, List.take_of_length_le (by omega)] at e
  refine ⟨by rw [e]; simp, fun k hk => ?_⟩
  rw [e]
  simp [rr, List.getD, hk]
/-- the choices as the program cuts them out -/
def chL (ao : Option Addr) (n cap g t k : Nat) : List Ch3 := (List.range k).map fun j => chX ao n cap g t (j * (2 * t))
theorem chL_len (ao : Option Addr) (n cap g t k : Nat) : (chL ao n cap g t k).length = k := by simp [chL]
theorem xAt_chL (ao : Option Addr) (n cap g t k j : Nat) (h : j < k) : xAt (chL ao n cap g t k) j = chX ao n cap g t (j * (2 * t)) := by simp [xAt, chL, h]
theorem xs_ext {X Y : List Ch3} (h : X.length = Y.length) (g : ∀ j, j < X.length → xAt X j = xAt Y j) : X = Y := by
  refine List.ext_getElem h fun i h1 h2 => ?_
  have := g i h1
  simpa [xAt, List.getD, List.getElem?_eq_getElem h1, List.getElem?_eq_getElem h2] using this

set_option maxHeartbeats 4000000 in
theorem choicesOf_any (ao : Option Addr) (S : List Int) (cap : Nat) (hSp : Sp S) (t : Nat) (ht1 : 0 < t) (ht3 : t ≤ 3) (w : World) (hS : Ints w ao S) :
    Calls Tryz.prog 41 #[.agg #[.slice ao S.length cap], .int .i64 (t : Int)] w fun e w' => ∃ gx g nF cF, e = .returned (.slice (some ⟨gx, 0, none⟩) (allC S t).length (allC S t).length) ∧ OwnXs w' w.heap.size (.slice (some ⟨gx, 0, none⟩) (allC S t).length (allC S t).length) (chL ao S.length cap g t (allC S t).length) ∧ OwnInts w' w.heap.size (.slice (some ⟨g, 0, none⟩) nF cF) (allC S t).flatten ∧ Below w.heap.size w w' := by
  have HSp := Lib.hid hSp
  have HPM : Hid (∀ j, j < (plM S.length 0 t).length → rr (plM S.length 0 t) j ∈ plM S.length 0 t) := Lib.hid fun j hj => rr_mem hj
  have HPL : Hid (∀ j, j < (plM S.length 0 t).length → (rr (plM S.length 0 t) j).length = t ∧ ∀ k, k < t → 0 ≤ gi (rr (plM S.length 0 t) j) k ∧ gi (rr (plM S.length 0 t) j) k < S.length) := Lib.hid fun j hj => by
    obtain ⟨h1, h2⟩ := plM_len _ _ _ _ (rr_mem hj)
    refine ⟨h1, fun k hk => ?_⟩
    have := h2 (gi (rr (plM S.length 0 t) j) k) (by rw [gi_lt _ _ (by omega)]; exact List.getElem_mem _)
    omega
  have HAS := Lib.hid fun j => alJ_succ S t j
  have HAL := Lib.hid fun j => Nat.le_trans (alJ_len S t j) (allC_le hSp ht1 ht3)
  have HA2 : Hid (∀ j l, l ∈ alJ S t j → l.length = 2 * t) := Lib.hid fun j l hl => by
    refine allC_len2 S t l ?_
    have e : allC S t = alJ S t j ++ ((plM S.length 0 t).drop j).flatMap fun P => (dgTo (szP S P) t).map fun D => P ++ D := by
      unfold alJ allC
      rw [← List.flatMap_append, List.take_append_drop]
    rw [e]; exact List.mem_append.2 (.inl hl)
  have HAA := Lib.hid (alJ_all S t)
  have hP512 := plM_512 S.length hSp.hi t ht3 0
  have hhi := hSp.hi
  have hlo := hSp.lo
  have hpl := placesTogether_any ao S cap hSp.hi t ht3
  obtain ⟨PL, hPL⟩ : ∃ PL, PL = plM S.length 0 t := ⟨_, rfl⟩
  rw [← hPL] at HPM HPL HAS HAA hP512 hpl
  have HPLe := Lib.hid hPL
  clear hPL hSp
  have B0 : Below w.heap.size w (w.alloc (.cells #[.slice ao S.length cap] 26)) := by go_grown
  have c0 := cell_new w (.slice ao S.length cap) 26
  have l0 := lt_alloc w (.cells #[.slice ao S.length cap] 26)
  have B1 := B0.alloc B0.size (.cells #[] 2)
  have c1 := kept_cell ((Below.refl _ (w.alloc (.cells #[.slice ao S.length cap] 26))).alloc (Nat.le_refl _) (.cells #[] 2)) c0 l0
  have l1 : w.heap.size < ((w.alloc (.cells #[.slice ao S.length cap] 26)).alloc (.cells #[] 2)).heap.size := by simp; try omega
  have o1 := own_empty (w.alloc (.cells #[.slice ao S.length cap] 26)) (w.heap.size + 1) (by simp) (n := w.heap.size + 1) (by simp)
  obtain ⟨W1, hW1⟩ : ∃ W1, W1 = (w.alloc (.cells #[.slice ao S.length cap] 26)).alloc (.cells #[] 2) := ⟨_, rfl⟩
  have hz1 : w.heap.size + 2 ≤ W1.heap.size := by rw [hW1]; simp
  rw [← hW1] at B1 c1 l1 o1
  have HW1 := Lib.hid hW1
  clear hW1 c0 l0
  go_enter Tryz.func41, Tryz.ntmps41
  go_wp2_with fail
  rw [← HW1.out]
  refine (hpl W1 (hS.below B1)).mono ?_
  rintro e wY ⟨gp, cp, rfl, lsP, hb1⟩
  have cY := kept_cell hb1 c1 l1
  have lY := lt_of_below hb1 l1
  have BY := B1.trans (hb1.mono B1.size)
  have oY := o1.below hb1
  replace lsP := lsP.rebase (lo' := w.heap.size + 2) hz1
  obtain ⟨Y, hYe⟩ : ∃ Y, Y = wY.heap.size := ⟨_, rfl⟩
  have HY := Lib.hid hYe
  have hgp := lsP.lo_le gp rfl
  rw [← hYe] at hgp
  have hY2 : w.heap.size + 2 ≤ Y := by omega
  clear hpl B0 B1 c1 l1 o1 hb1 hz1 hYe
  have HPc : Hid (∀ i, i < PL.length → ∃ gr cr, wY.cell? ⟨gp, i, none⟩ = some (.slice (some ⟨gr, 0, none⟩) t cr) ∧ Ints wY (some ⟨gr, 0, none⟩) (rr PL i) ∧ w.heap.size + 2 ≤ gr ∧ gr < Y) := Lib.hid fun i hi => by
    obtain ⟨gp', gr, cr, he, hlt, hcc, ho⟩ := lsP.at hi
    obtain rfl : gp = gp' := by simpa using he
    rw [(HPL.out i hi).1] at hcc ho
    have := ho.base_le
    exact ⟨gr, cr, hcc, own_ints ho, this.1, by rw [HY.out]; exact this.2⟩
  clear lsP
  obtain ⟨m, hm⟩ : ∃ m, m = 2 * t := ⟨_, rfl⟩
  have HM := Lib.hid hm
  have hm6 : m ≤ 6 := by omega
  have hm2 : 2 ≤ m := by omega
  have em : 2 * (t : Int) = (m : Int) := by omega
  clear hm
  go_wp2_with fail
  go_loopw [5, 19] (fun o x wr => ∃ i gF cF : Nat, i ≤ PL.length ∧ x = .int .i64 (i : Int) ∧ o = .slice (some ⟨gF, 0, none⟩) (alJ S t i).flatten.length cF ∧ OwnInts wr (w.heap.size + 1) (.slice (some ⟨gF, 0, none⟩) (alJ S t i).flatten.length cF) (alJ S t i).flatten ∧ (gF = w.heap.size + 1 ∨ Y ≤ gF) ∧ Hid (∀ b, b < Y → b ≠ w.heap.size + 1 → wr.heap[b]? = wY.heap[b]?) ∧ Y ≤ wr.heap.size ∧ wr.cell? ⟨w.heap.size, 0, none⟩ = some (.slice ao S.length cap) ∧ w.heap.size < wr.heap.size ∧ Below w.heap.size w wr) (fun _ x _ => PL.length - (intOf x).toNat)
  case atStart => exact ⟨0, w.heap.size + 1, 0, Nat.zero_le _, rfl, rfl, oY, .inl rfl, Lib.hid fun b _ _ => rfl, by rw [HY.out]; exact Nat.le_refl _, cY, lY, BY⟩
  case round =>
    clear oY cY lY BY
    obtain ⟨i, gF, cF, hi, rfl, rfl, oF, hgF, HK, hYr, c1, l1, B⟩ := hrel
    have hOl := HAL.out i
    have HOs := Lib.hid (HAS.out i)
    have HO2 := Lib.hid (HA2.out i)
    obtain ⟨O, hO⟩ : ∃ O, O = alJ S t i := ⟨_, rfl⟩
    rw [← hO] at hOl HOs HO2 oF ⊢
    have HO := Lib.hid hO
    have HFl : Hid (O.flatten.length = O.length * m) := Lib.hid (by rw [HM.out]; exact flat_lenC HO2.out)
    clear hO
    by_cases hlt : i < PL.length
    · have hlI : (i : Int) < (PL.length : Int) := by omega
      obtain ⟨gr, cr, hcq, hIq, hgr1, hgr2⟩ := HPc.out i hlt
      replace hcq := (cell_heapC (HK.out gp hgp.2 (by omega)) i).trans hcq
      replace hIq := ints_heapC hIq (HK.out gr hgr2 (by omega)) (by omega)
      have hgFl := oF.base_le
      have HOn := Lib.hid (HOs.out hlt)
      have hPm := HPM.out i hlt
      obtain ⟨hPl, hPb⟩ := HPL.out i hlt
      obtain ⟨P, hP⟩ : ∃ P, P = rr PL i := ⟨_, rfl⟩
      rw [← hP] at HOn hPm hPl hPb hIq
      rw [HPLe.out] at hPm
      have HPm := Lib.hid hPm
      have HPl := Lib.hid hPl
      have hSpQ := sp_part HSp.out ht1 ht3 hPm
      obtain ⟨Nn, hNn⟩ : ∃ Nn : Nat, nW (szP S P) = (Nn : Int) := ⟨(nW (szP S P)).toNat, by have := nW_bd hSpQ; omega⟩
      obtain ⟨hDl, hDr⟩ := dg_part HSp.out hPm Nn hNn
      have hN1024 : Nn ≤ 1024 := by have := nW_bd hSpQ; omega
      have HQl : Hid ((szP S P).length = t) := Lib.hid (by rw [szP_len, hPl])
      have hpo := partOf_any ao S cap hlo hhi gr 0 t cr P hPl (by omega) hPb wr (hS.below B) hIq
      have HAW0 := Lib.hid fun (gQ : Nat) (W : World) (h : Ints W (some ⟨gQ, 0, none⟩) (szP S P)) => allWords_any (some ⟨gQ, 0, none⟩) (szP S P) t hSpQ Nn (Lib.hid hNn) W h
      have HDP0 := Lib.hid fun (gQ q : Nat) (W : World) (h : Ints W (some ⟨gQ, 0, none⟩) (szP S P)) (h2 : Ints W (some ⟨q, 0, none⟩) (upto Nn)) => digitParts_n (some ⟨gQ, 0, none⟩) (szP S P) t hSpQ.lo hSpQ.hi hSpQ.bd (some ⟨q, 0, none⟩) (upto Nn) Nn Nn (upto_len Nn).symm (by omega) (fun j hj => by rw [upto_len] at hj; rw [gi_upto _ _ hj]; omega) W h h2
      obtain ⟨Q, hQ⟩ : ∃ Q, Q = szP S P := ⟨_, rfl⟩
      obtain ⟨D, hD⟩ : ∃ D, D = dgTo (szP S P) t := ⟨_, rfl⟩
      rw [← hD] at hDl hDr HOn
      rw [← hQ] at hDr HQl hpo HAW0 HDP0
      have HDl := Lib.hid hDl
      have HDr := Lib.hid hDr
      have HD2 : Hid (∀ k, k < Nn → (rr D k).length = t) := Lib.hid fun k hk => by rw [HDr.out k hk, digs_length, HQl.out]
      rw [HQl.out] at HAW0 HDP0
      clear hP hPm hSpQ hNn hDl hDr hD hQ hPl hPb
      go_wp2_with fail
      refine hpo.mono ?_
      rintro e wq ⟨gQ, rfl, oQ, hbq⟩
      have hqs := hbq.size
      go_wp2_with fail
      have HAW := Lib.hid (HAW0.out gQ)
      have HDP := Lib.hid (HDP0.out gQ)
      obtain ⟨wb, hwb0⟩ : ∃ wb, wb = wq.alloc (.cells #[.slice (some ⟨gQ, 0, none⟩) t t] 26) := ⟨_, rfl⟩
      have cB : wb.cell? ⟨wq.heap.size, 0, none⟩ = some (.slice (some ⟨gQ, 0, none⟩) t t) := by rw [hwb0]; exact cell_new _ _ _
      have lB : wq.heap.size < wb.heap.size := by rw [hwb0]; exact lt_alloc _ _
      have hbb : Below wr.heap.size wr wb := by rw [hwb0]; exact hbq.alloc hbq.size _
      have hQI : Ints wb (some ⟨gQ, 0, none⟩) Q := by rw [hwb0]; exact own_ints (oQ.alloc _)
      have hwb : wr.heap.size ≤ wb.heap.size := hbb.size
      rw [← hwb0]
      clear hwb0 hpo hbq oQ HAW0 HDP0
      refine wp_region_held_drew (S := fun w' => w'.cell? ⟨wq.heap.size, 0, none⟩ = some (.slice (some ⟨gQ, 0, none⟩) t t)) (by kernel_rfl) (cB) (fun hHeld => ?_)
      refine wpAnyH_take (i := 0) (v := ?_) rfl (by kernel_rfl) (by kernel_rfl) (by kernel_rfl) (fun _ _ _ h => h) (Or.inl ⟨by rfl, ?_⟩) (by assumption) ?_
      rotate_left
      · (intro w hSw; obtain hSw := hSw; (try dsimp only at hSw); go_simp; try (with_reducible rfl))
      (try simp only [Act.put, List.setIfInBounds_toArray, List.set_cons_zero, List.set_cons_succ, List.getElem_toArray, List.getElem_cons_succ, List.getElem_cons_zero])
      refine wpAnyH_take (i := 1) (v := ?_) rfl (by kernel_rfl) (by kernel_rfl) (by kernel_rfl) (fun _ _ _ h => h) (Or.inl ⟨by rfl, ?_⟩) (by assumption) ?_
      rotate_left
      · (intro w hSw; obtain hSw := hSw; (try dsimp only at hSw); go_simp; try (with_reducible rfl))
      (try simp only [Act.put, List.setIfInBounds_toArray, List.set_cons_zero, List.set_cons_succ, List.getElem_toArray, List.getElem_cons_succ, List.getElem_cons_zero])
      refine wpAnyH_take (i := 5) (v := ?_) rfl (by kernel_rfl) (by kernel_rfl) (by kernel_rfl) (fun _ _ _ h => h) (Or.inl ⟨by rfl, ?_⟩) (by assumption) ?_
      rotate_left
      · (intro w hSw; obtain hSw := hSw; (try dsimp only at hSw); go_simp; try (with_reducible rfl))
      (try simp only [Act.put, List.setIfInBounds_toArray, List.set_cons_zero, List.set_cons_succ, List.getElem_toArray, List.getElem_cons_succ, List.getElem_cons_zero])
      refine wpAnyH_ready (rs := [2]) (by kernel_rfl) (by simp) ?_
      refine AllReadyH.cons rfl (fun K hK => ?_) AllReadyH.nil
      go_simp
      (go_at_call 52; refine (HAW.out _ (hQI.below (Below.refl wb.heap.size wb).drew)).mono ?_)
      rintro e x1 ⟨q1, rfl, ow1, hb1⟩
      have H1 : Below wb.heap.size wb x1 := Below.trans (Below.refl wb.heap.size wb).drew (hb1.mono (Below.size (Below.refl wb.heap.size wb).drew))
      refine hK.out _ _ (kept_cell H1 cB lB) (fun hHeld => ?_)
      clear hK K
      (try simp only [Act.put, List.setIfInBounds_toArray, List.set_cons_zero, List.set_cons_succ, List.getElem_toArray, List.getElem_cons_succ, List.getElem_cons_zero])
      refine wpAnyH_ready (rs := [3]) (by kernel_rfl) (by simp) ?_
      refine AllReadyH.cons rfl (fun K hK => ?_) AllReadyH.nil
      go_simp
      (go_at_call 67; refine (HDP.out q1 _ (hQI.below H1) (own_ints ow1)).mono ?_)
      rintro e x2 ⟨Pp, gU, U, rfl, hPA, hb2⟩
      have H2 : Below wb.heap.size wb x2 := Below.trans H1 (hb2.mono (Below.size H1))
      replace ow1 := ow1.below hb2
      refine hK.out _ _ (kept_cell H2 cB lB) (fun hHeld => ?_)
      clear hK K
      (try simp only [Act.put, List.setIfInBounds_toArray, List.set_cons_zero, List.set_cons_succ, List.getElem_toArray, List.getElem_cons_succ, List.getElem_cons_zero])
      refine wpAnyH_take (i := 4) (v := ?_) rfl (by kernel_rfl) (by kernel_rfl) (by kernel_rfl) (fun _ _ _ h => h) (Or.inl ⟨by rfl, ?_⟩) (by assumption) ?_
      rotate_left
      · (intro w hSw; obtain hSw := hSw; (try dsimp only at hSw); go_simp; try (with_reducible rfl))
      (try simp only [Act.put, List.setIfInBounds_toArray, List.set_cons_zero, List.set_cons_succ, List.getElem_toArray, List.getElem_cons_succ, List.getElem_cons_zero])
      refine wpAnyH_done (by kernel_rfl) ?_ _
      (try simp only [Act.put, List.setIfInBounds_toArray, List.set_cons_zero, List.set_cons_succ, List.getElem_toArray, List.getElem_cons_succ, List.getElem_cons_zero])
      have Hn : Below wb.heap.size wb x2 := H2
      replace hPA := PartsAt.rebase (lo' := wr.heap.size) hPA (Nat.le_trans hwb (Below.size H1))
      obtain ⟨w5, hw5⟩ : ∃ z, z = x2 := ⟨_, rfl⟩
      rw [← hw5] at Hn hPA ⊢
      clear hw5 hHeld
      have HP5 : Hid (∀ k, k < Nn → w5.cell? ⟨Pp, k, none⟩ = some (.slice (some ⟨gU, k * t, none⟩) t t) ∧ Ints w5 (some ⟨gU, k * t, none⟩) (rr D k)) := Lib.hid fun k hk => by
        refine ⟨by have := hPA.row k (by rw [upto_len]; exact hk); rwa [HQl.out] at this, .inr ⟨gU, k * t, rfl, hPA.own.base_le.2, fun j hj => ?_⟩⟩
        rw [HD2.out k hk] at hj
        have hUl := hPA.len
        rw [upto_len, HQl.out] at hUl
        have hkj : k * t + j < U.length := by
          rw [hUl]
          have := Nat.mul_le_mul_right t (show k + 1 ≤ Nn from hk)
          rw [Nat.succ_mul] at this; omega
        rw [hPA.own.cell hkj, HDr.out k hk, gi_digs _ _ _ (by rw [HQl.out]; exact hj)]
        have := hPA.dg k j (by rw [upto_len]; exact hk) (by rw [HQl.out]; exact hj)
        rw [HQl.out, gi_upto _ _ hk] at this
        rw [this]
      have hgU := hPA.own.base_le
      have hPp := And.intro hPA.bp hPA.pl
      have H5 : Below wr.heap.size wr w5 := hbb.trans (Hn.mono hwb)
      obtain ⟨Z, hZe⟩ : ∃ Z, Z = w5.heap.size := ⟨_, rfl⟩
      have HZ := Lib.hid hZe
      have hZr : wr.heap.size ≤ Z := by rw [hZe]; exact H5.size
      rw [← hZe] at hgU hPp
      obtain ⟨w0, rfl⟩ : ∃ w0, w0 = wr := ⟨_, rfl⟩
      have oF5 := oF.below H5
      have c5 := kept_cell H5 c1 l1
      have l5 := lt_of_below H5 l1
      have B5 := B.trans (H5.mono B.size)
      have hI5 := hIq.below H5
      have HK5 : Hid (∀ b, b < Y → b ≠ w.heap.size + 1 → w5.heap[b]? = wY.heap[b]?) := Lib.hid fun b h1 h2 => (H5.block b (by omega)).trans (HK.out b h1 h2)
      have hFl : Hid (∀ k, k ≤ Nn → (O ++ (D.take k).map fun E => P ++ E).flatten.length = O.length * m + k * m) := Lib.hid fun k hk => by
        rw [List.flatten_append, List.length_append, HFl.out]
        have := flat_lenC (m := m) (L := (D.take k).map fun E => P ++ E) (fun l hl => by
          obtain ⟨E, hE, rfl⟩ := List.mem_map.1 hl
          obtain ⟨j, hj, e⟩ := List.mem_iff_getElem.1 (List.mem_of_mem_take hE)
          have e2 : rr D j = E := by rw [← e]; simp [rr, List.getD, hj]
          have := HD2.out j (by rw [← HDl.out]; exact hj)
          rw [List.length_append, HPl.out, ← e2, this, HM.out]; omega)
        rw [this]
        simp [HDl.out, hk]
      have HFs : Hid (∀ k, k < Nn → (O ++ (D.take k).map fun E => P ++ E).flatten ++ P ++ rr D k = (O ++ (D.take (k + 1)).map fun E => P ++ E).flatten) := Lib.hid fun k hk => by
        rw [take_rr D k (by rw [HDl.out]; exact hk)]; simp
      have hgF0 := hgF
      have hwF : gF < w0.heap.size := hgFl.2
      have hw0Y : Y ≤ w0.heap.size := hYr
      have hgU2 : w0.heap.size ≤ gU := hgU.1
      have hgrY : gr < Y := hgr2
      clear oF hgF HK hYr c1 l1 B hcq hIq hbb Hn hPA H5 hZe cB lB hQI
      go_wp2_with fail
      go_loopw [5, 31] (fun o x wk => ∃ k g5 c5 : Nat, k ≤ Nn ∧ x = .int .i64 (k : Int) ∧ o = .slice (some ⟨g5, 0, none⟩) (O ++ (D.take k).map fun E => P ++ E).flatten.length c5 ∧ OwnInts wk (w.heap.size + 1) (.slice (some ⟨g5, 0, none⟩) (O ++ (D.take k).map fun E => P ++ E).flatten.length c5) (O ++ (D.take k).map fun E => P ++ E).flatten ∧ (g5 = gF ∨ Z ≤ g5) ∧ Hid (∀ b, b < Z → b ≠ gF → wk.heap[b]? = w5.heap[b]?) ∧ Z ≤ wk.heap.size ∧ wk.cell? ⟨w.heap.size, 0, none⟩ = some (.slice ao S.length cap) ∧ w.heap.size < wk.heap.size ∧ Below w.heap.size w wk) (fun _ x _ => Nn - (intOf x).toNat)
      case atStart => exact ⟨0, gF, cF, Nat.zero_le _, rfl, by simp, by simpa using oF5, .inl rfl, Lib.hid fun b _ _ => rfl, by rw [HZ.out]; exact Nat.le_refl _, c5, l5, B5⟩
      case round =>
        clear oF5 c5 l5 B5
        obtain ⟨k, g5, c5, hk, rfl, rfl, oF, hgF, HK, hZk, c1, l1, B⟩ := hrel
        have hFk := hFl.out k hk
        have HFk := Lib.hid (HFs.out k)
        have HFa : Hid (k = Nn → (O ++ (D.take k).map fun E => P ++ E) = alJ S t (i + 1)) := Lib.hid fun h => by rw [HOn.out, h, ← HDl.out, List.take_length]
        obtain ⟨TT, hTT⟩ : ∃ TT, TT = (O ++ (D.take k).map fun E => P ++ E) := ⟨_, rfl⟩
        rw [← hTT] at HFk HFa hFk oF ⊢
        obtain ⟨F, hF⟩ : ∃ F, F = TT.flatten := ⟨_, rfl⟩
        rw [← hF] at HFk hFk oF ⊢
        have HF := Lib.hid hF
        have hF9 : F.length ≤ 20000 := by
          have h1 := Nat.mul_le_mul (show O.length ≤ 832 from hOl) hm6
          have h2 := Nat.mul_le_mul (show k ≤ 1024 by omega) hm6
          omega
        clear hTT hF hFk
        by_cases hlk : k < Nn
        · have hkI : (k : Int) < (Nn : Int) := by omega
          obtain ⟨hcp, hIE⟩ := HP5.out k hlk
          replace hcp := (cell_heapC (HK.out Pp hPp.2 (by omega)) k).trans hcp
          have hlPp : Pp < wr.heap.size := by omega
          have hEl := HD2.out k hlk
          have HFn := Lib.hid (HFk.out hlk)
          obtain ⟨E, hE⟩ : ∃ E, E = rr D k := ⟨_, rfl⟩
          rw [← hE] at hIE hEl HFn
          have HEl := Lib.hid hEl
          obtain ⟨kt, hkt⟩ : ∃ kt, kt = k * t := ⟨_, rfl⟩
          rw [← hkt] at hcp hIE
          have hIP := ints_heapC hI5 (HK.out gr (by omega) (by omega)) (by omega)
          have hIE5 := ints_heapC hIE (HK.out gU hgU.2 (by omega)) (by omega)
          have hbl : w.heap.size + 1 ≤ wr.heap.size := l1
          have hg51 := oF.base_le
          clear hE hEl hkt hIE HFk HFa
          go_wp2_with (first
            | (at_builtin; refine wpList_append_intsL rfl _ _ rfl (w.heap.size + 1) _ F rfl oF ⟨gr, 0, none⟩ P t cr (F.length + t) HPl.out.symm ht1 rfl hIP (by omega) hbl rfl ?_; intro g7 c7 w7 oF7 hg7 hat7)
            | (at_builtin; refine wpList_append_intsL rfl _ _ rfl (w.heap.size + 1) _ (F ++ P) rfl oF7 ⟨gU, kt, none⟩ E t t (F.length + t + t) HEl.out.symm ht1 rfl (hIE5.kept7 hg7 (by simp only [Value.ownBlock]; intro e; have e' : gU = g5 := Option.some.inj e; omega)) (by rw [List.length_append, HPl.out]; omega) (Nat.le_trans hbl hg7.size) (by rw [List.length_append, HPl.out]) ?_; intro g8 c8 w8 oF8 hg8 hat8)
            | fail)
          have HK8 : Hid (∀ b, b < Z → b ≠ gF → w8.heap[b]? = w5.heap[b]?) := Lib.hid fun b h1 h2 => by
            have n5 : b ≠ g5 := by omega
            have n7 : b ≠ g7 := by
              rcases hat7 with e | e
              · have e' : g5 = g7 := Option.some.inj e
                omega
              · omega
            have z7 := hg7.size
            rw [hg8.block b (by omega) (by simp only [Value.ownBlock]; intro e; exact n7 (Option.some.inj e)), hg7.block b (by omega) (by simp only [Value.ownBlock]; intro e; exact n5 (Option.some.inj e))]
            exact HK.out b h1 h2
          have B7 : Below (w.heap.size + 1) wr w7 := ((Below.refl _ wr).mono hbl).grown hg7 hbl (fun z hz => by cases hz; exact hg51.1)
          have hg71 : w.heap.size + 1 ≤ g7 := oF7.base_le.1
          have B8 : Below (w.heap.size + 1) wr w8 := B7.grown hg8 (Nat.le_trans hbl B7.size) (fun z hz => by cases hz; exact hg71)
          have c8b := kept_cell B8 c1 (Nat.lt_succ_self _)
          have l8 := Nat.lt_of_lt_of_le l1 B8.size
          have B9 := B.trans (B8.mono (Nat.le_succ _))
          have hZ8 : Z ≤ w8.heap.size := Nat.le_trans hZk B8.size
          have hg8b : g8 = gF ∨ Z ≤ g8 := by
            have z7 := hg7.size
            rcases hat8 with e | e
            · have e' : g7 = g8 := Option.some.inj e
              rcases hat7 with f | f
              · have f' : g5 = g7 := Option.some.inj f
                omega
              · omega
            · omega
          have HFm : Hid (F.length + t + t = (O ++ (D.take (k + 1)).map fun E => P ++ E).flatten.length) := Lib.hid (by rw [← HFn.out, List.length_append, List.length_append, HPl.out, HEl.out])
          rw [HFn.out, HFm.out] at oF8
          rw [HFm.out]
          clear oF HK c1 l1 B B7 B8 hg7 hg8 hat7 hat8 oF7 hIP hIE5 hcp
          go_wp2_with fail
          go_roundw
          case rel => exact ⟨k + 1, g8, c8, by omega, by go_num, rfl, oF8, hg8b, HK8, hZ8, c8b, l8, B9⟩
          case measure => simp [intOf]; omega
        · have hkI : ¬ (k : Int) < (Nn : Int) := by omega
          have HTe := Lib.hid (HFa.out (by omega))
          have HFe : Hid (F = (alJ S t (i + 1)).flatten) := Lib.hid (by rw [HF.out, HTe.out])
          have HKY : Hid (∀ b, b < Y → b ≠ w.heap.size + 1 → wr.heap[b]? = wY.heap[b]?) := Lib.hid fun b h1 h2 => (HK.out b (by omega) (by omega)).trans (HK5.out b h1 h2)
          rw [HFe.out] at oF
          go_wp2_with fail
          go_roundw
          case rel => exact ⟨i + 1, g5, c5, by omega, by go_num, by rw [HFe.out], oF, by omega, HKY, by omega, c1, l1, B⟩
          case measure => simp [intOf]; omega
    · have hlI : ¬ (i : Int) < (PL.length : Int) := by omega
      have HE : Hid (O = allC S t) := Lib.hid (by rw [HO.out, ← HAA.out, show i = PL.length by omega])
      obtain ⟨NC, hNC⟩ : ∃ NC, NC = (allC S t).length := ⟨_, rfl⟩
      have HNC := Lib.hid hNC
      have hNC9 : NC ≤ 832 := by rw [hNC, ← HE.out]; exact hOl
      obtain ⟨LF, hLF⟩ : ∃ LF, LF = O.flatten.length := ⟨_, rfl⟩
      have hLFe : LF = NC * m := by rw [hLF, HFl.out, HE.out, ← hNC]
      rw [← hLF] at oF ⊢
      rw [HE.out] at oF
      have HLF := Lib.hid hLFe
      have hLF9 : LF ≤ 6000 := by
        have := Nat.mul_le_mul hNC9 hm6
        omega
      have eq : (LF : Int).tdiv (m : Int) = (NC : Int) := by
        rw [Int.tdiv_eq_ediv_of_nonneg (by omega), hLFe]; push_cast
        rw [Int.mul_ediv_cancel _ (by omega)]
      have mz : ((m : Int) == 0) = false := by simp; omega
      have mz2 : ¬ (m : Int) = 0 := by omega
      obtain ⟨i0, hi0, hz0, hz1, hz2⟩ := info_parts infoCh3
      obtain ⟨w0, rfl⟩ : ∃ w0, w0 = wr := ⟨_, rfl⟩
      have hcapF := own_cap oF
      unfold maxLen at hcapF
      have hgFl := oF.base_le
      clear hgF HK hLF hLFe hNC hlt
      go_wp2_with (first | (at_make; refine wpList_make_full _ rfl _ _ 57 rfl w0.heap.size 64 i0 (.agg Ch3.z.arr) 3 Tryz.underlying57 hi0 hz0 hz1 .i64 .i64 (NC : Int) (NC : Int) NC rfl rfl rfl rfl (by rw [hz2]; omega) (by unfold maxLen; omega) (Nat.le_refl _) ?_; intro w2 hown hgrow) | fail)
      have hb2 : Below w0.heap.size w0 w2 := below_grown0 hgrow
      replace hown := own_madeXs hown
      have lg := hown.base_le
      have oF2 := oF.below hb2
      have c2 := kept_cell hb2 c1 l1
      have l2 := lt_of_below hb2 l1
      have B2 := B.trans (hb2.mono B.size)
      have HCO : Hid (∀ km W, Calls Tryz.prog 65 #[.agg #[.slice ao S.length cap], .slice (some ⟨gF, km, none⟩) m m] W fun e w' => e = .returned (.agg (chX ao S.length cap gF t km).arr) ∧ Below W.heap.size W w') := Lib.hid fun km W => by
        have h := choiceOf_any ao S.length cap gF km m m t ht1 (by rw [HM.out]; omega) (Nat.le_refl _) (by omega) (by omega) W
        rwa [show m - t = t by rw [HM.out]; omega] at h
      clear hgrow hi0 hz0 hz1 hz2 eq mz mz2 c1 B
      go_wp2_with fail
      go_loopw [51] (fun x wr => ∃ (k : Nat) (X : List Ch3), k ≤ NC ∧ x = .int .i64 (k : Int) ∧ OwnXs wr w0.heap.size (.slice (some ⟨w0.heap.size, 0, none⟩) NC NC) X ∧ Hid (X.length = NC ∧ ∀ j, j < k → xAt X j = chX ao S.length cap gF t (j * (2 * t))) ∧ OwnInts wr (w.heap.size + 1) (.slice (some ⟨gF, 0, none⟩) LF cF) (allC S t).flatten ∧ wr.cell? ⟨w.heap.size, 0, none⟩ = some (.slice ao S.length cap) ∧ w.heap.size < wr.heap.size ∧ Below w.heap.size w wr) (fun x _ => NC - (intOf x).toNat)
      case atStart => exact ⟨0, _, Nat.zero_le _, rfl, hown, Lib.hid ⟨by simp, fun j hj => by omega⟩, oF2, c2, l2, B2⟩
      case round =>
        clear hown lg oF2 c2 l2 B2 oF
        obtain ⟨k, X, hk, rfl, oX, HX, oF, c1, l1, B⟩ := hrel
        by_cases hlt : k < NC
        · have hkI : (k : Int) < (NC : Int) := by omega
          obtain ⟨km, hkm⟩ : ∃ km, km = k * m := ⟨_, rfl⟩
          have hkm2 : km + m ≤ LF := by
            have := Nat.mul_le_mul_right m (show k + 1 ≤ NC from hlt)
            rw [Nat.succ_mul] at this
            rw [HLF.out, hkm]; omega
          have hkn6 : km + m ≤ 1000000 := Nat.le_trans hkm2 (Nat.le_trans hLF9 (by decide))
          have hkm6 : km ≤ 1000000 := Nat.le_trans (Nat.le_add_right _ _) hkn6
          have HKM : Hid (km = k * (2 * t)) := Lib.hid (by rw [hkm, HM.out])
          obtain ⟨kn, hkn⟩ : ∃ kn, kn = km + m := ⟨_, rfl⟩
          have f1 : km ≤ kn := by omega
          have f2 : kn ≤ cF := by omega
          have f3 : ¬ kn = km := by omega
          have f4 : kn - km = m := by omega
          have f5 : (km : Int) ≤ (kn : Int) := by omega
          have f6 : (kn : Int) ≤ (cF : Int) := by omega
          have hgX : w.heap.size + 1 ≤ w0.heap.size := by omega
          have hgXF : w0.heap.size ≠ gF := by omega
          have f7 : max (kn : Int) 0 = (kn : Int) := by omega
          have e0 : IntKind.i64.wrap ((k : Int) + 1) = (k : Int) + 1 := IntWalk.i64_in _ ⟨by omega, by omega⟩
          obtain ⟨e1, e1b⟩ := mulwC k m km hkm hkm6
          obtain ⟨e2, e2b⟩ := mulwC1 k m km kn hkm hkn hkn6
          clear hkm
          clear hkn
          go_wp2_with fail
          refine wp_region_held_drew (S := fun w' => w'.cell? ⟨w.heap.size, 0, none⟩ = some (.slice ao S.length cap)) (by kernel_rfl) (c1) (fun hHeld => ?_)
          refine wpAnyH_take (i := 0) (v := ?_) rfl (by kernel_rfl) (by kernel_rfl) (by kernel_rfl) (fun _ _ _ h => h) (Or.inl ⟨by rfl, ?_⟩) (by assumption) ?_
          rotate_left
          · (intro w hSw; obtain hSw := hSw; (try dsimp only at hSw); go_simp; try (with_reducible rfl))
          (try simp only [Act.put, List.setIfInBounds_toArray, List.set_cons_zero, List.set_cons_succ, List.getElem_toArray, List.getElem_cons_succ, List.getElem_cons_zero])
          refine wpAnyH_take (i := 1) (v := ?_) rfl (by kernel_rfl) (by kernel_rfl) (by kernel_rfl) (fun _ _ _ h => h) (Or.inl ⟨by rfl, ?_⟩) (by assumption) ?_
          rotate_left
          · (intro w hSw; obtain hSw := hSw; (try dsimp only at hSw); go_simp; try (with_reducible rfl))
          (try simp only [Act.put, List.setIfInBounds_toArray, List.set_cons_zero, List.set_cons_succ, List.getElem_toArray, List.getElem_cons_succ, List.getElem_cons_zero])
          refine wpAnyH_take (i := 2) (v := ?_) rfl (by kernel_rfl) (by kernel_rfl) (by kernel_rfl) (fun _ _ _ h => h) (Or.inl ⟨by rfl, ?_⟩) (by assumption) ?_
          rotate_left
          · (intro w hSw; obtain hSw := hSw; (try dsimp only at hSw); go_simp; try (with_reducible rfl))
          (try simp only [Act.put, List.setIfInBounds_toArray, List.set_cons_zero, List.set_cons_succ, List.getElem_toArray, List.getElem_cons_succ, List.getElem_cons_zero])
          refine wpAnyH_take (i := 3) (v := ?_) rfl (by kernel_rfl) (by kernel_rfl) (by kernel_rfl) (fun _ _ _ h => h) (Or.inl ⟨by rfl, ?_⟩) (by assumption) ?_
          rotate_left
          · (intro w hSw; obtain hSw := hSw; (try dsimp only at hSw); go_simp; try (with_reducible rfl))
          (try simp only [Act.put, List.setIfInBounds_toArray, List.set_cons_zero, List.set_cons_succ, List.getElem_toArray, List.getElem_cons_succ, List.getElem_cons_zero])
          refine wpAnyH_take (i := 4) (v := ?_) rfl (by kernel_rfl) (by kernel_rfl) (by kernel_rfl) (fun _ _ _ h => h) (Or.inl ⟨by rfl, ?_⟩) (by assumption) ?_
          rotate_left
          · (intro w hSw; obtain hSw := hSw; (try dsimp only at hSw); go_simp; try (with_reducible rfl))
          (try simp only [Act.put, List.setIfInBounds_toArray, List.set_cons_zero, List.set_cons_succ, List.getElem_toArray, List.getElem_cons_succ, List.getElem_cons_zero])
          refine wpAnyH_take (i := 5) (v := ?_) rfl (by kernel_rfl) (by kernel_rfl) (by kernel_rfl) (fun _ _ _ h => h) (Or.inl ⟨by rfl, ?_⟩) (by assumption) ?_
          rotate_left
          · (intro w hSw; obtain hSw := hSw; (try dsimp only at hSw); go_simp; try (with_reducible rfl))
          (try simp only [Act.put, List.setIfInBounds_toArray, List.set_cons_zero, List.set_cons_succ, List.getElem_toArray, List.getElem_cons_succ, List.getElem_cons_zero])
          refine wpAnyH_take (i := 6) (v := ?_) rfl (by kernel_rfl) (by kernel_rfl) (by kernel_rfl) (fun _ _ _ h => h) (Or.inl ⟨by rfl, ?_⟩) (by assumption) ?_
          rotate_left
          · (intro w hSw; obtain hSw := hSw; (try dsimp only at hSw); go_simp; try (with_reducible rfl))
          (try simp only [Act.put, List.setIfInBounds_toArray, List.set_cons_zero, List.set_cons_succ, List.getElem_toArray, List.getElem_cons_succ, List.getElem_cons_zero])
          refine wpAnyH_take (i := 7) (v := ?_) rfl (by kernel_rfl) (by kernel_rfl) (by kernel_rfl) (fun _ _ _ h => h) (Or.inl ⟨by rfl, ?_⟩) (by assumption) ?_
          rotate_left
          · (intro w hSw; obtain hSw := hSw; (try dsimp only at hSw); go_simp; try (with_reducible rfl))
          (try simp only [Act.put, List.setIfInBounds_toArray, List.set_cons_zero, List.set_cons_succ, List.getElem_toArray, List.getElem_cons_succ, List.getElem_cons_zero])
          refine wpAnyH_take (i := 8) (v := ?_) rfl (by kernel_rfl) (by kernel_rfl) (by kernel_rfl) (fun _ _ _ h => h) (Or.inl ⟨by rfl, ?_⟩) (by assumption) ?_
          rotate_left
          · (intro w hSw; obtain hSw := hSw; (try dsimp only at hSw); go_simp; try (with_reducible rfl))
          (try simp only [Act.put, List.setIfInBounds_toArray, List.set_cons_zero, List.set_cons_succ, List.getElem_toArray, List.getElem_cons_succ, List.getElem_cons_zero])
          refine wpAnyH_take (i := 9) (v := ?_) rfl (by kernel_rfl) (by kernel_rfl) (by kernel_rfl) (fun _ _ _ h => h) (Or.inl ⟨by rfl, ?_⟩) (by assumption) ?_
          rotate_left
          · (intro w hSw; obtain hSw := hSw; (try dsimp only at hSw); go_simp; try (with_reducible rfl))
          (try simp only [Act.put, List.setIfInBounds_toArray, List.set_cons_zero, List.set_cons_succ, List.getElem_toArray, List.getElem_cons_succ, List.getElem_cons_zero])
          refine wpAnyH_take (i := 10) (v := ?_) rfl (by kernel_rfl) (by kernel_rfl) (by kernel_rfl) (fun _ _ _ h => h) (Or.inl ⟨by rfl, ?_⟩) (by assumption) ?_
          rotate_left
          · (intro w hSw; obtain hSw := hSw; (try dsimp only at hSw); go_simp; try (with_reducible rfl))
          (try simp only [Act.put, List.setIfInBounds_toArray, List.set_cons_zero, List.set_cons_succ, List.getElem_toArray, List.getElem_cons_succ, List.getElem_cons_zero])
          refine wpAnyH_take (i := 11) (v := ?_) rfl (by kernel_rfl) (by kernel_rfl) (by kernel_rfl) (fun _ _ _ h => h) (Or.inl ⟨by rfl, ?_⟩) (by assumption) ?_
          rotate_left
          · (intro w hSw; obtain hSw := hSw; (try dsimp only at hSw); go_simp; try (with_reducible rfl))
          (try simp only [Act.put, List.setIfInBounds_toArray, List.set_cons_zero, List.set_cons_succ, List.getElem_toArray, List.getElem_cons_succ, List.getElem_cons_zero])
          refine wpAnyH_take (i := 12) (v := ?_) rfl (by kernel_rfl) (by kernel_rfl) (by kernel_rfl) (fun _ _ _ h => h) (Or.inl ⟨by rfl, ?_⟩) (by assumption) ?_
          rotate_left
          · (intro w hSw; obtain hSw := hSw; (try dsimp only at hSw); go_simp; try (with_reducible rfl))
          (try simp only [Act.put, List.setIfInBounds_toArray, List.set_cons_zero, List.set_cons_succ, List.getElem_toArray, List.getElem_cons_succ, List.getElem_cons_zero])
          refine wpAnyH_take (i := 13) (v := ?_) rfl (by kernel_rfl) (by kernel_rfl) (by kernel_rfl) (fun _ _ _ h => h) (Or.inl ⟨by rfl, ?_⟩) (by assumption) ?_
          rotate_left
          · (intro w hSw; obtain hSw := hSw; (try dsimp only at hSw); go_simp; try (with_reducible rfl))
          (try simp only [Act.put, List.setIfInBounds_toArray, List.set_cons_zero, List.set_cons_succ, List.getElem_toArray, List.getElem_cons_succ, List.getElem_cons_zero])
          refine wpAnyH_take (i := 14) (v := ?_) rfl (by kernel_rfl) (by kernel_rfl) (by kernel_rfl) (fun _ _ _ h => h) (Or.inl ⟨by rfl, ?_⟩) (by assumption) ?_
          rotate_left
          · (intro w hSw; obtain hSw := hSw; (try dsimp only at hSw); go_simp; try (with_reducible rfl))
          (try simp only [Act.put, List.setIfInBounds_toArray, List.set_cons_zero, List.set_cons_succ, List.getElem_toArray, List.getElem_cons_succ, List.getElem_cons_zero])
          refine wpAnyH_take (i := 15) (v := ?_) rfl (by kernel_rfl) (by kernel_rfl) (by kernel_rfl) (fun _ _ _ h => h) (Or.inl ⟨by rfl, ?_⟩) (by assumption) ?_
          rotate_left
          · (intro w hSw; obtain hSw := hSw; (try dsimp only at hSw); go_simp; try (with_reducible rfl))
          (try simp only [Act.put, List.setIfInBounds_toArray, List.set_cons_zero, List.set_cons_succ, List.getElem_toArray, List.getElem_cons_succ, List.getElem_cons_zero])
          refine wpAnyH_ready (rs := [16]) (by kernel_rfl) (by simp) ?_
          refine AllReadyH.cons rfl (fun K hK => ?_) AllReadyH.nil
          go_simp
          (go_at_call 65; refine (HCO.out km _).mono ?_)
          rintro e x1 ⟨rfl, hb1⟩
          have H1 : Below wr.heap.size wr x1 := Below.trans (Below.refl wr.heap.size wr).drew (hb1.mono (Below.size (Below.refl wr.heap.size wr).drew))
          refine hK.out _ _ (kept_cell H1 c1 l1) (fun hHeld => ?_)
          clear hK K
          (try simp only [Act.put, List.setIfInBounds_toArray, List.set_cons_zero, List.set_cons_succ, List.getElem_toArray, List.getElem_cons_succ, List.getElem_cons_zero])
          refine wpAnyH_take (i := 17) (v := ?_) rfl (by kernel_rfl) (by kernel_rfl) (by kernel_rfl) (fun _ _ _ h => h) (Or.inl ⟨by rfl, ?_⟩) (by assumption) ?_
          rotate_left
          · (intro w hSw; obtain hSw := hSw; (try dsimp only at hSw); go_simp; try (with_reducible rfl))
          (try simp only [Act.put, List.setIfInBounds_toArray, List.set_cons_zero, List.set_cons_succ, List.getElem_toArray, List.getElem_cons_succ, List.getElem_cons_zero])
          refine wpAnyH_ready (rs := [18]) (by kernel_rfl) (by simp) ?_
          refine AllReadyH.cons rfl (fun K hK => ?_) AllReadyH.nil
          rw [if_pos (by kernel_rfl)]
          obtain ⟨w9, hst, oX9, g9⟩ := (oX.below H1).stored k (by rw [HX.out.1]; exact hlt) (chX ao S.length cap gF t km) (chX_one _ _ _ _ _ _)
          refine wp_stX (.tmp 71) (.tmp 70) (by kernel_rfl) (by kernel_rfl) (by kernel_rfl) hst ?_
          have H9 : Below (w.heap.size + 1) wr w9 := (Below.mono H1 l1).grown g9 (Nat.le_trans l1 (Below.size H1)) (fun z hz => by cases hz; exact hgX)
          refine hK.out _ _ (kept_cell H9 c1 (Nat.lt_succ_self _)) (fun hHeld => ?_)
          clear hK K
          (try simp only [Act.put, List.setIfInBounds_toArray, List.set_cons_zero, List.set_cons_succ, List.getElem_toArray, List.getElem_cons_succ, List.getElem_cons_zero])
          refine wpAnyH_done (by kernel_rfl) ?_ _
          (try simp only [Act.put, List.setIfInBounds_toArray, List.set_cons_zero, List.set_cons_succ, List.getElem_toArray, List.getElem_cons_succ, List.getElem_cons_zero])
          have oF9 := (oF.below H1).kept g9 (.inr (by intro e; exact hgXF (Option.some.inj e).symm))
          have c9 := kept_cell H9 c1 (Nat.lt_succ_self _)
          have l9 := Nat.lt_of_lt_of_le l1 H9.size
          have B9 := B.trans (H9.mono (Nat.le_succ _))
          clear hHeld oX oF c1 l1 B g9 H9 hst
          have HX9 : Hid ((X.set k (chX ao S.length cap gF t km)).length = NC ∧ ∀ j, j < k + 1 → xAt (X.set k (chX ao S.length cap gF t km)) j = chX ao S.length cap gF t (j * (2 * t))) := Lib.hid ⟨by rw [List.length_set]; exact HX.out.1, fun j hj => by
            rw [xAt_set _ _ _ _ (by rw [HX.out.1]; exact hlt)]
            by_cases e : j = k
            · subst e; rw [if_pos rfl, HKM.out]
            · rw [if_neg e]; exact HX.out.2 j (by omega)⟩
          clear e0 f7 e1 e1b e2 e2b f1 f2 f3 f4 f5 f6
          go_wp2_with fail
          go_roundw
          case rel => exact ⟨k + 1, _, by omega, by go_num, oX9, HX9, oF9, c9, l9, B9⟩
          case measure => simp [intOf]; omega
        · have hkI : ¬ (k : Int) < (NC : Int) := by omega
          have HXe : Hid (X = chL ao S.length cap gF t NC) := Lib.hid (xs_ext (by rw [HX.out.1, chL_len]) fun j hj => by rw [HX.out.1] at hj; rw [HX.out.2 j (by omega), xAt_chL _ _ _ _ _ _ _ hj])
          rw [HXe.out] at oX
          go_wp2_with fail
          go_ret
          rw [← HNC.out]
          exact ⟨w0.heap.size, rfl, gF, oX.rebase (by omega), ⟨LF, cF, oF.rebase (Nat.le_succ _)⟩, B⟩

end Go.Proofs.YtpmfedllbiblbaaGreat
