/-
  The program's Hamming columns: lists of arrays of three digits. By an AI agent.
-/
import Derived.Test.YtcnnijeokefboabPk21
import Derived.Test.YtcnnijeokefboabRep
import Derived.Test.YtcnnijeokefboabPk30
namespace Go.Proofs.Ytcnnijeokefboab
open Go.RowKit Cv
set_option linter.unusedVariables false
set_option linter.unusedSimpArgs false
set_option maxRecDepth 100000

/-- the words whose digits are the columns, of the first t blocks -/
def wcl (q : Int) : Nat → List Int
  | 0 => []
  | t + 1 => wcl q t ++ (List.range (pT q t).toNat).map fun (i : Nat) => pT q t + i
def wcj (q : Int) (t j : Nat) : List Int := wcl q t ++ (List.range j).map fun (i : Nat) => pT q t + i
theorem wcj_zero (q : Int) (t : Nat) : wcj q t 0 = wcl q t := by simp [wcj]
theorem wcj_end (q : Int) (t : Nat) : wcj q t (pT q t).toNat = wcl q (t + 1) := rfl
theorem wcj_succ (q : Int) (t j : Nat) : wcj q t (j + 1) = wcj q t j ++ [pT q t + j] := by
  unfold wcj; rw [List.range_succ, List.map_append, List.append_assoc]; rfl
/-- the three digits of a word -/
def c3 (q x : Int) : List Int := digs [q, q, q] x
theorem c3_len (q x : Int) : (c3 q x).length = 3 := rfl
theorem sp3 {q : Int} (hq : q = 2 ∨ q = 3) : Sp [q, q, q] := by
  rw [← isSp_iff]
  rcases hq with rfl | rfl <;> decide
theorem pc_all {q : Int} (hq : q = 2 ∨ q = 3) {m : Nat} (hm : m = 1 ∨ m = 2 ∨ m = 3) : (wcl q m).length = (colL q m).length ∧ ∀ i, i < (wcl q m).length → (c3 q (gi (wcl q m) i)).drop (3 - m) = (colL q m).getD i [] := by
  rcases hq with rfl | rfl <;> rcases hm with rfl | rfl | rfl <;> decide
theorem wcl_len {q : Int} (hq : q = 2 ∨ q = 3) {t : Nat} (ht : t ≤ 3) : (wcl q t).length ≤ 13 := by
  rcases hq with rfl | rfl <;> rcases (show t = 0 ∨ t = 1 ∨ t = 2 ∨ t = 3 by omega) with rfl | rfl | rfl | rfl <;> decide
theorem pT_step {q : Int} (hq : q = 2 ∨ q = 3) {t m : Nat} (ht : t < m) (hm : m ≤ 3) : pT q t < pT q m ∧ pT q t * q ≤ pT q m ∧ pT q t < pT q t * q := by
  rcases hq with rfl | rfl <;> rcases (show m = 1 ∨ m = 2 ∨ m = 3 by omega) with rfl | rfl | rfl <;> rcases (show t = 0 ∨ t = 1 ∨ t = 2 by omega) with rfl | rfl | rfl <;> first | omega | decide
theorem prod_pT {q : Int} (hq : q = 2 ∨ q = 3) {m : Nat} (hm : m = 1 ∨ m = 2 ∨ m = 3) : prodTo (List.replicate m q) (List.replicate m q).length = pT q m := by
  rcases hq with rfl | rfl <;> rcases hm with rfl | rfl | rfl <;> decide

theorem wcj_len (q : Int) (t j : Nat) : (wcj q t j).length = (wcl q t).length + j := by simp [wcj]
theorem c3_cells {w : World} {q x y0 y1 y2 : Int} {t : TypeId} (h : y0 = gi (c3 q x) 0 ∧ y1 = gi (c3 q x) 1 ∧ y2 = gi (c3 q x) 2) : ∀ j, j < 3 → (w.alloc (.cells #[.int .i64 y0, .int .i64 y1, .int .i64 y2] t)).cell? ⟨w.heap.size, j, none⟩ = some (.int .i64 (gi (c3 q x) j)) := by
  intro j hj
  match j, hj with
  | 0, _ => rw [← h.1]; simp
  | 1, _ => rw [← h.2.1]; simp
  | 2, _ => rw [← h.2.2]; simp
theorem ints_grown {w w' : World} {b o : Nat} {S : List Int} {r : Option Nat} (h : Ints w (some ⟨b, o, none⟩) S) (hg : w.grownBy w' r) (hne : some b ≠ r) : Ints w' (some ⟨b, o, none⟩) S := by
  rcases h with h | ⟨b', o', he, hlt, hc⟩
  · exact .inl h
  · simp only [Option.some.injEq, Addr.mk.injEq, and_true] at he
    obtain ⟨rfl, rfl⟩ := he
    exact .inr ⟨_, _, rfl, Nat.lt_of_lt_of_le hlt hg.size, fun i hi => hg.cell (a := ⟨b, o + i, none⟩) (hc i hi) hne⟩

/-- columns that a call made and owns -/
def flat3 (q : Int) (Ws : List Int) : List Value := Ws.flatMap fun x => (c3 q x).map (Value.int .i64)
def OwnA3 (q : Int) (w : World) (base : Nat) (v : Value) (Ws : List Int) : Prop := w.ownsRow base 67 3 v Ws.length (flat3 q Ws)
theorem flat3_snoc (q : Int) (Ws : List Int) (x : Int) : flat3 q (Ws ++ [x]) = flat3 q Ws ++ (c3 q x).map (Value.int .i64) := by simp [flat3]
theorem flat3_len (q : Int) (Ws : List Int) : (flat3 q Ws).length = Ws.length * 3 := by
  induction Ws with
  | nil => rfl
  | cons x Ws ih =>
    have e : flat3 q (x :: Ws) = (c3 q x).map (Value.int .i64) ++ flat3 q Ws := rfl
    rw [e, List.length_append, ih, List.length_map, c3_len, List.length_cons]; omega
theorem info3 : (Try.prog.info? 67).map (fun i => (i.zero, i.size, i.bytes)) = some (some (.agg #[.int .i64 0, .int .i64 0, .int .i64 0]), 3, 24) := by kernel_rfl
theorem own3_empty (q : Int) (w : World) (base : Nat) (h : base ≤ w.heap.size) {n : Nat} (hn : n = w.heap.size) : OwnA3 q (w.alloc (.cells #[] 67)) base (.slice (some ⟨n, 0, none⟩) 0 0) [] := by
  subst hn
  exact World.ownsRow_made w #[] 0 h (by simp [maxLen]) (by simp)
theorem own3_below {q : Int} {w w' : World} {base : Nat} {v : Value} {Ws : List Int} (h : OwnA3 q w base v Ws) (hb : Below w.heap.size w w') : OwnA3 q w' base v Ws := by
  obtain ⟨h1, h2⟩ := h
  refine ⟨h1, ?_⟩
  rcases h2 with h2 | ⟨g, cap, cur, hv, hg, hh, r⟩
  · exact Or.inl h2
  · exact Or.inr ⟨g, cap, cur, hv, hg, by rw [hb.block g (Array.getElem?_eq_some_iff.1 hh).1]; exact hh, r⟩
theorem own3_shape {q : Int} {w : World} {base : Nat} {v : Value} {Ws : List Int} (h : OwnA3 q w base v Ws) : ∃ a c, v = .slice a Ws.length c := by
  rcases h.2 with ⟨hv, hn⟩ | ⟨g, cap, cur, hv, _⟩
  · exact ⟨none, 0, by rw [hn]; exact hv⟩
  · exact ⟨_, _, hv⟩

theorem wpList_append_a3 {w : World} {ops : Array Oper} {rest : List Oper} {o : Oper} {a : Act} {Q : Exit → Act → World → Prop} (hgd : o.guard = none) (s x : Operand)
    (ho : o.op = .call { callee := .builtin .append, args := #[s, x], argTypes := #[60, 60] })
    (q : Int) (base : Nat) (v : Value) (L : List Int) (hs : a.eval s = v) (hown : OwnA3 q w base v L) (b : Nat) (y : Int) (hx : a.eval x = .slice (some ⟨b, 0, none⟩) 1 1) (hc : ∀ j, j < 3 → w.cell? ⟨b, j, none⟩ = some (.int .i64 (gi (c3 q y) j)))
    (hlen : L.length ≤ 1048576) (hbase : base ≤ w.heap.size)
    (h : ∀ v' w', OwnA3 q w' base v' (L ++ [y]) → w.grownBy w' v.ownBlock → (v'.ownBlock = v.ownBlock ∨ v'.ownBlock = some w.heap.size) → wpList Try.prog ops Q rest (a.put o.dst v') w') : wpList Try.prog ops Q (o :: rest) a w := by
  obtain ⟨i0, hi, hz0, hz1, hz2⟩ := info_parts info3
  refine wpList_append_own_at w hgd s x 60 ho base 67 i0 (.agg #[.int .i64 0, .int .i64 0, .int .i64 0]) 3 24 Try.underlying60 hi hz0 hz1 hz2 rfl (by decide) v L.length (flat3 q L) hs hown ⟨b, 0, none⟩ 1 1 ((c3 q y).map (Value.int .i64)) hx (by simp [c3_len]) ?_ ?_ (by unfold maxLen; omega) (by omega) hbase ?_
  · intro j u hj
    have hlt : j < 3 := by have := (List.getElem?_eq_some_iff.1 hj).1; simpa [c3_len] using this
    have hadd : (⟨b, 0, none⟩ : Addr).add j = ⟨b, j, none⟩ := by unfold Addr.add; split <;> simp_all
    rw [hadd, hc j hlt]
    rw [gi_map _ j (by rw [c3_len]; exact hlt)] at hj
    exact hj
  · intro u hu
    obtain ⟨z, _, rfl⟩ := List.mem_map.1 hu
    rfl
  · intro v' w' h1 h2 _ h3
    refine h v' w' ?_ h2 h3
    unfold OwnA3
    rw [List.length_append, flat3_snoc]
    exact h1

theorem ldVar3 {w : World} {g : Nat} {y0 y1 y2 : Int} (h0 : w.cell? ⟨g, 0, none⟩ = some (.int .i64 y0)) (h1 : w.cell? ⟨g, 1, none⟩ = some (.int .i64 y1)) (h2 : w.cell? ⟨g, 2, none⟩ = some (.int .i64 y2)) :
    (loadVar 67 ⟨g, 0, none⟩).run Try.prog w = .ok (.agg #[.int .i64 y0, .int .i64 y1, .int .i64 y2]) w := by
  have hld := run_loadCells_list (P := Try.prog) w ⟨g, 0, none⟩ [.int .i64 y0, .int .i64 y1, .int .i64 y2] (fun j v hv => by
    have hadd : (⟨g, 0, none⟩ : Addr).add j = ⟨g, j, none⟩ := by unfold Addr.add; split <;> simp_all
    rw [hadd]
    match j, hv with
    | 0, hv => simp at hv; subst hv; exact h0
    | 1, hv => simp at hv; subst hv; exact h1
    | 2, hv => simp at hv; subst hv; exact h2)
  have hi3 : (Try.prog.info? 67).map (·.size) = some 3 := by kernel_rfl
  cases hq : Try.prog.info? 67 with
  | none => simp [hq] at hi3
  | some i =>
    have hs : i.size = 3 := by simpa [hq] using hi3
    have hagg : (isAgg 67).run Try.prog w = .ok true w := by
      unfold isAgg
      rw [Sem.run_bind, run_underlying Try.underlying67 w]
      rfl
    simp only [List.length_cons, List.length_nil] at hld
    simp [loadVar, Sem.run_bind, hagg, sizeOf, typeInfo, hq, hs, hld]

/-- the digits of one word of the plain space of three places -/
theorem digitParts_3 (g : Nat) (cap : Nat) (q : Int) (hq : q = 2 ∨ q = 3) (x : Int) (hx : 0 ≤ x) (hx2 : x ≤ 9223372036854775807) (a1 : Option Addr) (c1 : Nat) (w : World) (hS : Ints w (some ⟨g, 0, none⟩) [q, q, q]) (hT : Ints w a1 [x]) :
    Calls Try.prog 42 #[.agg #[.slice (some ⟨g, 0, none⟩) 3 cap], .slice a1 1 c1] w fun e w' =>
      ∃ P g', e = .returned (.slice (some ⟨P, 0, none⟩) 1 1) ∧ w'.cell? ⟨P, 0, none⟩ = some (.slice (some ⟨g', 0, none⟩) 3 3) ∧ (∀ j, j < 3 → w'.cell? ⟨g', j, none⟩ = some (.int .i64 (gi (c3 q x) j))) ∧ Below w.heap.size w w' := by
  refine (digitParts_1 (some ⟨g, 0, none⟩) [q, q, q] cap (sp3 hq) x hx hx2 a1 c1 w hS hT).mono ?_
  rintro e w' ⟨P, g', rfl, h1, h2, h3, h4⟩
  exact ⟨P, g', rfl, h1, fun j hj => h2.cell (k := j) (by rw [digs_length]; exact hj), h4⟩
theorem wordCount_m (g m cap : Nat) (q : Int) (hq : q = 2 ∨ q = 3) (hm : m = 1 ∨ m = 2 ∨ m = 3) (w : World) (hS : Ints w (some ⟨g, 0, none⟩) (List.replicate m q)) :
    Calls Try.prog 63 #[.agg #[.slice (some ⟨g, 0, none⟩) m cap]] w fun e w' => e = .returned (.int .i64 (pT q m)) ∧ Below w.heap.size w w' := by
  have h := wordCount_any (some ⟨g, 0, none⟩) (List.replicate m q) cap w (by simp; omega) (fun i hi => by simp at hi; simp [gi, hi]; omega) hS
  rw [prod_pT hq hm, List.length_replicate] at h
  exact h

set_option maxHeartbeats 2000000 in
theorem columnsFor_in (q : Int) (hq : q = 2 ∨ q = 3) (m : Nat) (hm : m = 1 ∨ m = 2 ∨ m = 3) (a : Int) (ha : -9223372036854775808 ≤ a ∧ a ≤ (m : Int)) (w : World) :
    Calls Try.prog 40 #[.int .i64 q, .int .i64 (m : Int), .int .i64 a] w fun e w' =>
      ((8 < (wcl q m).length ∧ e = .returned (.tuple #[.slice none 0 0, .int .i64 3])) ∨ (¬ 8 < (wcl q m).length ∧ ∃ v, e = .returned (.tuple #[v, .int .i64 0]) ∧ OwnA3 q w' w.heap.size v (wcl q m))) ∧ Below w.heap.size w w' := by
  have hq2 : 2 ≤ q := by omega
  have hq3 : q ≤ 3 := by omega
  have hm1 : 1 ≤ m := by omega
  have hm3 : m ≤ 3 := by omega
  have HQ := Lib.hid hq
  have HM := Lib.hid hm
  have g1 : ¬ (m : Int) < a := by omega
  clear hq hm
  go_enter Try.func40, Try.ntmps40
  go_wp2_with fail
  have o30 := own3_empty q w w.heap.size (Nat.le_refl _) rfl
  refine (plainSpaceOf_any q 3 (by omega) _).mono ?_
  rintro e w1 ⟨gx, rfl, ox, hb⟩
  have hbx := ox.base_le
  have o31 := own3_below o30 hb
  have hIx : Ints w1 (some ⟨gx, 0, none⟩) [q, q, q] := own_ints ox
  have B1 : Below w.heap.size w w1 := Below.trans (by go_grown) (hb.mono (by simp))
  have s1 : w.heap.size < w1.heap.size := by have := hb.size; simp at this; omega
  have hgx : w.heap.size < gx := by have := hbx.1; simp at this; omega
  have hgx2 := hbx.2
  clear hb hbx o30 ox
  obtain ⟨W0, hW0⟩ : ∃ W0, W0 = w1.alloc (.cells #[.slice (some ⟨gx, 0, none⟩) 3 3] 26) := ⟨_, rfl⟩
  have BX : Below w1.heap.size w1 W0 := by rw [hW0]; exact (Below.refl _ w1).alloc (Nat.le_refl _) _
  have hX : W0.cell? ⟨w1.heap.size, 0, none⟩ = some (.slice (some ⟨gx, 0, none⟩) 3 3) := by rw [hW0]; exact cell_new _ _ _
  have hY : w1.heap.size < W0.heap.size := by rw [hW0]; exact lt_alloc _ _
  have HW0 := Lib.hid hW0
  have o32 := own3_below o31 BX
  have hI2 := hIx.below BX
  have B2 : Below w.heap.size w W0 := B1.trans (BX.mono (by omega))
  clear hW0 BX o31 hIx B1
  go_wp2_with fail
  rw [← HW0.out]
  obtain ⟨Y, hYe⟩ : ∃ Y, Y = W0.heap.size := ⟨_, rfl⟩
  have hY2 : Y ≤ W0.heap.size := by omega
  rw [← hYe] at hY
  obtain ⟨X, hXe⟩ : ∃ X, X = w1.heap.size := ⟨_, rfl⟩
  rw [← hXe] at hX hY s1 hgx2 ⊢
  clear hYe hXe
  go_loopw [8, 10] (fun v f wr => ∃ t : Nat, t ≤ m ∧ f = .int .i64 (pT q t) ∧ OwnA3 q wr w.heap.size v (wcl q t) ∧ (∀ k, v.ownBlock = some k → k = w.heap.size ∨ Y ≤ k) ∧ wr.cell? ⟨X, 0, none⟩ = some (.slice (some ⟨gx, 0, none⟩) 3 3) ∧ Ints wr (some ⟨gx, 0, none⟩) [q, q, q] ∧ Y ≤ wr.heap.size ∧ Below w.heap.size w wr) (fun _ f _ => (pT q m - intOf f).toNat)
  case atStart => exact ⟨0, Nat.zero_le _, rfl, o32, fun k hk => .inl (by simp [Value.ownBlock] at hk; omega), hX, hI2, hY2, B2⟩
  case round =>
    clear o32 hX hI2 hY2 B2
    obtain ⟨t, ht, rfl, o3, hvb, hX, hI, hYw, B⟩ := hrel
    obtain ⟨pb1, pb2⟩ := pT_bd HQ.out (show t ≤ 3 by omega)
    obtain ⟨pm1, pm2⟩ := pT_bd HQ.out (show m ≤ 3 by omega)
    have HWL := Lib.hid (wcl_len HQ.out (show t ≤ 3 by omega))
    have HPS := Lib.hid fun (h : t < m) => pT_step HQ.out h hm3
    obtain ⟨n, hn⟩ : ∃ n : Nat, pT q t = (n : Int) := ⟨(pT q t).toNat, by omega⟩
    have HN := Lib.hid hn
    have HNe : Hid (wcj q t n = wcl q (t + 1)) := Lib.hid (by rw [← wcj_end, hn]; simp)
    have HNs := Lib.hid fun j => wcj_succ q t j
    rw [hn] at pb1 pb2 HPS ⊢
    obtain ⟨M, hMe⟩ : ∃ M, M = pT q m := ⟨_, rfl⟩
    rw [← hMe] at pm1 pm2 HPS ⊢
    have HMe := Lib.hid hMe
    clear hMe hn
    go_wp2_with fail
    refine (plainSpaceOf_any q m (by have := HM.out; omega) _).mono ?_
    rintro e w2 ⟨g2, rfl, own2, hb2⟩
    go_wp2_with fail
    refine (wordCount_m g2 m m q HQ.out HM.out _ (own_ints own2)).mono ?_
    rintro e w3 ⟨rfl, hb3⟩
    rw [← HMe.out]
    have hb : Below wr.heap.size wr w3 := hb2.trans (hb3.mono hb2.size)
    replace o3 := own3_below o3 hb
    replace hX := kept_cell hb hX (by omega)
    replace hI := hI.below hb
    replace hYw := Nat.le_trans hYw hb.size
    replace B := B.trans (hb.mono B.size)
    clear hb hb2 hb3 own2
    by_cases hlt : t < m
    · obtain ⟨e1, e2, e3⟩ := HPS.out hlt
      have EW : wrap64 ((n : Int) * q) = (n : Int) * q := by unfold wrap64; omega
      have HE := Lib.hid (And.intro e1 (And.intro e2 (And.intro e3 EW)))
      clear e2 e3 EW
      go_wp2_with fail
      rw [← wcj_zero] at o3
      go_loopw [8, 11] (fun v x wr => ∃ j : Nat, j ≤ n ∧ x = .int .i64 ((n : Int) + j) ∧ OwnA3 q wr w.heap.size v (wcj q t j) ∧ (∀ k, v.ownBlock = some k → k = w.heap.size ∨ Y ≤ k) ∧ wr.cell? ⟨X, 0, none⟩ = some (.slice (some ⟨gx, 0, none⟩) 3 3) ∧ Ints wr (some ⟨gx, 0, none⟩) [q, q, q] ∧ Y ≤ wr.heap.size ∧ Below w.heap.size w wr) (fun _ x _ => (2 * (n : Int) - intOf x).toNat)
      case atStart => exact ⟨0, Nat.zero_le _, by simp, o3, hvb, hX, hI, hYw, B⟩
      case round =>
        clear o3 hvb hX hI hYw B e1
        obtain ⟨j, hj, rfl, o3, hvb, hX, hI, hYw, B⟩ := hrel
        by_cases hlj : j < n
        · have HS := Lib.hid (HNs.out j)
          go_wp2_with fail
          refine (digitParts_3 gx 3 q HQ.out ((n : Int) + (j : Int)) (by omega) (by omega) _ 1 _ (hI.below ((Below.refl _ wr).alloc (Nat.le_refl _) _)) (ints_new1 wr _ _ rfl)).mono ?_
          rintro e w4 ⟨P, g', rfl, r0, hd, hb'⟩
          have hb : Below wr.heap.size wr w4 := Below.trans ((Below.refl _ wr).alloc (Nat.le_refl _) _) (hb'.mono (by simp))
          have o4 := own3_below o3 hb
          have hX4 := kept_cell hb hX (by omega)
          have hI4 := hI.below hb
          have hYw4 := Nat.le_trans hYw hb.size
          have B4 := B.trans (hb.mono B.size)
          have d0 := hd 0 (by omega)
          have d1 := hd 1 (by omega)
          have d2 := hd 2 (by omega)
          obtain ⟨y0, hy0⟩ : ∃ y, y = gi (c3 q ((n : Int) + (j : Int))) 0 := ⟨_, rfl⟩
          obtain ⟨y1, hy1⟩ : ∃ y, y = gi (c3 q ((n : Int) + (j : Int))) 1 := ⟨_, rfl⟩
          obtain ⟨y2, hy2⟩ : ∃ y, y = gi (c3 q ((n : Int) + (j : Int))) 2 := ⟨_, rfl⟩
          rw [← hy0] at d0
          rw [← hy1] at d1
          rw [← hy2] at d2
          have HY := Lib.hid (And.intro hy0 (And.intro hy1 hy2))
          have ha := run_arrayAt (P := Try.prog) (w := w4) 67 2 3 (some ⟨g', 0, none⟩) 3 3 Try.underlying67 (Nat.le_refl _)
          have hl := ldVar3 d0 d1 d2
          clear hb hb' o3 hX hI hYw B hd hy0 hy1 hy2
          have hlen := wcj_len q t j
          have hwl := HWL.out
          go_wp2_with (at_builtin; clear ha hl; refine wpList_append_a3 rfl _ _ rfl q w.heap.size _ (wcj q t j) rfl (own3_below o4 ((Below.refl _ w4).alloc (Nat.le_refl _) _)) w4.heap.size ((n : Int) + (j : Int)) rfl (c3_cells HY.out) (by omega) (Nat.le_trans B4.size (by simp)) ?_; intro v' w8 o8 hgrow hnew)
          have B8 := (B4.alloc B4.size _).grown hgrow (Nat.le_trans B4.size (by simp)) (fun k hk => (World.ownsRow.lt o4 k hk).1)
          have hX8 := hgrow.cell (a := ⟨X, 0, none⟩) (kept_cell ((Below.refl _ w4).alloc (Nat.le_refl _) _) hX4 (by omega)) (fun e => by rcases hvb _ e.symm with h | h <;> simp at h <;> omega)
          have hI8 := ints_grown (hI4.below ((Below.refl _ w4).alloc (Nat.le_refl _) _)) hgrow (fun e => by rcases hvb _ e.symm with h | h <;> omega)
          have hYw8 := Nat.le_trans (Nat.le_trans hYw4 (by simp)) hgrow.size
          have hvb8 : ∀ k, v'.ownBlock = some k → k = w.heap.size ∨ Y ≤ k := fun k hk => by
            rcases hnew with e | e
            · exact hvb k (e.symm.trans hk)
            · rw [e] at hk
              have := Option.some.inj hk
              simp at this
              omega
          clear hgrow hnew o4 hX4 hI4 hYw4 B4 hvb d0 d1 d2 r0
          go_wp2_with fail
          go_roundw
          case rel => exact ⟨j + 1, by omega, by go_num, by rw [HS.out, HN.out]; exact o8, hvb8, hX8, hI8, hYw8, B8⟩
          case measure => simp [intOf]; omega
        · have hjn : Hid (j = n) := Lib.hid (by omega)
          have hX9 := hX
          go_wp2_with fail
          go_roundw
          case rel => exact ⟨t + 1, by omega, by rw [HE.out.2.2.2, show pT q (t + 1) = pT q t * q from rfl, HN.out], by rw [← HNe.out]; have h := o3; rw [hjn.out] at h; exact h, hvb, hX, hI, hYw, B⟩
          case measure =>
            rw [HE.out.2.2.2]
            have h1 := HE.out.1
            have h3 := HE.out.2.2.1
            simp only [intOf]
            omega
    · have htm : Hid (t = m) := Lib.hid (by omega)
      obtain ⟨av, cv, hv⟩ := own3_shape o3
      subst hv
      by_cases h8 : 8 < (wcl q t).length
      · have h8i : (8 : Int) < ((wcl q t).length : Int) := by omega
        have H8 := Lib.hid h8
        have hMn : ¬ (n : Int) < M := by have h1 := HN.out; have h2 := HMe.out; rw [htm.out] at h1; omega
        clear h8
        go_wp2_with fail
        go_ret2
        exact ⟨.inl ⟨by rw [← htm.out]; exact H8.out, rfl⟩, B⟩
      · have h8i : ¬ (8 : Int) < ((wcl q t).length : Int) := by omega
        have H8 := Lib.hid h8
        have hMn : ¬ (n : Int) < M := by have h1 := HN.out; have h2 := HMe.out; rw [htm.out] at h1; omega
        clear h8
        go_wp2_with fail
        go_ret2
        exact ⟨.inr ⟨by rw [← htm.out]; exact H8.out, _, rfl, by rw [← htm.out]; exact o3⟩, B⟩

end Go.Proofs.Ytcnnijeokefboab
