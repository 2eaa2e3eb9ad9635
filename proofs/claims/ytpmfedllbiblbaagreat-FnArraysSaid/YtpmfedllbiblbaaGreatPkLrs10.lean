/-
  The model's LeanRows. By an AI agent.
-/
import Derived.Test.YtpmfedllbiblbaaGreatPk39
namespace Go.Proofs.YtpmfedllbiblbaaGreat
open Go.RowKit Cv
set_option linter.unusedVariables false
set_option linter.unusedSimpArgs false
set_option maxRecDepth 100000

theorem ret_vL {v : Value} {c d : Int} (h2 : c = d) : Ending.returned (.tuple #[v, .int .i64 c]) = .returned (.tuple #[v, .int .i64 d]) := by rw [h2]
theorem own_someN {w : World} {base : Nat} {v : Value} {L : List Int} (h : OwnInts w base v L) (hn : v ≠ .slice none 0 0) : ∃ g c, v = .slice (some ⟨g, 0, none⟩) L.length c := by
  rcases h.2 with ⟨rfl, _⟩ | ⟨g, c, cur, rfl, _⟩
  · exact absurd rfl hn
  · exact ⟨g, c, rfl⟩
theorem wp_append_ints10 {w : World} {o : Oper} {a : Act} {K : Act → World → Prop} {Q : Exit → Act → World → Prop} (s x : Operand)
    (ho : o.op = .call { callee := .builtin .append, args := #[s, x], argTypes := #[24, 24] })
    (base : Nat) (v : Value) (L : List Int) (hs : a.eval s = v) (hown : OwnInts w base v L) (ad : Addr) (T : List Int) (m c : Nat) (hm : m = T.length) (hx : a.eval x = .slice (some ad) m c) (hT : Ints w (some ad) T)
    (hlen : L.length + m ≤ 1073741824) (hbase : base ≤ w.heap.size)
    (h : ∀ v' w', OwnInts w' base v' (L ++ T) → w.grownBy w' v.ownBlock → (v' = .slice none 0 0 ↔ v = .slice none 0 0 ∧ m = 0) → K (a.put o.dst v') w') : o.wp Tryz.prog a w K Q := by
  subst hm
  obtain ⟨i0, hi, hz0, hz1, hz2⟩ := info_parts infoI64
  refine wp_append_own w s x 24 ho base 2 i0 (.int .i64 0) 1 8 Tryz.underlying24 hi hz0 hz1 hz2 rfl (by decide) v L.length (L.map (Value.int .i64)) hs hown ad T.length c (T.map (Value.int .i64)) hx (by simp) ?_ ?_ (by unfold maxLen; omega) (by omega) hbase ?_
  · intro j u hj
    have hlt : j < T.length := by
      have := (List.getElem?_eq_some_iff.1 hj).1
      simpa using this
    obtain ⟨b, o', he, _, hc⟩ := hT.at hlt
    obtain rfl : ad = ⟨b, o', none⟩ := by simpa using he
    rw [gi_map T j hlt] at hj
    have := hc j hlt
    simp only [Option.some.injEq] at hj
    subst hj
    by_cases e : j = 0
    · subst e; first | (simp [Addr.add]; done) | (have h9 := this; simp [Addr.add] at h9 ⊢; exact h9)
    · first | (simp [Addr.add, e]; done) | (have h9 := this; simp [Addr.add, e] at h9 ⊢; exact h9)
  · intro u hu
    obtain ⟨y, _, rfl⟩ := List.mem_map.1 hu
    rfl
  · intro v' w' h1 h2 h3
    refine h v' w' ?_ h2 h3
    unfold OwnInts
    rw [List.length_append, List.map_append]
    exact h1

/-- the rows kept of the first k: those that add a choice to the rows kept before them and all rows behind -/
def lrTo (S : List Int) (C : List (List Int)) (R : List Int) : Nat → List Int
  | 0 => []
  | k + 1 => if (msTo S C (lrTo S C R k ++ R.drop (k + 1) ++ [gi R k]) ((lrTo S C R k ++ R.drop (k + 1)).length + 1)).length < (msTo S C (lrTo S C R k ++ R.drop (k + 1)) (lrTo S C R k ++ R.drop (k + 1)).length).length then lrTo S C R k ++ [gi R k] else lrTo S C R k
theorem lrTo_len (S : List Int) (C : List (List Int)) (R : List Int) (k : Nat) : (lrTo S C R k).length ≤ k := by
  induction k with
  | zero => simp [lrTo]
  | succ k ih =>
    rw [lrTo]
    split
    · rw [List.length_append]; simp; omega
    · omega
theorem lrTo_mem (S : List Int) (C : List (List Int)) (R : List Int) (k : Nat) (hk : k ≤ R.length) : ∀ x, x ∈ lrTo S C R k → ∃ j, j < R.length ∧ x = gi R j := by
  induction k with
  | zero => simp [lrTo]
  | succ k ih =>
    rw [lrTo]
    split
    · intro x hx
      rcases List.mem_append.1 hx with h | h
      · exact ih (by omega) x h
      · exact ⟨k, by omega, by simpa using h⟩
    · exact ih (by omega)
theorem oth_rng (S : List Int) (C : List (List Int)) (R : List Int) (k : Nat) (hk : k ≤ R.length) (N : Int) (hR : ∀ i, i < R.length → 0 ≤ gi R i ∧ gi R i < N) : ∀ i, i < (lrTo S C R k ++ R.drop (k + 1)).length → 0 ≤ gi (lrTo S C R k ++ R.drop (k + 1)) i ∧ gi (lrTo S C R k ++ R.drop (k + 1)) i < N := by
  intro i hi
  have hm : gi (lrTo S C R k ++ R.drop (k + 1)) i ∈ lrTo S C R k ++ R.drop (k + 1) := by rw [gi_lt _ _ hi]; exact List.getElem_mem _
  rcases List.mem_append.1 hm with h | h
  · obtain ⟨j, hj, e⟩ := lrTo_mem S C R k hk _ h
    rw [e]; exact hR j hj
  · obtain ⟨j, hj, e⟩ := List.getElem_of_mem (List.mem_of_mem_drop h)
    rw [← e, ← gi_lt R j hj]; exact hR j hj
theorem rng_snoc {O : List Int} {x N : Int} (h : ∀ i, i < O.length → 0 ≤ gi O i ∧ gi O i < N) (hx : 0 ≤ x ∧ x < N) : ∀ i, i < (O ++ [x]).length → 0 ≤ gi (O ++ [x]) i ∧ gi (O ++ [x]) i < N := by
  intro i hi
  rw [List.length_append] at hi
  by_cases e : i < O.length
  · rw [gi_append_lt _ _ _ e]; exact h i e
  · have e' : i = O.length := by simp at hi; omega
    subst e'
    rw [gi_append_ge _ _ _ (Nat.le_refl _), Nat.sub_self]; exact hx
def vLr (S R : List Int) (t : Int) : List Int := if eR10 S R t = 0 then lrTo S (allC S t.toNat) R R.length else []
theorem vLr_len (S R : List Int) (t : Int) : (vLr S R t).length ≤ 1024 := by
  unfold vLr
  by_cases h : eR10 S R t = 0
  · rw [if_pos h]; have := (eR10_zero h).2.2.1; have := lrTo_len S (allC S t.toNat) R R.length; omega
  · rw [if_neg h]; simp

set_option maxHeartbeats 4000000 in
theorem spec_LeanRows (ao : Option Addr) (S : List Int) (cap : Nat) (hn : S.length ≤ 4294967296) (ar : Option Addr) (R : List Int) (capr : Nat) (hnr : R.length ≤ 4294967296) (hcap : R.length ≤ capr) (t : Int) (ht : -9223372036854775808 ≤ t ∧ t ≤ 9223372036854775807) (w : World) (hS : Ints w ao S) (hRI : Ints w ar R) :
    Calls Tryz.prog 8 #[.agg #[.slice ao S.length cap], .slice ar R.length capr, .int .i64 t] w fun e w' => ∃ v, e = .returned (.tuple #[v, .int .i64 (eR10 S R t)]) ∧ OwnInts w' w.heap.size v (vLr S R t) ∧ Below w.heap.size w w' := by
  have B0 : Below w.heap.size w (w.alloc (.cells #[.slice ao S.length cap] 26)) := by go_grown
  have c0 := cell_new w (.slice ao S.length cap) 26
  have l0 := lt_alloc w (.cells #[.slice ao S.length cap] 26)
  have hc := l10Rows_any ao S cap hn ar R capr hnr t _ (hS.below B0) (hRI.below B0)
  by_cases he : eR10 S R t = 0
  case neg =>
    have HV : Hid (vLr S R t = []) := Lib.hid (by unfold vLr; rw [if_neg he])
    obtain ⟨E, hE⟩ : ∃ E, E = eR10 S R t := ⟨_, rfl⟩
    rw [← hE] at hc he ⊢
    have hb : (E != 0) = true := by simpa using he
    clear hE he
    go_enter Tryz.func8, Tryz.ntmps8
    go_wp2_with fail
    refine hc.mono ?_
    rintro e w1 ⟨rfl, hb1⟩
    have B1 := B0.trans (hb1.mono B0.size)
    go_wp2_with fail
    go_ret2
    exact ⟨_, rfl, by rw [HV.out]; exact World.ownsRow_nil _ _ _ _, B1⟩
  obtain ⟨hSp, hRb, hR2, g1, g2, g3⟩ := eR10_zero he
  have HSp := Lib.hid hSp
  have HRb := Lib.hid hRb
  have HV : Hid (vLr S R t = lrTo S (allC S t.toNat) R R.length) := Lib.hid (by unfold vLr; rw [if_pos he])
  have HE := Lib.hid he
  rw [he] at hc
  clear he hRb
  obtain ⟨t, rfl⟩ : ∃ n : Nat, t = n := ⟨t.toNat, by omega⟩
  rw [Int.toNat_natCast] at HV
  have ht1 : 0 < t := by omega
  have ht3 : t ≤ 3 := by omega
  have hC832 := allC_le hSp ht1 ht3
  have HCc : Hid (IsCs S.length t (allC S t)) := Lib.hid (allC_cs t)
  have hal := l10All_any ao S cap hSp t ht1 ht3
  obtain ⟨C, hC⟩ : ∃ C, C = allC S t := ⟨_, rfl⟩
  rw [← hC] at HV hC832 HCc hal
  have HLN := Lib.hid fun i => lrTo_len S C R i
  have HOR := Lib.hid fun i (hi : i ≤ R.length) => oth_rng S C R i hi _ HRb.out
  obtain ⟨Kn, hKn⟩ : ∃ Kn, Kn = R.length := ⟨_, rfl⟩
  have HK := Lib.hid hKn
  rw [← hKn] at hR2 hcap HV hc HOR ⊢
  clear hSp hC hKn
  go_enter Tryz.func8, Tryz.ntmps8
  go_wp2_with fail
  refine hc.mono ?_
  rintro e w1 ⟨rfl, hb1⟩
  have c1 := kept_cell hb1 c0 l0
  have l1 := lt_of_below hb1 l0
  have B1 := B0.trans (hb1.mono B0.size)
  have hal1 := hal _ (hS.below B1)
  clear hc c0 l0 B0 hb1 hal
  go_wp2_with fail
  refine hal1.mono ?_
  rintro e w2 ⟨ga, ca, rfl, ls, hb2⟩
  have c2 := kept_cell hb2 c1 l1
  have l2 := lt_of_below hb2 l1
  have B2 := B1.trans (hb2.mono B1.size)
  replace ls := ls.rebase (lo' := w.heap.size) B1.size
  have oo := own_empty w2 w2.heap.size (Nat.le_refl _) rfl
  have BZ0 : Below w2.heap.size w2 (w2.alloc (.cells #[] 2)) := (Below.refl _ w2).alloc (Nat.le_refl _) _
  have hw2 : w.heap.size ≤ w2.heap.size := B2.size
  clear hal1 c1 l1 B1 hb2
  have hL0 : Hid (lrTo S C R 0 = []) := Lib.hid rfl
  go_wp2_with fail
  go_loopw [10, 11] (fun o x wr => ∃ i n gk ck : Nat, i ≤ Kn ∧ x = .int .i64 (i : Int) ∧ o = .slice (some ⟨gk, 0, none⟩) n ck ∧ Hid ((lrTo S C R i).length = n) ∧ OwnInts wr w2.heap.size (.slice (some ⟨gk, 0, none⟩) n ck) (lrTo S C R i) ∧ Below w2.heap.size w2 wr) (fun _ x _ => Kn - (intOf x).toNat)
  case atStart => exact ⟨0, 0, _, 0, Nat.zero_le _, rfl, rfl, Lib.hid rfl, by rw [hL0.out]; exact oo, BZ0⟩
  case round =>
    clear oo BZ0
    obtain ⟨i, n, gk, ck, hi, rfl, rfl, HLl, oK, BZ⟩ := hrel
    have c1 := kept_cell BZ c2 l2
    have l1 := lt_of_below BZ l2
    have B := B2.trans (BZ.mono B2.size)
    have hni : n ≤ i := by rw [← HLl.out]; exact HLN.out i
    by_cases hlt : i < Kn
    · have hlI : (i : Int) < (Kn : Int) := by omega
      have hiR : i < R.length := by rw [← HK.out]; exact hlt
      obtain ⟨b, o, rfl, hbr, hcr⟩ := hRI.at hiR
      obtain ⟨x, hx⟩ : ∃ x, x = gi R i := ⟨_, rfl⟩
      have hcx := kept_cell B (hcr i hiR) hbr
      rw [← hx] at hcx
      have lcx := lt_of_below B hbr
      have HX := Lib.hid hx
      have HRx : Hid (0 ≤ x ∧ x < nW S) := Lib.hid (by rw [hx]; exact HRb.out i hiR)
      obtain ⟨i1, hi1⟩ : ∃ i1, i1 = i + 1 := ⟨_, rfl⟩
      have HI1 := Lib.hid hi1
      have hT0 : Ints w (some ⟨b, o + i1, none⟩) (R.drop i1) := .inr ⟨b, o + i1, rfl, hbr, fun j hj => by
        rw [List.length_drop] at hj
        have h := hcr (i1 + j) (by omega)
        rw [show o + i1 + j = o + (i1 + j) by omega, gi_drop]; exact h⟩
      have hT1 : capr = i1 → Ints w (some ⟨b, o, none⟩) (R.drop i1) := fun e => .inr ⟨b, o, rfl, hbr, fun j hj => by
        rw [List.length_drop, ← HK.out] at hj; omega⟩
      obtain ⟨aT, haT, hT⟩ : ∃ aT : Addr, (if capr = i1 then some ⟨b, o, none⟩ else some ⟨b, o + i1, none⟩ : Option Addr) = some aT ∧ Ints w (some aT) (R.drop i1) := by
        by_cases h : capr = i1
        · exact ⟨_, if_pos h, hT1 h⟩
        · exact ⟨_, if_neg h, hT0⟩
      have HaT := Lib.hid haT
      clear haT hT0 hT1
      have HOR1 := Lib.hid (HOR.out i hi)
      have HLS : Hid (lrTo S C R (i + 1) = if (msTo S C (lrTo S C R i ++ R.drop (i + 1) ++ [gi R i]) ((lrTo S C R i ++ R.drop (i + 1)).length + 1)).length < (msTo S C (lrTo S C R i ++ R.drop (i + 1)) (lrTo S C R i ++ R.drop (i + 1)).length).length then lrTo S C R i ++ [gi R i] else lrTo S C R i) := Lib.hid (by rw [lrTo])
      rw [← hi1] at HOR1 HLS
      rw [← hx] at HLS
      have HDl : Hid (Kn - i1 = (R.drop i1).length) := Lib.hid (by rw [List.length_drop, ← HK.out])
      have e0 : IntKind.i64.wrap ((i : Int) + 1) = (i1 : Int) := by rw [hi1]; push_cast; exact IntWalk.i64_in _ ⟨by omega, by omega⟩
      have f1 : i1 ≤ Kn := by omega
      have f2 : (i1 : Int) ≤ (Kn : Int) := by omega
      have f3 : i1 ≤ capr := by omega
      have f4 : (Kn : Int) ≤ (capr : Int) := by omega
      clear hx hi1 hcr
      go_wp2_with fail
      refine wp_region_held_drew (S := fun w' => w'.cell? ⟨w.heap.size, 0, none⟩ = some (.slice ao S.length cap)) (by kernel_rfl) (c1) (fun hHeld => ?_)
      refine wpAnyH_take (i := 0) (v := ?_) rfl (by kernel_rfl) (by kernel_rfl) (by kernel_rfl) (fun _ _ _ h => h) (Or.inl ⟨by rfl, ?_⟩) (by assumption) ?_
      rotate_left
      · (intro w hSw; obtain hSw := hSw; (try dsimp only at hSw); go_simp; try (with_reducible rfl))
      (try simp only [Act.put, List.setIfInBounds_toArray, List.set_cons_zero, List.set_cons_succ, List.getElem_toArray, List.getElem_cons_succ, List.getElem_cons_zero])
      refine wpAnyH_take (i := 2) (v := ?_) rfl (by kernel_rfl) (by kernel_rfl) (by kernel_rfl) (fun _ _ _ h => h) (Or.inl ⟨by rfl, ?_⟩) (by assumption) ?_
      rotate_left
      · (intro w hSw; obtain hSw := hSw; (try dsimp only at hSw); go_simp; try (with_reducible rfl))
      (try simp only [Act.put, List.setIfInBounds_toArray, List.set_cons_zero, List.set_cons_succ, List.getElem_toArray, List.getElem_cons_succ, List.getElem_cons_zero])
      refine wpAnyH_take (i := 3) (v := ?_) rfl (by kernel_rfl) (by kernel_rfl) (by kernel_rfl) (fun _ _ _ h => h) (Or.inl ⟨by rfl, ?_⟩) (by assumption) ?_
      rotate_left
      · (intro w hSw; obtain hSw := hSw; (try dsimp only at hSw); go_simp; try (with_reducible rfl))
      (try simp only [Act.put, List.setIfInBounds_toArray, List.set_cons_zero, List.set_cons_succ, List.getElem_toArray, List.getElem_cons_succ, List.getElem_cons_zero])
      refine wpAnyH_take (i := 4) (v := ?_) rfl (by kernel_rfl) (by kernel_rfl) (by kernel_rfl) (fun _ _ _ h => h) (Or.inl ⟨by rfl, ?_⟩) (by assumption) ?_
      rotate_left
      · (intro w hSw; obtain hSw := hSw; (try dsimp only at hSw); go_simp; try (with_reducible rfl))
      (try simp only [Act.put, List.setIfInBounds_toArray, List.set_cons_zero, List.set_cons_succ, List.getElem_toArray, List.getElem_cons_succ, List.getElem_cons_zero])
      refine wpAnyH_take (i := 5) (v := ?_) rfl (by kernel_rfl) (by kernel_rfl) (by kernel_rfl) (fun _ _ _ h => h) (Or.inl ⟨by rfl, ?_⟩) (by assumption) ?_
      rotate_left
      · (intro w hSw; obtain hSw := hSw; (try dsimp only at hSw); go_simp; try (with_reducible rfl))
      (try simp only [Act.put, List.setIfInBounds_toArray, List.set_cons_zero, List.set_cons_succ, List.getElem_toArray, List.getElem_cons_succ, List.getElem_cons_zero])
      rw [HaT.out]
      refine wpAnyH_ready (rs := [1]) (by kernel_rfl) (by simp) ?_
      refine AllReadyH.cons rfl (fun K hK => ?_) AllReadyH.nil
      go_simp
      (go_at_call 44; refine (l01Own_any ⟨gk, 0, none⟩ (lrTo S C R i) n ck HLl.out.symm (by omega) _ ((own_ints oK).below (Below.refl wr.heap.size wr).drew)).mono ?_)
      rintro e x1 ⟨gz1, cz1, rfl, own1, hb1⟩
      have H1 : Below wr.heap.size wr x1 := Below.trans (Below.refl wr.heap.size wr).drew (hb1.mono (Below.size (Below.refl wr.heap.size wr).drew))
      refine hK.out _ _ (kept_cell H1 c1 l1) (fun hHeld => ?_)
      clear hK K
      (try simp only [Act.put, List.setIfInBounds_toArray, List.set_cons_zero, List.set_cons_succ, List.getElem_toArray, List.getElem_cons_succ, List.getElem_cons_zero])
      refine wpAnyH_ready (rs := [6]) (by kernel_rfl) (by simp) ?_
      refine AllReadyH.cons rfl (fun K hK => ?_) AllReadyH.nil
      rw [if_pos (by kernel_rfl)]
      refine wp_append_ints10 (.tmp 31) (.tmp 35) (by kernel_rfl) wr.heap.size _ (lrTo S C R i) (by rfl) own1 aT (R.drop i1) (Kn - i1) (capr - i1) HDl.out (by rfl) ((hT.below B).below H1) (by rw [HLl.out]; omega) (Below.size H1) ?_
      intro v6 x6 own6 hg6 hnil6
      have H6 : Below wr.heap.size wr x6 := grown_below H1 (Below.size H1) hg6 own1 (Nat.le_refl _)
      refine hK.out _ _ (kept_cell H6 c1 l1) (fun hHeld => ?_)
      clear hK K
      (try simp only [Act.put, List.setIfInBounds_toArray, List.set_cons_zero, List.set_cons_succ, List.getElem_toArray, List.getElem_cons_succ, List.getElem_cons_zero])
      refine wpAnyH_take (i := 7) (v := ?_) rfl (by kernel_rfl) (by kernel_rfl) (by kernel_rfl) (fun _ _ _ h => h) (Or.inl ⟨by rfl, ?_⟩) (by assumption) ?_
      rotate_left
      · (intro w hSw; obtain hSw := hSw; (try dsimp only at hSw); go_simp; try (with_reducible rfl))
      (try simp only [Act.put, List.setIfInBounds_toArray, List.set_cons_zero, List.set_cons_succ, List.getElem_toArray, List.getElem_cons_succ, List.getElem_cons_zero])
      refine wpAnyH_done (by kernel_rfl) ?_ _
      (try simp only [Act.put, List.setIfInBounds_toArray, List.set_cons_zero, List.set_cons_succ, List.getElem_toArray, List.getElem_cons_succ, List.getElem_cons_zero])
      clear hHeld hg6 own1
      have hnn : v6 ≠ .slice none 0 0 := fun e => by simpa using (hnil6.1 e).1
      obtain ⟨g6, c6v, hv6⟩ := own_someN own6 hnn
      clear hnn hnil6
      subst hv6
      have c6 := kept_cell H6 c1 l1
      have l6 := lt_of_below H6 l1
      have BZ6 := BZ.trans (H6.mono BZ.size)
      have hSx := (hS.below B).below H6
      have lsx := ls.below BZ6
      replace hcx := kept_cell H6 hcx lcx
      replace lcx := lt_of_below H6 lcx
      have BZs : ∀ {W : World}, Below x6.heap.size x6 W → w.heap.size ≤ W.heap.size := fun h => by have h1 := BZ6.size; have h2 := h.size; omega
      obtain ⟨O, hO⟩ : ∃ O, O = lrTo S C R i ++ R.drop i1 := ⟨_, rfl⟩
      have hOl1 : O.length ≤ 1000 := by rw [hO, List.length_append, HLl.out, ← HDl.out]; omega
      rw [← hO] at own6 HOR1 HLS ⊢
      obtain ⟨N6, hN6⟩ : ∃ N6, N6 = O.length := ⟨_, rfl⟩
      have HOl : Hid (O.length = N6) := Lib.hid hN6.symm
      rw [← hN6] at own6 hOl1 HLS ⊢
      have HM1 : Hid (∀ W : World, w.heap.size ≤ W.heap.size → Ints W ao S → LsAt W w.heap.size (.slice (some ⟨ga, 0, none⟩) C.length ca) C → Ints W (some ⟨g6, 0, none⟩) O → Calls Tryz.prog 45 #[.agg #[.slice ao S.length cap], .slice (some ⟨ga, 0, none⟩) C.length ca, .slice (some ⟨g6, 0, none⟩) N6 c6v] W fun e w' => ∃ g c, e = .returned (.slice (some ⟨g, 0, none⟩) (msTo S C O N6).length c) ∧ LsAt w' w.heap.size (.slice (some ⟨g, 0, none⟩) (msTo S C O N6).length c) (msTo S C O N6) ∧ Below W.heap.size W w') := Lib.hid fun W h1 h2 h3 h4 => by
        have h := l10Missing_any ao S cap HSp.out w.heap.size ga ca t C ht3 (by omega) HCc.out (some ⟨g6, 0, none⟩) O c6v (by rw [HOl.out]; omega) HOR1.out W h1 h2 h3 h4
        rw [HOl.out] at h; exact h
      have HM2 : Hid (∀ (g c : Nat) (W : World), w.heap.size ≤ W.heap.size → Ints W ao S → LsAt W w.heap.size (.slice (some ⟨ga, 0, none⟩) C.length ca) C → Ints W (some ⟨g, 0, none⟩) (O ++ [x]) → Calls Tryz.prog 45 #[.agg #[.slice ao S.length cap], .slice (some ⟨ga, 0, none⟩) C.length ca, .slice (some ⟨g, 0, none⟩) (N6 + 1) c] W fun e w' => ∃ g c, e = .returned (.slice (some ⟨g, 0, none⟩) (msTo S C (O ++ [x]) (N6 + 1)).length c) ∧ LsAt w' w.heap.size (.slice (some ⟨g, 0, none⟩) (msTo S C (O ++ [x]) (N6 + 1)).length c) (msTo S C (O ++ [x]) (N6 + 1)) ∧ Below W.heap.size W w') := Lib.hid fun g c W h1 h2 h3 h4 => by
        have h := l10Missing_any ao S cap HSp.out w.heap.size ga ca t C ht3 (by omega) HCc.out (some ⟨g, 0, none⟩) (O ++ [x]) c (by rw [List.length_append, HOl.out]; simp; omega) (rng_snoc HOR1.out HRx.out) W h1 h2 h3 h4
        rw [List.length_append, HOl.out, show ([x] : List Int).length = 1 from rfl] at h; exact h
      obtain ⟨M1, hM1⟩ : ∃ M1, M1 = (msTo S C O N6).length := ⟨_, rfl⟩
      obtain ⟨M2, hM2⟩ : ∃ M2, M2 = (msTo S C (O ++ [x]) (N6 + 1)).length := ⟨_, rfl⟩
      rw [← hM1] at HM1 HLS
      rw [← hM2] at HM2 HLS
      obtain ⟨Lk, hLk⟩ : ∃ Lk, Lk = lrTo S C R i := ⟨_, rfl⟩
      rw [← hLk] at HLS HLl oK
      clear hO hN6 hM1 hM2 hLk c1 l1 B HaT HDl hT HOR1
      go_wp2_with fail
      refine wp_region_held_drew (S := fun w' => w'.cell? ⟨w.heap.size, 0, none⟩ = some (.slice ao S.length cap) ∧ w'.cell? ⟨b, o + i, none⟩ = some (.int .i64 x)) (by kernel_rfl) (⟨c6, hcx⟩) (fun hHeld => ?_)
      refine wpAnyH_take (i := 0) (v := ?_) rfl (by kernel_rfl) (by kernel_rfl) (by kernel_rfl) (fun _ _ _ h => h) (Or.inl ⟨by rfl, ?_⟩) (by assumption) ?_
      rotate_left
      · (intro w hSw; obtain ⟨hSw0, hSw1⟩ := hSw; (try dsimp only at hSw0 hSw1); go_simp; try (with_reducible rfl))
      (try simp only [Act.put, List.setIfInBounds_toArray, List.set_cons_zero, List.set_cons_succ, List.getElem_toArray, List.getElem_cons_succ, List.getElem_cons_zero])
      refine wpAnyH_take (i := 1) (v := ?_) rfl (by kernel_rfl) (by kernel_rfl) (by kernel_rfl) (fun _ _ _ h => h) (Or.inl ⟨by rfl, ?_⟩) (by assumption) ?_
      rotate_left
      · (intro w hSw; obtain ⟨hSw0, hSw1⟩ := hSw; (try dsimp only at hSw0 hSw1); go_simp; try (with_reducible rfl))
      (try simp only [Act.put, List.setIfInBounds_toArray, List.set_cons_zero, List.set_cons_succ, List.getElem_toArray, List.getElem_cons_succ, List.getElem_cons_zero])
      refine wpAnyH_take (i := 2) (v := ?_) rfl (by kernel_rfl) (by kernel_rfl) (by kernel_rfl) (fun _ _ _ h => h) (Or.inl ⟨by rfl, ?_⟩) (by assumption) ?_
      rotate_left
      · (intro w hSw; obtain ⟨hSw0, hSw1⟩ := hSw; (try dsimp only at hSw0 hSw1); go_simp; try (with_reducible rfl))
      (try simp only [Act.put, List.setIfInBounds_toArray, List.set_cons_zero, List.set_cons_succ, List.getElem_toArray, List.getElem_cons_succ, List.getElem_cons_zero])
      refine wpAnyH_take (i := 5) (v := ?_) rfl (by kernel_rfl) (by kernel_rfl) (by kernel_rfl) (fun _ _ _ h => h) (Or.inl ⟨by rfl, ?_⟩) (by assumption) ?_
      rotate_left
      · (intro w hSw; obtain ⟨hSw0, hSw1⟩ := hSw; (try dsimp only at hSw0 hSw1); go_simp; try (with_reducible rfl))
      (try simp only [Act.put, List.setIfInBounds_toArray, List.set_cons_zero, List.set_cons_succ, List.getElem_toArray, List.getElem_cons_succ, List.getElem_cons_zero])
      refine wpAnyH_take (i := 6) (v := ?_) rfl (by kernel_rfl) (by kernel_rfl) (by kernel_rfl) (fun _ _ _ h => h) (Or.inl ⟨by rfl, ?_⟩) (by assumption) ?_
      rotate_left
      · (intro w hSw; obtain ⟨hSw0, hSw1⟩ := hSw; (try dsimp only at hSw0 hSw1); go_simp; try (with_reducible rfl))
      (try simp only [Act.put, List.setIfInBounds_toArray, List.set_cons_zero, List.set_cons_succ, List.getElem_toArray, List.getElem_cons_succ, List.getElem_cons_zero])
      refine wpAnyH_take (i := 7) (v := ?_) rfl (by kernel_rfl) (by kernel_rfl) (by kernel_rfl) (fun _ _ _ h => h) (Or.inl ⟨by rfl, ?_⟩) (by assumption) ?_
      rotate_left
      · (intro w hSw; obtain ⟨hSw0, hSw1⟩ := hSw; (try dsimp only at hSw0 hSw1); go_simp; try (with_reducible rfl))
      (try simp only [Act.put, List.setIfInBounds_toArray, List.set_cons_zero, List.set_cons_succ, List.getElem_toArray, List.getElem_cons_succ, List.getElem_cons_zero])
      refine wpAnyH_take (i := 9) (v := ?_) rfl (by kernel_rfl) (by kernel_rfl) (by kernel_rfl) (fun _ _ _ h => h) (Or.inl ⟨by rfl, ?_⟩) (by assumption) ?_
      rotate_left
      · (intro w hSw; obtain ⟨hSw0, hSw1⟩ := hSw; (try dsimp only at hSw0 hSw1); go_simp; try (with_reducible rfl))
      (try simp only [Act.put, List.setIfInBounds_toArray, List.set_cons_zero, List.set_cons_succ, List.getElem_toArray, List.getElem_cons_succ, List.getElem_cons_zero])
      refine wpAnyH_take (i := 10) (v := ?_) rfl (by kernel_rfl) (by kernel_rfl) (by kernel_rfl) (fun _ _ _ h => h) (Or.inl ⟨by rfl, ?_⟩) (by assumption) ?_
      rotate_left
      · (intro w hSw; obtain ⟨hSw0, hSw1⟩ := hSw; (try dsimp only at hSw0 hSw1); go_simp; try (with_reducible rfl))
      (try simp only [Act.put, List.setIfInBounds_toArray, List.set_cons_zero, List.set_cons_succ, List.getElem_toArray, List.getElem_cons_succ, List.getElem_cons_zero])
      refine wpAnyH_take (i := 11) (v := ?_) rfl (by kernel_rfl) (by kernel_rfl) (by kernel_rfl) (fun _ _ _ h => h) (Or.inl ⟨by rfl, ?_⟩) (by assumption) ?_
      rotate_left
      · (intro w hSw; obtain ⟨hSw0, hSw1⟩ := hSw; (try dsimp only at hSw0 hSw1); go_simp; try (with_reducible rfl))
      (try simp only [Act.put, List.setIfInBounds_toArray, List.set_cons_zero, List.set_cons_succ, List.getElem_toArray, List.getElem_cons_succ, List.getElem_cons_zero])
      refine wpAnyH_take (i := 12) (v := ?_) rfl (by kernel_rfl) (by kernel_rfl) (by kernel_rfl) (fun _ _ _ h => h) (Or.inl ⟨by rfl, ?_⟩) (by assumption) ?_
      rotate_left
      · (intro w hSw; obtain ⟨hSw0, hSw1⟩ := hSw; (try dsimp only at hSw0 hSw1); go_simp; try (with_reducible rfl))
      (try simp only [Act.put, List.setIfInBounds_toArray, List.set_cons_zero, List.set_cons_succ, List.getElem_toArray, List.getElem_cons_succ, List.getElem_cons_zero])
      refine wpAnyH_ready (rs := [3, 13]) (by kernel_rfl) (by simp) ?_
      refine AllReadyH.cons rfl (fun K hK => ?_) ?_
      · go_simp
        (go_at_call 45; refine (HM1.out _ (BZs (Below.refl x6.heap.size x6).drew) (hSx.below (Below.refl x6.heap.size x6).drew) (lsx.below (Below.refl x6.heap.size x6).drew) ((own_ints own6).below (Below.refl x6.heap.size x6).drew)).mono ?_)
        rintro e x1 ⟨gm1, cm1, rfl, _, hb1⟩
        have H1 : Below x6.heap.size x6 x1 := Below.trans (Below.refl x6.heap.size x6).drew (hb1.mono (Below.size (Below.refl x6.heap.size x6).drew))
        refine hK.out _ _ (⟨kept_cell H1 c6 l6, kept_cell H1 hcx lcx⟩) (fun hHeld => ?_)
        clear hK K
        (try simp only [Act.put, List.setIfInBounds_toArray, List.set_cons_zero, List.set_cons_succ, List.getElem_toArray, List.getElem_cons_succ, List.getElem_cons_zero])
        refine wpAnyH_take (i := 4) (v := ?_) rfl (by kernel_rfl) (by kernel_rfl) (by kernel_rfl) (fun _ _ _ h => h) (Or.inl ⟨by rfl, ?_⟩) (by assumption) ?_
        rotate_left
        · (intro w hSw; obtain ⟨hSw0, hSw1⟩ := hSw; (try dsimp only at hSw0 hSw1); go_simp; try (with_reducible rfl))
        (try simp only [Act.put, List.setIfInBounds_toArray, List.set_cons_zero, List.set_cons_succ, List.getElem_toArray, List.getElem_cons_succ, List.getElem_cons_zero])
        refine wpAnyH_ready (rs := [8, 13]) (by kernel_rfl) (by simp) ?_
        refine AllReadyH.cons rfl (fun K hK => ?_) ?_
        · go_simp
          (go_at_call 44; refine (l01Own_any ⟨g6, 0, none⟩ O N6 c6v HOl.out.symm (by omega) _ ((own_ints own6).below H1)).mono ?_)
          rintro e x2 ⟨gz2, cz2, rfl, own2, hb2⟩
          have H2 : Below x6.heap.size x6 x2 := Below.trans H1 (hb2.mono (Below.size H1))
          replace own2 := own2.rebase (base' := x6.heap.size) (Below.size H1)
          refine hK.out _ _ (⟨kept_cell H2 c6 l6, kept_cell H2 hcx lcx⟩) (fun hHeld => ?_)
          clear hK K
          (try simp only [Act.put, List.setIfInBounds_toArray, List.set_cons_zero, List.set_cons_succ, List.getElem_toArray, List.getElem_cons_succ, List.getElem_cons_zero])
          refine wpAnyH_ready (rs := [13]) (by kernel_rfl) (by simp) ?_
          refine AllReadyH.cons rfl (fun K hK => ?_) AllReadyH.nil
          go_simp
          have H3 : Below x6.heap.size x6 (x2.alloc (.cells #[.int .i64 x] 2)) := Below.alloc H2 (Below.size H2) _
          replace own2 := own2.below ((Below.refl _ x2).alloc (Nat.le_refl _) (.cells #[.int .i64 x] 2))
          have oe3 := own_one x2 x x6.heap.size (Below.size H2) rfl
          refine hK.out _ _ (⟨kept_cell H3 c6 l6, kept_cell H3 hcx lcx⟩) (fun hHeld => ?_)
          clear hK K
          (try simp only [Act.put, List.setIfInBounds_toArray, List.set_cons_zero, List.set_cons_succ, List.getElem_toArray, List.getElem_cons_succ, List.getElem_cons_zero])
          refine wpAnyH_ready (rs := [14]) (by kernel_rfl) (by simp) ?_
          refine AllReadyH.cons rfl (fun K hK => ?_) AllReadyH.nil
          rw [if_pos (by kernel_rfl)]
          refine wp_append_intsL (.tmp 45) (.tmp 50) (by kernel_rfl) x6.heap.size _ O (by rfl) own2 _ [x] 1 1 (N6 + 1) rfl (by omega) (by rfl) (own_ints oe3) (by rw [HOl.out]; omega) (Below.size H3) (by rw [HOl.out]) ?_
          intro g4 c4 x4 own4 hg4 _
          have H4 : Below x6.heap.size x6 x4 := grown_below H3 (Below.size H3) hg4 own2 (Nat.le_refl _)
          refine hK.out _ _ (⟨kept_cell H4 c6 l6, kept_cell H4 hcx lcx⟩) (fun hHeld => ?_)
          clear hK K
          (try simp only [Act.put, List.setIfInBounds_toArray, List.set_cons_zero, List.set_cons_succ, List.getElem_toArray, List.getElem_cons_succ, List.getElem_cons_zero])
          refine wpAnyH_ready (rs := [15]) (by kernel_rfl) (by simp) ?_
          refine AllReadyH.cons rfl (fun K hK => ?_) AllReadyH.nil
          go_simp
          (go_at_call 45; refine (HM2.out _ _ _ (BZs H4) (hSx.below H4) (lsx.below H4) (own_ints own4)).mono ?_)
          rintro e x5 ⟨gp5, cp5, rfl, _, hb5⟩
          have H5 : Below x6.heap.size x6 x5 := Below.trans H4 (hb5.mono (Below.size H4))
          replace own4 := own4.below hb5
          refine hK.out _ _ (⟨kept_cell H5 c6 l6, kept_cell H5 hcx lcx⟩) (fun hHeld => ?_)
          clear hK K
          (try simp only [Act.put, List.setIfInBounds_toArray, List.set_cons_zero, List.set_cons_succ, List.getElem_toArray, List.getElem_cons_succ, List.getElem_cons_zero])
          refine wpAnyH_take (i := 16) (v := ?_) rfl (by kernel_rfl) (by kernel_rfl) (by kernel_rfl) (fun _ _ _ h => h) (Or.inl ⟨by rfl, ?_⟩) (by assumption) ?_
          rotate_left
          · (intro w hSw; obtain ⟨hSw0, hSw1⟩ := hSw; (try dsimp only at hSw0 hSw1); go_simp; try (with_reducible rfl))
          (try simp only [Act.put, List.setIfInBounds_toArray, List.set_cons_zero, List.set_cons_succ, List.getElem_toArray, List.getElem_cons_succ, List.getElem_cons_zero])
          refine wpAnyH_take (i := 17) (v := ?_) rfl (by kernel_rfl) (by kernel_rfl) (by kernel_rfl) (fun _ _ _ h => h) (Or.inl ⟨by rfl, ?_⟩) (by assumption) ?_
          rotate_left
          · (intro w hSw; obtain ⟨hSw0, hSw1⟩ := hSw; (try dsimp only at hSw0 hSw1); go_simp; try (with_reducible rfl))
          (try simp only [Act.put, List.setIfInBounds_toArray, List.set_cons_zero, List.set_cons_succ, List.getElem_toArray, List.getElem_cons_succ, List.getElem_cons_zero])
          refine wpAnyH_done (by kernel_rfl) ?_ _
          (try simp only [Act.put, List.setIfInBounds_toArray, List.set_cons_zero, List.set_cons_succ, List.getElem_toArray, List.getElem_cons_succ, List.getElem_cons_zero])
          have Hn9 : Below x6.heap.size x6 x5 := H5
          obtain ⟨w9, hw9⟩ : ∃ z, z = x5 := ⟨_, rfl⟩
          rw [← hw9] at Hn9 ⊢
          clear hw9 hHeld
          have o9 := (oK.below H6).below Hn9
          have BZ9 := BZ6.trans (Hn9.mono BZ6.size)
          have hcx9 := kept_cell Hn9 hcx lcx
          clear oK BZ BZ6 hcx lcx H6 Hn9 own6 hSx lsx
          by_cases hM : M2 < M1
          · have hMI : (M2 : Int) < (M1 : Int) := by omega
            rw [if_pos hM] at HLS
            go_wp2_with (first
              | (at_builtin; refine wpList_append_int rfl _ _ rfl w2.heap.size _ Lk rfl (o9.alloc _) w9.heap.size x rfl (cell_new _ _ _) (by rw [HLl.out]; omega) (by simp; have := BZ9.size; omega) ?_; intro v10 w10 own10 hgrow10; obtain ⟨g10, c10, hv10, _⟩ := own_some own10 (by simp); rw [List.length_append, HLl.out, show ([x] : List Int).length = 1 from rfl] at hv10; subst hv10)
              | fail)
            have BZ10 : Below w2.heap.size w2 w10 := (BZ9.alloc BZ9.size (.cells #[.int .i64 x] 2)).grown hgrow10 (by simp; have := BZ9.size; omega) (fun z hz => by have h1 := o9.base_le.1; have e' : gk = z := Option.some.inj hz; omega)
            rw [← HLS.out] at own10
            clear hcx9 o9 BZ9 hgrow10
            go_wp2_with fail
            go_roundw
            case rel => exact ⟨i1, n + 1, g10, c10, f1, by rw [← e0], rfl, Lib.hid (by rw [HLS.out, List.length_append, HLl.out]; rfl), own10, BZ10⟩
            case measure => have hi9 := HI1.out; simp [intOf]; omega
          · have hMI : ¬ (M2 : Int) < (M1 : Int) := by omega
            rw [if_neg hM] at HLS
            rw [← HLS.out] at o9
            go_wp2_with fail
            go_roundw
            case rel => exact ⟨i1, n, gk, ck, f1, by rw [← e0], rfl, Lib.hid (by rw [HLS.out]; exact HLl.out), o9, BZ9⟩
            case measure => have hi9 := HI1.out; simp [intOf]; omega
        refine AllReadyH.cons rfl (fun K hK => ?_) AllReadyH.nil
        go_simp
        have H2 : Below x6.heap.size x6 (x1.alloc (.cells #[.int .i64 x] 2)) := Below.alloc H1 (Below.size H1) _
        have oe2 := own_one x1 x x6.heap.size (Below.size H1) rfl
        refine hK.out _ _ (⟨kept_cell H2 c6 l6, kept_cell H2 hcx lcx⟩) (fun hHeld => ?_)
        clear hK K
        (try simp only [Act.put, List.setIfInBounds_toArray, List.set_cons_zero, List.set_cons_succ, List.getElem_toArray, List.getElem_cons_succ, List.getElem_cons_zero])
        refine wpAnyH_ready (rs := [8]) (by kernel_rfl) (by simp) ?_
        refine AllReadyH.cons rfl (fun K hK => ?_) AllReadyH.nil
        go_simp
        (go_at_call 44; refine (l01Own_any ⟨g6, 0, none⟩ O N6 c6v HOl.out.symm (by omega) _ ((own_ints own6).below H2)).mono ?_)
        rintro e x3 ⟨gz3, cz3, rfl, own3, hb3⟩
        have H3 : Below x6.heap.size x6 x3 := Below.trans H2 (hb3.mono (Below.size H2))
        replace oe2 := oe2.below hb3
        replace own3 := own3.rebase (base' := x6.heap.size) (Below.size H2)
        refine hK.out _ _ (⟨kept_cell H3 c6 l6, kept_cell H3 hcx lcx⟩) (fun hHeld => ?_)
        clear hK K
        (try simp only [Act.put, List.setIfInBounds_toArray, List.set_cons_zero, List.set_cons_succ, List.getElem_toArray, List.getElem_cons_succ, List.getElem_cons_zero])
        refine wpAnyH_ready (rs := [14]) (by kernel_rfl) (by simp) ?_
        refine AllReadyH.cons rfl (fun K hK => ?_) AllReadyH.nil
        rw [if_pos (by kernel_rfl)]
        refine wp_append_intsL (.tmp 45) (.tmp 50) (by kernel_rfl) x6.heap.size _ O (by rfl) own3 _ [x] 1 1 (N6 + 1) rfl (by omega) (by rfl) (own_ints oe2) (by rw [HOl.out]; omega) (Below.size H3) (by rw [HOl.out]) ?_
        intro g4 c4 x4 own4 hg4 _
        have H4 : Below x6.heap.size x6 x4 := grown_below H3 (Below.size H3) hg4 own3 (Nat.le_refl _)
        refine hK.out _ _ (⟨kept_cell H4 c6 l6, kept_cell H4 hcx lcx⟩) (fun hHeld => ?_)
        clear hK K
        (try simp only [Act.put, List.setIfInBounds_toArray, List.set_cons_zero, List.set_cons_succ, List.getElem_toArray, List.getElem_cons_succ, List.getElem_cons_zero])
        refine wpAnyH_ready (rs := [15]) (by kernel_rfl) (by simp) ?_
        refine AllReadyH.cons rfl (fun K hK => ?_) AllReadyH.nil
        go_simp
        (go_at_call 45; refine (HM2.out _ _ _ (BZs H4) (hSx.below H4) (lsx.below H4) (own_ints own4)).mono ?_)
        rintro e x5 ⟨gp5, cp5, rfl, _, hb5⟩
        have H5 : Below x6.heap.size x6 x5 := Below.trans H4 (hb5.mono (Below.size H4))
        replace own4 := own4.below hb5
        refine hK.out _ _ (⟨kept_cell H5 c6 l6, kept_cell H5 hcx lcx⟩) (fun hHeld => ?_)
        clear hK K
        (try simp only [Act.put, List.setIfInBounds_toArray, List.set_cons_zero, List.set_cons_succ, List.getElem_toArray, List.getElem_cons_succ, List.getElem_cons_zero])
        refine wpAnyH_take (i := 16) (v := ?_) rfl (by kernel_rfl) (by kernel_rfl) (by kernel_rfl) (fun _ _ _ h => h) (Or.inl ⟨by rfl, ?_⟩) (by assumption) ?_
        rotate_left
        · (intro w hSw; obtain ⟨hSw0, hSw1⟩ := hSw; (try dsimp only at hSw0 hSw1); go_simp; try (with_reducible rfl))
        (try simp only [Act.put, List.setIfInBounds_toArray, List.set_cons_zero, List.set_cons_succ, List.getElem_toArray, List.getElem_cons_succ, List.getElem_cons_zero])
        refine wpAnyH_take (i := 17) (v := ?_) rfl (by kernel_rfl) (by kernel_rfl) (by kernel_rfl) (fun _ _ _ h => h) (Or.inl ⟨by rfl, ?_⟩) (by assumption) ?_
        rotate_left
        · (intro w hSw; obtain ⟨hSw0, hSw1⟩ := hSw; (try dsimp only at hSw0 hSw1); go_simp; try (with_reducible rfl))
        (try simp only [Act.put, List.setIfInBounds_toArray, List.set_cons_zero, List.set_cons_succ, List.getElem_toArray, List.getElem_cons_succ, List.getElem_cons_zero])
        refine wpAnyH_done (by kernel_rfl) ?_ _
        (try simp only [Act.put, List.setIfInBounds_toArray, List.set_cons_zero, List.set_cons_succ, List.getElem_toArray, List.getElem_cons_succ, List.getElem_cons_zero])
        have Hn9 : Below x6.heap.size x6 x5 := H5
        obtain ⟨w9, hw9⟩ : ∃ z, z = x5 := ⟨_, rfl⟩
        rw [← hw9] at Hn9 ⊢
        clear hw9 hHeld
        have o9 := (oK.below H6).below Hn9
        have BZ9 := BZ6.trans (Hn9.mono BZ6.size)
        have hcx9 := kept_cell Hn9 hcx lcx
        clear oK BZ BZ6 hcx lcx H6 Hn9 own6 hSx lsx
        by_cases hM : M2 < M1
        · have hMI : (M2 : Int) < (M1 : Int) := by omega
          rw [if_pos hM] at HLS
          go_wp2_with (first
            | (at_builtin; refine wpList_append_int rfl _ _ rfl w2.heap.size _ Lk rfl (o9.alloc _) w9.heap.size x rfl (cell_new _ _ _) (by rw [HLl.out]; omega) (by simp; have := BZ9.size; omega) ?_; intro v10 w10 own10 hgrow10; obtain ⟨g10, c10, hv10, _⟩ := own_some own10 (by simp); rw [List.length_append, HLl.out, show ([x] : List Int).length = 1 from rfl] at hv10; subst hv10)
            | fail)
          have BZ10 : Below w2.heap.size w2 w10 := (BZ9.alloc BZ9.size (.cells #[.int .i64 x] 2)).grown hgrow10 (by simp; have := BZ9.size; omega) (fun z hz => by have h1 := o9.base_le.1; have e' : gk = z := Option.some.inj hz; omega)
          rw [← HLS.out] at own10
          clear hcx9 o9 BZ9 hgrow10
          go_wp2_with fail
          go_roundw
          case rel => exact ⟨i1, n + 1, g10, c10, f1, by rw [← e0], rfl, Lib.hid (by rw [HLS.out, List.length_append, HLl.out]; rfl), own10, BZ10⟩
          case measure => have hi9 := HI1.out; simp [intOf]; omega
        · have hMI : ¬ (M2 : Int) < (M1 : Int) := by omega
          rw [if_neg hM] at HLS
          rw [← HLS.out] at o9
          go_wp2_with fail
          go_roundw
          case rel => exact ⟨i1, n, gk, ck, f1, by rw [← e0], rfl, Lib.hid (by rw [HLS.out]; exact HLl.out), o9, BZ9⟩
          case measure => have hi9 := HI1.out; simp [intOf]; omega
      refine AllReadyH.cons rfl (fun K hK => ?_) AllReadyH.nil
      go_simp
      have H1 : Below x6.heap.size x6 (x6.drew.alloc (.cells #[.int .i64 x] 2)) := Below.alloc (Below.refl x6.heap.size x6).drew (Below.size (Below.refl x6.heap.size x6).drew) _
      have oe1 := own_one x6.drew x x6.heap.size (Below.size (Below.refl x6.heap.size x6).drew) rfl
      refine hK.out _ _ (⟨kept_cell H1 c6 l6, kept_cell H1 hcx lcx⟩) (fun hHeld => ?_)
      clear hK K
      (try simp only [Act.put, List.setIfInBounds_toArray, List.set_cons_zero, List.set_cons_succ, List.getElem_toArray, List.getElem_cons_succ, List.getElem_cons_zero])
      refine wpAnyH_ready (rs := [3]) (by kernel_rfl) (by simp) ?_
      refine AllReadyH.cons rfl (fun K hK => ?_) AllReadyH.nil
      go_simp
      (go_at_call 45; refine (HM1.out _ (BZs H1) (hSx.below H1) (lsx.below H1) ((own_ints own6).below H1)).mono ?_)
      rintro e x2 ⟨gm2, cm2, rfl, _, hb2⟩
      have H2 : Below x6.heap.size x6 x2 := Below.trans H1 (hb2.mono (Below.size H1))
      replace oe1 := oe1.below hb2
      refine hK.out _ _ (⟨kept_cell H2 c6 l6, kept_cell H2 hcx lcx⟩) (fun hHeld => ?_)
      clear hK K
      (try simp only [Act.put, List.setIfInBounds_toArray, List.set_cons_zero, List.set_cons_succ, List.getElem_toArray, List.getElem_cons_succ, List.getElem_cons_zero])
      refine wpAnyH_take (i := 4) (v := ?_) rfl (by kernel_rfl) (by kernel_rfl) (by kernel_rfl) (fun _ _ _ h => h) (Or.inl ⟨by rfl, ?_⟩) (by assumption) ?_
      rotate_left
      · (intro w hSw; obtain ⟨hSw0, hSw1⟩ := hSw; (try dsimp only at hSw0 hSw1); go_simp; try (with_reducible rfl))
      (try simp only [Act.put, List.setIfInBounds_toArray, List.set_cons_zero, List.set_cons_succ, List.getElem_toArray, List.getElem_cons_succ, List.getElem_cons_zero])
      refine wpAnyH_ready (rs := [8]) (by kernel_rfl) (by simp) ?_
      refine AllReadyH.cons rfl (fun K hK => ?_) AllReadyH.nil
      go_simp
      (go_at_call 44; refine (l01Own_any ⟨g6, 0, none⟩ O N6 c6v HOl.out.symm (by omega) _ ((own_ints own6).below H2)).mono ?_)
      rintro e x3 ⟨gz3, cz3, rfl, own3, hb3⟩
      have H3 : Below x6.heap.size x6 x3 := Below.trans H2 (hb3.mono (Below.size H2))
      replace oe1 := oe1.below hb3
      replace own3 := own3.rebase (base' := x6.heap.size) (Below.size H2)
      refine hK.out _ _ (⟨kept_cell H3 c6 l6, kept_cell H3 hcx lcx⟩) (fun hHeld => ?_)
      clear hK K
      (try simp only [Act.put, List.setIfInBounds_toArray, List.set_cons_zero, List.set_cons_succ, List.getElem_toArray, List.getElem_cons_succ, List.getElem_cons_zero])
      refine wpAnyH_ready (rs := [14]) (by kernel_rfl) (by simp) ?_
      refine AllReadyH.cons rfl (fun K hK => ?_) AllReadyH.nil
      rw [if_pos (by kernel_rfl)]
      refine wp_append_intsL (.tmp 45) (.tmp 50) (by kernel_rfl) x6.heap.size _ O (by rfl) own3 _ [x] 1 1 (N6 + 1) rfl (by omega) (by rfl) (own_ints oe1) (by rw [HOl.out]; omega) (Below.size H3) (by rw [HOl.out]) ?_
      intro g4 c4 x4 own4 hg4 _
      have H4 : Below x6.heap.size x6 x4 := grown_below H3 (Below.size H3) hg4 own3 (Nat.le_refl _)
      refine hK.out _ _ (⟨kept_cell H4 c6 l6, kept_cell H4 hcx lcx⟩) (fun hHeld => ?_)
      clear hK K
      (try simp only [Act.put, List.setIfInBounds_toArray, List.set_cons_zero, List.set_cons_succ, List.getElem_toArray, List.getElem_cons_succ, List.getElem_cons_zero])
      refine wpAnyH_ready (rs := [15]) (by kernel_rfl) (by simp) ?_
      refine AllReadyH.cons rfl (fun K hK => ?_) AllReadyH.nil
      go_simp
      (go_at_call 45; refine (HM2.out _ _ _ (BZs H4) (hSx.below H4) (lsx.below H4) (own_ints own4)).mono ?_)
      rintro e x5 ⟨gp5, cp5, rfl, _, hb5⟩
      have H5 : Below x6.heap.size x6 x5 := Below.trans H4 (hb5.mono (Below.size H4))
      replace own4 := own4.below hb5
      refine hK.out _ _ (⟨kept_cell H5 c6 l6, kept_cell H5 hcx lcx⟩) (fun hHeld => ?_)
      clear hK K
      (try simp only [Act.put, List.setIfInBounds_toArray, List.set_cons_zero, List.set_cons_succ, List.getElem_toArray, List.getElem_cons_succ, List.getElem_cons_zero])
      refine wpAnyH_take (i := 16) (v := ?_) rfl (by kernel_rfl) (by kernel_rfl) (by kernel_rfl) (fun _ _ _ h => h) (Or.inl ⟨by rfl, ?_⟩) (by assumption) ?_
      rotate_left
      · (intro w hSw; obtain ⟨hSw0, hSw1⟩ := hSw; (try dsimp only at hSw0 hSw1); go_simp; try (with_reducible rfl))
      (try simp only [Act.put, List.setIfInBounds_toArray, List.set_cons_zero, List.set_cons_succ, List.getElem_toArray, List.getElem_cons_succ, List.getElem_cons_zero])
      refine wpAnyH_take (i := 17) (v := ?_) rfl (by kernel_rfl) (by kernel_rfl) (by kernel_rfl) (fun _ _ _ h => h) (Or.inl ⟨by rfl, ?_⟩) (by assumption) ?_
      rotate_left
      · (intro w hSw; obtain ⟨hSw0, hSw1⟩ := hSw; (try dsimp only at hSw0 hSw1); go_simp; try (with_reducible rfl))
      (try simp only [Act.put, List.setIfInBounds_toArray, List.set_cons_zero, List.set_cons_succ, List.getElem_toArray, List.getElem_cons_succ, List.getElem_cons_zero])
      refine wpAnyH_done (by kernel_rfl) ?_ _
      (try simp only [Act.put, List.setIfInBounds_toArray, List.set_cons_zero, List.set_cons_succ, List.getElem_toArray, List.getElem_cons_succ, List.getElem_cons_zero])
      have Hn9 : Below x6.heap.size x6 x5 := H5
      obtain ⟨w9, hw9⟩ : ∃ z, z = x5 := ⟨_, rfl⟩
      rw [← hw9] at Hn9 ⊢
      clear hw9 hHeld
      have o9 := (oK.below H6).below Hn9
      have BZ9 := BZ6.trans (Hn9.mono BZ6.size)
      have hcx9 := kept_cell Hn9 hcx lcx
      clear oK BZ BZ6 hcx lcx H6 Hn9 own6 hSx lsx
      by_cases hM : M2 < M1
      · have hMI : (M2 : Int) < (M1 : Int) := by omega
        rw [if_pos hM] at HLS
        go_wp2_with (first
          | (at_builtin; refine wpList_append_int rfl _ _ rfl w2.heap.size _ Lk rfl (o9.alloc _) w9.heap.size x rfl (cell_new _ _ _) (by rw [HLl.out]; omega) (by simp; have := BZ9.size; omega) ?_; intro v10 w10 own10 hgrow10; obtain ⟨g10, c10, hv10, _⟩ := own_some own10 (by simp); rw [List.length_append, HLl.out, show ([x] : List Int).length = 1 from rfl] at hv10; subst hv10)
          | fail)
        have BZ10 : Below w2.heap.size w2 w10 := (BZ9.alloc BZ9.size (.cells #[.int .i64 x] 2)).grown hgrow10 (by simp; have := BZ9.size; omega) (fun z hz => by have h1 := o9.base_le.1; have e' : gk = z := Option.some.inj hz; omega)
        rw [← HLS.out] at own10
        clear hcx9 o9 BZ9 hgrow10
        go_wp2_with fail
        go_roundw
        case rel => exact ⟨i1, n + 1, g10, c10, f1, by rw [← e0], rfl, Lib.hid (by rw [HLS.out, List.length_append, HLl.out]; rfl), own10, BZ10⟩
        case measure => have hi9 := HI1.out; simp [intOf]; omega
      · have hMI : ¬ (M2 : Int) < (M1 : Int) := by omega
        rw [if_neg hM] at HLS
        rw [← HLS.out] at o9
        go_wp2_with fail
        go_roundw
        case rel => exact ⟨i1, n, gk, ck, f1, by rw [← e0], rfl, Lib.hid (by rw [HLS.out]; exact HLl.out), o9, BZ9⟩
        case measure => have hi9 := HI1.out; simp [intOf]; omega
    · have hlI : ¬ (i : Int) < (Kn : Int) := by omega
      have hik : i = Kn := by omega
      have HVi : Hid (vLr S R (t : Int) = lrTo S C R i) := Lib.hid (by rw [HV.out, hik, HK.out])
      clear hik
      go_wp2_with fail
      go_ret2
      exact ⟨_, ret_vL HE.out.symm, by rw [HVi.out]; exact oK.rebase hw2, B⟩

end Go.Proofs.YtpmfedllbiblbaaGreat
