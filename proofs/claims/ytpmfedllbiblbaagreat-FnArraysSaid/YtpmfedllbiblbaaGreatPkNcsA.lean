/-
  Merged texts: Lsb10, Ncs10. Never import this beside one of them. By an AI agent.
-/
import Derived.Test.YtpmfedllbiblbaaGreatPkMisA
import Derived.Test.YtpmfedllbiblbaaGreatPk39
namespace Go.Proofs.YtpmfedllbiblbaaGreat
open Go.RowKit Cv
set_option linter.unusedVariables false
set_option linter.unusedSimpArgs false
set_option maxRecDepth 100000

/-- lists that calls made, whose blocks have a property, in a list that a call made -/
def LsB (Qp : Nat → Prop) (w : World) (lo : Nat) (v : Value) (R : List (List Int)) : Prop :=
  ∃ hs : List Value, hs.length = R.length ∧ w.ownsRow lo 24 1 v R.length hs ∧ ∀ i, i < R.length → ∃ g c, hs[i]? = some (.slice (some ⟨g, 0, none⟩) (rr R i).length c) ∧ OwnInts w lo (.slice (some ⟨g, 0, none⟩) (rr R i).length c) (rr R i) ∧ Qp g
theorem LsB.below {Qp : Nat → Prop} {w w' : World} {lo : Nat} {v : Value} {R : List (List Int)} (h : LsB Qp w lo v R) (hb : Below w.heap.size w w') : LsB Qp w' lo v R := by
  obtain ⟨hs, h1, h2, h3⟩ := h
  refine ⟨hs, h1, ls_row h2 hb, fun i hi => ?_⟩
  obtain ⟨g, c, hx, ho, hq⟩ := h3 i hi
  exact ⟨g, c, hx, ho.below hb, hq⟩
theorem LsB.alloc {Qp : Nat → Prop} {w : World} {lo : Nat} {v : Value} {R : List (List Int)} (h : LsB Qp w lo v R) (o : Obj) : LsB Qp (w.alloc o) lo v R := h.below ((Below.refl _ w).alloc (Nat.le_refl _) o)
theorem LsB.empty {Qp : Nat → Prop} (w : World) (lo : Nat) (h : lo ≤ w.heap.size) {n : Nat} (hn : n = w.heap.size) : LsB Qp (w.alloc (.cells #[] 24)) lo (.slice (some ⟨n, 0, none⟩) 0 0) [] := by
  subst hn
  exact ⟨[], rfl, World.ownsRow_made w #[] 0 h (by simp [maxLen]) (by simp), fun i hi => by simp at hi⟩
theorem LsB.shape {Qp : Nat → Prop} {w : World} {lo : Nat} {v : Value} {R : List (List Int)} (h : LsB Qp w lo v R) : ∃ a c, v = .slice a R.length c := by
  obtain ⟨hs, e1, e2, e3⟩ := h
  rcases e2.2 with ⟨hv, hn⟩ | ⟨g, cap, cur, hv, _⟩
  · exact ⟨none, 0, by rw [hn]; exact hv⟩
  · exact ⟨_, _, hv⟩
theorem LsB.lo_le {Qp : Nat → Prop} {w : World} {lo : Nat} {v : Value} {R : List (List Int)} (h : LsB Qp w lo v R) : ∀ k, v.ownBlock = some k → lo ≤ k ∧ k < w.heap.size := by
  obtain ⟨hs, e1, e2, _⟩ := h
  exact World.ownsRow.lt e2
/-- the list at an index -/
theorem LsB.at {Qp : Nat → Prop} {w : World} {lo n c : Nat} {a : Option Addr} {R : List (List Int)} (h : LsB Qp w lo (.slice a n c) R) {i : Nat} (hlt : i < R.length) :
    ∃ g gi' ci, a = some ⟨g, 0, none⟩ ∧ g < w.heap.size ∧ w.cell? ⟨g, i, none⟩ = some (.slice (some ⟨gi', 0, none⟩) (rr R i).length ci) ∧ OwnInts w lo (.slice (some ⟨gi', 0, none⟩) (rr R i).length ci) (rr R i) ∧ Qp gi' := by
  obtain ⟨hs, e1, e2, e4⟩ := h
  obtain ⟨gi', ci, hz, ho, hq⟩ := e4 i hlt
  rcases e2.2 with ⟨_, h0⟩ | ⟨g, cap, cur, hv, _⟩
  · omega
  · simp only [Value.slice.injEq] at hv
    obtain ⟨rfl, rfl, rfl⟩ := hv
    exact ⟨g, gi', ci, rfl, (World.ownsRow.lt e2 g rfl).2, by rw [e2.cellAt i (by omega)]; exact hz, ho, hq⟩
/-- lists stay where another list of lists is written -/
theorem LsB.kept2 {Qp : Nat → Prop} {w w' : World} {lo lo' : Nat} {v v' : Value} {R R' : List (List Int)} (h : LsB Qp w lo v R) (h' : LsB Qp w lo' v' R') (hg : w.grownBy w' v'.ownBlock) (hne : v.ownBlock = none ∨ v.ownBlock ≠ v'.ownBlock) : LsB Qp w' lo v R := by
  obtain ⟨hs, h1, h2, h3⟩ := h
  obtain ⟨hs', _, e2, _⟩ := h'
  refine ⟨hs, h1, World.ownsRow.kept h2 hg hne, fun i hi => ?_⟩
  obtain ⟨g, c, hx, ho, hq⟩ := h3 i hi
  exact ⟨g, c, hx, World.ownsRow.kept ho hg (ls_apart e2 ho), hq⟩
/-- an append of one more list -/
theorem wpList_append_lsb {Qp : Nat → Prop} {w : World} {ops : Array Oper} {rest : List Oper} {o : Oper} {a : Act} {Q : Exit → Act → World → Prop} (hgd : o.guard = none) (s x : Operand)
    (ho : o.op = .call { callee := .builtin .append, args := #[s, x], argTypes := #[32, 32] })
    (lo : Nat) (v : Value) (R : List (List Int)) (hs : a.eval s = v) (hown : LsB Qp w lo v R) (b g c n : Nat) (L : List Int) (hn : n = L.length) (hy : OwnInts w lo (.slice (some ⟨g, 0, none⟩) n c) L) (hq : Qp g) (hx : a.eval x = .slice (some ⟨b, 0, none⟩) 1 1) (hc : w.cell? ⟨b, 0, none⟩ = some (.slice (some ⟨g, 0, none⟩) n c))
    (hlen : R.length ≤ 1073741824) (hbase : lo ≤ w.heap.size)
    (h : ∀ g' c' w', LsB Qp w' lo (.slice (some ⟨g', 0, none⟩) (R.length + 1) c') (R ++ [L]) → w.grownBy w' v.ownBlock → (v.ownBlock = some g' ∨ g' = w.heap.size) → wpList Tryz.prog ops Q rest (a.put o.dst (.slice (some ⟨g', 0, none⟩) (R.length + 1) c')) w') : wpList Tryz.prog ops Q (o :: rest) a w := by
  subst hn
  obtain ⟨i0, hi0, hz0, hz1, hz2⟩ := info_parts infoSl
  obtain ⟨hl, e1, e2, e4⟩ := hown
  refine wpList_append_own_at w hgd s x 32 ho lo 24 i0 (.slice none 0 0) 1 24 Tryz.underlying32 hi0 hz0 hz1 hz2 rfl (by decide) v R.length hl hs e2 ⟨b, 0, none⟩ 1 1 [.slice (some ⟨g, 0, none⟩) L.length c] hx rfl ?_ ?_ (by unfold maxLen; omega) (by omega) hbase ?_
  · intro j u hj
    match j, hj with
    | 0, hj => simp at hj; subst hj; simpa [Addr.add] using hc
  · intro u hu; simp at hu; subst hu; rfl
  · intro v' w' h1 h2 _ h3
    have hrow : w'.ownsRow lo 24 1 v' (R ++ [L]).length (hl ++ [.slice (some ⟨g, 0, none⟩) L.length c]) := by rw [List.length_append]; exact h1
    have hls : LsB Qp w' lo v' (R ++ [L]) := by
      refine ⟨_, by simp [e1], hrow, fun i hi => ?_⟩
      rw [List.length_append] at hi
      have hi' : i < R.length + 1 := by simpa using hi
      by_cases hlt : i < R.length
      · obtain ⟨g2, c2, hz, ho2, hq2⟩ := e4 i hlt
        have er : rr (R ++ [L]) i = rr R i := by rw [rr_app R L i hi', if_neg (by omega)]
        rw [er]
        exact ⟨g2, c2, by rw [List.getElem?_append_left (by omega)]; exact hz, World.ownsRow.kept ho2 h2 (ls_apart e2 ho2), hq2⟩
      · have ei : i = R.length := by omega
        subst ei
        have er : rr (R ++ [L]) R.length = L := by rw [rr_app R L _ hi', if_pos rfl]
        rw [er]
        exact ⟨g, c, by rw [List.getElem?_append_right (by omega), e1]; simp, World.ownsRow.kept hy h2 (ls_apart e2 hy), hq⟩
    rcases hrow.2 with ⟨_, hn⟩ | ⟨g', c', cur, hv, _⟩
    · simp at hn
    · have hl1 : (R ++ [L]).length = R.length + 1 := by simp
      rw [hl1] at hv
      subst hv
      exact h g' c' w' hls h2 (by
        rcases h3 with e | e
        · exact .inl e.symm
        · exact .inr (Option.some.inj e))
theorem lsb_of {w : World} {lo : Nat} {v : Value} {R : List (List Int)} (h : LsAt w lo v R) {Z : Nat} (hZ : Z = w.heap.size) : LsB (fun g => g < Z) w lo v R := by
  subst hZ
  obtain ⟨hs, h1, h2, h3⟩ := h
  refine ⟨hs, h1, h2, fun i hi => ?_⟩
  obtain ⟨g, c, hx, ho⟩ := h3 i hi
  exact ⟨g, c, hx, ho, ho.base_le.2⟩
theorem LsB.keptI {Qp : Nat → Prop} {w w' : World} {lo lo' : Nat} {v z : Value} {R : List (List Int)} {T : List Int} (h : LsB Qp w lo v R) (ho : OwnInts w lo' z T) (hg : w.grownBy w' z.ownBlock) (hq : ∀ g, Qp g → z.ownBlock ≠ some g) : LsB Qp w' lo v R := by
  obtain ⟨hs, h1, h2, h3⟩ := h
  refine ⟨hs, h1, World.ownsRow.kept h2 hg ?_, fun i hi => ?_⟩
  · rcases ls_apart h2 ho with e | e
    · cases hv : v.ownBlock with
      | none => exact .inl rfl
      | some k => refine .inr ?_; rw [e]; exact fun f => by cases f
    · exact .inr (Ne.symm e)
  obtain ⟨g, c, hx, ho2, hq2⟩ := h3 i hi
  exact ⟨g, c, hx, World.ownsRow.kept ho2 hg (.inr (fun e => hq g hq2 e.symm)), hq2⟩

set_option maxHeartbeats 4000000 in
theorem l10MissingB_any {Qp : Nat → Prop} (ao : Option Addr) (S : List Int) (cap : Nat) (hSp : Sp S) (lo gA cA t : Nat) (C : List (List Int)) (ht3 : t ≤ 3) (hCl : C.length ≤ 1048576) (hC : IsCs S.length t C) (ar : Option Addr) (R : List Int) (capr : Nat) (hRl : R.length ≤ 1048576) (hR : ∀ i, i < R.length → 0 ≤ gi R i ∧ gi R i < nW S) (w : World) (hlo : lo ≤ w.heap.size) (hS : Ints w ao S) (hA : LsB Qp w lo (.slice (some ⟨gA, 0, none⟩) C.length cA) C) (hRI : Ints w ar R) :
    Calls Tryz.prog 45 #[.agg #[.slice ao S.length cap], .slice (some ⟨gA, 0, none⟩) C.length cA, .slice ar R.length capr] w fun e w' => ∃ g c, e = .returned (.slice (some ⟨g, 0, none⟩) (msTo S C R R.length).length c) ∧ LsB Qp w' lo (.slice (some ⟨g, 0, none⟩) (msTo S C R R.length).length c) (msTo S C R R.length) ∧ Below w.heap.size w w' := by
  have HSp := Lib.hid hSp
  have HR := Lib.hid hR
  have HC := Lib.hid hC
  have HM := Lib.hid fun i => msTo_sub S C R i
  have HKA := Lib.hid fun i => msK_all S C R i
  have hn8 := hSp.hi
  obtain ⟨N1, N2⟩ := nW_bd hSp
  obtain ⟨N, hN⟩ : ∃ N, N = nW S := ⟨_, rfl⟩
  rw [← hN] at HR N1 N2
  clear hN hR hC hSp
  have B0 : Below w.heap.size w (w.alloc (.cells #[.slice ao S.length cap] 26)) := by go_grown
  have c0 := cell_new w (.slice ao S.length cap) 26
  have l0 := lt_alloc w (.cells #[.slice ao S.length cap] 26)
  have ls0 := hA.alloc (.cells #[.slice ao S.length cap] 26)
  go_enter Tryz.func45, Tryz.ntmps45
  go_wp2_with fail
  go_loopw [7, 8] (fun o x wr => ∃ i gl cl : Nat, i ≤ R.length ∧ x = .int .i64 (i : Int) ∧ o = .slice (some ⟨gl, 0, none⟩) (msTo S C R i).length cl ∧ LsB Qp wr lo (.slice (some ⟨gl, 0, none⟩) (msTo S C R i).length cl) (msTo S C R i) ∧ wr.cell? ⟨w.heap.size, 0, none⟩ = some (.slice ao S.length cap) ∧ w.heap.size < wr.heap.size ∧ Below w.heap.size w wr) (fun _ x _ => R.length - (intOf x).toNat)
  case atStart => exact ⟨0, gA, cA, Nat.zero_le _, rfl, rfl, ls0, c0, l0, B0⟩
  case round =>
    clear ls0 c0 l0 B0
    obtain ⟨i, gl, cl, hi, rfl, rfl, lsL, c1, l1, B⟩ := hrel
    obtain ⟨hMl, hMs⟩ := HM.out i
    have HKi := Lib.hid (HKA.out i)
    obtain ⟨L, hL⟩ : ∃ L, L = msTo S C R i := ⟨_, rfl⟩
    rw [← hL] at hMl hMs HKi lsL ⊢
    have HL := Lib.hid hL
    have HLC : Hid (∀ k, k < L.length → (rr L k).length = 2 * t ∧ ∀ j, j < t → 0 ≤ gi (rr L k) j ∧ gi (rr L k) j < S.length) := Lib.hid fun k hk => HC.out _ (hMs _ (rr_mem hk))
    clear hL hMs
    by_cases hlt : i < R.length
    · have hlI : (i : Int) < (R.length : Int) := by omega
      obtain ⟨x1, x2⟩ := HR.out i hlt
      obtain ⟨b, o, rfl, hbr, hcr⟩ := hRI.at hlt
      replace hcr := kept_cell B (hcr i hlt) hbr
      have hlr := lt_of_below B hbr
      obtain ⟨x, hx⟩ : ∃ x, x = gi R i := ⟨_, rfl⟩
      rw [← hx] at x1 x2 hcr HKi
      clear hx
      have hx0 := x1
      have hx9 : x ≤ 9223372036854775807 := by omega
      have hlo2 : lo ≤ wr.heap.size := Nat.le_trans hlo B.size
      have hiR : i < R.length := hlt
      go_upto_region 5 with fail
      go_cut [9, 10] from 19 to 26 (fun s9 s10 wx => ∃ gD gx : Nat, s9 = .slice (some ⟨gD, 0, none⟩) S.length S.length ∧ s10 = .slice (some ⟨gx, 0, none⟩) 0 0 ∧ OwnInts wx wr.heap.size (.slice (some ⟨gD, 0, none⟩) S.length S.length) (digs S x) ∧ LsB Qp wx lo (.slice (some ⟨gx, 0, none⟩) 0 0) [] ∧ wr.heap.size ≤ gx ∧ Below wr.heap.size wr wx)
      case first =>
        refine wp_region_held_drew (S := fun w' => w'.cell? ⟨w.heap.size, 0, none⟩ = some (.slice ao S.length cap) ∧ w'.cell? ⟨b, o + i, none⟩ = some (.int .i64 x)) (by kernel_rfl) (⟨c1, hcr⟩) (fun hHeld => ?_)
        refine wpAnyH_take (i := 0) (v := ?_) rfl (by kernel_rfl) (by kernel_rfl) (by kernel_rfl) (fun _ _ _ h => h) (Or.inl ⟨by rfl, ?_⟩) (by assumption) ?_
        rotate_left
        · (intro w hSw; obtain ⟨hSw0, hSw1⟩ := hSw; (try dsimp only at hSw0 hSw1); go_simp; try (with_reducible rfl))
        (try simp only [Act.put, List.setIfInBounds_toArray, List.set_cons_zero, List.set_cons_succ, List.getElem_toArray, List.getElem_cons_succ, List.getElem_cons_zero])
        refine wpAnyH_take (i := 1) (v := ?_) rfl (by kernel_rfl) (by kernel_rfl) (by kernel_rfl) (fun _ _ _ h => h) (Or.inl ⟨by rfl, ?_⟩) (by assumption) ?_
        rotate_left
        · (intro w hSw; obtain ⟨hSw0, hSw1⟩ := hSw; (try dsimp only at hSw0 hSw1); go_simp; try (with_reducible rfl))
        (try simp only [Act.put, List.setIfInBounds_toArray, List.set_cons_zero, List.set_cons_succ, List.getElem_toArray, List.getElem_cons_succ, List.getElem_cons_zero])
        refine wpAnyH_take (i := 2) (v := ?_) rfl (by kernel_rfl) (by kernel_rfl) (by kernel_rfl) (fun _ _ _ h => h) (Or.inl ⟨by rfl, ?_⟩) (by assumption) ?_
        rotate_left
        · (intro w hSw; obtain ⟨hSw0, hSw1⟩ := hSw; (try dsimp only at hSw0 hSw1); go_simp; try (with_reducible rfl))
        (try simp only [Act.put, List.setIfInBounds_toArray, List.set_cons_zero, List.set_cons_succ, List.getElem_toArray, List.getElem_cons_succ, List.getElem_cons_zero])
        refine wpAnyH_take (i := 3) (v := ?_) rfl (by kernel_rfl) (by kernel_rfl) (by kernel_rfl) (fun _ _ _ h => h) (Or.inl ⟨by rfl, ?_⟩) (by assumption) ?_
        rotate_left
        · (intro w hSw; obtain ⟨hSw0, hSw1⟩ := hSw; (try dsimp only at hSw0 hSw1); go_simp; try (with_reducible rfl))
        (try simp only [Act.put, List.setIfInBounds_toArray, List.set_cons_zero, List.set_cons_succ, List.getElem_toArray, List.getElem_cons_succ, List.getElem_cons_zero])
        refine wpAnyH_take (i := 4) (v := ?_) rfl (by kernel_rfl) (by kernel_rfl) (by kernel_rfl) (fun _ _ _ h => h) (Or.inl ⟨by rfl, ?_⟩) (by assumption) ?_
        rotate_left
        · (intro w hSw; obtain ⟨hSw0, hSw1⟩ := hSw; (try dsimp only at hSw0 hSw1); go_simp; try (with_reducible rfl))
        (try simp only [Act.put, List.setIfInBounds_toArray, List.set_cons_zero, List.set_cons_succ, List.getElem_toArray, List.getElem_cons_succ, List.getElem_cons_zero])
        refine wpAnyH_ready (rs := [5, 6]) (by kernel_rfl) (by simp) ?_
        refine AllReadyH.cons rfl (fun K hK => ?_) ?_
        · go_simp
          (go_at_call 55; refine (l01Digits_any ao S cap HSp.out.hi HSp.out.bd x hx0 hx9 _ ((hS.below B).below (Below.refl wr.heap.size wr).drew)).mono ?_)
          rintro e x1 ⟨gD1, rfl, own1, hb1⟩
          have H1 : Below wr.heap.size wr x1 := Below.trans (Below.refl wr.heap.size wr).drew (hb1.mono (Below.size (Below.refl wr.heap.size wr).drew))
          replace own1 := own1.rebase (base' := wr.heap.size) (Below.size (Below.refl wr.heap.size wr).drew)
          refine hK.out _ _ (⟨kept_cell H1 c1 l1, kept_cell H1 hcr hlr⟩) (fun hHeld => ?_)
          clear hK K
          (try simp only [Act.put, List.setIfInBounds_toArray, List.set_cons_zero, List.set_cons_succ, List.getElem_toArray, List.getElem_cons_succ, List.getElem_cons_zero])
          refine wpAnyH_take (i := 7) (v := ?_) rfl (by kernel_rfl) (by kernel_rfl) (by kernel_rfl) (fun _ _ _ h => h) (Or.inl ⟨by rfl, ?_⟩) (by assumption) ?_
          rotate_left
          · (intro w hSw; obtain ⟨hSw0, hSw1⟩ := hSw; (try dsimp only at hSw0 hSw1); go_simp; try (with_reducible rfl))
          (try simp only [Act.put, List.setIfInBounds_toArray, List.set_cons_zero, List.set_cons_succ, List.getElem_toArray, List.getElem_cons_succ, List.getElem_cons_zero])
          refine wpAnyH_ready (rs := [6]) (by kernel_rfl) (by simp) ?_
          refine AllReadyH.cons rfl (fun K hK => ?_) AllReadyH.nil
          go_simp
          have H2 : Below wr.heap.size wr (x1.alloc (.cells #[] 24)) := Below.alloc H1 (Below.size H1) _
          replace own1 := own1.below ((Below.refl _ x1).alloc (Nat.le_refl _) (.cells #[] 24))
          have lsx2 := LsB.empty (Qp := Qp) x1 lo (Nat.le_trans hlo2 (Below.size H1)) (n := x1.heap.size) rfl
          have hgx2 : wr.heap.size ≤ x1.heap.size := Below.size H1
          refine hK.out _ _ (⟨kept_cell H2 c1 l1, kept_cell H2 hcr hlr⟩) (fun hHeld => ?_)
          clear hK K
          (try simp only [Act.put, List.setIfInBounds_toArray, List.set_cons_zero, List.set_cons_succ, List.getElem_toArray, List.getElem_cons_succ, List.getElem_cons_zero])
          refine wpAnyH_take (i := 8) (v := ?_) rfl (by kernel_rfl) (by kernel_rfl) (by kernel_rfl) (fun _ _ _ h => h) (Or.inl ⟨by rfl, ?_⟩) (by assumption) ?_
          rotate_left
          · (intro w hSw; obtain ⟨hSw0, hSw1⟩ := hSw; (try dsimp only at hSw0 hSw1); go_simp; try (with_reducible rfl))
          (try simp only [Act.put, List.setIfInBounds_toArray, List.set_cons_zero, List.set_cons_succ, List.getElem_toArray, List.getElem_cons_succ, List.getElem_cons_zero])
          refine wpAnyH_done (by kernel_rfl) ?_ _
          (try simp only [Act.put, List.setIfInBounds_toArray, List.set_cons_zero, List.set_cons_succ, List.getElem_toArray, List.getElem_cons_succ, List.getElem_cons_zero])
          go_wp2_with fail
          go_meet
          exact ⟨_, _, rfl, rfl, own1, lsx2, hgx2, H2⟩
        refine AllReadyH.cons rfl (fun K hK => ?_) AllReadyH.nil
        go_simp
        have H1 : Below wr.heap.size wr (wr.drew.alloc (.cells #[] 24)) := Below.alloc (Below.refl wr.heap.size wr).drew (Below.size (Below.refl wr.heap.size wr).drew) _
        have lsx1 := LsB.empty (Qp := Qp) wr.drew lo (Nat.le_trans hlo2 (Below.size (Below.refl wr.heap.size wr).drew)) (n := wr.drew.heap.size) rfl
        have hgx1 : wr.heap.size ≤ wr.drew.heap.size := Below.size (Below.refl wr.heap.size wr).drew
        refine hK.out _ _ (⟨kept_cell H1 c1 l1, kept_cell H1 hcr hlr⟩) (fun hHeld => ?_)
        clear hK K
        (try simp only [Act.put, List.setIfInBounds_toArray, List.set_cons_zero, List.set_cons_succ, List.getElem_toArray, List.getElem_cons_succ, List.getElem_cons_zero])
        refine wpAnyH_ready (rs := [5]) (by kernel_rfl) (by simp) ?_
        refine AllReadyH.cons rfl (fun K hK => ?_) AllReadyH.nil
        go_simp
        (go_at_call 55; refine (l01Digits_any ao S cap HSp.out.hi HSp.out.bd x hx0 hx9 _ ((hS.below B).below H1)).mono ?_)
        rintro e x2 ⟨gD2, rfl, own2, hb2⟩
        have H2 : Below wr.heap.size wr x2 := Below.trans H1 (hb2.mono (Below.size H1))
        replace lsx1 := lsx1.below hb2
        replace own2 := own2.rebase (base' := wr.heap.size) (Below.size H1)
        refine hK.out _ _ (⟨kept_cell H2 c1 l1, kept_cell H2 hcr hlr⟩) (fun hHeld => ?_)
        clear hK K
        (try simp only [Act.put, List.setIfInBounds_toArray, List.set_cons_zero, List.set_cons_succ, List.getElem_toArray, List.getElem_cons_succ, List.getElem_cons_zero])
        refine wpAnyH_take (i := 7) (v := ?_) rfl (by kernel_rfl) (by kernel_rfl) (by kernel_rfl) (fun _ _ _ h => h) (Or.inl ⟨by rfl, ?_⟩) (by assumption) ?_
        rotate_left
        · (intro w hSw; obtain ⟨hSw0, hSw1⟩ := hSw; (try dsimp only at hSw0 hSw1); go_simp; try (with_reducible rfl))
        (try simp only [Act.put, List.setIfInBounds_toArray, List.set_cons_zero, List.set_cons_succ, List.getElem_toArray, List.getElem_cons_succ, List.getElem_cons_zero])
        refine wpAnyH_take (i := 8) (v := ?_) rfl (by kernel_rfl) (by kernel_rfl) (by kernel_rfl) (fun _ _ _ h => h) (Or.inl ⟨by rfl, ?_⟩) (by assumption) ?_
        rotate_left
        · (intro w hSw; obtain ⟨hSw0, hSw1⟩ := hSw; (try dsimp only at hSw0 hSw1); go_simp; try (with_reducible rfl))
        (try simp only [Act.put, List.setIfInBounds_toArray, List.set_cons_zero, List.set_cons_succ, List.getElem_toArray, List.getElem_cons_succ, List.getElem_cons_zero])
        refine wpAnyH_done (by kernel_rfl) ?_ _
        (try simp only [Act.put, List.setIfInBounds_toArray, List.set_cons_zero, List.set_cons_succ, List.getElem_toArray, List.getElem_cons_succ, List.getElem_cons_zero])
        go_wp2_with fail
        go_meet
        exact ⟨_, _, rfl, rfl, own2, lsx1, hgx1, H2⟩
      case rest =>
      obtain ⟨gD, gx, rfl, rfl, ownD, lsN, hgx, Hn⟩ := hcut
      obtain ⟨w0, rfl⟩ : ∃ w0, w0 = wr := ⟨_, rfl⟩
      have hgl := lsL.lo_le gl rfl
      have hgg : gl ≠ gx := by omega
      have hgx1 : w.heap.size + 1 ≤ gx := Nat.le_trans l1 hgx
      have lsL5 := lsL.below Hn
      have c5 := kept_cell Hn c1 l1
      have l5 := lt_of_below Hn l1
      have B5 := B.trans (Hn.mono B.size)
      have HDl := digs_length S x
      obtain ⟨D, hD⟩ : ∃ D, D = digs S x := ⟨_, rfl⟩
      rw [← hD] at ownD HKi HDl
      have HDL := Lib.hid HDl
      have HKs := Lib.hid fun k (h : k < L.length) => msK_succ D L k h
      have HKl := Lib.hid fun k => msK_len D L k
      have h0g : lo ≤ w0.heap.size := hlo2
      clear hD HDl lsL c1 l1 B hcr hlr hgl hgx Hn x1 x2
      go_wp2_with fail
      go_loopw [10, 11] (fun o x wk => ∃ k g5 c5 : Nat, k ≤ L.length ∧ x = .int .i64 (k : Int) ∧ o = .slice (some ⟨g5, 0, none⟩) (msK D L k).length c5 ∧ LsB Qp wk lo (.slice (some ⟨g5, 0, none⟩) (msK D L k).length c5) (msK D L k) ∧ LsB Qp wk lo (.slice (some ⟨gl, 0, none⟩) L.length cl) L ∧ OwnInts wk w0.heap.size (.slice (some ⟨gD, 0, none⟩) S.length S.length) D ∧ gl ≠ g5 ∧ w.heap.size + 1 ≤ g5 ∧ wk.cell? ⟨w.heap.size, 0, none⟩ = some (.slice ao S.length cap) ∧ w.heap.size < wk.heap.size ∧ Below w.heap.size w wk) (fun _ x _ => L.length - (intOf x).toNat)
      case atStart => exact ⟨0, gx, 0, Nat.zero_le _, rfl, rfl, lsN, lsL5, ownD, hgg, hgx1, c5, l5, B5⟩
      case round =>
        clear lsN lsL5 ownD hgg c5 l5 B5
        obtain ⟨k, g5, c5, hk, rfl, rfl, lsN, lsL, ownD, hgg, hg5, c1, l1, B⟩ := hrel
        have HNs := Lib.hid (HKs.out k)
        have hNl := HKl.out k
        have HNa : Hid (k = L.length → msK D L k = msTo S C R (i + 1)) := Lib.hid fun h => by rw [h, HKi.out]
        obtain ⟨T, hT⟩ : ∃ T, T = msK D L k := ⟨_, rfl⟩
        rw [← hT] at HNs hNl HNa lsN ⊢
        clear hT
        by_cases hlk : k < L.length
        · have hkI : (k : Int) < (L.length : Int) := by omega
          obtain ⟨gl', gr, cr, hgl', hlp, hcp, hop, hqq⟩ := lsL.at hlk
          obtain rfl : gl = gl' := by simpa using hgl'
          obtain ⟨hEl, hEb⟩ := HLC.out k hlk
          have HNn := Lib.hid (HNs.out hlk)
          obtain ⟨E, hE⟩ : ∃ E, E = rr L k := ⟨_, rfl⟩
          rw [← hE] at hEl hEb HNn hcp hop
          obtain ⟨m, hm⟩ : ∃ m, m = E.length := ⟨_, rfl⟩
          rw [← hm] at hEl hcp hop
          have HEm := Lib.hid hm
          have HmI := Lib.hid hEl
          have HEb := Lib.hid hEb
          have hm6 : m ≤ 6 := by omega
          clear hgl' hE hm HNs HNa hEb hEl
          cases hh : hasC D E with
          | true =>
            have HT2 : Hid (msK D L (k + 1) = T) := Lib.hid (by rw [HNn.out, if_pos hh, List.append_nil])
            have HH := Lib.hid hh
            clear hh
            go_wp2_with fail
            refine (l10Has_any gD S.length S.length D gr m cr t E HDL.out hn8 HEm.out.symm HmI.out ht3 HEb.out wr (own_ints ownD) (own_ints hop)).mono ?_
            rw [HH.out]
            rintro e w5 ⟨rfl, hb5⟩
            have lsN5 := lsN.below hb5
            have lsL5 := lsL.below hb5
            have ownD5 := ownD.below hb5
            have c5b := kept_cell hb5 c1 l1
            have l5 := lt_of_below hb5 l1
            have B5 := B.trans (hb5.mono B.size)
            clear lsN lsL ownD c1 l1 B hcp hop hlp hb5
            go_wp2_with fail
            go_roundw
            case rel => exact ⟨k + 1, g5, c5, by omega, by go_num, by rw [HT2.out], by rw [HT2.out]; exact lsN5, lsL5, ownD5, hgg, hg5, c5b, l5, B5⟩
            case measure => simp [intOf]; omega
          | false =>
            have HT2 : Hid (msK D L (k + 1) = T ++ [E]) := Lib.hid (by rw [HNn.out, if_neg (by rw [hh]; decide)])
            have HH := Lib.hid hh
            clear hh
            go_wp2_with fail
            refine (l10Has_any gD S.length S.length D gr m cr t E HDL.out hn8 HEm.out.symm HmI.out ht3 HEb.out wr (own_ints ownD) (own_ints hop)).mono ?_
            rw [HH.out]
            rintro e w5 ⟨rfl, hb5⟩
            have lsN5 := lsN.below hb5
            have lsL5 := lsL.below hb5
            have ownD5 := ownD.below hb5
            have c5b := kept_cell hb5 c1 l1
            have l5 := lt_of_below hb5 l1
            have B5 := B.trans (hb5.mono B.size)
            have hcp5 := kept_cell hb5 hcp hlp
            have hlp5 := lt_of_below hb5 hlp
            have hop5 := hop.below hb5
            have hlo5 : lo ≤ w5.heap.size := Nat.le_trans (Nat.le_trans hlo (Nat.le_of_lt l1)) hb5.size
            clear lsN lsL ownD c1 l1 B hcp hop hlp hb5
            go_wp2_with (first
              | (at_builtin; refine wpList_append_lsb rfl _ _ rfl lo _ T rfl (lsN5.alloc _) w5.heap.size gr cr m E HEm.out (hop5.alloc _) hqq rfl (cell_new _ _ _) (by omega) (by simp; omega) ?_; intro g9 c9 w9 ls9 hg9 hat9)
              | fail)
            have lsN6 := lsN5.alloc (.cells #[.slice (some ⟨gr, 0, none⟩) m cr] 24)
            have lsL9 := (lsL5.alloc (.cells #[.slice (some ⟨gr, 0, none⟩) m cr] 24)).kept2 lsN6 hg9 (.inr (by simp only [Value.ownBlock]; intro e; exact hgg (Option.some.inj e)))
            have ownD9 : OwnInts w9 w0.heap.size (.slice (some ⟨gD, 0, none⟩) S.length S.length) D := by
              obtain ⟨hs, _, e2, _⟩ := lsN6
              exact (ownD5.alloc (.cells #[.slice (some ⟨gr, 0, none⟩) m cr] 24)).kept hg9 (ls_apart e2 (ownD5.alloc _))
            have B8 : Below (w.heap.size + 1) w5 (w5.alloc (.cells #[.slice (some ⟨gr, 0, none⟩) m cr] 24)) := ((Below.refl _ w5).mono l5).alloc l5 _
            have B9 : Below (w.heap.size + 1) w5 w9 := B8.grown hg9 (Nat.le_trans l5 B8.size) (fun z hz => by cases hz; exact hg5)
            have c9b := kept_cell B9 c5b (Nat.lt_succ_self _)
            have l9 := Nat.lt_of_lt_of_le l5 B9.size
            have BB := B5.trans (B9.mono (Nat.le_succ _))
            have hne9 : gl ≠ g9 ∧ w.heap.size + 1 ≤ g9 := by
              rcases hat9 with e | e
              · have e' : g5 = g9 := Option.some.inj e
                omega
              · have h1 := (lsL5.lo_le gl rfl).2; rw [World.size_alloc] at e; omega
            have HTl : Hid (T.length + 1 = (msK D L (k + 1)).length) := Lib.hid (by rw [HT2.out]; simp)
            rw [← HT2.out, HTl.out] at ls9
            rw [HTl.out]
            clear lsN5 lsL5 ownD5 c5b l5 B5 lsN6 B8 B9 hg9 hat9 hcp5 hlp5 hop5 hgg
            go_wp2_with fail
            go_roundw
            case rel => exact ⟨k + 1, g9, c9, by omega, by go_num, rfl, ls9, lsL9, ownD9, hne9.1, hne9.2, c9b, l9, BB⟩
            case measure => simp [intOf]; omega
        · have hkI : ¬ (k : Int) < (L.length : Int) := by omega
          have HTe := Lib.hid (HNa.out (by omega))
          rw [HTe.out] at lsN ⊢
          go_wp2_with fail
          go_roundw
          case rel => exact ⟨i + 1, g5, c5, by omega, by go_num, rfl, lsN, c1, l1, B⟩
          case measure => simp [intOf]; omega
    · have hlI : ¬ (i : Int) < (R.length : Int) := by omega
      have HE : Hid (L = msTo S C R R.length) := Lib.hid (by rw [HL.out, show i = R.length by omega])
      rw [HE.out] at lsL
      go_wp2_with fail
      go_ret
      exact ⟨gl, cl, by rw [HE.out]; rfl, lsL, B⟩


end Go.Proofs.YtpmfedllbiblbaaGreat

namespace Go.Proofs.YtpmfedllbiblbaaGreat
open Go.RowKit Cv
set_option linter.unusedVariables false
set_option linter.unusedSimpArgs false
set_option maxRecDepth 100000

theorem one_rng {x N : Int} (h : 0 ≤ x ∧ x < N) : ∀ j, j < ([x] : List Int).length → 0 ≤ gi [x] j ∧ gi [x] j < N := fun j hj => by
  have : j = 0 := by simpa using hj
  subst this; exact h
theorem ret_v2 {v : Value} {c d : Int} (h2 : c = d) : Ending.returned (.tuple #[v, .int .i64 c]) = .returned (.tuple #[v, .int .i64 d]) := by rw [h2]
/-- how many choices each of the first k rows has that those before it lack -/
def nwL (S : List Int) (C : List (List Int)) (R : List Int) (k : Nat) : List Int := (List.range k).map fun j => ((msTo S C R j).length : Int) - ((msTo S C R (j + 1)).length : Int)
theorem nwL_succ (S : List Int) (C : List (List Int)) (R : List Int) (k : Nat) : nwL S C R (k + 1) = nwL S C R k ++ [((msTo S C R k).length : Int) - ((msTo S C R (k + 1)).length : Int)] := by
  unfold nwL; rw [List.range_succ, List.map_append]; rfl
theorem nwL_len (S : List Int) (C : List (List Int)) (R : List Int) (k : Nat) : (nwL S C R k).length = k := by simp [nwL]
def vNw (S R : List Int) (t : Int) : List Int := if eR10 S R t = 0 then nwL S (allC S t.toNat) R R.length else []
theorem vNw_len (S R : List Int) (t : Int) : (vNw S R t).length ≤ 1024 := by
  unfold vNw
  by_cases h : eR10 S R t = 0
  · rw [if_pos h, nwL_len]; have := (eR10_zero h).2.2.1; omega
  · rw [if_neg h]; simp

set_option maxHeartbeats 4000000 in
theorem spec_NewChoices (ao : Option Addr) (S : List Int) (cap : Nat) (hn : S.length ≤ 4294967296) (ar : Option Addr) (R : List Int) (capr : Nat) (hnr : R.length ≤ 4294967296) (hcap : R.length ≤ capr) (t : Int) (ht : -9223372036854775808 ≤ t ∧ t ≤ 9223372036854775807) (w : World) (hS : Ints w ao S) (hRI : Ints w ar R) :
    Calls Tryz.prog 16 #[.agg #[.slice ao S.length cap], .slice ar R.length capr, .int .i64 t] w fun e w' => ∃ v, e = .returned (.tuple #[v, .int .i64 (eR10 S R t)]) ∧ OwnInts w' w.heap.size v (vNw S R t) ∧ Below w.heap.size w w' := by
  have B0 : Below w.heap.size w (w.alloc (.cells #[.slice ao S.length cap] 26)) := by go_grown
  have c0 := cell_new w (.slice ao S.length cap) 26
  have l0 := lt_alloc w (.cells #[.slice ao S.length cap] 26)
  have hc := l10Rows_any ao S cap hn ar R capr hnr t _ (hS.below B0) (hRI.below B0)
  by_cases he : eR10 S R t = 0
  case neg =>
    have HV : Hid (vNw S R t = []) := Lib.hid (by unfold vNw; rw [if_neg he])
    obtain ⟨E, hE⟩ : ∃ E, E = eR10 S R t := ⟨_, rfl⟩
    rw [← hE] at hc he ⊢
    have hb : (E != 0) = true := by simpa using he
    clear hE he
    go_enter Tryz.func16, Tryz.ntmps16
    go_wp2_with fail
    refine hc.mono ?_
    rintro e w1 ⟨rfl, hb1⟩
    have B1 := B0.trans (hb1.mono B0.size)
    go_wp2_with fail
    go_ret2
    exact ⟨_, rfl, by rw [HV.out]; exact World.ownsRow_nil _ _ _ _, B1⟩
  obtain ⟨hSp, hRb, hR2, g1, g2, g3⟩ := eR10_zero he
  have HSp := Lib.hid hSp
  have HRb := Lib.hid hRb
  have HV : Hid (vNw S R t = nwL S (allC S t.toNat) R R.length) := Lib.hid (by unfold vNw; rw [if_pos he])
  have HE := Lib.hid he
  rw [he] at hc
  clear he hRb
  obtain ⟨t, rfl⟩ : ∃ n : Nat, t = n := ⟨t.toNat, by omega⟩
  rw [Int.toNat_natCast] at HV
  have ht1 : 0 < t := by omega
  have ht3 : t ≤ 3 := by omega
  have hC832 := allC_le hSp ht1 ht3
  have HCc : Hid (IsCs S.length t (allC S t)) := Lib.hid (allC_cs t)
  have hal := l10All_any ao S cap hSp t ht1 ht3
  obtain ⟨C, hC⟩ : ∃ C, C = allC S t := ⟨_, rfl⟩
  rw [← hC] at HV hC832 HCc hal
  have HMT := Lib.hid fun i => msTo_sub S C R i
  have HNW := Lib.hid fun i => nwL_succ S C R i
  obtain ⟨K, hK⟩ : ∃ K, K = R.length := ⟨_, rfl⟩
  have HK := Lib.hid hK
  rw [← hK] at hR2 hcap HV hc ⊢
  clear hSp hC hK
  go_enter Tryz.func16, Tryz.ntmps16
  go_wp2_with fail
  refine hc.mono ?_
  rintro e w1 ⟨rfl, hb1⟩
  have c1 := kept_cell hb1 c0 l0
  have l1 := lt_of_below hb1 l0
  have B1 := B0.trans (hb1.mono B0.size)
  have hal1 := hal _ (hS.below B1)
  clear hc c0 l0 B0 hb1 hal
  go_wp2_with fail
  refine hal1.mono ?_
  rintro e w2 ⟨ga, ca, rfl, ls, hb2⟩
  have c2 := kept_cell hb2 c1 l1
  have l2 := lt_of_below hb2 l1
  have B2 := B1.trans (hb2.mono B1.size)
  replace ls := ls.rebase (lo' := w.heap.size) B1.size
  obtain ⟨Z, hZ⟩ : ∃ Z, Z = w2.heap.size := ⟨_, rfl⟩
  have lsB := (lsb_of ls hZ).alloc (.cells #[] 2)
  have o2 := own_empty w2 Z (Nat.le_of_eq hZ) rfl
  have c3 := kept_cell ((Below.refl _ w2).alloc (Nat.le_refl _) (.cells #[] 2)) c2 l2
  have l3 : w.heap.size < (w2.alloc (.cells #[] 2)).heap.size := by simp; omega
  have B3 := B2.alloc B2.size (.cells #[] 2)
  have z3 : Z ≤ (w2.alloc (.cells #[] 2)).heap.size := by simp; omega
  have HZw : Hid (w.heap.size ≤ Z) := Lib.hid (by omega)
  have HZ1 : w.heap.size + 1 ≤ Z := by omega
  clear hal1 ls c1 l1 B1 hb2 c2 l2 B2 hZ
  have hN0 : Hid (nwL S C R 0 = []) := Lib.hid rfl
  have hM0 : Hid (msTo S C R 0 = C) := Lib.hid rfl
  go_wp2_with fail
  go_loopw [9, 10, 11] (fun o q x wr => ∃ i gl cl go co : Nat, i ≤ K ∧ x = .int .i64 (i : Int) ∧ o = .slice (some ⟨gl, 0, none⟩) (msTo S C R i).length cl ∧ q = .slice (some ⟨go, 0, none⟩) i co ∧ LsB (fun g => g < Z) wr w.heap.size (.slice (some ⟨gl, 0, none⟩) (msTo S C R i).length cl) (msTo S C R i) ∧ OwnInts wr Z (.slice (some ⟨go, 0, none⟩) i co) (nwL S C R i) ∧ Z ≤ wr.heap.size ∧ wr.cell? ⟨w.heap.size, 0, none⟩ = some (.slice ao S.length cap) ∧ w.heap.size < wr.heap.size ∧ Below w.heap.size w wr) (fun _ _ x _ => K - (intOf x).toNat)
  case atStart => exact ⟨0, ga, ca, _, 0, Nat.zero_le _, rfl, rfl, rfl, lsB, by rw [hN0.out]; exact o2, z3, c3, l3, B3⟩
  case round =>
    clear lsB o2 z3 c3 l3 B3
    obtain ⟨i, gl, cl, go, co, hi, rfl, rfl, rfl, lsL, oQ, zr, c1, l1, B⟩ := hrel
    obtain ⟨hMl, hMs⟩ := HMT.out i
    have hMl1 := (HMT.out (i + 1)).1
    have HLc : Hid (IsCs S.length t (msTo S C R i)) := Lib.hid fun c hc => HCc.out c (hMs c hc)
    have HNi := Lib.hid (HNW.out i)
    have HNx : Hid (∀ x, x = gi R i → msTo S (msTo S C R i) [x] 1 = msTo S C R (i + 1)) := Lib.hid fun x hx => by subst hx; rfl
    obtain ⟨L, hL⟩ : ∃ L, L = msTo S C R i := ⟨_, rfl⟩
    obtain ⟨Nx, hNx⟩ : ∃ Nx, Nx = msTo S C R (i + 1) := ⟨_, rfl⟩
    rw [← hL] at HLc HNi HNx lsL hMl ⊢
    rw [← hNx] at HNi HNx hMl1
    have HNe := Lib.hid hNx
    clear hL hNx hMs
    by_cases hlt : i < K
    · have hlI : (i : Int) < (K : Int) := by omega
      have hiR : i < R.length := by rw [← HK.out]; exact hlt
      obtain ⟨b, o, rfl, hbr, hcr⟩ := hRI.at hiR
      obtain ⟨x1, x2⟩ := HRb.out i hiR
      obtain ⟨x, hx⟩ : ∃ x, x = gi R i := ⟨_, rfl⟩
      have hcx := hcr i hiR
      rw [← hx] at x1 x2 hcx
      have hRx : Ints w (some ⟨b, o + i, none⟩) [x] := .inr ⟨b, o + i, rfl, hbr, fun j hj => by
        have : j = 0 := by simpa using hj
        subst this; exact hcx⟩
      have HNx2 := Lib.hid (HNx.out x hx)
      have HCA : Hid (∀ W : World, w.heap.size ≤ W.heap.size → Ints W ao S → LsB (fun g => g < Z) W w.heap.size (.slice (some ⟨gl, 0, none⟩) L.length cl) L → Ints W (some ⟨b, o + i, none⟩) [x] → Calls Tryz.prog 45 #[.agg #[.slice ao S.length cap], .slice (some ⟨gl, 0, none⟩) L.length cl, .slice (some ⟨b, o + i, none⟩) 1 (capr - i)] W fun e w' => ∃ g c, e = .returned (.slice (some ⟨g, 0, none⟩) Nx.length c) ∧ LsB (fun g => g < Z) w' w.heap.size (.slice (some ⟨g, 0, none⟩) Nx.length c) Nx ∧ Below W.heap.size W w') := Lib.hid fun W h1 h2 h3 h4 => by
        have h := l10MissingB_any ao S cap HSp.out w.heap.size gl cl t L ht3 (by omega) HLc.out (some ⟨b, o + i, none⟩) [x] (capr - i) (by simp) (one_rng ⟨x1, x2⟩) W h1 h2 h3 h4
        rw [show ([x] : List Int).length = 1 from rfl, HNx2.out] at h
        exact h
      obtain ⟨i1, hi1⟩ : ∃ i1, i1 = i + 1 := ⟨_, rfl⟩
      have f1 : i ≤ i1 := by omega
      have f2 : i1 - i = 1 := by omega
      have f3 : ¬ capr = i := by omega
      have f4 : (i1 : Int) ≤ (capr : Int) := by omega
      have f5 : (i : Int) ≤ (i1 : Int) := by omega
      have f6 : i1 ≤ capr := by omega
      have HI1 := Lib.hid hi1
      have e0 : IntKind.i64.wrap ((i : Int) + 1) = (i1 : Int) := by rw [hi1]; push_cast; exact IntWalk.i64_in _ ⟨by omega, by omega⟩
      clear hcr hcx hx HNx hi1 x1 x2
      go_wp2_with fail
      refine wp_region_held_drew (S := fun w' => w'.cell? ⟨w.heap.size, 0, none⟩ = some (.slice ao S.length cap)) (by kernel_rfl) (c1) (fun hHeld => ?_)
      refine wpAnyH_take (i := 0) (v := ?_) rfl (by kernel_rfl) (by kernel_rfl) (by kernel_rfl) (fun _ _ _ h => h) (Or.inl ⟨by rfl, ?_⟩) (by assumption) ?_
      rotate_left
      · (intro w hSw; obtain hSw := hSw; (try dsimp only at hSw); go_simp; try (with_reducible rfl))
      (try simp only [Act.put, List.setIfInBounds_toArray, List.set_cons_zero, List.set_cons_succ, List.getElem_toArray, List.getElem_cons_succ, List.getElem_cons_zero])
      refine wpAnyH_take (i := 1) (v := ?_) rfl (by kernel_rfl) (by kernel_rfl) (by kernel_rfl) (fun _ _ _ h => h) (Or.inl ⟨by rfl, ?_⟩) (by assumption) ?_
      rotate_left
      · (intro w hSw; obtain hSw := hSw; (try dsimp only at hSw); go_simp; try (with_reducible rfl))
      (try simp only [Act.put, List.setIfInBounds_toArray, List.set_cons_zero, List.set_cons_succ, List.getElem_toArray, List.getElem_cons_succ, List.getElem_cons_zero])
      refine wpAnyH_take (i := 2) (v := ?_) rfl (by kernel_rfl) (by kernel_rfl) (by kernel_rfl) (fun _ _ _ h => h) (Or.inl ⟨by rfl, ?_⟩) (by assumption) ?_
      rotate_left
      · (intro w hSw; obtain hSw := hSw; (try dsimp only at hSw); go_simp; try (with_reducible rfl))
      (try simp only [Act.put, List.setIfInBounds_toArray, List.set_cons_zero, List.set_cons_succ, List.getElem_toArray, List.getElem_cons_succ, List.getElem_cons_zero])
      refine wpAnyH_take (i := 3) (v := ?_) rfl (by kernel_rfl) (by kernel_rfl) (by kernel_rfl) (fun _ _ _ h => h) (Or.inl ⟨by rfl, ?_⟩) (by assumption) ?_
      rotate_left
      · (intro w hSw; obtain hSw := hSw; (try dsimp only at hSw); go_simp; try (with_reducible rfl))
      (try simp only [Act.put, List.setIfInBounds_toArray, List.set_cons_zero, List.set_cons_succ, List.getElem_toArray, List.getElem_cons_succ, List.getElem_cons_zero])
      refine wpAnyH_take (i := 4) (v := ?_) rfl (by kernel_rfl) (by kernel_rfl) (by kernel_rfl) (fun _ _ _ h => h) (Or.inl ⟨by rfl, ?_⟩) (by assumption) ?_
      rotate_left
      · (intro w hSw; obtain hSw := hSw; (try dsimp only at hSw); go_simp; try (with_reducible rfl))
      (try simp only [Act.put, List.setIfInBounds_toArray, List.set_cons_zero, List.set_cons_succ, List.getElem_toArray, List.getElem_cons_succ, List.getElem_cons_zero])
      refine wpAnyH_take (i := 5) (v := ?_) rfl (by kernel_rfl) (by kernel_rfl) (by kernel_rfl) (fun _ _ _ h => h) (Or.inl ⟨by rfl, ?_⟩) (by assumption) ?_
      rotate_left
      · (intro w hSw; obtain hSw := hSw; (try dsimp only at hSw); go_simp; try (with_reducible rfl))
      (try simp only [Act.put, List.setIfInBounds_toArray, List.set_cons_zero, List.set_cons_succ, List.getElem_toArray, List.getElem_cons_succ, List.getElem_cons_zero])
      refine wpAnyH_take (i := 6) (v := ?_) rfl (by kernel_rfl) (by kernel_rfl) (by kernel_rfl) (fun _ _ _ h => h) (Or.inl ⟨by rfl, ?_⟩) (by assumption) ?_
      rotate_left
      · (intro w hSw; obtain hSw := hSw; (try dsimp only at hSw); go_simp; try (with_reducible rfl))
      (try simp only [Act.put, List.setIfInBounds_toArray, List.set_cons_zero, List.set_cons_succ, List.getElem_toArray, List.getElem_cons_succ, List.getElem_cons_zero])
      refine wpAnyH_ready (rs := [7]) (by kernel_rfl) (by simp) ?_
      refine AllReadyH.cons rfl (fun K hK => ?_) AllReadyH.nil
      go_simp
      (go_at_call 45; refine (HCA.out _ (Nat.le_trans B.size (Below.size (Below.refl wr.heap.size wr).drew)) ((hS.below B).below (Below.refl wr.heap.size wr).drew) (lsL.below (Below.refl wr.heap.size wr).drew) ((hRx.below B).below (Below.refl wr.heap.size wr).drew)).mono ?_)
      rintro e x1 ⟨gn, cn, rfl, lsN, hb1⟩
      have H1 : Below wr.heap.size wr x1 := Below.trans (Below.refl wr.heap.size wr).drew (hb1.mono (Below.size (Below.refl wr.heap.size wr).drew))
      refine hK.out _ _ (kept_cell H1 c1 l1) (fun hHeld => ?_)
      clear hK K
      (try simp only [Act.put, List.setIfInBounds_toArray, List.set_cons_zero, List.set_cons_succ, List.getElem_toArray, List.getElem_cons_succ, List.getElem_cons_zero])
      refine wpAnyH_take (i := 8) (v := ?_) rfl (by kernel_rfl) (by kernel_rfl) (by kernel_rfl) (fun _ _ _ h => h) (Or.inl ⟨by rfl, ?_⟩) (by assumption) ?_
      rotate_left
      · (intro w hSw; obtain hSw := hSw; (try dsimp only at hSw); go_simp; try (with_reducible rfl))
      (try simp only [Act.put, List.setIfInBounds_toArray, List.set_cons_zero, List.set_cons_succ, List.getElem_toArray, List.getElem_cons_succ, List.getElem_cons_zero])
      refine wpAnyH_done (by kernel_rfl) ?_ _
      (try simp only [Act.put, List.setIfInBounds_toArray, List.set_cons_zero, List.set_cons_succ, List.getElem_toArray, List.getElem_cons_succ, List.getElem_cons_zero])
      have Hn : Below wr.heap.size wr x1 := H1
      obtain ⟨w5, hw5⟩ : ∃ z, z = x1 := ⟨_, rfl⟩
      rw [← hw5] at Hn lsN ⊢
      clear hw5 hHeld
      have oQ5 := oQ.below Hn
      have zr5 := Nat.le_trans zr Hn.size
      have c5 := kept_cell Hn c1 l1
      have l5 := lt_of_below Hn l1
      have B5 := B.trans (Hn.mono B.size)
      have hNl : Hid ((nwL S C R i).length = i) := Lib.hid (nwL_len S C R i)
      clear lsL oQ zr c1 l1 B Hn e0 f1 f2 f3 f4 f5 f6 HCA hRx
      go_wp2_with (first
        | (at_builtin; refine wpList_append_int rfl _ _ rfl Z _ (nwL S C R i) rfl (oQ5.alloc _) w5.heap.size ((L.length : Int) - (Nx.length : Int)) rfl (cell_new _ _ _) (by rw [hNl.out]; omega) (by simp; omega) ?_; intro v7 w7 own7 hgrow7; obtain ⟨g7, c7, hv7, _⟩ := own_some own7 (by simp); rw [← HNi.out, nwL_len] at hv7; subst hv7; rw [← HNi.out] at own7)
        | fail)
      have B7 : Below (w.heap.size + 1) w5 w7 := (((Below.refl _ w5).mono l5).alloc l5 (.cells #[.int .i64 ((L.length : Int) - (Nx.length : Int))] 2)).grown hgrow7 (by simp; omega) (fun z hz => by have h1 := oQ5.base_le.1; have e' : go = z := Option.some.inj hz; omega)
      have ls7 := (lsN.alloc (.cells #[.int .i64 ((L.length : Int) - (Nx.length : Int))] 2)).keptI (oQ5.alloc (.cells #[.int .i64 ((L.length : Int) - (Nx.length : Int))] 2)) hgrow7 (fun g hg => by have h1 := oQ5.base_le.1; simp only [Value.ownBlock]; intro e; have e' := Option.some.inj e; omega)
      have c7b := kept_cell B7 c5 (Nat.lt_succ_self _)
      have l7 := Nat.lt_of_lt_of_le l5 B7.size
      have zr7 := Nat.le_trans zr5 B7.size
      have BB := B5.trans (B7.mono (Nat.le_succ _))
      rw [HNe.out] at ls7
      rw [HNe.out]
      clear oQ5 lsN c5 l5 B5 B7 hgrow7
      go_wp2_with fail
      go_roundw
      case rel => exact ⟨i + 1, gn, cn, g7, c7, by omega, by go_num, rfl, rfl, ls7, own7, zr7, c7b, l7, BB⟩
      case measure => simp [intOf]; omega
    · have hlI : ¬ (i : Int) < (K : Int) := by omega
      have hZw : w.heap.size ≤ Z := HZw.out
      have hik : i = K := by omega
      have HVi : Hid (vNw S R (t : Int) = nwL S C R i) := Lib.hid (by rw [HV.out, hik])
      clear hik
      go_wp2_with fail
      go_ret2
      exact ⟨_, ret_v2 HE.out.symm, by rw [HVi.out]; exact oQ.rebase hZw, B⟩

end Go.Proofs.YtpmfedllbiblbaaGreat
