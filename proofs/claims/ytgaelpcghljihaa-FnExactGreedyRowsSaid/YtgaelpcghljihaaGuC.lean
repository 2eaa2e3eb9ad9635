/-
  Merged texts: Mis10, NcsA, Grs10. Never import this beside one of them. By an AI agent.
-/
import Derived.Test.YtgaelpcghljihaaRow10
import Derived.Test.YtgaelpcghljihaaMisA
import Derived.Test.YtgaelpcghljihaaGuB
namespace Go.Proofs.Ytgaelpcghljihaa
open Go.RowKit Cv
set_option linter.unusedVariables false
set_option linter.unusedSimpArgs false
set_option maxRecDepth 100000

theorem ret_i2 {a b c d : Int} (h1 : a = b) (h2 : c = d) : Ending.returned (.tuple #[.int .i64 a, .int .i64 c]) = .returned (.tuple #[.int .i64 b, .int .i64 d]) := by rw [h1, h2]
/-- the choices of t places that rows lack -/
def mL (S R : List Int) (t : Nat) : List (List Int) := msTo S (allC S t) R R.length
def vCc (S : List Int) (t : Int) : Int := if eC10 S t = 0 then ((allC S t.toNat).length : Nat) else 0
def vCm (S R : List Int) (t : Int) : Int := if eR10 S R t = 0 then ((mL S R t.toNat).length : Nat) else 0
def vMi (S R : List Int) (t : Int) : List (List Int) := if eR10 S R t = 0 then mL S R t.toNat else []
/-- the greatest number of places up to t for which rows lack nothing -/
def stTo (S R : List Int) : Nat → Nat
  | 0 => 0
  | t + 1 => if mL S R (t + 1) = [] then t + 1 else stTo S R t
def vSt (S R : List Int) : Int := if eR10 S R 1 = 0 then (stTo S R (min 3 S.length) : Nat) else 0
theorem rd_nil10 (w : World) (lo hi : Nat) : RdRws w lo hi (.slice none 0 0) [] := ⟨[], rfl, World.ownsRow_nil _ _ _ _, fun k hk => by simp [Value.ownBlock] at hk, fun i hi => by simp at hi⟩
theorem mL_len {S : List Int} (hS : Sp S) (R : List Int) {t : Nat} (h1 : 0 < t) (h3 : t ≤ 3) : (mL S R t).length ≤ 832 := Nat.le_trans (msTo_sub _ _ _ _).1 (allC_le hS h1 h3)

end Go.Proofs.Ytgaelpcghljihaa

namespace Go.Proofs.Ytgaelpcghljihaa
open Go.RowKit Cv
set_option linter.unusedVariables false
set_option linter.unusedSimpArgs false
set_option maxRecDepth 100000

/-- lists that calls made, whose blocks have a property, in a list that a call made -/
def LsB (Qp : Nat → Prop) (w : World) (lo : Nat) (v : Value) (R : List (List Int)) : Prop :=
  ∃ hs : List Value, hs.length = R.length ∧ w.ownsRow lo 22 1 v R.length hs ∧ ∀ i, i < R.length → ∃ g c, hs[i]? = some (.slice (some ⟨g, 0, none⟩) (rr R i).length c) ∧ OwnInts w lo (.slice (some ⟨g, 0, none⟩) (rr R i).length c) (rr R i) ∧ Qp g
theorem LsB.below {Qp : Nat → Prop} {w w' : World} {lo : Nat} {v : Value} {R : List (List Int)} (h : LsB Qp w lo v R) (hb : Below w.heap.size w w') : LsB Qp w' lo v R := by
  obtain ⟨hs, h1, h2, h3⟩ := h
  refine ⟨hs, h1, ls_row h2 hb, fun i hi => ?_⟩
  obtain ⟨g, c, hx, ho, hq⟩ := h3 i hi
  exact ⟨g, c, hx, ho.below hb, hq⟩
theorem LsB.alloc {Qp : Nat → Prop} {w : World} {lo : Nat} {v : Value} {R : List (List Int)} (h : LsB Qp w lo v R) (o : Obj) : LsB Qp (w.alloc o) lo v R := h.below ((Below.refl _ w).alloc (Nat.le_refl _) o)
theorem LsB.empty {Qp : Nat → Prop} (w : World) (lo : Nat) (h : lo ≤ w.heap.size) {n : Nat} (hn : n = w.heap.size) : LsB Qp (w.alloc (.cells #[] 22)) lo (.slice (some ⟨n, 0, none⟩) 0 0) [] := by
  subst hn
  exact ⟨[], rfl, World.ownsRow_made w #[] 0 h (by simp [maxLen]) (by simp), fun i hi => by simp at hi⟩
theorem LsB.shape {Qp : Nat → Prop} {w : World} {lo : Nat} {v : Value} {R : List (List Int)} (h : LsB Qp w lo v R) : ∃ a c, v = .slice a R.length c := by
  obtain ⟨hs, e1, e2, e3⟩ := h
  rcases e2.2 with ⟨hv, hn⟩ | ⟨g, cap, cur, hv, _⟩
  · exact ⟨none, 0, by rw [hn]; exact hv⟩
  · exact ⟨_, _, hv⟩
theorem LsB.lo_le {Qp : Nat → Prop} {w : World} {lo : Nat} {v : Value} {R : List (List Int)} (h : LsB Qp w lo v R) : ∀ k, v.ownBlock = some k → lo ≤ k ∧ k < w.heap.size := by
  obtain ⟨hs, e1, e2, _⟩ := h
  exact World.ownsRow.lt e2
/-- the list at an index -/
theorem LsB.at {Qp : Nat → Prop} {w : World} {lo n c : Nat} {a : Option Addr} {R : List (List Int)} (h : LsB Qp w lo (.slice a n c) R) {i : Nat} (hlt : i < R.length) :
    ∃ g gi' ci, a = some ⟨g, 0, none⟩ ∧ g < w.heap.size ∧ w.cell? ⟨g, i, none⟩ = some (.slice (some ⟨gi', 0, none⟩) (rr R i).length ci) ∧ OwnInts w lo (.slice (some ⟨gi', 0, none⟩) (rr R i).length ci) (rr R i) ∧ Qp gi' := by
  obtain ⟨hs, e1, e2, e4⟩ := h
  obtain ⟨gi', ci, hz, ho, hq⟩ := e4 i hlt
  rcases e2.2 with ⟨_, h0⟩ | ⟨g, cap, cur, hv, _⟩
  · omega
  · simp only [Value.slice.injEq] at hv
    obtain ⟨rfl, rfl, rfl⟩ := hv
    exact ⟨g, gi', ci, rfl, (World.ownsRow.lt e2 g rfl).2, by rw [e2.cellAt i (by omega)]; exact hz, ho, hq⟩
/-- lists stay where another list of lists is written -/
theorem LsB.kept2 {Qp : Nat → Prop} {w w' : World} {lo lo' : Nat} {v v' : Value} {R R' : List (List Int)} (h : LsB Qp w lo v R) (h' : LsB Qp w lo' v' R') (hg : w.grownBy w' v'.ownBlock) (hne : v.ownBlock = none ∨ v.ownBlock ≠ v'.ownBlock) : LsB Qp w' lo v R := by
  obtain ⟨hs, h1, h2, h3⟩ := h
  obtain ⟨hs', _, e2, _⟩ := h'
  refine ⟨hs, h1, World.ownsRow.kept h2 hg hne, fun i hi => ?_⟩
  obtain ⟨g, c, hx, ho, hq⟩ := h3 i hi
  exact ⟨g, c, hx, World.ownsRow.kept ho hg (ls_apart e2 ho), hq⟩
/-- an append of one more list -/
theorem wpList_append_lsb {Qp : Nat → Prop} {w : World} {ops : Array Oper} {rest : List Oper} {o : Oper} {a : Act} {Q : Exit → Act → World → Prop} (hgd : o.guard = none) (s x : Operand)
    (ho : o.op = .call { callee := .builtin .append, args := #[s, x], argTypes := #[74, 74] })
    (lo : Nat) (v : Value) (R : List (List Int)) (hs : a.eval s = v) (hown : LsB Qp w lo v R) (b g c n : Nat) (L : List Int) (hn : n = L.length) (hy : OwnInts w lo (.slice (some ⟨g, 0, none⟩) n c) L) (hq : Qp g) (hx : a.eval x = .slice (some ⟨b, 0, none⟩) 1 1) (hc : w.cell? ⟨b, 0, none⟩ = some (.slice (some ⟨g, 0, none⟩) n c))
    (hlen : R.length ≤ 1073741824) (hbase : lo ≤ w.heap.size)
    (h : ∀ g' c' w', LsB Qp w' lo (.slice (some ⟨g', 0, none⟩) (R.length + 1) c') (R ++ [L]) → w.grownBy w' v.ownBlock → (v.ownBlock = some g' ∨ g' = w.heap.size) → wpList Try.prog ops Q rest (a.put o.dst (.slice (some ⟨g', 0, none⟩) (R.length + 1) c')) w') : wpList Try.prog ops Q (o :: rest) a w := by
  subst hn
  obtain ⟨i0, hi0, hz0, hz1, hz2⟩ := info_parts infoSl
  obtain ⟨hl, e1, e2, e4⟩ := hown
  refine wpList_append_own_at w hgd s x 74 ho lo 22 i0 (.slice none 0 0) 1 24 Try.underlying74 hi0 hz0 hz1 hz2 rfl (by decide) v R.length hl hs e2 ⟨b, 0, none⟩ 1 1 [.slice (some ⟨g, 0, none⟩) L.length c] hx rfl ?_ ?_ (by unfold maxLen; omega) (by omega) hbase ?_
  · intro j u hj
    match j, hj with
    | 0, hj => simp at hj; subst hj; simpa [Addr.add] using hc
  · intro u hu; simp at hu; subst hu; rfl
  · intro v' w' h1 h2 _ h3
    have hrow : w'.ownsRow lo 22 1 v' (R ++ [L]).length (hl ++ [.slice (some ⟨g, 0, none⟩) L.length c]) := by rw [List.length_append]; exact h1
    have hls : LsB Qp w' lo v' (R ++ [L]) := by
      refine ⟨_, by simp [e1], hrow, fun i hi => ?_⟩
      rw [List.length_append] at hi
      have hi' : i < R.length + 1 := by simpa using hi
      by_cases hlt : i < R.length
      · obtain ⟨g2, c2, hz, ho2, hq2⟩ := e4 i hlt
        have er : rr (R ++ [L]) i = rr R i := by rw [rr_app R L i hi', if_neg (by omega)]
        rw [er]
        exact ⟨g2, c2, by rw [List.getElem?_append_left (by omega)]; exact hz, World.ownsRow.kept ho2 h2 (ls_apart e2 ho2), hq2⟩
      · have ei : i = R.length := by omega
        subst ei
        have er : rr (R ++ [L]) R.length = L := by rw [rr_app R L _ hi', if_pos rfl]
        rw [er]
        exact ⟨g, c, by rw [List.getElem?_append_right (by omega), e1]; simp, World.ownsRow.kept hy h2 (ls_apart e2 hy), hq⟩
    rcases hrow.2 with ⟨_, hn⟩ | ⟨g', c', cur, hv, _⟩
    · simp at hn
    · have hl1 : (R ++ [L]).length = R.length + 1 := by simp
      rw [hl1] at hv
      subst hv
      exact h g' c' w' hls h2 (by
        rcases h3 with e | e
        · exact .inl e.symm
        · exact .inr (Option.some.inj e))
theorem lsb_of {w : World} {lo : Nat} {v : Value} {R : List (List Int)} (h : LsAt w lo v R) {Z : Nat} (hZ : Z = w.heap.size) : LsB (fun g => g < Z) w lo v R := by
  subst hZ
  obtain ⟨hs, h1, h2, h3⟩ := h
  refine ⟨hs, h1, h2, fun i hi => ?_⟩
  obtain ⟨g, c, hx, ho⟩ := h3 i hi
  exact ⟨g, c, hx, ho, ho.base_le.2⟩
theorem LsB.keptI {Qp : Nat → Prop} {w w' : World} {lo lo' : Nat} {v z : Value} {R : List (List Int)} {T : List Int} (h : LsB Qp w lo v R) (ho : OwnInts w lo' z T) (hg : w.grownBy w' z.ownBlock) (hq : ∀ g, Qp g → z.ownBlock ≠ some g) : LsB Qp w' lo v R := by
  obtain ⟨hs, h1, h2, h3⟩ := h
  refine ⟨hs, h1, World.ownsRow.kept h2 hg ?_, fun i hi => ?_⟩
  · rcases ls_apart h2 ho with e | e
    · cases hv : v.ownBlock with
      | none => exact .inl rfl
      | some k => refine .inr ?_; rw [e]; exact fun f => by cases f
    · exact .inr (Ne.symm e)
  obtain ⟨g, c, hx, ho2, hq2⟩ := h3 i hi
  exact ⟨g, c, hx, World.ownsRow.kept ho2 hg (.inr (fun e => hq g hq2 e.symm)), hq2⟩

set_option maxHeartbeats 4000000 in
theorem l10MissingB_any {Qp : Nat → Prop} (ao : Option Addr) (S : List Int) (cap : Nat) (hSp : Sp S) (lo gA cA t : Nat) (C : List (List Int)) (ht3 : t ≤ 3) (hCl : C.length ≤ 1048576) (hC : IsCs S.length t C) (ar : Option Addr) (R : List Int) (capr : Nat) (hRl : R.length ≤ 1048576) (hR : ∀ i, i < R.length → 0 ≤ gi R i ∧ gi R i < nW S) (w : World) (hlo : lo ≤ w.heap.size) (hS : Ints w ao S) (hA : LsB Qp w lo (.slice (some ⟨gA, 0, none⟩) C.length cA) C) (hRI : Ints w ar R) :
    Calls Try.prog 74 #[.agg #[.slice ao S.length cap], .slice (some ⟨gA, 0, none⟩) C.length cA, .slice ar R.length capr] w fun e w' => ∃ g c, e = .returned (.slice (some ⟨g, 0, none⟩) (msTo S C R R.length).length c) ∧ LsB Qp w' lo (.slice (some ⟨g, 0, none⟩) (msTo S C R R.length).length c) (msTo S C R R.length) ∧ Below w.heap.size w w' := by
  have HSp := Lib.hid hSp
  have HR := Lib.hid hR
  have HC := Lib.hid hC
  have HM := Lib.hid fun i => msTo_sub S C R i
  have HKA := Lib.hid fun i => msK_all S C R i
  have hn8 := hSp.hi
  obtain ⟨N1, N2⟩ := nW_bd hSp
  obtain ⟨N, hN⟩ : ∃ N, N = nW S := ⟨_, rfl⟩
  rw [← hN] at HR N1 N2
  clear hN hR hC hSp
  have B0 : Below w.heap.size w (w.alloc (.cells #[.slice ao S.length cap] 24)) := by go_grown
  have c0 := cell_new w (.slice ao S.length cap) 24
  have l0 := lt_alloc w (.cells #[.slice ao S.length cap] 24)
  have ls0 := hA.alloc (.cells #[.slice ao S.length cap] 24)
  go_enter Try.func74, Try.ntmps74
  go_wp2_with fail
  go_loopw [7, 8] (fun o x wr => ∃ i gl cl : Nat, i ≤ R.length ∧ x = .int .i64 (i : Int) ∧ o = .slice (some ⟨gl, 0, none⟩) (msTo S C R i).length cl ∧ LsB Qp wr lo (.slice (some ⟨gl, 0, none⟩) (msTo S C R i).length cl) (msTo S C R i) ∧ wr.cell? ⟨w.heap.size, 0, none⟩ = some (.slice ao S.length cap) ∧ w.heap.size < wr.heap.size ∧ Below w.heap.size w wr) (fun _ x _ => R.length - (intOf x).toNat)
  case atStart => exact ⟨0, gA, cA, Nat.zero_le _, rfl, rfl, ls0, c0, l0, B0⟩
  case round =>
    clear ls0 c0 l0 B0
    obtain ⟨i, gl, cl, hi, rfl, rfl, lsL, c1, l1, B⟩ := hrel
    obtain ⟨hMl, hMs⟩ := HM.out i
    have HKi := Lib.hid (HKA.out i)
    obtain ⟨L, hL⟩ : ∃ L, L = msTo S C R i := ⟨_, rfl⟩
    rw [← hL] at hMl hMs HKi lsL ⊢
    have HL := Lib.hid hL
    have HLC : Hid (∀ k, k < L.length → (rr L k).length = 2 * t ∧ ∀ j, j < t → 0 ≤ gi (rr L k) j ∧ gi (rr L k) j < S.length) := Lib.hid fun k hk => HC.out _ (hMs _ (rr_mem hk))
    clear hL hMs
    by_cases hlt : i < R.length
    · have hlI : (i : Int) < (R.length : Int) := by omega
      obtain ⟨x1, x2⟩ := HR.out i hlt
      obtain ⟨b, o, rfl, hbr, hcr⟩ := hRI.at hlt
      replace hcr := kept_cell B (hcr i hlt) hbr
      have hlr := lt_of_below B hbr
      obtain ⟨x, hx⟩ : ∃ x, x = gi R i := ⟨_, rfl⟩
      rw [← hx] at x1 x2 hcr HKi
      clear hx
      have hx0 := x1
      have hx9 : x ≤ 9223372036854775807 := by omega
      have hlo2 : lo ≤ wr.heap.size := Nat.le_trans hlo B.size
      have hiR : i < R.length := hlt
      go_upto_region 5 with fail
      go_cut [9, 10] from 19 to 26 (fun s9 s10 wx => ∃ gD gx : Nat, s9 = .slice (some ⟨gD, 0, none⟩) S.length S.length ∧ s10 = .slice (some ⟨gx, 0, none⟩) 0 0 ∧ OwnInts wx wr.heap.size (.slice (some ⟨gD, 0, none⟩) S.length S.length) (digs S x) ∧ LsB Qp wx lo (.slice (some ⟨gx, 0, none⟩) 0 0) [] ∧ wr.heap.size ≤ gx ∧ Below wr.heap.size wr wx)
      case first =>
        refine wp_region_held_drew (S := fun w' => w'.cell? ⟨w.heap.size, 0, none⟩ = some (.slice ao S.length cap) ∧ w'.cell? ⟨b, o + i, none⟩ = some (.int .i64 x)) (by kernel_rfl) (⟨c1, hcr⟩) (fun hHeld => ?_)
        refine wpAnyH_take (i := 0) (v := ?_) rfl (by kernel_rfl) (by kernel_rfl) (by kernel_rfl) (fun _ _ _ h => h) (Or.inl ⟨by rfl, ?_⟩) (by assumption) ?_
        rotate_left
        · (intro w hSw; obtain ⟨hSw0, hSw1⟩ := hSw; (try dsimp only at hSw0 hSw1); go_simp; try (with_reducible rfl))
        (try simp only [Act.put, List.setIfInBounds_toArray, List.set_cons_zero, List.set_cons_succ, List.getElem_toArray, List.getElem_cons_succ, List.getElem_cons_zero])
        refine wpAnyH_take (i := 1) (v := ?_) rfl (by kernel_rfl) (by kernel_rfl) (by kernel_rfl) (fun _ _ _ h => h) (Or.inl ⟨by rfl, ?_⟩) (by assumption) ?_
        rotate_left
        · (intro w hSw; obtain ⟨hSw0, hSw1⟩ := hSw; (try dsimp only at hSw0 hSw1); go_simp; try (with_reducible rfl))
        (try simp only [Act.put, List.setIfInBounds_toArray, List.set_cons_zero, List.set_cons_succ, List.getElem_toArray, List.getElem_cons_succ, List.getElem_cons_zero])
        refine wpAnyH_take (i := 2) (v := ?_) rfl (by kernel_rfl) (by kernel_rfl) (by kernel_rfl) (fun _ _ _ h => h) (Or.inl ⟨by rfl, ?_⟩) (by assumption) ?_
        rotate_left
        · (intro w hSw; obtain ⟨hSw0, hSw1⟩ := hSw; (try dsimp only at hSw0 hSw1); go_simp; try (with_reducible rfl))
        (try simp only [Act.put, List.setIfInBounds_toArray, List.set_cons_zero, List.set_cons_succ, List.getElem_toArray, List.getElem_cons_succ, List.getElem_cons_zero])
        refine wpAnyH_take (i := 3) (v := ?_) rfl (by kernel_rfl) (by kernel_rfl) (by kernel_rfl) (fun _ _ _ h => h) (Or.inl ⟨by rfl, ?_⟩) (by assumption) ?_
        rotate_left
        · (intro w hSw; obtain ⟨hSw0, hSw1⟩ := hSw; (try dsimp only at hSw0 hSw1); go_simp; try (with_reducible rfl))
        (try simp only [Act.put, List.setIfInBounds_toArray, List.set_cons_zero, List.set_cons_succ, List.getElem_toArray, List.getElem_cons_succ, List.getElem_cons_zero])
        refine wpAnyH_take (i := 4) (v := ?_) rfl (by kernel_rfl) (by kernel_rfl) (by kernel_rfl) (fun _ _ _ h => h) (Or.inl ⟨by rfl, ?_⟩) (by assumption) ?_
        rotate_left
        · (intro w hSw; obtain ⟨hSw0, hSw1⟩ := hSw; (try dsimp only at hSw0 hSw1); go_simp; try (with_reducible rfl))
        (try simp only [Act.put, List.setIfInBounds_toArray, List.set_cons_zero, List.set_cons_succ, List.getElem_toArray, List.getElem_cons_succ, List.getElem_cons_zero])
        refine wpAnyH_ready (rs := [5, 6]) (by kernel_rfl) (by simp) ?_
        refine AllReadyH.cons rfl (fun K hK => ?_) ?_
        · go_simp
          (go_at_call 64; refine (l01Digits_any ao S cap HSp.out.hi HSp.out.bd x hx0 hx9 _ ((hS.below B).below (Below.refl wr.heap.size wr).drew)).mono ?_)
          rintro e x1 ⟨gD1, rfl, own1, hb1⟩
          have H1 : Below wr.heap.size wr x1 := Below.trans (Below.refl wr.heap.size wr).drew (hb1.mono (Below.size (Below.refl wr.heap.size wr).drew))
          replace own1 := own1.rebase (base' := wr.heap.size) (Below.size (Below.refl wr.heap.size wr).drew)
          refine hK.out _ _ (⟨kept_cell H1 c1 l1, kept_cell H1 hcr hlr⟩) (fun hHeld => ?_)
          clear hK K
          (try simp only [Act.put, List.setIfInBounds_toArray, List.set_cons_zero, List.set_cons_succ, List.getElem_toArray, List.getElem_cons_succ, List.getElem_cons_zero])
          refine wpAnyH_take (i := 7) (v := ?_) rfl (by kernel_rfl) (by kernel_rfl) (by kernel_rfl) (fun _ _ _ h => h) (Or.inl ⟨by rfl, ?_⟩) (by assumption) ?_
          rotate_left
          · (intro w hSw; obtain ⟨hSw0, hSw1⟩ := hSw; (try dsimp only at hSw0 hSw1); go_simp; try (with_reducible rfl))
          (try simp only [Act.put, List.setIfInBounds_toArray, List.set_cons_zero, List.set_cons_succ, List.getElem_toArray, List.getElem_cons_succ, List.getElem_cons_zero])
          refine wpAnyH_ready (rs := [6]) (by kernel_rfl) (by simp) ?_
          refine AllReadyH.cons rfl (fun K hK => ?_) AllReadyH.nil
          go_simp
          have H2 : Below wr.heap.size wr (x1.alloc (.cells #[] 22)) := Below.alloc H1 (Below.size H1) _
          replace own1 := own1.below ((Below.refl _ x1).alloc (Nat.le_refl _) (.cells #[] 22))
          have lsx2 := LsB.empty (Qp := Qp) x1 lo (Nat.le_trans hlo2 (Below.size H1)) (n := x1.heap.size) rfl
          have hgx2 : wr.heap.size ≤ x1.heap.size := Below.size H1
          refine hK.out _ _ (⟨kept_cell H2 c1 l1, kept_cell H2 hcr hlr⟩) (fun hHeld => ?_)
          clear hK K
          (try simp only [Act.put, List.setIfInBounds_toArray, List.set_cons_zero, List.set_cons_succ, List.getElem_toArray, List.getElem_cons_succ, List.getElem_cons_zero])
          refine wpAnyH_take (i := 8) (v := ?_) rfl (by kernel_rfl) (by kernel_rfl) (by kernel_rfl) (fun _ _ _ h => h) (Or.inl ⟨by rfl, ?_⟩) (by assumption) ?_
          rotate_left
          · (intro w hSw; obtain ⟨hSw0, hSw1⟩ := hSw; (try dsimp only at hSw0 hSw1); go_simp; try (with_reducible rfl))
          (try simp only [Act.put, List.setIfInBounds_toArray, List.set_cons_zero, List.set_cons_succ, List.getElem_toArray, List.getElem_cons_succ, List.getElem_cons_zero])
          refine wpAnyH_done (by kernel_rfl) ?_ _
          (try simp only [Act.put, List.setIfInBounds_toArray, List.set_cons_zero, List.set_cons_succ, List.getElem_toArray, List.getElem_cons_succ, List.getElem_cons_zero])
          go_wp2_with fail
          go_meet
          exact ⟨_, _, rfl, rfl, own1, lsx2, hgx2, H2⟩
        refine AllReadyH.cons rfl (fun K hK => ?_) AllReadyH.nil
        go_simp
        have H1 : Below wr.heap.size wr (wr.drew.alloc (.cells #[] 22)) := Below.alloc (Below.refl wr.heap.size wr).drew (Below.size (Below.refl wr.heap.size wr).drew) _
        have lsx1 := LsB.empty (Qp := Qp) wr.drew lo (Nat.le_trans hlo2 (Below.size (Below.refl wr.heap.size wr).drew)) (n := wr.drew.heap.size) rfl
        have hgx1 : wr.heap.size ≤ wr.drew.heap.size := Below.size (Below.refl wr.heap.size wr).drew
        refine hK.out _ _ (⟨kept_cell H1 c1 l1, kept_cell H1 hcr hlr⟩) (fun hHeld => ?_)
        clear hK K
        (try simp only [Act.put, List.setIfInBounds_toArray, List.set_cons_zero, List.set_cons_succ, List.getElem_toArray, List.getElem_cons_succ, List.getElem_cons_zero])
        refine wpAnyH_ready (rs := [5]) (by kernel_rfl) (by simp) ?_
        refine AllReadyH.cons rfl (fun K hK => ?_) AllReadyH.nil
        go_simp
        (go_at_call 64; refine (l01Digits_any ao S cap HSp.out.hi HSp.out.bd x hx0 hx9 _ ((hS.below B).below H1)).mono ?_)
        rintro e x2 ⟨gD2, rfl, own2, hb2⟩
        have H2 : Below wr.heap.size wr x2 := Below.trans H1 (hb2.mono (Below.size H1))
        replace lsx1 := lsx1.below hb2
        replace own2 := own2.rebase (base' := wr.heap.size) (Below.size H1)
        refine hK.out _ _ (⟨kept_cell H2 c1 l1, kept_cell H2 hcr hlr⟩) (fun hHeld => ?_)
        clear hK K
        (try simp only [Act.put, List.setIfInBounds_toArray, List.set_cons_zero, List.set_cons_succ, List.getElem_toArray, List.getElem_cons_succ, List.getElem_cons_zero])
        refine wpAnyH_take (i := 7) (v := ?_) rfl (by kernel_rfl) (by kernel_rfl) (by kernel_rfl) (fun _ _ _ h => h) (Or.inl ⟨by rfl, ?_⟩) (by assumption) ?_
        rotate_left
        · (intro w hSw; obtain ⟨hSw0, hSw1⟩ := hSw; (try dsimp only at hSw0 hSw1); go_simp; try (with_reducible rfl))
        (try simp only [Act.put, List.setIfInBounds_toArray, List.set_cons_zero, List.set_cons_succ, List.getElem_toArray, List.getElem_cons_succ, List.getElem_cons_zero])
        refine wpAnyH_take (i := 8) (v := ?_) rfl (by kernel_rfl) (by kernel_rfl) (by kernel_rfl) (fun _ _ _ h => h) (Or.inl ⟨by rfl, ?_⟩) (by assumption) ?_
        rotate_left
        · (intro w hSw; obtain ⟨hSw0, hSw1⟩ := hSw; (try dsimp only at hSw0 hSw1); go_simp; try (with_reducible rfl))
        (try simp only [Act.put, List.setIfInBounds_toArray, List.set_cons_zero, List.set_cons_succ, List.getElem_toArray, List.getElem_cons_succ, List.getElem_cons_zero])
        refine wpAnyH_done (by kernel_rfl) ?_ _
        (try simp only [Act.put, List.setIfInBounds_toArray, List.set_cons_zero, List.set_cons_succ, List.getElem_toArray, List.getElem_cons_succ, List.getElem_cons_zero])
        go_wp2_with fail
        go_meet
        exact ⟨_, _, rfl, rfl, own2, lsx1, hgx1, H2⟩
      case rest =>
      obtain ⟨gD, gx, rfl, rfl, ownD, lsN, hgx, Hn⟩ := hcut
      obtain ⟨w0, rfl⟩ : ∃ w0, w0 = wr := ⟨_, rfl⟩
      have hgl := lsL.lo_le gl rfl
      have hgg : gl ≠ gx := by omega
      have hgx1 : w.heap.size + 1 ≤ gx := Nat.le_trans l1 hgx
      have lsL5 := lsL.below Hn
      have c5 := kept_cell Hn c1 l1
      have l5 := lt_of_below Hn l1
      have B5 := B.trans (Hn.mono B.size)
      have HDl := digs_length S x
      obtain ⟨D, hD⟩ : ∃ D, D = digs S x := ⟨_, rfl⟩
      rw [← hD] at ownD HKi HDl
      have HDL := Lib.hid HDl
      have HKs := Lib.hid fun k (h : k < L.length) => msK_succ D L k h
      have HKl := Lib.hid fun k => msK_len D L k
      have h0g : lo ≤ w0.heap.size := hlo2
      clear hD HDl lsL c1 l1 B hcr hlr hgl hgx Hn x1 x2
      go_wp2_with fail
      go_loopw [10, 11] (fun o x wk => ∃ k g5 c5 : Nat, k ≤ L.length ∧ x = .int .i64 (k : Int) ∧ o = .slice (some ⟨g5, 0, none⟩) (msK D L k).length c5 ∧ LsB Qp wk lo (.slice (some ⟨g5, 0, none⟩) (msK D L k).length c5) (msK D L k) ∧ LsB Qp wk lo (.slice (some ⟨gl, 0, none⟩) L.length cl) L ∧ OwnInts wk w0.heap.size (.slice (some ⟨gD, 0, none⟩) S.length S.length) D ∧ gl ≠ g5 ∧ w.heap.size + 1 ≤ g5 ∧ wk.cell? ⟨w.heap.size, 0, none⟩ = some (.slice ao S.length cap) ∧ w.heap.size < wk.heap.size ∧ Below w.heap.size w wk) (fun _ x _ => L.length - (intOf x).toNat)
      case atStart => exact ⟨0, gx, 0, Nat.zero_le _, rfl, rfl, lsN, lsL5, ownD, hgg, hgx1, c5, l5, B5⟩
      case round =>
        clear lsN lsL5 ownD hgg c5 l5 B5
        obtain ⟨k, g5, c5, hk, rfl, rfl, lsN, lsL, ownD, hgg, hg5, c1, l1, B⟩ := hrel
        have HNs := Lib.hid (HKs.out k)
        have hNl := HKl.out k
        have HNa : Hid (k = L.length → msK D L k = msTo S C R (i + 1)) := Lib.hid fun h => by rw [h, HKi.out]
        obtain ⟨T, hT⟩ : ∃ T, T = msK D L k := ⟨_, rfl⟩
        rw [← hT] at HNs hNl HNa lsN ⊢
        clear hT
        by_cases hlk : k < L.length
        · have hkI : (k : Int) < (L.length : Int) := by omega
          obtain ⟨gl', gr, cr, hgl', hlp, hcp, hop, hqq⟩ := lsL.at hlk
          obtain rfl : gl = gl' := by simpa using hgl'
          obtain ⟨hEl, hEb⟩ := HLC.out k hlk
          have HNn := Lib.hid (HNs.out hlk)
          obtain ⟨E, hE⟩ : ∃ E, E = rr L k := ⟨_, rfl⟩
          rw [← hE] at hEl hEb HNn hcp hop
          obtain ⟨m, hm⟩ : ∃ m, m = E.length := ⟨_, rfl⟩
          rw [← hm] at hEl hcp hop
          have HEm := Lib.hid hm
          have HmI := Lib.hid hEl
          have HEb := Lib.hid hEb
          have hm6 : m ≤ 6 := by omega
          clear hgl' hE hm HNs HNa hEb hEl
          cases hh : hasC D E with
          | true =>
            have HT2 : Hid (msK D L (k + 1) = T) := Lib.hid (by rw [HNn.out, if_pos hh, List.append_nil])
            have HH := Lib.hid hh
            clear hh
            go_wp2_with fail
            refine (l10Has_any gD S.length S.length D gr m cr t E HDL.out hn8 HEm.out.symm HmI.out ht3 HEb.out wr (own_ints ownD) (own_ints hop)).mono ?_
            rw [HH.out]
            rintro e w5 ⟨rfl, hb5⟩
            have lsN5 := lsN.below hb5
            have lsL5 := lsL.below hb5
            have ownD5 := ownD.below hb5
            have c5b := kept_cell hb5 c1 l1
            have l5 := lt_of_below hb5 l1
            have B5 := B.trans (hb5.mono B.size)
            clear lsN lsL ownD c1 l1 B hcp hop hlp hb5
            go_wp2_with fail
            go_roundw
            case rel => exact ⟨k + 1, g5, c5, by omega, by go_num, by rw [HT2.out], by rw [HT2.out]; exact lsN5, lsL5, ownD5, hgg, hg5, c5b, l5, B5⟩
            case measure => simp [intOf]; omega
          | false =>
            have HT2 : Hid (msK D L (k + 1) = T ++ [E]) := Lib.hid (by rw [HNn.out, if_neg (by rw [hh]; decide)])
            have HH := Lib.hid hh
            clear hh
            go_wp2_with fail
            refine (l10Has_any gD S.length S.length D gr m cr t E HDL.out hn8 HEm.out.symm HmI.out ht3 HEb.out wr (own_ints ownD) (own_ints hop)).mono ?_
            rw [HH.out]
            rintro e w5 ⟨rfl, hb5⟩
            have lsN5 := lsN.below hb5
            have lsL5 := lsL.below hb5
            have ownD5 := ownD.below hb5
            have c5b := kept_cell hb5 c1 l1
            have l5 := lt_of_below hb5 l1
            have B5 := B.trans (hb5.mono B.size)
            have hcp5 := kept_cell hb5 hcp hlp
            have hlp5 := lt_of_below hb5 hlp
            have hop5 := hop.below hb5
            have hlo5 : lo ≤ w5.heap.size := Nat.le_trans (Nat.le_trans hlo (Nat.le_of_lt l1)) hb5.size
            clear lsN lsL ownD c1 l1 B hcp hop hlp hb5
            go_wp2_with (first
              | (at_builtin; refine wpList_append_lsb rfl _ _ rfl lo _ T rfl (lsN5.alloc _) w5.heap.size gr cr m E HEm.out (hop5.alloc _) hqq rfl (cell_new _ _ _) (by omega) (by simp; omega) ?_; intro g9 c9 w9 ls9 hg9 hat9)
              | fail)
            have lsN6 := lsN5.alloc (.cells #[.slice (some ⟨gr, 0, none⟩) m cr] 22)
            have lsL9 := (lsL5.alloc (.cells #[.slice (some ⟨gr, 0, none⟩) m cr] 22)).kept2 lsN6 hg9 (.inr (by simp only [Value.ownBlock]; intro e; exact hgg (Option.some.inj e)))
            have ownD9 : OwnInts w9 w0.heap.size (.slice (some ⟨gD, 0, none⟩) S.length S.length) D := by
              obtain ⟨hs, _, e2, _⟩ := lsN6
              exact (ownD5.alloc (.cells #[.slice (some ⟨gr, 0, none⟩) m cr] 22)).kept hg9 (ls_apart e2 (ownD5.alloc _))
            have B8 : Below (w.heap.size + 1) w5 (w5.alloc (.cells #[.slice (some ⟨gr, 0, none⟩) m cr] 22)) := ((Below.refl _ w5).mono l5).alloc l5 _
            have B9 : Below (w.heap.size + 1) w5 w9 := B8.grown hg9 (Nat.le_trans l5 B8.size) (fun z hz => by cases hz; exact hg5)
            have c9b := kept_cell B9 c5b (Nat.lt_succ_self _)
            have l9 := Nat.lt_of_lt_of_le l5 B9.size
            have BB := B5.trans (B9.mono (Nat.le_succ _))
            have hne9 : gl ≠ g9 ∧ w.heap.size + 1 ≤ g9 := by
              rcases hat9 with e | e
              · have e' : g5 = g9 := Option.some.inj e
                omega
              · have h1 := (lsL5.lo_le gl rfl).2; rw [World.size_alloc] at e; omega
            have HTl : Hid (T.length + 1 = (msK D L (k + 1)).length) := Lib.hid (by rw [HT2.out]; simp)
            rw [← HT2.out, HTl.out] at ls9
            rw [HTl.out]
            clear lsN5 lsL5 ownD5 c5b l5 B5 lsN6 B8 B9 hg9 hat9 hcp5 hlp5 hop5 hgg
            go_wp2_with fail
            go_roundw
            case rel => exact ⟨k + 1, g9, c9, by omega, by go_num, rfl, ls9, lsL9, ownD9, hne9.1, hne9.2, c9b, l9, BB⟩
            case measure => simp [intOf]; omega
        · have hkI : ¬ (k : Int) < (L.length : Int) := by omega
          have HTe := Lib.hid (HNa.out (by omega))
          rw [HTe.out] at lsN ⊢
          go_wp2_with fail
          go_roundw
          case rel => exact ⟨i + 1, g5, c5, by omega, by go_num, rfl, lsN, c1, l1, B⟩
          case measure => simp [intOf]; omega
    · have hlI : ¬ (i : Int) < (R.length : Int) := by omega
      have HE : Hid (L = msTo S C R R.length) := Lib.hid (by rw [HL.out, show i = R.length by omega])
      rw [HE.out] at lsL
      go_wp2_with fail
      go_ret
      exact ⟨gl, cl, by rw [HE.out]; rfl, lsL, B⟩


end Go.Proofs.Ytgaelpcghljihaa

namespace Go.Proofs.Ytgaelpcghljihaa
open Go.RowKit Cv
set_option linter.unusedVariables false
set_option linter.unusedSimpArgs false
set_option maxRecDepth 100000

theorem one_rng {x N : Int} (h : 0 ≤ x ∧ x < N) : ∀ j, j < ([x] : List Int).length → 0 ≤ gi [x] j ∧ gi [x] j < N := fun j hj => by
  have : j = 0 := by simpa using hj
  subst this; exact h
theorem ret_v2 {v : Value} {c d : Int} (h2 : c = d) : Ending.returned (.tuple #[v, .int .i64 c]) = .returned (.tuple #[v, .int .i64 d]) := by rw [h2]
/-- how many choices each of the first k rows has that those before it lack -/
def nwL (S : List Int) (C : List (List Int)) (R : List Int) (k : Nat) : List Int := (List.range k).map fun j => ((msTo S C R j).length : Int) - ((msTo S C R (j + 1)).length : Int)
theorem nwL_succ (S : List Int) (C : List (List Int)) (R : List Int) (k : Nat) : nwL S C R (k + 1) = nwL S C R k ++ [((msTo S C R k).length : Int) - ((msTo S C R (k + 1)).length : Int)] := by
  unfold nwL; rw [List.range_succ, List.map_append]; rfl
theorem nwL_len (S : List Int) (C : List (List Int)) (R : List Int) (k : Nat) : (nwL S C R k).length = k := by simp [nwL]
def vNw (S R : List Int) (t : Int) : List Int := if eR10 S R t = 0 then nwL S (allC S t.toNat) R R.length else []
theorem vNw_len (S R : List Int) (t : Int) : (vNw S R t).length ≤ 1024 := by
  unfold vNw
  by_cases h : eR10 S R t = 0
  · rw [if_pos h, nwL_len]; have := (eR10_zero h).2.2.1; omega
  · rw [if_neg h]; simp

end Go.Proofs.Ytgaelpcghljihaa

namespace Go.Proofs.Ytgaelpcghljihaa
open Go.RowKit Cv
set_option linter.unusedVariables false
set_option linter.unusedSimpArgs false
set_option maxRecDepth 100000

theorem ret_gs {v : Value} {x y : Int} (h : x = y) : Ending.returned (.tuple #[v, .int .i64 x]) = Ending.returned (.tuple #[v, .int .i64 y]) := by rw [h]
def slenG : Value → Nat
  | .slice _ n _ => n
  | _ => 0
/-- the digits of the first words -/
def wdL (S : List Int) (k : Nat) : List (List Int) := (List.range k).map fun (x : Nat) => digs S (x : Int)
theorem wdL_len (S : List Int) (k : Nat) : (wdL S k).length = k := by simp [wdL]
theorem wdL_succ (S : List Int) (k : Nat) : wdL S k ++ [digs S (k : Int)] = wdL S (k + 1) := by unfold wdL; rw [List.range_succ, List.map_append]; rfl
theorem rr_wdL (S : List Int) (n k : Nat) (h : k < n) : rr (wdL S n) k = digs S (k : Int) := by
  unfold rr wdL
  simp [List.getD, h]
/-- how many of the first choices a row has -/
def hkT (D : List Int) (L : List (List Int)) (k : Nat) : Nat := ((L.take k).filter fun c => hasC D c).length
theorem hkT_succ (D : List Int) (L : List (List Int)) (k : Nat) (h : k < L.length) : hkT D L (k + 1) = hkT D L k + if hasC D (rr L k) = true then 1 else 0 := by
  unfold hkT
  rw [take_rr L k h, List.filter_append, List.length_append]
  by_cases e : hasC D (rr L k) = true <;> simp [e]
theorem hkT_le (D : List Int) (L : List (List Int)) (k : Nat) : hkT D L k ≤ L.length := Nat.le_trans (List.length_filter_le _ _) (by rw [List.length_take]; omega)
theorem hkT_all (S : List Int) (L : List (List Int)) (j : Nat) : hkT (digs S (j : Int)) L L.length = hkG S L j := by unfold hkT hkG; rw [List.take_length]
theorem mbV_bd {f : Nat → Nat} {M : Nat} (h : ∀ j, f j ≤ M) (k : Nat) : mbV f k ≤ M := by
  induction k with
  | zero => exact Nat.zero_le _
  | succ k ih => rw [mbV]; split <;> first | exact h _ | exact ih
theorem riG_sub {S : List Int} {C : List (List Int)} {N : Nat} {O : List Int} {L : List (List Int)} (h : RiG S C N O L) : L.length ≤ C.length ∧ ∀ c, c ∈ L → c ∈ C := by
  rw [h.l]
  exact ⟨List.length_filter_le _ _, fun c hc => (List.mem_filter.1 hc).1⟩

set_option maxHeartbeats 4000000 in
theorem spec_GreedyRows (ao : Option Addr) (S : List Int) (cap : Nat) (hn : S.length ≤ 4294967296) (t : Int) (ht : -9223372036854775808 ≤ t ∧ t ≤ 9223372036854775807) (w : World) (hS : Ints w ao S) :
    Calls Try.prog 31 #[.agg #[.slice ao S.length cap], .int .i64 t] w fun e w' => ∃ v, e = .returned (.tuple #[v, .int .i64 (eGu S t)]) ∧ OwnInts w' w.heap.size v (vGu S t) ∧ Below w.heap.size w w' := by
  have B0 : Below w.heap.size w (w.alloc (.cells #[.slice ao S.length cap] 24)) := by go_grown
  have c0 := cell_new w (.slice ao S.length cap) 24
  have l0 := lt_alloc w (.cells #[.slice ao S.length cap] 24)
  have hc := l10Code_any ao S cap hn t _ (hS.below B0)
  by_cases he : eC10 S t = 0
  case neg =>
    have HV : Hid (vGu S t = [] ∧ eGu S t = eC10 S t) := Lib.hid (by unfold vGu eGu; rw [if_neg he, if_neg he]; exact ⟨rfl, rfl⟩)
    obtain ⟨E, hE⟩ : ∃ E, E = eC10 S t := ⟨_, rfl⟩
    rw [← hE] at hc he HV
    have hb : (E != 0) = true := by simpa using he
    clear hE he
    go_enter Try.func31, Try.ntmps31
    go_wp2_with fail
    refine hc.mono ?_
    rintro e w1 ⟨rfl, hb1⟩
    have B1 := B0.trans (hb1.mono B0.size)
    go_wp2_with fail
    go_ret2
    exact ⟨_, ret_gs HV.out.2.symm, by rw [HV.out.1]; exact World.ownsRow_nil _ _ _ _, B1⟩
  obtain ⟨hSp, g1, g2, g3⟩ := eC10_zero he
  have HSp := Lib.hid hSp
  have HV0 : Hid (vGu S t = upV (psG S (allC S t.toNat) (nW S).toNat) (nW S).toNat 200 ∧ eGu S t = upE (psG S (allC S t.toNat) (nW S).toNat) (nW S).toNat 200) := Lib.hid (by unfold vGu eGu; rw [if_pos he, if_pos he]; exact ⟨rfl, rfl⟩)
  rw [he] at hc
  clear he
  obtain ⟨t, rfl⟩ : ∃ n : Nat, t = n := ⟨t.toNat, by omega⟩
  rw [Int.toNat_natCast] at HV0
  obtain ⟨N1, N2⟩ := nW_bd hSp
  obtain ⟨N, hN⟩ : ∃ N : Nat, nW S = (N : Int) := ⟨(nW S).toNat, by omega⟩
  rw [hN, Int.toNat_natCast] at HV0
  have hN1 : 1 ≤ N := by omega
  have hN2 : N ≤ 1024 := by omega
  have HN := Lib.hid hN
  have ht1 : 0 < t := by omega
  have ht3 : t ≤ 3 := by omega
  have hC832 := allC_le hSp ht1 ht3
  have HCc : Hid (IsCs S.length t (allC S t)) := Lib.hid (allC_cs t)
  have HAL := Lib.hid fun w hS => l10All_any ao S cap hSp t ht1 ht3 w hS
  have HR0 := Lib.hid (riG_0 S (allC S t) N)
  have HRD := Lib.hid fun O => riG_done hSp hN (t := t) (by omega) (O := O)
  have HRS := Lib.hid fun O L => riG_step hSp hN (t := t) (by omega) (O := O) (L := L)
  obtain ⟨C, hC⟩ : ∃ C, C = allC S t := ⟨_, rfl⟩
  rw [← hC] at HV0 hC832 HCc HAL HR0 HRD HRS
  have HRL := Lib.hid fun O L => riG_sub (S := S) (C := C) (N := N) (O := O) (L := L)
  obtain ⟨U, hU⟩ : ∃ U, U = upL (psG S C N) N := ⟨_, rfl⟩
  have HV : Hid (vGu S (t : Int) = (if U.length ≤ 200 then U else []) ∧ eGu S (t : Int) = if U.length ≤ 200 then 0 else 3) := Lib.hid (by rw [HV0.out.1, HV0.out.2, hU]; exact ⟨rfl, rfl⟩)
  rw [← hU] at HRD HRS
  have HCN := Lib.hid fun W h => l01N_sp ao S cap W hSp h
  rw [hN] at HCN
  clear hSp hC hU hN HV0 N1 N2
  go_enter Try.func31, Try.ntmps31
  go_wp2_with fail
  refine hc.mono ?_
  rintro e w1 ⟨rfl, hb1⟩
  have c1 := kept_cell hb1 c0 l0
  have l1 := lt_of_below hb1 l0
  have B1 := B0.trans (hb1.mono B0.size)
  have lsE := LsAt.empty w1 (w.heap.size + 1) l1 (n := w1.heap.size) rfl
  have c2 := kept_cell ((Below.refl _ w1).alloc (Nat.le_refl _) (.cells #[] 22)) c1 l1
  have l2 : w.heap.size < (w1.alloc (.cells #[] 22)).heap.size := by simp; try omega
  have B2 := B1.alloc B1.size (.cells #[] 22)
  clear hc c0 l0 B0 hb1 c1 l1 B1
  have hW0 : Hid (wdL S 0 = []) := Lib.hid rfl
  go_wp2_with fail
  go_loopw [7, 8] (fun o x wr => ∃ i g' c' : Nat, i ≤ N ∧ x = .int .i64 (i : Int) ∧ o = .slice (some ⟨g', 0, none⟩) i c' ∧ LsAt wr (w.heap.size + 1) (.slice (some ⟨g', 0, none⟩) i c') (wdL S i) ∧ wr.cell? ⟨w.heap.size, 0, none⟩ = some (.slice ao S.length cap) ∧ w.heap.size < wr.heap.size ∧ Below w.heap.size w wr) (fun _ x _ => N - (intOf x).toNat)
  case atStart => exact ⟨0, _, 0, Nat.zero_le _, rfl, rfl, by rw [hW0.out]; exact lsE, c2, l2, B2⟩
  case round =>
    clear lsE c2 l2 B2
    obtain ⟨i, gw, cw, hi, rfl, rfl, ls, c1, l1, B⟩ := hrel
    have hcN := HCN.out wr (hS.below B)
    have HWs := Lib.hid (wdL_succ S i)
    have HWl := Lib.hid (wdL_len S i)
    by_cases hlt : i < N
    · have hlI : (i : Int) < (N : Int) := by omega
      have hx0 : (0 : Int) ≤ (i : Int) := by omega
      have hx9 : (i : Int) ≤ 9223372036854775807 := by omega
      have HDl := digs_length S (i : Int)
      obtain ⟨D, hD⟩ : ∃ D, D = digs S (i : Int) := ⟨_, rfl⟩
      have hdg := Lib.hid fun W h => l01Digits_any ao S cap HSp.out.hi HSp.out.bd (i : Int) hx0 hx9 W h
      rw [← hD] at HDl HWs hdg
      have HDL := Lib.hid HDl
      clear hD HDl
      go_wp2_with fail
      refine hcN.mono ?_
      rintro e w3 ⟨rfl, hb3⟩
      have ls3 := ls.below hb3
      have c3 := kept_cell hb3 c1 l1
      have l3 := lt_of_below hb3 l1
      have B3 := B.trans (hb3.mono B.size)
      clear hcN ls c1 l1 B hb3
      go_wp2_with fail
      refine (hdg.out _ (hS.below B3)).mono ?_
      rintro e w5 ⟨gD, rfl, own5, hb5⟩
      have ls5 := ls3.below hb5
      have own6 := own5.rebase (base' := w.heap.size + 1) l3
      have c5 := kept_cell hb5 c3 l3
      have l5 := lt_of_below hb5 l3
      have B5 := B3.trans (hb5.mono B3.size)
      clear own5 ls3 c3 l3 B3 hb5
      go_wp2_with (first
        | (at_builtin; refine wpList_append_ls rfl _ _ rfl (w.heap.size + 1) _ (wdL S i) rfl (ls5.alloc _) w5.heap.size gD S.length S.length D HDL.out.symm (own6.alloc _) rfl (cell_new _ _ _) (by rw [HWl.out]; omega) (by simp; omega) ?_; intro g9 c9 w9 ls9 hg9 hat9; rw [HWs.out, HWl.out] at ls9; rw [HWl.out])
        | fail)
      have hgw := (ls5.lo_le gw rfl).1
      have B8 : Below (w.heap.size + 1) w5 (w5.alloc (.cells #[.slice (some ⟨gD, 0, none⟩) S.length S.length] 22)) := ((Below.refl _ w5).mono l5).alloc l5 _
      have B9 : Below (w.heap.size + 1) w5 w9 := B8.grown hg9 (Nat.le_trans l5 B8.size) (fun z hz => by cases hz; exact hgw)
      have c9b := kept_cell B9 c5 (Nat.lt_succ_self _)
      have l9 := Nat.lt_of_lt_of_le l5 B9.size
      have BB := B5.trans (B9.mono (Nat.le_succ _))
      clear ls5 own6 c5 l5 B5 B8 B9 hg9 hat9 hgw
      go_wp2_with fail
      go_roundw
      case rel => exact ⟨i + 1, g9, c9, by omega, by go_num, rfl, ls9, c9b, l9, BB⟩
      case measure => simp [intOf]; omega
    have hlI : ¬ (i : Int) < (N : Int) := by omega
    have hiN : i = N := by omega
    rw [hiN] at ls hlI HWl ⊢
    clear hi hlt hiN HWs
    go_wp2_with fail
    refine hcN.mono ?_
    rintro e w3 ⟨rfl, hb3⟩
    have ls3 := ls.below hb3
    have c3 := kept_cell hb3 c1 l1
    have l3 := lt_of_below hb3 l1
    have B3 := B.trans (hb3.mono B.size)
    clear hcN ls c1 l1 B hb3
    go_wp2_with fail
    refine (HAL.out _ (hS.below B3)).mono ?_
    rintro e w5 ⟨ga, ca, rfl, lsC, hb5⟩
    have lsW := ls3.below hb5
    replace lsC := lsC.rebase (lo' := w.heap.size + 1) l3
    have c5 := kept_cell hb5 c3 l3
    have l5 := lt_of_below hb5 l3
    have B5 := B3.trans (hb5.mono B3.size)
    obtain ⟨Z, hZ⟩ : ∃ Z, Z = w5.heap.size := ⟨_, rfl⟩
    have lsC0 := (lsb_of lsC hZ).alloc (.cells #[] 2)
    have lsW0 := (lsb_of lsW hZ).alloc (.cells #[] 2)
    have o0 := own_empty w5 Z (Nat.le_of_eq hZ) rfl
    have c6 := kept_cell ((Below.refl _ w5).alloc (Nat.le_refl _) (.cells #[] 2)) c5 l5
    have l6 : w.heap.size < (w5.alloc (.cells #[] 2)).heap.size := by simp; omega
    have B6 := B5.alloc B5.size (.cells #[] 2)
    have z6 : Z ≤ (w5.alloc (.cells #[] 2)).heap.size := by simp; omega
    have hZ1 : w.heap.size + 1 ≤ Z := by omega
    clear ls3 c3 l3 B3 hb5 lsC lsW c5 l5 B5 hZ
    go_wp2_with fail
    go_loopw [9, 10] (fun l o wr => ∃ (L : List (List Int)) (O : List Int) (n gl cl go co : Nat), Hid (RiG S C N O L) ∧ Hid (O.length = n) ∧ n ≤ 200 ∧ l = .slice (some ⟨gl, 0, none⟩) L.length cl ∧ o = .slice (some ⟨go, 0, none⟩) n co ∧ LsB (fun g => g < Z) wr (w.heap.size + 1) (.slice (some ⟨gl, 0, none⟩) L.length cl) L ∧ LsB (fun g => g < Z) wr (w.heap.size + 1) (.slice (some ⟨gw, 0, none⟩) N cw) (wdL S N) ∧ OwnInts wr Z (.slice (some ⟨go, 0, none⟩) n co) O ∧ Z ≤ wr.heap.size ∧ wr.cell? ⟨w.heap.size, 0, none⟩ = some (.slice ao S.length cap) ∧ w.heap.size < wr.heap.size ∧ Below w.heap.size w wr) (fun _ o _ => 200 - slenG o)
    case atStart => exact ⟨C, [], 0, ga, ca, _, 0, HR0, Lib.hid rfl, Nat.zero_le _, rfl, rfl, lsC0, lsW0, o0, z6, c6, l6, B6⟩
    case round =>
      clear lsC0 lsW0 o0 z6 c6 l6 B6
      obtain ⟨L, O, n, gl, cl, go, co, HRi, HnO, hn2, rfl, rfl, lsL, lsW, oO, zr, c1, l1, B⟩ := hrel
      obtain ⟨hLC, hLs⟩ := HRL.out O L HRi.out
      have HLc : Hid (IsCs S.length t L) := Lib.hid fun c hc => HCc.out c (hLs c hc)
      obtain ⟨m, hm⟩ : ∃ m, m = L.length := ⟨_, rfl⟩
      rw [← hm] at lsL hLC ⊢
      have hm8 : m ≤ 832 := by omega
      have HmL := Lib.hid hm
      clear hLs hLC hm
      by_cases hm0 : m = 0
      · have hlm : ¬ (0 : Int) < (m : Int) := by omega
        have hlm2 : ¬ 0 < m := by omega
        have HVe : Hid (vGu S (t : Int) = O ∧ eGu S (t : Int) = 0) := Lib.hid (by
          have hL : L = [] := List.eq_nil_of_length_eq_zero (by rw [← HmL.out]; exact hm0)
          have h := HRi.out
          rw [hL] at h
          have e := HRD.out O h
          rw [HV.out.1, HV.out.2, ← e, HnO.out, if_pos hn2, if_pos hn2]
          exact ⟨rfl, rfl⟩)
        have hwZ : w.heap.size ≤ Z := by omega
        clear hm0
        go_wp2_with fail
        go_ret2
        exact ⟨_, ret_gs HVe.out.2.symm, by rw [HVe.out.1]; exact oO.rebase hwZ, B⟩
      have hlm : (0 : Int) < (m : Int) := by omega
      have hlm2 : 0 < m := by omega
      have hLne : Hid (L ≠ []) := Lib.hid fun e => hm0 (by rw [HmL.out, e]; rfl)
      have HSt := Lib.hid (HRS.out O L HRi.out hLne.out)
      clear hm0
      by_cases h200 : n = 200
      · have hpI : ((n : Int) == 200) = true := by simp [h200]
        have HVe : Hid (vGu S (t : Int) = [] ∧ eGu S (t : Int) = 3) := Lib.hid (by
          have h := HSt.out.2.1
          rw [HnO.out] at h
          rw [HV.out.1, HV.out.2, if_neg (by omega), if_neg (by omega)]
          exact ⟨rfl, rfl⟩)
        clear h200
        go_wp2_with fail
        go_ret2
        exact ⟨_, ret_gs HVe.out.2.symm, by rw [HVe.out.1]; exact World.ownsRow_nil _ _ _ _, B⟩
      have hpI : ((n : Int) == 200) = false := by simp; omega
      have hn1 : n < 200 := by omega
      clear h200
      obtain ⟨w0, rfl⟩ : ∃ w0, w0 = wr := ⟨_, rfl⟩
      go_wp2_with fail
      go_loopw [11, 12, 13] (fun b q x wr => ∃ k : Nat, k ≤ N ∧ x = .int .i64 (k : Int) ∧ b = .int .i64 ((mbI (hkG S L) k : Nat) : Int) ∧ q = .int .i64 ((mbV (hkG S L) k : Nat) : Int) ∧ Below w0.heap.size w0 wr) (fun _ _ x _ => N - (intOf x).toNat)
      case atStart => exact ⟨0, Nat.zero_le _, rfl, rfl, rfl, Below.refl _ _⟩
      case round =>
        obtain ⟨k, hk, rfl, rfl, rfl, BW⟩ := hrel
        have lsW1 := lsW.below BW
        have lsL1 := lsL.below BW
        obtain ⟨w4, rfl⟩ : ∃ w4, w4 = wr := ⟨_, rfl⟩
        have HMB := Lib.hid (mb_step (hkG S L) k)
        have HMk : Hid (k = N → mbI (hkG S L) k = mbI (hkG S L) N) := Lib.hid fun e => by rw [e]
        have hV8 : mbV (hkG S L) k ≤ m := mbV_bd (fun j => by rw [HmL.out]; exact List.length_filter_le _ _) k
        obtain ⟨V, hV⟩ : ∃ V, V = mbV (hkG S L) k := ⟨_, rfl⟩
        obtain ⟨I, hI⟩ : ∃ I, I = mbI (hkG S L) k := ⟨_, rfl⟩
        rw [← hV, ← hI] at HMB ⊢
        rw [← hV] at hV8
        rw [← hI] at HMk
        clear hV hI
        by_cases hlk : k < N
        · have hkI : (k : Int) < (N : Int) := by omega
          obtain ⟨gw', gd, cd, hgw', hlW, hcW, hoW, _⟩ := lsW1.at (show k < (wdL S N).length by rw [wdL_len]; exact hlk)
          obtain rfl : gw = gw' := by simpa using hgw'
          rw [rr_wdL S N k hlk, digs_length] at hcW hoW
          have HDl : Hid ((digs S (k : Int)).length = S.length) := Lib.hid (digs_length S (k : Int))
          have HTF := Lib.hid (hkT_all S L k)
          obtain ⟨D, hD⟩ : ∃ D, D = digs S (k : Int) := ⟨_, rfl⟩
          rw [← hD] at hoW HDl HTF
          obtain ⟨F, hF⟩ : ∃ F, F = hkG S L k := ⟨_, rfl⟩
          rw [← hF] at HTF HMB
          clear hgw' hD HMk hF
          go_wp2_with fail
          go_loopw [14, 15] (fun q x wr => ∃ j : Nat, j ≤ m ∧ x = .int .i64 (j : Int) ∧ q = .int .i64 ((hkT D L j : Nat) : Int) ∧ Below w4.heap.size w4 wr) (fun _ x _ => m - (intOf x).toNat)
          case atStart => exact ⟨0, Nat.zero_le _, rfl, by simp [hkT], Below.refl _ _⟩
          case round =>
            obtain ⟨j, hj, rfl, rfl, BJ⟩ := hrel
            have hTl : hkT D L j ≤ m := by rw [HmL.out]; exact hkT_le D L j
            have HTs := Lib.hid (hkT_succ D L j)
            have HTe : Hid (j = m → hkT D L j = F) := Lib.hid fun e => by rw [e, HmL.out]; exact HTF.out
            obtain ⟨T, hT⟩ : ∃ T, T = hkT D L j := ⟨_, rfl⟩
            rw [← hT] at hTl HTs HTe ⊢
            clear hT
            by_cases hlj : j < m
            · have hjI : (j : Int) < (m : Int) := by omega
              have hjL : j < L.length := by rw [← HmL.out]; exact hlj
              obtain ⟨gl', gr, cr, hgl', hlL, hcL, hoL, _⟩ := lsL1.at hjL
              obtain rfl : gl = gl' := by simpa using hgl'
              replace hcL := kept_cell BJ hcL hlL
              replace hlL := lt_of_below BJ hlL
              replace hoL := own_ints (hoL.below BJ)
              replace hcW := kept_cell BJ hcW hlW
              replace hlW := lt_of_below BJ hlW
              replace hoW := own_ints (hoW.below BJ)
              obtain ⟨hEl, hEb⟩ := HLc.out _ (rr_mem hjL)
              have HTn := Lib.hid (HTs.out hjL)
              obtain ⟨E, hE⟩ : ∃ E, E = rr L j := ⟨_, rfl⟩
              rw [← hE] at hEl hEb HTn hcL hoL
              obtain ⟨me, hme⟩ : ∃ me, me = E.length := ⟨_, rfl⟩
              rw [← hme] at hEl hcL
              have HHas := Lib.hid fun W h1 h2 => l10Has_any gd S.length cd D gr me cr t E HDl.out HSp.out.hi hme.symm hEl ht3 hEb W h1 h2
              obtain ⟨bo, hbo⟩ : ∃ bo, bo = hasC D E := ⟨_, rfl⟩
              rw [← hbo] at HHas HTn
              have hjN : j < m := hlj
              clear hgl' hE hme hbo hEb hEl HTs HTe hjL
              go_wp2_with fail
              refine wp_region_held_drew (S := fun w' => w'.cell? ⟨gw, k, none⟩ = some (.slice (some ⟨gd, 0, none⟩) S.length cd) ∧ w'.cell? ⟨gl, j, none⟩ = some (.slice (some ⟨gr, 0, none⟩) me cr)) (by kernel_rfl) (⟨hcW, hcL⟩) (fun hHeld => ?_)
              refine wpAnyH_take (i := 0) (v := ?_) rfl (by kernel_rfl) (by kernel_rfl) (by kernel_rfl) (fun _ _ _ h => h) (Or.inl ⟨by rfl, ?_⟩) (by assumption) ?_
              rotate_left
              · (intro w hSw; obtain ⟨hSw0, hSw1⟩ := hSw; (try dsimp only at hSw0 hSw1); go_simp; try (with_reducible rfl))
              (try simp only [Act.put, List.setIfInBounds_toArray, List.set_cons_zero, List.set_cons_succ, List.getElem_toArray, List.getElem_cons_succ, List.getElem_cons_zero])
              refine wpAnyH_take (i := 1) (v := ?_) rfl (by kernel_rfl) (by kernel_rfl) (by kernel_rfl) (fun _ _ _ h => h) (Or.inl ⟨by rfl, ?_⟩) (by assumption) ?_
              rotate_left
              · (intro w hSw; obtain ⟨hSw0, hSw1⟩ := hSw; (try dsimp only at hSw0 hSw1); go_simp; try (with_reducible rfl))
              (try simp only [Act.put, List.setIfInBounds_toArray, List.set_cons_zero, List.set_cons_succ, List.getElem_toArray, List.getElem_cons_succ, List.getElem_cons_zero])
              refine wpAnyH_take (i := 2) (v := ?_) rfl (by kernel_rfl) (by kernel_rfl) (by kernel_rfl) (fun _ _ _ h => h) (Or.inl ⟨by rfl, ?_⟩) (by assumption) ?_
              rotate_left
              · (intro w hSw; obtain ⟨hSw0, hSw1⟩ := hSw; (try dsimp only at hSw0 hSw1); go_simp; try (with_reducible rfl))
              (try simp only [Act.put, List.setIfInBounds_toArray, List.set_cons_zero, List.set_cons_succ, List.getElem_toArray, List.getElem_cons_succ, List.getElem_cons_zero])
              refine wpAnyH_take (i := 3) (v := ?_) rfl (by kernel_rfl) (by kernel_rfl) (by kernel_rfl) (fun _ _ _ h => h) (Or.inl ⟨by rfl, ?_⟩) (by assumption) ?_
              rotate_left
              · (intro w hSw; obtain ⟨hSw0, hSw1⟩ := hSw; (try dsimp only at hSw0 hSw1); go_simp; try (with_reducible rfl))
              (try simp only [Act.put, List.setIfInBounds_toArray, List.set_cons_zero, List.set_cons_succ, List.getElem_toArray, List.getElem_cons_succ, List.getElem_cons_zero])
              refine wpAnyH_take (i := 4) (v := ?_) rfl (by kernel_rfl) (by kernel_rfl) (by kernel_rfl) (fun _ _ _ h => h) (Or.inl ⟨by rfl, ?_⟩) (by assumption) ?_
              rotate_left
              · (intro w hSw; obtain ⟨hSw0, hSw1⟩ := hSw; (try dsimp only at hSw0 hSw1); go_simp; try (with_reducible rfl))
              (try simp only [Act.put, List.setIfInBounds_toArray, List.set_cons_zero, List.set_cons_succ, List.getElem_toArray, List.getElem_cons_succ, List.getElem_cons_zero])
              refine wpAnyH_take (i := 5) (v := ?_) rfl (by kernel_rfl) (by kernel_rfl) (by kernel_rfl) (fun _ _ _ h => h) (Or.inl ⟨by rfl, ?_⟩) (by assumption) ?_
              rotate_left
              · (intro w hSw; obtain ⟨hSw0, hSw1⟩ := hSw; (try dsimp only at hSw0 hSw1); go_simp; try (with_reducible rfl))
              (try simp only [Act.put, List.setIfInBounds_toArray, List.set_cons_zero, List.set_cons_succ, List.getElem_toArray, List.getElem_cons_succ, List.getElem_cons_zero])
              refine wpAnyH_take (i := 6) (v := ?_) rfl (by kernel_rfl) (by kernel_rfl) (by kernel_rfl) (fun _ _ _ h => h) (Or.inl ⟨by rfl, ?_⟩) (by assumption) ?_
              rotate_left
              · (intro w hSw; obtain ⟨hSw0, hSw1⟩ := hSw; (try dsimp only at hSw0 hSw1); go_simp; try (with_reducible rfl))
              (try simp only [Act.put, List.setIfInBounds_toArray, List.set_cons_zero, List.set_cons_succ, List.getElem_toArray, List.getElem_cons_succ, List.getElem_cons_zero])
              refine wpAnyH_take (i := 7) (v := ?_) rfl (by kernel_rfl) (by kernel_rfl) (by kernel_rfl) (fun _ _ _ h => h) (Or.inl ⟨by rfl, ?_⟩) (by assumption) ?_
              rotate_left
              · (intro w hSw; obtain ⟨hSw0, hSw1⟩ := hSw; (try dsimp only at hSw0 hSw1); go_simp; try (with_reducible rfl))
              (try simp only [Act.put, List.setIfInBounds_toArray, List.set_cons_zero, List.set_cons_succ, List.getElem_toArray, List.getElem_cons_succ, List.getElem_cons_zero])
              refine wpAnyH_ready (rs := [8]) (by kernel_rfl) (by simp) ?_
              refine AllReadyH.cons rfl (fun K hK => ?_) AllReadyH.nil
              go_simp
              (go_at_call 63; refine (HHas.out _ (hoW.below (Below.refl wr.heap.size wr).drew) (hoL.below (Below.refl wr.heap.size wr).drew)).mono ?_)
              rintro e x1 ⟨rfl, hb1⟩
              have H1 : Below wr.heap.size wr x1 := Below.trans (Below.refl wr.heap.size wr).drew (hb1.mono (Below.size (Below.refl wr.heap.size wr).drew))
              refine hK.out _ _ (⟨kept_cell H1 hcW hlW, kept_cell H1 hcL hlL⟩) (fun hHeld => ?_)
              clear hK K
              (try simp only [Act.put, List.setIfInBounds_toArray, List.set_cons_zero, List.set_cons_succ, List.getElem_toArray, List.getElem_cons_succ, List.getElem_cons_zero])
              refine wpAnyH_done (by kernel_rfl) ?_ _
              (try simp only [Act.put, List.setIfInBounds_toArray, List.set_cons_zero, List.set_cons_succ, List.getElem_toArray, List.getElem_cons_succ, List.getElem_cons_zero])
              have Hn : Below wr.heap.size wr x1 := H1
              obtain ⟨w5, hw5⟩ : ∃ z, z = x1 := ⟨_, rfl⟩
              rw [← hw5] at Hn ⊢
              clear hw5 hHeld
              have BJ5 := BJ.trans (Hn.mono BJ.size)
              clear BJ Hn hcL hlL hoL hcW hlW hoW HHas
              cases bo with
              | true =>
                have HT2 : Hid (hkT D L (j + 1) = T + 1) := Lib.hid (by rw [HTn.out]; rfl)
                clear HTn
                go_wp2_with fail
                go_roundw
                case rel => exact ⟨j + 1, by omega, by go_num, by rw [HT2.out]; go_num, BJ5⟩
                case measure => simp [intOf]; omega
              | false =>
                have HT2 : Hid (hkT D L (j + 1) = T) := Lib.hid (by rw [HTn.out]; rfl)
                clear HTn
                go_wp2_with fail
                go_roundw
                case rel => exact ⟨j + 1, by omega, by go_num, by rw [HT2.out], BJ5⟩
                case measure => simp [intOf]; omega
            have hjI : ¬ (j : Int) < (m : Int) := by omega
            have hTF := HTe.out (by omega)
            rw [← hTF] at HMB
            have BW5 := BW.trans (BJ.mono BW.size)
            clear HTe HTs BW BJ
            by_cases hVT : V < T
            · have hVI : (V : Int) < (T : Int) := by omega
              have HM2 : Hid (mbV (hkG S L) (k + 1) = T ∧ mbI (hkG S L) (k + 1) = k) := Lib.hid (by rw [HMB.out.1, HMB.out.2, if_pos hVT, if_pos hVT]; exact ⟨rfl, rfl⟩)
              clear hVT hTF
              go_wp2_with fail
              go_roundw
              case rel => exact ⟨k + 1, by omega, by go_num, by rw [HM2.out.2], by rw [HM2.out.1], BW5⟩
              case measure => simp [intOf]; omega
            · have hVI : ¬ (V : Int) < (T : Int) := by omega
              have HM2 : Hid (mbV (hkG S L) (k + 1) = V ∧ mbI (hkG S L) (k + 1) = I) := Lib.hid (by rw [HMB.out.1, HMB.out.2, if_neg hVT, if_neg hVT]; exact ⟨rfl, rfl⟩)
              clear hVT hTF
              go_wp2_with fail
              go_roundw
              case rel => exact ⟨k + 1, by omega, by go_num, by rw [HM2.out.2], by rw [HM2.out.1], BW5⟩
              case measure => simp [intOf]; omega
        have hkI : ¬ (k : Int) < (N : Int) := by omega
        have hIN := HMk.out (by omega)
        have HS2 := HSt.out
        rw [← hIN] at HS2
        obtain ⟨hI1, _, HRn⟩ := HS2
        obtain ⟨O', hO'⟩ : ∃ O', O' = O ++ [((I : Nat) : Int)] := ⟨_, rfl⟩
        have HOl : Hid (O'.length = n + 1) := Lib.hid (by rw [hO', List.length_append, HnO.out]; rfl)
        have HmO : Hid ((O ++ [((I : Nat) : Int)]) = O') := Lib.hid hO'.symm
        have HNx : Hid (msTo S L [((I : Nat) : Int)] 1 = L.filter fun c => !hasC (digs S ((I : Nat) : Int)) c) := Lib.hid rfl
        obtain ⟨Nx, hNx⟩ : ∃ Nx, Nx = L.filter fun c => !hasC (digs S ((I : Nat) : Int)) c := ⟨_, rfl⟩
        rw [← hNx] at HRn HNx
        rw [← hO'] at HRn
        have HRn2 := Lib.hid HRn
        have oO1 := oO.below BW
        have zr1 := Nat.le_trans zr BW.size
        have cc := kept_cell BW c1 l1
        have ll := lt_of_below BW l1
        have BB := B.trans (BW.mono B.size)
        have HCA : Hid (∀ (b : Nat) (W : World), w.heap.size + 1 ≤ W.heap.size → Ints W ao S → LsB (fun g => g < Z) W (w.heap.size + 1) (.slice (some ⟨gl, 0, none⟩) m cl) L → Ints W (some ⟨b, 0, none⟩) [((I : Nat) : Int)] → Calls Try.prog 74 #[.agg #[.slice ao S.length cap], .slice (some ⟨gl, 0, none⟩) m cl, .slice (some ⟨b, 0, none⟩) 1 1] W fun e w' => ∃ g c, e = .returned (.slice (some ⟨g, 0, none⟩) Nx.length c) ∧ LsB (fun g => g < Z) w' (w.heap.size + 1) (.slice (some ⟨g, 0, none⟩) Nx.length c) Nx ∧ Below W.heap.size W w') := Lib.hid fun b W h1 h2 h3 h4 => by
          rw [HmL.out] at h3 ⊢
          have h := l10MissingB_any ao S cap HSp.out (w.heap.size + 1) gl cl t L ht3 (by rw [← HmL.out]; omega) HLc.out (some ⟨b, 0, none⟩) [((I : Nat) : Int)] 1 (by simp) (one_rng ⟨by omega, by rw [HN.out]; omega⟩) W h1 h2 h3 h4
          rw [show ([((I : Nat) : Int)] : List Int).length = 1 from rfl, HNx.out] at h
          exact h
        clear hIN HRn hO' hNx HNx lsW lsL oO zr c1 l1 B BW HMk HMB
        go_wp2_with (first
          | (at_builtin; refine wpList_append_int rfl _ _ rfl Z _ O rfl (oO1.alloc _) w4.heap.size ((I : Nat) : Int) rfl (cell_new _ _ _) (by rw [HnO.out]; omega) (by simp; omega) ?_; intro v7 w7 own7 hgrow7; obtain ⟨g7, c7, hv7, _⟩ := own_some own7 (by simp); rw [HmO.out, HOl.out] at hv7; subst hv7; rw [HmO.out] at own7; have B7 : Below (w.heap.size + 1) w4 w7 := (((Below.refl _ w4).mono ll).alloc ll (.cells #[.int .i64 ((I : Nat) : Int)] 2)).grown hgrow7 (by simp; omega) (fun z hz => by have h1 := oO1.base_le.1; have e' : go = z := Option.some.inj hz; omega); have c7b := kept_cell B7 cc (Nat.lt_succ_self _))
          | fail)
        have lsL7 := (lsL1.alloc (.cells #[.int .i64 ((I : Nat) : Int)] 2)).keptI (oO1.alloc (.cells #[.int .i64 ((I : Nat) : Int)] 2)) hgrow7 (fun g hg => by have h1 := oO1.base_le.1; simp only [Value.ownBlock]; intro e; have e' := Option.some.inj e; omega)
        have lsW7 := (lsW1.alloc (.cells #[.int .i64 ((I : Nat) : Int)] 2)).keptI (oO1.alloc (.cells #[.int .i64 ((I : Nat) : Int)] 2)) hgrow7 (fun g hg => by have h1 := oO1.base_le.1; simp only [Value.ownBlock]; intro e; have e' := Option.some.inj e; omega)
        have l7 := Nat.lt_of_lt_of_le ll B7.size
        have z7 : Z ≤ w7.heap.size := by have h1 := B7.size; omega
        have BB7 := BB.trans (B7.mono (Nat.le_succ _))
        clear oO1 lsL1 lsW1 cc ll BB B7 hgrow7
        have oI := own_one w7 ((I : Nat) : Int) (w.heap.size + 1) l7 (n := w7.heap.size) rfl
        have B8 : Below w7.heap.size w7 (w7.alloc (.cells #[.int .i64 ((I : Nat) : Int)] 2)) := (Below.refl _ w7).alloc (Nat.le_refl _) _
        go_wp2_with fail
        refine (HCA.out _ _ (Nat.le_trans l7 B8.size) ((hS.below BB7).below B8) (lsL7.below B8) (own_ints oI)).mono ?_
        rintro e w9 ⟨gn, cn, rfl, lsN, hb9⟩
        have BX := B8.trans (hb9.mono B8.size)
        have lsW9 := lsW7.below BX
        have own9 := own7.below BX
        have c9 := kept_cell BX c7b l7
        have l9 := lt_of_below BX l7
        have z9 := Nat.le_trans z7 BX.size
        have B9 := BB7.trans (BX.mono BB7.size)
        clear HCA lsL7 lsW7 own7 c7b l7 z7 BB7 oI B8 hb9 BX
        go_wp2_with fail
        go_roundw
        case rel => exact ⟨Nx, O', n + 1, gn, cn, g7, c7, HRn2, HOl, by omega, rfl, rfl, lsN, lsW9, own9, z9, c9, l9, B9⟩
        case measure => simp [slenG]; omega

end Go.Proofs.Ytgaelpcghljihaa
