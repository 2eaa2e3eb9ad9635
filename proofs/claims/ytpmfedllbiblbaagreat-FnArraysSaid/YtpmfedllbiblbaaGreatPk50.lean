/-
  Texts put together: Mim10, Cmi10, F2. By an AI agent.
-/
import Derived.Test.YtpmfedllbiblbaaGreatPk48
import Derived.Test.YtpmfedllbiblbaaGreatPkRer10
import Derived.Test.YtpmfedllbiblbaaGreatPk49
import Derived.Test.YtpmfedllbiblbaaGreatPkF1
namespace Go.Proofs.YtpmfedllbiblbaaGreat
open Go.RowKit Cv
set_option linter.unusedVariables false
set_option linter.unusedSimpArgs false
set_option maxRecDepth 100000

theorem OwnRws.lo {w : World} {lo hi : Nat} {v : Value} {R : List (List Int)} (h : OwnRws w lo hi v R) : ∀ k, v.ownBlock = some k → lo ≤ k := by
  obtain ⟨hs, e1, e2, _⟩ := h
  exact fun k hk => (World.ownsRow.lt e2 k hk).1
/-- an append of one more row -/
theorem wpList_append_rw {w : World} {ops : Array Oper} {rest : List Oper} {o : Oper} {a : Act} {Q : Exit → Act → World → Prop} (hgd : o.guard = none) (s x : Operand)
    (ho : o.op = .call { callee := .builtin .append, args := #[s, x], argTypes := #[32, 32] })
    (lo hi : Nat) (v : Value) (R : List (List Int)) (hs : a.eval s = v) (hown : OwnRws w lo hi v R) (b : Nat) (y : Value) (L : List Int) (hy : OwnInts w lo y L) (hyb : ∀ k, y.ownBlock = some k → hi ≤ k) (hx : a.eval x = .slice (some ⟨b, 0, none⟩) 1 1) (hc : w.cell? ⟨b, 0, none⟩ = some y)
    (hlen : R.length ≤ 1073741824) (hbase : lo ≤ w.heap.size)
    (h : ∀ v' w', OwnRws w' lo w'.heap.size v' (R ++ [L]) → w.grownBy w' v.ownBlock → (v'.ownBlock = v.ownBlock ∨ v'.ownBlock = some w.heap.size) → wpList Tryz.prog ops Q rest (a.put o.dst v') w') : wpList Tryz.prog ops Q (o :: rest) a w := by
  obtain ⟨i0, hi0, hz0, hz1, hz2⟩ := info_parts infoSl
  obtain ⟨hl, e1, e2, e3, e4, e5⟩ := hown
  refine wpList_append_own_at w hgd s x 32 ho lo 24 i0 (.slice none 0 0) 1 24 Tryz.underlying32 hi0 hz0 hz1 hz2 rfl (by decide) v R.length hl hs e2 ⟨b, 0, none⟩ 1 1 [y] hx rfl ?_ ?_ (by unfold maxLen; omega) (by omega) hbase ?_
  · intro j u hj
    match j, hj with
    | 0, hj => simp at hj; subst hj; simpa [Addr.add] using hc
  · intro u hu; simp at hu; subst hu; rcases hy.2 with ⟨rfl, _⟩ | ⟨_, _, _, rfl, _⟩ <;> rfl
  · intro v' w' h1 h2 _ h3
    have hkeep : ∀ (z : Value) (T : List Int), OwnInts w lo z T → (z.ownBlock = none ∨ z.ownBlock ≠ v.ownBlock) → OwnInts w' lo z T ∧ (z.ownBlock = none ∨ z.ownBlock ≠ v'.ownBlock) := fun z T hz hn => by
      refine ⟨World.ownsRow.kept hz h2 hn, ?_⟩
      rcases h3 with e | e
      · rw [e]; exact hn
      · rw [e]
        cases hzb : z.ownBlock with
        | none => exact .inl rfl
        | some k =>
          refine .inr fun e5 => ?_
          have := (World.ownsRow.lt hz k hzb).2
          have := Option.some.inj e5
          omega
    have hyv : y.ownBlock = none ∨ y.ownBlock ≠ v.ownBlock := by
      cases hyo : y.ownBlock with
      | none => exact .inl rfl
      | some k =>
        refine .inr fun e => ?_
        have g1 := hyb k hyo
        have g2 := e3 k e.symm
        omega
    have hrow : w'.ownsRow lo 24 1 v' (R ++ [L]).length (hl ++ [y]) := by rw [List.length_append]; exact h1
    refine h v' w' ⟨hl ++ [y], by simp [e1], hrow, fun k hk => (World.ownsRow.lt hrow k hk).2, fun i hi => ?_, fun i j z z' hne hii hjj => ?_⟩ h2 h3
    · rw [List.length_append] at hi
      have hi' : i < R.length + 1 := by simpa using hi
      by_cases hlt : i < R.length
      · obtain ⟨z, hz, ho2, hn, hk⟩ := e4 i hlt
        obtain ⟨k1, k2⟩ := hkeep z _ ho2 hn
        exact ⟨z, by rw [List.getElem?_append_left (by omega)]; exact hz, by rw [rr_app R L i hi', if_neg (by omega)]; exact k1, k2, fun k e => (World.ownsRow.lt k1 k e).2⟩
      · have ei : i = R.length := by omega
        subst ei
        obtain ⟨k1, k2⟩ := hkeep y _ hy hyv
        exact ⟨y, by rw [List.getElem?_append_right (by omega), e1]; simp, by rw [rr_app R L _ hi', if_pos rfl]; exact k1, k2, fun k e => (World.ownsRow.lt k1 k e).2⟩
    · have hil : i < R.length + 1 := by have := (List.getElem?_eq_some_iff.1 hii).1; simp [e1] at this; exact this
      have hjl : j < R.length + 1 := by have := (List.getElem?_eq_some_iff.1 hjj).1; simp [e1] at this; exact this
      have old : ∀ i z, i < R.length → (hl ++ [y])[i]? = some z → hl[i]? = some z := fun i z h1 h2 => by rwa [List.getElem?_append_left (by omega)] at h2
      have new : ∀ z, (hl ++ [y])[R.length]? = some z → z = y := fun z h2 => by
        rw [List.getElem?_append_right (by omega), e1] at h2
        simpa using h2.symm
      have apart : ∀ i z, i < R.length → hl[i]? = some z → ∀ k, z.ownBlock = some k → k < hi := fun i z h1 h2 k hk => by
        obtain ⟨z2, hz2, _, _, hk2⟩ := e4 i h1
        rw [h2] at hz2
        obtain rfl := Option.some.inj hz2
        exact hk2 k hk
      by_cases a1 : i < R.length
      · by_cases a2 : j < R.length
        · exact e5 i j z z' hne (old i z a1 hii) (old j z' a2 hjj)
        · have ej : j = R.length := by omega
          subst ej
          obtain rfl := new z' hjj
          cases hzo : z.ownBlock with
          | none => exact .inl rfl
          | some k =>
            refine .inr fun e => ?_
            have g1 := apart i z a1 (old i z a1 hii) k hzo
            have g2 := hyb k e.symm
            omega
      · have ei : i = R.length := by omega
        subst ei
        obtain rfl := new z hii
        have a2 : j < R.length := by omega
        cases hzo : z.ownBlock with
        | none => exact .inl rfl
        | some k =>
          refine .inr fun e => ?_
          have g1 := apart j z' a2 (old j z' a2 hjj) k e.symm
          have g2 := hyb k hzo
          omega

theorem rws_nil10 (w : World) (lo hi : Nat) : OwnRws w lo hi (.slice none 0 0) [] := OwnRws.nil w lo hi
theorem ints_takeM {w : World} {g o : Nat} {T : List Int} (h : Ints w (some ⟨g, o, none⟩) T) (k : Nat) : Ints w (some ⟨g, o, none⟩) (T.take k) := by
  rcases h with h | ⟨b, o', he, hlt, hc⟩
  · exact .inl (by simp [h])
  · cases he
    refine .inr ⟨_, _, rfl, hlt, fun i hi => ?_⟩
    rw [List.length_take] at hi
    rw [gi_take T k i (by omega)]
    exact hc i (by omega)
theorem ints_dropM {w : World} {g o : Nat} {T : List Int} (h : Ints w (some ⟨g, o, none⟩) T) (k : Nat) : Ints w (some ⟨g, o + k, none⟩) (T.drop k) := by
  rcases h with h | ⟨b, o', he, hlt, hc⟩
  · exact .inl (by simp [h])
  · cases he
    refine .inr ⟨_, _, rfl, hlt, fun i hi => ?_⟩
    rw [List.length_drop] at hi
    have e2 : gi (T.drop k) i = gi T (k + i) := by simp [gi]
    rw [e2, Nat.add_assoc]
    exact hc _ (by omega)
theorem own_rws_some {w : World} {lo hi : Nat} {v : Value} {R : List (List Int)} {L : List Int} (h : OwnRws w lo hi v (R ++ [L])) : ∃ g c, v = .slice (some ⟨g, 0, none⟩) (R.length + 1) c := by
  obtain ⟨hs, e1, e2, _⟩ := h
  rcases e2.2 with ⟨_, hn⟩ | ⟨g, c, cur, hv, _⟩
  · simp at hn
  · exact ⟨g, c, by rw [hv]; simp⟩

set_option maxHeartbeats 4000000 in
theorem impl_MissingChoices (ao : Option Addr) (S : List Int) (cap : Nat) (hn : S.length ≤ 4294967296) (ar : Option Addr) (R : List Int) (capr : Nat) (hnr : R.length ≤ 4294967296) (t : Int) (ht : -9223372036854775808 ≤ t ∧ t ≤ 9223372036854775807) (w : World) (hS : Ints w ao S) (hRI : Ints w ar R) :
    Calls Tryz.prog 10 #[.agg #[.slice ao S.length cap], .slice ar R.length capr, .int .i64 t] w fun e w' => ∃ v, e = .returned (.tuple #[v, .int .i64 (eR10 S R t)]) ∧ OwnRws w' w.heap.size w'.heap.size v (vMi S R t) ∧ Below w.heap.size w w' := by
  have B0 : Below w.heap.size w (w.alloc (.cells #[.slice ao S.length cap] 26)) := by go_grown
  have c0 := cell_new w (.slice ao S.length cap) 26
  have l0 := lt_alloc w (.cells #[.slice ao S.length cap] 26)
  have hc := rowsError_any ao S cap hn ar R capr hnr t _ (hS.below B0) (hRI.below B0)
  by_cases he : eR10 S R t = 0
  case neg =>
    have HV : Hid (vMi S R t = []) := Lib.hid (by unfold vMi; rw [if_neg he])
    obtain ⟨E, hE⟩ : ∃ E, E = eR10 S R t := ⟨_, rfl⟩
    rw [← hE] at hc he ⊢
    have hb : (E != 0) = true := by simpa using he
    clear hE he
    go_enter Tryz.func10, Tryz.ntmps10
    go_wp2_with fail
    refine hc.mono ?_
    rintro e w1 ⟨rfl, hb1⟩
    have B1 := B0.trans (hb1.mono B0.size)
    go_wp2_with fail
    go_ret2
    exact ⟨_, rfl, by rw [HV.out]; exact rws_nil10 _ _ _, B1⟩
  obtain ⟨hSp, hRb, hR2, g1, g2, g3⟩ := eR10_zero he
  have HSp := Lib.hid hSp
  have HRb := Lib.hid hRb
  have HV : Hid (vMi S R t = mL S R t.toNat) := Lib.hid (by unfold vMi; rw [if_pos he])
  have HE := Lib.hid he
  rw [he] at hc
  clear he hRb
  obtain ⟨t, rfl⟩ : ∃ n : Nat, t = n := ⟨t.toNat, by omega⟩
  rw [Int.toNat_natCast] at HV
  have ht1 : 0 < t := by omega
  have ht3 : t ≤ 3 := by omega
  have hm832 := mL_len hSp R ht1 ht3
  have HM2 : Hid (∀ j, j < (mL S R t).length → (rr (mL S R t) j).length = 2 * t) := Lib.hid fun j hj => allC_len2 S t _ ((msTo_sub S (allC S t) R R.length).2 _ (rr_mem hj))
  have hmc := missingChoices_any ao S cap HSp.out ar R capr (by omega) HRb.out t ht1 ht3
  obtain ⟨ML, hML⟩ : ∃ ML, ML = mL S R t := ⟨_, rfl⟩
  rw [← hML] at hm832 HM2 HV hmc
  clear hSp hML
  go_enter Tryz.func10, Tryz.ntmps10
  go_wp2_with fail
  refine hc.mono ?_
  rintro e w1 ⟨rfl, hb1⟩
  have c1 := kept_cell hb1 c0 l0
  have l1 := lt_of_below hb1 l0
  have B1 := B0.trans (hb1.mono B0.size)
  have ow2 := OwnRws.empty w1 w.heap.size B1.size (n := w1.heap.size) rfl
  have hL0 : (w1.alloc (.cells #[] 24)).heap[w1.heap.size]? = some (.cells #[] 24 (0, 0)) := heap_alloc_new _ _
  have c2 := kept_cell ((Below.refl _ w1).alloc (Nat.le_refl _) (.cells #[] 24)) c1 l1
  have l2 : w.heap.size < (w1.alloc (.cells #[] 24)).heap.size := by simp; try omega
  have B2 := B1.alloc B1.size (.cells #[] 24)
  have hmc2 := hmc _ (hS.below B2) (hRI.below B2)
  clear hc c0 l0 B0 hb1 c1 hmc
  go_wp2_with fail
  refine hmc2.mono ?_
  rintro e w5 ⟨gm, cm, rfl, hgm, hCM, hb5⟩
  have hgm2 : w1.heap.size + 1 ≤ gm := by rw [World.size_alloc] at hgm; exact hgm
  have ow5 := ow2.below hb5
  have hz2 : (w1.alloc (.cells #[] 24)).heap.size = w1.heap.size + 1 := by simp
  have hL5 : w5.heap[w1.heap.size]? = some (.cells #[] 24 (0, 0)) := (hb5.block _ (by omega)).trans hL0
  have B5 := B2.trans (hb5.mono B2.size)
  have hw15 : w1.heap.size < w5.heap.size := by have := hb5.size; omega
  have hlo : w.heap.size ≤ w1.heap.size := B1.size
  obtain ⟨M, hM⟩ : ∃ M, M = ML.length := ⟨_, rfl⟩
  have HM := Lib.hid hM
  rw [← hM] at hm832 HM2 ⊢
  have HRW : Hid (∀ j, j < M → ∃ g o, (w5.cell? ⟨gm, j * 3, none⟩ = some (.slice ao S.length cap) ∧ w5.cell? ⟨gm, j * 3 + 1, none⟩ = some (.slice (some ⟨g, o, none⟩) t t) ∧ w5.cell? ⟨gm, j * 3 + 2, none⟩ = some (.slice (some ⟨g, o + t, none⟩) t t)) ∧ Ints w5 (some ⟨g, o, none⟩) (rr ML j) ∧ g ≠ w1.heap.size ∧ g < w5.heap.size ∧ gm < w5.heap.size) := Lib.hid fun j hj => by
    obtain ⟨h1, g, o, h2, h3⟩ := hCM j (by rw [← HM.out]; exact hj)
    have hl := HM2.out j hj
    obtain ⟨b, o', he, hbl, hcc⟩ := h3.at (i := 0) (by omega)
    cases he
    refine ⟨g, o, h2, h3, fun e => ?_, hbl, h1⟩
    subst e
    have hcc0 := hcc 0 (by omega)
    rw [cell_of_row w5 _ _ _ _ _ hL5] at hcc0
    simp at hcc0
  clear ow2 hL0 c2 B2 hb5 hCM hL5 hgm hmc2 hz2 hM B1 l2
  obtain ⟨Z, hZ⟩ : ∃ Z, Z = w5.heap.size := ⟨_, rfl⟩
  have HZ := Lib.hid hZ
  have hZl : w1.heap.size < Z := by omega
  clear hZ
  go_wp2_with fail
  go_loopw [9, 25] (fun o x wr => ∃ (k : Nat) (gv : Nat) (cv : Nat), k ≤ M ∧ x = .int .i64 (k : Int) ∧ o = .slice (some ⟨gv, 0, none⟩) k cv ∧ OwnRws wr w.heap.size wr.heap.size (.slice (some ⟨gv, 0, none⟩) k cv) (ML.take k) ∧ (gv = w1.heap.size ∨ Z ≤ gv) ∧ Hid (∀ b, b < Z → b ≠ w1.heap.size → wr.heap[b]? = w5.heap[b]?) ∧ Z ≤ wr.heap.size ∧ Below w.heap.size w wr) (fun _ x _ => M - (intOf x).toNat)
  case atStart => exact ⟨0, w1.heap.size, 0, Nat.zero_le _, rfl, rfl, ow5.top, .inl rfl, Lib.hid fun b _ _ => rfl, by rw [HZ.out]; exact Nat.le_refl _, B5⟩
  case round =>
    clear ow5 B5
    obtain ⟨k, gv, cv, hk, rfl, rfl, oR, hgv, HK, hZr, B⟩ := hrel
    by_cases hlt : k < M
    · have hkI : (k : Int) < (M : Int) := by omega
      obtain ⟨g, o, ⟨hx1, hx2, hx3⟩, hIc, hg1, hg2, hg3⟩ := HRW.out k hlt
      rw [← HZ.out] at hg2 hg3
      replace hx1 := (cell_heapS (HK.out gm hg3 (by omega)) _).trans hx1
      replace hx2 := (cell_heapS (HK.out gm hg3 (by omega)) _).trans hx2
      replace hx3 := (cell_heapS (HK.out gm hg3 (by omega)) _).trans hx3
      replace hIc := ints_heapS hIc (HK.out g hg2 hg1) (by omega)
      have hcl := HM2.out k hlt
      have HTk : Hid (ML.take (k + 1) = ML.take k ++ [rr ML k]) := Lib.hid (take_rr ML k (by rw [← HM.out]; exact hlt))
      obtain ⟨c, hce⟩ : ∃ c, c = rr ML k := ⟨_, rfl⟩
      rw [← hce] at hIc hcl HTk
      have hp1 : (c.take t).length = t := by rw [List.length_take]; omega
      have hp2 : (c.drop t).length = t := by rw [List.length_drop]; omega
      obtain ⟨W2, hW2⟩ : ∃ W2, W2 = (wr.alloc (.cells #[.slice ao S.length cap, .slice (some ⟨g, o, none⟩) t t, .slice (some ⟨g, o + t, none⟩) t t] 64)).alloc (.cells #[.slice (some ⟨g, o, none⟩) t t, .slice (some ⟨g, o + t, none⟩) t t] 24) := ⟨_, rfl⟩
      have b2 : Below wr.heap.size wr W2 := by rw [hW2]; go_grown
      have r2 : W2.heap[wr.heap.size + 1]? = some (.cells #[.slice (some ⟨g, o, none⟩) t t, .slice (some ⟨g, o + t, none⟩) t t] 24 (0, 0)) := by
        have e : (wr.alloc (.cells #[.slice ao S.length cap, .slice (some ⟨g, o, none⟩) t t, .slice (some ⟨g, o + t, none⟩) t t] 64)).heap.size = wr.heap.size + 1 := by simp
        rw [hW2, ← e]; exact heap_alloc_new _ _
      have hcat : catTo (fun k => if k = 0 then c.take t else c.drop t) 2 = c := by
        simp [catTo]
      have hcc := concat_n (wr.heap.size + 1) 2 (by omega) (fun k => if k = 0 then ⟨g, o, none⟩ else ⟨g, o + t, none⟩) (fun k => if k = 0 then c.take t else c.drop t) (fun _ => t) W2 (Array.getElem?_eq_some_iff.1 r2).1
        (fun k hk => by
          rw [cell_of_row W2 _ k _ _ _ r2]
          have : k = 0 ∨ k = 1 := by omega
          rcases this with rfl | rfl
          · simp [hp1]
          · simp [hp2])
        (fun k hk => by
          have : k = 0 ∨ k = 1 := by omega
          rcases this with rfl | rfl
          · simp only [if_pos]
            exact ⟨(ints_takeM hIc t).below b2, by rw [hp1]; omega⟩
          · simp only [if_neg (show ¬ (1 : Nat) = 0 by decide)]
            exact ⟨(ints_dropM hIc t).below b2, by rw [hp2]; omega⟩)
        (by rw [hcat]; omega)
      rw [hcat, hcl] at hcc
      have HW2 := Lib.hid hW2
      have HCC := Lib.hid hcc
      have HCl := Lib.hid hcl
      have hgvl := (oR.lo gv rfl)
      have HRl : Hid ((ML.take k).length = k) := Lib.hid (by rw [List.length_take, ← HM.out]; omega)
      have hz0 : w.heap.size ≤ wr.heap.size := B.size
      clear hW2 r2 hcc hcat hp1 hp2 hIc hcl hce
      go_wp2_with fail
      rw [← HW2.out]
      refine HCC.out.mono ?_
      rintro e w7 ⟨g7, c7, rfl, oc, hb7⟩
      have H7 : Below wr.heap.size wr w7 := b2.trans (hb7.mono b2.size)
      have oR7 := oR.belowB (Nat.le_refl _) H7
      have hlo7 : wr.heap.size ≤ W2.heap.size := b2.size
      have z7 := H7.size
      clear HCC hb7 b2 oR hx1 hx2 hx3
      go_wp2_with (first
        | (at_builtin; refine wpList_append_rw rfl _ _ rfl w.heap.size wr.heap.size _ (ML.take k) rfl (oR7.alloc _) w7.heap.size (.slice (some ⟨g7, 0, none⟩) (2 * t) c7) c ((oc.rebase (Nat.le_trans hz0 hlo7)).alloc _) (fun z hz => by cases hz; exact Nat.le_trans hlo7 oc.base_le.1) rfl (cell_new _ _ _) (by rw [HRl.out]; omega) (by rw [World.size_alloc]; omega) ?_; intro v9 w9 oR9 hg9 hat9; obtain ⟨g9, c9, hv9⟩ := own_rws_some oR9; rw [HRl.out] at hv9; subst hv9)
        | fail)
      have hg9l : w7.heap.size + 1 ≤ w9.heap.size := by have := hg9.size; rw [World.size_alloc] at this; exact this
      have B9 : Below w.heap.size w w9 := ((B.trans (H7.mono B.size)).alloc (by omega) (.cells #[.slice (some ⟨g7, 0, none⟩) (2 * t) c7] 24)).grown hg9 (by rw [World.size_alloc]; omega) (fun z hz => by cases hz; exact hgvl)
      have HK9 : Hid (∀ b, b < Z → b ≠ w1.heap.size → w9.heap[b]? = w5.heap[b]?) := Lib.hid fun b h1 h2 => by
        have n1 : b ≠ gv := by omega
        have e1 := hg9.block b (by rw [World.size_alloc]; omega) (by simp only [Value.ownBlock]; intro e; exact n1 (Option.some.inj e))
        have e2 : (w7.alloc (.cells #[.slice (some ⟨g7, 0, none⟩) (2 * t) c7] 24)).heap[b]? = w7.heap[b]? := ((Below.refl _ w7).alloc (Nat.le_refl _) _).block b (by omega)
        exact e1.trans (e2.trans ((H7.block b (by omega)).trans (HK.out b h1 h2)))
      have hgv9 : g9 = w1.heap.size ∨ Z ≤ g9 := by
        rcases hat9 with e | e
        · have e' : g9 = gv := Option.some.inj e
          omega
        · have e' : g9 = (w7.alloc (.cells #[.slice (some ⟨g7, 0, none⟩) (2 * t) c7] 24)).heap.size := Option.some.inj e
          rw [World.size_alloc] at e'; omega
      rw [← HTk.out] at oR9
      clear oR7 oc hg9 hat9 H7 HK B hgv
      go_wp2_with fail
      go_roundw
      case rel => exact ⟨k + 1, g9, c9, by omega, by go_num, rfl, oR9, hgv9, HK9, by omega, B9⟩
      case measure => simp [intOf]; omega
    · have hkI : ¬ (k : Int) < (M : Int) := by omega
      have hkM : Hid (ML.take k = ML) := Lib.hid (List.take_of_length_le (by rw [← HM.out]; omega))
      rw [hkM.out] at oR
      go_wp2_with fail
      go_ret2
      exact ⟨_, by rw [HE.out]; rfl, by rw [HV.out]; exact oR, B⟩

theorem RdRws.kept {w w' : World} {lo hi : Nat} {v : Value} {R : List (List Int)} {b : Option Nat} (h : RdRws w lo hi v R) (hg : w.grownBy w' b) (hb : ∀ k, b = some k → k < lo ∨ hi ≤ k) : RdRws w' lo hi v R := by
  obtain ⟨hs, h1, h2, h3, h4⟩ := h
  have ne : ∀ z : Value, (∀ k, z.ownBlock = some k → lo ≤ k ∧ k < hi) → z.ownBlock = none ∨ z.ownBlock ≠ b := fun z hz => by
    cases hv : z.ownBlock with
    | none => exact .inl rfl
    | some k =>
      refine .inr fun e => ?_
      have := hz k hv
      have := hb k e.symm
      omega
  refine ⟨hs, h1, World.ownsRow.kept h2 hg (ne v fun k hk => ⟨(World.ownsRow.lt h2 k hk).1, h3 k hk⟩), h3, fun i hi => ?_⟩
  obtain ⟨x, hx, ho, hk⟩ := h4 i hi
  exact ⟨x, hx, World.ownsRow.kept ho hg (ne x fun k e => ⟨(World.ownsRow.lt ho k e).1, hk k e⟩), hk⟩

end Go.Proofs.YtpmfedllbiblbaaGreat

namespace Go.Proofs.YtpmfedllbiblbaaGreat
open Go.RowKit Cv
set_option linter.unusedVariables false
set_option linter.unusedSimpArgs false
set_option maxRecDepth 100000

set_option maxHeartbeats 2000000 in
theorem impl_CountMissing (ao : Option Addr) (S : List Int) (cap : Nat) (hn : S.length ≤ 4294967296) (ar : Option Addr) (R : List Int) (capr : Nat) (hnr : R.length ≤ 4294967296) (t : Int) (ht : -9223372036854775808 ≤ t ∧ t ≤ 9223372036854775807) (w : World) (hS : Ints w ao S) (hRI : Ints w ar R) :
    Calls Tryz.prog 13 #[.agg #[.slice ao S.length cap], .slice ar R.length capr, .int .i64 t] w fun e w' => e = .returned (.tuple #[.int .i64 (vCm S R t), .int .i64 (eR10 S R t)]) ∧ Below w.heap.size w w' := by
  have B0 : Below w.heap.size w (w.alloc (.cells #[.slice ao S.length cap] 26)) := by go_grown
  have c0 := cell_new w (.slice ao S.length cap) 26
  have l0 := lt_alloc w (.cells #[.slice ao S.length cap] 26)
  have hc := rowsError_any ao S cap hn ar R capr hnr t _ (hS.below B0) (hRI.below B0)
  by_cases he : eR10 S R t = 0
  case neg =>
    have HV : Hid (vCm S R t = 0) := Lib.hid (by unfold vCm; rw [if_neg he])
    obtain ⟨E, hE⟩ : ∃ E, E = eR10 S R t := ⟨_, rfl⟩
    rw [← hE] at hc he ⊢
    have hb : (E != 0) = true := by simpa using he
    clear hE he
    go_enter Tryz.func13, Tryz.ntmps13
    go_wp2_with fail
    refine hc.mono ?_
    rintro e w1 ⟨rfl, hb1⟩
    have B1 := B0.trans (hb1.mono B0.size)
    go_wp2_with fail
    go_ret2
    exact ⟨ret_i2 HV.out.symm rfl, B1⟩
  obtain ⟨hSp, hRb, hR2, g1, g2, g3⟩ := eR10_zero he
  have HSp := Lib.hid hSp
  have HRb := Lib.hid hRb
  have HV : Hid (vCm S R t = ((mL S R t.toNat).length : Nat)) := Lib.hid (by unfold vCm; rw [if_pos he])
  have HE := Lib.hid he
  rw [he] at hc
  clear he hRb
  obtain ⟨t, rfl⟩ : ∃ n : Nat, t = n := ⟨t.toNat, by omega⟩
  rw [Int.toNat_natCast] at HV
  have ht1 : 0 < t := by omega
  have ht3 : t ≤ 3 := by omega
  clear hSp
  go_enter Tryz.func13, Tryz.ntmps13
  go_wp2_with fail
  refine hc.mono ?_
  rintro e w1 ⟨rfl, hb1⟩
  have c1 := kept_cell hb1 c0 l0
  have B1 := B0.trans (hb1.mono B0.size)
  clear hc c0 l0 B0 hb1
  go_wp2_with fail
  refine (missingChoices_any ao S cap HSp.out ar R capr (by omega) HRb.out t ht1 ht3 _ (hS.below B1) (hRI.below B1)).mono ?_
  rintro e w2 ⟨g, c, rfl, _, _, hb2⟩
  go_wp2_with fail
  go_ret2
  exact ⟨ret_i2 HV.out.symm HE.out.symm, B1.trans (hb2.mono B1.size)⟩

theorem eC10_nil (S : List Int) (t : Int) : eR10 S [] t = eC10 S t := by
  unfold eR10
  by_cases h : isSp S = true
  · rw [if_pos h, if_pos ⟨rfl, by simp⟩]
  · rw [if_neg h]; unfold eC10; rw [if_neg h]
theorem vCc_nil (S : List Int) (t : Int) : vCm S [] t = vCc S t := by
  unfold vCm vCc mL
  rw [eC10_nil]
  rfl

set_option maxHeartbeats 2000000 in
theorem impl_CountChoices (ao : Option Addr) (S : List Int) (cap : Nat) (hn : S.length ≤ 4294967296) (t : Int) (ht : -9223372036854775808 ≤ t ∧ t ≤ 9223372036854775807) (w : World) (hS : Ints w ao S) :
    Calls Tryz.prog 20 #[.agg #[.slice ao S.length cap], .int .i64 t] w fun e w' => e = .returned (.tuple #[.int .i64 (vCc S t), .int .i64 (eC10 S t)]) ∧ Below w.heap.size w w' := by
  have B0 : Below w.heap.size w (w.alloc (.cells #[.slice ao S.length cap] 26)) := by go_grown
  have c0 := cell_new w (.slice ao S.length cap) 26
  have hc := impl_CountMissing ao S cap hn none [] 0 (by simp) t ht _ (hS.below B0) (.inl rfl)
  rw [eC10_nil, vCc_nil] at hc
  go_enter Tryz.func20, Tryz.ntmps20
  go_wp2_with fail
  refine hc.mono ?_
  rintro e w1 ⟨rfl, hb1⟩
  go_wp2_with fail
  go_ret2
  exact ⟨rfl, B0.trans (hb1.mono B0.size)⟩

set_option maxHeartbeats 2000000 in
theorem impl_StrengthOf (ao : Option Addr) (S : List Int) (cap : Nat) (hn : S.length ≤ 4294967296) (ar : Option Addr) (R : List Int) (capr : Nat) (hnr : R.length ≤ 4294967296) (w : World) (hS : Ints w ao S) (hRI : Ints w ar R) :
    Calls Tryz.prog 25 #[.agg #[.slice ao S.length cap], .slice ar R.length capr] w fun e w' => e = .returned (.tuple #[.int .i64 (vSt S R), .int .i64 (eR10 S R 1)]) ∧ Below w.heap.size w w' := by
  have B0 : Below w.heap.size w (w.alloc (.cells #[.slice ao S.length cap] 26)) := by go_grown
  have c0 := cell_new w (.slice ao S.length cap) 26
  have l0 := lt_alloc w (.cells #[.slice ao S.length cap] 26)
  have hc := rowsError_any ao S cap hn ar R capr hnr 1 _ (hS.below B0) (hRI.below B0)
  by_cases he : eR10 S R 1 = 0
  case neg =>
    have HV : Hid (vSt S R = 0) := Lib.hid (by unfold vSt; rw [if_neg he])
    obtain ⟨E, hE⟩ : ∃ E, E = eR10 S R 1 := ⟨_, rfl⟩
    rw [← hE] at hc he ⊢
    have hb : (E != 0) = true := by simpa using he
    clear hE he
    go_enter Tryz.func25, Tryz.ntmps25
    go_wp2_with fail
    refine hc.mono ?_
    rintro e w1 ⟨rfl, hb1⟩
    have B1 := B0.trans (hb1.mono B0.size)
    go_wp2_with fail
    go_ret2
    exact ⟨ret_i2 HV.out.symm rfl, B1⟩
  obtain ⟨hSp, hRb, hR2, g1, g2, g3⟩ := eR10_zero he
  have HSp := Lib.hid hSp
  have HRb := Lib.hid hRb
  have hn8 := hSp.hi
  obtain ⟨M, hM⟩ : ∃ M, M = min 3 S.length := ⟨_, rfl⟩
  have HV : Hid (vSt S R = (stTo S R M : Nat)) := Lib.hid (by unfold vSt; rw [if_pos he, hM])
  have HE := Lib.hid he
  have HGS := Lib.hid fun w => greatestStrength_any ao S cap (M : Int) (by omega) w
  have hM3 : M ≤ 3 := by omega
  rw [he] at hc
  clear he hRb hSp hM
  go_enter Tryz.func25, Tryz.ntmps25
  go_wp2_with fail
  refine hc.mono ?_
  rintro e w1 ⟨rfl, hb1⟩
  have c1 := kept_cell hb1 c0 l0
  have l1 := lt_of_below hb1 l0
  have B1 := B0.trans (hb1.mono B0.size)
  clear hc c0 l0 B0 hb1
  go_wp2_with fail
  refine (HGS.out _).mono ?_
  rintro e w2 ⟨rfl, hb2⟩
  have c2 := kept_cell hb2 c1 l1
  have l2 := lt_of_below hb2 l1
  have B2 := B1.trans (hb2.mono B1.size)
  clear c1 l1 B1 hb2
  go_wp2_with fail
  go_loopw [7] (fun x wr => ∃ s : Nat, s ≤ 3 ∧ x = .int .i64 (s : Int) ∧ Hid (stTo S R M = stTo S R s) ∧ wr.cell? ⟨w.heap.size, 0, none⟩ = some (.slice ao S.length cap) ∧ w.heap.size < wr.heap.size ∧ Below w.heap.size w wr) (fun x _ => (intOf x).toNat)
  case atStart => exact ⟨M, hM3, rfl, Lib.hid rfl, c2, l2, B2⟩
  case round =>
    clear c2 l2 B2
    obtain ⟨s, hs3, rfl, HS, c1, l1, B⟩ := hrel
    cases s with
    | zero =>
      have HS0 : Hid (stTo S R M = 0) := Lib.hid (by rw [HS.out]; rfl)
      go_wp2_with fail
      go_ret2
      exact ⟨ret_i2 (by rw [HV.out, HS0.out]) HE.out.symm, B⟩
    | succ s =>
      have ht1 : 0 < s + 1 := by omega
      have i1 : (0 : Int) < (s : Int) + 1 := by omega
      have HS2 : Hid (stTo S R (s + 1) = if mL S R (s + 1) = [] then s + 1 else stTo S R s) := Lib.hid rfl
      have hcm := missingChoices_any ao S cap HSp.out ar R capr (by omega) HRb.out (s + 1) ht1 hs3 wr (hS.below B) (hRI.below B)
      push_cast at hcm ⊢
      by_cases hm : mL S R (s + 1) = []
      · have HST : Hid (stTo S R M = s + 1) := Lib.hid (by rw [HS.out, HS2.out, if_pos hm])
        have hl : (mL S R (s + 1)).length = 0 := by rw [hm]; rfl
        rw [hl] at hcm
        clear hm hl
        go_wp2_with fail
        refine hcm.mono ?_
        rintro e w5 ⟨g, c, rfl, _, _, hb5⟩
        have B5 := B.trans (hb5.mono B.size)
        go_wp2_with fail
        go_ret2
        exact ⟨ret_i2 (by rw [HV.out, HST.out]; push_cast; rfl) HE.out.symm, B5⟩
      · have HST : Hid (stTo S R M = stTo S R s) := Lib.hid (by rw [HS.out, HS2.out, if_neg hm])
        obtain ⟨ml, hml⟩ : ∃ ml, ml = (mL S R (s + 1)).length := ⟨_, rfl⟩
        rw [← hml] at hcm
        have hmb : (0 : Int) < (ml : Int) := by
          have : (mL S R (s + 1)).length ≠ 0 := fun e => hm (List.eq_nil_of_length_eq_zero e)
          omega
        clear hm hml
        go_wp2_with fail
        refine hcm.mono ?_
        rintro e w5 ⟨g, c, rfl, _, _, hb5⟩
        have B5 := B.trans (hb5.mono B.size)
        have c5 := kept_cell hb5 c1 l1
        have l5 := lt_of_below hb5 l1
        clear hcm hb5 B c1 l1
        go_wp2_with fail
        go_roundw
        case rel => exact ⟨s, by omega, by go_num, HST, c5, l5, B5⟩
        case measure => simp [intOf]

end Go.Proofs.YtpmfedllbiblbaaGreat

namespace Go.Proofs.YtpmfedllbiblbaaGreat
open Go.RowKit Cv
set_option linter.unusedVariables false
set_option linter.unusedSimpArgs false
set_option maxRecDepth 100000

set_option maxHeartbeats 1000000 in
theorem areDigits_any (ao : Option Addr) (S : List Int) (cap : Nat) (hn : S.length ≤ 4294967296) (ad : Option Addr) (D : List Int) (capd : Nat) (hnd : D.length ≤ 4294967296) (w : World) (hS : Ints w ao S) (hD : Ints w ad D) :
    Calls Tryz.prog 121 #[.agg #[.slice ao S.length cap], .slice ad D.length capd] w fun e w' => e = .returned (.bool (dgB S D)) ∧ Below w.heap.size w w' := by
  have Bx : ∀ o, Below w.heap.size w (w.alloc o) := fun o => (Below.refl _ _).alloc (Nat.le_refl _) _
  by_cases hl : D.length = S.length
  · have HL := Lib.hid hl
    rw [hl]
    clear hl
    go_enter Tryz.func121, Tryz.ntmps121
    go_wp2_with fail
    go_loop [16] (fun i => ∃ k : Nat, k ≤ S.length ∧ i = .int .i64 k ∧ Hid (∀ j, j < k → 0 ≤ gi D j ∧ gi D j < gi S j)) (fun i => S.length - (intOf i).toNat)
    case atStart => exact ⟨0, Nat.zero_le _, rfl, Lib.hid fun j h => by omega⟩
    case round =>
      obtain ⟨k, hk, rfl, HK⟩ := hrel
      by_cases hlt : k < S.length
      · obtain ⟨b, o, rfl, hbl, hc⟩ := hS.at hlt
        have hck : ∀ x, (w.alloc x).cell? ⟨b, o + k, none⟩ = some (.int .i64 (gi S k)) := fun x => kept_cell (Bx x) (hc k hlt) hbl
        obtain ⟨b', o', rfl, hbl', hc'⟩ := hD.at (i := k) (by rw [HL.out]; exact hlt)
        have hck' : ∀ x, (w.alloc x).cell? ⟨b', o' + k, none⟩ = some (.int .i64 (gi D k)) := fun x => kept_cell (Bx x) (hc' k (by rw [HL.out]; exact hlt)) hbl'
        clear hc hc'
        by_cases hq : 0 ≤ gi D k
        · by_cases hq2 : gi D k < gi S k
          · have HQ := Lib.hid (And.intro hq hq2)
            go_wp2_with fail
            go_round
            case rel =>
              refine ⟨k + 1, by omega, by go_num, Lib.hid fun j hj => ?_⟩
              by_cases e : j = k
              · subst e; exact HQ.out
              · exact HK.out j (by omega)
            case measure => simp [intOf]; omega
          · have HQ := Lib.hid (dgB_bad (S := S) (D := D) hlt (by omega))
            go_wp2_with fail
            go_ret
            exact ⟨ret_bool HQ.out.symm, by go_grown⟩
        · have HQ := Lib.hid (dgB_bad (S := S) (D := D) hlt (by omega))
          go_wp2_with fail
          go_ret
          exact ⟨ret_bool HQ.out.symm, by go_grown⟩
      · have HQ := Lib.hid (dgB_ok HL.out fun i hi => HK.out i (by omega))
        go_wp2_with fail
        go_ret
        exact ⟨ret_bool HQ.out.symm, by go_grown⟩
  · have HQ := Lib.hid (dgB_len hl)
    have hne : ((D.length : Int) == (S.length : Int)) = false := by simp; omega
    have hne2 : ((D.length : Int) != (S.length : Int)) = true := by simp; omega
    go_enter Tryz.func121, Tryz.ntmps121
    go_wp2_with fail
    go_ret
    exact ⟨ret_bool HQ.out.symm, by go_grown⟩

end Go.Proofs.YtpmfedllbiblbaaGreat
