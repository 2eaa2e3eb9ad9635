/-
  The draw of chapter 9: a space, a set and columns. By an AI agent.
-/
import Derived.Test.YtamebfbddoeflaaPk25
import Derived.Deep.Cut
import Derived.Deep.CutBlock
namespace Go.Proofs.Ytamebfbddoeflaa
open Go.RowKit Cv
set_option linter.unusedVariables false
set_option linter.unusedSimpArgs false
set_option maxRecDepth 100000

/-- how long the list in a box is -/
def lenAt9 (X : Nat) (w : World) : Nat := match w.cell? ⟨X, 0, none⟩ with
  | some (.slice _ n _) => n
  | _ => 0
theorem lenAt9_row {w : World} {X n c : Nat} {a : Option Addr} {t : TypeId} (h : w.heap[X]? = some (.cells #[.slice a n c] t (0, 0))) : lenAt9 X w = n := by
  unfold lenAt9; rw [cell_of1' h]
theorem gi_drop9 (S : List Int) (k i : Nat) : gi (S.drop k) i = gi S (k + i) := by simp [gi]
theorem prod_drop9 (S : List Int) (k j : Nat) : prodTo S (k + j) = prodTo S k * prodTo (S.drop k) j := by
  induction j with
  | zero => simp [prodTo]
  | succ j ih => rw [← Nat.add_assoc, prodTo, prodTo, ih, gi_drop9, Int.mul_assoc]
theorem sp_drop9 {S : List Int} (hS : Sp S) {k : Nat} (hk : k < S.length) : Sp (S.drop k) := by
  have hl : (S.drop k).length = S.length - k := List.length_drop
  have hbd : ∀ i, i < (S.drop k).length → 2 ≤ gi (S.drop k) i ∧ gi (S.drop k) i ≤ 4 := fun i hi => by rw [gi_drop9]; exact hS.bd _ (by omega)
  refine ⟨by omega, by have := hS.hi; omega, hbd, ?_⟩
  have h1 := prod_drop9 S k (S.length - k)
  rw [show k + (S.length - k) = S.length by omega] at h1
  have h2 := prodTo_pos S k (fun i hi => hS.bd i (by omega))
  have h3 := prodTo_pos (S.drop k) (S.drop k).length hbd
  have h4 := hS.pr
  rw [hl] at h3 ⊢
  have h5 : 1 * prodTo (S.drop k) (S.length - k) ≤ prodTo S k * prodTo (S.drop k) (S.length - k) := Int.mul_le_mul_of_nonneg_right h2 (by omega)
  omega
theorem ints_drop9 {w : World} {gx ox : Nat} {S : List Int} (h : Ints w (some ⟨gx, ox, none⟩) S) (k : Nat) : Ints w (some ⟨gx, ox + k, none⟩) (S.drop k) := by
  rcases h with h | ⟨b, o, e, hl, hc⟩
  · exact .inl (by rw [List.length_drop]; omega)
  · obtain ⟨rfl, rfl⟩ : gx = b ∧ ox = o := by simpa using e
    refine .inr ⟨gx, ox + k, rfl, hl, fun i hi => ?_⟩
    rw [List.length_drop] at hi
    rw [gi_drop9, Nat.add_assoc]; exact hc (k + i) (by omega)
theorem put_len9 (L : List Int) (x : Int) : (putL L x).length ≤ L.length + 1 := (putL_len L x).2

set_option maxHeartbeats 8000000 in
theorem draw9_any (b : Nat) (a : Option Addr) (n cap : Nat) (hn : n ≤ 4096) (w : World) (hs : Src w b a n cap) :
    Calls Try.prog 20 #[.pointer (some ⟨b, 0, none⟩)] w fun e w' => ∃ x S c gS C cS aT T cT, e = .returned (.tuple #[.agg #[.slice x S.length c], .slice (some ⟨gS, 0, none⟩) C.length cS, .slice aT T.length cT]) ∧ IntsX w.heap.size w' x S ∧ Sp S ∧ IntsX w.heap.size w' (some ⟨gS, 0, none⟩) C ∧ C.length ≤ 16 ∧ IntsX w.heap.size w' aT T ∧ T.length ≤ cT ∧ T.length ≤ 20 ∧ Src w' b a n cap ∧ w.grownBy w' (some b) := by
  have hbl := hs.lt
  have G := World.grownBy.refl w (some b)
  obtain ⟨A, hA⟩ : ∃ z, z = w.heap.size := ⟨_, rfl⟩
  obtain ⟨u1, hu1⟩ : ∃ z, z = w.alloc (.cells #[.slice none 0 0] 26) := ⟨_, rfl⟩
  have RA : u1.heap[A]? = some (.cells #[.slice none 0 0] 26 (0, 0)) := by rw [hu1, hA]; exact heap_alloc_new _ _
  replace hs : Src u1 b a n cap := by rw [hu1]; exact hs.alloc _
  replace G : w.grownBy u1 (some b) := by rw [hu1]; exact grown_alloc G _
  have HA := Lib.hid hA
  have Hu1 := Lib.hid hu1
  have hAb : b < A := by rw [hA]; exact hbl
  clear hA hu1 hbl
  go_enter Try.func20, Try.ntmps20
  have hc := space9_any b a n cap hn u1 hs
  have zsz := row_lt RA
  go_wp2_with fail
  rw [← Hu1.out, ← HA.out]
  refine hc.mono ?_
  rintro e u2 ⟨x, S, c, rfl, hX, hSc, hSp, hs', hg⟩
  replace hX := hX.lower (b := A) (by omega)
  replace G : w.grownBy u2 (some b) := grown_trans G hg
  replace RA : u2.heap[A]? = some (.cells #[.slice none 0 0] 26 (0, 0)) := row_g RA hg (by simp; omega)
  replace hs := hs'
  clear hc hg hs' zsz
  have hAl := row_lt RA
  have hbl2 := hs.lt
  obtain ⟨gx, ox, rfl, hgl⟩ : ∃ gx ox, x = some ⟨gx, ox, none⟩ ∧ gx < u2.heap.size := by
    rcases hX.1 with h | ⟨g2, o2, e2, hl2, _⟩
    · have := hSp.lo; omega
    · exact ⟨g2, o2, e2, hl2⟩
  obtain ⟨Xb, hXb⟩ : ∃ z, z = u2.heap.size := ⟨_, rfl⟩
  obtain ⟨u3, hu3⟩ : ∃ z, z = u2.alloc (.cells #[.slice (some ⟨gx, ox, none⟩) S.length c] 26) := ⟨_, rfl⟩
  have RX : u3.heap[Xb]? = some (.cells #[.slice (some ⟨gx, ox, none⟩) S.length c] 26 (0, 0)) := by rw [hu3, hXb]; exact heap_alloc_new _ _
  replace hs : Src u3 b a n cap := by rw [hu3]; exact hs.alloc _
  replace G : w.grownBy u3 (some b) := by rw [hu3]; exact grown_alloc G _
  replace RA : u3.heap[A]? = some (.cells #[.slice none 0 0] 26 (0, 0)) := by rw [hu3]; exact row_g RA (World.grownBy_alloc _ _ none) (by simp)
  replace hX : IntsX A u3 (some ⟨gx, ox, none⟩) S := by rw [hu3]; exact hX.below (B := 0) ((Below.refl _ _).alloc (Nat.le_refl _) _)
  have HXb := Lib.hid hXb
  have Hu3 := Lib.hid hu3
  have hAX : A < Xb := by rw [hXb]; exact hAl
  have hbX : b < Xb := by rw [hXb]; exact hbl2
  have hgX : gx < Xb := by rw [hXb]; exact hgl
  have hAg : A < gx := hX.2 _ _ rfl
  clear hXb hu3 hAl hbl2 hgl
  have S8 := hSp.hi
  have S1 := hSp.lo
  go_upto_block 0 with fail
  rw [← Hu3.out, ← HXb.out]
  go_wp2_with fail
  go_loopw [] (fun wr => ∃ k : Nat, k < S.length ∧ wr.heap[A]? = some (.cells #[.slice none 0 0] 26 (0, 0)) ∧ wr.heap[Xb]? = some (.cells #[.slice (some ⟨gx, ox + k, none⟩) (S.length - k) (c - k)] 26 (0, 0)) ∧ IntsX A wr (some ⟨gx, ox, none⟩) S ∧ Src wr b a n cap ∧ w.grownBy wr (some b)) (fun wr => lenAt9 Xb wr)
  case atStart => exact ⟨0, by omega, RA, RX, hX, hs, G⟩
  case round =>
    clear RA RX hX hs G
    obtain ⟨k, hk, RA, RX, hX, hs, G⟩ := hrel
    have xX := cell_of1' RX
    have fX := frozen_of_row wr Xb 0 _ _ RX
    have zX := row_lt RX
    by_cases h3 : 3 < S.length - k
    · have i1 : (3 : Int) < ((S.length - k : Nat) : Int) := by omega
      have i2 : 1 ≤ S.length - k := by omega
      have i3 : S.length - k ≤ c - k := by omega
      have hm := lenAt9_row RX
      have RX' : (wr.setCell ⟨Xb, 0, none⟩ (.slice (some ⟨gx, ox + (k + 1), none⟩) (S.length - (k + 1)) (c - (k + 1)))).heap[Xb]? = some (.cells #[.slice (some ⟨gx, ox + (k + 1), none⟩) (S.length - (k + 1)) (c - (k + 1))] 26 (0, 0)) := row_store1' _ RX
      go_wp2_with fail
      go_roundw
      case rel => exact ⟨k + 1, by omega, row_setO RA (by simp; omega) _, (by first | exact RX' | (have h := RX'; simp only [Nat.sub_sub, Nat.add_assoc] at h ⊢; exact h)), hX.set _ _ (fun g o e => by cases e; omega), hs.setO _ (by simp; omega) _, grown_set G _ (by simp; have := HA.out; omega) _⟩
      case measure => (have h := lenAt9_row (row_store1' (.slice (some ⟨gx, ox + (k + 1), none⟩) (S.length - (k + 1)) (c - (k + 1))) RX); first | (rw [hm]; simp only [Nat.sub_sub, Nat.add_assoc] at h ⊢; omega) | (simp only [Nat.sub_sub, Nat.add_assoc] at h ⊢; rw [h, hm]; omega))
    · have i1 : ¬ (3 : Int) < ((S.length - k : Nat) : Int) := by omega
      have hSl := sp_drop9 hSp hk
      have hXd : IntsX A wr (some ⟨gx, ox + k, none⟩) (S.drop k) := ⟨ints_drop9 hX.1 k, fun g o e => by cases e; exact hAg⟩
      have hll : (S.drop k).length = S.length - k := List.length_drop
      go_upto_region 4 with fail
      rw [← hll] at RX
      have hk3 : S.length - k ≤ 3 := by omega
      clear hX i1 h3 xX fX zX
      generalize S.drop k = Sl at hSl hXd hll RX
      generalize ox + k = oy at hXd RX
      generalize c - k = cy at RX
      have hSl3 : Sl.length ≤ 3 := by omega
      have Sl1 : 1 ≤ Sl.length := hSl.lo
      have HSp := Lib.hid hSl
      obtain ⟨N1, N2⟩ := nW_bd hSl
      unfold nW at N1 N2
      obtain ⟨M, hM⟩ : ∃ M, M = prodTo Sl Sl.length := ⟨_, rfl⟩
      rw [← hM] at N1 N2
      have HM := Lib.hid hM
      have HBd := Lib.hid hSl.bd
      have hXl : ∀ g o, (some ⟨gx, oy, none⟩ : Option Addr) = some ⟨g, o, none⟩ → g < Xb := fun g o e => by cases e; exact hgX
      clear hM hSl hSp hk hk3 hll hSc S8 S1
      have hX := hXd
      clear hXd
      have zX := row_lt RX
      have xX0 := cell_of1' RX
      obtain ⟨E, hE⟩ : ∃ z, z = wr.heap.size := ⟨_, rfl⟩
      obtain ⟨u19, hu19⟩ : ∃ z, z = (wr.alloc (.cells #[] 2)).alloc (.cells #[] 2) := ⟨_, rfl⟩
      have hb : Below wr.heap.size wr u19 := by rw [hu19]; go_grown
      have ownS : OwnInts u19 E (.slice (some ⟨E, 0, none⟩) 0 0) [] := by rw [hu19, hE]; exact (own_empty _ _ (Nat.le_refl _) rfl).alloc _
      have ownT : OwnInts u19 E (.slice (some ⟨E + 1, 0, none⟩) 0 0) [] := by rw [hu19]; exact own_empty _ _ (by simp; omega) (by simp; omega)
      have hXE : Xb < E := by rw [hE]; exact zX
      replace RA : u19.heap[A]? = some (.cells #[.slice none 0 0] 26 (0, 0)) := row_g RA (grown_of_below hb none) (by simp)
      replace RX : u19.heap[Xb]? = some (.cells #[.slice (some ⟨gx, oy, none⟩) Sl.length cy] 26 (0, 0)) := row_g RX (grown_of_below hb none) (by simp)
      replace hX := hX.below (B := 0) hb
      replace G := grown_trans G (grown_of_below hb _)
      replace hs := hs.below hb hs.lt
      clear hb
      have HE := Lib.hid hE
      have Hu19 := Lib.hid hu19
      clear hE hu19
      have xX := cell_of1' RX
      have hN := l01N_any (some ⟨gx, oy, none⟩) Sl cy u19 HSp.out.hi HSp.out.bd hX.1
      rw [← HM.out] at hN
      go_wp2_with fail
      rw [← Hu19.out]
      rw [← HE.out]
      refine hN.mono ?_
      rintro e u20 ⟨rfl, hb⟩
      replace RA : u20.heap[A]? = some (.cells #[.slice none 0 0] 26 (0, 0)) := row_g RA (grown_of_below hb none) (by simp)
      replace RX : u20.heap[Xb]? = some (.cells #[.slice (some ⟨gx, oy, none⟩) Sl.length cy] 26 (0, 0)) := row_g RX (grown_of_below hb none) (by simp)
      replace hX := hX.below (B := 0) hb
      replace ownT := ownT.below hb
      replace ownS := ownS.below hb
      replace G := grown_trans G (grown_of_below hb _)
      replace hs := hs.below hb hs.lt
      clear hb
      clear hN xX
      clear xX0 zX
      have xX := cell_of1' RX
      go_wp2_with fail
      go_loopw [7, 8, 9, 29] (fun s7 s8 s9 s29 wr => ∃ (i : Nat) (o : Int) (T : List Int) (gT cT : Nat), s29 = .int .i64 (i : Int) ∧ i ≤ Sl.length ∧ s8 = .int .i64 o ∧ Hid (0 ≤ o ∧ o ≤ 1024) ∧ s7 = .slice (some ⟨gT, 0, none⟩) T.length cT ∧ Hid (T.length = i) ∧ OwnInts wr E (.slice (some ⟨gT, 0, none⟩) T.length cT) T ∧ OwnInts wr E (.slice (some ⟨E, 0, none⟩) 0 0) [] ∧ E ≠ gT ∧ wr.heap[A]? = some (.cells #[.slice none 0 0] 26 (0, 0)) ∧ wr.heap[Xb]? = some (.cells #[.slice (some ⟨gx, oy, none⟩) Sl.length cy] 26 (0, 0)) ∧ IntsX A wr (some ⟨gx, oy, none⟩) Sl ∧ Src wr b a n cap ∧ w.grownBy wr (some b)) (fun _ _ _ s29 _ => Sl.length - (intOf s29).toNat)
      case atStart => exact ⟨0, M, [], E + 1, 0, rfl, Nat.zero_le _, rfl, Lib.hid ⟨by omega, N2⟩, rfl, Lib.hid rfl, ownT, ownS, by omega, RA, RX, hX, hs, G⟩
      case round =>
        clear ownT ownS RA RX hX hs G xX
        obtain ⟨i, o, T, gT, cT, rfl, hi, rfl, Ho, rfl, HT, ownT, ownS, hne, RA, RX, hX, hs, G⟩ := hrel
        have hTi := HT.out
        have xX := cell_of1' RX
        by_cases hlt : i < Sl.length
        · have i1 : (i : Int) < (Sl.length : Int) := by omega
          have hTb : T.length ≤ 3 := by omega
          clear hTi
          obtain ⟨q0, q1⟩ := HBd.out i hlt
          obtain ⟨o0, o1⟩ := Ho.out
          have hxc := ints_at hX.1 rfl hlt
          obtain ⟨q, hq⟩ : ∃ q, q = gi Sl i := ⟨_, rfl⟩
          rw [← hq] at q0 q1 hxc
          have hd0 : 0 ≤ o / q := Int.ediv_nonneg o0 (by omega)
          have hd1 : o / q ≤ 1024 := Int.le_trans (Int.ediv_le_self q o0) o1
          clear hq
          have hzE : E ≤ wr.heap.size := by have := ownT.base_le; omega
          have zS := ownS.base_le
          have zT := ownT.base_le
          obtain ⟨tl, htl⟩ : ∃ tl : Nat, tl = T.length := ⟨_, rfl⟩
          go_wp2_with (at_builtin; refine wpList_append_int_at rfl _ _ rfl E (.slice (some ⟨gT, 0, none⟩) T.length cT) T rfl (ownT.alloc _) wr.heap.size _ rfl (cell_new _ _ _) (by omega) (by simp; omega) ?_; intro v' wz own' hgrow hnew; obtain ⟨g', c', hv', hob'⟩ := own_some own' (by simp); rw [List.length_append, List.length_singleton] at hv'; subst hv')
          have hgn : g' ≠ E ∧ E ≤ g' := by
            refine ⟨fun e => ?_, own'.base_le.1⟩
            rcases hnew with h | h
            · have h2 : g' = gT := by simpa [Value.ownBlock] using h
              exact hne (by omega)
            · have h2 : g' = wr.heap.size + 1 := by simpa [Value.ownBlock] using h
              omega
          have RA' := row_g (row_g RA (World.grownBy_alloc wr _ none) (by simp)) hgrow (fun e => by have := ownBlock_ge5 ownT e.symm; omega)
          have RX' := row_g (row_g RX (World.grownBy_alloc wr _ none) (by simp)) hgrow (fun e => by have := ownBlock_ge5 ownT e.symm; omega)
          have hX' := (hX.below (B := 0) ((Below.refl _ _).alloc (Nat.le_refl _) _)).grownR hgrow (fun g o e e2 => by have h1 := ownBlock_ge5 ownT e2.symm; have h2 := hXl g o e; omega)
          have ownS' := (ownS.alloc _).kept hgrow (.inr (fun e => hne (by simpa [Value.ownBlock] using e)))
          have hs2 : Src wz b a n cap := (hs.alloc _).grownO hgrow (fun g2 e => by have := ownBlock_ge5 ownT e; omega)
          have G' : w.grownBy wz (some b) := grown_over (grown_alloc G _) hgrow (fun g2 e => by have := ownBlock_ge5 ownT e; have := HA.out; omega)
          go_roundw
          case rel => exact ⟨i + 1, o / q, T ++ [o / q], g', c', (by go_num), by omega, rfl, Lib.hid ⟨hd0, hd1⟩, by rw [List.length_append, List.length_singleton], Lib.hid (by rw [List.length_append, List.length_singleton, HT.out]), (by rw [List.length_append, List.length_singleton]; exact own'), ownS', fun e => hgn.1 e.symm, RA', RX', hX', hs2, G'⟩
          case measure => simp [intOf]; omega
        · have i1 : ¬ (i : Int) < (Sl.length : Int) := by omega
          have T1 : 1 ≤ T.length := by omega
          have T3 : T.length ≤ 3 := by omega
          clear hTi
          have hnx := next_any b a n cap hn 4 (by omega) wr hs
          go_wp2_with fail
          refine hnx.mono ?_
          rintro e u31 ⟨x, rfl, x0, x1, x2, hs', hg⟩
          replace RA : u31.heap[A]? = some (.cells #[.slice none 0 0] 26 (0, 0)) := row_g RA hg (by simp; omega)
          replace RX : u31.heap[Xb]? = some (.cells #[.slice (some ⟨gx, oy, none⟩) Sl.length cy] 26 (0, 0)) := row_g RX hg (by simp; omega)
          replace hX := hX.grownR hg (by intro g o e; have := hX.2 g o e; simp; omega)
          replace ownT := ownT.kept hg (.inr (fun e => by have := ownBlock_ge5 ownT e; omega))
          replace ownS := ownS.kept hg (.inr (fun e => by have := ownBlock_ge5 ownS e; omega))
          replace G := grown_trans G hg
          replace hs := hs'
          clear hg hs'
          clear hnx
          clear HT Ho hi i1 hlt xX hSl3 Sl1
          have hx : x < 4 := x2 (by omega)
          obtain ⟨k0, rfl⟩ : ∃ k0 : Nat, x = k0 := ⟨x.toNat, by omega⟩
          clear x0 x1 x2
          go_wp2_with fail
          go_loopw [7, 10] (fun s7 kv wr => ∃ (k : Nat) (T : List Int) (gT cT : Nat), kv = .int .i64 (k : Int) ∧ s7 = .slice (some ⟨gT, 0, none⟩) T.length cT ∧ Hid (1 ≤ T.length ∧ T.length + k ≤ 6) ∧ OwnInts wr E (.slice (some ⟨gT, 0, none⟩) T.length cT) T ∧ OwnInts wr E (.slice (some ⟨E, 0, none⟩) 0 0) [] ∧ E ≠ gT ∧ wr.heap[A]? = some (.cells #[.slice none 0 0] 26 (0, 0)) ∧ wr.heap[Xb]? = some (.cells #[.slice (some ⟨gx, oy, none⟩) Sl.length cy] 26 (0, 0)) ∧ IntsX A wr (some ⟨gx, oy, none⟩) Sl ∧ Src wr b a n cap ∧ w.grownBy wr (some b)) (fun _ kv _ => (intOf kv).toNat)
          case atStart => exact ⟨k0, T, gT, cT, rfl, rfl, Lib.hid (by omega), ownT, ownS, hne, RA, RX, hX, hs, G⟩
          case round =>
            clear ownT ownS hne RA RX hX hs G T1 T3
            obtain ⟨k, T, gT, cT, rfl, rfl, HT, ownT, ownS, hne, RA, RX, hX, hs, G⟩ := hrel
            obtain ⟨T1, T6⟩ := HT.out
            by_cases hkp : 0 < k
            · have i1 : (0 : Int) < (k : Int) := by omega
              have xX := cell_of1' RX
              have hN := l01N_any (some ⟨gx, oy, none⟩) Sl cy wr HSp.out.hi HSp.out.bd hX.1
              rw [← HM.out] at hN
              go_wp2_with fail
              refine hN.mono ?_
              rintro e u42 ⟨rfl, hb⟩
              replace RA : u42.heap[A]? = some (.cells #[.slice none 0 0] 26 (0, 0)) := row_g RA (grown_of_below hb none) (by simp)
              replace RX : u42.heap[Xb]? = some (.cells #[.slice (some ⟨gx, oy, none⟩) Sl.length cy] 26 (0, 0)) := row_g RX (grown_of_below hb none) (by simp)
              replace hX := hX.below (B := 0) hb
              replace ownT := ownT.below hb
              replace ownS := ownS.below hb
              replace G := grown_trans G (grown_of_below hb _)
              replace hs := hs.below hb hs.lt
              clear hb
              clear hN xX
              have hnx := next_any b a n cap hn M (by omega) u42 hs
              go_wp2_with fail
              refine hnx.mono ?_
              rintro e u43 ⟨z, rfl, z0, z1, z2, hs', hg⟩
              replace RA : u43.heap[A]? = some (.cells #[.slice none 0 0] 26 (0, 0)) := row_g RA hg (by simp; omega)
              replace RX : u43.heap[Xb]? = some (.cells #[.slice (some ⟨gx, oy, none⟩) Sl.length cy] 26 (0, 0)) := row_g RX hg (by simp; omega)
              replace hX := hX.grownR hg (by intro g o e; have := hX.2 g o e; simp; omega)
              replace ownT := ownT.kept hg (.inr (fun e => by have := ownBlock_ge5 ownT e; omega))
              replace ownS := ownS.kept hg (.inr (fun e => by have := ownBlock_ge5 ownS e; omega))
              replace G := grown_trans G hg
              replace hs := hs'
              clear hg hs'
              clear hnx
              clear z0 z1 z2
              have hzE : E ≤ u43.heap.size := by have := ownT.base_le; omega
              have zS := ownS.base_le
              have zT := ownT.base_le
              obtain ⟨tl, htl⟩ : ∃ tl : Nat, tl = T.length := ⟨_, rfl⟩
              go_wp2_with (at_builtin; refine wpList_append_int_at rfl _ _ rfl E (.slice (some ⟨gT, 0, none⟩) T.length cT) T rfl (ownT.alloc _) u43.heap.size _ rfl (cell_new _ _ _) (by omega) (by simp; omega) ?_; intro v' wz own' hgrow hnew; obtain ⟨g', c', hv', hob'⟩ := own_some own' (by simp); rw [List.length_append, List.length_singleton] at hv'; subst hv')
              have hgn : g' ≠ E ∧ E ≤ g' := by
                refine ⟨fun e => ?_, own'.base_le.1⟩
                rcases hnew with h | h
                · have h2 : g' = gT := by simpa [Value.ownBlock] using h
                  exact hne (by omega)
                · have h2 : g' = u43.heap.size + 1 := by simpa [Value.ownBlock] using h
                  omega
              have RA' := row_g (row_g RA (World.grownBy_alloc u43 _ none) (by simp)) hgrow (fun e => by have := ownBlock_ge5 ownT e.symm; omega)
              have RX' := row_g (row_g RX (World.grownBy_alloc u43 _ none) (by simp)) hgrow (fun e => by have := ownBlock_ge5 ownT e.symm; omega)
              have hX' := (hX.below (B := 0) ((Below.refl _ _).alloc (Nat.le_refl _) _)).grownR hgrow (fun g o e e2 => by have h1 := ownBlock_ge5 ownT e2.symm; have h2 := hXl g o e; omega)
              have ownS' := (ownS.alloc _).kept hgrow (.inr (fun e => hne (by simpa [Value.ownBlock] using e)))
              have hs2 : Src wz b a n cap := (hs.alloc _).grownO hgrow (fun g2 e => by have := ownBlock_ge5 ownT e; omega)
              have G' : w.grownBy wz (some b) := grown_over (grown_alloc G _) hgrow (fun g2 e => by have := ownBlock_ge5 ownT e; have := HA.out; omega)
              go_roundw
              case rel => exact ⟨k - 1, T ++ [z], g', c', (by rw [show ((k - 1 : Nat) : Int) = (k : Int) - 1 by omega]), by rw [List.length_append, List.length_singleton], Lib.hid (by rw [List.length_append, List.length_singleton]; omega), (by rw [List.length_append, List.length_singleton]; exact own'), ownS', fun e => hgn.1 e.symm, RA', RX', hX', hs2, G'⟩
              case measure => simp [intOf]; omega
            · have i1 : ¬ (0 : Int) < (k : Int) := by omega
              have T7 : T.length ≤ 6 := by omega
              clear HT T6
              have hnx := next_any b a n cap hn 4 (by omega) wr hs
              go_wp2_with fail
              refine hnx.mono ?_
              rintro e u42 ⟨x, rfl, x0, x1, x2, hs', hg⟩
              replace RA : u42.heap[A]? = some (.cells #[.slice none 0 0] 26 (0, 0)) := row_g RA hg (by simp; omega)
              replace RX : u42.heap[Xb]? = some (.cells #[.slice (some ⟨gx, oy, none⟩) Sl.length cy] 26 (0, 0)) := row_g RX hg (by simp; omega)
              replace hX := hX.grownR hg (by intro g o e; have := hX.2 g o e; simp; omega)
              replace ownT := ownT.kept hg (.inr (fun e => by have := ownBlock_ge5 ownT e; omega))
              replace ownS := ownS.kept hg (.inr (fun e => by have := ownBlock_ge5 ownS e; omega))
              replace G := grown_trans G hg
              replace hs := hs'
              clear hg hs'
              clear hnx
              have hx' : x < 4 := x2 (by omega)
              obtain ⟨k1, rfl⟩ : ∃ k0 : Nat, x = k0 := ⟨x.toNat, by omega⟩
              clear x0 x1 x2
              go_wp2_with fail
              go_loopw [6, 11] (fun s6 kv wr => ∃ (k : Nat) (C : List Int) (gS cS : Nat), kv = .int .i64 (k : Int) ∧ s6 = .slice (some ⟨gS, 0, none⟩) C.length cS ∧ Hid (C.length + k ≤ 4) ∧ OwnInts wr E (.slice (some ⟨gT, 0, none⟩) T.length cT) T ∧ OwnInts wr E (.slice (some ⟨gS, 0, none⟩) C.length cS) C ∧ gS ≠ gT ∧ wr.heap[A]? = some (.cells #[.slice none 0 0] 26 (0, 0)) ∧ wr.heap[Xb]? = some (.cells #[.slice (some ⟨gx, oy, none⟩) Sl.length cy] 26 (0, 0)) ∧ IntsX A wr (some ⟨gx, oy, none⟩) Sl ∧ Src wr b a n cap ∧ w.grownBy wr (some b)) (fun _ kv _ => (intOf kv).toNat)
              case atStart => exact ⟨k1, [], E, 0, rfl, rfl, Lib.hid (by simp; omega), ownT, ownS, hne, RA, RX, hX, hs, G⟩
              case round =>
                clear ownT ownS hne RA RX hX hs G
                obtain ⟨k, C, gS, cS, rfl, rfl, HC, ownT, ownS, hne, RA, RX, hX, hs, G⟩ := hrel
                have hC4 := HC.out
                by_cases hkp2 : 0 < k
                · have i2 : (0 : Int) < (k : Int) := by omega
                  have xX := cell_of1' RX
                  have hN := l01N_any (some ⟨gx, oy, none⟩) Sl cy wr HSp.out.hi HSp.out.bd hX.1
                  rw [← HM.out] at hN
                  go_wp2_with fail
                  refine hN.mono ?_
                  rintro e u53 ⟨rfl, hb⟩
                  replace RA : u53.heap[A]? = some (.cells #[.slice none 0 0] 26 (0, 0)) := row_g RA (grown_of_below hb none) (by simp)
                  replace RX : u53.heap[Xb]? = some (.cells #[.slice (some ⟨gx, oy, none⟩) Sl.length cy] 26 (0, 0)) := row_g RX (grown_of_below hb none) (by simp)
                  replace hX := hX.below (B := 0) hb
                  replace ownT := ownT.below hb
                  replace ownS := ownS.below hb
                  replace G := grown_trans G (grown_of_below hb _)
                  replace hs := hs.below hb hs.lt
                  clear hb
                  clear hN xX
                  have hnx := next_any b a n cap hn M (by omega) u53 hs
                  go_wp2_with fail
                  refine hnx.mono ?_
                  rintro e u54 ⟨z, rfl, z0, z1, z2, hs', hg⟩
                  replace RA : u54.heap[A]? = some (.cells #[.slice none 0 0] 26 (0, 0)) := row_g RA hg (by simp; omega)
                  replace RX : u54.heap[Xb]? = some (.cells #[.slice (some ⟨gx, oy, none⟩) Sl.length cy] 26 (0, 0)) := row_g RX hg (by simp; omega)
                  replace hX := hX.grownR hg (by intro g o e; have := hX.2 g o e; simp; omega)
                  replace ownT := ownT.kept hg (.inr (fun e => by have := ownBlock_ge5 ownT e; omega))
                  replace ownS := ownS.kept hg (.inr (fun e => by have := ownBlock_ge5 ownS e; omega))
                  replace G := grown_trans G hg
                  replace hs := hs'
                  clear hg hs'
                  clear hnx
                  clear z0 z1 z2
                  have hc := l01Put_two E gS cS C z u54 (by omega) ownS
                  have hpl := put_len9 C z
                  have zT := ownT.base_le
                  go_wp2_with fail
                  refine hc.mono ?_
                  rintro e u55 ⟨g', c', rfl, hgg, ownS', hb⟩
                  replace RA : u55.heap[A]? = some (.cells #[.slice none 0 0] 26 (0, 0)) := row_g RA (grown_of_below hb none) (by simp)
                  replace RX : u55.heap[Xb]? = some (.cells #[.slice (some ⟨gx, oy, none⟩) Sl.length cy] 26 (0, 0)) := row_g RX (grown_of_below hb none) (by simp)
                  replace hX := hX.below (B := 0) hb
                  replace ownT := ownT.below hb
                  replace G := grown_trans G (grown_of_below hb _)
                  replace hs := hs.below hb hs.lt
                  clear hb
                  clear hc
                  go_wp2_with fail
                  go_roundw
                  case rel => exact ⟨k - 1, putL C z, g', c', (by rw [show ((k - 1 : Nat) : Int) = (k : Int) - 1 by omega]), rfl, Lib.hid (by omega), ownT, ownS', (fun e => by rcases hgg with h | h <;> first | exact hne (by omega) | omega), RA, RX, hX, hs, G⟩
                  case measure => simp [intOf]; omega
                · have i2 : ¬ (0 : Int) < (k : Int) := by omega
                  have C4 : C.length ≤ 4 := by omega
                  clear HC hC4
                  have hnx := next_any b a n cap hn 12 (by omega) wr hs
                  go_wp2_with fail
                  refine hnx.mono ?_
                  rintro e u53 ⟨s, rfl, s0, s1, s2, hs', hg⟩
                  replace RA : u53.heap[A]? = some (.cells #[.slice none 0 0] 26 (0, 0)) := row_g RA hg (by simp; omega)
                  replace RX : u53.heap[Xb]? = some (.cells #[.slice (some ⟨gx, oy, none⟩) Sl.length cy] 26 (0, 0)) := row_g RX hg (by simp; omega)
                  replace hX := hX.grownR hg (by intro g o e; have := hX.2 g o e; simp; omega)
                  replace ownT := ownT.kept hg (.inr (fun e => by have := ownBlock_ge5 ownT e; omega))
                  replace ownS := ownS.kept hg (.inr (fun e => by have := ownBlock_ge5 ownS e; omega))
                  replace G := grown_trans G hg
                  replace hs := hs'
                  clear hg hs'
                  clear hnx
                  clear s0 s1 s2
                  by_cases hs0 : s = 0
                  · have e0 : (s == 0) = true := by simpa using hs0
                    clear hs0
                    have hcap := own_cap ownT
                    have zT := ownT.base_le
                    have hT : IntsX A u53 (if cT = 1 then some ⟨gT, 0, none⟩ else some ⟨gT, 1, none⟩) (T.drop 1) := by
                      by_cases e1 : cT = 1
                      · rw [if_pos e1]; exact ⟨.inl (by rw [List.length_drop]; omega), fun g o e => by cases e; omega⟩
                      · rw [if_neg e1]; exact ⟨own_ints_drop ownT 1, fun g o e => by cases e; omega⟩
                    have hTl0 : (T.drop 1).length = T.length - 1 := List.length_drop
                    have hTc : (T.drop 1).length ≤ cT - 1 := by omega
                    have hTl : (T.drop 1).length ≤ 20 := by omega
                    have i3 : 1 ≤ T.length := T1
                    go_upto_region 24 with fail
                    rw [← hTl0]
                    have hC : IntsX A u53 (some ⟨gS, 0, none⟩) C := ⟨own_ints ownS, fun g o e => by cases e; have := ownS.base_le; omega⟩
                    have xA := cell_of1' RA
                    have fA := frozen_of_row u53 A 0 _ _ RA
                    have zA := row_lt RA
                    have xX := cell_of1' RX
                    have hX2 := hX.set A (.slice (some ⟨gx, oy, none⟩) Sl.length cy) (fun g o e => by cases e; omega)
                    have hC2 := hC.set A (.slice (some ⟨gx, oy, none⟩) Sl.length cy) (fun g o e => by cases e; have := ownS.base_le; omega)
                    have hT2 := hT.set A (.slice (some ⟨gx, oy, none⟩) Sl.length cy) (fun g o e => by have := hT.2 g o e; omega)
                    have hs3 := hs.setO ⟨A, 0, none⟩ (by simp; omega) (.slice (some ⟨gx, oy, none⟩) Sl.length cy)
                    have G3 := grown_set G ⟨A, 0, none⟩ (by simp; have := HA.out; omega) (.slice (some ⟨gx, oy, none⟩) Sl.length cy)
                    go_wp2_with (refine bodyPost_ret (by rw [results_cell_tmp2w rfl]; go_simp; try rfl) rfl ?_; exact ⟨(some ⟨gx, oy, none⟩), Sl, cy, gS, C, cS, (if cT = 1 then some ⟨gT, 0, none⟩ else some ⟨gT, 1, none⟩), (T.drop 1), (cT - 1), (by first | rfl | simp), (by rw [← HA.out]; exact hX2), HSp.out, (by rw [← HA.out]; exact hC2), (by omega), (by rw [← HA.out]; exact hT2), hTc, hTl, hs3, G3⟩)
                  · have e0 : (s == 0) = false := by simpa using hs0
                    clear hs0
                    by_cases hs1 : s = 1
                    · have e1 : (s == 1) = true := by simpa using hs1
                      clear hs1
                      have xX := cell_of1' RX
                      have hN := l01N_any (some ⟨gx, oy, none⟩) Sl cy u53 HSp.out.hi HSp.out.bd hX.1
                      rw [← HM.out] at hN
                      go_wp2_with fail
                      refine hN.mono ?_
                      rintro e u54 ⟨rfl, hb⟩
                      replace RA : u54.heap[A]? = some (.cells #[.slice none 0 0] 26 (0, 0)) := row_g RA (grown_of_below hb none) (by simp)
                      replace RX : u54.heap[Xb]? = some (.cells #[.slice (some ⟨gx, oy, none⟩) Sl.length cy] 26 (0, 0)) := row_g RX (grown_of_below hb none) (by simp)
                      replace hX := hX.below (B := 0) hb
                      replace ownT := ownT.below hb
                      replace ownS := ownS.below hb
                      replace G := grown_trans G (grown_of_below hb _)
                      replace hs := hs.below hb hs.lt
                      clear hb
                      clear hN xX
                      obtain ⟨u55, hu55⟩ : ∃ z, z = u54.alloc (.cells #[.int .i64 (-1), .int .i64 M, .int .i64 0] 2) := ⟨_, rfl⟩
                      have I2 : Ints u55 (some ⟨u54.heap.size, 0, none⟩) [-1, M, 0] := by rw [hu55]; exact ints_new _ [-1, M, 0] _
                      have zs1 := hs.lt
                      have hb : Below u54.heap.size u54 u55 := by rw [hu55]; exact (Below.refl _ _).alloc (Nat.le_refl _) _
                      replace RA : u55.heap[A]? = some (.cells #[.slice none 0 0] 26 (0, 0)) := row_g RA (grown_of_below hb none) (by simp)
                      replace RX : u55.heap[Xb]? = some (.cells #[.slice (some ⟨gx, oy, none⟩) Sl.length cy] 26 (0, 0)) := row_g RX (grown_of_below hb none) (by simp)
                      replace hX := hX.below (B := 0) hb
                      replace ownT := ownT.below hb
                      replace ownS := ownS.below hb
                      replace G := grown_trans G (grown_of_below hb _)
                      replace hs := hs.below hb hs.lt
                      clear hb
                      have hc := pick_n b a n cap hn u54.heap.size _ 3 rfl (by omega) (by omega) (by omega) u55 hs I2
                      have Hu55 := Lib.hid hu55
                      clear hu55 I2
                      go_wp2_with fail
                      rw [← Hu55.out]
                      refine hc.mono ?_
                      rintro e u56 ⟨z, rfl, hz, hs', hg⟩
                      replace RA : u56.heap[A]? = some (.cells #[.slice none 0 0] 26 (0, 0)) := row_g RA hg (by simp; omega)
                      replace RX : u56.heap[Xb]? = some (.cells #[.slice (some ⟨gx, oy, none⟩) Sl.length cy] 26 (0, 0)) := row_g RX hg (by simp; omega)
                      replace hX := hX.grownR hg (by intro g o e; have := hX.2 g o e; simp; omega)
                      replace ownT := ownT.kept hg (.inr (fun e => by have := ownBlock_ge5 ownT e; omega))
                      replace ownS := ownS.kept hg (.inr (fun e => by have := ownBlock_ge5 ownS e; omega))
                      replace G := grown_trans G hg
                      replace hs := hs'
                      clear hg hs'
                      clear hc hz zs1
                      have hzE : E ≤ u56.heap.size := by have := ownT.base_le; omega
                      have zS := ownS.base_le
                      have zT := ownT.base_le
                      obtain ⟨tl, htl⟩ : ∃ tl : Nat, tl = T.length := ⟨_, rfl⟩
                      go_upto_region 24 with (at_builtin; refine wpList_append_int_at rfl _ _ rfl E (.slice (some ⟨gT, 0, none⟩) T.length cT) T rfl (ownT.alloc _) u56.heap.size _ rfl (cell_new _ _ _) (by omega) (by simp; omega) ?_; intro v' wz own' hgrow hnew; obtain ⟨g', c', hv', hob'⟩ := own_some own' (by simp); rw [List.length_append, List.length_singleton] at hv'; subst hv')
                      have hgn : g' ≠ gS ∧ E ≤ g' := by
                        refine ⟨fun e => ?_, own'.base_le.1⟩
                        rcases hnew with h | h
                        · have h2 : g' = gT := by simpa [Value.ownBlock] using h
                          exact hne (by omega)
                        · have h2 : g' = u56.heap.size + 1 := by simpa [Value.ownBlock] using h
                          omega
                      have RA' := row_g (row_g RA (World.grownBy_alloc u56 _ none) (by simp)) hgrow (fun e => by have := ownBlock_ge5 ownT e.symm; omega)
                      have RX' := row_g (row_g RX (World.grownBy_alloc u56 _ none) (by simp)) hgrow (fun e => by have := ownBlock_ge5 ownT e.symm; omega)
                      have hX' := (hX.below (B := 0) ((Below.refl _ _).alloc (Nat.le_refl _) _)).grownR hgrow (fun g o e e2 => by have h1 := ownBlock_ge5 ownT e2.symm; have h2 := hXl g o e; omega)
                      have ownS' := (ownS.alloc _).kept hgrow (.inr (fun e => hne (by simpa [Value.ownBlock] using e)))
                      have hs2 : Src wz b a n cap := (hs.alloc _).grownO hgrow (fun g2 e => by have := ownBlock_ge5 ownT e; omega)
                      have G' : w.grownBy wz (some b) := grown_over (grown_alloc G _) hgrow (fun g2 e => by have := ownBlock_ge5 ownT e; have := HA.out; omega)
                      clear ownT ownS RA RX hX hs G
                      have ownS := ownS'
                      have RA := RA'
                      have RX := RX'
                      have hX := hX'
                      have hs := hs2
                      have G := G'
                      have hcap := own_cap own'
                      have zT2 := own'.base_le
                      have hT : IntsX A wz (some ⟨g', 0, none⟩) (T ++ [z]) := ⟨own_ints own', fun g o e => by cases e; omega⟩
                      have hTc : (T ++ [z]).length ≤ c' := by rw [List.length_append, List.length_singleton]; exact hcap.1
                      have hTl : (T ++ [z]).length ≤ 20 := by rw [List.length_append, List.length_singleton]; omega
                      have hC : IntsX A wz (some ⟨gS, 0, none⟩) C := ⟨own_ints ownS, fun g o e => by cases e; have := ownS.base_le; omega⟩
                      have xA := cell_of1' RA
                      have fA := frozen_of_row wz A 0 _ _ RA
                      have zA := row_lt RA
                      have xX := cell_of1' RX
                      have hX2 := hX.set A (.slice (some ⟨gx, oy, none⟩) Sl.length cy) (fun g o e => by cases e; omega)
                      have hC2 := hC.set A (.slice (some ⟨gx, oy, none⟩) Sl.length cy) (fun g o e => by cases e; have := ownS.base_le; omega)
                      have hT2 := hT.set A (.slice (some ⟨gx, oy, none⟩) Sl.length cy) (fun g o e => by have := hT.2 g o e; omega)
                      have hs3 := hs.setO ⟨A, 0, none⟩ (by simp; omega) (.slice (some ⟨gx, oy, none⟩) Sl.length cy)
                      have G3 := grown_set G ⟨A, 0, none⟩ (by simp; have := HA.out; omega) (.slice (some ⟨gx, oy, none⟩) Sl.length cy)
                      go_wp2_with (refine bodyPost_ret (by rw [results_cell_tmp2w rfl]; go_simp; try rfl) rfl ?_; exact ⟨(some ⟨gx, oy, none⟩), Sl, cy, gS, C, cS, (some ⟨g', 0, none⟩), (T ++ [z]), c', (by first | rfl | simp), (by rw [← HA.out]; exact hX2), HSp.out, (by rw [← HA.out]; exact hC2), (by omega), (by rw [← HA.out]; exact hT2), hTc, hTl, hs3, G3⟩)
                    · have e1 : (s == 1) = false := by simpa using hs1
                      clear hs1
                      have hcap := own_cap ownT
                      have zT := ownT.base_le
                      have hT : IntsX A u53 (some ⟨gT, 0, none⟩) T := ⟨own_ints ownT, fun g o e => by cases e; omega⟩
                      have hTc : T.length ≤ cT := hcap.1
                      have hTl : T.length ≤ 20 := by omega
                      go_upto_region 24 with fail
                      have hC : IntsX A u53 (some ⟨gS, 0, none⟩) C := ⟨own_ints ownS, fun g o e => by cases e; have := ownS.base_le; omega⟩
                      have xA := cell_of1' RA
                      have fA := frozen_of_row u53 A 0 _ _ RA
                      have zA := row_lt RA
                      have xX := cell_of1' RX
                      have hX2 := hX.set A (.slice (some ⟨gx, oy, none⟩) Sl.length cy) (fun g o e => by cases e; omega)
                      have hC2 := hC.set A (.slice (some ⟨gx, oy, none⟩) Sl.length cy) (fun g o e => by cases e; have := ownS.base_le; omega)
                      have hT2 := hT.set A (.slice (some ⟨gx, oy, none⟩) Sl.length cy) (fun g o e => by have := hT.2 g o e; omega)
                      have hs3 := hs.setO ⟨A, 0, none⟩ (by simp; omega) (.slice (some ⟨gx, oy, none⟩) Sl.length cy)
                      have G3 := grown_set G ⟨A, 0, none⟩ (by simp; have := HA.out; omega) (.slice (some ⟨gx, oy, none⟩) Sl.length cy)
                      go_wp2_with (refine bodyPost_ret (by rw [results_cell_tmp2w rfl]; go_simp; try rfl) rfl ?_; exact ⟨(some ⟨gx, oy, none⟩), Sl, cy, gS, C, cS, (some ⟨gT, 0, none⟩), T, cT, (by first | rfl | simp), (by rw [← HA.out]; exact hX2), HSp.out, (by rw [← HA.out]; exact hC2), (by omega), (by rw [← HA.out]; exact hT2), hTc, hTl, hs3, G3⟩)

end Go.Proofs.Ytamebfbddoeflaa
