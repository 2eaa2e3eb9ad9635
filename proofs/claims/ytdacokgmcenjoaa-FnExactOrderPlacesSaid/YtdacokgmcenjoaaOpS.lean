/-
  The contracts of the model's l03Places, and of the model of OrderPlaces. By an AI agent.
-/
import Derived.Test.YtdacokgmcenjoaaOrdS
import Derived.Test.YtdacokgmcenjoaaOpI
import Derived.Test.YtdacokgmcenjoaaPut
import Derived.Test.YtdacokgmcenjoaaMake
import Derived.Test.YtdacokgmcenjoaaDigits
import Derived.StillTailTactics
import Derived.Deep.CutRange
namespace Go.Proofs.Ytdacokgmcenjoaa
open Go.RowKit Go.Shelf Cv
set_option linter.unusedVariables false
set_option linter.unusedSimpArgs false
set_option maxRecDepth 100000

theorem l01Word_n (ao : Option Addr) (S : List Int) (cap K : Nat) (hK : K = S.length) (hl : S.length ≤ 8) (hbd : ∀ i, i < S.length → 2 ≤ gi S i ∧ gi S i ≤ 4) (ad : Option Addr) (D : List Int) (n capd : Nat) (hn : n = S.length) (hD : Dg S D) (w : World) (hS : Ints w ao S) (hDm : Ints w ad D) :
    Calls Try.prog 49 #[.agg #[.slice ao K cap], .slice ad n capd] w fun e w' => e = .returned (.int .i64 (wordTo S D S.length)) ∧ Below w.heap.size w w' := by
  subst hK; exact l01Word_any ao S cap hl hbd ad D n capd hn hD w hS hDm

theorem row_other {w : World} {b : Nat} {o : Obj} {a : Addr} {u : Value} (h : w.heap[b]? = some o) (hne : b ≠ a.block) : (w.setCell a u).heap[b]? = some o := by
  rw [Below.heap_setCell _ _ _ _ hne]; exact h

set_option maxHeartbeats 4000000 in
theorem l03Places_any (as0 : Addr) (S : List Int) (cap : Nat) (hSp : Sp S) (ac : Addr) (C : List Int) (capc : Nat) (hlC : C.length ≤ 1024) (hC9 : ∀ i, i < C.length → 0 ≤ gi C i ∧ gi C i ≤ 9223372036854775807) (ap : Addr) (p : List Int) (capp : Nat) (ho : isOrd p S.length = true) (w : World) (hS : Ints w (some as0) S) (hC : Ints w (some ac) C) (hp : Ints w (some ap) p) :
    Calls Try.prog 41 #[.agg #[.slice (some as0) S.length cap], .slice (some ac) C.length capc, .slice (some ap) p.length capp] w fun e w' => ∃ m vs v, e = .returned (.tuple #[.agg #[vs], v]) ∧ w.heap.size ≤ m ∧ RowIn vs w.heap.size m ∧ OwnInts w' w.heap.size vs (plcD p S) ∧ OwnInts w' m v (putTo [] (fun i => ordW S p (gi C i)) C.length) ∧ m ≤ w'.heap.size ∧ Below w.heap.size w w' := by
  obtain ⟨i0, hi, hz0, hz1, hz2⟩ := info_parts infoI64
  obtain ⟨W0, hW0, cS, rR, z0, B0⟩ := box2r w (.slice (some as0) S.length cap) (.slice none 0 0) 28
  have HW0 := Lib.hid hW0
  have hS1 := hSp.lo
  have hS8 := hSp.hi
  have HSp := Lib.hid hSp
  have HC9 := Lib.hid hC9
  have HO := Lib.hid ho
  obtain ⟨o1, o2, o3, o4⟩ := ord_at ho
  have hpl : p.length = S.length := by omega
  have HP := Lib.hid o2
  have HT := Lib.hid (fun L k => plcTo_len p L k)
  obtain ⟨n, hn⟩ : ∃ n, n = p.length := ⟨_, rfl⟩
  have HNP := Lib.hid hn
  have HNS : Hid (n = S.length) := Lib.hid (by omega)
  have n1 : 1 ≤ n := by omega
  have n8 : n ≤ 8 := by omega
  rw [← hn] at HP ⊢
  rw [← HNS.out] at cS hW0 ⊢
  have HW0 := Lib.hid hW0
  clear hW0 hSp hC9 ho o1 o2 o3 o4 hpl hn
  go_enter Try.func41, Try.ntmps41
  go_wp2_with (at_make; refine wpList_make_full _ rfl _ _ 22 rfl (w.heap.size + 2) 2 i0 (.int .i64 0) 1 Try.underlying22 hi hz0 hz1 .i64 .i64 (n : Int) (n : Int) n rfl rfl rfl rfl (by rw [hz2]; omega) (by unfold maxLen; omega) (by simp) ?_; rw [← HW0.out]; intro w1 hown hgrow)
  have z0 : W0.heap.size = w.heap.size + 2 := by rw [HW0.out]; simp
  have hb1 := below_grown0 hgrow
  have cS1 := kept_cell hb1 cS (by omega)
  have rR1 := row_block rR hb1 (by omega)
  have B1 := B0.trans (hb1.mono B0.size)
  have l1 : w.heap.size + 2 < w1.heap.size := by
    have h := own_made hown
    have := h.base_le.2; omega
  replace hown := own_made hown
  rw [z0] at hown
  obtain ⟨W2, hW2⟩ : ∃ W2, W2 = w1.alloc (.cells #[.slice (some ⟨w.heap.size + 2, 0, none⟩) n n] 28) := ⟨_, rfl⟩
  have hb2 : Below w1.heap.size w1 W2 := by rw [hW2]; exact (Below.refl _ _).alloc (Nat.le_refl _) _
  have x2 : W2.cell? ⟨w1.heap.size, 0, none⟩ = some (.slice (some ⟨w.heap.size + 2, 0, none⟩) n n) := by rw [hW2]; exact cell_new _ _ _
  have l2 : w1.heap.size < W2.heap.size := by rw [hW2]; exact lt_alloc _ _
  have cS2 := kept_cell hb2 cS1 (by omega)
  have rR2 := row_block rR1 hb2 (by omega)
  have own2 := hown.below hb2
  have B2 := B1.trans (hb2.mono B1.size)
  have HT0 : Hid (List.replicate n 0 = plcTo p S 0) := Lib.hid (by rw [plcTo, HNS.out])
  rw [HT0.out] at own2
  obtain ⟨xb, hxb⟩ : ∃ xb, xb = w1.heap.size := ⟨_, rfl⟩
  try rw [z0]
  rw [← hW2]
  rw [← hxb] at x2 l2 l1 ⊢
  clear hgrow hb1 hb2 hown cS cS1 rR rR1 B0 B1 hW2 z0 hxb
  go_loopw [21] (fun i wr => ∃ k : Nat, k ≤ n ∧ i = .int .i64 k ∧ OwnInts wr (w.heap.size + 2) (.slice (some ⟨w.heap.size + 2, 0, none⟩) n n) (plcTo p S k) ∧ wr.cell? ⟨w.heap.size, 0, none⟩ = some (.slice (some as0) n cap) ∧ wr.cell? ⟨xb, 0, none⟩ = some (.slice (some ⟨w.heap.size + 2, 0, none⟩) n n) ∧ wr.heap[w.heap.size + 1]? = some (.cells #[.slice none 0 0] 28 (0, 0)) ∧ Below w.heap.size w wr ∧ xb < wr.heap.size) (fun i _ => n - (intOf i).toNat)
  case atStart => exact ⟨0, Nat.zero_le _, rfl, own2, cS2, x2, rR2, B2, l2⟩
  case round =>
    clear own2 cS2 x2 rR2 B2 l2
    obtain ⟨k, hk, rfl, own, cS, xc, rR, B, lx⟩ := hrel
    by_cases hlt : k < n
    · obtain ⟨bp, op, hap, hbp, hcp⟩ := hp.at (show k < p.length by rw [← HNP.out]; exact hlt)
      obtain ⟨bs, os, has, hbs, hcs⟩ := hS.at (show k < S.length by rw [← HNS.out]; exact hlt)
      obtain rfl := Option.some.inj hap
      obtain rfl := Option.some.inj has
      have hpk := kept_cell B (hcp k (by rw [← HNP.out]; exact hlt)) hbp
      have hsk := kept_cell B (hcs k (by rw [← HNS.out]; exact hlt)) hbs
      obtain ⟨p1, p2⟩ := HP.out k hlt
      obtain ⟨D, hD⟩ : ∃ D : Nat, gi p k = (D : Int) := ⟨(gi p k).toNat, by omega⟩
      rw [hD] at hpk p1 p2
      have hDl : D < n := by omega
      have D0 : (0 : Int) ≤ (D : Int) := by omega
      have D1 : (D : Int) < (n : Int) := by omega
      have kI : (k : Int) < (n : Int) := by omega
      have k0 : (0 : Int) ≤ (k : Int) := by omega
      have hf := own.free D
      have hcD := own.cell (k := D) (by rw [HT.out, ← HNS.out]; exact hDl)
      have HST : Hid (plcTo p S (k + 1) = (plcTo p S k).set D (gi S k)) := Lib.hid (by rw [plcTo, hD]; rfl)
      have hgb := own.base_le
      obtain ⟨y, hy⟩ : ∃ y, y = gi S k := ⟨_, rfl⟩
      rw [← hy] at HST hsk
      have hxg : xb ≠ w.heap.size + 2 := by omega
      clear hcp hcs hD hap has hy
      go_wp2_with fail
      go_still_tail 12, (by kernel_rfl)
      change wpList _ _ _ _ _ wr.drew
      go_wp2
      go_roundw
      case rel => exact ⟨k + 1, by omega, by go_num, by rw [HST.out]; exact own.drew.stored D y, cell_set_other (w := wr.drew) cS (by simp), cell_set_other (w := wr.drew) xc (by simpa using hxg), row_other (w := wr.drew) rR (by simp), B.drew.setCell (by simp) _, by simpa using lx⟩
      case measure => simp [intOf]; omega
    · have ek : k = n := by omega
      subst ek
      have kI : ¬ (k : Int) < (k : Int) := by omega
      have HPD : Hid (plcTo p S k = plcD p S) := Lib.hid (by unfold plcD; rw [← HNS.out])
      rw [HPD.out] at own
      clear hlt HT0
      obtain ⟨w3, hw3⟩ : ∃ w3, w3 = wr := ⟨_, rfl⟩
      subst hw3
      obtain ⟨fW, hfW⟩ : ∃ fW : Nat → Int, fW = fun i => ordW S p (gi C i) := ⟨_, rfl⟩
      have HFE := Lib.hid hfW
      have HFW := Lib.hid (fun i => congrFun hfW i)
      have HPT := Lib.hid (fun k => putTo_len [] fW k)
      have oo := own_empty w3 w3.heap.size (Nat.le_refl _) rfl
      have b4 : Below w3.heap.size w3 (w3.alloc (.cells #[] 2)) := (Below.refl _ _).alloc (Nat.le_refl _) _
      have qg := own.base_le
      obtain ⟨n, hnk⟩ : ∃ n, n = k := ⟨_, rfl⟩
      subst hnk
      clear hfW
      go_wp2_with fail
      go_loopw [10, 40] (fun v' i wr => ∃ k g c : Nat, k ≤ C.length ∧ i = .int .i64 k ∧ v' = .slice (some ⟨g, 0, none⟩) (putTo [] fW k).length c ∧ OwnInts wr w3.heap.size (.slice (some ⟨g, 0, none⟩) (putTo [] fW k).length c) (putTo [] fW k) ∧ Below w3.heap.size w3 wr) (fun _ i _ => C.length - (intOf i).toNat)
      case atStart => exact ⟨0, w3.heap.size, 0, Nat.zero_le _, rfl, rfl, oo, b4⟩
      case round =>
        clear oo b4
        obtain ⟨k, g, c, hk, rfl, rfl, oL, Bw⟩ := hrel
        obtain ⟨wo, hwo⟩ : ∃ wo, wo = wr := ⟨_, rfl⟩
        subst hwo
        have Br := B.trans (Bw.mono B.size)
        have sr := Bw.size
        have cSr := kept_cell Bw cS (by omega)
        have xcr := kept_cell Bw xc lx
        have hLl := HPT.out k
        have hPS : Hid (putTo [] fW (k + 1) = putL (putTo [] fW k) (fW k)) := Lib.hid rfl
        obtain ⟨L, hL⟩ : ∃ L, L = putTo [] fW k := ⟨_, rfl⟩
        rw [← hL] at oL hLl hPS ⊢
        have HL := Lib.hid hL
        obtain ⟨Pn, hPn⟩ : ∃ Pn, Pn = L.length := ⟨_, rfl⟩
        rw [← hPn] at oL hLl ⊢
        have HPn := Lib.hid hPn
        simp only [List.length_nil, Nat.zero_add] at hLl
        clear hL hPn
        by_cases hlt : k < C.length
        · obtain ⟨bc, oc, hac, hbc, hcc⟩ := hC.at hlt
          obtain rfl := Option.some.inj hac
          have hck0 := kept_cell Br (hcc k hlt) hbc
          have lac : bc < wo.heap.size := lt_of_below Br hbc
          obtain ⟨x1, x2⟩ := HC9.out k hlt
          have HWk : Hid (fW k = wordTo (plcD p S) (plcD p (digs S (gi C k))) (plcD p S).length) := Lib.hid (HFW.out k)
          obtain ⟨x, hx⟩ : ∃ x, x = gi C k := ⟨_, rfl⟩
          rw [← hx] at hck0 x1 x2 HWk
          have hck : wo.cell? ⟨bc, oc + k, none⟩ = some (.int .i64 x) := hck0
          have HDG : Hid (∀ W, Ints W (some as0) S → Calls Try.prog 48 #[.agg #[.slice (some as0) n cap], .int .i64 x] W fun e w' => ∃ g, e = .returned (.slice (some ⟨g, 0, none⟩) n n) ∧ OwnInts w' W.heap.size (.slice (some ⟨g, 0, none⟩) n n) (digs S x) ∧ Below W.heap.size W w') := Lib.hid fun W hI => by
            have h := l01Digits_any (some as0) S cap hS8 HSp.out.bd x x1 x2 W hI
            rw [← HNS.out] at h
            exact h
          have kI : (k : Int) < (C.length : Int) := by omega
          have k0 : (0 : Int) ≤ (k : Int) := by omega
          clear hcc hx hck0 hac
          go_wp2_with fail
          go_cut [12, 13] from 43 to 51 (fun sx sy wx => ∃ gd gm : Nat, sx = .slice (some ⟨gd, 0, none⟩) n n ∧ sy = .slice (some ⟨gm, 0, none⟩) n n ∧ OwnInts wx wo.heap.size (.slice (some ⟨gd, 0, none⟩) n n) (digs S x) ∧ OwnInts wx wo.heap.size (.slice (some ⟨gm, 0, none⟩) n n) (List.replicate n 0) ∧ gd ≠ gm ∧ Below wo.heap.size wo wx)
          case first =>
            refine wp_region_held_drew (S := fun w' => w'.cell? ⟨w.heap.size, 0, none⟩ = some (.slice (some as0) n cap) ∧ w'.cell? ⟨bc, oc + k, none⟩ = some (.int .i64 x)) (by kernel_rfl) ⟨cSr, hck⟩ (fun hHeld => ?_)
            refine wpAnyH_take (i := 0) (v := ?_) rfl (by kernel_rfl) (by kernel_rfl) (by kernel_rfl) (fun _ _ _ h => h) (Or.inl ⟨by rfl, ?_⟩) (by assumption) ?_
            rotate_left
            · (intro w hSw; obtain ⟨hSa, hSb⟩ := hSw; (try dsimp only at hSa hSb); go_simp; try (with_reducible rfl))
            (try simp only [Act.put, List.setIfInBounds_toArray, List.set_cons_zero, List.set_cons_succ])
            refine wpAnyH_take (i := 1) (v := ?_) rfl (by kernel_rfl) (by kernel_rfl) (by kernel_rfl) (fun _ _ _ h => h) (Or.inl ⟨by rfl, ?_⟩) (by assumption) ?_
            rotate_left
            · (intro w hSw; obtain ⟨hSa, hSb⟩ := hSw; (try dsimp only at hSa hSb); go_simp; try (with_reducible rfl))
            (try simp only [Act.put, List.setIfInBounds_toArray, List.set_cons_zero, List.set_cons_succ])
            refine wpAnyH_take (i := 2) (v := ?_) rfl (by kernel_rfl) (by kernel_rfl) (by kernel_rfl) (fun _ _ _ h => h) (Or.inl ⟨by rfl, ?_⟩) (by assumption) ?_
            rotate_left
            · (intro w hSw; obtain ⟨hSa, hSb⟩ := hSw; (try dsimp only at hSa hSb); go_simp; try (with_reducible rfl))
            (try simp only [Act.put, List.setIfInBounds_toArray, List.set_cons_zero, List.set_cons_succ])
            refine wpAnyH_take (i := 3) (v := ?_) rfl (by kernel_rfl) (by kernel_rfl) (by kernel_rfl) (fun _ _ _ h => h) (Or.inl ⟨by rfl, ?_⟩) (by assumption) ?_
            rotate_left
            · (intro w hSw; obtain ⟨hSa, hSb⟩ := hSw; (try dsimp only at hSa hSb); go_simp; try (with_reducible rfl))
            (try simp only [Act.put, List.setIfInBounds_toArray, List.set_cons_zero, List.set_cons_succ])
            refine wpAnyH_take (i := 4) (v := ?_) rfl (by kernel_rfl) (by kernel_rfl) (by kernel_rfl) (fun _ _ _ h => h) (Or.inl ⟨by rfl, ?_⟩) (by assumption) ?_
            rotate_left
            · (intro w hSw; obtain ⟨hSa, hSb⟩ := hSw; (try dsimp only at hSa hSb); go_simp; try (with_reducible rfl))
            (try simp only [Act.put, List.setIfInBounds_toArray, List.set_cons_zero, List.set_cons_succ])
            refine wpAnyH_take (i := 6) (v := ?_) rfl (by kernel_rfl) (by kernel_rfl) (by kernel_rfl) (fun _ _ _ h => h) (Or.inl ⟨by rfl, ?_⟩) (by assumption) ?_
            rotate_left
            · (intro w hSw; obtain ⟨hSa, hSb⟩ := hSw; (try dsimp only at hSa hSb); go_simp; try (with_reducible rfl))
            (try simp only [Act.put, List.setIfInBounds_toArray, List.set_cons_zero, List.set_cons_succ])
            refine wpAnyH_take (i := 7) (v := ?_) rfl (by kernel_rfl) (by kernel_rfl) (by kernel_rfl) (fun _ _ _ h => h) (Or.inl ⟨by rfl, ?_⟩) (by assumption) ?_
            rotate_left
            · (intro w hSw; obtain ⟨hSa, hSb⟩ := hSw; (try dsimp only at hSa hSb); go_simp; try (with_reducible rfl))
            (try simp only [Act.put, List.setIfInBounds_toArray, List.set_cons_zero, List.set_cons_succ])
            refine wpAnyH_ready (rs := [5, 8]) (by kernel_rfl) (by simp) ?_
            refine AllReadyH.cons rfl (fun K hK => ?_) ?_
            · go_simp
              have hdg := HDG.out wo.drew (hS.below Br.drew)
              refine hdg.mono ?_
              rintro e w4 ⟨gd, rfl, od, hb4'⟩
              have hb4 : Below wo.heap.size wo w4 := (Below.refl _ wo).drew.trans hb4'
              have k1 := kept_cell hb4 cSr (by omega)
              have k2 := kept_cell hb4 hck lac
              have qd := od.base_le
              have s4 := hb4.size
              refine hK.out _ _ (⟨k1, k2⟩) (fun hHeld => ?_)
              clear hK K
              (try simp only [Act.put, List.setIfInBounds_toArray, List.set_cons_zero, List.set_cons_succ])
              refine wpAnyH_take (i := 9) (v := ?_) rfl (by kernel_rfl) (by kernel_rfl) (by kernel_rfl) (fun _ _ _ h => h) (Or.inl ⟨by rfl, ?_⟩) (by assumption) ?_
              rotate_left
              · (intro w hSw; obtain ⟨hSa, hSb⟩ := hSw; (try dsimp only at hSa hSb); go_simp; try (with_reducible rfl))
              (try simp only [Act.put, List.setIfInBounds_toArray, List.set_cons_zero, List.set_cons_succ])
              refine wpAnyH_ready (rs := [8]) (by kernel_rfl) (by simp) ?_
              refine ready_make (i := 8) (o := { dst := some 51, op := Op.makeSlice 22 (Operand.tmp 50) (Operand.tmp 50), type := 22, pos := "l03_sums.go:130", after := #[{ on := 7, ground := Ground.data }, { on := 7, ground := Ground.data }], guard := none }) (Operand.tmp 50) rfl (by kernel_rfl) rfl wo.heap.size n (n : Int) rfl rfl (by omega) hb4.size ?_
              intro w5 gm hgm om hb5
              refine ⟨⟨kept_cell hb5 k1 (by omega), kept_cell hb5 k2 (by omega)⟩, fun hHeld => ?_⟩
              (try simp only [Act.put, List.setIfInBounds_toArray, List.set_cons_zero, List.set_cons_succ])
              refine wpAnyH_take (i := 10) (v := ?_) rfl (by kernel_rfl) (by kernel_rfl) (by kernel_rfl) (fun _ _ _ h => h) (Or.inl ⟨by rfl, ?_⟩) (by assumption) ?_
              rotate_left
              · (intro w hSw; obtain ⟨hSa, hSb⟩ := hSw; (try dsimp only at hSa hSb); go_simp; try (with_reducible rfl))
              (try simp only [Act.put, List.setIfInBounds_toArray, List.set_cons_zero, List.set_cons_succ])
              refine wpAnyH_done (by kernel_rfl) ?_ _
              simp only [List.getElem_toArray, List.getElem_cons_succ, List.getElem_cons_zero, Act.put, List.setIfInBounds_toArray, List.set_cons_zero, List.set_cons_succ]
              go_wp2_with fail
              go_meet
              exact ⟨gd, gm, rfl, rfl, od.below hb5, om, by omega, hb4.trans (hb5.mono s4)⟩
            refine ready_make (i := 8) (o := { dst := some 51, op := Op.makeSlice 22 (Operand.tmp 50) (Operand.tmp 50), type := 22, pos := "l03_sums.go:130", after := #[{ on := 7, ground := Ground.data }, { on := 7, ground := Ground.data }], guard := none }) (Operand.tmp 50) rfl (by kernel_rfl) rfl wo.heap.size n (n : Int) rfl rfl (by omega) (Nat.le_refl _) ?_
            intro w4 gm hgm om hb4'
            have hb4 : Below wo.heap.size wo w4 := (Below.refl _ wo).drew.trans hb4'
            have k1 := kept_cell hb4 cSr (by omega)
            have k2 := kept_cell hb4 hck lac
            have qm := om.base_le
            have s4 := hb4.size
            have B4 := Br.trans (hb4.mono Br.size)
            refine ⟨⟨k1, k2⟩, fun hHeld => ?_⟩
            (try simp only [Act.put, List.setIfInBounds_toArray, List.set_cons_zero, List.set_cons_succ])
            refine wpAnyH_ready (rs := [5]) (by kernel_rfl) (by simp) ?_
            refine AllReadyH.cons rfl (fun K hK => ?_) AllReadyH.nil
            go_simp
            have hdg := HDG.out w4 (hS.below B4)
            refine hdg.mono ?_
            rintro e w5 ⟨gd, rfl, od, hb5⟩
            have qd := od.base_le
            refine hK.out _ _ (⟨kept_cell hb5 k1 (by omega), kept_cell hb5 k2 (by omega)⟩) (fun hHeld => ?_)
            clear hK K
            (try simp only [Act.put, List.setIfInBounds_toArray, List.set_cons_zero, List.set_cons_succ])
            refine wpAnyH_take (i := 9) (v := ?_) rfl (by kernel_rfl) (by kernel_rfl) (by kernel_rfl) (fun _ _ _ h => h) (Or.inl ⟨by rfl, ?_⟩) (by assumption) ?_
            rotate_left
            · (intro w hSw; obtain ⟨hSa, hSb⟩ := hSw; (try dsimp only at hSa hSb); go_simp; try (with_reducible rfl))
            (try simp only [Act.put, List.setIfInBounds_toArray, List.set_cons_zero, List.set_cons_succ])
            refine wpAnyH_take (i := 10) (v := ?_) rfl (by kernel_rfl) (by kernel_rfl) (by kernel_rfl) (fun _ _ _ h => h) (Or.inl ⟨by rfl, ?_⟩) (by assumption) ?_
            rotate_left
            · (intro w hSw; obtain ⟨hSa, hSb⟩ := hSw; (try dsimp only at hSa hSb); go_simp; try (with_reducible rfl))
            (try simp only [Act.put, List.setIfInBounds_toArray, List.set_cons_zero, List.set_cons_succ])
            refine wpAnyH_done (by kernel_rfl) ?_ _
            simp only [List.getElem_toArray, List.getElem_cons_succ, List.getElem_cons_zero, Act.put, List.setIfInBounds_toArray, List.set_cons_zero, List.set_cons_succ]
            go_wp2_with fail
            go_meet
            exact ⟨gd, gm, rfl, rfl, od.rebase s4, om.below hb5, by omega, hb4.trans (hb5.mono s4)⟩
          case rest =>
            obtain ⟨gd, gm, rfl, rfl, od, om, hne, hbx⟩ := hcut
            obtain ⟨w4, hw4⟩ : ∃ w4, w4 = wc := ⟨_, rfl⟩
            subst hw4
            replace hbx : Below wo.heap.size wo w4 := hbx
            have HT0 : Hid (List.replicate n 0 = plcTo p (digs S x) 0) := Lib.hid (by rw [plcTo, digs_length, ← HNS.out])
            rw [HT0.out] at om
            have HTL : Hid (∀ i, (plcTo p (digs S x) i).length = n) := Lib.hid fun i => by rw [HT.out, digs_length, ← HNS.out]
            have oL0 := oL
            have sx := hbx.size
            clear oL cSr hck xcr HDG
            go_wp2_with fail
            go_loopw [54] (fun i wi => ∃ j : Nat, j ≤ n ∧ i = .int .i64 j ∧ OwnInts wi wo.heap.size (.slice (some ⟨gm, 0, none⟩) n n) (plcTo p (digs S x) j) ∧ OwnInts wi wo.heap.size (.slice (some ⟨gd, 0, none⟩) n n) (digs S x) ∧ Below wo.heap.size wo wi) (fun i _ => n - (intOf i).toNat)
            case atStart => exact ⟨0, Nat.zero_le _, rfl, om, od, hbx⟩
            case round =>
              clear om od hbx sx
              obtain ⟨j, hj, rfl, om, od, hbx⟩ := hrel
              have Bi := Br.trans (hbx.mono Br.size)
              have B3i := Bw.trans (hbx.mono sr)
              have six := hbx.size
              have qm := om.base_le
              by_cases hlj : j < n
              · obtain ⟨bp, op, hap, hbp, hcp⟩ := hp.at (show j < p.length by rw [← HNP.out]; exact hlj)
                obtain rfl := Option.some.inj hap
                have hpk := kept_cell Bi (hcp j (by rw [← HNP.out]; exact hlj)) hbp
                have hdk := od.cell (k := j) (by rw [digs_length, ← HNS.out]; exact hlj)
                obtain ⟨p1, p2⟩ := HP.out j hlj
                obtain ⟨D, hD⟩ : ∃ D : Nat, gi p j = (D : Int) := ⟨(gi p j).toNat, by omega⟩
                rw [hD] at hpk p1 p2
                have hDl : D < n := by omega
                have D0 : (0 : Int) ≤ (D : Int) := by omega
                have D1 : (D : Int) < (n : Int) := by omega
                have jI : (j : Int) < (n : Int) := by omega
                have j0 : (0 : Int) ≤ (j : Int) := by omega
                have hf := om.free D
                have hcD := om.cell (k := D) (by rw [HTL.out]; exact hDl)
                have HST : Hid (plcTo p (digs S x) (j + 1) = (plcTo p (digs S x) j).set D (gi (digs S x) j)) := Lib.hid (by rw [plcTo, hD]; rfl)
                obtain ⟨y, hy⟩ : ∃ y, y = gi (digs S x) j := ⟨_, rfl⟩
                rw [← hy] at HST hdk
                clear hcp hD hap hy
                go_wp2_with fail
                go_still_tail 10, (by kernel_rfl)
                change wpList _ _ _ _ _ wr.drew
                go_wp2
                go_roundw
                case rel => exact ⟨j + 1, by omega, by go_num, by rw [HST.out]; exact om.drew.stored D y, od.drew.kept (grown_setCell (World.grownBy.refl _ _) D _) (.inr (show some gd ≠ some gm from fun e => hne (by injection e))), hbx.drew.setCell (by show wo.heap.size ≤ gm; exact qm.1) _⟩
                case measure => simp [intOf]; omega
              · have ej : j = n := by omega
                subst ej
                have jI : ¬ (j : Int) < (j : Int) := by omega
                have HDD : Hid (plcTo p (digs S x) j = plcD p (digs S x)) := Lib.hid (by unfold plcD; rw [digs_length, ← HNS.out])
                rw [HDD.out] at om
                have xci := kept_cell B3i xc lx
                have ownX := own.below B3i
                have oL4 := oL0.below hbx
                have hpl : p.length = S.length := by rw [← HNP.out, ← HNS.out]
                have hDg : Dg (plcD p S) (plcD p (digs S x)) := ⟨by rw [plcD_len, plcD_len, digs_length], fun i hi => by
                  rw [plcD_len] at hi
                  exact plcD_lt (by rw [digs_length]; exact hpl) hpl HO.out (fun t ht => by rw [digs_length] at ht; rw [gi_digs _ _ _ ht]; exact dig_bd S x HSp.out.bd t ht) i (by rw [plcD_len, digs_length]; exact hi)⟩
                have hwd := l01Word_n (some ⟨w.heap.size + 2, 0, none⟩) (plcD p S) j j (by rw [plcD_len]; exact HNS.out) (by rw [plcD_len]; exact hS8) (plcD_bd hpl HO.out (fun x => 2 ≤ x ∧ x ≤ 4) HSp.out.bd) (some ⟨gm, 0, none⟩) (plcD p (digs S x)) j j (by rw [plcD_len]; exact HNS.out) hDg wr (own_ints ownX) (own_ints om)
                rw [← HWk.out] at hwd
                have HWD := Lib.hid hwd
                have hB3 := B3i
                clear hwd hDg hpl om od ownX hlj
                go_wp2_with fail
                refine HWD.out.mono ?_
                rintro e w6 ⟨rfl, hb6⟩
                have oL6 := oL4.below hb6
                have B36 := hB3.trans (hb6.mono hB3.size)
                have hput := l01Put_any w3.heap.size g c L (fW k) w6 (by rw [← HPn.out]; omega) (by rw [← HPn.out]; exact oL6)
                rw [← HPn.out] at hput
                have HPU := Lib.hid hput
                clear hput hb6 oL4 oL6
                go_wp2_with fail
                refine HPU.out.mono ?_
                rintro e w7 ⟨g7, c7, rfl, oL7, hb7⟩
                have B37 := B36.trans (hb7.mono B36.size)
                rw [← hPS.out] at oL7 ⊢
                clear hb7
                go_wp2_with fail
                go_roundw
                case rel => exact ⟨k + 1, g7, c7, by omega, by go_num, rfl, oL7, B37⟩
                case measure => simp [intOf]; omega
        · have ek : Hid (k = C.length) := Lib.hid (by omega)
          have kI : ¬ (k : Int) < (C.length : Int) := by omega
          have rRr := row_block rR Bw (by omega)
          have ownX := own.below Bw
          have rc : wo.cell? ⟨w.heap.size + 1, 0, none⟩ = some (.slice none 0 0) := by rw [cell_of_row wo (w.heap.size + 1) 0 _ _ _ rRr]; rfl
          have rf : wo.frozen? ⟨w.heap.size + 1, 0, none⟩ = false := by have h' := rRr; simp [World.frozen?, h']
          have rs : (wo.setCell ⟨w.heap.size + 1, 0, none⟩ (.slice (some ⟨w.heap.size + 2, 0, none⟩) n n)).cell? ⟨w.heap.size + 1, 0, none⟩ = some (.slice (some ⟨w.heap.size + 2, 0, none⟩) n n) := World.cell?_setCell_same' _ _ _ (by rw [rc]; rfl)
          have B9 : Below w.heap.size w (wo.setCell ⟨w.heap.size + 1, 0, none⟩ (.slice (some ⟨w.heap.size + 2, 0, none⟩) n n)) := Br.setCell (by show w.heap.size ≤ w.heap.size + 1; omega) _
          have oX9 := ownX.setBelow (a := ⟨w.heap.size + 1, 0, none⟩) (by show w.heap.size + 1 < w.heap.size + 2; omega) (.slice (some ⟨w.heap.size + 2, 0, none⟩) n n)
          have oL9 := oL.setBelow (a := ⟨w.heap.size + 1, 0, none⟩) (by show w.heap.size + 1 < w3.heap.size; omega) (.slice (some ⟨w.heap.size + 2, 0, none⟩) n n)
          clear hlt cSr ownX oL
          go_wp2_with fail
          refine bodyPost_ret (by rw [results_cell_tmp rfl]; go_simp; try rfl) rfl ?_
          refine ⟨w3.heap.size, .slice (some ⟨w.heap.size + 2, 0, none⟩) n n, _, rfl, by omega, fun q hq => by cases hq; show w.heap.size ≤ w.heap.size + 2 ∧ w.heap.size + 2 < w3.heap.size; omega, oX9.rebase (by omega), ?_, by simpa using sr, B9⟩
          rw [HL.out, HFE.out] at oL9
          rw [← ek.out]
          rw [HPn.out, HL.out, HFE.out] at *
          exact oL9


end Go.Proofs.Ytdacokgmcenjoaa
