/-
  The model's Hamming code. By an AI agent.
-/
import Derived.Test.YtcnnijeokefboabPk21
import Derived.Test.YtcnnijeokefboabPk10
import Derived.BigQuiet
namespace Go.Proofs.Ytcnnijeokefboab
open Go.RowKit Cv
set_option linter.unusedVariables false
set_option linter.unusedSimpArgs false
set_option maxRecDepth 100000

/-- the plain space of n places -/
def hS (q : Int) (n : Nat) : List Int := List.replicate n q
/-- the sum of the first columns' parts k, each multiplied by its digit -/
def smM (q : Int) (R : List (List Int)) (x : Int) (k : Nat) : Nat → Int
  | 0 => 0
  | i + 1 => smM q R x k i + dig (hS q R.length) x i * gi (ri R i) k
def gdM (q : Int) (R : List (List Int)) (x : Int) : Nat → Bool
  | 0 => true
  | k + 1 => gdM q R x k && (smM q R x k R.length % q == 0)
def hamP (q : Int) (m : Nat) (u : Nat) : Bool := gdM q (colL q m) (u : Int) m
def goodQM (q : Int) (m : Nat) : Prop := (q = 2 ∧ m = 2) ∨ (q = 2 ∧ m = 3) ∨ (q = 3 ∧ m = 2)
theorem good_len {q : Int} {m : Nat} (h : goodQM q m) : 1 ≤ (colL q m).length ∧ (colL q m).length ≤ 7 := by
  rcases h with ⟨rfl, rfl⟩ | ⟨rfl, rfl⟩ | ⟨rfl, rfl⟩ <;> decide
theorem good_sp {q : Int} {m : Nat} (h : goodQM q m) : Sp (hS q (colL q m).length) := by
  rw [← isSp_iff]
  rcases h with ⟨rfl, rfl⟩ | ⟨rfl, rfl⟩ | ⟨rfl, rfl⟩ <;> decide
theorem good_row {q : Int} {m : Nat} (h : goodQM q m) {i : Nat} (hi : i < (colL q m).length) : (ri (colL q m) i).length = m ∧ ∀ k, k < m → 0 ≤ gi (ri (colL q m) i) k ∧ gi (ri (colL q m) i) k < q := by
  have e : ∀ i, i < (colL q m).length → (ri (colL q m) i).length = m ∧ ∀ k, k < m → 0 ≤ gi (ri (colL q m) i) k ∧ gi (ri (colL q m) i) k < q := by
    rcases h with ⟨rfl, rfl⟩ | ⟨rfl, rfl⟩ | ⟨rfl, rfl⟩ <;> decide
  exact e i hi
theorem good_q {q : Int} {m : Nat} (h : goodQM q m) : (q = 2 ∨ q = 3) ∧ 2 ≤ m ∧ m ≤ 3 := by
  rcases h with ⟨rfl, rfl⟩ | ⟨rfl, rfl⟩ | ⟨rfl, rfl⟩ <;> simp
theorem hS_len (q : Int) (n : Nat) : (hS q n).length = n := by simp [hS]

theorem row_grow3 {w w1 w2 : World} {b : Nat} {r : Option Nat} {o : Obj} (h : w.heap[b]? = some o) (h1 : w.grownBy w1 r) (h2 : w1.grownBy w2 r) (hn : some b ≠ r) : w2.heap[b]? = some o := by
  have l1 := (Array.getElem?_eq_some_iff.1 h).1
  have l2 : b < w1.heap.size := Nat.lt_of_lt_of_le l1 h1.size
  rw [h2.block b l2 hn, h1.block b l1 hn]; exact h

theorem own_shph {w : World} {base : Nat} {v : Value} {L : List Int} (h : OwnInts w base v L) : ∃ a c, v = .slice a L.length c := by
  obtain ⟨x, y, z, _⟩ := h.ints; exact ⟨x, y, z⟩
theorem cell_of1 {w : World} {b : Nat} {v : Value} {t : TypeId} (h : w.heap[b]? = some (.cells #[v] t (0, 0))) : w.cell? ⟨b, 0, none⟩ = some v := by
  rw [cell_of_row w b 0 _ _ _ h]; rfl
theorem row_store1 {w : World} {b : Nat} {v : Value} {t : TypeId} (u : Value) (h : w.heap[b]? = some (.cells #[v] t (0, 0))) : (w.setCell ⟨b, 0, none⟩ u).heap[b]? = some (.cells #[u] t (0, 0)) := by
  rw [setCell_eq_setRow w b 0 _ _ _ u h]
  exact setRow_heap w b _ _ _ _ h

theorem mul_nine {a b : Int} (h1 : 0 ≤ a) (h2 : a ≤ 3) (h3 : 0 ≤ b) (h4 : b ≤ 3) : 0 ≤ a * b ∧ a * b ≤ 9 :=
  ⟨Int.mul_nonneg h1 h3, by have := Int.mul_le_mul h2 h4 h3 (by omega); omega⟩
theorem smM_bd {q : Int} {R : List (List Int)} {x : Int} {k : Nat} (h1 : ∀ i, i < R.length → 0 ≤ dig (hS q R.length) x i ∧ dig (hS q R.length) x i ≤ 3) (h2 : ∀ i, i < R.length → 0 ≤ gi (ri R i) k ∧ gi (ri R i) k ≤ 3) :
    ∀ i, i ≤ R.length → 0 ≤ smM q R x k i ∧ smM q R x k i ≤ 9 * i
  | 0, _ => by simp [smM]
  | i + 1, h => by
    obtain ⟨a1, a2⟩ := smM_bd h1 h2 i (by omega)
    obtain ⟨b1, b2⟩ := mul_nine (h1 i (by omega)).1 (h1 i (by omega)).2 (h2 i (by omega)).1 (h2 i (by omega)).2
    rw [smM]; omega

set_option maxHeartbeats 2000000 in
theorem l06Hamming_any (q : Int) (m : Nat) (hg : goodQM q m) (w : World) :
    Calls Try.prog 46 #[.int .i64 q, .int .i64 (m : Int)] w fun e w' => ∃ vS vC, e = .returned (.tuple #[.agg #[vS], vC]) ∧ OwnInts w' w.heap.size vS (hS q (colL q m).length) ∧ OwnInts w' w.heap.size vC (selL (hamP q m) (nW (hS q (colL q m).length)).toNat) ∧ Below w.heap.size w w' := by
  obtain ⟨hq, hm2, hm3⟩ := good_q hg
  obtain ⟨n1, n7⟩ := good_len hg
  have hSp := good_sp hg
  obtain ⟨N1, N2⟩ := nW_bd hSp
  have hq2 : 2 ≤ q := by omega
  have hq3 : q ≤ 3 := by omega
  have HG := Lib.hid hg
  have HQ := Lib.hid hq
  have HSp := Lib.hid hSp
  have HROW := Lib.hid fun i (hi : i < (colL q m).length) => good_row hg hi
  obtain ⟨R, hR⟩ : ∃ R, R = colL q m := ⟨_, rfl⟩
  have HP : Hid (∀ u, hamP q m u = gdM q R (u : Int) m) := Lib.hid fun u => by rw [hR]; rfl
  have HC := Lib.hid (fun w => l06Columns_any q hq m (by omega) hm3 w)
  rw [← hR] at n1 n7 HSp HROW HC N1 N2 ⊢
  obtain ⟨W, hW⟩ : ∃ W, W = w.alloc (.cells #[.slice none 0 0] 26) := ⟨_, rfl⟩
  have B0 : Below w.heap.size w W := by rw [hW]; go_grown
  have HW := Lib.hid hW
  have hWs : W.heap.size = w.heap.size + 1 := by rw [hW]; simp
  have HWs := Lib.hid hWs
  have HR0 : Hid (W.heap[w.heap.size]? = some (.cells #[.slice none 0 0] 26 (0, 0))) := Lib.hid (by rw [hW]; exact heap_alloc_new _ _)
  clear hg hq hSp hR hW hWs
  go_enter Try.func46, Try.ntmps46
  go_wp2_with fail
  rw [← HW.out]
  refine (HC.out _).mono ?_
  rintro e w1 ⟨g, c, rfl, oc, hb⟩
  obtain ⟨S0, hS0⟩ : ∃ S0, S0 = w1.heap.size := ⟨_, rfl⟩
  obtain ⟨W3, hW3⟩ : ∃ W3, W3 = ((w1.alloc (.cells #[] 2)).alloc (.cells #[] 2)).alloc (.cells #[.slice (some ⟨w1.heap.size, 0, none⟩) 0 0] 26) := ⟨_, rfl⟩
  have b1 : Below w1.heap.size w1 (w1.alloc (.cells #[] 2)) := (Below.refl _ _).alloc (Nat.le_refl _) _
  have b2 : Below w1.heap.size w1 ((w1.alloc (.cells #[] 2)).alloc (.cells #[] 2)) := b1.alloc b1.size _
  have b3 : Below w1.heap.size w1 W3 := by rw [hW3]; exact b2.alloc b2.size _
  have oS : OwnInts W3 w1.heap.size (.slice (some ⟨w1.heap.size, 0, none⟩) 0 0) [] := by
    rw [hW3]; exact ((own_empty w1 w1.heap.size (Nat.le_refl _) rfl).alloc _).alloc _
  have oO : OwnInts W3 w1.heap.size (.slice (some ⟨w1.heap.size + 1, 0, none⟩) 0 0) [] := by
    rw [hW3]; exact (own_empty (w1.alloc (.cells #[] 2)) w1.heap.size (by simp) (by simp)).alloc _
  have hXr : W3.heap[w1.heap.size + 2]? = some (.cells #[.slice (some ⟨w1.heap.size, 0, none⟩) 0 0] 26 (0, 0)) := by
    have e : ((w1.alloc (.cells #[] 2)).alloc (.cells #[] 2)).heap.size = w1.heap.size + 2 := by simp
    rw [hW3, ← e]; exact heap_alloc_new _ _
  have hW3s : W3.heap.size = w1.heap.size + 3 := by rw [hW3]; simp
  have hRw : w.heap.size < w1.heap.size := by have := hb.size; have := HWs.out; omega
  have HW3 := Lib.hid hW3
  have HB1 := Lib.hid (B0.trans (hb.mono B0.size))
  rw [← hS0] at oS oO hXr hW3s hRw b3
  have HS0 := Lib.hid hS0
  have HR1 : Hid (w1.heap[w.heap.size]? = some (.cells #[.slice none 0 0] 26 (0, 0)) ∧ w.heap.size < S0) := Lib.hid ⟨(hb.block _ (by have := HWs.out; omega)).trans HR0.out, hRw⟩
  clear b1 b2 hW3 hb
  go_wp2_with fail
  rw [← HW3.out]
  rw [show w1.heap.size + 1 + 1 = S0 + 2 by rw [hS0], ← hS0]
  have hY0 : S0 + 3 ≤ W3.heap.size := by omega
  clear hS0 hW3s B0
  go_loopw [9] (fun x wr => ∃ (i : Nat) (vS : Value), i ≤ R.length ∧ x = .int .i64 i ∧ OwnInts wr S0 vS (hS q i) ∧ (∀ k, vS.ownBlock = some k → k = S0 ∨ S0 + 3 ≤ k) ∧ wr.heap[S0 + 2]? = some (.cells #[vS] 26 (0, 0)) ∧ OwnInts wr S0 (.slice (some ⟨S0 + 1, 0, none⟩) 0 0) [] ∧ S0 + 3 ≤ wr.heap.size ∧ Below S0 w1 wr) (fun x _ => R.length - (intOf x).toNat)
  case atStart => exact ⟨0, _, Nat.zero_le _, rfl, oS, fun k hk => .inl (by simp [Value.ownBlock] at hk; omega), hXr, oO, hY0, b3⟩
  case round =>
    clear oS hXr oO hY0 b3
    obtain ⟨i, vS, hi, rfl, oS, hvS, hXr, oO, hY, B⟩ := hrel
    by_cases hlt : i < R.length
    · have hXc : wr.cell? ⟨S0 + 2, 0, none⟩ = some vS := by rw [cell_of_row wr (S0 + 2) 0 _ _ _ hXr]; rfl
      have hSl := hS_len q i
      have HSl := Lib.hid hSl
      have hl8 : (hS q i).length ≤ 8 := by omega
      obtain ⟨aS, cS, hvs⟩ : ∃ a c, vS = .slice a (hS q i).length c := by obtain ⟨x, y, z, _⟩ := oS.ints; exact ⟨x, y, z⟩
      have HVS := Lib.hid hvs
      have HSS : Hid (hS q i ++ [q] = hS q (i + 1)) := Lib.hid (by unfold hS; rw [List.replicate_succ'])
      clear hSl hvs
      go_wp2_with (at_builtin; refine wpList_append_int_at rfl _ _ rfl S0 vS (hS q i) rfl (oS.alloc _) wr.heap.size q rfl (cell_new _ _ _) (by omega) (by simp; omega) ?_; intro v' w4 own' hgrow hnew; obtain ⟨a5, c5, hv5⟩ := own_shph own'; rw [List.length_append, List.length_singleton] at hv5; subst hv5; have hXr4 := row_grow3 hXr (World.grownBy_alloc wr (.cells #[.int .i64 q] 2) _) hgrow (fun e => by rcases hvS _ e.symm with h | h <;> omega); have hXc4 := cell_of1 hXr4; have hXf4 := frozen_of_row w4 (S0 + 2) 0 _ _ hXr4)
      have oO4 := World.ownsRow.kept (oO.alloc (.cells #[.int .i64 q] 2)) hgrow (.inr (fun e => by simp only [Value.ownBlock] at e; rcases hvS _ e.symm with h | h <;> omega))
      have B4 := (B.alloc (Nat.le_trans (Nat.le_add_right _ _) hY) (.cells #[.int .i64 q] 2)).grown hgrow (by simp; omega) (fun k hk => by rcases hvS k hk with h | h <;> omega)
      have hY4 : S0 + 3 ≤ w4.heap.size := Nat.le_trans (Nat.le_trans hY (by simp)) hgrow.size
      have hv4 : ∀ k, (Value.slice a5 ((hS q i).length + 1) c5).ownBlock = some k → k = S0 ∨ S0 + 3 ≤ k := fun k hk => by
        rcases hnew with e | e
        · exact hvS k (e.symm.trans hk)
        · rw [e] at hk
          have := Option.some.inj hk
          simp at this
          omega
      have hXr5 := row_store1 (.slice a5 ((hS q i).length + 1) c5) hXr4
      have own5 := World.ownsRow.kept own' (grown_setCell (World.grownBy.refl w4 (some (S0 + 2))) 0 (.slice a5 ((hS q i).length + 1) c5)) (.inr (fun e => by rcases hv4 _ e with h | h <;> omega))
      have oO5 := World.ownsRow.kept oO4 (grown_setCell (World.grownBy.refl w4 (some (S0 + 2))) 0 (.slice a5 ((hS q i).length + 1) c5)) (.inr (fun e => by simp only [Value.ownBlock, Option.some.injEq] at e; omega))
      have B5 := B4.setCell (p := ⟨S0 + 2, 0, none⟩) (by simp) (.slice a5 ((hS q i).length + 1) c5)
      clear hgrow hnew own' hXr4 hXc4 hXf4 oO4 B4 hXr hXc oS oO B
      go_wp2_with fail
      go_roundw
      case rel => exact ⟨i + 1, _, by omega, by go_num, by rw [← HSS.out]; exact own5, hv4, hXr5, oO5, by simpa using hY4, B5⟩
      case measure => simp [intOf]; omega
    · obtain rfl : i = R.length := by omega
      obtain ⟨T, hT⟩ : ∃ T, T = hS q R.length := ⟨_, rfl⟩
      rw [← hT] at oS HSp N1 N2
      have hTl : T.length = R.length := by rw [hT]; exact hS_len _ _
      obtain ⟨gS, cS, rfl, hgSe⟩ := own_some oS (fun e => by rw [e] at hTl; simp at hTl; omega)
      rw [hTl] at oS hXr hvS
      have HTl := Lib.hid hTl
      obtain ⟨Y, hYe⟩ : ∃ Y, Y = wr.heap.size := ⟨_, rfl⟩
      rw [← hYe] at hY
      have hgS : gS = S0 ∨ (S0 + 3 ≤ gS ∧ gS < Y) := by have h1 := hvS gS rfl; have h2 := oS.base_le; omega
      obtain ⟨NN, hNN⟩ : ∃ NN : Nat, (NN : Int) = nW T := ⟨(nW T).toNat, by omega⟩
      have HNN : Hid ((nW T).toNat = NN) := Lib.hid (by omega)
      have hN4 : NN ≤ 1024 := by omega
      have HNC : Hid (∀ w', Ints w' (some ⟨gS, 0, none⟩) T → Calls Try.prog 26 #[.agg #[.slice (some ⟨gS, 0, none⟩) R.length cS]] w' fun e w'' => e = .returned (.int .i64 (NN : Int)) ∧ Below w'.heap.size w' w'') := Lib.hid fun w' h => by
        have := l01N_any (some ⟨gS, 0, none⟩) T cS w' HSp.out.hi HSp.out.bd h
        rwa [show prodTo T T.length = (NN : Int) from hNN.symm, hTl] at this
      have HDC : Hid (∀ (u : Nat) w', u < NN → Ints w' (some ⟨gS, 0, none⟩) T → Calls Try.prog 72 #[.agg #[.slice (some ⟨gS, 0, none⟩) R.length cS], .int .i64 (u : Int)] w' fun e w'' =>
        ∃ gD, e = .returned (.slice (some ⟨gD, 0, none⟩) R.length R.length) ∧ OwnInts w'' w'.heap.size (.slice (some ⟨gD, 0, none⟩) R.length R.length) (digs T (u : Int)) ∧ Below w'.heap.size w' w'') := Lib.hid fun u w' hu h => by
        have := l01Digits_any (some ⟨gS, 0, none⟩) T cS HSp.out.hi HSp.out.bd (u : Int) (by omega) (by omega) w' h
        rwa [hTl] at this
      have HDB : Hid (∀ x i, i < R.length → 0 ≤ dig T x i ∧ dig T x i ≤ 3) := Lib.hid fun x i hi => by
        have h1 := dig_bd T x HSp.out.bd i (by omega)
        have h2 := HSp.out.bd i (by omega)
        omega
      have HB2 : Hid (∀ x k, k < m → ∀ i, i ≤ R.length → 0 ≤ smM q R x k i ∧ smM q R x k i ≤ 9 * i) := Lib.hid fun x k hk i hi => smM_bd (by rw [← hT]; exact HDB.out x) (fun i hi => by have := (HROW.out i hi).2 k hk; omega) i hi
      have HT := Lib.hid hT
      clear hT hlt hvS hgSe hNN N1 N2 hTl
      go_wp2_with fail
      go_loopw [8, 10] (fun xo x wr => ∃ u : Nat, u ≤ NN ∧ x = .int .i64 u ∧ OwnInts wr S0 xo (selL (hamP q m) u) ∧ (∀ k, xo.ownBlock = some k → k = S0 + 1 ∨ Y ≤ k) ∧ OwnInts wr S0 (.slice (some ⟨gS, 0, none⟩) R.length cS) T ∧ wr.heap[S0 + 2]? = some (.cells #[.slice (some ⟨gS, 0, none⟩) R.length cS] 26 (0, 0)) ∧ Y ≤ wr.heap.size ∧ Below S0 w1 wr) (fun _ x _ => NN - (intOf x).toNat)
      case atStart => exact ⟨0, Nat.zero_le _, rfl, oO, fun k hk => .inl (by simp [Value.ownBlock] at hk; omega), oS, hXr, Nat.le_of_eq hYe, B⟩
      case round =>
        clear oS hXr oO B hYe
        obtain ⟨u, hu, rfl, oO, hvO, oS, hXr, hY2, B⟩ := hrel
        by_cases hlt : u < NN
        · have kI : (u : Int) < (NN : Int) := by omega
          have hXc := cell_of1 hXr
          have lX : S0 + 2 < wr.heap.size := by omega
          go_wp2_with fail
          refine (HNC.out _ (own_ints oS)).mono ?_
          rintro e w2 ⟨rfl, hb2⟩
          have s2 := hb2.size
          have hXc2 := kept_cell hb2 hXc lX
          have hI2 := (own_ints oS).below hb2
          go_wp2_with fail
          refine (HDC.out u _ hlt hI2).mono ?_
          rintro e w3 ⟨gD, rfl, oD, hb3⟩
          have hb23 : Below wr.heap.size wr w3 := hb2.trans (hb3.mono hb2.size)
          have s3 := hb3.size
          have hY3 : Y ≤ w3.heap.size := by omega
          have hYr : S0 ≤ wr.heap.size := by omega
          have hY3a : S0 + 3 ≤ w3.heap.size := by omega
          have oO3 := oO.below hb23
          have oS3 := oS.below hb23
          have hXr3 := (hb23.block _ lX).trans hXr
          have B3 := B.trans (hb23.mono hYr)
          have D1 : Hid (∀ i, i < R.length → w3.cell? ⟨gD, i, none⟩ = some (.int .i64 (dig T u i)) ∧ gD < w3.heap.size) := Lib.hid fun i hi => ⟨by have h := oD.cell (k := i) (by rw [digs_length, HTl.out]; exact hi); rwa [gi_digs _ _ _ (by rw [HTl.out]; exact hi)] at h, oD.base_le.2⟩
          have oC3 := oc.below (w' := w3) (by have h := B3; rwa [HS0.out] at h)
          have C1 : Hid (∀ i, i < R.length → g < w3.heap.size ∧ ∃ b cc, w3.cell? ⟨g, i, none⟩ = some (.slice (some ⟨b, 0, none⟩) m cc) ∧ b < w3.heap.size ∧ ∀ k, k < m → w3.cell? ⟨b, k, none⟩ = some (.int .i64 (gi (ri R i) k))) := Lib.hid fun i hi => by
            obtain ⟨z, hz, oz⟩ := oC3.row hi
            have hl := (HROW.out i hi).1
            obtain ⟨b, cc, rfl, _⟩ := own_some oz (fun e => by rw [e] at hl; simp at hl; omega)
            rw [hl] at oz hz
            exact ⟨oC3.base_le.2, b, cc, hz, oz.base_le.2, fun k hk => oz.cell (by rw [hl]; exact hk)⟩
          clear hb2 hb3 hb23 oO oS hXr B hXc hXc2 hI2 oD oC3 s2 s3 lX
          go_wp2_with fail
          go_loopw [12, 13] (fun xg xk wr' => ∃ k : Nat, k ≤ m ∧ xk = .int .i64 k ∧ xg = .bool (gdM q R u k) ∧ Below w3.heap.size w3 wr') (fun _ xk _ => m - (intOf xk).toNat)
          case atStart => exact ⟨0, Nat.zero_le _, rfl, rfl, Below.refl _ _⟩
          case round =>
            obtain ⟨k, hk, rfl, rfl, B4⟩ := hrel
            by_cases hlk : k < m
            · have kM : (k : Int) < (m : Int) := by omega
              go_wp2_with fail
              go_loopw [14, 15] (fun xs xi wr' => ∃ i : Nat, i ≤ R.length ∧ xi = .int .i64 i ∧ xs = .int .i64 (smM q R u k i) ∧ Below w3.heap.size w3 wr') (fun _ xi _ => R.length - (intOf xi).toNat)
              case atStart => exact ⟨0, Nat.zero_le _, rfl, rfl, B4⟩
              case round =>
                obtain ⟨i, hi, rfl, rfl, B5⟩ := hrel
                obtain ⟨p1, p2⟩ := HB2.out u k hlk i hi
                by_cases hli : i < R.length
                · have kI2 : (i : Int) < (R.length : Int) := by omega
                  have k0 : (0 : Int) ≤ (i : Int) := by omega
                  have k1 : (0 : Int) ≤ (k : Int) := by omega
                  obtain ⟨d, hd⟩ : ∃ d, d = dig T u i := ⟨_, rfl⟩
                  obtain ⟨y, hy⟩ : ∃ y, y = gi (ri R i) k := ⟨_, rfl⟩
                  obtain ⟨d1, d2⟩ := HDB.out u i hli
                  have y12 := (HROW.out i hli).2 k hlk
                  obtain ⟨hc1, l1⟩ := D1.out i hli
                  obtain ⟨l2, b, cc, hc2, l3, hc3⟩ := C1.out i hli
                  have hc3 := hc3 k hlk
                  have HSM : Hid (smM q R u k (i + 1) = smM q R u k i + d * y) := Lib.hid (by rw [smM, hd, hy, HT.out])
                  rw [← hd] at d1 d2 hc1
                  rw [← hy] at y12 hc3
                  obtain ⟨m1, m2⟩ := mul_nine d1 d2 y12.1 (by omega)
                  have E1 : IntKind.i64.wrap (d * y) = d * y := IntWalk.i64_in _ ⟨by omega, by omega⟩
                  have E2 : IntKind.i64.wrap (smM q R u k i + d * y) = smM q R u k i + d * y := IntWalk.i64_in _ ⟨by omega, by omega⟩
                  have hk1 := kept_cell B5 hc1 l1
                  have hk2 := kept_cell B5 hc2 l2
                  have hk3 := kept_cell B5 hc3 l3
                  clear hc1 hc2 hc3 l1 l2 l3 hd hy y12
                  go_wp2_with fail
                  go_quiet (fail)
                  go_wp2_with fail
                  go_roundw
                  case rel => exact ⟨i + 1, by omega, by go_num, by rw [HSM.out], below_drewN B5 _⟩
                  case measure => simp [intOf]; omega
                · obtain rfl : i = R.length := by omega
                  have E2 : (smM q R u k R.length).tmod q = smM q R u k R.length % q := Int.tmod_eq_emod_of_nonneg p1
                  have hz : (q == 0) = false := by simp; omega
                  have hz2 : ¬ q = 0 := by omega
                  have HG1 : Hid (gdM q R u (k + 1) = (gdM q R u k && (smM q R u k R.length % q == 0))) := Lib.hid rfl
                  by_cases hgd : gdM q R u k = true
                  · by_cases hsm : smM q R u k R.length % q = 0
                    · go_wp2_with fail
                      go_roundw
                      case rel => exact ⟨k + 1, by omega, by go_num, by rw [HG1.out, hgd, hsm]; rfl, B5⟩
                      case measure => simp [intOf]; omega
                    · have hsb : (smM q R u k R.length % q == 0) = false := by simpa using hsm
                      go_wp2_with fail
                      go_roundw
                      case rel => exact ⟨k + 1, by omega, by go_num, by rw [HG1.out, hgd, hsb]; rfl, B5⟩
                      case measure => simp [intOf]; omega
                  · have hgf : gdM q R u k = false := by simpa using hgd
                    go_wp2_with fail
                    go_roundw
                    case rel => exact ⟨k + 1, by omega, by go_num, by rw [HG1.out, hgf]; rfl, B5⟩
                    case measure => simp [intOf]; omega
            · obtain rfl : k = m := by omega
              have lw := B4.size
              have oO5 := oO3.below B4
              have oS5 := oS3.below B4
              have hXr5 := (B4.block _ (show S0 + 2 < w3.heap.size by omega)).trans hXr3
              have B5 := B3.trans (B4.mono (by omega))
              have hY5 : Y ≤ wr.heap.size := by omega
              have hY6 : S0 ≤ wr.heap.size := by omega
              have hpl := selL_len (hamP q k) u
              clear oO3 oS3 hXr3 B3 B4 lw
              by_cases hp : gdM q R u k = true
              · have H2 : Hid (selL (hamP q k) (u + 1) = selL (hamP q k) u ++ [(u : Int)]) := Lib.hid (by rw [selL_succ, if_pos (by rw [HP.out]; exact hp)])
                rw [hp]
                go_wp2_with (at_builtin; refine wpList_append_int_at rfl _ _ rfl S0 _ _ rfl (oO5.alloc _) wr.heap.size _ rfl (cell_new _ _ _) (by omega) (by rw [World.size_alloc]; omega) ?_; intro v' w4 own' hgrow hnew)
                have oS6 := World.ownsRow.kept (oS5.alloc (.cells #[.int .i64 (u : Int)] 2)) hgrow (.inr (fun e => by simp only [Value.ownBlock] at e; rcases hvO _ e.symm with h | h <;> omega))
                have hXr6 := row_grow3 hXr5 (World.grownBy_alloc wr (.cells #[.int .i64 (u : Int)] 2) _) hgrow (fun e => by rcases hvO _ e.symm with h | h <;> omega)
                have B6 := (B5.alloc hY6 (.cells #[.int .i64 (u : Int)] 2)).grown hgrow (by rw [World.size_alloc]; omega) (fun k hk => by rcases hvO k hk with h | h <;> omega)
                have hY7 : Y ≤ w4.heap.size := Nat.le_trans (Nat.le_trans hY5 (by simp)) hgrow.size
                have hv6 : ∀ k, v'.ownBlock = some k → k = S0 + 1 ∨ Y ≤ k := fun k hk => by
                  rcases hnew with e | e
                  · exact hvO k (e.symm.trans hk)
                  · rw [e] at hk
                    have := Option.some.inj hk
                    simp at this
                    omega
                clear hgrow hnew oO5 oS5 hXr5 B5
                go_wp2_with fail
                go_roundw
                case rel => exact ⟨u + 1, by omega, by go_num, by rw [H2.out]; exact own', hv6, oS6, hXr6, hY7, B6⟩
                case measure => simp [intOf]; omega
              · have H2 : Hid (selL (hamP q k) (u + 1) = selL (hamP q k) u) := Lib.hid (by rw [selL_succ, if_neg (by rw [HP.out]; exact hp), List.append_nil])
                rw [show gdM q R u k = false by simpa using hp]
                go_wp2_with fail
                go_roundw
                case rel => exact ⟨u + 1, by omega, by go_num, by rw [H2.out]; exact oO5, hvO, oS5, hXr5, hY5, B5⟩
                case measure => simp [intOf]; omega
        · obtain rfl : u = NN := by omega
          have kI : ¬ (u : Int) < (u : Int) := by omega
          have hXc := cell_of1 hXr
          have lX : S0 + 2 < wr.heap.size := by omega
          go_wp2_with fail
          refine (HNC.out _ (own_ints oS)).mono ?_
          rintro e w2 ⟨rfl, hb2⟩
          have hXc2 := kept_cell hb2 hXc lX
          have oO2 := oO.below hb2
          have oS2 := oS.below hb2
          have B2 := B.trans (hb2.mono (by omega))
          have hR2 := (B2.block _ hRw).trans HR1.out.1
          have rc := cell_of1 hR2
          have rf := frozen_of_row w2 w.heap.size 0 _ _ hR2
          clear hb2 oO oS B hXr hXc
          have rs : (w2.setCell ⟨w.heap.size, 0, none⟩ (.slice (some ⟨gS, 0, none⟩) R.length cS)).cell? ⟨w.heap.size, 0, none⟩ = some (.slice (some ⟨gS, 0, none⟩) R.length cS) := World.cell?_setCell_same' _ _ _ (by rw [rc]; rfl)
          have oS7 := oS2.setBelow (a := ⟨w.heap.size, 0, none⟩) hRw (.slice (some ⟨gS, 0, none⟩) R.length cS)
          have oO7 := oO2.setBelow (a := ⟨w.heap.size, 0, none⟩) hRw (.slice (some ⟨gS, 0, none⟩) R.length cS)
          have B7 : Below w.heap.size w (w2.setCell ⟨w.heap.size, 0, none⟩ (.slice (some ⟨gS, 0, none⟩) R.length cS)) := (HB1.out.trans (B2.mono (Nat.le_of_lt hRw))).setCell (show w.heap.size ≤ w.heap.size from Nat.le_refl _) _
          go_wp2_with fail
          refine bodyPost_ret (by rw [results_cell_tmp rfl]; go_simp; try rfl) rfl ?_
          rw [← HT.out, HNN.out]
          exact ⟨_, _, rfl, oS7.rebase (Nat.le_of_lt hRw), oO7.rebase (Nat.le_of_lt hRw), B7⟩

end Go.Proofs.Ytcnnijeokefboab
