/-
  The contract of the model's CodeByColumns. By an AI agent.
-/
import Derived.Test.YtamebfbddoeflaaPk31
import Derived.Test.YtamebfbddoeflaaPk40
import Derived.Test.YtamebfbddoeflaaPk41
import Derived.Test.YtamebfbddoeflaaPkBool
import Derived.Test.YtamebfbddoeflaaPk20
import Derived.Deep.AppendLies
import Derived.Deep.RegionLaw
namespace Go.Proofs.Ytamebfbddoeflaa
open Go.RowKit Cv
set_option linter.unusedVariables false
set_option linter.unusedSimpArgs false
set_option maxRecDepth 100000

theorem step_append_i9 {ops : Array Oper} {o : Oper} {a : Act} {w : World} {K : Act → World → Prop} {Q : Exit → Act → World → Prop} {E : Prop} (hgd : o.guard = none) (s x : Operand)
    (ho : o.op = .call { callee := .builtin .append, args := #[s, x], argTypes := #[24, 24] })
    (base : Nat) (v : Value) (L : List Int) (hs : a.eval s = v) (hown : OwnInts w base v L) (b : Nat) (y : Int) (hx : a.eval x = .slice (some ⟨b, 0, none⟩) 1 1) (hc : w.cell? ⟨b, 0, none⟩ = some (.int .i64 y))
    (hlen : L.length ≤ 1073741824) (hbase : base ≤ w.heap.size)
    (h : ∀ g cap w', OwnInts w' base (.slice (some ⟨g, 0, none⟩) (L.length + 1) cap) (L ++ [y]) → w.grownBy w' v.ownBlock → (v.ownBlock = some g ∨ g = w.heap.size) → K (a.put o.dst (.slice (some ⟨g, 0, none⟩) (L.length + 1) cap)) w') :
    if Region.wanted o (yielded ops a.tmps) = true then Oper.wp Try.prog o a w K Q else E := by
  obtain ⟨i0, hi, hz0, hz1, hz2⟩ := info_parts infoI64
  refine step_append_lies w hgd s x 24 ho base 2 i0 (.int .i64 0) 1 8 Try.underlying24 hi hz0 hz1 hz2 rfl (by decide) v L.length (L.map (Value.int .i64)) hs hown ⟨b, 0, none⟩ 1 1 [.int .i64 y] hx rfl ?_ ?_ (by decide) (by unfold maxLen; omega) (by omega) hbase _ rfl ?_
  · intro j u hj
    match j, hj with
    | 0, hj => simp at hj; subst hj; simpa [Addr.add] using hc
  · intro u hu; simp at hu; subst hu; rfl
  · intro g cap w' h1 h2 h3 _
    have e : (L ++ [y]).length = L.length + 1 := by simp
    exact h g cap w' (by
      unfold OwnInts
      rw [e, List.map_append]
      exact h1) h2 h3

theorem cell_of19 {w : World} {b : Nat} {v : Value} {t : TypeId} (h : w.heap[b]? = some (.cells #[v] t (0, 0))) : w.cell? ⟨b, 0, none⟩ = some v := by
  rw [cell_of_row w b 0 _ _ _ h]; rfl
theorem row_store19 {w : World} {b : Nat} {v : Value} {t : TypeId} (u : Value) (h : w.heap[b]? = some (.cells #[v] t (0, 0))) : (w.setCell ⟨b, 0, none⟩ u).heap[b]? = some (.cells #[u] t (0, 0)) := by
  rw [setCell_eq_setRow w b 0 _ _ _ u h]
  exact setRow_heap w b _ _ _ _ h
theorem l01N_n9 (ao : Option Addr) (S : List Int) (K cap : Nat) (hK : K = S.length) (N : Nat) (hN : Hid (nW S = (N : Int))) (w : World) (h : Sp S) (hS : Ints w ao S) :
    Calls Try.prog 42 #[.agg #[.slice ao K cap]] w fun e w' => e = .returned (.int .i64 (N : Int)) ∧ Below w.heap.size w w' := by
  subst hK; exact l01N_natz ao S cap N hN w h hS
theorem l01Digits_n9 (ao : Option Addr) (S : List Int) (K cap : Nat) (hK : K = S.length) (hl : S.length ≤ 8) (hbd : ∀ i, i < S.length → 2 ≤ gi S i ∧ gi S i ≤ 4) (x : Int) (hx : 0 ≤ x) (hx2 : x ≤ 9223372036854775807) (w : World) (hS : Ints w ao S) :
    Calls Try.prog 43 #[.agg #[.slice ao K cap], .int .i64 x] w fun e w' =>
      ∃ g, e = .returned (.slice (some ⟨g, 0, none⟩) K K) ∧ OwnInts w' w.heap.size (.slice (some ⟨g, 0, none⟩) K K) (digs S x) ∧ Below w.heap.size w w' := by
  subst hK; exact l01Digits_any ao S cap hl hbd x hx hx2 w hS
theorem own_stored_oth9s {w : World} {base : Nat} {v : Value} {T : List Int} (h : OwnInts w base v T) {g : Nat} (hne : some g ≠ v.ownBlock) (k : Nat) (u : Value) : OwnInts (w.setCell ⟨g, k, none⟩ u) base v T :=
  h.kept (grown_setCell (World.grownBy.refl w (some g)) k u) (.inr (fun e => hne e.symm))
theorem plS_snoc (i : Nat) (q : Int) : plS i q ++ [q] = plS (i + 1) q := by unfold plS; rw [List.replicate_succ']

set_option maxHeartbeats 4000000 in
theorem spec_CodeByColumns_e1 (as0 : Addr) (S : List Int) (cap : Nat) (hn : S.length ≤ 4294967296) (ac : Option Addr) (C : List Int) (capc : Nat) (hnc : C.length ≤ 4294967296) (at' : Option Addr) (T : List Int) (capt : Nat) (hnt : T.length ≤ 4294967296) (hct : T.length ≤ capt) (w : World) (hS : Ints w (some as0) S) (hC : Ints w ac C) (hT : Ints w at' T) (hz : eCs S C T 0 ≠ 0) :
    Calls Try.prog 12 #[.agg #[.slice (some as0) S.length cap], .slice ac C.length capc, .slice at' T.length capt] w fun e w' => ∃ m vs v, e = .returned (.tuple #[.agg #[vs], v, .int .i64 (eCc S C T)]) ∧ w.heap.size ≤ m ∧ RowIn vs w.heap.size m ∧ OwnInts w' w.heap.size vs (vCcS S C T) ∧ OwnInts w' m v (vCcC S C T) ∧ m ≤ w'.heap.size ∧ Below w.heap.size w w' := by
  obtain ⟨W0, hW0, cS, rR, z0, B0⟩ := box2_9 w (.slice (some as0) S.length cap) (.slice none 0 0) 26
  have HW0 := Lib.hid hW0
  have z0a : w.heap.size + 2 ≤ W0.heap.size := by omega
  have hce := l09Set_any (some as0) S cap hn ac C capc hnc at' T capt hnt W0 (hS.below B0) (hC.below B0) (hT.below B0)
  obtain ⟨x1, x2, x3⟩ := eCc_1 hz
  have HE := Lib.hid x1
  have HS0 := Lib.hid x2
  have HC0 := Lib.hid x3
  have hzn : (eCs S C T 0 != 0) = true := by simpa using hz
  have hzb : (eCs S C T 0 == 0) = false := by simpa using hz
  have HCE := Lib.hid hce
  clear hW0 z0 hce hz x1 x2 x3
  go_enter Try.func12, Try.ntmps12
  go_wp2_with fail
  rw [← HW0.out]
  refine HCE.out.mono ?_
  rintro e w1 ⟨rfl, hb1⟩
  have s1 : w.heap.size + 2 ≤ w1.heap.size := by have := hb1.size; omega
  have cS1 := kept_cell hb1 cS (by omega)
  have rR1 := row_below9 rR hb1 (by omega)
  have B1 := B0.trans (hb1.mono (by omega))
  clear HCE hb1
  have rc : w1.cell? ⟨w.heap.size + 1, 0, none⟩ = some (.slice none 0 0) := by rw [cell_of_row w1 (w.heap.size + 1) 0 _ _ _ rR1]; rfl
  have rf : w1.frozen? ⟨w.heap.size + 1, 0, none⟩ = false := by have h' := rR1; simp [World.frozen?, h']
  have rs : (w1.setCell ⟨w.heap.size + 1, 0, none⟩ (.slice none 0 0)).cell? ⟨w.heap.size + 1, 0, none⟩ = some (.slice none 0 0) := World.cell?_setCell_same' _ _ _ (by rw [rc]; rfl)
  have B9 : Below w.heap.size w (w1.setCell ⟨w.heap.size + 1, 0, none⟩ (.slice none 0 0)) := B1.setCell (show w.heap.size ≤ w.heap.size + 1 by omega) _
  go_wp2_with fail
  refine bodyPost_ret (by rw [results_sp9 rfl]; go_simp; try rfl) rfl ?_
  exact ⟨w.heap.size, .slice none 0 0, _, by rw [HE.out], Nat.le_refl _, fun k hk => (by cases hk), by rw [HS0.out]; exact own_nil _ _, by rw [HC0.out]; exact own_nil _ _, B9.size, B9⟩

set_option maxHeartbeats 4000000 in
theorem spec_CodeByColumns_e2 (as0 : Addr) (S : List Int) (cap : Nat) (hn : S.length ≤ 4294967296) (ac : Option Addr) (C : List Int) (capc : Nat) (hnc : C.length ≤ 4294967296) (at' : Option Addr) (T : List Int) (capt : Nat) (hnt : T.length ≤ 4294967296) (hct : T.length ≤ capt) (w : World) (hS : Ints w (some as0) S) (hC : Ints w ac C) (hT : Ints w at' T) (hz : eCs S C T 0 = 0) (hl : ldB S T = false) :
    Calls Try.prog 12 #[.agg #[.slice (some as0) S.length cap], .slice ac C.length capc, .slice at' T.length capt] w fun e w' => ∃ m vs v, e = .returned (.tuple #[.agg #[vs], v, .int .i64 (eCc S C T)]) ∧ w.heap.size ≤ m ∧ RowIn vs w.heap.size m ∧ OwnInts w' w.heap.size vs (vCcS S C T) ∧ OwnInts w' m v (vCcC S C T) ∧ m ≤ w'.heap.size ∧ Below w.heap.size w w' := by
  obtain ⟨W0, hW0, cS, rR, z0, B0⟩ := box2_9 w (.slice (some as0) S.length cap) (.slice none 0 0) 26
  have HW0 := Lib.hid hW0
  have z0a : w.heap.size + 2 ≤ W0.heap.size := by omega
  have hce := l09Set_any (some as0) S cap hn ac C capc hnc at' T capt hnt W0 (hS.below B0) (hC.below B0) (hT.below B0)
  obtain ⟨x1, x2, x3⟩ := eCc_2 hz hl
  have HE := Lib.hid x1
  have HS0 := Lib.hid x2
  have HC0 := Lib.hid x3
  have HP := Lib.hid (eCs_zero hz).1
  rw [hz] at hce
  have HCE := Lib.hid hce
  have HLD := Lib.hid hl
  clear hW0 z0 hce hz hl x1 x2 x3
  go_enter Try.func12, Try.ntmps12
  go_wp2_with fail
  rw [← HW0.out]
  refine HCE.out.mono ?_
  rintro e w1 ⟨rfl, hb1⟩
  have s1 : w.heap.size + 2 ≤ w1.heap.size := by have := hb1.size; omega
  have cS1 := kept_cell hb1 cS (by omega)
  have rR1 := row_below9 rR hb1 (by omega)
  have B1 := B0.trans (hb1.mono (by omega))
  clear HCE hb1
  have hle := l09Led_any _ S cap HP.out at' T capt hnt w1 (hS.below B1) (hT.below B1)
  rw [HLD.out] at hle
  have HLE := Lib.hid hle
  clear hle
  go_wp2_with fail
  refine HLE.out.mono ?_
  rintro e w2 ⟨rfl, hb2⟩
  have s2 : w.heap.size + 2 ≤ w2.heap.size := by have := hb2.size; omega
  have cS2 := kept_cell hb2 cS1 (by omega)
  have rR2 := row_below9 rR1 hb2 (by omega)
  have B2 := B1.trans (hb2.mono B1.size)
  clear hb2 HLE cS1 rR1
  have rc : w2.cell? ⟨w.heap.size + 1, 0, none⟩ = some (.slice none 0 0) := by rw [cell_of_row w2 (w.heap.size + 1) 0 _ _ _ rR2]; rfl
  have rf : w2.frozen? ⟨w.heap.size + 1, 0, none⟩ = false := by have h' := rR2; simp [World.frozen?, h']
  have rs : (w2.setCell ⟨w.heap.size + 1, 0, none⟩ (.slice none 0 0)).cell? ⟨w.heap.size + 1, 0, none⟩ = some (.slice none 0 0) := World.cell?_setCell_same' _ _ _ (by rw [rc]; rfl)
  have B9 : Below w.heap.size w (w2.setCell ⟨w.heap.size + 1, 0, none⟩ (.slice none 0 0)) := B2.setCell (show w.heap.size ≤ w.heap.size + 1 by omega) _
  go_wp2_with fail
  refine bodyPost_ret (by rw [results_sp9 rfl]; go_simp; try rfl) rfl ?_
  exact ⟨w.heap.size, .slice none 0 0, _, by rw [HE.out], Nat.le_refl _, fun k hk => (by cases hk), by rw [HS0.out]; exact own_nil _ _, by rw [HC0.out]; exact own_nil _ _, B9.size, B9⟩

set_option maxHeartbeats 4000000 in
theorem spec_CodeByColumns_e3 (as0 : Addr) (S : List Int) (cap : Nat) (hn : S.length ≤ 4294967296) (ac : Option Addr) (C : List Int) (capc : Nat) (hnc : C.length ≤ 4294967296) (at' : Option Addr) (T : List Int) (capt : Nat) (hnt : T.length ≤ 4294967296) (hct : T.length ≤ capt) (w : World) (hS : Ints w (some as0) S) (hC : Ints w ac C) (hT : Ints w at' T) (hz : eCs S C T 0 = 0) (hl : ldB S T = true) (hs : isSp (plS T.length (gi S 0)) = false) :
    Calls Try.prog 12 #[.agg #[.slice (some as0) S.length cap], .slice ac C.length capc, .slice at' T.length capt] w fun e w' => ∃ m vs v, e = .returned (.tuple #[.agg #[vs], v, .int .i64 (eCc S C T)]) ∧ w.heap.size ≤ m ∧ RowIn vs w.heap.size m ∧ OwnInts w' w.heap.size vs (vCcS S C T) ∧ OwnInts w' m v (vCcC S C T) ∧ m ≤ w'.heap.size ∧ Below w.heap.size w w' := by
  obtain ⟨W0, hW0, cS, rR, z0, B0⟩ := box2_9 w (.slice (some as0) S.length cap) (.slice none 0 0) 26
  have HW0 := Lib.hid hW0
  have z0a : w.heap.size + 2 ≤ W0.heap.size := by omega
  have hce := l09Set_any (some as0) S cap hn ac C capc hnc at' T capt hnt W0 (hS.below B0) (hC.below B0) (hT.below B0)
  obtain ⟨x1, x2, x3⟩ := eCc_3 hz hl hs
  have HE := Lib.hid x1
  have HS0 := Lib.hid x2
  have HC0 := Lib.hid x3
  have HP := Lib.hid (eCs_zero hz).1
  have h8 := (eCs_zero hz).2.2.2.1
  have hlo := (eCs_zero hz).1.sp.lo
  have hlo0 : 0 < S.length := by omega
  have hst := ((ldB_iff S T).1 hl).1
  have h1T : 1 ≤ T.length := by omega
  obtain ⟨Q, hQ⟩ : ∃ Q : Nat, gi S 0 = (Q : Int) := ⟨(gi S 0).toNat, by have := (eCs_zero hz).1.q; omega⟩
  have HQ := Lib.hid hQ
  have hQ3 : Q ≤ 3 := by have := (eCs_zero hz).1.q; omega
  obtain ⟨sb, so, hso, hsbl, hsc⟩ := hS.at (i := 0) (by omega)
  obtain rfl := Option.some.inj hso
  have hs0 := hsc 0 (by omega)
  rw [Nat.add_zero, hQ] at hs0
  rw [hQ] at hs
  have HIS := Lib.hid hs
  rw [hz] at hce
  have HCE := Lib.hid hce
  have HLD := Lib.hid hl
  clear hW0 z0 hce hz hl hs hsc hso hQ x1 x2 x3
  go_enter Try.func12, Try.ntmps12
  go_wp2_with fail
  rw [← HW0.out]
  refine HCE.out.mono ?_
  rintro e w1 ⟨rfl, hb1⟩
  have s1 : w.heap.size + 2 ≤ w1.heap.size := by have := hb1.size; omega
  have cS1 := kept_cell hb1 cS (by omega)
  have rR1 := row_below9 rR hb1 (by omega)
  have B1 := B0.trans (hb1.mono (by omega))
  clear HCE hb1
  have hle := l09Led_any _ S cap HP.out at' T capt hnt w1 (hS.below B1) (hT.below B1)
  rw [HLD.out] at hle
  have HLE := Lib.hid hle
  clear hle
  go_wp2_with fail
  refine HLE.out.mono ?_
  rintro e w2 ⟨rfl, hb2⟩
  have s2 : w.heap.size + 2 ≤ w2.heap.size := by have := hb2.size; omega
  have cS2 := kept_cell hb2 cS1 (by omega)
  have rR2 := row_below9 rR1 hb2 (by omega)
  have B2 := B1.trans (hb2.mono B1.size)
  clear hb2 HLE cS1 rR1
  have hcs2 := kept_cell B2 hs0 hsbl
  obtain ⟨Z, hZ⟩ : ∃ Z, Z = w2.heap.size := ⟨_, rfl⟩
  obtain ⟨W3, hW3⟩ : ∃ W3, W3 = (w2.alloc (.cells #[] 2)).alloc (.cells #[.slice (some ⟨w2.heap.size, 0, none⟩) 0 0] 26) := ⟨_, rfl⟩
  have b3 : Below w2.heap.size w2 W3 := by rw [hW3]; exact ((Below.refl _ _).alloc (Nat.le_refl _) _).alloc (by simp) _
  have oY : OwnInts W3 w2.heap.size (.slice (some ⟨w2.heap.size, 0, none⟩) 0 0) (plS 0 (Q : Int)) := by rw [hW3]; exact (own_empty w2 w2.heap.size (Nat.le_refl _) rfl).alloc _
  have rY : W3.heap[w2.heap.size + 1]? = some (.cells #[.slice (some ⟨w2.heap.size, 0, none⟩) 0 0] 26 (0, 0)) := by
    have e : (w2.alloc (.cells #[] 2)).heap.size = w2.heap.size + 1 := by simp
    rw [hW3, ← e]; exact heap_alloc_new _ _
  have z3 : w2.heap.size + 2 ≤ W3.heap.size := by rw [hW3]; simp
  have rR3 := row_below9 rR2 b3 (by omega)
  have cS3 := kept_cell b3 cS2 (by omega)
  have B3 := B2.trans (b3.mono B2.size)
  have hcs3 := kept_cell b3 hcs2 (by have := B2.size; omega)
  have HW3 := Lib.hid hW3
  have hfz : ((w2.alloc (.cells #[] 2)).alloc (.cells #[.slice none 0 0] 26)).frozen? ⟨w2.heap.size + 1, 0, none⟩ = false := by
    have e : (w2.alloc (.cells #[] 2)).heap.size = w2.heap.size + 1 := by simp
    have h' := heap_alloc_new (w2.alloc (.cells #[] 2)) (.cells #[.slice none 0 0] 26)
    rw [e] at h'
    simp only [World.frozen?, h']; simp
  clear hW3 b3 hcs2 cS2 rR2 hZ
  go_wp2_with fail
  rw [← HW3.out]
  go_loopw [38] (fun x wr => ∃ (i : Nat) (vS : Value), i ≤ T.length ∧ x = .int .i64 i ∧ OwnInts wr w2.heap.size vS (plS i (Q : Int)) ∧ vS.ownBlock ≠ some (w2.heap.size + 1) ∧ wr.heap[w2.heap.size + 1]? = some (.cells #[vS] 26 (0, 0)) ∧ w2.heap.size + 2 ≤ wr.heap.size ∧ Below w2.heap.size W3 wr) (fun x _ => T.length - (intOf x).toNat)
  case atStart => exact ⟨0, _, Nat.zero_le _, rfl, oY, by simp [Value.ownBlock], rY, z3, Below.refl _ _⟩
  case round =>
    clear oY rY z3
    obtain ⟨i, vS, hi, rfl, oY, hvS, rY, z3, By⟩ := hrel
    by_cases hlt : i < T.length
    · have hYc := cell_of19 rY
      have hYc2 := kept_cell (((Below.refl wr.heap.size wr).alloc (Nat.le_refl _) (.cells #[.int .i64 (Q : Int)] 2)).drew) hYc (by omega)
      have hl8 := plS_len i (Q : Int)
      have HSS := Lib.hid (plS_snoc i (Q : Int))
      have hcq := kept_cell By hcs3 (by have := B2.size; omega)
      have hcS := kept_cell By cS3 (by omega)
      have hYf := frozen_of_row wr (w2.heap.size + 1) 0 _ _ rY
      obtain ⟨Lp, hLp⟩ : ∃ Lp, Lp = plS i (Q : Int) := ⟨_, rfl⟩
      rw [← hLp] at oY hl8 HSS
      have hl9 : Lp.length ≤ 1000 := by omega
      clear hLp hl8
      go_wp2_with fail
      go_region_law (refine step_append_i9 rfl (.tmp 41) (.tmp 46) rfl w2.heap.size vS Lp (by simp [Act.eval, Act.put]) (oY.alloc _) wr.heap.size (Q : Int) (by simp [Act.eval, Act.put]) (by simp) (by omega) (by simp; omega) ?_; intro g5 cap5 w5 own5 hg5 hat5; have rY5 := row_kept9 (row_alloc9 (w := wr.drew) rY (.cells #[.int .i64 (Q : Int)] 2)) hg5 (fun e => hvS e.symm); have cY5 := cell_of19 rY5; have fY5 := frozen_of_row w5 (w2.heap.size + 1) 0 _ _ rY5)
      all_goals
        have B5 : Below w2.heap.size W3 w5 := grown_below (By.alloc (by omega) (.cells #[.int .i64 (Q : Int)] 2)).drew (by simp; omega) hg5 (oY.alloc _).drew (Nat.le_refl _)
        have hz5 : w2.heap.size + 2 ≤ w5.heap.size := by have := hg5.size; simp at this; omega
        have hne5 : g5 ≠ w2.heap.size + 1 := by
          rcases hat5 with h | h
          · intro e; rw [e] at h; exact hvS h
          · simp at h; omega
        go_wp2
        go_roundw
        case rel => exact ⟨i + 1, _, by omega, by go_num, by rw [← HSS.out]; exact own5.kept (grown_setCell (World.grownBy.refl _ (some (w2.heap.size + 1))) 0 _) (.inr (by simp [Value.ownBlock]; exact hne5)), by simp [Value.ownBlock]; exact hne5, row_store19 _ rY5, by simpa using hz5, B5.setCell (by simp) _⟩
        case measure => simp [intOf]; omega
    · have hiT : Hid (i = T.length) := Lib.hid (by omega)
      rw [hiT.out] at oY
      have oYs := oY.shape
      rw [plS_len] at oYs
      obtain ⟨ya, yk, rfl⟩ := oYs
      have rR4 := row_below9 rR3 By (by omega)
      have cS4 := kept_cell By cS3 (by omega)
      have B4 := B3.trans (By.mono B2.size)
      have cY4 := cell_of19 rY
      clear By rR3 cS3 B3 hfz hcs3 HW3
      go_wp2_with fail
      refine (l01Is_n9 _ (plS T.length (Q : Int)) T.length yk (plS_len _ _).symm wr (by omega) (own_ints oY)).mono ?_
      rw [HIS.out]
      rintro e w5 ⟨rfl, hb5⟩
      have rY5 := row_below9 rY hb5 (by omega)
      have rR5 := row_below9 rR4 hb5 (by omega)
      have cS5 := kept_cell hb5 cS4 (by omega)
      have oY5 := oY.below hb5
      have B5 := B4.trans (hb5.mono B4.size)
      have z5 : w2.heap.size + 2 ≤ w5.heap.size := Nat.le_trans z3 hb5.size
      have cY5 := cell_of19 rY5
      clear hb5 rY rR4 cS4 oY B4 z3 cY4
      have rc : w5.cell? ⟨w.heap.size + 1, 0, none⟩ = some (.slice none 0 0) := by rw [cell_of_row w5 (w.heap.size + 1) 0 _ _ _ rR5]; rfl
      have rf : w5.frozen? ⟨w.heap.size + 1, 0, none⟩ = false := by have h' := rR5; simp [World.frozen?, h']
      have rs : (w5.setCell ⟨w.heap.size + 1, 0, none⟩ (.slice none 0 0)).cell? ⟨w.heap.size + 1, 0, none⟩ = some (.slice none 0 0) := World.cell?_setCell_same' _ _ _ (by rw [rc]; rfl)
      have B9 : Below w.heap.size w (w5.setCell ⟨w.heap.size + 1, 0, none⟩ (.slice none 0 0)) := B5.setCell (show w.heap.size ≤ w.heap.size + 1 by omega) _
      go_wp2_with fail
      refine bodyPost_ret (by rw [results_sp9 rfl]; go_simp; try rfl) rfl ?_
      exact ⟨w.heap.size, .slice none 0 0, _, by rw [HE.out], Nat.le_refl _, fun k hk => (by cases hk), by rw [HS0.out]; exact own_nil _ _, by rw [HC0.out]; exact own_nil _ _, B9.size, B9⟩

set_option maxHeartbeats 4000000 in
theorem spec_CodeByColumns_ok (as0 : Addr) (S : List Int) (cap : Nat) (hn : S.length ≤ 4294967296) (ac : Option Addr) (C : List Int) (capc : Nat) (hnc : C.length ≤ 4294967296) (at' : Option Addr) (T : List Int) (capt : Nat) (hnt : T.length ≤ 4294967296) (hct : T.length ≤ capt) (w : World) (hS : Ints w (some as0) S) (hC : Ints w ac C) (hT : Ints w at' T) (hz : eCs S C T 0 = 0) (hl : ldB S T = true) (hs : isSp (plS T.length (gi S 0)) = true) :
    Calls Try.prog 12 #[.agg #[.slice (some as0) S.length cap], .slice ac C.length capc, .slice at' T.length capt] w fun e w' => ∃ m vs v, e = .returned (.tuple #[.agg #[vs], v, .int .i64 (eCc S C T)]) ∧ w.heap.size ≤ m ∧ RowIn vs w.heap.size m ∧ OwnInts w' w.heap.size vs (vCcS S C T) ∧ OwnInts w' m v (vCcC S C T) ∧ m ≤ w'.heap.size ∧ Below w.heap.size w w' := by
  obtain ⟨W0, hW0, cS, rR, z0, B0⟩ := box2_9 w (.slice (some as0) S.length cap) (.slice none 0 0) 26
  have HW0 := Lib.hid hW0
  have z0a : w.heap.size + 2 ≤ W0.heap.size := by omega
  have hce := l09Set_any (some as0) S cap hn ac C capc hnc at' T capt hnt W0 (hS.below B0) (hC.below B0) (hT.below B0)
  obtain ⟨x1, x2, x3⟩ := eCc_ok hz hl hs
  have HE := Lib.hid x1
  obtain ⟨_, hcz, hwz, _, _, _⟩ := eCs_zero hz
  have HTW : Hid (∀ i, i < T.length → Wd S (gi T i)) := Lib.hid (eWords_zero hwz).2
  obtain ⟨_, hc1, _⟩ := eCode_zero hcz
  have HP := Lib.hid (eCs_zero hz).1
  have h8 := (eCs_zero hz).2.2.2.1
  have hlo := (eCs_zero hz).1.sp.lo
  have hlo0 : 0 < S.length := by omega
  have hst := ((ldB_iff S T).1 hl).1
  have h1T : 1 ≤ T.length := by omega
  obtain ⟨Q, hQ⟩ : ∃ Q : Nat, gi S 0 = (Q : Int) := ⟨(gi S 0).toNat, by have := (eCs_zero hz).1.q; omega⟩
  have HQ := Lib.hid hQ
  have hQ3 : Q ≤ 3 := by have := (eCs_zero hz).1.q; omega
  obtain ⟨sb, so, hso, hsbl, hsc⟩ := hS.at (i := 0) (by omega)
  obtain rfl := Option.some.inj hso
  have hs0 := hsc 0 (by omega)
  rw [Nat.add_zero, hQ] at hs0
  rw [hQ] at hs x2 x3
  have HS0 := Lib.hid x2
  have hSY := (isSp_iff _).1 hs
  have hNY := nW_bd hSY
  obtain ⟨N, hNe⟩ : ∃ N : Nat, nW (plS T.length (Q : Int)) = (N : Int) := ⟨(nW (plS T.length (Q : Int))).toNat, by omega⟩
  rw [hNe] at hNY x3
  rw [Int.toNat_natCast] at x3
  have HC0 := Lib.hid x3
  have HN := Lib.hid hNe
  have hN2 : N ≤ 1024 := by omega
  have HSY := Lib.hid hSY
  have HSS := Lib.hid (eCs_zero hz).1.sp
  have hNS := nW_bd HSS.out
  have HCW : Hid (∀ i, i < C.length → 0 ≤ gi C i ∧ gi C i < nW S) := Lib.hid hc1
  have hcl := code_len0 hcz
  obtain ⟨M, hM⟩ : ∃ M, M = (nW S).toNat := ⟨_, rfl⟩
  have HM : Hid ((nW S).toNat = M) := Lib.hid hM.symm
  have HMi : Hid (nW S = (M : Int)) := Lib.hid (by omega)
  have hM2 : M ≤ 1024 := by omega
  have HIS := Lib.hid hs
  rw [hz] at hce
  have HCE := Lib.hid hce
  have HLD := Lib.hid hl
  clear hW0 z0 hce hz hl hs hsc hso hQ x1 x2 x3 hcz hwz hc1 hSY hNY hNe hNS hM
  go_enter Try.func12, Try.ntmps12
  go_wp2_with fail
  rw [← HW0.out]
  refine HCE.out.mono ?_
  rintro e w1 ⟨rfl, hb1⟩
  have s1 : w.heap.size + 2 ≤ w1.heap.size := by have := hb1.size; omega
  have cS1 := kept_cell hb1 cS (by omega)
  have rR1 := row_below9 rR hb1 (by omega)
  have B1 := B0.trans (hb1.mono (by omega))
  clear HCE hb1
  have hle := l09Led_any _ S cap HP.out at' T capt hnt w1 (hS.below B1) (hT.below B1)
  rw [HLD.out] at hle
  have HLE := Lib.hid hle
  clear hle
  go_wp2_with fail
  refine HLE.out.mono ?_
  rintro e w2 ⟨rfl, hb2⟩
  have s2 : w.heap.size + 2 ≤ w2.heap.size := by have := hb2.size; omega
  have cS2 := kept_cell hb2 cS1 (by omega)
  have rR2 := row_below9 rR1 hb2 (by omega)
  have B2 := B1.trans (hb2.mono B1.size)
  clear hb2 HLE cS1 rR1
  have hcs2 := kept_cell B2 hs0 hsbl
  obtain ⟨Z, hZ⟩ : ∃ Z, Z = w2.heap.size := ⟨_, rfl⟩
  obtain ⟨W3, hW3⟩ : ∃ W3, W3 = (w2.alloc (.cells #[] 2)).alloc (.cells #[.slice (some ⟨w2.heap.size, 0, none⟩) 0 0] 26) := ⟨_, rfl⟩
  have b3 : Below w2.heap.size w2 W3 := by rw [hW3]; exact ((Below.refl _ _).alloc (Nat.le_refl _) _).alloc (by simp) _
  have oY : OwnInts W3 w2.heap.size (.slice (some ⟨w2.heap.size, 0, none⟩) 0 0) (plS 0 (Q : Int)) := by rw [hW3]; exact (own_empty w2 w2.heap.size (Nat.le_refl _) rfl).alloc _
  have rY : W3.heap[w2.heap.size + 1]? = some (.cells #[.slice (some ⟨w2.heap.size, 0, none⟩) 0 0] 26 (0, 0)) := by
    have e : (w2.alloc (.cells #[] 2)).heap.size = w2.heap.size + 1 := by simp
    rw [hW3, ← e]; exact heap_alloc_new _ _
  have z3 : w2.heap.size + 2 ≤ W3.heap.size := by rw [hW3]; simp
  have rR3 := row_below9 rR2 b3 (by omega)
  have cS3 := kept_cell b3 cS2 (by omega)
  have B3 := B2.trans (b3.mono B2.size)
  have hcs3 := kept_cell b3 hcs2 (by have := B2.size; omega)
  have HW3 := Lib.hid hW3
  have hfz : ((w2.alloc (.cells #[] 2)).alloc (.cells #[.slice none 0 0] 26)).frozen? ⟨w2.heap.size + 1, 0, none⟩ = false := by
    have e : (w2.alloc (.cells #[] 2)).heap.size = w2.heap.size + 1 := by simp
    have h' := heap_alloc_new (w2.alloc (.cells #[] 2)) (.cells #[.slice none 0 0] 26)
    rw [e] at h'
    simp only [World.frozen?, h']; simp
  clear hW3 b3 hcs2 cS2 rR2 hZ
  go_wp2_with fail
  rw [← HW3.out]
  go_loopw [38] (fun x wr => ∃ (i : Nat) (vS : Value), i ≤ T.length ∧ x = .int .i64 i ∧ OwnInts wr w2.heap.size vS (plS i (Q : Int)) ∧ vS.ownBlock ≠ some (w2.heap.size + 1) ∧ wr.heap[w2.heap.size + 1]? = some (.cells #[vS] 26 (0, 0)) ∧ w2.heap.size + 2 ≤ wr.heap.size ∧ Below w2.heap.size W3 wr) (fun x _ => T.length - (intOf x).toNat)
  case atStart => exact ⟨0, _, Nat.zero_le _, rfl, oY, by simp [Value.ownBlock], rY, z3, Below.refl _ _⟩
  case round =>
    clear oY rY z3
    obtain ⟨i, vS, hi, rfl, oY, hvS, rY, z3, By⟩ := hrel
    by_cases hlt : i < T.length
    · have hYc := cell_of19 rY
      have hYc2 := kept_cell (((Below.refl wr.heap.size wr).alloc (Nat.le_refl _) (.cells #[.int .i64 (Q : Int)] 2)).drew) hYc (by omega)
      have hl8 := plS_len i (Q : Int)
      have HSS := Lib.hid (plS_snoc i (Q : Int))
      have hcq := kept_cell By hcs3 (by have := B2.size; omega)
      have hcS := kept_cell By cS3 (by omega)
      have hYf := frozen_of_row wr (w2.heap.size + 1) 0 _ _ rY
      obtain ⟨Lp, hLp⟩ : ∃ Lp, Lp = plS i (Q : Int) := ⟨_, rfl⟩
      rw [← hLp] at oY hl8 HSS
      have hl9 : Lp.length ≤ 1000 := by omega
      clear hLp hl8
      go_wp2_with fail
      go_region_law (refine step_append_i9 rfl (.tmp 41) (.tmp 46) rfl w2.heap.size vS Lp (by simp [Act.eval, Act.put]) (oY.alloc _) wr.heap.size (Q : Int) (by simp [Act.eval, Act.put]) (by simp) (by omega) (by simp; omega) ?_; intro g5 cap5 w5 own5 hg5 hat5; have rY5 := row_kept9 (row_alloc9 (w := wr.drew) rY (.cells #[.int .i64 (Q : Int)] 2)) hg5 (fun e => hvS e.symm); have cY5 := cell_of19 rY5; have fY5 := frozen_of_row w5 (w2.heap.size + 1) 0 _ _ rY5)
      all_goals
        have B5 : Below w2.heap.size W3 w5 := grown_below (By.alloc (by omega) (.cells #[.int .i64 (Q : Int)] 2)).drew (by simp; omega) hg5 (oY.alloc _).drew (Nat.le_refl _)
        have hz5 : w2.heap.size + 2 ≤ w5.heap.size := by have := hg5.size; simp at this; omega
        have hne5 : g5 ≠ w2.heap.size + 1 := by
          rcases hat5 with h | h
          · intro e; rw [e] at h; exact hvS h
          · simp at h; omega
        go_wp2
        go_roundw
        case rel => exact ⟨i + 1, _, by omega, by go_num, by rw [← HSS.out]; exact own5.kept (grown_setCell (World.grownBy.refl _ (some (w2.heap.size + 1))) 0 _) (.inr (by simp [Value.ownBlock]; exact hne5)), by simp [Value.ownBlock]; exact hne5, row_store19 _ rY5, by simpa using hz5, B5.setCell (by simp) _⟩
        case measure => simp [intOf]; omega
    · have hiT : Hid (i = T.length) := Lib.hid (by omega)
      rw [hiT.out] at oY
      have oYs := oY.shape
      rw [plS_len] at oYs
      obtain ⟨ya, yk, rfl⟩ := oYs
      have rR4 := row_below9 rR3 By (by omega)
      have cS4 := kept_cell By cS3 (by omega)
      have B4 := B3.trans (By.mono B2.size)
      have cY4 := cell_of19 rY
      clear By rR3 cS3 B3 hfz hcs3 HW3
      go_wp2_with fail
      refine (l01Is_n9 _ (plS T.length (Q : Int)) T.length yk (plS_len _ _).symm wr (by omega) (own_ints oY)).mono ?_
      rw [HIS.out]
      rintro e w5 ⟨rfl, hb5⟩
      have rY5 := row_below9 rY hb5 (by omega)
      have rR5 := row_below9 rR4 hb5 (by omega)
      have cS5 := kept_cell hb5 cS4 (by omega)
      have oY5 := oY.below hb5
      have B5 := B4.trans (hb5.mono B4.size)
      have z5 : w2.heap.size + 2 ≤ w5.heap.size := Nat.le_trans z3 hb5.size
      have cY5 := cell_of19 rY5
      clear hb5 rY rR4 cS4 oY B4 z3 cY4
      have hset := l05Set_any _ S cap HSS.out ac C capc (by omega) HCW.out w5 (hS.below B5) (hC.below B5)
      rw [HM.out] at hset
      have HSET := Lib.hid hset
      clear hset
      go_wp2_with fail
      refine HSET.out.mono ?_
      rintro e w6 ⟨gB, rfl, ownB, hb6⟩
      have rY6 := row_below9 rY5 hb6 (by omega)
      have rR6 := row_below9 rR5 hb6 (by omega)
      have cS6 := kept_cell hb6 cS5 (by omega)
      have oY6 := oY5.below hb6
      have B6 := B5.trans (hb6.mono B5.size)
      have z6 : w2.heap.size + 2 ≤ w6.heap.size := Nat.le_trans z5 hb6.size
      have cY6 := cell_of19 rY6
      have hIB : ∀ s, s < M → w6.cell? ⟨gB, s, none⟩ = some (.bool (inL C s)) := fun s hs => by
        have h := ownB.cell (k := s) (by simp; exact hs)
        rw [h]; congr 2; simp [gb, hs]
      have hgB := ownB.base_le.2
      have HIB := Lib.hid hIB
      have hYI := own_ints oY6
      clear hb6 rY5 rR5 cS5 oY5 B5 z5 cY5 ownB hIB HSET
      go_wp2_with fail
      go_loopw [12, 13] (fun v u wr => ∃ k : Nat, k ≤ N ∧ u = .int .i64 k ∧ OwnInts wr w6.heap.size v (selL (ccB S C T) k) ∧ Below w6.heap.size w6 wr) (fun _ u _ => N - (intOf u).toNat)
      case atStart => exact ⟨0, Nat.zero_le _, rfl, own_empty w6 _ (Nat.le_refl _) rfl, (Below.refl _ w6).alloc (Nat.le_refl _) _⟩
      case round =>
        obtain ⟨k, hk, rfl, own, Br⟩ := hrel
        have cYr := kept_cell Br cY6 (by omega)
        have hYr := hYI.below Br
        go_wp2_with fail
        refine (l01N_n9 _ (plS T.length (Q : Int)) T.length yk (plS_len _ _).symm N HN _ HSY.out hYr).mono ?_
        rintro e w7 ⟨rfl, hb7⟩
        have own7 := own.below hb7
        have Br7 := Br.trans (hb7.mono Br.size)
        clear own Br hb7 cYr hYr
        by_cases hlk : k < N
        · have hk2 : (k : Int) ≤ 1024 := by omega
          have cYr := kept_cell Br7 cY6 (by omega)
          have HST := selL_step (ccB S C T) k
          have hle := selL_le (ccB S C T) k
          have hlx : (selL (ccB S C T) k).length ≤ 1073741824 := by omega
          have HQ0 : Hid (csF S T (Q : Int) 0 (quo (plS T.length (Q : Int)) (k : Int) 0) = 0) := Lib.hid rfl
          have HCD : Hid (∀ c, c < T.length → csF S T (Q : Int) (c + 1) (quo (plS T.length (Q : Int)) (k : Int) (c + 1)) = itW S (gi T c) (csF S T (Q : Int) c (quo (plS T.length (Q : Int)) (k : Int) c)) (dig (plS T.length (Q : Int)) (k : Int) c).toNat) := Lib.hid fun c hc => cs_dig S T T.length Q (k : Int) c hc
          have HCA := Lib.hid (cs_all S T T.length (Q : Int) (k : Int))
          have HCB : Hid (ccB S C T k = inL C (csF S T (Q : Int) T.length (k : Int)).toNat) := Lib.hid (by unfold ccB; rw [HQ.out])
          have HFW : Hid (∀ c, Wd S (csF S T (Q : Int) c (quo (plS T.length (Q : Int)) (k : Int) c))) := Lib.hid fun c => csF_wd HSS.out _ _ _ _
          obtain ⟨F, hF⟩ : ∃ F : Nat → Int, F = fun c => csF S T (Q : Int) c (quo (plS T.length (Q : Int)) (k : Int) c) := ⟨_, rfl⟩
          have HF0 : Hid (F 0 = 0) := Lib.hid (by rw [hF]; exact HQ0.out)
          have HFD : Hid (∀ c, c < T.length → F (c + 1) = itW S (gi T c) (F c) (dig (plS T.length (Q : Int)) (k : Int) c).toNat) := Lib.hid fun c hc => by rw [hF]; exact HCD.out c hc
          have HFW2 : Hid (∀ c, Wd S (F c)) := Lib.hid fun c => by rw [hF]; exact HFW.out c
          have HFN : Hid (ccB S C T k = inL C (F T.length).toNat) := Lib.hid (by rw [HCB.out, hF, ← HCA.out])
          have HDB : Hid (∀ c, c < T.length → 0 ≤ dig (plS T.length (Q : Int)) (k : Int) c ∧ dig (plS T.length (Q : Int)) (k : Int) c < (Q : Int)) := Lib.hid fun c hc => by
            have h := dig_bd (plS T.length (Q : Int)) (k : Int) HSY.out.bd c (by rw [plS_len]; exact hc)
            rw [gi_plS _ _ _ hc] at h; exact h
          clear hF hle HQ0 HCD HCA HCB HFW
          go_wp2_with fail
          refine (l01Digits_n9 _ (plS T.length (Q : Int)) T.length yk (plS_len _ _).symm HSY.out.hi HSY.out.bd (k : Int) (by omega) (by omega) _ (hYI.below Br7)).mono ?_
          rintro e w8 ⟨gD, rfl, dg, hb8⟩
          have own8 := own7.below hb8
          have Br8 := Br7.trans (hb8.mono Br7.size)
          have Br7s := Br7.size
          clear hb8 own7 Br7 cYr
          go_wp2_with fail
          obtain ⟨va, vk, rfl⟩ := own8.shape
          obtain ⟨Ls, hLs⟩ : ∃ Ls, Ls = selL (ccB S C T) k := ⟨_, rfl⟩
          rw [← hLs] at own8 HST hlx ⊢
          clear hLs
          replace dg := dg.rebase (base' := w6.heap.size) Br7s
          go_loopw [15, 69] (fun s x wr => ∃ c : Nat, c ≤ T.length ∧ x = .int .i64 c ∧ s = .int .i64 (F c) ∧ OwnInts wr w6.heap.size (.slice va Ls.length vk) Ls ∧ OwnInts wr w6.heap.size (.slice (some ⟨gD, 0, none⟩) T.length T.length) (digs (plS T.length (Q : Int)) (k : Int)) ∧ Below w6.heap.size w6 wr) (fun _ x _ => T.length - (intOf x).toNat)
          case atStart => exact ⟨0, Nat.zero_le _, rfl, by rw [HF0.out], own8, dg, Br8⟩
          case round =>
            clear own8 dg Br8
            obtain ⟨c, hc, rfl, rfl, own, dg, Br⟩ := hrel
            by_cases hlc : c < T.length
            · have hdc := dg.cell (k := c) (by rw [digs_length, plS_len]; exact hlc)
              rw [gi_digs _ _ _ (by rw [plS_len]; exact hlc)] at hdc
              obtain ⟨d1, d2⟩ := HDB.out c hlc
              obtain ⟨D, hD⟩ : ∃ D : Nat, dig (plS T.length (Q : Int)) (k : Int) c = (D : Int) := ⟨_, (Int.toNat_of_nonneg d1).symm⟩
              have hfd := HFD.out c hlc
              rw [hD, Int.toNat_natCast] at hfd
              rw [hD] at hdc d2
              obtain ⟨tb, to, rfl, htbl, htc⟩ := hT.at hlc
              have hcx0 := htc c hlc
              have hxw := HTW.out c hlc
              obtain ⟨x, hx⟩ : ∃ x, x = gi T c := ⟨_, rfl⟩
              rw [← hx] at hcx0 hxw hfd
              unfold Wd at hxw
              obtain ⟨x1, x2⟩ := hxw
              rw [HMi.out] at x2
              have HFD2 := Lib.hid hfd
              have HY0 : Hid (itW S x (F c) 0 = F c) := Lib.hid rfl
              have HYW : Hid (∀ j, Wd S (itW S x (F c) j)) := Lib.hid fun j => itW_wd HSS.out _ (HFW2.out c) j
              have HYS : Hid (∀ j, sumW S (itW S x (F c) j) x = itW S x (F c) (j + 1)) := Lib.hid fun j => rfl
              have hD3 : D ≤ 3 := by omega
              have HDD : Hid ((D : Int) - (D : Int) = 0) := Lib.hid (by omega)
              clear htc hx hD hfd d1 d2
              go_wp2_with fail
              rw [← HY0.out]
              go_loopw [15, 17] (fun s mm wr => ∃ j : Nat, j ≤ D ∧ mm = .int .i64 ((D : Int) - (j : Int)) ∧ s = .int .i64 (itW S x (F c) j) ∧ OwnInts wr w6.heap.size (.slice va Ls.length vk) Ls ∧ OwnInts wr w6.heap.size (.slice (some ⟨gD, 0, none⟩) T.length T.length) (digs (plS T.length (Q : Int)) (k : Int)) ∧ Below w6.heap.size w6 wr) (fun _ mm _ => (intOf mm).toNat)
              case atStart => exact ⟨0, Nat.zero_le _, by simp, rfl, own, dg, Br⟩
              case round =>
                clear own dg Br hdc
                obtain ⟨j, hj, rfl, rfl, own, dg, Br⟩ := hrel
                by_cases hlj : j < D
                · have hyw := HYW.out j
                  unfold Wd at hyw
                  rw [HMi.out] at hyw
                  obtain ⟨y1, y2⟩ := hyw
                  have HY := Lib.hid (HYS.out j)
                  obtain ⟨y, hy⟩ : ∃ y, y = itW S x (F c) j := ⟨_, rfl⟩
                  rw [← hy] at y1 y2 HY ⊢
                  have Bw : Below w.heap.size w wr := B6.trans (Br.mono (by have := B6.size; omega))
                  have cSr := kept_cell Br cS6 (by omega)
                  have lSr : w.heap.size < wr.heap.size := by have := Br.size; omega
                  have hcx := kept_cell Bw hcx0 htbl
                  have hclx := lt_of_below Bw htbl
                  have i1 : (c : Int) < (T.length : Int) := by omega
                  have i2 : (0 : Int) ≤ (c : Int) := by omega
                  have i3 : (0 : Int) < (D : Int) - (j : Int) := by omega
                  obtain ⟨dj, hdj⟩ : ∃ dj, dj = (D : Int) - (j : Int) := ⟨_, rfl⟩
                  have HDJ : Hid ((D : Int) - ((j + 1 : Nat) : Int) = dj - 1) := Lib.hid (by omega)
                  have hdj4 : dj ≤ 3 := by omega
                  rw [← hdj] at i3 ⊢
                  clear hy hdj
                  go_wp2_with fail
                  refine wp_region_held_drew (S := fun w' => w'.cell? ⟨w.heap.size, 0, none⟩ = some (.slice (some ⟨sb, so, none⟩) S.length cap) ∧ w'.cell? ⟨tb, to + c, none⟩ = some (.int .i64 x)) (by kernel_rfl) (⟨cSr, hcx⟩) (fun hHeld => ?_)
                  refine wpAnyH_take (i := 0) (v := ?_) rfl (by kernel_rfl) (by kernel_rfl) (by kernel_rfl) (fun _ _ _ h => h) (Or.inl ⟨by rfl, ?_⟩) (by assumption) ?_
                  rotate_left
                  · (intro w hSw; obtain ⟨hSw0, hSw1⟩ := hSw; (try dsimp only at hSw0 hSw1); go_simp; try (with_reducible rfl))
                  (try simp only [Act.put, List.setIfInBounds_toArray, List.set_cons_zero, List.set_cons_succ, List.getElem_toArray, List.getElem_cons_succ, List.getElem_cons_zero])
                  refine wpAnyH_take (i := 1) (v := ?_) rfl (by kernel_rfl) (by kernel_rfl) (by kernel_rfl) (fun _ _ _ h => h) (Or.inl ⟨by rfl, ?_⟩) (by assumption) ?_
                  rotate_left
                  · (intro w hSw; obtain ⟨hSw0, hSw1⟩ := hSw; (try dsimp only at hSw0 hSw1); go_simp; try (with_reducible rfl))
                  (try simp only [Act.put, List.setIfInBounds_toArray, List.set_cons_zero, List.set_cons_succ, List.getElem_toArray, List.getElem_cons_succ, List.getElem_cons_zero])
                  refine wpAnyH_take (i := 2) (v := ?_) rfl (by kernel_rfl) (by kernel_rfl) (by kernel_rfl) (fun _ _ _ h => h) (Or.inl ⟨by rfl, ?_⟩) (by assumption) ?_
                  rotate_left
                  · (intro w hSw; obtain ⟨hSw0, hSw1⟩ := hSw; (try dsimp only at hSw0 hSw1); go_simp; try (with_reducible rfl))
                  (try simp only [Act.put, List.setIfInBounds_toArray, List.set_cons_zero, List.set_cons_succ, List.getElem_toArray, List.getElem_cons_succ, List.getElem_cons_zero])
                  refine wpAnyH_take (i := 3) (v := ?_) rfl (by kernel_rfl) (by kernel_rfl) (by kernel_rfl) (fun _ _ _ h => h) (Or.inl ⟨by rfl, ?_⟩) (by assumption) ?_
                  rotate_left
                  · (intro w hSw; obtain ⟨hSw0, hSw1⟩ := hSw; (try dsimp only at hSw0 hSw1); go_simp; try (with_reducible rfl))
                  (try simp only [Act.put, List.setIfInBounds_toArray, List.set_cons_zero, List.set_cons_succ, List.getElem_toArray, List.getElem_cons_succ, List.getElem_cons_zero])
                  refine wpAnyH_take (i := 4) (v := ?_) rfl (by kernel_rfl) (by kernel_rfl) (by kernel_rfl) (fun _ _ _ h => h) (Or.inl ⟨by rfl, ?_⟩) (by assumption) ?_
                  rotate_left
                  · (intro w hSw; obtain ⟨hSw0, hSw1⟩ := hSw; (try dsimp only at hSw0 hSw1); go_simp; try (with_reducible rfl))
                  (try simp only [Act.put, List.setIfInBounds_toArray, List.set_cons_zero, List.set_cons_succ, List.getElem_toArray, List.getElem_cons_succ, List.getElem_cons_zero])
                  refine wpAnyH_take (i := 5) (v := ?_) rfl (by kernel_rfl) (by kernel_rfl) (by kernel_rfl) (fun _ _ _ h => h) (Or.inl ⟨by rfl, ?_⟩) (by assumption) ?_
                  rotate_left
                  · (intro w hSw; obtain ⟨hSw0, hSw1⟩ := hSw; (try dsimp only at hSw0 hSw1); go_simp; try (with_reducible rfl))
                  (try simp only [Act.put, List.setIfInBounds_toArray, List.set_cons_zero, List.set_cons_succ, List.getElem_toArray, List.getElem_cons_succ, List.getElem_cons_zero])
                  refine wpAnyH_ready (rs := [6]) (by kernel_rfl) (by simp) ?_
                  refine AllReadyH.cons rfl (fun K hK => ?_) AllReadyH.nil
                  go_simp
                  (go_at_call 44; refine (l01Sum_any _ S cap HSS.out y x y1 (by omega) x1 (by omega) _ (hS.below (Bw.trans (Below.mono (Below.refl wr.heap.size wr).drew Bw.size)))).mono ?_)
                  rintro e x1 ⟨rfl, hb1⟩
                  have H1 : Below wr.heap.size wr x1 := Below.trans (Below.refl wr.heap.size wr).drew (hb1.mono (Below.size (Below.refl wr.heap.size wr).drew))
                  refine hK.out _ _ (⟨kept_cell H1 cSr lSr, kept_cell H1 hcx hclx⟩) (fun hHeld => ?_)
                  clear hK K
                  (try simp only [Act.put, List.setIfInBounds_toArray, List.set_cons_zero, List.set_cons_succ, List.getElem_toArray, List.getElem_cons_succ, List.getElem_cons_zero])
                  refine wpAnyH_take (i := 7) (v := ?_) rfl (by kernel_rfl) (by kernel_rfl) (by kernel_rfl) (fun _ _ _ h => h) (Or.inl ⟨by rfl, ?_⟩) (by assumption) ?_
                  rotate_left
                  · (intro w hSw; obtain ⟨hSw0, hSw1⟩ := hSw; (try dsimp only at hSw0 hSw1); go_simp; try (with_reducible rfl))
                  (try simp only [Act.put, List.setIfInBounds_toArray, List.set_cons_zero, List.set_cons_succ, List.getElem_toArray, List.getElem_cons_succ, List.getElem_cons_zero])
                  refine wpAnyH_done (by kernel_rfl) ?_ _
                  (try simp only [Act.put, List.setIfInBounds_toArray, List.set_cons_zero, List.set_cons_succ, List.getElem_toArray, List.getElem_cons_succ, List.getElem_cons_zero])
                  rw [HY.out]
                  have Br' := Br.trans (Below.mono H1 Br.size)
                  have own' := own.below H1
                  have dg' := dg.below H1
                  obtain ⟨wz, hwz⟩ : ∃ z, z = x1 := ⟨_, rfl⟩
                  rw [← hwz] at Br' own' dg' ⊢
                  clear hwz
                  go_wp2_with fail
                  go_roundw
                  case rel => exact ⟨j + 1, by omega, by rw [HDJ.out], rfl, own', dg', Br'⟩
                  case measure => simp [intOf]; omega
                · have hjD : Hid (j = D) := Lib.hid (by omega)
                  rw [hjD.out, ← HFD2.out]
                  rw [HDD.out]
                  go_wp2_with fail
                  go_roundw
                  case rel => exact ⟨c + 1, by omega, by go_num, rfl, own, dg, Br⟩
                  case measure => simp [intOf]; omega
            · have hcT : Hid (c = T.length) := Lib.hid (by omega)
              rw [hcT.out]
              have hsw := HFW2.out T.length
              unfold Wd at hsw
              rw [HMi.out] at hsw
              obtain ⟨t, ht⟩ : ∃ t : Nat, F T.length = (t : Int) := ⟨_, (Int.toNat_of_nonneg hsw.1).symm⟩
              have hfn := HFN.out
              rw [ht, Int.toNat_natCast] at hfn
              rw [ht] at hsw ⊢
              have htM : t < M := by omega
              have hbt := kept_cell Br (HIB.out t htM) hgB
              have i1 : (t : Int) < (M : Int) := by omega
              have i2 : (0 : Int) ≤ (t : Int) := by omega
              rw [← hfn] at hbt
              clear ht hsw hfn dg
              cases hcc : ccB S C T k with
              | true =>
                rw [hcc, if_pos rfl] at HST
                rw [hcc] at hbt
                have HS2 := Lib.hid HST
                clear hcc HST
                go_wp2_with (at_builtin; refine wpList_append_int rfl _ _ rfl w6.heap.size _ Ls rfl (own.alloc _) wr.heap.size _ rfl (cell_new _ _ _) hlx (by have := Br.size; simp; omega) ?_; intro v' w9 hown' hgrow)
                have B9 : Below w6.heap.size w6 w9 := grown_below (Br.alloc Br.size _) (by have := Br.size; simp; omega) hgrow (own.alloc _) (Nat.le_refl _)
                go_roundw
                case rel => exact ⟨k + 1, by omega, by go_num, by rw [HS2.out]; exact hown', B9⟩
                case measure => simp [intOf]; omega
              | false =>
                rw [hcc, if_neg (by decide), List.append_nil] at HST
                rw [hcc] at hbt
                have HS2 := Lib.hid HST
                clear hcc HST
                go_wp2_with fail
                go_roundw
                case rel => exact ⟨k + 1, by omega, by go_num, by rw [HS2.out]; exact own, Br⟩
                case measure => simp [intOf]; omega
        · have hkN : Hid (k = N) := Lib.hid (by omega)
          have cYr := kept_cell Br7 cY6 (by omega)
          have rRr := row_below9 rR6 Br7 (by omega)
          have rc : w7.cell? ⟨w.heap.size + 1, 0, none⟩ = some (.slice none 0 0) := by rw [cell_of_row w7 (w.heap.size + 1) 0 _ _ _ rRr]; rfl
          have rf : w7.frozen? ⟨w.heap.size + 1, 0, none⟩ = false := by have h' := rRr; simp [World.frozen?, h']
          have rs : (w7.setCell ⟨w.heap.size + 1, 0, none⟩ (.slice ya T.length yk)).cell? ⟨w.heap.size + 1, 0, none⟩ = some (.slice ya T.length yk) := World.cell?_setCell_same' _ _ _ (by rw [rc]; rfl)
          have B9 : Below w.heap.size w (w7.setCell ⟨w.heap.size + 1, 0, none⟩ (.slice ya T.length yk)) := (B6.trans (Br7.mono B6.size)).setCell (show w.heap.size ≤ w.heap.size + 1 by omega) _
          have oY7 := oY6.below Br7
          have hR2 : RowIn (.slice ya T.length yk) w2.heap.size w6.heap.size := oY6.rowIn
          have hs7 := Br7.size
          have hs2 := B2.size
          rw [hkN.out] at own7
          go_wp2_with fail
          refine bodyPost_ret (by rw [results_sp9 rfl]; go_simp; try rfl) rfl ?_
          refine ⟨w6.heap.size, .slice ya T.length yk, _, by rw [HE.out], by omega, fun z hz => by have := hR2 z hz; omega, ?_, ?_, by simp; omega, B9⟩
          · rw [HS0.out]; exact (own_stored_oth9s oY7 (row_ne_box (b := w.heap.size + 1) hR2 (.inl (by omega))) 0 _).rebase (by omega)
          · rw [HC0.out]; exact own7.setBelow (show w.heap.size + 1 < w6.heap.size by omega) _

theorem spec_CodeByColumns (as0 : Addr) (S : List Int) (cap : Nat) (hn : S.length ≤ 4294967296) (ac : Option Addr) (C : List Int) (capc : Nat) (hnc : C.length ≤ 4294967296) (at' : Option Addr) (T : List Int) (capt : Nat) (hnt : T.length ≤ 4294967296) (hct : T.length ≤ capt) (w : World) (hS : Ints w (some as0) S) (hC : Ints w ac C) (hT : Ints w at' T) :
    Calls Try.prog 12 #[.agg #[.slice (some as0) S.length cap], .slice ac C.length capc, .slice at' T.length capt] w fun e w' => ∃ m vs v, e = .returned (.tuple #[.agg #[vs], v, .int .i64 (eCc S C T)]) ∧ w.heap.size ≤ m ∧ RowIn vs w.heap.size m ∧ OwnInts w' w.heap.size vs (vCcS S C T) ∧ OwnInts w' m v (vCcC S C T) ∧ m ≤ w'.heap.size ∧ Below w.heap.size w w' := by
  by_cases h1 : eCs S C T 0 = 0
  · cases h2 : ldB S T with
    | true =>
      cases h3 : isSp (plS T.length (gi S 0)) with
      | true => exact spec_CodeByColumns_ok as0 S cap hn ac C capc hnc at' T capt hnt hct w hS hC hT h1 h2 h3
      | false => exact spec_CodeByColumns_e3 as0 S cap hn ac C capc hnc at' T capt hnt hct w hS hC hT h1 h2 h3
    | false => exact spec_CodeByColumns_e2 as0 S cap hn ac C capc hnc at' T capt hnt hct w hS hC hT h1 h2
  · exact spec_CodeByColumns_e1 as0 S cap hn ac C capc hnc at' T capt hnt hct w hS hC hT h1

end Go.Proofs.Ytamebfbddoeflaa
