/-
  Texts put together: Pri10, MathPq, Bs8, Del. By an AI agent.
-/
import Derived.Test.YtpmfedllbiblbaaGreatPk47
import Derived.Test.YtpmfedllbiblbaaGreatDigits
import Derived.Test.YtpmfedllbiblbaaGreatAppend
import Derived.Test.YtpmfedllbiblbaaGreatAppendAt
import Derived.Test.YtpmfedllbiblbaaGreatMark
import Derived.Test.YtpmfedllbiblbaaGreatPk44
import Derived.Test.YtpmfedllbiblbaaGreatMath
import Derived.Test.YtpmfedllbiblbaaGreatPut
import Derived.Lib.SliceRun
import Derived.Deep.WholeRow
namespace Go.Proofs.YtpmfedllbiblbaaGreat
open Go.RowKit Cv
set_option linter.unusedVariables false
set_option linter.unusedSimpArgs false
set_option maxRecDepth 100000

/-- the digits of the row behind number j: which of the sets hold j -/
def prD (X : List Int) (c j : Nat) : List Int := (List.range c).map fun i => (((gi X i).toNat / 2 ^ j % 2 : Nat) : Int)
theorem prD_len (X : List Int) (c j : Nat) : (prD X c j).length = c := by simp [prD]
theorem gi_prD (X : List Int) (c j i : Nat) (h : i < c) : gi (prD X c j) i = (((gi X i).toNat / 2 ^ j % 2 : Nat) : Int) := by simp [prD, gi, h]
/-- the first rows of the pair rows -/
def prR (X : List Int) (c k : Nat) : List Int := 0 :: (List.range k).map fun j => wordTo (List.replicate c 2) (prD X c j) c
theorem prR_len (X : List Int) (c k : Nat) : (prR X c k).length = k + 1 := by simp [prR]
theorem prR_succ (X : List Int) (c k : Nat) : prR X c (k + 1) = prR X c k ++ [wordTo (List.replicate c 2) (prD X c k) c] := by
  unfold prR; rw [List.range_succ, List.map_append]; rfl
theorem shr_and (x : Int) (j : Nat) (h0 : 0 ≤ x) (h1 : x < 4096) : ((((x.toNat / 2 ^ j % 2 : Nat)) : Int)) = (x / 2 ^ j) % 2 := by
  obtain ⟨n, rfl⟩ : ∃ n : Nat, x = n := ⟨x.toNat, by omega⟩
  rw [Int.toNat_natCast]; push_cast; rfl

theorem results_cell_tmp2p {fn : Func} {p u1 u2 : Tmp} {ty : TypeId} (h : fn.results = #[.cell p ty, .tmp u1, .tmp u2]) (tmps : Array Value) (P : Program) (w : World) :
    (results fn tmps).run P w =
      ((asAddr (tmps.getD p undef)).run P w).andThen fun a w₁ => ((loadVar ty a).run P w₁).andThen fun v w₂ => .ok (.tuple #[v, tmps.getD u1 undef, tmps.getD u2 undef]) w₂ := by
  simp only [results, h]
  simp [Sem.run_bind, Result.andThen]
theorem bv_natp (a : Nat) (h : a < 18446744073709551616) : (BitVec.ofInt 64 (a : Int)).toNat = a := by
  rw [BitVec.ofInt_natCast, BitVec.toNat_ofNat]; exact Nat.mod_eq_of_lt h
theorem bits_and1 {a : Nat} (ha : a < 9223372036854775808) : bits .and .i64 (a : Int) 1 = ((a % 2 : Nat) : Int) := by
  have h : a &&& 1 = a % 2 := Nat.and_one_is_mod a
  have e : bits .and .i64 (a : Int) ((1 : Nat) : Int) = ((a &&& 1 : Nat) : Int) := by
    show IntKind.i64.wrap (((BitVec.ofInt 64 (a : Int) &&& BitVec.ofInt 64 ((1 : Nat) : Int)).toNat : Nat) : Int) = _
    have h3 : a &&& 1 ≤ a := Nat.and_le_left
    rw [BitVec.toNat_and, bv_natp a (by omega), bv_natp 1 (by omega), IntWalk.i64_in _ ⟨by omega, by omega⟩]
  rw [← h]; exact e
theorem shr_bit {x : Int} (h0 : 0 ≤ x) (h1 : x < 4096) (k : Nat) : bits BinOp.and IntKind.i64 (x / 2 ^ k) 1 = ((x.toNat / 2 ^ k % 2 : Nat) : Int) := by
  obtain ⟨n, rfl⟩ : ∃ n : Nat, x = n := ⟨x.toNat, by omega⟩
  rw [Int.toNat_natCast, ← bits_and1 (by have := Nat.div_le_self n (2 ^ k); omega)]
  push_cast; rfl
theorem dg_prD (X : List Int) (c j : Nat) : Dg (List.replicate c 2) (prD X c j) := by
  refine ⟨by rw [prD_len, List.length_replicate], fun i hi => ?_⟩
  rw [List.length_replicate] at hi
  rw [gi_prD _ _ _ _ hi]
  have e : gi (List.replicate c (2 : Int)) i = 2 := by simp [gi, hi]
  rw [e]
  omega

theorem setsL_bd (m : Nat) (hm : m < 12) (h : Nat) (i : Nat) : 0 ≤ gi (setsL m h) i ∧ gi (setsL m h) i < 4096 := by
  by_cases e : i < (setsL m h).length
  · have hx : gi (setsL m h) i ∈ setsL m h := by rw [gi_lt _ _ e]; exact List.getElem_mem _
    obtain ⟨j, hj, _, ej⟩ := (mem_selL _ _ _).1 hx
    have h2 : 2 ^ m ≤ 2 ^ 12 := Nat.pow_le_pow_right (by omega) (by omega)
    rw [← ej]; omega
  · have : gi (setsL m h) i = 0 := by simp [gi, List.getD, List.getElem?_eq_none (Nat.le_of_not_lt e)]
    omega
def vPrS (x : Int) : List Int := if 1 ≤ x ∧ x ≤ 8 then List.replicate x.toNat 2 else []
def vPrC (x : Int) : List Int := if 1 ≤ x ∧ x ≤ 8 then prR (setsL (pn x.toNat - 1) ((pn x.toNat + 1) / 2)) x.toNat (pn x.toNat - 1) else []
theorem vPrS_len (x : Int) : (vPrS x).length ≤ 1024 := by
  unfold vPrS; split
  · rw [List.length_replicate]; omega
  · simp
theorem vPrC_len (x : Int) : (vPrC x).length ≤ 1024 := by
  unfold vPrC; split
  · rename_i h
    have := (pn_facts x.toNat (by omega) (by omega)).2.2.2
    rw [prR_len]; omega
  · simp

set_option maxHeartbeats 4000000 in
theorem pairRows_ok (c : Nat) (h1 : 1 ≤ c) (h8 : c ≤ 8) (w : World) :
    Calls Tryz.prog 29 #[.int .i64 (c : Int)] w fun e w' => ∃ m vs v, e = .returned (.tuple #[.agg #[vs], v, .int .i64 0]) ∧ w.heap.size ≤ m ∧ RowIn vs w.heap.size m ∧ OwnInts w' w.heap.size vs (List.replicate c 2) ∧ OwnInts w' m v (prR (setsL (pn c - 1) ((pn c + 1) / 2)) c (pn c - 1)) ∧ m ≤ w'.heap.size ∧ Below w.heap.size w w' := by
  obtain ⟨f1, f2, f3, f4⟩ := pn_facts c (by omega) h1
  obtain ⟨E1, E2⟩ := ePn_ok (n := c) ⟨h1, h8⟩
  have hp := impl_PairNumber (c : Int) ⟨by omega, by omega⟩
  rw [E1, E2] at hp
  obtain ⟨m, hm⟩ : ∃ m, pn c = m + 1 := ⟨pn c - 1, by omega⟩
  rw [hm] at f1 f2 f3 f4 hp ⊢
  have hXl : c ≤ (setsL m ((m + 1 + 1) / 2)).length := by rw [setsL_len (by omega) (by omega)]; simpa using f2
  have hps := fun W => pairSets_any m (by omega) W
  have HX0 : Hid (∀ i, 0 ≤ gi (setsL m ((m + 1 + 1) / 2)) i ∧ gi (setsL m ((m + 1 + 1) / 2)) i < 4096) := Lib.hid (setsL_bd m (by omega) _)
  rw [show m + 1 - 1 = m from rfl]
  obtain ⟨X, hX⟩ : ∃ X, X = setsL m ((m + 1 + 1) / 2) := ⟨_, rfl⟩
  rw [← hX] at hXl hps HX0 ⊢
  clear hX hm E1 E2 f1 f2
  have hWW : ∀ (a1 a2 : Option Addr) (j : Nat) (W : World), Ints W a1 (List.replicate c 2) → Ints W a2 (prD X c j) → Calls Tryz.prog 74 #[.agg #[.slice a1 c c], .slice a2 c c] W fun e w' => e = .returned (.int .i64 (wordTo (List.replicate c 2) (prD X c j) c)) ∧ Below W.heap.size W w' := fun a1 a2 j W h1' h2' => by
    have h := wordWithDigits_any a1 (List.replicate c 2) c (by simpa using h8) (fun i hi => by rw [List.length_replicate] at hi; simp [gi, hi]) a2 (prD X c j) c c (by simp) (dg_prD X c j) W h1' h2'
    rw [List.length_replicate] at h; exact h
  obtain ⟨M, hM⟩ : ∃ M : Int, M = (m : Int) + 1 := ⟨_, rfl⟩
  have hMm : M - 1 = (m : Int) := by omega
  have e1 : IntKind.i64.wrap (m : Int) = (m : Int) := IntWalk.i64_in _ ⟨by omega, by omega⟩
  go_enter Tryz.func29, Tryz.ntmps29
  go_wp2_with fail
  refine (hp _).mono ?_
  rintro e w1 ⟨rfl, hb1⟩
  have B1 : Below w.heap.size w w1 := Below.trans (by go_grown) (hb1.mono (by simp))
  have d1 := kept_cell hb1 (cell_new w (.slice none 0 0) 26) (lt_alloc w (.cells #[.slice none 0 0] 26))
  have q1 : w1.heap[w.heap.size]? = some (.cells #[.slice none 0 0] 26 (0, 0)) := (hb1.block _ (by simp)).trans (heap_alloc_new _ _)
  have hw01 : w.heap.size < w1.heap.size := by have := hb1.size; simp at this; omega
  have m1 := lt_of_below hb1 (lt_alloc w (.cells #[.slice none 0 0] 26))
  go_wp2_with fail
  refine (plainSpaceOf_any 2 c ⟨h1, h8⟩ _).mono ?_
  rintro e w2 ⟨gs, rfl, oS, hb2⟩
  have B2 := B1.trans (hb2.mono B1.size)
  have c2 := cell_new w2 (.slice (some ⟨gs, 0, none⟩) c c) 26
  have l2 := lt_alloc w2 (.cells #[.slice (some ⟨gs, 0, none⟩) c c] 26)
  have d2 := kept_cell (hb2.alloc hb2.size (.cells #[.slice (some ⟨gs, 0, none⟩) c c] 26)) d1 m1
  have m2 := lt_of_below (hb2.alloc hb2.size (.cells #[.slice (some ⟨gs, 0, none⟩) c c] 26)) m1
  have hw12 := hb2.size
  have B2b := B2.alloc B2.size (.cells #[.slice (some ⟨gs, 0, none⟩) c c] 26)
  have oS2 := oS.alloc (.cells #[.slice (some ⟨gs, 0, none⟩) c c] 26)
  clear hb1 hp oS
  go_wp2_with fail
  refine (hps _).mono ?_
  rintro e w3 ⟨x, rfl, oX, hb3⟩
  obtain ⟨gx, cx, rfl, _⟩ := own_some oX (by intro h; rw [h] at hXl; simp at hXl; omega)
  replace oX := oX.rebase (base' := w2.heap.size) (by simp)
  have c3 := kept_cell hb3 c2 l2
  have l3 := lt_of_below hb3 l2
  have d3 := kept_cell hb3 d2 m2
  have m3 := lt_of_below hb3 m2
  have Bq : Below w1.heap.size w1 w3 := (hb2.alloc hb2.size (.cells #[.slice (some ⟨gs, 0, none⟩) c c] 26)).trans (hb3.mono (by simp; omega))
  have q3 := (Bq.block _ hw01).trans q1
  have hw3 := hb3.size
  simp only [World.size_alloc] at hw3
  have oS3 := oS2.below hb3
  have B3 := B2b.trans (hb3.mono B2b.size)
  obtain ⟨N, hN⟩ : ∃ N, N = X.length := ⟨_, rfl⟩
  have HN := Lib.hid hN
  rw [← hN] at oX hXl ⊢
  have oR0 : OwnInts (w3.alloc (.cells #[.int .i64 0] 2)) w3.heap.size (.slice (some ⟨w3.heap.size, 0, none⟩) 1 1) [0] := World.ownsRow_lit w3 (base := w3.heap.size) (e := 2) (size := 1) #[.int .i64 0] 1 (Nat.le_refl _) (by simp [maxLen]) (by simp)
  have BR0 : Below w3.heap.size w3 (w3.alloc (.cells #[.int .i64 0] 2)) := (Below.refl _ w3).alloc (Nat.le_refl _) _
  have hR0 : Hid (prR X c 0 = [0]) := Lib.hid rfl
  obtain ⟨i0, hi0, hz0, hz1, hz2⟩ := info_parts infoI64
  clear hb2 Bq q1 hps hb3 c2 l2 oS2 B2b B1 B2 hN d1 m1 d2 m2
  go_wp2_with fail
  go_loopw [9, 29] (fun o y wr => ∃ k gr cr : Nat, k ≤ m ∧ y = .int .i64 (k : Int) ∧ o = .slice (some ⟨gr, 0, none⟩) (k + 1) cr ∧ OwnInts wr w3.heap.size (.slice (some ⟨gr, 0, none⟩) (k + 1) cr) (prR X c k) ∧ Below w3.heap.size w3 wr) (fun _ y _ => m - (intOf y).toNat)
  case atStart => exact ⟨0, _, 1, Nat.zero_le _, rfl, rfl, by rw [hR0.out]; exact oR0, BR0⟩
  case round =>
    clear oR0 BR0
    obtain ⟨k, gr, cr, hk, rfl, rfl, oR, BR⟩ := hrel
    obtain ⟨Wo, hWo⟩ : ∃ Wo, Wo = wr := ⟨_, rfl⟩
    subst hWo
    by_cases hlt : k < m
    · have hlI : (k : Int) < (m : Int) := by omega
      go_wp2_with (first | (at_make; refine wpList_make_full _ rfl _ _ 24 rfl Wo.heap.size 2 i0 (.int .i64 0) 1 Tryz.underlying24 hi0 hz0 hz1 .i64 .i64 (c : Int) (c : Int) c rfl rfl rfl rfl (by rw [hz2]; omega) (by unfold maxLen; omega) (Nat.le_refl _) ?_; intro w5 hown hgrow) | fail)
      have b5 : Below Wo.heap.size Wo w5 := below_grown0 hgrow
      have o5 := own_made hown
      have oX5 := (oX.below BR).below b5
      clear hown hgrow
      go_wp2_with fail
      go_loopw [36] (fun y wi => ∃ (i : Nat) (T : List Int), i ≤ c ∧ y = .int .i64 (i : Int) ∧ OwnInts wi Wo.heap.size (.slice (some ⟨Wo.heap.size, 0, none⟩) c c) T ∧ Hid (T.length = c ∧ ∀ q, q < i → gi T q = gi (prD X c k) q) ∧ OwnInts wi w2.heap.size (.slice (some ⟨gx, 0, none⟩) N cx) X ∧ Below Wo.heap.size Wo wi) (fun y _ => c - (intOf y).toNat)
      case atStart => exact ⟨0, _, Nat.zero_le _, rfl, o5, Lib.hid ⟨by simp, fun q hq => by omega⟩, oX5, b5⟩
      case round =>
        clear o5 oX5 b5
        obtain ⟨i, T, hi, rfl, oT, HT, oXi, Bi⟩ := hrel
        by_cases hic : i < c
        · have hiI : (i : Int) < (c : Int) := by omega
          have hiN : (i : Int) < (N : Int) := by omega
          have cX := oXi.cell (k := i) (by rw [← HN.out]; omega)
          have cT := oT.cell (k := i) (by rw [HT.out.1]; exact hic)
          have hfree := oT.free i
          obtain ⟨x1, x2⟩ := HX0.out i
          obtain ⟨xv, hxv⟩ : ∃ xv, xv = gi X i := ⟨_, rfl⟩
          rw [← hxv] at cX x1 x2
          have k0 : ¬ (k : Int) < 0 := by omega
          have k1 : (0 : Int) ≤ (k : Int) := by omega
          obtain ⟨z, hz⟩ : ∃ z : Int, z = bits BinOp.and IntKind.i64 (xv / 2 ^ k) 1 := ⟨_, rfl⟩
          have HZ : Hid (z = gi (prD X c k) i) := Lib.hid (by rw [hz, gi_prD _ _ _ _ hic, ← hxv]; exact shr_bit x1 x2 k)
          have HT2 : Hid ((T.set i z).length = c ∧ ∀ q, q < i + 1 → gi (T.set i z) q = gi (prD X c k) q) := Lib.hid ⟨by rw [List.length_set]; exact HT.out.1, fun q hq => by
            rw [gi_set _ _ _ _ (by rw [HT.out.1]; exact hic)]
            by_cases e : q = i
            · subst e; rw [if_pos rfl, HZ.out]
            · rw [if_neg e]; exact HT.out.2 q (by omega)⟩
          have oT2 := oT.stored i z
          have g2 : wr.grownBy (wr.setCell ⟨Wo.heap.size, i, none⟩ (.int .i64 z)) (some Wo.heap.size) := grown_setCell (World.grownBy.refl wr _) _ _
          have hgx := (oX.base_le).2
          have hwr := BR.size
          have oX2 := oXi.kept g2 (.inr (by simp only [Value.ownBlock]; intro e; have := Option.some.inj e; omega))
          have Bi2 := Bi.setCell (p := ⟨Wo.heap.size, i, none⟩) (Nat.le_refl _) (.int .i64 z)
          have HZ2 := Lib.hid hz
          clear hxv HZ HT oT oXi g2 hgx Bi hz
          go_wp2_with fail
          rw [← HZ2.out]
          go_roundw
          case rel => exact ⟨i + 1, _, by omega, by go_num, oT2, HT2, oX2, Bi2⟩
          case measure => simp [intOf]; omega
        · have hiI : ¬ (i : Int) < (c : Int) := by omega
          have HTe : Hid (T = prD X c k) := Lib.hid (ext_gi (by rw [HT.out.1, prD_len]) fun q hq => by rw [HT.out.1] at hq; exact HT.out.2 q (by omega))
          rw [HTe.out] at oT
          have BW := BR.trans (Bi.mono BR.size)
          have cS := kept_cell BW c3 l3
          have oSW := oS3.below BW
          have oRW := oR.below Bi
          have hww := hWW (some ⟨gs, 0, none⟩) (some ⟨Wo.heap.size, 0, none⟩) k _ (own_ints oSW) (own_ints oT)
          obtain ⟨V, hV⟩ : ∃ V, V = wordTo (List.replicate c 2) (prD X c k) c := ⟨_, rfl⟩
          rw [← hV] at hww
          have HV := Lib.hid hV
          clear HT HTe oT oXi Bi hV oR BR oSW
          go_wp2_with fail
          refine hww.mono ?_
          rintro e w7 ⟨rfl, hb7⟩
          have oR7 := oRW.below hb7
          have B7 := BW.trans (hb7.mono BW.size)
          have hs7 := B7.size
          have HPl : Hid ((prR X c k).length = k + 1) := Lib.hid (prR_len X c k)
          clear oRW BW hb7 cS
          go_wp2_with (first
            | (at_builtin; refine wpList_append_int rfl _ _ rfl w3.heap.size _ (prR X c k) rfl (oR7.alloc _) w7.heap.size V rfl (cell_new _ _ _) (by rw [HPl.out]; omega) (by simp; omega) ?_; intro v8 w8 own8 hgrow8; obtain ⟨g8, c8, hv8, _⟩ := own_some own8 (by simp); rw [List.length_append, HPl.out, show ([V] : List Int).length = 1 from rfl] at hv8; subst hv8)
            | fail)
          have B8 : Below w3.heap.size w3 w8 := (B7.alloc B7.size (.cells #[.int .i64 V] 2)).grown hgrow8 (by simp; omega) (fun z hz => by have h1 := oR7.base_le.1; have e' : gr = z := Option.some.inj hz; omega)
          rw [HV.out, ← prR_succ] at own8
          clear oR7 B7 hgrow8
          go_wp2_with fail
          go_roundw
          case rel => exact ⟨k + 1, g8, c8, by omega, by go_num, rfl, own8, B8⟩
          case measure => simp [intOf]; omega
    · have hlI : ¬ (k : Int) < (m : Int) := by omega
      have hkm : Hid (prR X c k = prR X c m) := Lib.hid (by rw [show k = m by omega])
      rw [hkm.out] at oR
      have cS := kept_cell BR c3 l3
      have dS := kept_cell BR d3 m3
      have mS := lt_of_below BR m3
      have oSW := oS3.below BR
      have BW := B3.trans (BR.mono B3.size)
      have qW := (BR.block _ m3).trans q3
      have rf := frozen_of_row Wo w.heap.size 0 _ _ qW
      have rs : (Wo.setCell ⟨w.heap.size, 0, none⟩ (.slice (some ⟨gs, 0, none⟩) c c)).cell? ⟨w.heap.size, 0, none⟩ = some (.slice (some ⟨gs, 0, none⟩) c c) := World.cell?_setCell_same' _ _ _ (by rw [dS]; rfl)
      have hS1 := (oS3.base_le).1
      have hS2 := (oS3.base_le).2
      have hw1 : w.heap.size < w1.heap.size := hw01
      have oS9 := (oSW.rebase (base' := w.heap.size + 1) (by omega)).setBelow (a := ⟨w.heap.size, 0, none⟩) (Nat.lt_succ_self _) (.slice (some ⟨gs, 0, none⟩) c c)
      have oR9 := oR.setBelow (a := ⟨w.heap.size, 0, none⟩) m3 (.slice (some ⟨gs, 0, none⟩) c c)
      have B9 := BW.setCell (p := ⟨w.heap.size, 0, none⟩) (Nat.le_refl _) (.slice (some ⟨gs, 0, none⟩) c c)
      have hM3 : w3.heap.size ≤ (Wo.setCell ⟨w.heap.size, 0, none⟩ (.slice (some ⟨gs, 0, none⟩) c c)).heap.size := by simp; exact BR.size
      have hRI : RowIn (.slice (some ⟨gs, 0, none⟩) c c) w.heap.size w3.heap.size := fun b hb => by simp [Value.ownBlock] at hb; omega
      clear oSW oR BW qW
      go_wp2_with fail
      refine bodyPost_ret (by rw [results_cell_tmp2p (fn := Tryz.f29) (p := 2) (u1 := 3) (u2 := 4) (ty := 26) (by kernel_rfl)]; go_simp; try rfl) rfl ?_
      exact ⟨w3.heap.size, _, _, rfl, by omega, hRI, oS9.rebase (Nat.le_succ _), oR9, hM3, B9⟩

set_option maxHeartbeats 1000000 in
theorem impl_PairRows (x : Int) (hx : -9223372036854775808 ≤ x ∧ x ≤ 9223372036854775807) (w : World) :
    Calls Tryz.prog 29 #[.int .i64 x] w fun e w' => ∃ m vs v, e = .returned (.tuple #[.agg #[vs], v, .int .i64 (ePn x)]) ∧ w.heap.size ≤ m ∧ RowIn vs w.heap.size m ∧ OwnInts w' w.heap.size vs (vPrS x) ∧ OwnInts w' m v (vPrC x) ∧ m ≤ w'.heap.size ∧ Below w.heap.size w w' := by
  by_cases h : 1 ≤ x ∧ x ≤ 8
  · obtain ⟨c, rfl⟩ : ∃ c : Nat, x = c := ⟨x.toNat, by omega⟩
    have hk := pairRows_ok c (by omega) (by omega) w
    have e1 : vPrS (c : Int) = List.replicate c 2 := by unfold vPrS; rw [if_pos h, Int.toNat_natCast]
    have e2 : vPrC (c : Int) = prR (setsL (pn c - 1) ((pn c + 1) / 2)) c (pn c - 1) := by unfold vPrC; rw [if_pos h, Int.toNat_natCast]
    rw [e1, e2, (ePn_ok (n := c) ⟨by omega, by omega⟩).1]
    exact hk
  · obtain ⟨E1, E2⟩ := ePn_bad h
    have e1 : vPrS x = [] := by unfold vPrS; rw [if_neg h]
    have e2 : vPrC x = [] := by unfold vPrC; rw [if_neg h]
    have hp := impl_PairNumber x hx
    rw [E1, E2] at hp
    rw [E1, e1, e2]
    clear E1 E2 e1 e2
    go_enter Tryz.func29, Tryz.ntmps29
    go_wp2_with fail
    refine (hp _).mono ?_
    rintro e w1 ⟨rfl, hb1⟩
    have B1 : Below w.heap.size w w1 := Below.trans (by go_grown) (hb1.mono (by simp))
    have d1 := kept_cell hb1 (cell_new w (.slice none 0 0) 26) (lt_alloc w (.cells #[.slice none 0 0] 26))
    have m1 := lt_of_below hb1 (lt_alloc w (.cells #[.slice none 0 0] 26))
    have q1 : w1.heap[w.heap.size]? = some (.cells #[.slice none 0 0] 26 (0, 0)) := (hb1.block _ (by simp)).trans (heap_alloc_new _ _)
    have rf := frozen_of_row w1 w.heap.size 0 _ _ q1
    have rs : (w1.setCell ⟨w.heap.size, 0, none⟩ (.slice none 0 0)).cell? ⟨w.heap.size, 0, none⟩ = some (.slice none 0 0) := World.cell?_setCell_same' _ _ _ (by rw [d1]; rfl)
    have B9 := B1.setCell (p := ⟨w.heap.size, 0, none⟩) (Nat.le_refl _) (.slice none 0 0)
    clear hb1 hp q1
    go_wp2_with fail
    refine bodyPost_ret (by rw [results_cell_tmp2p (fn := Tryz.f29) (p := 2) (u1 := 3) (u2 := 4) (ty := 26) (by kernel_rfl)]; go_simp; try rfl) rfl ?_
    exact ⟨w.heap.size, _, _, rfl, Nat.le_refl _, fun b hb => by simp [Value.ownBlock] at hb, World.ownsRow_nil _ _ _ _, World.ownsRow_nil _ _ _ _, B9.size, B9⟩

end Go.Proofs.YtpmfedllbiblbaaGreat

namespace Go.Proofs.YtpmfedllbiblbaaGreat
open Go.RowKit Cv
set_option linter.unusedVariables false
set_option linter.unusedSimpArgs false
set_option maxRecDepth 100000

theorem pr_len (x : Int) (h : 1 ≤ x ∧ x ≤ 8) : (vPrC x).length = pn x.toNat := by
  have : 2 ≤ pn x.toNat := by unfold pn; split <;> (try split) <;> (try split) <;> omega
  unfold vPrC; rw [if_pos h]; simp [prR]; omega
theorem pr_nil (x : Int) (h : ¬ (1 ≤ x ∧ x ≤ 8)) : vPrS x = [] ∧ vPrC x = [] := by unfold vPrS vPrC; rw [if_neg h, if_neg h]; exact ⟨rfl, rfl⟩
theorem pr_st0 : ∀ n, n < 9 → 1 ≤ n → min n 2 ≤ stTo (vPrS (n : Nat)) (vPrC (n : Nat)) (min 3 n) := by decide +kernel
theorem pr_e0 : ∀ n, n < 9 → 1 ≤ n → eR10 (vPrS (n : Nat)) (vPrC (n : Nat)) 1 = 0 := by decide +kernel
/-- the pair rows have the strength 2 where there are two places -/
theorem pr_st (x : Int) (h : 1 ≤ x ∧ x ≤ 8) : eR10 (vPrS x) (vPrC x) 1 = 0 ∧ min x 2 ≤ vSt (vPrS x) (vPrC x) := by
  obtain ⟨n, rfl⟩ : ∃ n : Nat, x = n := ⟨x.toNat, by omega⟩
  have e1 := pr_e0 n (by omega) (by omega)
  refine ⟨e1, ?_⟩
  have e2 := pr_st0 n (by omega) (by omega)
  have e3 : (vPrS (n : Nat)).length = n := by unfold vPrS; rw [if_pos h]; simp
  unfold vSt; rw [if_pos e1, e3]
  omega
end Go.Proofs.YtpmfedllbiblbaaGreat

namespace Go.Proofs.YtpmfedllbiblbaaGreat
open Go.RowKit Cv
set_option linter.unusedVariables false
set_option linter.unusedSimpArgs false
set_option maxRecDepth 100000

theorem isNaN_any (x : Int) (w : World) : Calls Tryz.prog 142 #[.int .i64 x] w fun e w' => e = .returned (.bool false) ∧ w' = w := by
  go_enter Tryz.func142, Tryz.ntmps142
  go_wp2_with fail
  go_ret
  exact ⟨by first | rfl | simp, rfl⟩

theorem less_any (x y : Int) (w : World) : Calls Tryz.prog 128 #[.int .i64 x, .int .i64 y] w fun e w' => e = .returned (.bool (decide (x < y))) ∧ w' = w := by
  go_enter Tryz.func128, Tryz.ntmps128
  go_wp2_with fail
  refine (isNaN_any x _).mono ?_
  rintro e w1 ⟨rfl, rfl⟩
  go_wp2_with fail
  go_ret
  exact ⟨rfl, rfl⟩

theorem asc_lt {L : List Int} (hA : Asc L) {i j : Nat} (h : i < j) (hj : j < L.length) : gi L i < gi L j := by
  have h2 := List.pairwise_iff_getElem.1 hA i j (by omega) hj h
  rw [gi_lt L i (by omega), gi_lt L j hj]
  exact h2

end Go.Proofs.YtpmfedllbiblbaaGreat

namespace Go.Proofs.YtpmfedllbiblbaaGreat
open Go.RowKit Cv
set_option linter.unusedVariables false
set_option linter.unusedSimpArgs false
set_option maxRecDepth 100000

/-- a function value that answers p at the numbers of L, in every world in which what lay below n lies still -/
def PredN (f : Nat) (pre post : Array Value) (p : Int → Bool) (n : Nat) (w : World) (L : List Int) : Prop :=
  ∀ (W : World) (x : Int), Below n w W → x ∈ L → Calls Tryz.prog f (pre.push (.int .i64 x) ++ post) W fun e w' => e = .returned (.bool (p x)) ∧ Below W.heap.size W w'

theorem indexFunc_any (n g cap : Nat) (L : List Int) (f : Nat) (eg : ∀ args w, (callFunc f args).run Tryz.prog w = .ok (.enter f args) w) (pre post : Array Value) (p : Int → Bool) (w : World) (hl : L.length ≤ 4294967296)
    (hrow : OwnInts w n (.slice (some ⟨g, 0, none⟩) L.length cap) L) (hp : PredN f pre post p n w L) :
    Calls Tryz.prog 136 #[.slice (some ⟨g, 0, none⟩) L.length cap, .func (.func f) pre post] w fun e w' => ∃ r : Int, e = .returned (.int .i64 r) ∧ Below w.heap.size w w' ∧
      Hid ((r = -1 ∧ ∀ j, j < L.length → p (gi L j) = false) ∨ ∃ k : Nat, k < L.length ∧ r = k ∧ p (gi L k) = true ∧ ∀ j, j < k → p (gi L j) = false) := by
  obtain ⟨hb1, hb2⟩ := hrow.base_le
  have hcell : ∀ j, j < L.length → w.cell? ⟨g, j, none⟩ = some (.int .i64 (gi L j)) := fun j hj => hrow.cell hj
  have HP := Lib.hid hp
  clear hp
  go_enter Tryz.func136, Tryz.ntmps136
  go_wp2_with fail
  go_loopw [8] (fun i wr => ∃ k : Nat, k ≤ L.length ∧ i = .int .i64 k ∧ Below w.heap.size w wr ∧ Hid (∀ j, j < k → p (gi L j) = false)) (fun i _ => L.length - (intOf i).toNat)
  case atStart => exact ⟨0, Nat.zero_le _, rfl, Below.refl _ _, Lib.hid fun j hj => by omega⟩
  case round =>
    obtain ⟨k, hk, rfl, B, HA⟩ := hrel
    by_cases hlt : k < L.length
    · have hc := kept_cell B (hcell k hlt) hb2
      have hcall := HP.out wr (gi L k) (B.mono (by omega)) (gi_mem hlt)
      have hs := B.size
      cases hq : p (gi L k) with
      | true =>
        rw [hq] at hcall
        have HQ := Lib.hid hq
        clear hq
        go_wp2_with fail
        refine hcall.mono ?_
        rintro e w2 ⟨rfl, hb⟩
        go_wp2_with fail
        go_ret
        exact ⟨k, rfl, B.trans (hb.mono hs), Lib.hid (.inr ⟨k, hlt, rfl, HQ.out, HA.out⟩)⟩
      | false =>
        rw [hq] at hcall
        have HQ := Lib.hid hq
        clear hq
        go_wp2_with fail
        refine hcall.mono ?_
        rintro e w2 ⟨rfl, hb⟩
        go_wp2_with fail
        go_roundw
        case rel =>
          refine ⟨k + 1, by omega, by go_num, B.trans (hb.mono hs), Lib.hid fun j hj => ?_⟩
          by_cases e : j = k
          · subst e; exact HQ.out
          · exact HA.out j (by omega)
        case measure => simp [intOf]; omega
    · have ek : Hid (k = L.length) := Lib.hid (by omega)
      go_wp2_with fail
      go_ret
      exact ⟨-1, rfl, B, Lib.hid (.inl ⟨rfl, by rw [← ek.out]; exact HA.out⟩)⟩

/-- what DeleteFunc has done with the first j numbers: i of them are kept -/
def DelI (q : Int → Bool) (L R : List Int) (i j : Nat) : Prop :=
  R.length = L.length ∧ i < j ∧ R.take i = (L.take j).filter q ∧ ((L.take j).filter q).length = i ∧ ∀ t, j ≤ t → gi R t = gi L t
theorem delI_start {q : Int → Bool} {L : List Int} {k : Nat} (hk : k < L.length) (ht : ∀ j, j < k → q (gi L j) = true) (hf : q (gi L k) = false) : DelI q L L k (k + 1) := by
  have e : (L.take (k + 1)).filter q = L.take k := by
    rw [take_snoc L k hk, List.filter_append]
    have e1 : (L.take k).filter q = L.take k := List.filter_eq_self.2 fun x hx => by
      obtain ⟨j, hj, e⟩ := mem_gi hx
      rw [List.length_take] at hj
      rw [gi_take L k j (by omega)] at e
      rw [← e]; exact ht j (by omega)
    rw [e1]; simp [hf]
  exact ⟨rfl, by omega, e.symm, by rw [e, List.length_take]; omega, fun _ _ => rfl⟩
theorem delI_skip {q : Int → Bool} {L R : List Int} {i j : Nat} (h : DelI q L R i j) (hj : j < L.length) (hf : q (gi L j) = false) : DelI q L R i (j + 1) := by
  obtain ⟨h1, h2, h3, h4, h5⟩ := h
  have e : (L.take (j + 1)).filter q = (L.take j).filter q := by rw [take_snoc L j hj, List.filter_append]; simp [hf]
  exact ⟨h1, by omega, by rw [e]; exact h3, by rw [e]; exact h4, fun t ht => h5 t (by omega)⟩
theorem delI_keep {q : Int → Bool} {L R : List Int} {i j : Nat} (h : DelI q L R i j) (hj : j < L.length) (hf : q (gi L j) = true) : DelI q L (R.set i (gi L j)) (i + 1) (j + 1) := by
  obtain ⟨h1, h2, h3, h4, h5⟩ := h
  have e : (L.take (j + 1)).filter q = (L.take j).filter q ++ [gi L j] := by rw [take_snoc L j hj, List.filter_append]; simp [hf]
  refine ⟨by rw [List.length_set]; exact h1, by omega, ?_, by rw [e, List.length_append, h4]; rfl, fun t ht => ?_⟩
  · rw [e, ← h3, take_snoc _ i (by rw [List.length_set]; omega), gi_set R i _ i (by omega), if_pos rfl]
    congr 1
    refine ext_gi (by simp) fun t ht => ?_
    rw [List.length_take, List.length_set] at ht
    rw [gi_take _ i t (by omega), gi_take _ i t (by omega), gi_set R i _ t (by omega), if_neg (by omega)]
  · rw [gi_set R i _ t (by omega), if_neg (by omega)]; exact h5 t (by omega)
theorem delI_end {q : Int → Bool} {L R : List Int} {i : Nat} (h : DelI q L R i L.length) : R.take i = L.filter q ∧ (L.filter q).length = i ∧ i < L.length := by
  obtain ⟨h1, h2, h3, h4, h5⟩ := h
  rw [List.take_length] at h3 h4
  exact ⟨h3, h4, h2⟩

theorem own_take {w : World} {base g n cap : Nat} {T : List Int} (h : OwnInts w base (.slice (some ⟨g, 0, none⟩) n cap) T) (k : Nat) (hk : k ≤ T.length) : OwnInts w base (.slice (some ⟨g, 0, none⟩) k cap) (T.take k) := by
  rcases h.2 with ⟨hv, _⟩ | ⟨g', c', cur, hv, hb, hh, hle, hm, hs, ht⟩
  · simp at hv
  · simp only [Value.slice.injEq, Option.some.injEq, Addr.mk.injEq, and_true, true_and] at hv
    obtain ⟨rfl, rfl, rfl⟩ := hv
    have e : (T.take k).length = k := by rw [List.length_take]; omega
    refine ⟨by simp, .inr ⟨g, cap, cur, by rw [e], hb, hh, by omega, hm, hs, ?_⟩⟩
    rw [e, List.map_take, ← ht, List.take_take]
    congr 1; omega
theorem own_zeros (g : Nat) (m : Nat) : ∀ (o : Nat) (w : World) (base n cap : Nat) (T : List Int), OwnInts w base (.slice (some ⟨g, 0, none⟩) n cap) T →
    ∃ T' : List Int, OwnInts (w.setCells g o (List.replicate m (.int .i64 0))) base (.slice (some ⟨g, 0, none⟩) n cap) T' ∧ T'.length = T.length ∧ T'.take o = T.take o := by
  induction m with
  | zero => intro o w base n cap T h; exact ⟨T, h, rfl, rfl⟩
  | succ m ih =>
    intro o w base n cap T h
    obtain ⟨T', h1, h2, h3⟩ := ih (o + 1) _ base n cap _ (h.stored o 0)
    refine ⟨T', h1, by rw [h2, List.length_set], ?_⟩
    have e := congrArg (List.take o) h3
    rw [List.take_take, List.take_take, Nat.min_eq_left (by omega)] at e
    rw [e, List.take_set_of_le (Nat.le_refl _)]
theorem below_zeros (g : Nat) (m : Nat) : ∀ (o n : Nat) (w0 w : World), Below n w0 w → n ≤ g → Below n w0 (w.setCells g o (List.replicate m (.int .i64 0))) := by
  induction m with
  | zero => intro o n w0 w h _; exact h
  | succ m ih => intro o n w0 w h hg; exact ih (o + 1) n w0 _ (h.setCell (by simpa using hg) _) hg

theorem below_of_grown {w w' : World} {g n : Nat} (hg : w.grownBy w' (some g)) (h1 : n ≤ g) (h2 : n ≤ w.heap.size) : Below n w w' := (Below.refl n w).grown hg h2 fun j hj => by cases hj; exact h1
theorem grown_zeros (g : Nat) (m : Nat) : ∀ (o : Nat) (w0 w : World), w0.grownBy w (some g) → w0.grownBy (w.setCells g o (List.replicate m (.int .i64 0))) (some g) := by
  induction m with
  | zero => intro o w0 w h; exact h
  | succ m ih => intro o w0 w h; exact ih (o + 1) w0 _ (grown_setCell h _ _)

end Go.Proofs.YtpmfedllbiblbaaGreat
