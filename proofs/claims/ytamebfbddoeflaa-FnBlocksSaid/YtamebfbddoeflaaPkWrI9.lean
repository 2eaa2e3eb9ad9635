/-
  The contracts of the words that columns reach, in the program. By an AI agent.
-/
import Derived.Test.YtamebfbddoeflaaPkMtr9
import Derived.Test.YtamebfbddoeflaaPkLed9
import Derived.Test.YtamebfbddoeflaaPkSet
import Derived.Test.YtamebfbddoeflaaPkSums2
namespace Go.Proofs.Ytamebfbddoeflaa
open Go.RowKit Cv
set_option linter.unusedVariables false
set_option linter.unusedSimpArgs false
set_option maxRecDepth 100000

def lenV : Value → Nat
  | .slice _ n _ => n
  | _ => 0

/-- the blocks below Z but one read as before -/
def KeepX (blk Z : Nat) (w w' : World) : Prop := ∀ b, b < Z → b ≠ blk → w'.heap[b]? = w.heap[b]?
theorem KeepX.refl (blk Z : Nat) (w : World) : KeepX blk Z w w := fun _ _ _ => rfl
theorem KeepX.trans {blk Z Z' : Nat} {a b c : World} (h : KeepX blk Z a b) (k : KeepX blk Z' b c) (hz : Z ≤ Z') : KeepX blk Z a c := fun q h1 h2 => (k q (by omega) h2).trans (h q h1 h2)
theorem KeepX.below {blk Z : Nat} {w u v : World} (h : KeepX blk Z w u) (hz : Z ≤ u.heap.size) (hb : Below u.heap.size u v) : KeepX blk Z w v := fun q h1 h2 => (hb.block q (by omega)).trans (h q h1 h2)
theorem KeepX.grown {blk Z : Nat} {w u v : World} {row : Option Nat} (h : KeepX blk Z w u) (hz : Z ≤ u.heap.size) (hg : u.grownBy v row) (hr : ∀ k, row = some k → k = blk ∨ Z ≤ k) : KeepX blk Z w v := fun q h1 h2 =>
  (hg.block q (by omega) (fun e => by rcases hr q e.symm with g | g <;> omega)).trans (h q h1 h2)
theorem KeepX.cell {blk Z b o : Nat} {w u : World} {v : Value} (h : KeepX blk Z w u) (h1 : b < Z) (h2 : b ≠ blk) (hc : w.cell? ⟨b, o, none⟩ = some v) : u.cell? ⟨b, o, none⟩ = some v :=
  (World.cell?_of_block (h b h1 h2)).trans hc
theorem KeepX.row {blk Z b : Nat} {w u : World} {p : Nat → Bool} (h : KeepX blk Z w u) (h1 : b < Z) (h2 : b ≠ blk) (hr : RowAt w b p) : RowAt u b p := (h b h1 h2).trans hr
/-- a list of numbers that lies in another block -/
def NLt (w : World) (blk : Nat) (v : Value) (NL : List Int) : Prop :=
  ∃ a c, v = .slice a NL.length c ∧ ∀ i, i < NL.length → ∃ b o, a = some ⟨b, o, none⟩ ∧ b ≠ blk ∧ b < w.heap.size ∧ w.cell? ⟨b, o + i, none⟩ = some (.int .i64 (gi NL i))
theorem own_nlt {w : World} {base blk : Nat} {v : Value} {L : List Int} {p : Nat → Bool} (h : OwnInts w base v L) (hr : RowAt w blk p) : NLt w blk v L := by
  obtain ⟨a, c, rfl⟩ := h.shape
  refine ⟨a, c, rfl, fun i hi => ?_⟩
  have hne := own_not_set h hr
  rcases h.2 with ⟨_, hn⟩ | ⟨g, cap, cur, hv, hg, hh, _⟩
  · omega
  · simp only [Value.slice.injEq] at hv
    obtain ⟨rfl, _, rfl⟩ := hv
    exact ⟨g, 0, rfl, fun e => hne (by simp [Value.ownBlock, e]), (Array.getElem?_eq_some_iff.1 hh).1, by rw [Nat.zero_add]; exact h.cell hi⟩

set_option maxHeartbeats 1000000 in
theorem stepsOf_any (ao : Option Addr) (S : List Int) (cap : Nat) (hP : Pl S) (at' : Option Addr) (T : List Int) (capt : Nat) (hnt : T.length ≤ 8) (hT : ∀ i, i < T.length → Wd S (gi T i)) (w : World) (hS : Ints w ao S) (hTi : Ints w at' T) :
    Calls Try.prog 59 #[.agg #[.slice ao S.length cap], .slice at' T.length capt] w fun e w' => ∃ v, e = .returned v ∧ OwnInts w' w.heap.size v (stL S T T.length) ∧ Below w.heap.size w w' := by
  have HP := Lib.hid hP
  have HT := Lib.hid hT
  have hN := nW_bd hP.sp
  have c0 := cell_new w (.slice ao S.length cap) 26
  have l0 := lt_alloc w (.cells #[.slice ao S.length cap] 26)
  have B0 : Below w.heap.size w ((w.alloc (.cells #[.slice ao S.length cap] 26)).alloc (.cells #[] 2)) := by go_grown
  have k0 : ((w.alloc (.cells #[.slice ao S.length cap] 26)).alloc (.cells #[] 2)).cell? ⟨w.heap.size, 0, none⟩ = some (.slice ao S.length cap) := kept_cell ((Below.refl _ (w.alloc (.cells #[.slice ao S.length cap] 26))).alloc (Nat.le_refl _) _) c0 l0
  have own0 : OwnInts ((w.alloc (.cells #[.slice ao S.length cap] 26)).alloc (.cells #[] 2)) (w.heap.size + 1) (.slice (some ⟨w.heap.size + 1, 0, none⟩) 0 0) [] := own_empty _ _ (by simp) (by simp)
  clear hP hT c0 l0
  go_enter Try.func59, Try.ntmps59
  go_wp2_with fail
  go_loopw [5, 12] (fun v i wr => ∃ k : Nat, k ≤ T.length ∧ i = .int .i64 k ∧ OwnInts wr (w.heap.size + 1) v (stL S T k) ∧ wr.cell? ⟨w.heap.size, 0, none⟩ = some (.slice ao S.length cap) ∧ w.heap.size + 1 < wr.heap.size ∧ Below w.heap.size w wr) (fun _ i _ => T.length - (intOf i).toNat)
  case atStart => exact ⟨0, Nat.zero_le _, rfl, own0, k0, by simp, B0⟩
  case round =>
    clear own0 k0 B0
    obtain ⟨k, hk, rfl, own, c, l, B⟩ := hrel
    by_cases hlt : k < T.length
    · obtain ⟨b, o, rfl, hbl, hc⟩ := hTi.at hlt
      have hck := kept_cell B (hc k hlt) hbl
      have hw := HT.out k hlt
      obtain ⟨x, hx⟩ : ∃ x, x = gi T k := ⟨_, rfl⟩
      have hw2 := hw
      unfold Wd at hw2
      rw [← hx] at hck hw hw2
      obtain ⟨w1, w2⟩ := hw2
      have HW := Lib.hid hw
      have HX := Lib.hid hx
      have hxs := mtX_0 HP.out x
      obtain ⟨n, hn⟩ : ∃ n, n = nst S x := ⟨_, rfl⟩
      have hn2 : n ≤ 2 := by rw [hn]; exact nst_le HP.out x
      have HST : Hid (∀ j, j < n → sumW S (mtX S x j) x = mtX S x (j + 1) ∧ mtX S x j ≠ 0 ∧ mtX S x j = mulW S x j) := Lib.hid fun j hj => by
        rw [hn] at hj
        exact ⟨mtX_step HP.out x j hj, (mtX_ne HP.out hw j hj).1, (mtX_ne HP.out hw j hj).2⟩
      have HEN : Hid (∀ j, ¬ j < n → mtX S x j = 0) := Lib.hid fun j hj => mtX_end S x j (by rw [← hn]; exact hj)
      have HN := Lib.hid hn
      have hsl := stL_len HP.out T k
      have HJ0 : Hid (stJ S T k 0 = stL S T k) := Lib.hid (stJ_0 S T k)
      have HJn : Hid (stJ S T k n = stL S T (k + 1)) := Lib.hid (by rw [hn, hx]; exact stJ_all S T k)
      have HL : Hid (∀ j, (stJ S T k j).length = (stL S T k).length + j) := Lib.hid (stJ_len S T k)
      obtain ⟨M, hM⟩ : ∃ M, M = (stL S T k).length := ⟨_, rfl⟩
      rw [← hM] at hsl HL
      have HXS := Lib.hid hxs
      have hM16 : M ≤ 16 := by omega
      clear hc hx hn hxs hw hM
      rw [← HJ0.out] at own
      go_wp2_with fail
      go_loopw [5, 8] (fun v y wi => ∃ j : Nat, j ≤ n ∧ y = .int .i64 (mtX S x j) ∧ OwnInts wi (w.heap.size + 1) v (stJ S T k j) ∧ wi.cell? ⟨w.heap.size, 0, none⟩ = some (.slice ao S.length cap) ∧ w.heap.size + 1 < wi.heap.size ∧ Below w.heap.size w wi) (fun v _ _ => M + n - lenV v)
      case atStart => exact ⟨0, Nat.zero_le _, by rw [HXS.out], own, c, l, B⟩
      case round =>
        clear own c l B hck
        obtain ⟨j, hj, rfl, own, c, l, B⟩ := hrel
        by_cases hjn : j < n
        · obtain ⟨e1, e2, e3⟩ := HST.out j hjn
          have hwm := mtX_wd HP.out.sp HW.out j
          unfold Wd at hwm
          obtain ⟨m1, m2⟩ := hwm
          have hL := HL.out j
          have HS : Hid (stJ S T k j ++ [mtX S x j] = stJ S T k (j + 1)) := Lib.hid (by rw [e3, HX.out]; exact stJ_step S T k j)
          have HE1 := Lib.hid e1
          obtain ⟨y, hy⟩ : ∃ y, y = mtX S x j := ⟨_, rfl⟩
          rw [← hy] at HE1 e2 m1 m2 HS ⊢
          have hyb : (y != 0) = true := by simpa using e2
          obtain ⟨L, hLL⟩ : ∃ L, L = stJ S T k j := ⟨_, rfl⟩
          rw [← hLL] at own hL HS
          obtain ⟨av, kv, rfl⟩ := own.shape
          have HLn := Lib.hid hL
          have hl17 : L.length ≤ 100 := by omega
          clear e1 e2 e3 hy hLL hL
          go_wp2_with (at_builtin; refine wpList_append_int rfl _ _ rfl (w.heap.size + 1) _ L rfl (own.alloc _) wr.heap.size _ rfl (cell_new _ _ _) (by omega) (by simp; omega) ?_; intro v' w4 hown' hgrow; have hsz := hgrow.size; have c4 := hgrow.cell (a := ⟨w.heap.size, 0, none⟩) (kept_cell ((Below.refl _ wr).alloc (Nat.le_refl _) (.cells #[.int .i64 y] 2)) c (by omega)) (row_ne_box (b := w.heap.size) own.rowIn (.inl (by omega))))
          obtain ⟨av', kv', rfl⟩ := hown'.shape
          rw [show (L ++ [y]).length = L.length + 1 from by simp] at hown'
          have B4 : Below w.heap.size w w4 := grown_below (B.alloc B.size _) (by have := B.size; simp; omega) hgrow (own.alloc _) (by omega)
          have l4 : w.heap.size + 1 < w4.heap.size := by simp at hsz; omega
          clear hgrow hsz own c
          refine (sumOfWords_any ao S cap HP.out.sp y x m1 (by omega) w1 (by omega) _ (hS.below B4)).mono ?_
          rintro e w5 ⟨rfl, hb5⟩
          have own5 := hown'.below hb5
          have c5 := kept_cell hb5 c4 (by omega)
          have B5 := B4.trans (hb5.mono B4.size)
          have l5 : w.heap.size + 1 < w5.heap.size := Nat.lt_of_lt_of_le l4 hb5.size
          clear hb5
          go_wp2_with fail
          go_roundw
          case rel => exact ⟨j + 1, by omega, by rw [HE1.out], by rw [← HS.out]; exact own5, c5, l5, B5⟩
          case measure => have := HLn.out; simp [lenV]; omega
        · have hz := HEN.out j hjn
          have HJ : Hid (j = n) := Lib.hid (by omega)
          rw [hz]
          clear hz
          go_wp2_with fail
          go_roundw
          case rel => exact ⟨k + 1, by omega, by go_num, by rw [← HJn.out, ← HJ.out]; exact own, c, l, B⟩
          case measure => simp [intOf]; omega
    · have HK : Hid (k = T.length) := Lib.hid (by omega)
      rw [HK.out] at own
      go_wp2_with fail
      go_ret
      exact ⟨_, rfl, own.rebase (by omega), B⟩

/-- words reached -/
theorem wr_eq {S C T : List Int} (hP : Pl S) (hz : eCode S C = 0) (hT : ∀ i, i < T.length → Wd S (gi T i)) (m : Nat) (p : Nat → Bool) (h : ∀ v, p v = true ↔ QrC S C (stL S T T.length) m v) : p = wrB S C T (m : Int) := by
  funext v
  have hC : ∀ u, inL C u = true → u < (nW S).toNat := fun u hu => by
    unfold inL at hu
    rw [decide_eq_true_eq] at hu
    obtain ⟨i, hi, e⟩ := mem_gi hu
    have := (eCode_zero hz).2.1 i hi
    rw [e] at this; omega
  have h1 := h v
  have h2 := wrB_iff hP hC hT m v
  rw [Bool.eq_iff_iff, h1, h2]
theorem asc_nodup {S C : List Int} (hz : eCode S C = 0) : C.Nodup := by
  have h := (eCode_zero hz).2.2
  rw [List.nodup_iff_pairwise_ne, List.pairwise_iff_getElem]
  intro i j hi hj hij
  have key : ∀ d, i + d + 1 < C.length → gi C i < gi C (i + d + 1) := fun d hd => by
    induction d with
    | zero => exact h (i + 1) (by omega) hd
    | succ d ih => have a := ih (by omega); have b := h (i + (d + 1) + 1) (by omega) hd; rw [show i + (d + 1) + 1 - 1 = i + d + 1 from by omega] at b; omega
  have k := key (j - i - 1) (by omega)
  rw [show i + (j - i - 1) + 1 = j from by omega] at k
  rw [← gi_lt C i hi, ← gi_lt C j hj]; omega

theorem RowAt.keptR {w w' : World} {b : Nat} {p : Nat → Bool} {row : Option Nat} (h : RowAt w b p) (hg : w.grownBy w' row) (hn : row ≠ some b) : RowAt w' b p := (hg.block b h.lt (fun e => hn e.symm)).trans h

set_option maxHeartbeats 4000000 in
theorem wordsReached_any (ao : Option Addr) (S : List Int) (cap : Nat) (hP : Pl S) (ac : Option Addr) (C : List Int) (capc : Nat) (hz : eCode S C = 0) (at' : Option Addr) (T : List Int) (capt : Nat) (hnt : T.length ≤ 8) (hT : ∀ i, i < T.length → Wd S (gi T i)) (m : Nat) (hm : m ≤ 8) (w : World) (hS : Ints w ao S) (hC : Ints w ac C) (hTi : Ints w at' T) :
    Calls Try.prog 28 #[.agg #[.slice ao S.length cap], .slice ac C.length capc, .slice at' T.length capt, .int .i64 (m : Int)] w fun e w' => e = .returned (.agg (setA (wrB S C T (m : Int)))) ∧ Below w.heap.size w w' := by
  have HP := Lib.hid hP
  have HT := Lib.hid hT
  have HSp := Lib.hid hP.sp
  have hN := nW_bd hP.sp
  have hN2 : nW S ≤ 1024 := hN.2
  obtain ⟨_, hc1, _⟩ := eCode_zero hz
  have hcl := code_len0 hz
  have HC1 : Hid (∀ i, i < C.length → 0 ≤ gi C i ∧ gi C i < 1024) := Lib.hid fun i hi => by have := hc1 i hi; omega
  have hst := stL_len hP T T.length
  have HSW := Lib.hid (stL_wd hP.sp hT)
  have HR0 := Lib.hid (rnd_0 (stL S T T.length) hc1 (asc_nodup hz))
  have HE := Lib.hid (wr_eq hP hz hT m)
  obtain ⟨W0, hW0⟩ : ∃ W0, W0 = (w.alloc (.cells #[.slice ao S.length cap] 26)).alloc (.cells (setA fun _ => false) 58) := ⟨_, rfl⟩
  have B0 : Below w.heap.size w W0 := by rw [hW0]; go_grown
  have c0 : W0.cell? ⟨w.heap.size, 0, none⟩ = some (.slice ao S.length cap) := by rw [hW0]; exact kept_cell ((Below.refl _ (w.alloc (.cells #[.slice ao S.length cap] 26))).alloc (Nat.le_refl _) _) (cell_new _ _ _) (lt_alloc _ _)
  have r0 : RowAt W0 (w.heap.size + 1) (fun _ => false) := by rw [hW0]; exact rown_new _ _ (by simp)
  have l0 : w.heap.size + 1 < W0.heap.size := r0.lt
  rw [setA_none] at hW0
  have HW0 := Lib.hid hW0
  clear hW0 hP hT hN hc1 hz
  go_enter Try.func28, Try.ntmps28
  go_wp2_with fail
  rw [← HW0.out]
  refine (stepsOf_any ao S cap HP.out at' T capt hnt HT.out _ (hS.below B0) (hTi.below B0)).mono ?_
  rintro e w1 ⟨vs, rfl, ownS, hb⟩
  obtain ⟨St, hSt⟩ : ∃ St, St = stL S T T.length := ⟨_, rfl⟩
  rw [← hSt] at ownS hst HSW HR0 HE
  have c1 := kept_cell hb c0 (by omega)
  have r1 := r0.below hb l0
  have B1 := B0.trans (hb.mono B0.size)
  have l1 : w.heap.size + 1 < w1.heap.size := Nat.lt_of_lt_of_le l0 hb.size
  obtain ⟨sa, sc, rfl⟩ := ownS.shape
  have hSI := own_ints ownS
  clear hb c0 r0 l0 B0 hSt ownS
  go_wp2_with fail
  refine (setOf_any ac C capc (by omega) HC1.out _ (hC.below B1)).mono ?_
  rintro e w2 ⟨rfl, hb⟩
  have c2 := kept_cell hb c1 (by omega)
  have r2 := r1.below hb l1
  have B2 := B1.trans (hb.mono B1.size)
  have hSI2 := hSI.below hb
  have l2 : w.heap.size + 1 < w2.heap.size := Nat.lt_of_lt_of_le l1 hb.size
  clear hb c1 r1 l1 B1 hSI
  obtain ⟨blk, hblk⟩ : ∃ blk, blk = w2.heap.size := ⟨_, rfl⟩
  have hz0 := rowz_new w2 (n := blk) hblk
  obtain ⟨W5, hW5⟩ : ∃ W5, W5 = (w2.alloc (.cells #[.int .u64 0, .int .u64 0, .int .u64 0, .int .u64 0, .int .u64 0, .int .u64 0, .int .u64 0, .int .u64 0, .int .u64 0, .int .u64 0, .int .u64 0, .int .u64 0, .int .u64 0, .int .u64 0, .int .u64 0, .int .u64 0] 58)).setRow blk (setA (inL C)) := ⟨_, rfl⟩
  have r5 : RowAt W5 blk (inL C) := by rw [hW5]; exact row_set hz0
  have h45 : Below w2.heap.size w2 W5 := by rw [hW5]; exact ((Below.refl _ w2).alloc (Nat.le_refl _) _).grown (grown_setRow _) (by simp) fun j hj => by cases hj; omega
  have c5 := kept_cell h45 c2 (by omega)
  have q5 := r2.below h45 l2
  have B5 := B2.trans (h45.mono B2.size)
  have hSI5 := hSI2.below h45
  have l5 : blk < W5.heap.size := r5.lt
  have hb2 : w.heap.size + 1 < blk := by omega
  have n5 : NLt W5 blk (.slice ac C.length capc) C := ⟨ac, capc, rfl, fun i hi => by
    obtain ⟨b, o, rfl, hbl, hcc⟩ := hC.at hi
    exact ⟨b, o, rfl, by omega, by omega, kept_cell B5 (hcc i hi) hbl⟩⟩
  have s5 : ∀ i, i < St.length → ∃ b o, sa = some ⟨b, o, none⟩ ∧ b ≠ blk ∧ b < W5.heap.size ∧ W5.cell? ⟨b, o + i, none⟩ = some (.int .i64 (gi St i)) := fun i hi => by
    obtain ⟨b, o, rfl, hbl, hcc⟩ := hSI2.at hi
    have := h45.size
    exact ⟨b, o, rfl, by omega, by omega, kept_cell h45 (hcc i hi) hbl⟩
  have HS5 := Lib.hid s5
  have HW5 := Lib.hid hW5
  clear hW5 c2 r2 B2 hSI2 l2 h45 hSI5 s5
  subst hblk
  go_wp2_with (first | (refine wpList_st16 rfl _ _ rfl hz0 (inL C) rfl rfl ?_; rw [← HW5.out]))
  go_loopw [11, 25] (fun v i wr => ∃ k : Nat, k ≤ m ∧ i = .int .i64 k ∧ (∃ (p : Nat → Bool) (NL : List Int), Rnd S C St k p NL ∧ NLt wr w2.heap.size v NL ∧ RowAt wr w2.heap.size p) ∧ KeepX w2.heap.size W5.heap.size W5 wr ∧ W5.heap.size ≤ wr.heap.size ∧ Below w.heap.size w wr) (fun _ i _ => m - (intOf i).toNat)
  case atStart => exact ⟨0, Nat.zero_le _, rfl, ⟨_, C, HR0.out, n5, r5⟩, KeepX.refl _ _ _, Nat.le_refl _, B5⟩
  case round =>
    clear n5 r5 B5 hz0
    obtain ⟨k, hk, rfl, ⟨p0, NL, hR, hNL, hrow⟩, hK, hsz, B⟩ := hrel
    obtain ⟨wo, hwo⟩ : ∃ x, x = wr := ⟨_, rfl⟩
    subst hwo
    by_cases hlt : k < m
    · obtain ⟨na, nc, rfl, hNLc⟩ := hNL
      have HRn := Lib.hid hR
      have hnl : NL.length ≤ 1024 := nd_words HSp.out hR.nd fun x hx => (hR.sub x hx).1
      have HNL := Lib.hid hNLc
      obtain ⟨Z, hZ⟩ : ∃ Z, Z = wo.heap.size := ⟨_, rfl⟩
      have HZ := Lib.hid hZ
      have B1 : Below w.heap.size w (wo.alloc (.cells #[] 2)) := B.alloc B.size _
      have hrow1 := hrow.alloc (.cells #[] 2)
      have own1 : OwnInts (wo.alloc (.cells #[] 2)) Z (.slice (some ⟨Z, 0, none⟩) 0 0) [] := own_empty _ _ (by omega) hZ
      have hK1 : KeepX w2.heap.size Z wo (wo.alloc (.cells #[] 2)) := (KeepX.refl w2.heap.size Z wo).below (by omega) ((Below.refl _ wo).alloc (Nat.le_refl _) _)
      have hz1 : Z ≤ (wo.alloc (.cells #[] 2)).heap.size := by simp; omega
      have hF0 := Lib.hid (fnd_0 S NL St p0)
      have hZ5 : W5.heap.size ≤ Z := by omega
      have hZB : w.heap.size ≤ Z := by have := B.size; omega
      clear hR hNLc hZ
      go_wp2_with fail
      rw [← HZ.out]
      go_loopw [12, 30] (fun v i wi => ∃ a : Nat, a ≤ NL.length ∧ i = .int .i64 a ∧ (∃ (p : Nat → Bool) (F : List Int), Hid (Fnd S p0 (NEx S NL St a 0) p F) ∧ OwnInts wi Z v F ∧ RowAt wi w2.heap.size p) ∧ KeepX w2.heap.size Z wo wi ∧ Z ≤ wi.heap.size ∧ Below w.heap.size w wi) (fun _ i _ => NL.length - (intOf i).toNat)
      case atStart => exact ⟨0, Nat.zero_le _, rfl, ⟨p0, [], hF0, own1, hrow1⟩, hK1, hz1, B1⟩
      case round =>
        clear own1 hrow1 hK1 hz1 B1 hrow
        obtain ⟨a, ha, rfl, ⟨p, F, HF, own, hrow⟩, hKi, hzi, B⟩ := hrel
        obtain ⟨wi, hwi⟩ : ∃ x, x = wr := ⟨_, rfl⟩
        subst hwi
        by_cases hla : a < NL.length
        · obtain ⟨nb, no, rfl, hnb1, hnb2, hnc⟩ := HNL.out a hla
          have hca := hKi.cell (by rw [HZ.out]; exact hnb2) hnb1 hnc
          have hwa := (HRn.out.sub _ (gi_mem hla)).1
          unfold Wd at hwa
          obtain ⟨x1, x2⟩ := hwa
          go_wp2_with fail
          go_loopw [12, 36] (fun v i wj => ∃ b : Nat, b ≤ St.length ∧ i = .int .i64 b ∧ (∃ (p : Nat → Bool) (F : List Int), Hid (Fnd S p0 (NEx S NL St a b) p F) ∧ OwnInts wj Z v F ∧ RowAt wj w2.heap.size p) ∧ KeepX w2.heap.size Z wo wj ∧ Z ≤ wj.heap.size ∧ Below w.heap.size w wj) (fun _ i _ => St.length - (intOf i).toNat)
          case atStart => exact ⟨0, Nat.zero_le _, rfl, ⟨p, F, HF, own, hrow⟩, hKi, hzi, B⟩
          case round =>
            clear HF own hrow hKi hzi B hca
            obtain ⟨b, hb, rfl, ⟨p, F, HF, own, hrow⟩, hKi, hzi, B⟩ := hrel
            by_cases hlb : b < St.length
            · obtain ⟨sb, so, rfl, hsb1, hsb2, hsc⟩ := HS5.out b hlb
              have hcs : wo.cell? ⟨sb, so + b, none⟩ = some (.int .i64 (gi St b)) := hK.cell hsb2 hsb1 hsc
              have hcb := hKi.cell (by omega) hsb1 hcs
              have hcB : wr.cell? ⟨w.heap.size, 0, none⟩ = some (.slice ao S.length cap) := hKi.cell (by omega) (by omega) (hK.cell (by omega) (by omega) c5)
              have hws := HSW.out _ (gi_mem hlb)
              unfold Wd at hws
              obtain ⟨y1, y2⟩ := hws
              have hwt := wd_sum HSp.out (gi NL a) (gi St b)
              unfold Wd at hwt
              obtain ⟨t, ht⟩ : ∃ t : Nat, sumW S (gi NL a) (gi St b) = (t : Int) := ⟨_, (Int.toNat_of_nonneg hwt.1).symm⟩
              have ht2 : t < 1024 := by omega
              have hfl : F.length ≤ 1024 := nd_words HSp.out HF.out.nd HF.out.wd
              have HTt := Lib.hid ht
              clear hwt hcs hsc
              go_wp2_with fail
              refine (sumOfWords_any ao S cap HSp.out (gi NL a) (gi St b) x1 (by omega) y1 (by omega) _ (hS.below B)).mono ?_
              rintro e w6 ⟨rfl, hb6⟩
              rw [HTt.out]
              have own6 := own.below hb6
              have hrow6 := hrow.below hb6 hrow.lt
              have hK6 := hKi.below hzi hb6
              have hz6 : Z ≤ w6.heap.size := Nat.le_trans hzi hb6.size
              have B6 := B.trans (hb6.mono B.size)
              clear hb6 own hrow hKi hzi B hcb hcB
              go_wp2_with (first | (refine wpList_ld16 rfl _ rfl hrow6 rfl ?_))
              refine (lacks_any p t ht2 _).mono ?_
              rintro e w7 ⟨rfl, hb7⟩
              have own7 := own6.below hb7
              have hrow7 := hrow6.below hb7 hrow6.lt
              have hK7 := hK6.below hz6 hb7
              have hz7 : Z ≤ w7.heap.size := Nat.le_trans hz6 hb7.size
              have B7 := B6.trans (hb7.mono B6.size)
              clear hb7 own6 hrow6 hK6 hz6 B6
              cases hpt : p t with
              | true =>
                have HF2 : Hid (Fnd S p0 (NEx S NL St a (b + 1)) p F) := Lib.hid (fnd_old HF.out (by rw [HTt.out, Int.toNat_natCast]; exact hpt))
                clear hpt
                go_wp2_with fail
                go_roundw
                case rel => exact ⟨b + 1, by omega, by go_num, ⟨p, F, HF2, own7, hrow7⟩, hK7, hz7, B7⟩
                case measure => simp [intOf]; omega
              | false =>
                have HF2 : Hid (Fnd S p0 (NEx S NL St a (b + 1)) (putB p t) (F ++ [(t : Int)])) := Lib.hid (fnd_new HSp.out HF.out HTt.out hpt)
                clear hpt
                go_wp2_with fail
                refine (put_any w2.heap.size p t ht2 _ hrow7).mono ?_
                rintro e w8 ⟨rfl, hrow8, hg8⟩
                have own8 : OwnInts w8 Z _ F := own7.kept hg8 (.inr (own_not_set own7 hrow7))
                have hK8 := hK7.grown hz7 hg8 (fun j hj => by cases hj; exact .inl rfl)
                have hz8 : Z ≤ w8.heap.size := Nat.le_trans hz7 hg8.size
                have B8 := B7.grown hg8 B7.size (fun j hj => by cases hj; omega)
                clear hg8 own7 hrow7 hK7 hz7 B7
                obtain ⟨fa, fc, rfl⟩ := own8.shape
                have hF12 : F.length ≤ 1000000 := by omega
                go_wp2_with (at_builtin; refine wpList_append_int rfl _ _ rfl Z _ F rfl (own8.alloc _) w8.heap.size _ rfl (cell_new _ _ _) (by omega) (by simp; omega) ?_; intro v' w9 hown9 hg9)
                have hrow9 : RowAt w9 w2.heap.size (putB p t) := (hrow8.alloc _).keptR hg9 (own_not_set own8 hrow8)
                have hK9 := (hK8.below hz8 ((Below.refl _ w8).alloc (Nat.le_refl _) (.cells #[.int .i64 (t : Int)] 2))).grown (by simp; omega) hg9 (fun j hj => .inr (own8.rowIn j hj).1)
                have hz9 : Z ≤ w9.heap.size := by have := hg9.size; simp at this; omega
                have B9 : Below w.heap.size w w9 := grown_below (B8.alloc B8.size _) (by have := B8.size; simp; omega) hg9 (own8.alloc _) (by omega)
                clear hg9 own8 hrow8 hK8 hz8 B8
                go_roundw
                case rel => exact ⟨b + 1, by omega, by go_num, ⟨_, _, HF2, hown9, hrow9⟩, hK9, hz9, B9⟩
                case measure => simp [intOf]; omega
            · have HF2 : Hid (Fnd S p0 (NEx S NL St (a + 1) 0) p F) := Lib.hid (Fnd.congr HF.out (fun v => by have eb : b = St.length := (by omega); rw [eb]; exact nex_row S NL St a v))
              go_wp2_with fail
              go_roundw
              case rel => exact ⟨a + 1, by omega, by go_num, ⟨p, F, HF2, own, hrow⟩, hKi, hzi, B⟩
              case measure => simp [intOf]; omega
        · have HR2 : Hid (Rnd S C St (k + 1) p F) := Lib.hid (rnd_step HSp.out HRn.out (by have e : a = NL.length := (by omega); rw [← e]; exact HF.out))
          have hNL2 := own_nlt own hrow
          go_wp2_with fail
          go_roundw
          case rel => exact ⟨k + 1, by omega, by go_num, ⟨p, F, HR2.out, hNL2, hrow⟩, hK.trans hKi (by omega), by omega, B⟩
          case measure => simp [intOf]; omega
    · have HKm : Hid (k = m) := Lib.hid (by omega)
      have q9 := hK.row (by omega) (by omega) q5
      have HPM : Hid (p0 = wrB S C T (m : Int)) := Lib.hid (HE.out p0 (by rw [← HKm.out]; exact hR.mem))
      go_wp2_with (first | (refine wpList_ld16 rfl _ rfl hrow rfl ?_) | (refine wpList_st16 rfl _ _ rfl q9 p0 rfl rfl ?_))
      (try simp only [Exit.inBlock, Exit.then])
      refine bodyPost_ret (results16 rfl _ (row_set q9) rfl) rfl ?_
      exact ⟨by rw [HPM.out], B.grown (grown_setRow _) B.size fun j hj => by cases hj; omega⟩

end Go.Proofs.Ytamebfbddoeflaa
