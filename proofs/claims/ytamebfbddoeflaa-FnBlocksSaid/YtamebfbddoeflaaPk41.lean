/-
  Texts put together: CcJ9, Sp9. By an AI agent.
-/
import Derived.Test.YtamebfbddoeflaaPk31
import Derived.Test.YtamebfbddoeflaaPk38
import Derived.Test.YtamebfbddoeflaaPkMathB
import Derived.Test.YtamebfbddoeflaaPkSpace
import Derived.Test.YtamebfbddoeflaaPk20
import Derived.Test.YtamebfbddoeflaaPkF1
import Derived.Laws.ResultCell
import Derived.Deep.WholeRow
namespace Go.Proofs.Ytamebfbddoeflaa
open Go.RowKit Cv
set_option linter.unusedVariables false
set_option linter.unusedSimpArgs false
set_option maxRecDepth 100000

theorem own_one9 (w : World) (base : Nat) (x : Int) (h : base ≤ w.heap.size) {n : Nat} (hn : n = w.heap.size) : OwnInts (w.alloc (.cells #[.int .i64 x] 2)) base (.slice (some ⟨n, 0, none⟩) 1 1) [x] := by
  subst hn
  exact ⟨by simp, .inr ⟨w.heap.size, 1, #[.int .i64 x], rfl, h, heap_alloc_new w _, Nat.le_refl _, by simp [maxLen], by simp, by simp⟩⟩

set_option maxHeartbeats 2000000 in
theorem sumsByDigits_any (ao : Option Addr) (S : List Int) (cap : Nat) (hP : Pl S) (Q : Nat) (hQ : gi S 0 = (Q : Int)) (at' : Option Addr) (T : List Int) (capt : Nat) (hnt : T.length ≤ 8) (hT : ∀ i, i < T.length → Wd S (gi T i)) (hpw : Q ^ T.length ≤ 1024) (w : World) (hS : Ints w ao S) (hTi : Ints w at' T) :
    Calls Try.prog 36 #[.agg #[.slice ao S.length cap], .slice at' T.length capt] w fun e w' => ∃ v, e = .returned v ∧ OwnInts w' w.heap.size v (csL S T (Q : Int) T.length (Q ^ T.length)) ∧ Below w.heap.size w w' := by
  have HT := Lib.hid hT
  have HSp := Lib.hid hP.sp
  have hNb := nW_bd hP.sp
  have hlo := hP.sp.lo
  have hQ2 : 2 ≤ Q ∧ Q ≤ 3 := by have := hP.q; omega
  obtain ⟨Q1, Q3⟩ := hQ2
  have HPW : Hid (∀ k, k ≤ T.length → 1 ≤ Q ^ k ∧ Q ^ k ≤ 1024) := Lib.hid fun k hk => ⟨Nat.pow_pos (by omega), Nat.le_trans (Nat.pow_le_pow_right (by omega) hk) hpw⟩
  have HPS : Hid (∀ k, Q ^ (k + 1) = Q ^ k * Q) := Lib.hid fun k => Nat.pow_succ _ _
  obtain ⟨sb, so, rfl, hsbl, hsc⟩ := hS.at (i := 0) (by omega)
  have hs0 := hsc 0 (by omega)
  rw [Nat.add_zero, hQ] at hs0
  obtain ⟨pw, hpwd⟩ : ∃ pw : Nat → Nat, pw = fun k => Q ^ k := ⟨_, rfl⟩
  have e1 : ∀ k, Q ^ k = pw k := fun k => by rw [hpwd]
  rw [e1] at hpw ⊢
  have HPW2 : Hid (∀ k, k ≤ T.length → 1 ≤ pw k ∧ pw k ≤ 1024) := Lib.hid fun k hk => by rw [← e1]; exact HPW.out k hk
  have HPS2 : Hid (∀ k, pw (k + 1) = pw k * Q) := Lib.hid fun k => by rw [← e1, ← e1]; exact HPS.out k
  have HP0 : Hid (pw 0 = 1) := Lib.hid (by rw [← e1]; rfl)
  have B0 : Below w.heap.size w ((w.alloc (.cells #[.slice (some ⟨sb, so, none⟩) S.length cap] 26)).alloc (.cells #[.int .i64 0] 2)) := by go_grown
  have k0 : ((w.alloc (.cells #[.slice (some ⟨sb, so, none⟩) S.length cap] 26)).alloc (.cells #[.int .i64 0] 2)).cell? ⟨w.heap.size, 0, none⟩ = some (.slice (some ⟨sb, so, none⟩) S.length cap) := kept_cell ((Below.refl _ (w.alloc (.cells #[.slice (some ⟨sb, so, none⟩) S.length cap] 26))).alloc (Nat.le_refl _) _) (cell_new _ _ _) (lt_alloc _ _)
  have i0b : OwnInts ((w.alloc (.cells #[.slice (some ⟨sb, so, none⟩) S.length cap] 26)).alloc (.cells #[.int .i64 0] 2)) (w.heap.size + 1) (.slice (some ⟨w.heap.size + 1, 0, none⟩) 1 1) (csL S T (Q : Int) 0 (pw 0)) := by
    rw [HP0.out, csL_one]
    exact own_one9 _ _ 0 (by simp) (by simp)
  clear hP hT hpwd e1 HPW HPS hsc hQ hNb
  go_enter Try.func36, Try.ntmps36
  go_wp2_with fail
  go_loopw [5, 14] (fun v i wr => ∃ k : Nat, k ≤ T.length ∧ i = .int .i64 k ∧ OwnInts wr (w.heap.size + 1) v (csL S T (Q : Int) k (pw k)) ∧ wr.cell? ⟨w.heap.size, 0, none⟩ = some (.slice (some ⟨sb, so, none⟩) S.length cap) ∧ w.heap.size < wr.heap.size ∧ Below w.heap.size w wr) (fun _ i _ => T.length - (intOf i).toNat)
  case atStart => exact ⟨0, Nat.zero_le _, rfl, i0b, k0, by simp; omega, B0⟩
  case round =>
    clear i0b k0 B0
    obtain ⟨k, hk, rfl, own, c, l, B⟩ := hrel
    obtain ⟨wo, hwo⟩ : ∃ x, x = wr := ⟨_, rfl⟩
    subst hwo
    by_cases hlt : k < T.length
    · obtain ⟨b, o, rfl, hbl, hc⟩ := hTi.at hlt
      have hck := kept_cell B (hc k hlt) hbl
      have hw := HT.out k hlt
      have hw2 := hw
      unfold Wd at hw2
      obtain ⟨x, hx⟩ : ∃ x, x = gi T k := ⟨_, rfl⟩
      rw [← hx] at hck hw hw2
      obtain ⟨x1, x2⟩ := hw2
      have HX := Lib.hid hx
      have hNb := nW_bd HSp.out
      obtain ⟨p1, p2⟩ := HPW2.out k hk
      obtain ⟨p3, p4⟩ := HPW2.out (k + 1) hlt
      have hps := HPS2.out k
      have hln := csL_len S T (Q : Int) k (pw k)
      have HCS : Hid (∀ i d, d < Q → csL S T (Q : Int) (k + 1) (i * Q + d) ++ [itW S x (csF S T (Q : Int) k (i : Int)) d] = csL S T (Q : Int) (k + 1) (i * Q + (d + 1))) := Lib.hid fun i d hd => by rw [hx]; exact csL_step S T Q k i d hd
      obtain ⟨av, kv, rfl⟩ := own.shape
      have hLI := own_ints own
      obtain ⟨P, hPe⟩ : ∃ P, P = pw k := ⟨_, rfl⟩
      rw [← hPe] at p1 p2 hps hln hLI own ⊢
      rw [hln]
      have HGL : Hid (∀ i, i < P → gi (csL S T (Q : Int) k P) i = csF S T (Q : Int) k (i : Int)) := Lib.hid (fun i hi => gi_csL S T (Q : Int) k P i hi)
      have HLN := Lib.hid hln
      have HPS3 := Lib.hid hps
      obtain ⟨Z, hZ⟩ : ∃ Z, Z = wo.heap.size := ⟨_, rfl⟩
      have HZ := Lib.hid hZ
      have hB1 : Below Z wo (wo.alloc (.cells #[] 2)) := by rw [hZ]; exact (Below.refl _ wo).alloc (Nat.le_refl _) _
      have own1 : OwnInts (wo.alloc (.cells #[] 2)) Z (.slice (some ⟨Z, 0, none⟩) 0 0) (csL S T (Q : Int) (k + 1) (0 * Q)) := by rw [Nat.zero_mul, csL_zero]; exact own_empty _ _ (by omega) hZ
      have hz1 : Z ≤ (wo.alloc (.cells #[] 2)).heap.size := by simp; omega
      have hzw : w.heap.size < Z := by omega
      have p4' : P * Q ≤ 1024 := by omega
      clear hc hx hps hln own hPe hZ
      go_wp2_with fail
      rw [← HZ.out]
      go_loopw [8, 21] (fun v i wi => ∃ a : Nat, a ≤ P ∧ i = .int .i64 a ∧ OwnInts wi Z v (csL S T (Q : Int) (k + 1) (a * Q)) ∧ Z ≤ wi.heap.size ∧ Below Z wo wi) (fun _ i _ => P - (intOf i).toNat)
      case atStart => exact ⟨0, Nat.zero_le _, rfl, own1, hz1, hB1⟩
      case round =>
        clear own1 hz1 hB1
        obtain ⟨a, ha, rfl, own, hz, Bi⟩ := hrel
        by_cases hla : a < P
        · obtain ⟨nb, no, rfl, hnb, hnc⟩ := hLI.at (i := a) (by rw [HLN.out]; exact hla)
          have hca := kept_cell Bi (hnc a (by rw [HLN.out]; exact hla)) (by rw [HZ.out]; exact hnb)
          rw [HGL.out a hla] at hca
          have hcs := kept_cell Bi (kept_cell B hs0 hsbl) (by have := B.size; omega)
          have hcB := kept_cell Bi c hzw
          have hrow : (a + 1) * Q ≤ P * Q := Nat.mul_le_mul_right _ hla
          have hrow2 : (a + 1) * Q = a * Q + Q := by rw [Nat.add_mul, Nat.one_mul]
          obtain ⟨aQ, haQ⟩ : ∃ aQ, aQ = a * Q := ⟨_, rfl⟩
          have HAQ := Lib.hid haQ
          rw [← haQ] at own hrow2
          have hbd : aQ + Q ≤ 1024 := by omega
          have HRW := Lib.hid hrow2
          have HY0 : Hid (itW S x (csF S T (Q : Int) k (a : Int)) 0 = csF S T (Q : Int) k (a : Int)) := Lib.hid rfl
          have HYW : Hid (∀ d, Wd S (itW S x (csF S T (Q : Int) k (a : Int)) d)) := Lib.hid fun d => itW_wd HSp.out _ (csF_wd HSp.out _ _ _ _) d
          have HST : Hid (∀ d, sumW S (itW S x (csF S T (Q : Int) k (a : Int)) d) x = itW S x (csF S T (Q : Int) k (a : Int)) (d + 1)) := Lib.hid fun d => rfl
          have HCA : Hid (∀ d, d < Q → csL S T (Q : Int) (k + 1) (aQ + d) ++ [itW S x (csF S T (Q : Int) k (a : Int)) d] = csL S T (Q : Int) (k + 1) (aQ + (d + 1))) := Lib.hid fun d hd => by rw [haQ]; exact HCS.out a d hd
          rw [← HY0.out] at hca
          obtain ⟨Y, hY⟩ : ∃ Y : Nat → Int, Y = itW S x (csF S T (Q : Int) k (a : Int)) := ⟨_, rfl⟩
          rw [← hY] at hca HYW HST HCA
          obtain ⟨G, hG⟩ : ∃ G : Nat → List Int, G = csL S T (Q : Int) (k + 1) := ⟨_, rfl⟩
          have HGl : Hid (∀ n, (G n).length = n) := Lib.hid fun n => by rw [hG]; exact csL_len _ _ _ _ _
          have HGe := Lib.hid hG
          rw [← hG] at own HCA
          have own2 : OwnInts wr Z _ (G (aQ + 0)) := own
          clear hnc haQ hrow hrow2 hY hG own
          go_wp2_with fail
          go_loopw [8, 10, 29] (fun v y i wj => ∃ d : Nat, d ≤ Q ∧ i = .int .i64 d ∧ y = .int .i64 (Y d) ∧ OwnInts wj Z v (G (aQ + d)) ∧ Z ≤ wj.heap.size ∧ Below Z wo wj) (fun _ _ i _ => Q - (intOf i).toNat)
          case atStart => exact ⟨0, Nat.zero_le _, rfl, rfl, own2, hz, Bi⟩
          case round =>
            clear own2 hz Bi hca hcs hcB
            obtain ⟨d, hd, rfl, rfl, own, hz, Bi⟩ := hrel
            by_cases hld : d < Q
            · have hcB := kept_cell Bi c hzw
              have hyw := HYW.out d
              unfold Wd at hyw
              obtain ⟨y1, y2⟩ := hyw
              have HS1 := Lib.hid (HST.out d)
              have HC2 := Lib.hid (HCA.out d hld)
              have hgl := HGl.out (aQ + d)
              obtain ⟨L, hL⟩ : ∃ L, L = G (aQ + d) := ⟨_, rfl⟩
              rw [← hL] at own hgl HC2
              obtain ⟨y, hy⟩ : ∃ y, y = Y d := ⟨_, rfl⟩
              rw [← hy] at y1 y2 HS1 HC2 ⊢
              have hl9 : L.length ≤ 1000000 := by omega
              clear hL hy hgl
              go_wp2_with (at_builtin; refine wpList_append_int rfl _ _ rfl Z _ L rfl (own.alloc _) wr.heap.size _ rfl (cell_new _ _ _) (by omega) (by simp; omega) ?_; intro v' w4 hown' hgrow; have B4 : Below Z wo w4 := grown_below (Bi.alloc hz _) (by simp; omega) hgrow (own.alloc _) (Nat.le_refl _); have hz4 : Z ≤ w4.heap.size := (by have := hgrow.size; simp at this; omega); have c4 := kept_cell B4 c hzw)
              clear hgrow own
              refine (sumOfWords_any _ S cap HSp.out y x y1 (by omega) x1 (by omega) _ (hS.below (B.trans (B4.mono (by have := B.size; omega))))).mono ?_
              rintro e w5 ⟨rfl, hb5⟩
              have own5 := hown'.below hb5
              have B5 := B4.trans (hb5.mono hz4)
              have hz5 : Z ≤ w5.heap.size := Nat.le_trans hz4 hb5.size
              clear hb5
              go_wp2_with fail
              go_roundw
              case rel => exact ⟨d + 1, by omega, by go_num, by rw [HS1.out], by rw [← HC2.out]; exact own5, hz5, B5⟩
              case measure => simp [intOf]; omega
            · have hdq : Hid (d = Q) := Lib.hid (by omega)
              rw [hdq.out, ← HRW.out, HGe.out] at own
              go_wp2_with fail
              go_roundw
              case rel => exact ⟨a + 1, by omega, by go_num, own, hz, Bi⟩
              case measure => simp [intOf]; omega
        · have hap : Hid (a = P) := Lib.hid (by omega)
          rw [hap.out, ← HPS3.out] at own
          have c9 := kept_cell Bi c hzw
          have B9 := B.trans (Bi.mono (by have := B.size; omega))
          go_wp2_with fail
          go_roundw
          case rel => exact ⟨k + 1, by omega, by go_num, own.rebase (by omega), c9, by omega, B9⟩
          case measure => simp [intOf]; omega
    · have hkt : Hid (k = T.length) := Lib.hid (by omega)
      rw [hkt.out] at own
      go_wp2_with fail
      go_ret
      exact ⟨_, rfl, own.rebase (by omega), B⟩

end Go.Proofs.Ytamebfbddoeflaa

namespace Go.Proofs.Ytamebfbddoeflaa
open Go.RowKit Cv
set_option linter.unusedVariables false
set_option linter.unusedSimpArgs false
set_option maxRecDepth 100000

theorem results_sp9 {fn : Func} {p u1 u2 : Tmp} {ty : TypeId} (h : fn.results = #[.cell p ty, .tmp u1, .tmp u2]) (tmps : Array Value) (P : Program) (w : World) :
    (results fn tmps).run P w =
      ((asAddr (tmps.getD p undef)).run P w).andThen fun a w₁ => ((loadVar ty a).run P w₁).andThen fun v w₂ => .ok (.tuple #[v, tmps.getD u1 undef, tmps.getD u2 undef]) w₂ := by
  simp only [results, h]
  simp [Sem.run_bind, Result.andThen]
theorem box2_9 (w : World) (a c : Value) (t : TypeId) : ∃ W, W = (w.alloc (.cells #[a] t)).alloc (.cells #[c] t) ∧ W.cell? ⟨w.heap.size, 0, none⟩ = some a ∧ W.heap[w.heap.size + 1]? = some (.cells #[c] t (0, 0)) ∧ W.heap.size = w.heap.size + 2 ∧ Below w.heap.size w W := by
  have s1 : (w.alloc (.cells #[a] t)).heap.size = w.heap.size + 1 := World.size_alloc _ _
  have s2 : ((w.alloc (.cells #[a] t)).alloc (.cells #[c] t)).heap.size = w.heap.size + 2 := by rw [World.size_alloc, s1]
  have b1 : Below (w.alloc (.cells #[a] t)).heap.size (w.alloc (.cells #[a] t)) ((w.alloc (.cells #[a] t)).alloc (.cells #[c] t)) := (Below.refl _ _).alloc (Nat.le_refl _) _
  have b0 : Below w.heap.size w ((w.alloc (.cells #[a] t)).alloc (.cells #[c] t)) := ((Below.refl _ _).alloc (Nat.le_refl _) _).trans (b1.mono (by omega))
  have x1 := kept_cell b1 (cell_new w a t) (lt_alloc _ _)
  have x3 := heap_alloc_last (w.alloc (.cells #[a] t)) (.cells #[c] t)
  rw [s1] at x3
  exact ⟨_, rfl, x1, x3, s2, b0⟩
theorem row_alloc9 {w : World} {b : Nat} {o : Obj} (h : w.heap[b]? = some o) (o2 : Obj) : (w.alloc o2).heap[b]? = some o := by
  have hlt := (Array.getElem?_eq_some_iff.1 h).1
  rw [((Below.refl w.heap.size w).alloc (Nat.le_refl _) o2).block b hlt]; exact h
theorem row_below9 {w w' : World} {b n : Nat} {o : Obj} (h : w.heap[b]? = some o) (hb : Below n w w') (hn : b < n) : w'.heap[b]? = some o := by rw [hb.block b hn]; exact h
theorem row_kept9 {w w' : World} {b : Nat} {r : Option Nat} {o : Obj} (h : w.heap[b]? = some o) (hg : w.grownBy w' r) (hn : some b ≠ r) : w'.heap[b]? = some o := by
  have hlt := (Array.getElem?_eq_some_iff.1 h).1
  obtain ⟨_, _, _, _, hblk⟩ := hg
  rw [hblk b hlt hn]; exact h
theorem IsSpace_n9 (ao : Option Addr) (S : List Int) (K cap : Nat) (hK : K = S.length) (w : World) (hn : K ≤ 4294967296) (hS : Ints w ao S) :
    Calls Try.prog 35 #[.agg #[.slice ao K cap]] w fun e w' => e = .returned (.bool (isSp S)) ∧ Below w.heap.size w w' := by
  subst hK; exact IsSpace_any ao S cap w hn hS
theorem l01Is_n9 (ao : Option Addr) (S : List Int) (K cap : Nat) (hK : K = S.length) (w : World) (hn : K ≤ 4294967296) (hS : Ints w ao S) :
    Calls Try.prog 40 #[.agg #[.slice ao K cap]] w fun e w' => e = .returned (.bool (isSp S)) ∧ Below w.heap.size w w' := by
  subst hK; exact l01Is_any ao S cap w hn hS

end Go.Proofs.Ytamebfbddoeflaa
