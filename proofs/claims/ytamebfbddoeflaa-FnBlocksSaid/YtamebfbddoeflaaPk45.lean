/-
  Texts put together: CcN9, Walk. By an AI agent.
-/
import Derived.Test.YtamebfbddoeflaaPkCcI9
import Derived.Test.YtamebfbddoeflaaPkCcS9
import Derived.RangeFuncNested
import Derived.RangeFuncBound
import Derived.RangeFuncCalls
import Derived.RangeFuncLeaves
import Derived.Shelf.Abstract
import Derived.Shelf.RegionOpen
import Derived.WalkKit
import Derived.OwnWalkIn
import Derived.TacticsInMore
import Derived.LoopNIn
import Derived.LoopIn
import Derived.Test.YtamebfbddoeflaaPkMath
import Derived.Test.YtamebfbddoeflaaPkMem
namespace Go.Proofs.Ytamebfbddoeflaa
open Go.RowKit Cv
set_option linter.unusedVariables false
set_option linter.unusedSimpArgs false
set_option maxRecDepth 100000

set_option maxHeartbeats 4000000 in
theorem impl_CodeByColumns_e1o (ao : Option Addr) (S : List Int) (cap : Nat) (hn : S.length ≤ 4294967296) (ac : Option Addr) (C : List Int) (capc : Nat) (hnc : C.length ≤ 4294967296) (at' : Option Addr) (T : List Int) (capt : Nat) (hnt : T.length ≤ 4294967296) (hct : T.length ≤ capt) (w : World) (hS : Ints w ao S) (hC : Ints w ac C) (hT : Ints w at' T) (hz : eCs S C T 0 ≠ 0) :
    Calls Try.prog 11 #[.agg #[.slice ao S.length cap], .slice ac C.length capc, .slice at' T.length capt] w fun e w' => ∃ m vs v, e = .returned (.tuple #[.agg #[vs], v, .int .i64 (eCc S C T)]) ∧ w.heap.size ≤ m ∧ RowIn vs w.heap.size m ∧ OwnInts w' w.heap.size vs (vCcS S C T) ∧ OwnInts w' m v (vCcC S C T) ∧ m ≤ w'.heap.size ∧ Below w.heap.size w w' := by
  obtain ⟨W0, hW0, cS, rR, z0, B0⟩ := box2_9 w (.slice ao S.length cap) (.slice none 0 0) 26
  have HW0 := Lib.hid hW0
  have z0a : w.heap.size + 2 ≤ W0.heap.size := by omega
  have hce := columnsError_any ao S cap hn ac C capc hnc at' T capt hnt 0 W0 (hS.below B0) (hC.below B0) (hT.below B0)
  obtain ⟨x1, x2, x3⟩ := eCc_1 hz
  have HE := Lib.hid x1
  have HS0 := Lib.hid x2
  have HC0 := Lib.hid x3
  have hzn : (eCs S C T 0 != 0) = true := by simpa using hz
  have HCE := Lib.hid hce
  clear hW0 z0 hce hz x1 x2 x3
  go_enter Try.func11, Try.ntmps11
  go_wp2_with fail
  rw [← HW0.out]
  refine HCE.out.mono ?_
  rintro e w1 ⟨rfl, hb1⟩
  have s1 : w.heap.size + 2 ≤ w1.heap.size := by have := hb1.size; omega
  have cS1 := kept_cell hb1 cS (by omega)
  have rR1 := row_below9 rR hb1 (by omega)
  have B1 := B0.trans (hb1.mono (by omega))
  clear HCE hb1
  have rc : w1.cell? ⟨w.heap.size + 1, 0, none⟩ = some (.slice none 0 0) := by rw [cell_of_row w1 (w.heap.size + 1) 0 _ _ _ rR1]; rfl
  have rf : w1.frozen? ⟨w.heap.size + 1, 0, none⟩ = false := by have h' := rR1; simp [World.frozen?, h']
  have rs : (w1.setCell ⟨w.heap.size + 1, 0, none⟩ (.slice none 0 0)).cell? ⟨w.heap.size + 1, 0, none⟩ = some (.slice none 0 0) := World.cell?_setCell_same' _ _ _ (by rw [rc]; rfl)
  have B9 : Below w.heap.size w (w1.setCell ⟨w.heap.size + 1, 0, none⟩ (.slice none 0 0)) := B1.setCell (show w.heap.size ≤ w.heap.size + 1 by omega) _
  go_wp2_with fail
  refine bodyPost_ret (by rw [results_sp9 rfl]; go_simp; try rfl) rfl ?_
  exact ⟨w.heap.size, .slice none 0 0, _, by rw [HE.out], Nat.le_refl _, fun k hk => (by cases hk), by rw [HS0.out]; exact own_nil _ _, by rw [HC0.out]; exact own_nil _ _, B9.size, B9⟩

theorem impl_CodeByColumns_o (ao : Option Addr) (S : List Int) (cap : Nat) (hn : S.length ≤ 4294967296) (ac : Option Addr) (C : List Int) (capc : Nat) (hnc : C.length ≤ 4294967296) (at' : Option Addr) (T : List Int) (capt : Nat) (hnt : T.length ≤ 4294967296) (hct : T.length ≤ capt) (w : World) (hS : Ints w ao S) (hC : Ints w ac C) (hT : Ints w at' T) :
    Calls Try.prog 11 #[.agg #[.slice ao S.length cap], .slice ac C.length capc, .slice at' T.length capt] w fun e w' => ∃ m vs v, e = .returned (.tuple #[.agg #[vs], v, .int .i64 (eCc S C T)]) ∧ w.heap.size ≤ m ∧ RowIn vs w.heap.size m ∧ OwnInts w' w.heap.size vs (vCcS S C T) ∧ OwnInts w' m v (vCcC S C T) ∧ m ≤ w'.heap.size ∧ Below w.heap.size w w' := by
  cases ao with
  | some as0 => exact impl_CodeByColumns as0 S cap hn ac C capc hnc at' T capt hnt hct w hS hC hT
  | none =>
    have hl : S.length = 0 := by
      rcases hS with h | ⟨_, _, e, _⟩
      · exact h
      · cases e
    exact impl_CodeByColumns_e1o none S cap hn ac C capc hnc at' T capt hnt hct w hS hC hT (by
      have : isSp S = false := isSp_len (by omega)
      unfold eCs; rw [this]; simp)

set_option maxHeartbeats 4000000 in
theorem spec_CodeByColumns_e1o (ao : Option Addr) (S : List Int) (cap : Nat) (hn : S.length ≤ 4294967296) (ac : Option Addr) (C : List Int) (capc : Nat) (hnc : C.length ≤ 4294967296) (at' : Option Addr) (T : List Int) (capt : Nat) (hnt : T.length ≤ 4294967296) (hct : T.length ≤ capt) (w : World) (hS : Ints w ao S) (hC : Ints w ac C) (hT : Ints w at' T) (hz : eCs S C T 0 ≠ 0) :
    Calls Try.prog 12 #[.agg #[.slice ao S.length cap], .slice ac C.length capc, .slice at' T.length capt] w fun e w' => ∃ m vs v, e = .returned (.tuple #[.agg #[vs], v, .int .i64 (eCc S C T)]) ∧ w.heap.size ≤ m ∧ RowIn vs w.heap.size m ∧ OwnInts w' w.heap.size vs (vCcS S C T) ∧ OwnInts w' m v (vCcC S C T) ∧ m ≤ w'.heap.size ∧ Below w.heap.size w w' := by
  obtain ⟨W0, hW0, cS, rR, z0, B0⟩ := box2_9 w (.slice ao S.length cap) (.slice none 0 0) 26
  have HW0 := Lib.hid hW0
  have z0a : w.heap.size + 2 ≤ W0.heap.size := by omega
  have hce := l09Set_any ao S cap hn ac C capc hnc at' T capt hnt W0 (hS.below B0) (hC.below B0) (hT.below B0)
  obtain ⟨x1, x2, x3⟩ := eCc_1 hz
  have HE := Lib.hid x1
  have HS0 := Lib.hid x2
  have HC0 := Lib.hid x3
  have hzn : (eCs S C T 0 != 0) = true := by simpa using hz
  have hzb : (eCs S C T 0 == 0) = false := by simpa using hz
  have HCE := Lib.hid hce
  clear hW0 z0 hce hz x1 x2 x3
  go_enter Try.func12, Try.ntmps12
  go_wp2_with fail
  rw [← HW0.out]
  refine HCE.out.mono ?_
  rintro e w1 ⟨rfl, hb1⟩
  have s1 : w.heap.size + 2 ≤ w1.heap.size := by have := hb1.size; omega
  have cS1 := kept_cell hb1 cS (by omega)
  have rR1 := row_below9 rR hb1 (by omega)
  have B1 := B0.trans (hb1.mono (by omega))
  clear HCE hb1
  have rc : w1.cell? ⟨w.heap.size + 1, 0, none⟩ = some (.slice none 0 0) := by rw [cell_of_row w1 (w.heap.size + 1) 0 _ _ _ rR1]; rfl
  have rf : w1.frozen? ⟨w.heap.size + 1, 0, none⟩ = false := by have h' := rR1; simp [World.frozen?, h']
  have rs : (w1.setCell ⟨w.heap.size + 1, 0, none⟩ (.slice none 0 0)).cell? ⟨w.heap.size + 1, 0, none⟩ = some (.slice none 0 0) := World.cell?_setCell_same' _ _ _ (by rw [rc]; rfl)
  have B9 : Below w.heap.size w (w1.setCell ⟨w.heap.size + 1, 0, none⟩ (.slice none 0 0)) := B1.setCell (show w.heap.size ≤ w.heap.size + 1 by omega) _
  go_wp2_with fail
  refine bodyPost_ret (by rw [results_sp9 rfl]; go_simp; try rfl) rfl ?_
  exact ⟨w.heap.size, .slice none 0 0, _, by rw [HE.out], Nat.le_refl _, fun k hk => (by cases hk), by rw [HS0.out]; exact own_nil _ _, by rw [HC0.out]; exact own_nil _ _, B9.size, B9⟩

theorem spec_CodeByColumns_o (ao : Option Addr) (S : List Int) (cap : Nat) (hn : S.length ≤ 4294967296) (ac : Option Addr) (C : List Int) (capc : Nat) (hnc : C.length ≤ 4294967296) (at' : Option Addr) (T : List Int) (capt : Nat) (hnt : T.length ≤ 4294967296) (hct : T.length ≤ capt) (w : World) (hS : Ints w ao S) (hC : Ints w ac C) (hT : Ints w at' T) :
    Calls Try.prog 12 #[.agg #[.slice ao S.length cap], .slice ac C.length capc, .slice at' T.length capt] w fun e w' => ∃ m vs v, e = .returned (.tuple #[.agg #[vs], v, .int .i64 (eCc S C T)]) ∧ w.heap.size ≤ m ∧ RowIn vs w.heap.size m ∧ OwnInts w' w.heap.size vs (vCcS S C T) ∧ OwnInts w' m v (vCcC S C T) ∧ m ≤ w'.heap.size ∧ Below w.heap.size w w' := by
  cases ao with
  | some as0 => exact spec_CodeByColumns as0 S cap hn ac C capc hnc at' T capt hnt hct w hS hC hT
  | none =>
    have hl : S.length = 0 := by
      rcases hS with h | ⟨_, _, e, _⟩
      · exact h
      · cases e
    exact spec_CodeByColumns_e1o none S cap hn ac C capc hnc at' T capt hnt hct w hS hC hT (by
      have : isSp S = false := isSp_len (by omega)
      unfold eCs; rw [this]; simp)

end Go.Proofs.Ytamebfbddoeflaa

namespace Go.Proofs.Ytamebfbddoeflaa
open Go.RowKit Go.Shelf Cv
set_option linter.unusedVariables false
set_option linter.unusedSimpArgs false
set_option maxRecDepth 100000

attribute [local go_sem] Oper.semAt_some

theorem room_none {F : Fence} (hd : F.depth = none) (k : Nat) : F.room k := fun d h => by rw [hd] at h; cases h
theorem round_any {F : Fence} (hd : F.depth = none) {m m' : Nat} {P : Program} {l : Nat} {f : FuncId} {tmps : Array Value} {assign body : Code} {w : World} {R : Ending → World → Prop}
    (h : RoundIn F m P l f tmps assign body w R) : RoundIn F m' P l f tmps assign body w R := ⟨h.1, fun c cs _ => h.2 c cs (room_none hd _)⟩
theorem yield_any {F : Fence} (hd : F.depth = none) {m : Nat} (m' : Nat) {P : Program} {l : Nat} {args : Array Value} {W : World} {R : Ending → World → Prop} (h : YieldAt F m P l args W R) : YieldAt F m' P l args W R := by
  obtain ⟨fn, tmps, assign, body, hy, hR⟩ := h
  exact ⟨fn, tmps, assign, body, hy, round_any hd hR⟩

/-- the boxes of a type lie as they lay -/
def KeepsT (t : TypeId) (W W' : World) : Prop := ∀ (k : Nat) (cur : Array Value), W.heap[k]? = some (.cells cur t (0, 0)) → W'.heap[k]? = some (.cells cur t (0, 0))
theorem KeepsT.refl (t : TypeId) (W : World) : KeepsT t W W := fun _ _ h => h
theorem KeepsT.trans {t : TypeId} {A B C : World} (h : KeepsT t A B) (k : KeepsT t B C) : KeepsT t A C := fun i cur hi => k i cur (h i cur hi)
theorem KeepsT.alloc {t : TypeId} {A B : World} (h : KeepsT t A B) (o : Obj) : KeepsT t A (B.alloc o) := fun i cur hi => by
  have h2 := h i cur hi
  first | (rw [heap_alloc_old B o i (Array.getElem?_eq_some_iff.1 h2).1]; exact h2) | (rw [heap_alloc_old B o (Array.getElem?_eq_some_iff.1 h2).1]; exact h2)
theorem KeepsT.drew {t : TypeId} {A B : World} (h : KeepsT t A B) : KeepsT t A B.drew := h

/-- a block of cells lies as it lay -/
def KeepsAt (g : Nat) (W W' : World) : Prop := ∀ (cur : Array Value) (t : TypeId), W.heap[g]? = some (.cells cur t (0, 0)) → W'.heap[g]? = some (.cells cur t (0, 0))
theorem KeepsAt.refl (g : Nat) (W : World) : KeepsAt g W W := fun _ _ h => h
theorem KeepsAt.trans {g : Nat} {A B C : World} (h : KeepsAt g A B) (k : KeepsAt g B C) : KeepsAt g A C := fun cur t hi => k cur t (h cur t hi)
theorem KeepsAt.alloc {g : Nat} {A B : World} (h : KeepsAt g A B) (o : Obj) : KeepsAt g A (B.alloc o) := fun cur t hi => by
  have h2 := h cur t hi
  first | (rw [heap_alloc_old B o g (Array.getElem?_eq_some_iff.1 h2).1]; exact h2) | (rw [heap_alloc_old B o (Array.getElem?_eq_some_iff.1 h2).1]; exact h2)
theorem KeepsAt.of_grown {g : Nat} {W W' : World} {row : Option Nat} (hg : W.grownBy W' row) (hne : row ≠ some g) : KeepsAt g W W' := fun cur t hi =>
  (hg.block g (Array.getElem?_eq_some_iff.1 hi).1 (fun e => hne e.symm)).trans hi
theorem KeepsAt.set {g b k : Nat} {W : World} {v : Value} (hne : g ≠ b) : KeepsAt g W (W.setCell ⟨b, k, none⟩ v) := fun cur t hi => by
  rw [Below.heap_setCell _ _ _ _ (fun e => hne e)]; exact hi

/-- what a round of a loop over the walk keeps -/
def KpB (n₀ g : Nat) (W W' : World) : Prop := Below n₀ W W' ∧ KeepsT 114 W W' ∧ KeepsAt g W W'

theorem box_cells {W : World} {B : Nat} {c0 c1 c2 : Value} (h : W.heap[B]? = some (.cells #[c0, c1, c2] 114 (0, 0))) : W.cell? ⟨B, 0, none⟩ = some c0 ∧ W.cell? ⟨B, 1, none⟩ = some c1 ∧ W.cell? ⟨B, 2, none⟩ = some c2 := by
  refine ⟨?_, ?_, ?_⟩ <;> simp [World.cell?, h]

def encW {S : List Int} {x r : Int} (p : WP S x r) : Array Value := #[.int .i64 p.1.1, .int .i64 p.1.2]

set_option maxHeartbeats 4000000 in
theorem walk_in (F : Fence) (hd : F.depth = none) (hw : F.fn 88) (hro : F.round = none) (l n₁ N : Nat) (w0 : World) (S : List Int) (hSp : Sp S) (x r : Int) (hr : r ≤ 8) (ao : Option Addr) (g cs cm : Nat) (D : Array Value) (hS : Ints w0 ao S) (hD : ∀ i, i < S.length → D[i]? = some (.int .i64 (dig S x i))) (hn₁ : w0.heap.size ≤ n₁)
    (J Jx : List (WP S x r) → World → Prop) (hJ : AbidesFrom n₁ J)
    (hY : ∀ m pre (p : WP S x r) W, J pre W → pre.length < N → YieldAt F m Try.prog l (encW p) W fun e W' =>
      (e = .returned (.bool true) ∧ J (pre ++ [p]) W' ∧ KpB w0.heap.size g W W') ∨ (e = .returned (.bool false) ∧ Jx (pre ++ [p]) W')) (k : Nat) :
    ∀ (n i : Nat) (iv st far : Int) (pre : List (WP S x r)) (W : World), Hid (iv = (i : Int)) → i + k = S.length → WayB S x r k st far → Below w0.heap.size w0 W → W.heap[g]? = some (.cells D 2 (0, 0)) → n₁ ≤ W.heap.size → J pre W → pre.length + (walkL S x r k st far).length ≤ N →
      CallsIn F n Try.prog 88 #[.agg #[.slice ao S.length cs, .slice (some ⟨g, 0, none⟩) S.length cm, .int .i64 r], .int .i64 iv, .int .i64 st, .int .i64 far, .func (.yield l) #[] #[]] W fun e W' =>
        (e = .returned (.bool true) ∧ ∃ ys, Hid (ys.map Subtype.val = walkL S x r k st far) ∧ J (pre ++ ys) W' ∧ KpB w0.heap.size g W W') ∨ (e = .returned (.bool false) ∧ ∃ q, Jx q W') := by
  have HSp := Lib.hid hSp
  have hhi := hSp.hi
  have HDG := Lib.hid hD
  clear hSp hD
  have hdd : ∀ k : Nat, (F.depth.isSome = true → 1 ≤ k) := fun k h => by rw [hd] at h; cases h
  induction k with
  | zero =>
    intro n i iv st far pre W hiv hi hW hB hG hn hj hl
    obtain rfl := hiv.out
    have hin : i = S.length := by omega
    subst hin
    have hwe := way_end hW
    have hj' : J pre (W.alloc (.cells #[.slice ao S.length cs, .slice (some ⟨g, 0, none⟩) S.length cm, .int .i64 r] 114)) := hJ _ _ _ none hj (World.grownBy_alloc _ _ _) (fun r h => by cases h)
    obtain ⟨p, hp⟩ : ∃ p : WP S x r, p.1 = (st, far) := ⟨⟨(st, far), hwe⟩, rfl⟩
    obtain ⟨fn, tmps, assign, body, hy, hR⟩ := hY (n - 1) pre p _ hj' (by simp [walkL] at hl; omega)
    simp only [encW, hp] at hy
    have HP : Hid ([p].map Subtype.val = walkL S x r 0 st far) := Lib.hid (by simp [walkL, hp])
    clear hwe hW hp hiv hi hl hj hj' hG
    refine callsIn_of_wp Try.func88 rfl hw ?_ hro
    simp only [Try.ntmps88, List.size_toArray, List.length_cons, List.length_nil, Nat.reduceAdd, Nat.reduceSub, Array.replicate_succ, Array.replicate_zero, List.push_toArray, List.append_toArray, List.nil_append, List.cons_append]
    gi_wp2
    refine hR.mono ?_
    rintro e W' (⟨rfl, hJ', hk1, hk2, hk3⟩ | ⟨rfl, hx⟩)
    · gi_wp2
      go_ret
      exact .inl ⟨rfl, [p], HP, hJ', Below.trans ((Below.refl _ _).alloc (by omega) _) hk1, KeepsT.trans ((KeepsT.refl _ _).alloc _) hk2, KeepsAt.trans ((KeepsAt.refl _ _).alloc _) hk3⟩
    · gi_wp2
      go_ret
      exact .inr ⟨rfl, _, hx⟩
  | succ k ih =>
    intro n i iv st far pre W hiv hi hW hB hG hn hj hl
    obtain rfl := hiv.out
    clear hiv
    have hik : S.length - 1 - k = i := by omega
    have hlt : i < S.length := by omega
    have hbq := HSp.out.bd i hlt
    obtain ⟨q, hq⟩ : ∃ q : Nat, gi S i = (q : Int) := ⟨(gi S i).toNat, by omega⟩
    have HQ := Lib.hid (hik ▸ hq : gi S (S.length - 1 - k) = (q : Int))
    have q1 : 2 ≤ q ∧ q ≤ 4 := by omega
    obtain ⟨bs, os, rfl, hbs, hcs⟩ := hS.at hlt
    have hs0 := hcs i hlt
    have hm0 := HDG.out i hlt
    rw [hq] at hs0
    have hs1 : (W.alloc (.cells #[.slice (some ⟨bs, os, none⟩) S.length cs, .slice (some ⟨g, 0, none⟩) S.length cm, .int .i64 r] 114)).cell? ⟨bs, os + i, none⟩ = some (.int .i64 (q : Int)) :=
      kept_cell (hB.alloc (by omega) _) hs0 hbs
    have hst := hW.lo
    have hst2 : st ≤ 65536 := by
      have h1 := hW.hi
      have h2 := (prodTo_le S (S.length - (k + 1)) (fun i hi => HSp.out.bd i (by omega)) (by omega)).2
      omega
    have hm : 0 ≤ st * (q : Int) ∧ st * (q : Int) ≤ 65536 * 4 := ⟨Int.mul_nonneg hst (by omega), Int.mul_le_mul hst2 (by omega) (by omega) (by omega)⟩
    obtain ⟨m1, m2⟩ := hm
    have hf0 := hW.f0
    have hf1 : far ≤ 8 := by have := hW.f1; omega
    have HW := Lib.hid hW
    have HI := Lib.hid hik
    have hW0 : (W.alloc (.cells #[.slice (some ⟨bs, os, none⟩) S.length cs, .slice (some ⟨g, 0, none⟩) S.length cm, .int .i64 r] 114)).heap[W.heap.size]? = some (.cells #[.slice (some ⟨bs, os, none⟩) S.length cs, .slice (some ⟨g, 0, none⟩) S.length cm, .int .i64 r] 114 (0, 0)) := World.alloc_heap_new W _
    have hj' : J pre (W.alloc (.cells #[.slice (some ⟨bs, os, none⟩) S.length cs, .slice (some ⟨g, 0, none⟩) S.length cm, .int .i64 r] 114)) := hJ _ _ _ none hj (World.grownBy_alloc _ _ _) (fun r h => by cases h)
    have hiN : ((i : Int) == (S.length : Int)) = false := by simp; omega
    have HG := Lib.hid hG
    clear hW hik hq hbq hcs hs0 hj hG
    have HHM := Lib.hid hm0
    clear hm0
    refine callsIn_of_wp Try.func88 rfl hw ?_ hro
    simp only [Try.ntmps88, List.size_toArray, List.length_cons, List.length_nil, Nat.reduceAdd, Nat.reduceSub, Array.replicate_succ, Array.replicate_zero, List.push_toArray, List.append_toArray, List.nil_append, List.cons_append]
    gi_wp2
    gi_loopw [30] (fun d wr => ∃ (j : Nat) (ys : List (WP S x r)), j ≤ q ∧ d = .int .i64 j ∧ Hid (ys.map Subtype.val = walkU S x r k st far j) ∧ J (pre ++ ys) wr ∧ wr.heap[W.heap.size]? = some (.cells #[.slice (some ⟨bs, os, none⟩) S.length cs, .slice (some ⟨g, 0, none⟩) S.length cm, .int .i64 r] 114 (0, 0)) ∧ KpB w0.heap.size g W wr) (fun d _ => q - (intOf d).toNat)
    case atStart => exact ⟨0, [], Nat.zero_le _, rfl, Lib.hid rfl, by simpa using hj', hW0, (Below.refl _ _).alloc (by omega) _, (KeepsT.refl _ _).alloc _, (KeepsAt.refl _ _).alloc _⟩
    case round =>
      clear hW0 hj' hs1
      obtain ⟨j, ys, hjq, rfl, HY, hJ2, hbox, hkp⟩ := hrel
      obtain ⟨b0, b1, b2⟩ := box_cells hbox
      have hbw := hkp.1
      have HGW := Lib.hid (hkp.2.2 _ _ HG.out)
      have hmw : wr.cell? ⟨g, i, none⟩ = some (.int .i64 (dig S x i)) := by rw [cell_of_row wr g i D 2 (0, 0) HGW.out]; exact HHM.out
      by_cases hlj : j < q
      · have hdig : (j : Int) < gi S (S.length - 1 - k) := by rw [HQ.out]; omega
        have HJ2 := Lib.hid hJ2
        have HBX := Lib.hid hbox
        have HKP := Lib.hid hkp
        have hsw : W.heap.size ≤ wr.heap.size := hbw.size
        clear hJ2 hbox hkp hbw
        -- the digit is the middle's, or another
        by_cases hdg : (j : Int) = dig S x i
        all_goals
          first
          | (have hne : ((j : Int) != dig S x i) = false := by simpa using hdg
             obtain ⟨nx, hnx, hnx0, hnx8⟩ : ∃ nx, far + cost S x k (j : Int) = nx ∧ nx = far ∧ nx ≤ 9 := ⟨_, rfl, by rw [cost_eq (by rw [HI.out]; exact hdg)]; omega, by rw [cost_eq (by rw [HI.out]; exact hdg)]; omega⟩)
          | (have hne : ((j : Int) != dig S x i) = true := by simpa using hdg
             obtain ⟨nx, hnx, hnx0, hnx8⟩ : ∃ nx, far + cost S x k (j : Int) = nx ∧ nx = far + 1 ∧ nx ≤ 9 := ⟨_, rfl, by rw [cost_ne (by rw [HI.out]; exact hdg)], by rw [cost_ne (by rw [HI.out]; exact hdg)]; omega⟩)
          have HNX := Lib.hid hnx
          by_cases hle : nx ≤ r
          · have HWN : Hid (WayB S x r k (st * (q : Int) + j) nx) := Lib.hid (by
              have := way_step HSp.out.bd (by omega) HW.out j hdig (by rw [hnx]; exact hle)
              rw [HQ.out, hnx] at this; exact this)
            have HWD : Hid (walkD S x r k st far j = walkL S x r k (st * (q : Int) + j) nx) := Lib.hid (by
              rw [walkD_yes (by rw [hnx]; exact hle), HQ.out, hnx])
            have HLEN : Hid ((pre ++ ys).length + (walkL S x r k (st * (q : Int) + j) nx).length ≤ N) := Lib.hid (by
              have h1 := walkU_len S x r k st far q (j + 1) HQ.out (by omega)
              rw [walkU_succ, ← HY.out, HWD.out, List.length_append, List.length_map] at h1
              rw [List.length_append]; omega)
            have hc := ih (n - 1) (i + 1) ((i : Int) + 1) (st * (q : Int) + j) nx (pre ++ ys) wr (Lib.hid (by omega)) (by omega) HWN.out (hB.trans HKP.out.1) HGW.out (by omega) HJ2.out HLEN.out
            subst hnx0
            clear hnx hdg hdig
            gi_wp2_with ((try refine ⟨hdd _, ?_⟩); gi_at_call 88; refine hc.mono ?_; clear hc; rintro e W' (⟨rfl, ys', HY', hJ', hk1, hk2, hk3⟩ | ⟨rfl, q', hx'⟩))
            · go_roundw
              case rel =>
                exact ⟨j + 1, ys ++ ys', by omega, by go_num, Lib.hid (by rw [List.map_append, walkU_succ, HY.out, HY'.out, HWD.out]), by rw [← List.append_assoc]; exact hJ', hk2 _ _ HBX.out, HKP.out.1.trans hk1, HKP.out.2.1.trans hk2, HKP.out.2.2.trans hk3⟩
              case measure => simp [intOf]; omega
            · go_ret
              exact .inr ⟨rfl, q', hx'⟩
          · have HWD : Hid (walkD S x r k st far j = []) := Lib.hid (walkD_no (by rw [hnx]; exact hle))
            subst hnx0
            clear hnx hdg hdig
            gi_wp2
            go_roundw
            case rel =>
              exact ⟨j + 1, ys, by omega, by go_num, Lib.hid (by rw [walkU_succ, HY.out, HWD.out, List.append_nil]), HJ2.out, HBX.out, HKP.out⟩
            case measure => simp [intOf]; omega
      · have ej : j = q := by omega
        gi_wp2
        go_ret
        refine .inl ⟨rfl, ys, Lib.hid ?_, hJ2, hkp⟩
        rw [HY.out, ej, walkU_all S x r k st far q HQ.out]

end Go.Proofs.Ytamebfbddoeflaa
