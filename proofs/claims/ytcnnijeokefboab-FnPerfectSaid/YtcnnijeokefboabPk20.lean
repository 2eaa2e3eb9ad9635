/-
  Texts put together: Err, ShA, Cols. By an AI agent.
-/
import Derived.Test.YtcnnijeokefboabMath
import Derived.Test.YtcnnijeokefboabPkCode2
import Derived.Test.YtcnnijeokefboabPk4
import Derived.Deep.RegionHeld3
import Derived.Test.YtcnnijeokefboabPkSort
import Derived.Test.YtcnnijeokefboabPkDel
import Derived.Test.YtcnnijeokefboabPkPut
import Derived.Test.YtcnnijeokefboabPkSums
import Derived.Test.YtcnnijeokefboabPk18
import Derived.Test.YtcnnijeokefboabMathB
import Derived.Test.YtcnnijeokefboabPkParts
import Derived.Test.YtcnnijeokefboabPk6
namespace Go.Proofs.Ytcnnijeokefboab
open Go.RowKit Cv
set_option linter.unusedVariables false
set_option linter.unusedSimpArgs false
set_option maxRecDepth 100000

theorem cmpOr2 (ao : Option Addr) (x y : Int) (cap : Nat) (w : World) (h : Ints w ao [x, y]) :
    Calls Try.prog 59 #[.slice ao 2 cap] w fun e w' => e = .returned (.int .i64 (orI x y)) ∧ w = w' := by
  obtain ⟨b, o, rfl, hb, hc⟩ := h.at (i := 0) (by simp)
  have c0 : w.cell? ⟨b, o, none⟩ = some (.int .i64 x) := by simpa [gi] using hc 0 (by simp)
  have c1 : w.cell? ⟨b, o + 1, none⟩ = some (.int .i64 y) := by simpa [gi] using hc 1 (by simp)
  clear hc h
  by_cases hx : x = 0
  · subst hx
    have HO : Hid (orI 0 y = y) := Lib.hid rfl
    by_cases hy : y = 0
    · subst hy
      go_enter Try.func59, Try.ntmps59
      go_wp2
      go_rounds 3
      go_ret
      exact ⟨rfl, rfl⟩
    · have hn : (y != 0) = true := by simpa using hy
      go_enter Try.func59, Try.ntmps59
      go_wp2
      go_rounds 2
      go_ret
      exact ⟨ret_int HO.out.symm, rfl⟩
  · have HO : Hid (orI x y = x) := Lib.hid (by unfold orI; rw [if_neg hx])
    have hn : (x != 0) = true := by simpa using hx
    clear hx
    go_enter Try.func59, Try.ntmps59
    go_wp2
    go_rounds 1
    go_ret
    exact ⟨ret_int HO.out.symm, rfl⟩

set_option maxHeartbeats 1000000 in
theorem codeAndWordsError_any (ao : Option Addr) (S : List Int) (cap : Nat) (hn : S.length ≤ 4294967296) (ac : Option Addr) (C : List Int) (capc : Nat) (hnc : C.length ≤ 4294967296) (at' : Option Addr) (T : List Int) (capt : Nat) (hnt : T.length ≤ 4294967296) (w : World) (hS : Ints w ao S) (hC : Ints w ac C) (hT : Ints w at' T) :
    Calls Try.prog 60 #[.agg #[.slice ao S.length cap], .slice ac C.length capc, .slice at' T.length capt] w fun e w' => e = .returned (.int .i64 (eCW S C T)) ∧ Below w.heap.size w w' := by
  go_enter Try.func60, Try.ntmps60
  go_wp2_with fail
  have c0 := cell_new w (.slice ao S.length cap) 26
  have B0 : Below w.heap.size w (w.alloc (.cells #[.slice ao S.length cap] 26)) := by go_grown
  go_region_held3 (fun w' => w'.cell? ⟨w.heap.size, 0, none⟩ = some (.slice ao S.length cap)) (first | exact c0 | exact kept_cell hb1 c0 (lt_alloc _ _) | exact kept_cell hb2 (kept_cell hb1 c0 (lt_alloc _ _)) (lt_of_below hb1 (lt_alloc _ _)) | exact kept_cell hb3 (kept_cell hb1 c0 (lt_alloc _ _)) (lt_of_below hb1 (lt_alloc _ _))) (first | (go_at_call 37; refine (codeError_any ao S cap hn ac C capc hnc _ (hS.below B0.drew) (hC.below B0.drew)).mono ?_; rintro e w1 ⟨rfl, hb1'⟩; have hb1 := (Below.refl _ (w.alloc (.cells #[.slice ao S.length cap] 26))).drew.trans hb1'; have B1 := B0.trans (hb1.mono B0.size)) | (go_at_call 49; refine (wordsError_any ao S cap hn at' T capt hnt _ (hS.below B1) (hT.below B1)).mono ?_; rintro e w2 ⟨rfl, hb2⟩; have hb3 := hb2.alloc (o := .cells #[.int .i64 (eCode S C), .int .i64 (eWords S T)] 2) hb2.size) | (go_at_call 59; refine (cmpOr2 _ (eCode S C) (eWords S T) _ _ (ints_new2 _ _ _ _ rfl)).mono ?_; rintro e w3 ⟨rfl, rfl⟩))
  go_wp2
  go_ret
  exact ⟨rfl, B1.trans (hb3.mono B1.size)⟩

theorem codeAndWordsError_n (ao : Option Addr) (S : List Int) (cap : Nat) (hn : S.length ≤ 4294967296) (ac : Option Addr) (C : List Int) (capc : Nat) (hnc : C.length ≤ 4294967296) (at' : Option Addr) (T : List Int) (K capt : Nat) (hK : K = T.length) (hnt : K ≤ 4294967296) (w : World) (hS : Ints w ao S) (hC : Ints w ac C) (hT : Ints w at' T) :
    Calls Try.prog 60 #[.agg #[.slice ao S.length cap], .slice ac C.length capc, .slice at' K capt] w fun e w' => e = .returned (.int .i64 (eCW S C T)) ∧ Below w.heap.size w w' := by
  subst hK; exact codeAndWordsError_any ao S cap hn ac C capc hnc at' T capt hnt w hS hC hT

end Go.Proofs.Ytcnnijeokefboab

namespace Go.Proofs.Ytcnnijeokefboab
open Go.RowKit Cv
set_option linter.unusedVariables false
set_option linter.unusedSimpArgs false
set_option maxRecDepth 100000

theorem shifted_any (ao : Option Addr) (S : List Int) (cap : Nat) (hSp : Sp S) (ac : Addr) (C : List Int) (capc : Nat) (hl : C.length ≤ 1024) (hC : ∀ i, i < C.length → 0 ≤ gi C i ∧ gi C i ≤ 9223372036854775807) (x : Int) (hx : 0 ≤ x ∧ x ≤ 9223372036854775807) (w : World) (hS : Ints w ao S) (hCI : Ints w (some ac) C) :
    Calls Try.prog 53 #[.agg #[.slice ao S.length cap], .slice (some ac) C.length capc, .int .i64 x] w fun e w' => ∃ v, e = .returned v ∧ OwnInts w' w.heap.size v (putTo [] (fun i => sumW S (gi C i) x) C.length) ∧ Below w.heap.size w w' := by
  go_enter Try.func53, Try.ntmps53
  go_wp2_with fail
  have HC := Lib.hid hC
  have B0 : Below w.heap.size w (w.alloc (.cells #[.slice ao S.length cap] 26)) := by go_grown
  clear hC
  go_loopw [7, 12] (fun vo i wr => ∃ (k g' c' : Nat), k ≤ C.length ∧ i = .int .i64 k ∧ vo = .slice (some ⟨g', 0, none⟩) (putTo [] (fun i => sumW S (gi C i) x) k).length c' ∧ OwnInts wr (w.heap.size + 1) (.slice (some ⟨g', 0, none⟩) (putTo [] (fun i => sumW S (gi C i) x) k).length c') (putTo [] (fun i => sumW S (gi C i) x) k) ∧ wr.cell? ⟨w.heap.size, 0, none⟩ = some (.slice ao S.length cap) ∧ w.heap.size < wr.heap.size ∧ Below w.heap.size w wr) (fun _ i _ => C.length - (intOf i).toNat)
  case atStart => exact ⟨0, w.heap.size + 1, 0, Nat.zero_le _, rfl, rfl, own_empty _ _ (by simp) (by simp), kept_cell ((Below.refl _ (w.alloc (.cells #[.slice ao S.length cap] 26))).alloc (Nat.le_refl _) _) (cell_new _ _ _) (lt_alloc _ _), by simp; omega, by go_grown⟩
  case round =>
    obtain ⟨k, g1, c1, hk, rfl, rfl, own, c, l, B⟩ := hrel
    have hpl := putTo_len [] (fun i => sumW S (gi C i) x) k
    simp only [List.length_nil, Nat.zero_add] at hpl
    by_cases hlt : k < C.length
    · obtain ⟨b, o, he, hbl, hc⟩ := hCI.at hlt
      obtain rfl : ac = ⟨b, o, none⟩ := by simpa using he
      have hck := kept_cell B (hc k hlt) hbl
      obtain ⟨u1, u2⟩ := HC.out k hlt
      have hs := B.size
      clear hc he
      obtain ⟨P, hP⟩ : ∃ P, P = (putTo [] (fun i => sumW S (gi C i) x) k).length := ⟨_, rfl⟩
      rw [← hP] at own ⊢
      have HP := Lib.hid hP
      have hP2 : P ≤ 1024 := by omega
      clear hP
      go_wp2_with fail
      go_region_held3 (fun w' => w'.cell? ⟨w.heap.size, 0, none⟩ = some (.slice ao S.length cap) ∧ w'.cell? ⟨b, o + k, none⟩ = some (.int .i64 (gi C k))) (first | exact ⟨c, hck⟩ | exact ⟨k2, m2⟩ | exact ⟨k3, m3⟩) (first | (go_at_call 77; refine (l01Sum_any ao S cap hSp (gi C k) x u1 u2 hx.1 hx.2 _ (hS.below B.drew)).mono ?_; rintro e w2 ⟨rfl, hb2'⟩; have hb2 : Below wr.heap.size wr w2 := (Below.refl _ wr).drew.trans hb2'; have k2 := kept_cell hb2 c l; have l2 := lt_of_below hb2 l; have m2 := kept_cell hb2 hck (Nat.lt_of_lt_of_le hbl hs); have n2 : b < w2.heap.size := Nat.lt_of_lt_of_le hbl (Nat.le_trans hs hb2.size); have own1 := own.below hb2; have B2 := B.trans (hb2.mono hs); have hp := l01Put_any (w.heap.size + 1) g1 c1 (putTo [] (fun i => sumW S (gi C i) x) k) (sumW S (gi C k) x) w2 (by rw [← HP.out]; omega) (by rw [← HP.out]; exact own1); rw [← HP.out] at hp) | (go_at_call 76; refine hp.mono ?_; rintro e w3 ⟨g2, c2, rfl, own2, hb3⟩; have k3 := kept_cell hb3 k2 l2; have l3 := lt_of_below hb3 l2; have m3 := kept_cell hb3 m2 n2; have B3 := B2.trans (hb3.mono B2.size)))
      have e1 : Hid (putL (putTo [] (fun i => sumW S (gi C i) x) k) (sumW S (gi C k) x) = putTo [] (fun i => sumW S (gi C i) x) (k + 1)) := Lib.hid rfl
      rw [e1.out] at own2 ⊢
      clear own hp hck m2 m3 k2
      obtain ⟨P2, hP2⟩ : ∃ P, P = (putTo [] (fun i => sumW S (gi C i) x) (k + 1)).length := ⟨_, rfl⟩
      rw [← hP2] at own2 ⊢
      go_wp2_with fail
      go_roundw
      case rel => exact ⟨k + 1, g2, c2, by omega, by go_num, by rw [← hP2], by rw [← hP2]; exact own2, k3, l3, B3⟩
      case measure => simp [intOf]; omega
    · have ek : Hid (k = C.length) := Lib.hid (by omega)
      obtain ⟨P, hP⟩ : ∃ P, P = (putTo [] (fun i => sumW S (gi C i) x) k).length := ⟨_, rfl⟩
      rw [← hP] at own ⊢
      go_wp2_with fail
      go_ret
      exact ⟨_, rfl, by rw [← ek.out]; exact own.rebase (by omega), B⟩


end Go.Proofs.Ytcnnijeokefboab

namespace Go.Proofs.Ytcnnijeokefboab
open Go.RowKit Cv
set_option linter.unusedVariables false
set_option linter.unusedSimpArgs false
set_option maxRecDepth 100000

/-- row i of a list of lists -/
def ri (R : List (List Int)) (i : Nat) : List Int := R.getD i []
theorem ri_append_lt (R : List (List Int)) (L : List Int) (i : Nat) (h : i < R.length) : ri (R ++ [L]) i = ri R i := by
  unfold ri; simp [List.getD, List.getElem?_append_left h]
theorem ri_append_eq (R : List (List Int)) (L : List Int) : ri (R ++ [L]) R.length = L := by
  unfold ri; simp [List.getD]
/-- lists that a call made and owns, each in a block of its own, in a list that it made -/
def OwnCols (w : World) (base : Nat) (v : Value) (R : List (List Int)) : Prop :=
  ∃ hs : List Value, hs.length = R.length ∧ w.ownsRow base 24 1 v R.length hs ∧ ∀ i, i < R.length → ∃ h, hs[i]? = some h ∧ OwnInts w base h (ri R i) ∧ (h.ownBlock = none ∨ h.ownBlock ≠ v.ownBlock)
theorem row_below {w w' : World} {base n : Nat} {e : TypeId} {v : Value} {xs : List Value} (h : w.ownsRow base e 1 v n xs) (hb : Below w.heap.size w w') : w'.ownsRow base e 1 v n xs := by
  obtain ⟨h1, h2⟩ := h
  refine ⟨h1, ?_⟩
  rcases h2 with h2 | ⟨g, cap, cur, hv, hg, hh, r⟩
  · exact Or.inl h2
  · exact Or.inr ⟨g, cap, cur, hv, hg, by rw [hb.block g (Array.getElem?_eq_some_iff.1 hh).1]; exact hh, r⟩
theorem OwnCols.below {w w' : World} {base : Nat} {v : Value} {R : List (List Int)} (h : OwnCols w base v R) (hb : Below w.heap.size w w') : OwnCols w' base v R := by
  obtain ⟨hs, h1, h2, h3⟩ := h
  refine ⟨hs, h1, row_below h2 hb, fun i hi => ?_⟩
  obtain ⟨x, hx, ho, hn⟩ := h3 i hi
  exact ⟨x, hx, ho.below hb, hn⟩
theorem OwnCols.empty (w : World) (base : Nat) (h : base ≤ w.heap.size) {n : Nat} (hn : n = w.heap.size) : OwnCols (w.alloc (.cells #[] 24)) base (.slice (some ⟨n, 0, none⟩) 0 0) [] := by
  subst hn
  exact ⟨[], rfl, World.ownsRow_made w #[] 0 h (by simp [maxLen]) (by simp), fun i hi => by simp at hi⟩

/-- an append of one more list -/
theorem wpList_append_col_at {w : World} {ops : Array Oper} {rest : List Oper} {o : Oper} {a : Act} {Q : Exit → Act → World → Prop} (hgd : o.guard = none) (s x : Operand)
    (ho : o.op = .call { callee := .builtin .append, args := #[s, x], argTypes := #[39, 39] })
    (base : Nat) (v : Value) (R : List (List Int)) (hs : a.eval s = v) (hown : OwnCols w base v R) (b : Nat) (y : Value) (L : List Int) (hy : OwnInts w base y L) (hyb : y.ownBlock = none ∨ y.ownBlock ≠ v.ownBlock) (hyv : ∀ k, y.ownBlock = some k → k < w.heap.size) (hx : a.eval x = .slice (some ⟨b, 0, none⟩) 1 1) (hc : w.cell? ⟨b, 0, none⟩ = some y)
    (hlen : R.length ≤ 1073741824) (hbase : base ≤ w.heap.size)
    (h : ∀ v' w', OwnCols w' base v' (R ++ [L]) → w.grownBy w' v.ownBlock → (v'.ownBlock = v.ownBlock ∨ v'.ownBlock = some w.heap.size) → wpList Try.prog ops Q rest (a.put o.dst v') w') : wpList Try.prog ops Q (o :: rest) a w := by
  obtain ⟨i0, hi, hz0, hz1, hz2⟩ := info_parts infoSl
  obtain ⟨hl, e1, e2, e3⟩ := hown
  refine wpList_append_own_at w hgd s x 39 ho base 24 i0 (.slice none 0 0) 1 24 Try.underlying39 hi hz0 hz1 hz2 rfl (by decide) v R.length hl hs e2 ⟨b, 0, none⟩ 1 1 [y] hx rfl ?_ ?_ (by unfold maxLen; omega) (by omega) hbase ?_
  · intro j u hj
    match j, hj with
    | 0, hj => simp at hj; subst hj; simpa [Addr.add] using hc
  · intro u hu; simp at hu; subst hu; rcases hy.2 with ⟨rfl, _⟩ | ⟨_, _, _, rfl, _⟩ <;> rfl
  · intro v' w' h1 h2 _ h3
    refine h v' w' ⟨hl ++ [y], by simp [e1], by rw [List.length_append]; exact h1, fun i hi => ?_⟩ h2 h3
    have hkeep : ∀ (z : Value) (T : List Int), OwnInts w base z T → (z.ownBlock = none ∨ z.ownBlock ≠ v.ownBlock) → OwnInts w' base z T ∧ (z.ownBlock = none ∨ z.ownBlock ≠ v'.ownBlock) := fun z T hz hn => by
      refine ⟨World.ownsRow.kept hz h2 hn, ?_⟩
      rcases h3 with e | e
      · rw [e]; exact hn
      · rw [e]
        cases hzb : z.ownBlock with
        | none => exact .inl rfl
        | some k =>
          refine .inr fun e5 => ?_
          have := (World.ownsRow.lt hz k hzb).2
          have := Option.some.inj e5
          omega
    rw [List.length_append] at hi
    by_cases hlt : i < R.length
    · obtain ⟨z, hz, ho2, hn⟩ := e3 i hlt
      obtain ⟨k1, k2⟩ := hkeep z _ ho2 hn
      exact ⟨z, by rw [List.getElem?_append_left (by omega)]; exact hz, by rw [ri_append_lt R L i hlt]; exact k1, k2⟩
    · have ei : i = R.length := by simp at hi; omega
      subst ei
      obtain ⟨k1, k2⟩ := hkeep y _ hy hyb
      exact ⟨y, by rw [List.getElem?_append_right (by omega), e1]; simp, by rw [ri_append_eq]; exact k1, k2⟩

theorem OwnCols.alloc {w : World} {base : Nat} {v : Value} {R : List (List Int)} (h : OwnCols w base v R) (o : Obj) : OwnCols (w.alloc o) base v R := h.below ((Below.refl _ w).alloc (Nat.le_refl _) o)
theorem OwnCols.isSlice {w : World} {base : Nat} {v : Value} {R : List (List Int)} {L : List Int} (h : OwnCols w base v (R ++ [L])) : ∃ g c, v = .slice (some ⟨g, 0, none⟩) (R ++ [L]).length c := by
  obtain ⟨hs, e1, e2, e3⟩ := h
  rcases e2.2 with ⟨_, hn⟩ | ⟨g, cap, cur, hv, _⟩
  · simp at hn
  · exact ⟨g, cap, hv⟩
theorem OwnCols.base_le {w : World} {base g n cap : Nat} {R : List (List Int)} (h : OwnCols w base (.slice (some ⟨g, 0, none⟩) n cap) R) : base ≤ g ∧ g < w.heap.size := by
  obtain ⟨hs, e1, e2, e3⟩ := h
  exact World.ownsRow.lt e2 g rfl
/-- the row at an index, and its numbers -/
theorem OwnCols.row {w : World} {base g n cap : Nat} {R : List (List Int)} (h : OwnCols w base (.slice (some ⟨g, 0, none⟩) n cap) R) {i : Nat} (hi : i < R.length) : ∃ z, w.cell? ⟨g, i, none⟩ = some z ∧ OwnInts w base z (ri R i) := by
  obtain ⟨hs, e1, e2, e3⟩ := h
  obtain ⟨z, hz, ho, _⟩ := e3 i hi
  have hn : n = R.length := by
    rcases e2.2 with ⟨hv, _⟩ | ⟨g', cap', cur, hv, _⟩
    · simp at hv
    · simp at hv; exact hv.2.1
  subst hn
  exact ⟨z, by rw [e2.cellAt i (by omega)]; exact hz, ho⟩

end Go.Proofs.Ytcnnijeokefboab
