/-
  Merged texts: Del, ShA, Shift, Clone, Far2, AllW, Far5, Tog, Tog2, F2, F3, F4, SwiI. Never import this beside one of them. By an AI agent.
-/
import Derived.Test.YtcbkmmadejbbpaaMath
import Derived.Test.YtcbkmmadejbbpaaAppend
import Derived.Test.YtcbkmmadejbbpaaPut
import Derived.Lib.SliceRun
import Derived.Deep.WholeRow
import Derived.Test.YtcbkmmadejbbpaaSort
import Derived.Test.YtcbkmmadejbbpaaErr
import Derived.Test.YtcbkmmadejbbpaaSums
import Derived.Test.YtcbkmmadejbbpaaSums2
import Derived.Test.YtcbkmmadejbbpaaFar
import Derived.Deep.RegionHeld3
import Derived.Test.YtcbkmmadejbbpaaWords
import Derived.Test.YtcbkmmadejbbpaaSet
import Derived.Shelf.GgClosure.Gives
import Derived.Test.YtcbkmmadejbbpaaF1
import Derived.Test.YtcbkmmadejbbpaaMathS
import Derived.Test.YtcbkmmadejbbpaaBunI
import Derived.Test.YtcbkmmadejbbpaaMark
namespace Go.Proofs.Ytcbkmmadejbbpaa
open Go.RowKit Cv
set_option linter.unusedVariables false
set_option linter.unusedSimpArgs false
set_option maxRecDepth 100000

/-- a function value that answers p at the numbers of L, in every world in which what lay below n lies still -/
def PredN (f : Nat) (pre post : Array Value) (p : Int → Bool) (n : Nat) (w : World) (L : List Int) : Prop :=
  ∀ (W : World) (x : Int), Below n w W → x ∈ L → Calls Try.prog f (pre.push (.int .i64 x) ++ post) W fun e w' => e = .returned (.bool (p x)) ∧ Below W.heap.size W w'

theorem indexFunc_any (n g cap : Nat) (L : List Int) (f : Nat) (eg : ∀ args w, (callFunc f args).run Try.prog w = .ok (.enter f args) w) (pre post : Array Value) (p : Int → Bool) (w : World) (hl : L.length ≤ 4294967296)
    (hrow : OwnInts w n (.slice (some ⟨g, 0, none⟩) L.length cap) L) (hp : PredN f pre post p n w L) :
    Calls Try.prog 64 #[.slice (some ⟨g, 0, none⟩) L.length cap, .func (.func f) pre post] w fun e w' => ∃ r : Int, e = .returned (.int .i64 r) ∧ Below w.heap.size w w' ∧
      Hid ((r = -1 ∧ ∀ j, j < L.length → p (gi L j) = false) ∨ ∃ k : Nat, k < L.length ∧ r = k ∧ p (gi L k) = true ∧ ∀ j, j < k → p (gi L j) = false) := by
  obtain ⟨hb1, hb2⟩ := hrow.base_le
  have hcell : ∀ j, j < L.length → w.cell? ⟨g, j, none⟩ = some (.int .i64 (gi L j)) := fun j hj => hrow.cell hj
  have HP := Lib.hid hp
  clear hp
  go_enter Try.func64, Try.ntmps64
  go_wp2_with fail
  go_loopw [8] (fun i wr => ∃ k : Nat, k ≤ L.length ∧ i = .int .i64 k ∧ Below w.heap.size w wr ∧ Hid (∀ j, j < k → p (gi L j) = false)) (fun i _ => L.length - (intOf i).toNat)
  case atStart => exact ⟨0, Nat.zero_le _, rfl, Below.refl _ _, Lib.hid fun j hj => by omega⟩
  case round =>
    obtain ⟨k, hk, rfl, B, HA⟩ := hrel
    by_cases hlt : k < L.length
    · have hc := kept_cell B (hcell k hlt) hb2
      have hcall := HP.out wr (gi L k) (B.mono (by omega)) (gi_mem hlt)
      have hs := B.size
      cases hq : p (gi L k) with
      | true =>
        rw [hq] at hcall
        have HQ := Lib.hid hq
        clear hq
        go_wp2_with fail
        refine hcall.mono ?_
        rintro e w2 ⟨rfl, hb⟩
        go_wp2_with fail
        go_ret
        exact ⟨k, rfl, B.trans (hb.mono hs), Lib.hid (.inr ⟨k, hlt, rfl, HQ.out, HA.out⟩)⟩
      | false =>
        rw [hq] at hcall
        have HQ := Lib.hid hq
        clear hq
        go_wp2_with fail
        refine hcall.mono ?_
        rintro e w2 ⟨rfl, hb⟩
        go_wp2_with fail
        go_roundw
        case rel =>
          refine ⟨k + 1, by omega, by go_num, B.trans (hb.mono hs), Lib.hid fun j hj => ?_⟩
          by_cases e : j = k
          · subst e; exact HQ.out
          · exact HA.out j (by omega)
        case measure => simp [intOf]; omega
    · have ek : Hid (k = L.length) := Lib.hid (by omega)
      go_wp2_with fail
      go_ret
      exact ⟨-1, rfl, B, Lib.hid (.inl ⟨rfl, by rw [← ek.out]; exact HA.out⟩)⟩

/-- what DeleteFunc has done with the first j numbers: i of them are kept -/
def DelI (q : Int → Bool) (L R : List Int) (i j : Nat) : Prop :=
  R.length = L.length ∧ i < j ∧ R.take i = (L.take j).filter q ∧ ((L.take j).filter q).length = i ∧ ∀ t, j ≤ t → gi R t = gi L t
theorem delI_start {q : Int → Bool} {L : List Int} {k : Nat} (hk : k < L.length) (ht : ∀ j, j < k → q (gi L j) = true) (hf : q (gi L k) = false) : DelI q L L k (k + 1) := by
  have e : (L.take (k + 1)).filter q = L.take k := by
    rw [take_snoc L k hk, List.filter_append]
    have e1 : (L.take k).filter q = L.take k := List.filter_eq_self.2 fun x hx => by
      obtain ⟨j, hj, e⟩ := mem_gi hx
      rw [List.length_take] at hj
      rw [gi_take L k j (by omega)] at e
      rw [← e]; exact ht j (by omega)
    rw [e1]; simp [hf]
  exact ⟨rfl, by omega, e.symm, by rw [e, List.length_take]; omega, fun _ _ => rfl⟩
theorem delI_skip {q : Int → Bool} {L R : List Int} {i j : Nat} (h : DelI q L R i j) (hj : j < L.length) (hf : q (gi L j) = false) : DelI q L R i (j + 1) := by
  obtain ⟨h1, h2, h3, h4, h5⟩ := h
  have e : (L.take (j + 1)).filter q = (L.take j).filter q := by rw [take_snoc L j hj, List.filter_append]; simp [hf]
  exact ⟨h1, by omega, by rw [e]; exact h3, by rw [e]; exact h4, fun t ht => h5 t (by omega)⟩
theorem delI_keep {q : Int → Bool} {L R : List Int} {i j : Nat} (h : DelI q L R i j) (hj : j < L.length) (hf : q (gi L j) = true) : DelI q L (R.set i (gi L j)) (i + 1) (j + 1) := by
  obtain ⟨h1, h2, h3, h4, h5⟩ := h
  have e : (L.take (j + 1)).filter q = (L.take j).filter q ++ [gi L j] := by rw [take_snoc L j hj, List.filter_append]; simp [hf]
  refine ⟨by rw [List.length_set]; exact h1, by omega, ?_, by rw [e, List.length_append, h4]; rfl, fun t ht => ?_⟩
  · rw [e, ← h3, take_snoc _ i (by rw [List.length_set]; omega), gi_set R i _ i (by omega), if_pos rfl]
    congr 1
    refine ext_gi (by simp) fun t ht => ?_
    rw [List.length_take, List.length_set] at ht
    rw [gi_take _ i t (by omega), gi_take _ i t (by omega), gi_set R i _ t (by omega), if_neg (by omega)]
  · rw [gi_set R i _ t (by omega), if_neg (by omega)]; exact h5 t (by omega)
theorem delI_end {q : Int → Bool} {L R : List Int} {i : Nat} (h : DelI q L R i L.length) : R.take i = L.filter q ∧ (L.filter q).length = i ∧ i < L.length := by
  obtain ⟨h1, h2, h3, h4, h5⟩ := h
  rw [List.take_length] at h3 h4
  exact ⟨h3, h4, h2⟩

theorem own_take {w : World} {base g n cap : Nat} {T : List Int} (h : OwnInts w base (.slice (some ⟨g, 0, none⟩) n cap) T) (k : Nat) (hk : k ≤ T.length) : OwnInts w base (.slice (some ⟨g, 0, none⟩) k cap) (T.take k) := by
  rcases h.2 with ⟨hv, _⟩ | ⟨g', c', cur, hv, hb, hh, hle, hm, hs, ht⟩
  · simp at hv
  · simp only [Value.slice.injEq, Option.some.injEq, Addr.mk.injEq, and_true, true_and] at hv
    obtain ⟨rfl, rfl, rfl⟩ := hv
    have e : (T.take k).length = k := by rw [List.length_take]; omega
    refine ⟨by simp, .inr ⟨g, cap, cur, by rw [e], hb, hh, by omega, hm, hs, ?_⟩⟩
    rw [e, List.map_take, ← ht, List.take_take]
    congr 1; omega
theorem own_zeros (g : Nat) (m : Nat) : ∀ (o : Nat) (w : World) (base n cap : Nat) (T : List Int), OwnInts w base (.slice (some ⟨g, 0, none⟩) n cap) T →
    ∃ T' : List Int, OwnInts (w.setCells g o (List.replicate m (.int .i64 0))) base (.slice (some ⟨g, 0, none⟩) n cap) T' ∧ T'.length = T.length ∧ T'.take o = T.take o := by
  induction m with
  | zero => intro o w base n cap T h; exact ⟨T, h, rfl, rfl⟩
  | succ m ih =>
    intro o w base n cap T h
    obtain ⟨T', h1, h2, h3⟩ := ih (o + 1) _ base n cap _ (h.stored o 0)
    refine ⟨T', h1, by rw [h2, List.length_set], ?_⟩
    have e := congrArg (List.take o) h3
    rw [List.take_take, List.take_take, Nat.min_eq_left (by omega)] at e
    rw [e, List.take_set_of_le (Nat.le_refl _)]
theorem below_zeros (g : Nat) (m : Nat) : ∀ (o n : Nat) (w0 w : World), Below n w0 w → n ≤ g → Below n w0 (w.setCells g o (List.replicate m (.int .i64 0))) := by
  induction m with
  | zero => intro o n w0 w h _; exact h
  | succ m ih => intro o n w0 w h hg; exact ih (o + 1) n w0 _ (h.setCell (by simpa using hg) _) hg

theorem below_of_grown {w w' : World} {g n : Nat} (hg : w.grownBy w' (some g)) (h1 : n ≤ g) (h2 : n ≤ w.heap.size) : Below n w w' := (Below.refl n w).grown hg h2 fun j hj => by cases hj; exact h1
theorem grown_zeros (g : Nat) (m : Nat) : ∀ (o : Nat) (w0 w : World), w0.grownBy w (some g) → w0.grownBy (w.setCells g o (List.replicate m (.int .i64 0))) (some g) := by
  induction m with
  | zero => intro o w0 w h; exact h
  | succ m ih => intro o w0 w h; exact ih (o + 1) w0 _ (grown_setCell h _ _)

set_option maxHeartbeats 1000000 in
theorem deleteFunc_any (n g cap : Nat) (L : List Int) (f : Nat) (eg : ∀ args w, (callFunc f args).run Try.prog w = .ok (.enter f args) w) (pre post : Array Value) (p : Int → Bool) (w : World) (hl : L.length ≤ 4294967296)
    (hrow : OwnInts w n (.slice (some ⟨g, 0, none⟩) L.length cap) L) (hp : PredN f pre post p n w L) :
    Calls Try.prog 82 #[.slice (some ⟨g, 0, none⟩) L.length cap, .func (.func f) pre post] w fun e w' => ∃ v, e = .returned v ∧ OwnInts w' n v (L.filter fun x => !p x) ∧ w.grownBy w' (some g) := by
  obtain ⟨hb1, hb2⟩ := hrow.base_le
  obtain ⟨hcap, hcm⟩ := own_cap hrow
  unfold maxLen at hcm
  have HP := Lib.hid hp
  have hIF := indexFunc_any n g cap L f eg pre post p w hl hrow hp
  clear hp
  go_enter Try.func82, Try.ntmps82
  go_wp2_with fail
  refine hIF.mono ?_
  rintro e w1 ⟨r, rfl, hb, HR⟩
  have own := hrow.below hb
  have B : w.grownBy w1 (some g) := grown_of_below hb _
  rcases HR.out with ⟨hr, hall⟩ | ⟨k0, hk0, hr, ht, hall⟩
  · subst hr
    have HE : Hid ((L.filter fun x => !p x) = L) := Lib.hid (List.filter_eq_self.2 fun x hx => by obtain ⟨j, hj, e⟩ := mem_gi hx; rw [← e, hall j hj]; rfl)
    clear hall
    go_wp2_with fail
    go_ret
    exact ⟨_, rfl, by rw [HE.out]; exact own, B⟩
  · subst hr
    have HS : Hid (DelI (fun x => !p x) L L k0 (k0 + 1)) := Lib.hid (delI_start hk0 (fun j hj => by rw [hall j hj]; rfl) (by rw [ht]; rfl))
    have hne : ((k0 : Int) == -1) = false := beq_eq_false_iff_ne.2 (by omega)
    clear hall ht
    go_wp2_with fail
    go_loopw [5, 6] (fun vi vj wr => ∃ (i j : Nat) (R : List Int), vi = .int .i64 i ∧ vj = .int .i64 j ∧ j ≤ L.length ∧ Hid (DelI (fun x => !p x) L R i j) ∧ OwnInts wr n (.slice (some ⟨g, 0, none⟩) L.length cap) R ∧ w.grownBy wr (some g)) (fun _ vj _ => L.length - (intOf vj).toNat)
    case atStart => exact ⟨k0, k0 + 1, L, rfl, by go_num, by omega, HS, own, B⟩
    case round =>
      clear own B
      obtain ⟨i, j, R, rfl, rfl, hj, HI, own, B⟩ := hrel
      have hij := HI.out.2.1
      have hRl := HI.out.1
      by_cases hlt : j < L.length
      · have hcj := own.cell (k := j) (by omega)
        have hci := own.cell (k := i) (by omega)
        have hfi := own.free i
        rw [HI.out.2.2.2.2 j (Nat.le_refl _)] at hcj
        have hcall := HP.out wr (gi L j) (below_of_grown B hb1 (by omega)) (gi_mem hlt)
        obtain ⟨x, hx⟩ : ∃ x, x = gi L j := ⟨_, rfl⟩
        rw [← hx] at hcj hcall
        have HX := Lib.hid hx
        have hs : w.heap.size ≤ wr.heap.size := B.size
        cases hq : p x with
        | true =>
          rw [hq] at hcall
          have HK : Hid (DelI (fun x => !p x) L R i (j + 1)) := Lib.hid (delI_skip HI.out hlt (by rw [← hx, hq]; rfl))
          clear hq hx
          go_wp2_with fail
          refine hcall.mono ?_
          rintro e w2 ⟨rfl, hb2'⟩
          go_wp2_with fail
          go_roundw
          case rel => exact ⟨i, j + 1, R, rfl, by go_num, by omega, HK, own.below hb2', grown_trans B (grown_of_below hb2' _)⟩
          case measure => simp [intOf]; omega
        | false =>
          rw [hq] at hcall
          have HK : Hid (DelI (fun x => !p x) L (R.set i x) (i + 1) (j + 1)) := Lib.hid (by rw [hx]; exact delI_keep HI.out hlt (by rw [← hx, hq]; rfl))
          clear hq hx
          go_wp2_with fail
          refine hcall.mono ?_
          rintro e w2 ⟨rfl, hb2'⟩
          have own2 := own.below hb2'
          have hci2 := own2.cell (k := i) (by omega)
          have hfi2 := own2.free i
          clear hci hfi hcj
          go_wp2_with fail
          go_roundw
          case rel => exact ⟨i + 1, j + 1, R.set i x, by go_num, by go_num, by omega, HK, own2.stored i x, grown_setCell (grown_trans B (grown_of_below hb2' _)) _ _⟩
          case measure => simp [intOf]; omega
      · obtain rfl : j = L.length := by omega
        obtain ⟨e1, e2, e3⟩ := delI_end HI.out
        have hce : ¬ cap = i := by omega
        have hcl : ∀ ty, (Builtin.clear_ #[22] ty #[.slice (some ⟨g, i, none⟩) (L.length - i) (cap - i)]).run Try.prog wr = .ok (.tuple #[]) (wr.setCells g i (List.replicate (L.length - i) (.int .i64 0))) :=
          fun ty => Lib.run_clear_slice wr _ _ ty _ Try.underlying22 (zero_of_info (n := 1) (v := .int .i64 0) (by kernel_rfl)).1 rfl rfl g i _ _ (by omega) (fun t ht => by rw [own.cell (k := i + t) (by omega)]; rfl) (fun t ht => own.free (i + t))
        obtain ⟨T', t1, t2, t3⟩ := own_zeros g (L.length - i) i wr n L.length cap R own
        have HB := grown_zeros g (L.length - i) i w wr B
        have HT : Hid (T'.take i = L.filter fun x => !p x) := Lib.hid (by rw [t3, e1])
        have t4 := own_take t1 i (by omega)
        clear own B e1 e2 t3 hrow hIF
        go_wp2_with fail
        go_ret
        exact ⟨_, rfl, by rw [← HT.out]; exact t4, HB⟩

end Go.Proofs.Ytcbkmmadejbbpaa

namespace Go.Proofs.Ytcbkmmadejbbpaa
open Go.RowKit Cv
set_option linter.unusedVariables false
set_option linter.unusedSimpArgs false
set_option maxRecDepth 100000

theorem shifted_any (ao : Option Addr) (S : List Int) (cap : Nat) (hSp : Sp S) (ac : Addr) (C : List Int) (capc : Nat) (hl : C.length ≤ 1024) (hC : ∀ i, i < C.length → 0 ≤ gi C i ∧ gi C i ≤ 9223372036854775807) (x : Int) (hx : 0 ≤ x ∧ x ≤ 9223372036854775807) (w : World) (hS : Ints w ao S) (hCI : Ints w (some ac) C) :
    Calls Try.prog 109 #[.agg #[.slice ao S.length cap], .slice (some ac) C.length capc, .int .i64 x] w fun e w' => ∃ v, e = .returned v ∧ OwnInts w' w.heap.size v (putTo [] (fun i => sumW S (gi C i) x) C.length) ∧ Below w.heap.size w w' := by
  go_enter Try.func109, Try.ntmps109
  go_wp2_with fail
  have HC := Lib.hid hC
  have B0 : Below w.heap.size w (w.alloc (.cells #[.slice ao S.length cap] 26)) := by go_grown
  clear hC
  go_loopw [7, 12] (fun vo i wr => ∃ (k g' c' : Nat), k ≤ C.length ∧ i = .int .i64 k ∧ vo = .slice (some ⟨g', 0, none⟩) (putTo [] (fun i => sumW S (gi C i) x) k).length c' ∧ OwnInts wr (w.heap.size + 1) (.slice (some ⟨g', 0, none⟩) (putTo [] (fun i => sumW S (gi C i) x) k).length c') (putTo [] (fun i => sumW S (gi C i) x) k) ∧ wr.cell? ⟨w.heap.size, 0, none⟩ = some (.slice ao S.length cap) ∧ w.heap.size < wr.heap.size ∧ Below w.heap.size w wr) (fun _ i _ => C.length - (intOf i).toNat)
  case atStart => exact ⟨0, w.heap.size + 1, 0, Nat.zero_le _, rfl, rfl, own_empty _ _ (by simp) (by simp), kept_cell ((Below.refl _ (w.alloc (.cells #[.slice ao S.length cap] 26))).alloc (Nat.le_refl _) _) (cell_new _ _ _) (lt_alloc _ _), by simp; omega, by go_grown⟩
  case round =>
    obtain ⟨k, g1, c1, hk, rfl, rfl, own, c, l, B⟩ := hrel
    have hpl := putTo_len [] (fun i => sumW S (gi C i) x) k
    simp only [List.length_nil, Nat.zero_add] at hpl
    by_cases hlt : k < C.length
    · obtain ⟨b, o, he, hbl, hc⟩ := hCI.at hlt
      obtain rfl : ac = ⟨b, o, none⟩ := by simpa using he
      have hck := kept_cell B (hc k hlt) hbl
      obtain ⟨u1, u2⟩ := HC.out k hlt
      have hs := B.size
      clear hc he
      obtain ⟨P, hP⟩ : ∃ P, P = (putTo [] (fun i => sumW S (gi C i) x) k).length := ⟨_, rfl⟩
      rw [← hP] at own ⊢
      have HP := Lib.hid hP
      have hP2 : P ≤ 1024 := by omega
      clear hP
      go_wp2_with fail
      go_region_held3 (fun w' => w'.cell? ⟨w.heap.size, 0, none⟩ = some (.slice ao S.length cap) ∧ w'.cell? ⟨b, o + k, none⟩ = some (.int .i64 (gi C k))) (first | exact ⟨c, hck⟩ | exact ⟨k2, m2⟩ | exact ⟨k3, m3⟩) (first | (go_at_call 133; refine (l01Sum_any ao S cap hSp (gi C k) x u1 u2 hx.1 hx.2 _ (hS.below B.drew)).mono ?_; rintro e w2 ⟨rfl, hb2'⟩; have hb2 : Below wr.heap.size wr w2 := (Below.refl _ wr).drew.trans hb2'; have k2 := kept_cell hb2 c l; have l2 := lt_of_below hb2 l; have m2 := kept_cell hb2 hck (Nat.lt_of_lt_of_le hbl hs); have n2 : b < w2.heap.size := Nat.lt_of_lt_of_le hbl (Nat.le_trans hs hb2.size); have own1 := own.below hb2; have B2 := B.trans (hb2.mono hs); have hp := l01Put_any (w.heap.size + 1) g1 c1 (putTo [] (fun i => sumW S (gi C i) x) k) (sumW S (gi C k) x) w2 (by rw [← HP.out]; omega) (by rw [← HP.out]; exact own1); rw [← HP.out] at hp) | (go_at_call 79; refine hp.mono ?_; rintro e w3 ⟨g2, c2, rfl, own2, hb3⟩; have k3 := kept_cell hb3 k2 l2; have l3 := lt_of_below hb3 l2; have m3 := kept_cell hb3 m2 n2; have B3 := B2.trans (hb3.mono B2.size)))
      have e1 : Hid (putL (putTo [] (fun i => sumW S (gi C i) x) k) (sumW S (gi C k) x) = putTo [] (fun i => sumW S (gi C i) x) (k + 1)) := Lib.hid rfl
      rw [e1.out] at own2 ⊢
      clear own hp hck m2 m3 k2
      obtain ⟨P2, hP2⟩ : ∃ P, P = (putTo [] (fun i => sumW S (gi C i) x) (k + 1)).length := ⟨_, rfl⟩
      rw [← hP2] at own2 ⊢
      go_wp2_with fail
      go_roundw
      case rel => exact ⟨k + 1, g2, c2, by omega, by go_num, by rw [← hP2], by rw [← hP2]; exact own2, k3, l3, B3⟩
      case measure => simp [intOf]; omega
    · have ek : Hid (k = C.length) := Lib.hid (by omega)
      obtain ⟨P, hP⟩ : ∃ P, P = (putTo [] (fun i => sumW S (gi C i) x) k).length := ⟨_, rfl⟩
      rw [← hP] at own ⊢
      go_wp2_with fail
      go_ret
      exact ⟨_, rfl, by rw [← ek.out]; exact own.rebase (by omega), B⟩


end Go.Proofs.Ytcbkmmadejbbpaa

namespace Go.Proofs.Ytcbkmmadejbbpaa
open Go.RowKit Cv
set_option linter.unusedVariables false
set_option linter.unusedSimpArgs false
set_option maxRecDepth 100000

set_option maxHeartbeats 4000000 in
theorem impl_ShiftCode (ao : Option Addr) (S : List Int) (cap : Nat) (hn : S.length ≤ 4294967296) (ac : Addr) (C : List Int) (capc : Nat) (hnc : C.length ≤ 4294967296) (x : Int) (hx : -9223372036854775808 ≤ x ∧ x ≤ 9223372036854775807) (w : World) (hS : Ints w ao S) (hC : Ints w (some ac) C) :
    Calls Try.prog 81 #[.agg #[.slice ao S.length cap], .slice (some ac) C.length capc, .int .i64 x] w fun e w' => ∃ v, e = .returned (.tuple #[v, .int .i64 (eShift S C x)]) ∧ OwnInts w' w.heap.size v (vShift S C x) ∧ Below w.heap.size w w' := by
  have c0 := cell_new w (.slice ao S.length cap) 26
  have l0 := lt_alloc w (.cells #[.slice ao S.length cap] 26)
  obtain ⟨i0, hi, hz0, hz1, hz2⟩ := info_parts infoI64
  by_cases hz : eShift S C x = 0
  · have hzn : (eShift S C x != 0) = false := by simp [hz]
    have HZ := Lib.hid hz
    obtain ⟨z1, z2⟩ := eShift_zero hz
    obtain ⟨hs, c1, c2⟩ := eCode_zero z1
    obtain ⟨_, x1, x2⟩ := eWords1 z2
    have lc := code_len0 z1
    have HSp := Lib.hid hs
    have N1 := nW_bd hs
    have HC : Hid (∀ i, i < C.length → 0 ≤ gi C i ∧ gi C i ≤ 9223372036854775807) := Lib.hid fun i hi => by have := c1 i hi; omega
    have HV : Hid (vShift S C x = sorted (sumsL S C x)) := Lib.hid (by unfold vShift; rw [if_pos hz])
    have hx9 : 0 ≤ x ∧ x ≤ 9223372036854775807 := by omega
    obtain ⟨E, hE⟩ : ∃ E, E = eShift S C x := ⟨_, rfl⟩
    have HE : Hid (orI (eCode S C) (eWords S [x]) = E) := Lib.hid (by rw [hE]; rfl)
    rw [← hE] at hzn HZ ⊢
    clear hz z1 z2 hs c1 c2 x1 x2 N1 hE
    go_enter Try.func81, Try.ntmps81
    go_wp2_with fail
    refine wp_region_held_drew (S := fun w' => w'.cell? ⟨w.heap.size, 0, none⟩ = some (.slice ao S.length cap)) (by kernel_rfl) c0 (fun hHeld => ?_)
    refine wpAnyH_take (i := 0) (v := ?_) rfl (by kernel_rfl) (by kernel_rfl) (by kernel_rfl) (fun _ _ _ h => h) (Or.inl ⟨by rfl, ?_⟩) (by assumption) ?_
    rotate_left
    · (intro w hSw; (try dsimp only at hSw); go_simp; try (with_reducible rfl))
    (try simp only [Act.put, List.setIfInBounds_toArray, List.set_cons_zero, List.set_cons_succ])
    refine wpAnyH_take (i := 1) (v := ?_) rfl (by kernel_rfl) (by kernel_rfl) (by kernel_rfl) (fun _ _ _ h => h) (Or.inl ⟨by rfl, ?_⟩) (by assumption) ?_
    rotate_left
    · (intro w hSw; (try dsimp only at hSw); go_simp; try (with_reducible rfl))
    (try simp only [Act.put, List.setIfInBounds_toArray, List.set_cons_zero, List.set_cons_succ])
    refine wpAnyH_take (i := 3) (v := ?_) rfl (by kernel_rfl) (by kernel_rfl) (by kernel_rfl) (fun _ _ _ h => h) (Or.inl ⟨by rfl, ?_⟩) (by assumption) ?_
    rotate_left
    · (intro w hSw; (try dsimp only at hSw); go_simp; try (with_reducible rfl))
    (try simp only [Act.put, List.setIfInBounds_toArray, List.set_cons_zero, List.set_cons_succ])
    refine wpAnyH_take (i := 4) (v := ?_) rfl (by kernel_rfl) (by kernel_rfl) (by kernel_rfl) (fun _ _ _ h => h) (Or.inl ⟨by rfl, ?_⟩) (by assumption) ?_
    rotate_left
    · (intro w hSw; (try dsimp only at hSw); go_simp; try (with_reducible rfl))
    (try simp only [Act.put, List.setIfInBounds_toArray, List.set_cons_zero, List.set_cons_succ])
    refine wpAnyH_ready (rs := [2, 5]) (by kernel_rfl) (by simp) ?_
    refine AllReadyH.cons rfl (fun K hK => ?_) ?_
    · go_simp
      (go_at_call 60; refine (codeError_any ao S cap hn (some ac) C capc hnc _ (hS.below (by go_grown)) (hC.below (by go_grown))).mono ?_)
      rintro e w1 ⟨rfl, hb1⟩
      have B1 : Below w.heap.size w w1 := Below.trans (by go_grown) (hb1.mono (by simp; try omega))
      have k1 : w1.cell? ⟨w.heap.size, 0, none⟩ = some (.slice ao S.length cap) := kept_cell hb1 (by simp) (by simp; try omega)
      have l1 : w.heap.size < w1.heap.size := lt_of_below hb1 (by simp; try omega)
      refine hK.out _ _ (k1) (fun hHeld => ?_)
      clear hK K
      (try simp only [Act.put, List.setIfInBounds_toArray, List.set_cons_zero, List.set_cons_succ])
      refine wpAnyH_ready (rs := [5]) (by kernel_rfl) (by simp) ?_
      refine AllReadyH.cons rfl (fun K hK => ?_) AllReadyH.nil
      go_simp
      refine hK.out _ _ (kept_cell ((Below.refl w1.heap.size w1).alloc (Nat.le_refl _) _) k1 l1) (fun hHeld => ?_)
      clear hK K
      (try simp only [Act.put, List.setIfInBounds_toArray, List.set_cons_zero, List.set_cons_succ])
      refine wpAnyH_ready (rs := [6]) (by kernel_rfl) (by simp) ?_
      refine AllReadyH.cons rfl (fun K hK => ?_) AllReadyH.nil
      go_simp
      (go_at_call 105; refine (wordsError_n ao S cap hn _ [x] 1 _ rfl (by omega) _ (hS.below (B1.alloc B1.size _)) (ints_new1 _ x _ rfl)).mono ?_)
      rintro e w2 ⟨rfl, hb2⟩
      have hq : Below w1.heap.size w1 w2 := Below.trans ((Below.refl _ w1).alloc (Nat.le_refl _) _) (hb2.mono (by simp))
      have k2 := kept_cell hq k1 l1
      have l2 := lt_of_below hq l1
      have B2 := B1.trans (hq.mono B1.size)
      refine hK.out _ _ (k2) (fun hHeld => ?_)
      clear hK K
      (try simp only [Act.put, List.setIfInBounds_toArray, List.set_cons_zero, List.set_cons_succ])
      refine wpAnyH_ready (rs := [7]) (by kernel_rfl) (by simp) ?_
      refine AllReadyH.cons rfl (fun K hK => ?_) AllReadyH.nil
      go_simp
      refine hK.out _ _ (kept_cell ((Below.refl w2.heap.size w2).alloc (Nat.le_refl _) _) k2 l2) (fun hHeld => ?_)
      clear hK K
      (try simp only [Act.put, List.setIfInBounds_toArray, List.set_cons_zero, List.set_cons_succ])
      refine wpAnyH_ready (rs := [8]) (by kernel_rfl) (by simp) ?_
      refine AllReadyH.cons rfl (fun K hK => ?_) AllReadyH.nil
      go_simp
      (go_at_call 89; refine (cmpOr2 _ (eCode S C) (eWords S [x]) _ _ (ints_new2 _ _ _ _ rfl)).mono ?_)
      rintro e w3 ⟨rfl, rfl⟩
      rw [HE.out]
      refine hK.out _ _ (kept_cell ((Below.refl w2.heap.size w2).alloc (Nat.le_refl _) _) k2 l2) (fun hHeld => ?_)
      clear hK K
      (try simp only [Act.put, List.setIfInBounds_toArray, List.set_cons_zero, List.set_cons_succ])
      refine wpAnyH_take (i := 9) (v := ?_) rfl (by kernel_rfl) (by kernel_rfl) (by kernel_rfl) (fun _ _ _ h => h) (Or.inl ⟨by rfl, ?_⟩) (by assumption) ?_
      rotate_left
      · (intro w hSw; (try dsimp only at hSw); go_simp; try (with_reducible rfl))
      (try simp only [Act.put, List.setIfInBounds_toArray, List.set_cons_zero, List.set_cons_succ])
      refine wpAnyH_done (by kernel_rfl) ?_ _
      simp only [List.getElem_toArray, List.getElem_cons_succ, List.getElem_cons_zero, Act.put, List.setIfInBounds_toArray, List.set_cons_zero, List.set_cons_succ]
      have B3 := B2.alloc B2.size (.cells #[.int .i64 (eCode S C), .int .i64 (eWords S [x])] 2)
      have k3 := kept_cell ((Below.refl w2.heap.size w2).alloc (Nat.le_refl _) (.cells #[.int .i64 (eCode S C), .int .i64 (eWords S [x])] 2)) k2 l2
      have l3 : w.heap.size < (w2.alloc (.cells #[.int .i64 (eCode S C), .int .i64 (eWords S [x])] 2)).heap.size := by simp; omega
      obtain ⟨W3, hW3⟩ : ∃ W3, W3 = w2.alloc (.cells #[.int .i64 (eCode S C), .int .i64 (eWords S [x])] 2) := ⟨_, rfl⟩
      rw [← hW3] at B3 k3 l3 ⊢
      clear hW3 hb1 hb2 hq k1 k2 l1 l2 B1 B2
      go_wp2_with (at_make; refine wpList_make_full _ rfl _ _ 22 rfl w.heap.size 2 i0 (.int .i64 0) 1 Try.underlying22 hi hz0 hz1 .i64 .i64 _ _ C.length rfl rfl rfl rfl (by rw [hz2]; omega) (by unfold maxLen; omega) (by omega) ?_; intro w4 hown hgrow)
      have hb34 := below_grown0 hgrow
      have B4 := B3.trans (hb34.mono (by omega))
      replace k3 := kept_cell hb34 k3 l3
      have l4 := lt_of_below hb34 l3
      replace hown := own_made hown
      have g1 : w.heap.size ≠ W3.heap.size := by omega
      clear hgrow hb34 B3 l3
      go_loopw [29] (fun i wr => ∃ (k : Nat) (D : List Int), k ≤ C.length ∧ i = .int .i64 k ∧ OwnInts wr w.heap.size (.slice (some ⟨W3.heap.size, 0, none⟩) C.length C.length) D ∧ Hid (D.length = C.length ∧ ∀ j, j < k → gi D j = sumW S (gi C j) x) ∧ wr.cell? ⟨w.heap.size, 0, none⟩ = some (.slice ao S.length cap) ∧ w.heap.size < wr.heap.size ∧ Below w.heap.size w wr) (fun i _ => C.length - (intOf i).toNat)
      case atStart => exact ⟨0, _, Nat.zero_le _, rfl, hown, Lib.hid ⟨by simp, fun j h => by omega⟩, k3, l4, B4⟩
      case round =>
        clear hown k3 l4 B4
        obtain ⟨k, D, hk, rfl, own, HD, c, l, B⟩ := hrel
        by_cases hlt : k < C.length
        · obtain ⟨b, o, he, hbl, hc⟩ := hC.at hlt
          obtain rfl : ac = ⟨b, o, none⟩ := by simpa using he
          have hck := kept_cell B (hc k hlt) hbl
          obtain ⟨u1, u2⟩ := HC.out k hlt
          have hs := B.size
          clear hc he
          go_wp2_with fail
          refine (sumOfWords_any ao S cap HSp.out (gi C k) x u1 u2 hx9.1 hx9.2 _ (hS.below B)).mono ?_
          rintro e w5 ⟨rfl, hb5⟩
          replace c := kept_cell hb5 c l
          replace l := lt_of_below hb5 l
          replace own := own.below hb5
          replace B := B.trans (hb5.mono hs)
          have hcs := own.cell (k := k) (by rw [HD.out.1]; exact hlt)
          have hfs := own.free k
          have hb3 := own.base_le
          clear hb5 hck hs
          go_wp2_with fail
          go_roundw
          case rel =>
            refine ⟨k + 1, D.set k (sumW S (gi C k) x), by omega, by go_num, own.stored k _, Lib.hid ⟨by rw [List.length_set]; exact HD.out.1, fun j hj => ?_⟩, cell_set_other c (by simpa using g1), by simpa using l, B.setCell (by simp; omega) _⟩
            rw [gi_set _ _ _ _ (by rw [HD.out.1]; exact hlt)]
            by_cases e : j = k
            · rw [if_pos e, e]
            · rw [if_neg e]; exact HD.out.2 j (by omega)
          case measure => simp [intOf]; omega
        · have ek : Hid (k = C.length) := Lib.hid (by omega)
          have HL : Hid (D = sumsL S C x) := Lib.hid (by
            refine ext_gi (by rw [HD.out.1]; simp [sumsL]) fun j hj => ?_
            rw [HD.out.1] at hj
            rw [HD.out.2 j (by rw [ek.out]; exact hj)]
            simp [sumsL, gi, hj])
          have hlen : C.length = D.length := HD.out.1.symm
          have hst := sort_any w.heap.size W3.heap.size C.length D wr (by omega) (by rw [← hlen]; exact own)
          rw [← hlen] at hst
          have hs := B.size
          clear hlen
          go_wp2_with fail
          refine hst.mono ?_
          rintro e w5 ⟨rfl, own5, hg5⟩
          go_wp2_with fail
          go_ret2
          exact ⟨_, by rw [HZ.out]; rfl, by rw [HV.out, ← HL.out]; exact own5, B.trans (below_of_grown hg5 own5.base_le.1 hs)⟩
    refine AllReadyH.cons rfl (fun K hK => ?_) AllReadyH.nil
    go_simp
    refine hK.out _ _ (by first | (simp; done) | exact kept_cell (by go_grown) c0 l0) (fun hHeld => ?_)
    clear hK K
    (try simp only [Act.put, List.setIfInBounds_toArray, List.set_cons_zero, List.set_cons_succ])
    have hxi := ints_new1 (w.alloc (.cells #[.slice ao S.length cap] 26)) x 2 (n := w.heap.size + 1) (by simp)
    refine wpAnyH_ready (rs := [2]) (by kernel_rfl) (by simp) ?_
    refine AllReadyH.cons rfl (fun K hK => ?_) AllReadyH.nil
    go_simp
    (go_at_call 60; refine (codeError_any ao S cap hn (some ac) C capc hnc _ (hS.below (by go_grown)) (hC.below (by go_grown))).mono ?_)
    rintro e w1 ⟨rfl, hb1⟩
    have B1 : Below w.heap.size w w1 := Below.trans (by go_grown) (hb1.mono (by simp; try omega))
    have k1 : w1.cell? ⟨w.heap.size, 0, none⟩ = some (.slice ao S.length cap) := kept_cell hb1 (by simp) (by simp; try omega)
    have l1 : w.heap.size < w1.heap.size := lt_of_below hb1 (by simp; try omega)
    refine hK.out _ _ (k1) (fun hHeld => ?_)
    clear hK K
    (try simp only [Act.put, List.setIfInBounds_toArray, List.set_cons_zero, List.set_cons_succ])
    refine wpAnyH_ready (rs := [6]) (by kernel_rfl) (by simp) ?_
    refine AllReadyH.cons rfl (fun K hK => ?_) AllReadyH.nil
    go_simp
    (go_at_call 105; refine (wordsError_n ao S cap hn _ [x] 1 _ rfl (by omega) _ (hS.below B1) ((hxi.below (Below.refl _ _).drew).below hb1)).mono ?_)
    rintro e w2 ⟨rfl, hb2⟩
    have hq : Below w1.heap.size w1 w2 := hb2
    have k2 := kept_cell hq k1 l1
    have l2 := lt_of_below hq l1
    have B2 := B1.trans (hq.mono B1.size)
    refine hK.out _ _ (k2) (fun hHeld => ?_)
    clear hK K
    (try simp only [Act.put, List.setIfInBounds_toArray, List.set_cons_zero, List.set_cons_succ])
    refine wpAnyH_ready (rs := [7]) (by kernel_rfl) (by simp) ?_
    refine AllReadyH.cons rfl (fun K hK => ?_) AllReadyH.nil
    go_simp
    refine hK.out _ _ (kept_cell ((Below.refl w2.heap.size w2).alloc (Nat.le_refl _) _) k2 l2) (fun hHeld => ?_)
    clear hK K
    (try simp only [Act.put, List.setIfInBounds_toArray, List.set_cons_zero, List.set_cons_succ])
    refine wpAnyH_ready (rs := [8]) (by kernel_rfl) (by simp) ?_
    refine AllReadyH.cons rfl (fun K hK => ?_) AllReadyH.nil
    go_simp
    (go_at_call 89; refine (cmpOr2 _ (eCode S C) (eWords S [x]) _ _ (ints_new2 _ _ _ _ rfl)).mono ?_)
    rintro e w3 ⟨rfl, rfl⟩
    rw [HE.out]
    refine hK.out _ _ (kept_cell ((Below.refl w2.heap.size w2).alloc (Nat.le_refl _) _) k2 l2) (fun hHeld => ?_)
    clear hK K
    (try simp only [Act.put, List.setIfInBounds_toArray, List.set_cons_zero, List.set_cons_succ])
    refine wpAnyH_take (i := 9) (v := ?_) rfl (by kernel_rfl) (by kernel_rfl) (by kernel_rfl) (fun _ _ _ h => h) (Or.inl ⟨by rfl, ?_⟩) (by assumption) ?_
    rotate_left
    · (intro w hSw; (try dsimp only at hSw); go_simp; try (with_reducible rfl))
    (try simp only [Act.put, List.setIfInBounds_toArray, List.set_cons_zero, List.set_cons_succ])
    refine wpAnyH_done (by kernel_rfl) ?_ _
    simp only [List.getElem_toArray, List.getElem_cons_succ, List.getElem_cons_zero, Act.put, List.setIfInBounds_toArray, List.set_cons_zero, List.set_cons_succ]
    have B3 := B2.alloc B2.size (.cells #[.int .i64 (eCode S C), .int .i64 (eWords S [x])] 2)
    have k3 := kept_cell ((Below.refl w2.heap.size w2).alloc (Nat.le_refl _) (.cells #[.int .i64 (eCode S C), .int .i64 (eWords S [x])] 2)) k2 l2
    have l3 : w.heap.size < (w2.alloc (.cells #[.int .i64 (eCode S C), .int .i64 (eWords S [x])] 2)).heap.size := by simp; omega
    obtain ⟨W3, hW3⟩ : ∃ W3, W3 = w2.alloc (.cells #[.int .i64 (eCode S C), .int .i64 (eWords S [x])] 2) := ⟨_, rfl⟩
    rw [← hW3] at B3 k3 l3 ⊢
    clear hW3 hb1 hb2 hq k1 k2 l1 l2 B1 B2
    go_wp2_with (at_make; refine wpList_make_full _ rfl _ _ 22 rfl w.heap.size 2 i0 (.int .i64 0) 1 Try.underlying22 hi hz0 hz1 .i64 .i64 _ _ C.length rfl rfl rfl rfl (by rw [hz2]; omega) (by unfold maxLen; omega) (by omega) ?_; intro w4 hown hgrow)
    have hb34 := below_grown0 hgrow
    have B4 := B3.trans (hb34.mono (by omega))
    replace k3 := kept_cell hb34 k3 l3
    have l4 := lt_of_below hb34 l3
    replace hown := own_made hown
    have g1 : w.heap.size ≠ W3.heap.size := by omega
    clear hgrow hb34 B3 l3
    go_loopw [29] (fun i wr => ∃ (k : Nat) (D : List Int), k ≤ C.length ∧ i = .int .i64 k ∧ OwnInts wr w.heap.size (.slice (some ⟨W3.heap.size, 0, none⟩) C.length C.length) D ∧ Hid (D.length = C.length ∧ ∀ j, j < k → gi D j = sumW S (gi C j) x) ∧ wr.cell? ⟨w.heap.size, 0, none⟩ = some (.slice ao S.length cap) ∧ w.heap.size < wr.heap.size ∧ Below w.heap.size w wr) (fun i _ => C.length - (intOf i).toNat)
    case atStart => exact ⟨0, _, Nat.zero_le _, rfl, hown, Lib.hid ⟨by simp, fun j h => by omega⟩, k3, l4, B4⟩
    case round =>
      clear hown k3 l4 B4
      obtain ⟨k, D, hk, rfl, own, HD, c, l, B⟩ := hrel
      by_cases hlt : k < C.length
      · obtain ⟨b, o, he, hbl, hc⟩ := hC.at hlt
        obtain rfl : ac = ⟨b, o, none⟩ := by simpa using he
        have hck := kept_cell B (hc k hlt) hbl
        obtain ⟨u1, u2⟩ := HC.out k hlt
        have hs := B.size
        clear hc he
        go_wp2_with fail
        refine (sumOfWords_any ao S cap HSp.out (gi C k) x u1 u2 hx9.1 hx9.2 _ (hS.below B)).mono ?_
        rintro e w5 ⟨rfl, hb5⟩
        replace c := kept_cell hb5 c l
        replace l := lt_of_below hb5 l
        replace own := own.below hb5
        replace B := B.trans (hb5.mono hs)
        have hcs := own.cell (k := k) (by rw [HD.out.1]; exact hlt)
        have hfs := own.free k
        have hb3 := own.base_le
        clear hb5 hck hs
        go_wp2_with fail
        go_roundw
        case rel =>
          refine ⟨k + 1, D.set k (sumW S (gi C k) x), by omega, by go_num, own.stored k _, Lib.hid ⟨by rw [List.length_set]; exact HD.out.1, fun j hj => ?_⟩, cell_set_other c (by simpa using g1), by simpa using l, B.setCell (by simp; omega) _⟩
          rw [gi_set _ _ _ _ (by rw [HD.out.1]; exact hlt)]
          by_cases e : j = k
          · rw [if_pos e, e]
          · rw [if_neg e]; exact HD.out.2 j (by omega)
        case measure => simp [intOf]; omega
      · have ek : Hid (k = C.length) := Lib.hid (by omega)
        have HL : Hid (D = sumsL S C x) := Lib.hid (by
          refine ext_gi (by rw [HD.out.1]; simp [sumsL]) fun j hj => ?_
          rw [HD.out.1] at hj
          rw [HD.out.2 j (by rw [ek.out]; exact hj)]
          simp [sumsL, gi, hj])
        have hlen : C.length = D.length := HD.out.1.symm
        have hst := sort_any w.heap.size W3.heap.size C.length D wr (by omega) (by rw [← hlen]; exact own)
        rw [← hlen] at hst
        have hs := B.size
        clear hlen
        go_wp2_with fail
        refine hst.mono ?_
        rintro e w5 ⟨rfl, own5, hg5⟩
        go_wp2_with fail
        go_ret2
        exact ⟨_, by rw [HZ.out]; rfl, by rw [HV.out, ← HL.out]; exact own5, B.trans (below_of_grown hg5 own5.base_le.1 hs)⟩
  · have hzn : (eShift S C x != 0) = true := by simpa using hz
    have HV : Hid (vShift S C x = []) := Lib.hid (by unfold vShift; rw [if_neg hz])
    obtain ⟨E, hE⟩ : ∃ E, E = eShift S C x := ⟨_, rfl⟩
    have HE : Hid (orI (eCode S C) (eWords S [x]) = E) := Lib.hid (by rw [hE]; rfl)
    rw [← hE] at hzn ⊢
    clear hz hE
    go_enter Try.func81, Try.ntmps81
    go_wp2_with fail
    refine wp_region_held_drew (S := fun w' => w'.cell? ⟨w.heap.size, 0, none⟩ = some (.slice ao S.length cap)) (by kernel_rfl) c0 (fun hHeld => ?_)
    refine wpAnyH_take (i := 0) (v := ?_) rfl (by kernel_rfl) (by kernel_rfl) (by kernel_rfl) (fun _ _ _ h => h) (Or.inl ⟨by rfl, ?_⟩) (by assumption) ?_
    rotate_left
    · (intro w hSw; (try dsimp only at hSw); go_simp; try (with_reducible rfl))
    (try simp only [Act.put, List.setIfInBounds_toArray, List.set_cons_zero, List.set_cons_succ])
    refine wpAnyH_take (i := 1) (v := ?_) rfl (by kernel_rfl) (by kernel_rfl) (by kernel_rfl) (fun _ _ _ h => h) (Or.inl ⟨by rfl, ?_⟩) (by assumption) ?_
    rotate_left
    · (intro w hSw; (try dsimp only at hSw); go_simp; try (with_reducible rfl))
    (try simp only [Act.put, List.setIfInBounds_toArray, List.set_cons_zero, List.set_cons_succ])
    refine wpAnyH_take (i := 3) (v := ?_) rfl (by kernel_rfl) (by kernel_rfl) (by kernel_rfl) (fun _ _ _ h => h) (Or.inl ⟨by rfl, ?_⟩) (by assumption) ?_
    rotate_left
    · (intro w hSw; (try dsimp only at hSw); go_simp; try (with_reducible rfl))
    (try simp only [Act.put, List.setIfInBounds_toArray, List.set_cons_zero, List.set_cons_succ])
    refine wpAnyH_take (i := 4) (v := ?_) rfl (by kernel_rfl) (by kernel_rfl) (by kernel_rfl) (fun _ _ _ h => h) (Or.inl ⟨by rfl, ?_⟩) (by assumption) ?_
    rotate_left
    · (intro w hSw; (try dsimp only at hSw); go_simp; try (with_reducible rfl))
    (try simp only [Act.put, List.setIfInBounds_toArray, List.set_cons_zero, List.set_cons_succ])
    refine wpAnyH_ready (rs := [2, 5]) (by kernel_rfl) (by simp) ?_
    refine AllReadyH.cons rfl (fun K hK => ?_) ?_
    · go_simp
      (go_at_call 60; refine (codeError_any ao S cap hn (some ac) C capc hnc _ (hS.below (by go_grown)) (hC.below (by go_grown))).mono ?_)
      rintro e w1 ⟨rfl, hb1⟩
      have B1 : Below w.heap.size w w1 := Below.trans (by go_grown) (hb1.mono (by simp; try omega))
      have k1 : w1.cell? ⟨w.heap.size, 0, none⟩ = some (.slice ao S.length cap) := kept_cell hb1 (by simp) (by simp; try omega)
      have l1 : w.heap.size < w1.heap.size := lt_of_below hb1 (by simp; try omega)
      refine hK.out _ _ (k1) (fun hHeld => ?_)
      clear hK K
      (try simp only [Act.put, List.setIfInBounds_toArray, List.set_cons_zero, List.set_cons_succ])
      refine wpAnyH_ready (rs := [5]) (by kernel_rfl) (by simp) ?_
      refine AllReadyH.cons rfl (fun K hK => ?_) AllReadyH.nil
      go_simp
      refine hK.out _ _ (kept_cell ((Below.refl w1.heap.size w1).alloc (Nat.le_refl _) _) k1 l1) (fun hHeld => ?_)
      clear hK K
      (try simp only [Act.put, List.setIfInBounds_toArray, List.set_cons_zero, List.set_cons_succ])
      refine wpAnyH_ready (rs := [6]) (by kernel_rfl) (by simp) ?_
      refine AllReadyH.cons rfl (fun K hK => ?_) AllReadyH.nil
      go_simp
      (go_at_call 105; refine (wordsError_n ao S cap hn _ [x] 1 _ rfl (by omega) _ (hS.below (B1.alloc B1.size _)) (ints_new1 _ x _ rfl)).mono ?_)
      rintro e w2 ⟨rfl, hb2⟩
      have hq : Below w1.heap.size w1 w2 := Below.trans ((Below.refl _ w1).alloc (Nat.le_refl _) _) (hb2.mono (by simp))
      have k2 := kept_cell hq k1 l1
      have l2 := lt_of_below hq l1
      have B2 := B1.trans (hq.mono B1.size)
      refine hK.out _ _ (k2) (fun hHeld => ?_)
      clear hK K
      (try simp only [Act.put, List.setIfInBounds_toArray, List.set_cons_zero, List.set_cons_succ])
      refine wpAnyH_ready (rs := [7]) (by kernel_rfl) (by simp) ?_
      refine AllReadyH.cons rfl (fun K hK => ?_) AllReadyH.nil
      go_simp
      refine hK.out _ _ (kept_cell ((Below.refl w2.heap.size w2).alloc (Nat.le_refl _) _) k2 l2) (fun hHeld => ?_)
      clear hK K
      (try simp only [Act.put, List.setIfInBounds_toArray, List.set_cons_zero, List.set_cons_succ])
      refine wpAnyH_ready (rs := [8]) (by kernel_rfl) (by simp) ?_
      refine AllReadyH.cons rfl (fun K hK => ?_) AllReadyH.nil
      go_simp
      (go_at_call 89; refine (cmpOr2 _ (eCode S C) (eWords S [x]) _ _ (ints_new2 _ _ _ _ rfl)).mono ?_)
      rintro e w3 ⟨rfl, rfl⟩
      rw [HE.out]
      refine hK.out _ _ (kept_cell ((Below.refl w2.heap.size w2).alloc (Nat.le_refl _) _) k2 l2) (fun hHeld => ?_)
      clear hK K
      (try simp only [Act.put, List.setIfInBounds_toArray, List.set_cons_zero, List.set_cons_succ])
      refine wpAnyH_take (i := 9) (v := ?_) rfl (by kernel_rfl) (by kernel_rfl) (by kernel_rfl) (fun _ _ _ h => h) (Or.inl ⟨by rfl, ?_⟩) (by assumption) ?_
      rotate_left
      · (intro w hSw; (try dsimp only at hSw); go_simp; try (with_reducible rfl))
      (try simp only [Act.put, List.setIfInBounds_toArray, List.set_cons_zero, List.set_cons_succ])
      refine wpAnyH_done (by kernel_rfl) ?_ _
      simp only [List.getElem_toArray, List.getElem_cons_succ, List.getElem_cons_zero, Act.put, List.setIfInBounds_toArray, List.set_cons_zero, List.set_cons_succ]
      go_wp2_with fail
      go_ret2
      exact ⟨_, rfl, by rw [HV.out]; exact own_nil _ _, B2.alloc B2.size _⟩
    refine AllReadyH.cons rfl (fun K hK => ?_) AllReadyH.nil
    go_simp
    refine hK.out _ _ (by first | (simp; done) | exact kept_cell (by go_grown) c0 l0) (fun hHeld => ?_)
    clear hK K
    (try simp only [Act.put, List.setIfInBounds_toArray, List.set_cons_zero, List.set_cons_succ])
    have hxi := ints_new1 (w.alloc (.cells #[.slice ao S.length cap] 26)) x 2 (n := w.heap.size + 1) (by simp)
    refine wpAnyH_ready (rs := [2]) (by kernel_rfl) (by simp) ?_
    refine AllReadyH.cons rfl (fun K hK => ?_) AllReadyH.nil
    go_simp
    (go_at_call 60; refine (codeError_any ao S cap hn (some ac) C capc hnc _ (hS.below (by go_grown)) (hC.below (by go_grown))).mono ?_)
    rintro e w1 ⟨rfl, hb1⟩
    have B1 : Below w.heap.size w w1 := Below.trans (by go_grown) (hb1.mono (by simp; try omega))
    have k1 : w1.cell? ⟨w.heap.size, 0, none⟩ = some (.slice ao S.length cap) := kept_cell hb1 (by simp) (by simp; try omega)
    have l1 : w.heap.size < w1.heap.size := lt_of_below hb1 (by simp; try omega)
    refine hK.out _ _ (k1) (fun hHeld => ?_)
    clear hK K
    (try simp only [Act.put, List.setIfInBounds_toArray, List.set_cons_zero, List.set_cons_succ])
    refine wpAnyH_ready (rs := [6]) (by kernel_rfl) (by simp) ?_
    refine AllReadyH.cons rfl (fun K hK => ?_) AllReadyH.nil
    go_simp
    (go_at_call 105; refine (wordsError_n ao S cap hn _ [x] 1 _ rfl (by omega) _ (hS.below B1) ((hxi.below (Below.refl _ _).drew).below hb1)).mono ?_)
    rintro e w2 ⟨rfl, hb2⟩
    have hq : Below w1.heap.size w1 w2 := hb2
    have k2 := kept_cell hq k1 l1
    have l2 := lt_of_below hq l1
    have B2 := B1.trans (hq.mono B1.size)
    refine hK.out _ _ (k2) (fun hHeld => ?_)
    clear hK K
    (try simp only [Act.put, List.setIfInBounds_toArray, List.set_cons_zero, List.set_cons_succ])
    refine wpAnyH_ready (rs := [7]) (by kernel_rfl) (by simp) ?_
    refine AllReadyH.cons rfl (fun K hK => ?_) AllReadyH.nil
    go_simp
    refine hK.out _ _ (kept_cell ((Below.refl w2.heap.size w2).alloc (Nat.le_refl _) _) k2 l2) (fun hHeld => ?_)
    clear hK K
    (try simp only [Act.put, List.setIfInBounds_toArray, List.set_cons_zero, List.set_cons_succ])
    refine wpAnyH_ready (rs := [8]) (by kernel_rfl) (by simp) ?_
    refine AllReadyH.cons rfl (fun K hK => ?_) AllReadyH.nil
    go_simp
    (go_at_call 89; refine (cmpOr2 _ (eCode S C) (eWords S [x]) _ _ (ints_new2 _ _ _ _ rfl)).mono ?_)
    rintro e w3 ⟨rfl, rfl⟩
    rw [HE.out]
    refine hK.out _ _ (kept_cell ((Below.refl w2.heap.size w2).alloc (Nat.le_refl _) _) k2 l2) (fun hHeld => ?_)
    clear hK K
    (try simp only [Act.put, List.setIfInBounds_toArray, List.set_cons_zero, List.set_cons_succ])
    refine wpAnyH_take (i := 9) (v := ?_) rfl (by kernel_rfl) (by kernel_rfl) (by kernel_rfl) (fun _ _ _ h => h) (Or.inl ⟨by rfl, ?_⟩) (by assumption) ?_
    rotate_left
    · (intro w hSw; (try dsimp only at hSw); go_simp; try (with_reducible rfl))
    (try simp only [Act.put, List.setIfInBounds_toArray, List.set_cons_zero, List.set_cons_succ])
    refine wpAnyH_done (by kernel_rfl) ?_ _
    simp only [List.getElem_toArray, List.getElem_cons_succ, List.getElem_cons_zero, Act.put, List.setIfInBounds_toArray, List.set_cons_zero, List.set_cons_succ]
    go_wp2_with fail
    go_ret2
    exact ⟨_, rfl, by rw [HV.out]; exact own_nil _ _, B2.alloc B2.size _⟩

end Go.Proofs.Ytcbkmmadejbbpaa

namespace Go.Proofs.Ytcbkmmadejbbpaa
open Go.RowKit Cv
set_option linter.unusedVariables false
set_option linter.unusedSimpArgs false
set_option maxRecDepth 100000

theorem own_made_some {w : World} {base m : Nat} {v v' : Value} {L : List Int} (h : OwnInts w base v' L) (hnil : v' = .slice none 0 0 ↔ v = .slice none 0 0 ∧ m = 0) (hv : v ≠ .slice none 0 0) : ∃ g c, v' = .slice (some ⟨g, 0, none⟩) L.length c := by
  rcases h.2 with ⟨h1, _⟩ | ⟨g, c, cur, h1, _⟩
  · exact absurd (hnil.1 h1).1 hv
  · exact ⟨g, c, h1⟩
theorem clone_any (g0 : Nat) (L : List Int) (cap base : Nat) (w : World) (hl : L.length ≤ 1048576) (hb : base ≤ w.heap.size) (a : Addr) (hL : Ints w (some a) L) :
    Calls Try.prog 83 #[.slice (some a) L.length cap] w fun e w' => ∃ g c, e = .returned (.slice (some ⟨g, 0, none⟩) L.length c) ∧ OwnInts w' w.heap.size (.slice (some ⟨g, 0, none⟩) L.length c) L ∧ Below w.heap.size w w' := by
  have B0 : Below w.heap.size w (w.alloc (.cells #[] 2)) := by go_grown
  have o0 := own_empty w w.heap.size (Nat.le_refl _) rfl
  have hnil0 := Lib.run_eql_slice_nil (P := Try.prog) w 22 2 (some a) L.length cap 0 0 Try.underlying22
  go_enter Try.func83, Try.ntmps83
  go_wp2_with (at_builtin; refine wpList_append_ints rfl _ _ rfl w.heap.size _ [] rfl o0 a L L.length cap rfl rfl (hL.below B0) (by simp; omega) B0.size ?_; intro v' w4 hown' hgrow hnil; have hb4 := grown_below B0 B0.size hgrow o0 (Nat.le_refl _); rw [List.nil_append] at hown'; obtain ⟨g, c, hv⟩ := own_made_some hown' hnil (fun h => absurd (Value.slice.inj h).1 (by simp)); subst hv)
  go_ret
  exact ⟨g, c, rfl, hown', hb4⟩

end Go.Proofs.Ytcbkmmadejbbpaa

namespace Go.Proofs.Ytcbkmmadejbbpaa
open Go.RowKit Cv
set_option linter.unusedVariables false
set_option linter.unusedSimpArgs false
set_option maxRecDepth 100000

set_option maxHeartbeats 2000000 in
theorem codeDistances_any (ao : Option Addr) (S : List Int) (cap : Nat) (hSp : Sp S) (ac : Option Addr) (C : List Int) (capc : Nat) (hlen : C.length ≤ 1048576) (hC0 : ∀ i, i < C.length → 0 ≤ gi C i ∧ gi C i ≤ 9223372036854775807) (x : Int) (hx : 0 ≤ x) (hx2 : x ≤ 9223372036854775807) (w : World) (hS : Ints w ao S) (hC : Ints w ac C) :
    Calls Try.prog 65 #[.agg #[.slice ao S.length cap], .slice ac C.length capc, .int .i64 x] w fun e w' =>
      ∃ q, e = .returned (.slice (some ⟨q, 0, none⟩) C.length C.length) ∧ OwnInts w' w.heap.size (.slice (some ⟨q, 0, none⟩) C.length C.length) (dFrom S C x) ∧ Below w.heap.size w w' := by
  have hlo := hSp.lo
  have hhi := hSp.hi
  have HSp := Lib.hid hSp
  have HC0 := Lib.hid hC0
  clear hSp hC0
  go_enter Try.func65, Try.ntmps65
  go_wp2_with fail
  have c0 := cell_new w (.slice ao S.length cap) 26
  have l0 := lt_alloc w (.cells #[.slice ao S.length cap] 26)
  have B0 : Below w.heap.size w (w.alloc (.cells #[.slice ao S.length cap] 26)) := by go_grown
  refine wp_region_held_drew (S := fun w' => w'.cell? ⟨w.heap.size, 0, none⟩ = some (.slice ao S.length cap)) (by kernel_rfl) c0 (fun hHeld => ?_)
  refine wpAnyH_take (i := 0) (v := ?_) rfl (by kernel_rfl) (by kernel_rfl) (by kernel_rfl) (fun _ _ _ h => h) (Or.inl ⟨by rfl, ?_⟩) (by assumption) ?_
  rotate_left
  · (intro w hSw; (try dsimp only at hSw); go_simp; try (with_reducible rfl))
  (try simp only [Act.put, List.setIfInBounds_toArray, List.set_cons_zero, List.set_cons_succ])
  refine wpAnyH_take (i := 1) (v := ?_) rfl (by kernel_rfl) (by kernel_rfl) (by kernel_rfl) (fun _ _ _ h => h) (Or.inl ⟨by rfl, ?_⟩) (by assumption) ?_
  rotate_left
  · (intro w hSw; (try dsimp only at hSw); go_simp; try (with_reducible rfl))
  (try simp only [Act.put, List.setIfInBounds_toArray, List.set_cons_zero, List.set_cons_succ])
  refine wpAnyH_take (i := 6) (v := ?_) rfl (by kernel_rfl) (by kernel_rfl) (by kernel_rfl) (fun _ _ _ h => h) (Or.inl ⟨by rfl, ?_⟩) (by assumption) ?_
  rotate_left
  · (intro w hSw; (try dsimp only at hSw); go_simp; try (with_reducible rfl))
  (try simp only [Act.put, List.setIfInBounds_toArray, List.set_cons_zero, List.set_cons_succ])
  refine wpAnyH_take (i := 7) (v := ?_) rfl (by kernel_rfl) (by kernel_rfl) (by kernel_rfl) (fun _ _ _ h => h) (Or.inl ⟨by rfl, ?_⟩) (by assumption) ?_
  rotate_left
  · (intro w hSw; (try dsimp only at hSw); go_simp; try (with_reducible rfl))
  (try simp only [Act.put, List.setIfInBounds_toArray, List.set_cons_zero, List.set_cons_succ])
  refine wpAnyH_ready (rs := [2]) (by kernel_rfl) (by simp) ?_
  refine AllReadyH.cons rfl (fun K hK => ?_) AllReadyH.nil
  go_simp
  refine hK.out _ _ (by first | (simp; done) | exact kept_cell (by go_grown) c0 l0) (fun hHeld => ?_)
  clear hK K
  (try simp only [Act.put, List.setIfInBounds_toArray, List.set_cons_zero, List.set_cons_succ])
  refine wpAnyH_ready (rs := [3]) (by kernel_rfl) (by simp) ?_
  refine AllReadyH.cons rfl (fun K hK => ?_) AllReadyH.nil
  go_simp
  (go_at_call 108; refine (digitParts_1 ao S cap HSp.out x hx hx2 _ _ _ (hS.below (by go_grown)) ((ints_new1 _ x _ (by simp)).below (Below.refl _ _).drew)).mono ?_)
  rintro e w1 ⟨P1, g1, rfl, r1, o1, l1, hb1⟩
  have B1 : Below w.heap.size w w1 := Below.trans (by go_grown) (hb1.mono (by simp; try omega))
  have c1 := kept_cell hb1 (b := w.heap.size) (o := 0) (v := .slice ao S.length cap) (by simp) (by simp; try omega)
  have lw1 : w.heap.size < w1.heap.size := lt_of_below hb1 (by simp; try omega)
  have i1 := own_ints o1
  refine hK.out _ _ (c1) (fun hHeld => ?_)
  clear hK K
  (try simp only [Act.put, List.setIfInBounds_toArray, List.set_cons_zero, List.set_cons_succ])
  refine wpAnyH_take (i := 4) (v := ?_) rfl (by kernel_rfl) (by kernel_rfl) (by kernel_rfl) (fun _ _ _ h => h) (Or.inl ⟨by rfl, ?_⟩) (by assumption) ?_
  rotate_left
  · (intro w hSw; (try dsimp only at hSw); go_simp; try (with_reducible rfl))
  (try simp only [Act.put, List.setIfInBounds_toArray, List.set_cons_zero, List.set_cons_succ])
  refine wpAnyH_ready (rs := [5, 8]) (by kernel_rfl) (by simp) ?_
  refine AllReadyH.cons rfl (fun K hK => ?_) ?_
  · go_simp
    refine hK.out _ _ (c1) (fun hHeld => ?_)
    clear hK K
    (try simp only [Act.put, List.setIfInBounds_toArray, List.set_cons_zero, List.set_cons_succ])
    refine wpAnyH_ready (rs := [8]) (by kernel_rfl) (by simp) ?_
    refine AllReadyH.cons rfl (fun K hK => ?_) AllReadyH.nil
    go_simp
    (go_at_call 108; refine (digitParts_any ao S cap hlo hhi HSp.out.bd ac C capc (by omega) HC0.out _ (hS.below B1) (hC.below B1)).mono ?_)
    rintro e w2 ⟨P, g, U, rfl, hp, hb2⟩
    have B2 := B1.trans (hb2.mono B1.size)
    have c2 := kept_cell hb2 c1 lw1
    have lw2 := lt_of_below hb2 lw1
    have r2 := kept_cell hb2 r1 l1
    have i2 := i1.below hb2
    refine hK.out _ _ (c2) (fun hHeld => ?_)
    clear hK K
    (try simp only [Act.put, List.setIfInBounds_toArray, List.set_cons_zero, List.set_cons_succ])
    refine wpAnyH_ready (rs := [9]) (by kernel_rfl) (by simp) ?_
    refine AllReadyH.cons rfl (fun K hK => ?_) AllReadyH.nil
    go_simp
    (go_at_call 107; refine (distancesFrom_any S hhi x _ _ _ rfl _ P g C U _ rfl hlen _ i2 hp).mono ?_)
    rintro e w3 ⟨q, rfl, ho, hb3⟩
    have c3 := kept_cell hb3 c2 lw2
    refine hK.out _ _ (c3) (fun hHeld => ?_)
    clear hK K
    (try simp only [Act.put, List.setIfInBounds_toArray, List.set_cons_zero, List.set_cons_succ])
    refine wpAnyH_ready (rs := [10]) (by kernel_rfl) (by simp) ?_
    refine AllReadyH.cons rfl (fun K hK => ?_) AllReadyH.nil
    go_simp
    refine hK.out _ _ (c3) (fun hHeld => ?_)
    clear hK K
    (try simp only [Act.put, List.setIfInBounds_toArray, List.set_cons_zero, List.set_cons_succ])
    refine wpAnyH_done (by kernel_rfl) ?_ _
    go_wp2
    go_ret
    exact ⟨q, rfl, ho.rebase B2.size, B2.trans (hb3.mono B2.size)⟩
  refine AllReadyH.cons rfl (fun K hK => ?_) AllReadyH.nil
  go_simp
  (go_at_call 108; refine (digitParts_any ao S cap hlo hhi HSp.out.bd ac C capc (by omega) HC0.out _ (hS.below B1) (hC.below B1)).mono ?_)
  rintro e w2 ⟨P, g, U, rfl, hp, hb2⟩
  have B2 := B1.trans (hb2.mono B1.size)
  have c2 := kept_cell hb2 c1 lw1
  have lw2 := lt_of_below hb2 lw1
  have r2 := kept_cell hb2 r1 l1
  have i2 := i1.below hb2
  refine hK.out _ _ (c2) (fun hHeld => ?_)
  clear hK K
  (try simp only [Act.put, List.setIfInBounds_toArray, List.set_cons_zero, List.set_cons_succ])
  refine wpAnyH_ready (rs := [5]) (by kernel_rfl) (by simp) ?_
  refine AllReadyH.cons rfl (fun K hK => ?_) AllReadyH.nil
  go_simp
  refine hK.out _ _ (c2) (fun hHeld => ?_)
  clear hK K
  (try simp only [Act.put, List.setIfInBounds_toArray, List.set_cons_zero, List.set_cons_succ])
  refine wpAnyH_ready (rs := [9]) (by kernel_rfl) (by simp) ?_
  refine AllReadyH.cons rfl (fun K hK => ?_) AllReadyH.nil
  go_simp
  (go_at_call 107; refine (distancesFrom_any S hhi x _ _ _ rfl _ P g C U _ rfl hlen _ i2 hp).mono ?_)
  rintro e w3 ⟨q, rfl, ho, hb3⟩
  have c3 := kept_cell hb3 c2 lw2
  refine hK.out _ _ (c3) (fun hHeld => ?_)
  clear hK K
  (try simp only [Act.put, List.setIfInBounds_toArray, List.set_cons_zero, List.set_cons_succ])
  refine wpAnyH_ready (rs := [10]) (by kernel_rfl) (by simp) ?_
  refine AllReadyH.cons rfl (fun K hK => ?_) AllReadyH.nil
  go_simp
  refine hK.out _ _ (c3) (fun hHeld => ?_)
  clear hK K
  (try simp only [Act.put, List.setIfInBounds_toArray, List.set_cons_zero, List.set_cons_succ])
  refine wpAnyH_done (by kernel_rfl) ?_ _
  go_wp2
  go_ret
  exact ⟨q, rfl, ho.rebase B2.size, B2.trans (hb3.mono B2.size)⟩

end Go.Proofs.Ytcbkmmadejbbpaa

namespace Go.Proofs.Ytcbkmmadejbbpaa
open Go.RowKit Cv
set_option linter.unusedVariables false
set_option linter.unusedSimpArgs false
set_option maxRecDepth 100000

theorem wordCount_nat (ao : Option Addr) (S : List Int) (cap : Nat) (N : Nat) (hN : Hid (nW S = (N : Int))) (w : World) (h : Sp S) (hS : Ints w ao S) :
    Calls Try.prog 54 #[.agg #[.slice ao S.length cap]] w fun e w' => e = .returned (.int .i64 (N : Int)) ∧ Below w.heap.size w w' := by
  rw [← hN.out]; exact wordCount_sp ao S cap w h hS

set_option maxHeartbeats 1000000 in
theorem allWords_any (ao : Option Addr) (S : List Int) (cap : Nat) (hSp : Sp S) (N : Nat) (hN : Hid (nW S = (N : Int))) (w : World) (hS : Ints w ao S) :
    Calls Try.prog 118 #[.agg #[.slice ao S.length cap]] w fun e w' =>
      ∃ q, e = .returned (.slice (some ⟨q, 0, none⟩) N N) ∧ OwnInts w' w.heap.size (.slice (some ⟨q, 0, none⟩) N N) (upto N) ∧ Below w.heap.size w w' := by
  obtain ⟨i0, hi, hz0, hz1, hz2⟩ := info_parts infoI64
  have N2 : N ≤ 1024 := by have := (nW_bd hSp).2; have := hN.out; omega
  have HSp := Lib.hid hSp
  clear hSp
  go_enter Try.func118, Try.ntmps118
  go_wp2_with fail
  have B0 : Below w.heap.size w (w.alloc (.cells #[.slice ao S.length cap] 26)) := by go_grown
  refine (wordCount_nat ao S cap N hN _ HSp.out (hS.below B0)).mono ?_
  rintro e w1 ⟨rfl, hb1⟩
  have B1 := B0.trans (hb1.mono B0.size)
  have hs1 : w.heap.size < w1.heap.size := lt_of_below hb1 (lt_alloc _ _)
  clear hb1 B0
  go_wp2_with (at_make; refine wpList_make_full _ rfl _ _ 22 rfl w.heap.size 2 i0 (.int .i64 0) 1 Try.underlying22 hi hz0 hz1 .i64 .i64 _ _ N rfl rfl rfl rfl (by rw [hz2]; omega) (by unfold maxLen; omega) (by omega) ?_; intro w2 hown hgrow)
  have B2 : Below w.heap.size w w2 := B1.grown hgrow B1.size (by intro k h; cases h)
  replace hown := own_made hown
  have g1 : w1.heap.size ≠ w.heap.size := by omega
  clear hgrow
  go_loopw [10] (fun i wr => ∃ (k : Nat) (D : List Int), k ≤ N ∧ i = .int .i64 k ∧ OwnInts wr w.heap.size (.slice (some ⟨w1.heap.size, 0, none⟩) N N) D ∧ Hid (D.length = N ∧ ∀ j, j < k → gi D j = j) ∧ Below w.heap.size w wr)
    (fun i _ => N - (intOf i).toNat)
  case atStart => exact ⟨0, _, Nat.zero_le _, rfl, hown, Lib.hid ⟨by simp, fun j h => by omega⟩, B2⟩
  case round =>
    clear hown B2
    obtain ⟨k, D, hk, rfl, hown, HD, B⟩ := hrel
    by_cases hlt : k < N
    · have hcell := hown.cell (k := k) (by rw [HD.out.1]; exact hlt)
      have hfree := hown.free k
      go_wp2
      go_roundw
      case rel =>
        refine ⟨k + 1, _, by omega, by go_num, hown.stored k (k : Int), Lib.hid ⟨by rw [List.length_set]; exact HD.out.1, ?_⟩, B.setCell (by simp; omega) _⟩
        intro j hj
        rw [gi_set _ _ _ _ (by rw [HD.out.1]; exact hlt)]
        by_cases e : j = k
        · rw [if_pos e, e]
        · rw [if_neg e]; exact HD.out.2 j (by omega)
      case measure => simp [intOf]; omega
    · go_wp2
      go_ret
      have e : D = upto N := ext_gi (by rw [HD.out.1, upto_len]) fun i hi => by rw [HD.out.1] at hi; rw [HD.out.2 i (by omega), gi_upto _ _ hi]
      rw [e] at hown
      exact ⟨_, rfl, hown, B⟩

end Go.Proofs.Ytcbkmmadejbbpaa

namespace Go.Proofs.Ytcbkmmadejbbpaa
open Go.RowKit Cv
set_option linter.unusedVariables false
set_option linter.unusedSimpArgs false
set_option maxRecDepth 100000

end Go.Proofs.Ytcbkmmadejbbpaa

namespace Go.Proofs.Ytcbkmmadejbbpaa
open Go.RowKit Cv
set_option linter.unusedVariables false
set_option linter.unusedSimpArgs false
set_option maxRecDepth 100000

theorem enter_lacks : ∀ args w, (callFunc 119 args).run Try.prog w = .ok (.enter 119 args) w := enters_of Try.func119 (by kernel_rfl) rfl

/-- the error of a space and codes of it, the first k -/
def eTo (S : List Int) (L : Nat → List Int) : Nat → Int
  | 0 => 0
  | k + 1 => if eTo S L k = 0 then eCode S (L k) else eTo S L k
theorem eTo_stop {S : List Int} {L : Nat → List Int} {k : Nat} (h : eTo S L k ≠ 0) : ∀ m, k ≤ m → eTo S L m = eTo S L k := by
  intro m hm
  induction m with
  | zero => have : k = 0 := by omega
            subst this; rfl
  | succ m ih =>
    by_cases e : k = m + 1
    · subst e; rfl
    · have := ih (by omega)
      rw [eTo, this, if_neg h]

theorem codesError_n (ao : Option Addr) (S : List Int) (cap : Nat) (hn : S.length ≤ 4294967296) (b n : Nat) (hn8 : n ≤ 8) (A : Nat → Option Addr) (L : Nat → List Int) (K : Nat → Nat) (w : World) (hS : Ints w ao S) (hb : b < w.heap.size)
    (hc : ∀ k, k < n → w.cell? ⟨b, k, none⟩ = some (.slice (A k) (L k).length (K k))) (hL : ∀ k, k < n → Ints w (A k) (L k) ∧ (L k).length ≤ 4294967296) :
    Calls Try.prog 117 #[.agg #[.slice ao S.length cap], .slice (some ⟨b, 0, none⟩) n n] w fun e w' => e = .returned (.int .i64 (eTo S L n)) ∧ Below w.heap.size w w' := by
  have B0 : Below w.heap.size w (w.alloc (.cells #[.slice ao S.length cap] 26)) := by go_grown
  have c0 := cell_new w (.slice ao S.length cap) 26
  have l0 := lt_alloc w (.cells #[.slice ao S.length cap] 26)
  have HL := Lib.hid hL
  have HC := Lib.hid hc
  clear hL hc
  go_enter Try.func117, Try.ntmps117
  go_wp2_with fail
  go_loopw [10] (fun i wr => ∃ k : Nat, k ≤ n ∧ i = .int .i64 k ∧ Hid (eTo S L k = 0) ∧ wr.cell? ⟨w.heap.size, 0, none⟩ = some (.slice ao S.length cap) ∧ w.heap.size < wr.heap.size ∧ Below w.heap.size w wr) (fun i _ => n - (intOf i).toNat)
  case atStart => exact ⟨0, Nat.zero_le _, rfl, Lib.hid rfl, c0, l0, B0⟩
  case round =>
    clear c0 l0 B0
    obtain ⟨k, hk, rfl, HE, c, l, B⟩ := hrel
    by_cases hlt : k < n
    · have hck := kept_cell B (HC.out k hlt) hb
      obtain ⟨hI, hl⟩ := HL.out k hlt
      obtain ⟨a, ha⟩ : ∃ a, a = A k := ⟨_, rfl⟩
      obtain ⟨C, hC⟩ : ∃ C, C = L k := ⟨_, rfl⟩
      obtain ⟨q, hq⟩ : ∃ q, q = K k := ⟨_, rfl⟩
      rw [← ha, ← hC, ← hq] at hck
      rw [← ha, ← hC] at hI
      rw [← hC] at hl
      have HN : Hid (eTo S L (k + 1) = eCode S C) := Lib.hid (by rw [eTo, if_pos HE.out, hC])
      clear ha hC hq
      by_cases hz : eCode S C = 0
      · have hzn : (eCode S C != 0) = false := by simp [hz]
        have HZ := Lib.hid hz
        clear hz
        go_wp2_with fail
        refine (codeError_any ao S cap hn a C q hl _ (hS.below B) (hI.below B)).mono ?_
        rintro e w2 ⟨rfl, hb2⟩
        replace c := kept_cell hb2 c l
        replace l := lt_of_below hb2 l
        replace B := B.trans (hb2.mono B.size)
        clear hb2 hck
        go_wp2_with fail
        go_roundw
        case rel => exact ⟨k + 1, by omega, by go_num, Lib.hid (by rw [HN.out, HZ.out]), c, l, B⟩
        case measure => simp [intOf]; omega
      · have hzn : (eCode S C != 0) = true := by simpa using hz
        have HZ : Hid (eTo S L n = eCode S C) := Lib.hid (by rw [← HN.out]; exact eTo_stop (by rw [HN.out]; exact hz) n (by omega))
        clear hz
        go_wp2_with fail
        refine (codeError_any ao S cap hn a C q hl _ (hS.below B) (hI.below B)).mono ?_
        rintro e w2 ⟨rfl, hb2⟩
        replace B := B.trans (hb2.mono B.size)
        clear hb2 hck
        go_wp2_with fail
        go_ret
        exact ⟨ret_int HZ.out.symm, B⟩
    · have ek : Hid (k = n) := Lib.hid (by omega)
      go_wp2_with fail
      go_ret
      exact ⟨ret_int (by rw [← ek.out, HE.out]), B⟩

theorem codesError_2 (ao : Option Addr) (S : List Int) (cap : Nat) (hn : S.length ≤ 4294967296) (ac ad : Option Addr) (C D : List Int) (capc capd : Nat) (hlc : C.length ≤ 4294967296) (hld : D.length ≤ 4294967296) (w w0 : World) (b : Nat) (t : TypeId)
    (hw : w = w0.alloc (.cells #[.slice ac C.length capc, .slice ad D.length capd] t)) (hb : b = w0.heap.size) (hS : Ints w ao S) (hC : Ints w ac C) (hD : Ints w ad D) :
    Calls Try.prog 117 #[.agg #[.slice ao S.length cap], .slice (some ⟨b, 0, none⟩) 2 2] w fun e w' => e = .returned (.int .i64 (eTwo S C D)) ∧ Below w.heap.size w w' := by
  have hE : eTo S (fun k => if k = 0 then C else D) 2 = eTwo S C D := by simp [eTo, eTwo]
  rw [← hE]
  refine codesError_n ao S cap hn b 2 (by omega) (fun k => if k = 0 then ac else ad) (fun k => if k = 0 then C else D) (fun k => if k = 0 then capc else capd) w hS (by rw [hw, hb]; simp) ?_ ?_
  · intro k hk
    have : k = 0 ∨ k = 1 := by omega
    rcases this with rfl | rfl <;> (rw [hw, hb]; simp)
  · intro k hk
    have : k = 0 ∨ k = 1 := by omega
    rcases this with rfl | rfl
    · exact ⟨hC, hlc⟩
    · exact ⟨hD, hld⟩

end Go.Proofs.Ytcbkmmadejbbpaa

namespace Go.Proofs.Ytcbkmmadejbbpaa
open Go.RowKit Cv
set_option linter.unusedVariables false
set_option linter.unusedSimpArgs false
set_option maxRecDepth 100000

theorem upto_filter (N : Nat) (p : Nat → Bool) : (upto N).filter (fun x => !!p x.toNat) = selL p N := by
  unfold upto selL
  rw [List.filter_map]
  congr 1
  exact List.filter_congr fun i hi => by simp

theorem exec_ld16 {a : Act} {w : World} {b : Nat} {p : Nat → Bool} (hr : RowAt w b p) (o : Oper) (x : Operand) (ho : o.op = .load 81 x) (hx : a.eval x = .pointer (some ⟨b, 0, none⟩)) : (execOp a.eval o).run Try.prog w = .ok (.value (.agg (setA p))) w := by
  unfold execOp
  simp only [ho, hx, Instr.loadAt, Instr.sureAddr, Sem.run_bind, Sem.run_pure, Result.andThen_ok, ldVar hr]
set_option maxHeartbeats 2000000 in
theorem impl_CodesTogether (ao : Option Addr) (S : List Int) (cap : Nat) (hn : S.length ≤ 4294967296) (ac : Addr) (C : List Int) (capc : Nat) (hnc : C.length ≤ 4294967296) (ad : Option Addr) (D : List Int) (capd : Nat) (hnd : D.length ≤ 4294967296) (w : World) (hS : Ints w ao S) (hC : Ints w (some ac) C) (hD : Ints w ad D) :
    Calls Try.prog 86 #[.agg #[.slice ao S.length cap], .slice (some ac) C.length capc, .slice ad D.length capd] w fun e w' => ∃ v, e = .returned (.tuple #[v, .int .i64 (eTwo S C D)]) ∧ OwnInts w' w.heap.size v (vTog S C D) ∧ Below w.heap.size w w' := by
  have B0 : Below w.heap.size w (w.alloc (.cells #[.slice ao S.length cap] 26)) := by go_grown
  have B1 : Below w.heap.size w ((w.alloc (.cells #[.slice ao S.length cap] 26)).alloc (.cells #[.slice (some ac) C.length capc, .slice ad D.length capd] 22)) := by go_grown
  by_cases hz : eTwo S C D = 0
  · have hzn : (eTwo S C D != 0) = false := by simp [hz]
    have HZ := Lib.hid hz
    obtain ⟨z1, z2⟩ := eTwo_zero hz
    obtain ⟨hs, c1, c2⟩ := eCode_zero z1
    obtain ⟨_, d1, d2⟩ := eCode_zero z2
    have N1 := nW_bd hs
    obtain ⟨N, hN⟩ : ∃ N : Nat, nW S = (N : Int) := ⟨(nW S).toNat, by omega⟩
    have HN := Lib.hid hN
    have hN2 : N ≤ 1024 := by omega
    have HSp := Lib.hid hs
    have HV : Hid (vTog S C D = selL (fun u => inL C u || inL D u) N) := Lib.hid (by unfold vTog togL; rw [if_pos hz, hN]; rfl)
    have HCb : Hid (∀ i, i < C.length → 0 ≤ gi C i ∧ gi C i < 1024) := Lib.hid fun i hi => by have := c1 i hi; omega
    have HDb : Hid (∀ i, i < D.length → 0 ≤ gi D i ∧ gi D i < 1024) := Lib.hid fun i hi => by have := d1 i hi; omega
    have cS := cell_new w (.slice ao S.length cap) 26
    have lS := lt_alloc w (.cells #[.slice ao S.length cap] 26)
    clear hz z1 z2 hs c1 c2 d1 d2 N1 hN
    go_enter Try.func86, Try.ntmps86
    go_wp2_with fail
    refine (codesError_2 ao S cap hn (some ac) ad C D capc capd hnc hnd _ _ _ _ rfl (by simp) (hS.below B1) (hC.below B1) (hD.below B1)).mono ?_
    rintro e w1 ⟨rfl, hb1⟩
    have hq := Below.trans ((Below.refl _ (w.alloc (.cells #[.slice ao S.length cap] 26))).alloc (Nat.le_refl _) (.cells #[.slice (some ac) C.length capc, .slice ad D.length capd] 22)) (hb1.mono (by simp))
    replace cS := kept_cell hq cS lS
    replace lS := lt_of_below hq lS
    have B := B1.trans (hb1.mono B1.size)
    have hs1 := B.size
    clear hb1 B1 B0 hq
    go_wp2_with fail
    refine (setOf_any (some ac) C capc hnc HCb.out _ (hC.below B)).mono ?_
    rintro e w2 ⟨rfl, hb2⟩
    replace cS := kept_cell hb2 cS lS
    replace lS := lt_of_below hb2 lS
    have B2 := B.trans (hb2.mono hs1)
    have hs2 := B2.size
    go_wp2_with fail
    refine (setOf_any ad D capd hnd HDb.out _ (hD.below B2)).mono ?_
    rintro e w3 ⟨rfl, hb3⟩
    replace cS := kept_cell hb3 cS lS
    replace lS := lt_of_below hb3 lS
    have B3 := B2.trans (hb3.mono hs2)
    have hs3 := B3.size
    go_wp2_with fail
    refine (with_any (inL C) (inL D) w3).mono ?_
    rintro e w4 ⟨rfl, hb4⟩
    replace cS := kept_cell hb4 cS lS
    replace lS := lt_of_below hb4 lS
    have B4 := B3.trans (hb4.mono hs3)
    have hs4 := B4.size
    have hz0 := rowz_new w4 (n := w4.heap.size) rfl
    obtain ⟨W5, hW5⟩ : ∃ W5, W5 = (w4.alloc (.cells #[.int .u64 0, .int .u64 0, .int .u64 0, .int .u64 0, .int .u64 0, .int .u64 0, .int .u64 0, .int .u64 0, .int .u64 0, .int .u64 0, .int .u64 0, .int .u64 0, .int .u64 0, .int .u64 0, .int .u64 0, .int .u64 0] 81)).setRow w4.heap.size (setA fun u => inL C u || inL D u) := ⟨_, rfl⟩
    have r5 : RowAt W5 w4.heap.size (fun u => inL C u || inL D u) := by rw [hW5]; exact row_set hz0
    have h45 : Below w4.heap.size w4 W5 := by rw [hW5]; exact ((Below.refl _ w4).alloc (Nat.le_refl _) _).grown (grown_setRow _) (by simp) fun j hj => by cases hj; exact Nat.le_refl _
    replace cS := kept_cell h45 cS lS
    replace lS := lt_of_below h45 lS
    have B5 := B4.trans (h45.mono hs4)
    have hs5 := B5.size
    have HW5 := Lib.hid hW5
    clear hW5
    go_wp2_with (first | (refine wpList_st16 rfl _ _ rfl hz0 _ rfl rfl ?_; rw [← HW5.out]))
    refine wp_region_held_drew (S := fun w' => w'.cell? ⟨w.heap.size, 0, none⟩ = some (.slice ao S.length cap) ∧ RowAt w' w4.heap.size (fun u => inL C u || inL D u)) (by kernel_rfl) ⟨cS, r5⟩ (fun hHeld => ?_)
    refine wpAnyH_take (i := 0) (v := ?_) rfl (by kernel_rfl) (by kernel_rfl) (by kernel_rfl) (fun _ _ _ h => h) (Or.inl ⟨by rfl, ?_⟩) (by assumption) ?_
    rotate_left
    · (intro w hSw; have hSw := hSw.1; (try dsimp only at hSw); go_simp; try (with_reducible rfl))
    (try simp only [Act.put, List.setIfInBounds_toArray, List.set_cons_zero, List.set_cons_succ])
    refine wpAnyH_take (i := 2) (v := .agg (setA fun u => inL C u || inL D u)) rfl (by kernel_rfl) (by kernel_rfl) (by kernel_rfl) (fun _ _ _ h => h) (Or.inl ⟨by rfl, ?_⟩) (by assumption) ?_
    · intro w hSw
      exact exec_ld16 hSw.2 _ (.tmp 9) (by kernel_rfl) (by kernel_rfl)
    (try simp only [Act.put, List.setIfInBounds_toArray, List.set_cons_zero, List.set_cons_succ])
    refine wpAnyH_take (i := 3) (v := ?_) rfl (by kernel_rfl) (by kernel_rfl) (by kernel_rfl) (fun _ _ _ h => h) (Or.inl ⟨by rfl, ?_⟩) (by assumption) ?_
    rotate_left
    · (intro w hSw; have hSw := hSw.1; (try dsimp only at hSw); go_simp; try (with_reducible rfl))
    (try simp only [Act.put, List.setIfInBounds_toArray, List.set_cons_zero, List.set_cons_succ])
    refine wpAnyH_ready (rs := [1]) (by kernel_rfl) (by simp) ?_
    refine AllReadyH.cons rfl (fun K hK => ?_) AllReadyH.nil
    go_simp
    (go_at_call 118; refine (allWords_any ao S cap HSp.out N HN.out _ (hS.below B5.drew)).mono ?_)
    rintro e w6 ⟨q, rfl, own, hb6⟩
    have h56 : Below W5.heap.size W5 w6 := (Below.refl _ W5).drew.trans hb6
    have c6 := kept_cell h56 cS lS
    have r6 := r5.below h56 r5.lt
    have hq5 : W5.heap.size ≤ q := own.base_le.1
    have hq6 : w4.heap.size < W5.heap.size := r5.lt
    have hq7 : w.heap.size ≤ w4.heap.size := hs4
    replace own := own.rebase (base' := w.heap.size) hs5
    have B6 := B5.trans (h56.mono hs5)
    have hdel := deleteFunc_any w.heap.size q N (upto N) 119 enter_lacks #[.agg (setA fun u => inL C u || inL D u)] #[] (fun x => !(inL C x.toNat || inL D x.toNat)) w6 (by rw [upto_len]; omega) (by rw [upto_len]; exact own) (by
      intro W x hW hx
      obtain ⟨j, hj, e⟩ := mem_gi hx
      rw [upto_len] at hj
      rw [gi_upto N j hj] at e
      subst e
      exact lacks_any (fun u => inL C u || inL D u) j (by omega) W)
    rw [upto_len] at hdel
    refine hK.out _ _ (⟨c6, r6⟩) (fun hHeld => ?_)
    clear hK K
    (try simp only [Act.put, List.setIfInBounds_toArray, List.set_cons_zero, List.set_cons_succ])
    refine wpAnyH_ready (rs := [4]) (by kernel_rfl) (by simp) ?_
    refine AllReadyH.cons rfl (fun K hK => ?_) AllReadyH.nil
    go_simp
    (go_at_call 82; refine hdel.mono ?_)
    rintro e w7 ⟨v, rfl, own7, hg7⟩
    have c7 := hg7.cell (a := ⟨w.heap.size, 0, none⟩) c6 (fun e => by have e2 := Option.some.inj e; simp at e2; omega)
    have r7 := r6.kept hg7 (show w4.heap.size ≠ q by omega)
    have B7 := B6.trans (below_of_grown hg7 (by omega) B6.size)
    refine hK.out _ _ (⟨c7, r7⟩) (fun hHeld => ?_)
    clear hK K
    (try simp only [Act.put, List.setIfInBounds_toArray, List.set_cons_zero, List.set_cons_succ])
    refine wpAnyH_take (i := 5) (v := ?_) rfl (by kernel_rfl) (by kernel_rfl) (by kernel_rfl) (fun _ _ _ h => h) (Or.inl ⟨by rfl, ?_⟩) (by assumption) ?_
    rotate_left
    · (intro w hSw; have hSw := hSw.1; (try dsimp only at hSw); go_simp; try (with_reducible rfl))
    (try simp only [Act.put, List.setIfInBounds_toArray, List.set_cons_zero, List.set_cons_succ])
    refine wpAnyH_take (i := 6) (v := ?_) rfl (by kernel_rfl) (by kernel_rfl) (by kernel_rfl) (fun _ _ _ h => h) (Or.inl ⟨by rfl, ?_⟩) (by assumption) ?_
    rotate_left
    · (intro w hSw; have hSw := hSw.1; (try dsimp only at hSw); go_simp; try (with_reducible rfl))
    (try simp only [Act.put, List.setIfInBounds_toArray, List.set_cons_zero, List.set_cons_succ])
    refine wpAnyH_done (by kernel_rfl) ?_ _
    simp only [List.getElem_toArray, List.getElem_cons_succ, List.getElem_cons_zero, Act.put, List.setIfInBounds_toArray, List.set_cons_zero, List.set_cons_succ]
    go_wp2
    go_ret2
    refine ⟨_, by rw [HZ.out]; rfl, ?_, B7⟩
    rw [HV.out, ← upto_filter N (fun u => inL C u || inL D u)]
    exact own7
  · have hzn : (eTwo S C D != 0) = true := by simpa using hz
    have HV : Hid (vTog S C D = []) := Lib.hid (by unfold vTog; rw [if_neg hz])
    clear hz
    go_enter Try.func86, Try.ntmps86
    go_wp2_with fail
    refine (codesError_2 ao S cap hn (some ac) ad C D capc capd hnc hnd _ _ _ _ rfl (by simp) (hS.below B1) (hC.below B1) (hD.below B1)).mono ?_
    rintro e w1 ⟨rfl, hb1⟩
    have B := B1.trans (hb1.mono B1.size)
    go_wp2_with fail
    go_ret2
    exact ⟨_, rfl, by rw [HV.out]; exact own_nil _ _, B⟩

end Go.Proofs.Ytcbkmmadejbbpaa

namespace Go.Proofs.Ytcbkmmadejbbpaa
open Go.RowKit Cv
set_option linter.unusedVariables false
set_option linter.unusedSimpArgs false
set_option maxRecDepth 100000

theorem l01In_w (n low high : Int) (w : World) :
    Calls Try.prog 61 #[.int .i64 n, .int .i64 low, .int .i64 high] w fun e w' => e = .returned (.bool (inB n low high)) ∧ w' = w :=
  (l01In_any n low high w).mono fun _ _ ⟨a, b⟩ => ⟨a, b.symm⟩

end Go.Proofs.Ytcbkmmadejbbpaa

namespace Go.Proofs.Ytcbkmmadejbbpaa
open Go.RowKit Cv
set_option linter.unusedVariables false
set_option linter.unusedSimpArgs false
set_option maxRecDepth 100000

theorem Dg_digs {S : List Int} (h : Sp S) (x : Int) : Dg S (digs S x) := ⟨digs_length _ _, fun j hj => by rw [gi_digs S x j hj]; exact dig_bd S x h.bd j hj⟩
theorem Dg_opp {S : List Int} (h : Sp S) (x : Int) : Dg S (oppD S (digs S x)) := ⟨oppD_length _ _, fun j hj => by
  have := h.bd j hj
  rw [gi_oppD _ _ _ hj]; exact ⟨Int.emod_nonneg _ (by omega), Int.emod_lt_of_pos _ (by omega)⟩⟩
theorem parts_own {w : World} {base P g : Nat} {S U : List Int} {x : Int} (hp : PartsAt w base P g S [x] U) : OwnInts w base (.slice (some ⟨g, 0, none⟩) S.length S.length) (digs S x) := by
  have hU : U = digs S x := ext_gi (by rw [hp.len, digs_length]; simp) fun j hj => by
    rw [hp.len] at hj
    have := hp.dg 0 j (by simp) (by simpa using hj)
    rw [Nat.zero_mul, Nat.zero_add, gi1] at this
    rw [this, gi_digs S x j (by simpa using hj)]
  have own := hp.own
  rwa [hU, digs_length] at own

end Go.Proofs.Ytcbkmmadejbbpaa

namespace Go.Proofs.Ytcbkmmadejbbpaa
open Go.RowKit Cv
set_option linter.unusedVariables false
set_option linter.unusedSimpArgs false
set_option maxRecDepth 100000

theorem Dg_chg {S : List Int} (h : Sp S) (x : Int) {k : Nat} {d : Int} (h0 : 0 ≤ d) (h1 : d < gi S k) : Dg S ((digs S x).set k d) := ⟨by rw [List.length_set]; exact digs_length _ _, fun j hj => by
  rcases Nat.lt_or_ge k S.length with hk | hk
  · rw [gi_set _ _ _ _ (by rw [digs_length]; exact hk)]
    by_cases e : j = k
    · rw [if_pos e, e]; exact ⟨h0, h1⟩
    · rw [if_neg e, gi_digs S x j hj]; exact dig_bd S x h.bd j hj
  · rw [List.set_eq_of_length_le (by rw [digs_length]; exact hk), gi_digs S x j hj]; exact dig_bd S x h.bd j hj⟩

set_option maxHeartbeats 2000000 in
theorem impl_ChangeDigit (ao : Option Addr) (S : List Int) (cap : Nat) (hn : S.length ≤ 4294967296) (x : Int) (hx : -9223372036854775808 ≤ x ∧ x ≤ 9223372036854775807) (i : Int) (hi : -9223372036854775808 ≤ i ∧ i ≤ 9223372036854775807) (d : Int) (hd : -9223372036854775808 ≤ d ∧ d ≤ 9223372036854775807) (w : World) (hS : Ints w ao S) :
    Calls Try.prog 80 #[.agg #[.slice ao S.length cap], .int .i64 x, .int .i64 i, .int .i64 d] w fun e w' => e = .returned (.tuple #[.int .i64 (vChange S x i d), .int .i64 (eChange S x i d)]) ∧ Below w.heap.size w w' := by
  by_cases hz : eWords S [x] = 0
  · obtain ⟨hSp, x1, x2⟩ := eWords1 hz
    obtain ⟨N1, N2⟩ := nW_bd hSp
    have HSp := Lib.hid hSp
    have hlo := hSp.lo
    have hhi := hSp.hi
    have hzb : (eWords S [x] == 0) = true := by simp [hz]
    have hzn : (eWords S [x] != 0) = false := by simp [hz]
    have HZ := Lib.hid hz
    clear hz hSp
    have bad : chgB S i d = false → Hid (vChange S x i d = 0) ∧ Hid (eChange S x i d = 2) := fun h =>
      ⟨Lib.hid (by simp only [vChange, h]; simp), Lib.hid (by simp only [eChange, if_pos HZ.out, h]; simp)⟩
    by_cases hi0 : 0 ≤ i
    case neg =>
      obtain ⟨HV, HE⟩ := bad (by rw [← Bool.not_eq_true, chgB_iff]; omega)
      clear bad
      go_enter Try.func80, Try.ntmps80
      go_wp2_with fail
      have B0 : Below w.heap.size w ((w.alloc (.cells #[.slice ao S.length cap] 26)).alloc (.cells #[.int .i64 x] 2)) := by go_grown
      have c0 : (((w.alloc (.cells #[.slice ao S.length cap] 26)).alloc (.cells #[.int .i64 x] 2))).cell? ⟨w.heap.size, 0, none⟩ = some (.slice ao S.length cap) := kept_cell ((Below.refl _ (w.alloc (.cells #[.slice ao S.length cap] 26))).alloc (Nat.le_refl _) _) (cell_new _ _ _) (lt_alloc _ _)
      refine (wordsError_n ao S cap hn _ [x] 1 _ rfl (by omega) _ (hS.below B0) (ints_new1 _ x _ (by simp))).mono ?_
      rintro e w1 ⟨rfl, hb⟩
      have c1 := kept_cell hb c0 (by simp; omega)
      have B1 : Below w.heap.size w w1 := B0.trans (hb.mono (by simp; omega))
      have l1 : w.heap.size < w1.heap.size := lt_of_below hb (by simp; omega)
      clear hb c0 B0
      go_wp2_with fail
      go_ret2
      exact ⟨ret2 HV.out.symm HE.out.symm, B1⟩
    by_cases hi1 : i < (S.length : Int)
    case neg =>
      obtain ⟨HV, HE⟩ := bad (by rw [← Bool.not_eq_true, chgB_iff]; omega)
      clear bad
      go_enter Try.func80, Try.ntmps80
      go_wp2_with fail
      have B0 : Below w.heap.size w ((w.alloc (.cells #[.slice ao S.length cap] 26)).alloc (.cells #[.int .i64 x] 2)) := by go_grown
      have c0 : (((w.alloc (.cells #[.slice ao S.length cap] 26)).alloc (.cells #[.int .i64 x] 2))).cell? ⟨w.heap.size, 0, none⟩ = some (.slice ao S.length cap) := kept_cell ((Below.refl _ (w.alloc (.cells #[.slice ao S.length cap] 26))).alloc (Nat.le_refl _) _) (cell_new _ _ _) (lt_alloc _ _)
      refine (wordsError_n ao S cap hn _ [x] 1 _ rfl (by omega) _ (hS.below B0) (ints_new1 _ x _ (by simp))).mono ?_
      rintro e w1 ⟨rfl, hb⟩
      have c1 := kept_cell hb c0 (by simp; omega)
      have B1 : Below w.heap.size w w1 := B0.trans (hb.mono (by simp; omega))
      have l1 : w.heap.size < w1.heap.size := lt_of_below hb (by simp; omega)
      clear hb c0 B0
      go_wp2_with fail
      go_ret2
      exact ⟨ret2 HV.out.symm HE.out.symm, B1⟩
    have hir := And.intro hi0 hi1
    obtain ⟨k, rfl⟩ := Int.eq_ofNat_of_zero_le hir.1
    have hk : k < S.length := by omega
    have ek : ((k : Int)).toNat = k := by simp
    obtain ⟨b, o, rfl, hbl, hc⟩ := hS.at hk
    obtain ⟨s1, s2⟩ := HSp.out.bd k hk
    by_cases hd0 : 0 ≤ d
    case neg =>
      obtain ⟨HV, HE⟩ := bad (by rw [← Bool.not_eq_true, chgB_iff, ek]; omega)
      clear bad ek
      go_enter Try.func80, Try.ntmps80
      go_wp2_with fail
      have B0 : Below w.heap.size w ((w.alloc (.cells #[.slice (some ⟨b, o, none⟩) S.length cap] 26)).alloc (.cells #[.int .i64 x] 2)) := by go_grown
      have c0 : (((w.alloc (.cells #[.slice (some ⟨b, o, none⟩) S.length cap] 26)).alloc (.cells #[.int .i64 x] 2))).cell? ⟨w.heap.size, 0, none⟩ = some (.slice (some ⟨b, o, none⟩) S.length cap) := kept_cell ((Below.refl _ (w.alloc (.cells #[.slice (some ⟨b, o, none⟩) S.length cap] 26))).alloc (Nat.le_refl _) _) (cell_new _ _ _) (lt_alloc _ _)
      refine (wordsError_n (some ⟨b, o, none⟩) S cap hn _ [x] 1 _ rfl (by omega) _ (hS.below B0) (ints_new1 _ x _ (by simp))).mono ?_
      rintro e w1 ⟨rfl, hb⟩
      have c1 := kept_cell hb c0 (by simp; omega)
      have B1 : Below w.heap.size w w1 := B0.trans (hb.mono (by simp; omega))
      have l1 : w.heap.size < w1.heap.size := lt_of_below hb (by simp; omega)
      clear hb c0 B0
      have hck := kept_cell B1 (hc k hk) hbl
      clear hc
      go_wp2_with fail
      go_ret2
      exact ⟨ret2 HV.out.symm HE.out.symm, B1⟩
    by_cases hd1 : d < gi S k
    case neg =>
      obtain ⟨HV, HE⟩ := bad (by rw [← Bool.not_eq_true, chgB_iff, ek]; omega)
      clear bad ek
      go_enter Try.func80, Try.ntmps80
      go_wp2_with fail
      have B0 : Below w.heap.size w ((w.alloc (.cells #[.slice (some ⟨b, o, none⟩) S.length cap] 26)).alloc (.cells #[.int .i64 x] 2)) := by go_grown
      have c0 : (((w.alloc (.cells #[.slice (some ⟨b, o, none⟩) S.length cap] 26)).alloc (.cells #[.int .i64 x] 2))).cell? ⟨w.heap.size, 0, none⟩ = some (.slice (some ⟨b, o, none⟩) S.length cap) := kept_cell ((Below.refl _ (w.alloc (.cells #[.slice (some ⟨b, o, none⟩) S.length cap] 26))).alloc (Nat.le_refl _) _) (cell_new _ _ _) (lt_alloc _ _)
      refine (wordsError_n (some ⟨b, o, none⟩) S cap hn _ [x] 1 _ rfl (by omega) _ (hS.below B0) (ints_new1 _ x _ (by simp))).mono ?_
      rintro e w1 ⟨rfl, hb⟩
      have c1 := kept_cell hb c0 (by simp; omega)
      have B1 : Below w.heap.size w w1 := B0.trans (hb.mono (by simp; omega))
      have l1 : w.heap.size < w1.heap.size := lt_of_below hb (by simp; omega)
      clear hb c0 B0
      have hck := kept_cell B1 (hc k hk) hbl
      clear hc
      go_wp2_with fail
      go_ret2
      exact ⟨ret2 HV.out.symm HE.out.symm, B1⟩
    have hdr := And.intro hd0 hd1
    have hcb : chgB S k d = true := by rw [chgB_iff, ek]; exact ⟨hir, hdr⟩
    have HV := Lib.hid (show vChange S x k d = chgW S x k d from by simp only [vChange, if_pos (And.intro HZ.out hcb), ek])
    have HE := Lib.hid (show eChange S x k d = 0 from by simp only [eChange, if_pos HZ.out, if_pos hcb])
    obtain ⟨dd0, dd1⟩ := hdr
    clear bad ek hcb hir
    go_enter Try.func80, Try.ntmps80
    go_wp2_with fail
    have B0 : Below w.heap.size w ((w.alloc (.cells #[.slice (some ⟨b, o, none⟩) S.length cap] 26)).alloc (.cells #[.int .i64 x] 2)) := by go_grown
    have c0 : (((w.alloc (.cells #[.slice (some ⟨b, o, none⟩) S.length cap] 26)).alloc (.cells #[.int .i64 x] 2))).cell? ⟨w.heap.size, 0, none⟩ = some (.slice (some ⟨b, o, none⟩) S.length cap) := kept_cell ((Below.refl _ (w.alloc (.cells #[.slice (some ⟨b, o, none⟩) S.length cap] 26))).alloc (Nat.le_refl _) _) (cell_new _ _ _) (lt_alloc _ _)
    refine (wordsError_n (some ⟨b, o, none⟩) S cap hn _ [x] 1 _ rfl (by omega) _ (hS.below B0) (ints_new1 _ x _ (by simp))).mono ?_
    rintro e w1 ⟨rfl, hb⟩
    have c1 := kept_cell hb c0 (by simp; omega)
    have B1 : Below w.heap.size w w1 := B0.trans (hb.mono (by simp; omega))
    have l1 : w.heap.size < w1.heap.size := lt_of_below hb (by simp; omega)
    clear hb c0 B0
    have hck := kept_cell B1 (hc k hk) hbl
    clear hc
    go_wp2_with fail
    refine (digitParts_n (some ⟨b, o, none⟩) S cap hlo hhi HSp.out.bd _ [x] 1 _ rfl (by omega) (by intro i hi; match i, hi with | 0, _ => exact ⟨x1, by rw [gi1]; omega⟩) _ (hS.below (B1.alloc B1.size _)) (ints_new1 _ x _ (by rfl))).mono ?_
    rintro e w2 ⟨P, g, U, rfl, hp, hb⟩
    have r0 := hp.row 0 (by simp)
    rw [Nat.zero_mul] at r0
    have own := parts_own hp
    have hgw : w.heap.size < g := by have := own.base_le.1; simp at this; omega
    have hq : Below w1.heap.size w1 w2 := Below.trans ((Below.refl _ w1).alloc (Nat.le_refl _) _) (hb.mono (by simp))
    have c2 := kept_cell hq c1 l1
    have B2 : Below w.heap.size w w2 := B1.trans (hq.mono B1.size)
    replace own := own.rebase (base' := w.heap.size) (by simp; omega)
    clear hb hq c1 B1 hp hck
    have hcell := own.cell (k := k) (by rw [digs_length]; exact hk)
    have hfree := own.free k
    have own3 := own.stored k d
    have c3 := cell_set_other (a := ⟨g, k, none⟩) (u := .int .i64 d) c2 (by simp; omega)
    have B3 := B2.setCell (p := ⟨g, k, none⟩) (by simp; omega) (.int .i64 d)
    have HD := Lib.hid (Dg_chg HSp.out x dd0 dd1)
    clear own
    go_wp2_with fail
    refine (wordWithDigits_any (some ⟨b, o, none⟩) S cap hhi HSp.out.bd (some ⟨g, 0, none⟩) ((digs S x).set k d) S.length _ rfl HD.out _ (hS.below B3) (own_ints own3)).mono ?_
    rintro e w5 ⟨rfl, hb5⟩
    go_wp2_with fail
    go_ret2
    exact ⟨ret2 HV.out.symm HE.out.symm, B3.trans (hb5.mono B3.size)⟩
  · have HV := Lib.hid (show vChange S x i d = 0 from by simp only [vChange, if_neg (fun h => hz (And.left h))])
    have HE := Lib.hid (show eChange S x i d = eWords S [x] from by simp only [eChange, if_neg hz])
    have hzb : (eWords S [x] == 0) = false := by simpa using hz
    have hzn : (eWords S [x] != 0) = true := by simpa using hz
    clear hz
    go_enter Try.func80, Try.ntmps80
    go_wp2_with fail
    have B0 : Below w.heap.size w ((w.alloc (.cells #[.slice ao S.length cap] 26)).alloc (.cells #[.int .i64 x] 2)) := by go_grown
    have c0 : (((w.alloc (.cells #[.slice ao S.length cap] 26)).alloc (.cells #[.int .i64 x] 2))).cell? ⟨w.heap.size, 0, none⟩ = some (.slice ao S.length cap) := kept_cell ((Below.refl _ (w.alloc (.cells #[.slice ao S.length cap] 26))).alloc (Nat.le_refl _) _) (cell_new _ _ _) (lt_alloc _ _)
    refine (wordsError_n ao S cap hn _ [x] 1 _ rfl (by omega) _ (hS.below B0) (ints_new1 _ x _ (by simp))).mono ?_
    rintro e w1 ⟨rfl, hb⟩
    have c1 := kept_cell hb c0 (by simp; omega)
    have B1 : Below w.heap.size w w1 := B0.trans (hb.mono (by simp; omega))
    have l1 : w.heap.size < w1.heap.size := lt_of_below hb (by simp; omega)
    clear hb c0 B0
    go_wp2_with fail
    go_ret2
    exact ⟨ret2 HV.out.symm HE.out.symm, B1⟩

end Go.Proofs.Ytcbkmmadejbbpaa

namespace Go.Proofs.Ytcbkmmadejbbpaa
open Go.RowKit Cv
set_option linter.unusedVariables false
set_option linter.unusedSimpArgs false
set_option maxRecDepth 100000

theorem enter_has : ∀ args w, (callFunc 85 args).run Try.prog w = .ok (.enter 85 args) w := enters_of Try.func85 (by kernel_rfl) rfl
set_option maxHeartbeats 1000000 in
theorem deleteFunc_some (n g cap : Nat) (L : List Int) (f : Nat) (eg : ∀ args w, (callFunc f args).run Try.prog w = .ok (.enter f args) w) (pre post : Array Value) (p : Int → Bool) (w : World) (hl : L.length ≤ 4294967296)
    (hrow : OwnInts w n (.slice (some ⟨g, 0, none⟩) L.length cap) L) (hp : PredN f pre post p n w L) :
    Calls Try.prog 82 #[.slice (some ⟨g, 0, none⟩) L.length cap, .func (.func f) pre post] w fun e w' => ∃ m, e = .returned (.slice (some ⟨g, 0, none⟩) m cap) ∧ OwnInts w' n (.slice (some ⟨g, 0, none⟩) m cap) (L.filter fun x => !p x) ∧ w.grownBy w' (some g) := by
  obtain ⟨hb1, hb2⟩ := hrow.base_le
  obtain ⟨hcap, hcm⟩ := own_cap hrow
  unfold maxLen at hcm
  have HP := Lib.hid hp
  have hIF := indexFunc_any n g cap L f eg pre post p w hl hrow hp
  clear hp
  go_enter Try.func82, Try.ntmps82
  go_wp2_with fail
  refine hIF.mono ?_
  rintro e w1 ⟨r, rfl, hb, HR⟩
  have own := hrow.below hb
  have B : w.grownBy w1 (some g) := grown_of_below hb _
  rcases HR.out with ⟨hr, hall⟩ | ⟨k0, hk0, hr, ht, hall⟩
  · subst hr
    have HE : Hid ((L.filter fun x => !p x) = L) := Lib.hid (List.filter_eq_self.2 fun x hx => by obtain ⟨j, hj, e⟩ := mem_gi hx; rw [← e, hall j hj]; rfl)
    clear hall
    go_wp2_with fail
    go_ret
    exact ⟨_, rfl, by rw [HE.out]; exact own, B⟩
  · subst hr
    have HS : Hid (DelI (fun x => !p x) L L k0 (k0 + 1)) := Lib.hid (delI_start hk0 (fun j hj => by rw [hall j hj]; rfl) (by rw [ht]; rfl))
    have hne : ((k0 : Int) == -1) = false := beq_eq_false_iff_ne.2 (by omega)
    clear hall ht
    go_wp2_with fail
    go_loopw [5, 6] (fun vi vj wr => ∃ (i j : Nat) (R : List Int), vi = .int .i64 i ∧ vj = .int .i64 j ∧ j ≤ L.length ∧ Hid (DelI (fun x => !p x) L R i j) ∧ OwnInts wr n (.slice (some ⟨g, 0, none⟩) L.length cap) R ∧ w.grownBy wr (some g)) (fun _ vj _ => L.length - (intOf vj).toNat)
    case atStart => exact ⟨k0, k0 + 1, L, rfl, by go_num, by omega, HS, own, B⟩
    case round =>
      clear own B
      obtain ⟨i, j, R, rfl, rfl, hj, HI, own, B⟩ := hrel
      have hij := HI.out.2.1
      have hRl := HI.out.1
      by_cases hlt : j < L.length
      · have hcj := own.cell (k := j) (by omega)
        have hci := own.cell (k := i) (by omega)
        have hfi := own.free i
        rw [HI.out.2.2.2.2 j (Nat.le_refl _)] at hcj
        have hcall := HP.out wr (gi L j) (below_of_grown B hb1 (by omega)) (gi_mem hlt)
        obtain ⟨x, hx⟩ : ∃ x, x = gi L j := ⟨_, rfl⟩
        rw [← hx] at hcj hcall
        have HX := Lib.hid hx
        have hs : w.heap.size ≤ wr.heap.size := B.size
        cases hq : p x with
        | true =>
          rw [hq] at hcall
          have HK : Hid (DelI (fun x => !p x) L R i (j + 1)) := Lib.hid (delI_skip HI.out hlt (by rw [← hx, hq]; rfl))
          clear hq hx
          go_wp2_with fail
          refine hcall.mono ?_
          rintro e w2 ⟨rfl, hb2'⟩
          go_wp2_with fail
          go_roundw
          case rel => exact ⟨i, j + 1, R, rfl, by go_num, by omega, HK, own.below hb2', grown_trans B (grown_of_below hb2' _)⟩
          case measure => simp [intOf]; omega
        | false =>
          rw [hq] at hcall
          have HK : Hid (DelI (fun x => !p x) L (R.set i x) (i + 1) (j + 1)) := Lib.hid (by rw [hx]; exact delI_keep HI.out hlt (by rw [← hx, hq]; rfl))
          clear hq hx
          go_wp2_with fail
          refine hcall.mono ?_
          rintro e w2 ⟨rfl, hb2'⟩
          have own2 := own.below hb2'
          have hci2 := own2.cell (k := i) (by omega)
          have hfi2 := own2.free i
          clear hci hfi hcj
          go_wp2_with fail
          go_roundw
          case rel => exact ⟨i + 1, j + 1, R.set i x, by go_num, by go_num, by omega, HK, own2.stored i x, grown_setCell (grown_trans B (grown_of_below hb2' _)) _ _⟩
          case measure => simp [intOf]; omega
      · obtain rfl : j = L.length := by omega
        obtain ⟨e1, e2, e3⟩ := delI_end HI.out
        have hce : ¬ cap = i := by omega
        have hcl : ∀ ty, (Builtin.clear_ #[22] ty #[.slice (some ⟨g, i, none⟩) (L.length - i) (cap - i)]).run Try.prog wr = .ok (.tuple #[]) (wr.setCells g i (List.replicate (L.length - i) (.int .i64 0))) :=
          fun ty => Lib.run_clear_slice wr _ _ ty _ Try.underlying22 (zero_of_info (n := 1) (v := .int .i64 0) (by kernel_rfl)).1 rfl rfl g i _ _ (by omega) (fun t ht => by rw [own.cell (k := i + t) (by omega)]; rfl) (fun t ht => own.free (i + t))
        obtain ⟨T', t1, t2, t3⟩ := own_zeros g (L.length - i) i wr n L.length cap R own
        have HB := grown_zeros g (L.length - i) i w wr B
        have HT : Hid (T'.take i = L.filter fun x => !p x) := Lib.hid (by rw [t3, e1])
        have t4 := own_take t1 i (by omega)
        clear own B e1 e2 t3 hrow hIF
        go_wp2_with fail
        go_ret
        exact ⟨_, rfl, by rw [← HT.out]; exact t4, HB⟩

set_option maxHeartbeats 2000000 in
theorem impl_SwitchBundle (ao : Option Addr) (S : List Int) (cap : Nat) (hn : S.length ≤ 4294967296) (ac : Option Addr) (C : List Int) (capc : Nat) (hnc : C.length ≤ 4294967296) (x : Int) (hx : -9223372036854775808 ≤ x ∧ x ≤ 9223372036854775807) (i : Int) (hi : -9223372036854775808 ≤ i ∧ i ≤ 9223372036854775807) (w : World) (hS : Ints w ao S) (hC : Ints w ac C) :
    Calls Try.prog 34 #[.agg #[.slice ao S.length cap], .slice ac C.length capc, .int .i64 x, .int .i64 i] w fun e w' => ∃ v, e = .returned (.tuple #[v, .int .i64 (eBun S C x i)]) ∧ OwnInts w' w.heap.size v (vSwi S C x i) ∧ Below w.heap.size w w' := by
  have B0 : Below w.heap.size w (w.alloc (.cells #[.slice ao S.length cap] 26)) := by go_grown
  have c0 := cell_new w (.slice ao S.length cap) 26
  have l0 := lt_alloc w (.cells #[.slice ao S.length cap] 26)
  have hg := impl_BundleOf ao S cap hn ac C capc hnc x hx i hi _ (hS.below B0) (hC.below B0)
  by_cases he : eBun S C x i = 0
  · have hen : (eBun S C x i != 0) = false := by simp [he]
    obtain ⟨ha, h2t, _, hm⟩ := eBun_zero he
    obtain ⟨hz, hxw, i0, i1⟩ := eBuA_zero ha
    have h2 : ∀ k, k < S.length → gi S k = 2 := by unfold allTwo at h2t; rwa [decide_eq_true_eq] at h2t
    obtain ⟨t, ht⟩ : ∃ t : Nat, i = (t : Int) := ⟨i.toNat, by omega⟩
    have hts : t < S.length := by omega
    obtain ⟨hSp, hc1, hc2⟩ := eCode_zero hz
    have hN := nW_bd hSp
    have hs8 := hSp.hi
    have hcl := code_len0 hz
    have hB := bun_sub (S := S) t hm
    have hBl := hB.len
    have hB1 : 1 ≤ (bunL S C t x).length := to_len t x _
    have hVb : vBun S C x i = sorted (bunL S C t x) := by unfold vBun; rw [if_pos he, ht]; rfl
    have hVs : vSwi S C x i = swiL S C (bunL S C t x) t := by unfold vSwi; rw [if_pos he, ht]; rfl
    have hCb : ∀ y, y ∈ C → 0 ≤ y ∧ y < nW S := fun y hy => by obtain ⟨u, hu, rfl⟩ := mem_gi hy; exact hc1 u hu
    obtain ⟨e1, e2, e5, ev⟩ := swi_tog hz h2 hts hB (fun y => inL (sorted (bunL S C t x)) y.toNat) (fun y hy => by
      have hb := hCb y hy
      unfold inL
      rw [show ((y.toNat : Nat) : Int) = y by omega]
      congr 1
      exact propext (Cv.mem_sorted _ _))
    have hst := stp_bd h2 hSp hts
    have hvc : vChange S 0 i 1 = stpW S t ∧ eChange S 0 i 1 = 0 := by
      have h0 : eWords S [0] = 0 := eWords_0 hSp
      have hch : chgB S i 1 = true := (chgB_iff S i 1).2 ⟨⟨i0, i1⟩, by omega, by rw [h2 i.toNat (by omega)]; omega⟩
      refine ⟨?_, ?_⟩
      · unfold vChange; rw [if_pos ⟨h0, hch⟩, ht]; rfl
      · unfold eChange; rw [if_pos h0, if_pos hch]
    have hbB : ∀ k, k < (sorted (bunL S C t x)).length → 0 ≤ gi (sorted (bunL S C t x)) k ∧ gi (sorted (bunL S C t x)) k < 1024 := fun k hk => by
      have := hCb _ (hB.sub _ ((Cv.mem_sorted _ _).1 (gi_mem hk))); omega
    have hsl : (sorted (bunL S C t x)).length = (bunL S C t x).length := sorted_len _
    have hpos := List.length_pos_of_mem hm
    obtain ⟨bc, oc, rfl, hbc, _⟩ := hC.at hpos
    have hcd := fun W h => impl_ChangeDigit ao S cap hn 0 ⟨by omega, by omega⟩ i hi 1 ⟨by omega, by omega⟩ W h
    rw [hvc.1, hvc.2] at hcd
    rw [he, hVb] at hg
    rw [he, hVs]
    obtain ⟨BL, hBL⟩ : ∃ BL, BL = sorted (bunL S C t x) := ⟨_, rfl⟩
    obtain ⟨V, hV⟩ : ∃ V, V = swiL S C (bunL S C t x) t := ⟨_, rfl⟩
    rw [← hBL] at hg e1 e2 e5 ev hbB hsl
    rw [← hV] at ev ⊢
    obtain ⟨st, hstE⟩ : ∃ st, st = stpW S t := ⟨_, rfl⟩
    rw [← hstE] at e2 e5 ev hst hcd
    have hshf := fun (g c : Nat) W h1 h3 => impl_ShiftCode ao S cap hn ⟨g, 0, none⟩ BL c (by omega) st ⟨by omega, by omega⟩ W h1 h3
    rw [e2] at hshf
    have HCD := Lib.hid hcd
    have HSH := Lib.hid hshf
    have HG := Lib.hid hg
    have HBB := Lib.hid hbB
    have HEV := Lib.hid ev
    have HE5 := Lib.hid e5
    have HCB : Hid (∀ y, y ∈ C → 0 ≤ y ∧ y < 1024) := Lib.hid fun y hy => by have := hCb y hy; omega
    have hBL1 : BL ≠ [] := fun h => by rw [h] at hsl; simp at hsl; omega
    have hBLl : BL.length ≤ 1024 := by omega
    have hVl := vShift_len S BL st
    clear ht he ha h2t hm hz hxw h2 hSp hc1 hc2 hN hB hBl hB1 hVb hVs hCb e1 e2 e5 ev hvc hbB hsl hpos hcd hg hBL hV hstE hshf hst hen
    go_enter Try.func34, Try.ntmps34
    go_wp2_with fail
    refine HG.out.mono ?_
    rintro e w1 ⟨v1, rfl, own1, hb⟩
    obtain ⟨gb, cb, hv1, _⟩ := own_some own1 hBL1
    subst hv1
    have c1 := kept_cell hb c0 l0
    have l1 := lt_of_below hb l0
    have B1 : Below w.heap.size w w1 := B0.trans (hb.mono B0.size)
    clear hb B0 c0 l0
    go_wp2_with fail
    refine (HCD.out _ (hS.below B1)).mono ?_
    rintro e w2 ⟨rfl, hb⟩
    have c2 := kept_cell hb c1 l1
    have l2 := lt_of_below hb l1
    have own2 := own1.below hb
    have B2 : Below w.heap.size w w2 := B1.trans (hb.mono B1.size)
    clear hb B1 c1 l1 own1
    go_wp2_with fail
    refine (HSH.out gb cb _ (hS.below B2) (own_ints own2)).mono ?_
    rintro e w3 ⟨v3, rfl, own3, hb⟩
    obtain ⟨a3, k3, hv3⟩ := own3.shape
    subst hv3
    have la3 := World.ownsRow.lt own3
    have c3 := kept_cell hb c2 l2
    have l3 := lt_of_below hb l2
    have ob3 := own2.below hb
    have B3 : Below w.heap.size w w3 := B2.trans (hb.mono B2.size)
    clear hb B2 c2 l2 own2
    go_wp2_with fail
    refine (clone_any 0 C capc w3.heap.size _ (by omega) (Nat.le_refl _) ⟨bc, oc, none⟩ (hC.below B3)).mono ?_
    rintro e w4 ⟨g4, c4', rfl, own4, hb⟩
    have c4 := kept_cell hb c3 l3
    have l4 := lt_of_below hb l3
    have ob4 := ob3.below hb
    have os4 := own3.below hb
    have B4 : Below w.heap.size w w4 := B3.trans (hb.mono B3.size)
    have s4 := hb.size
    clear hb c3 ob3 own3
    go_wp2_with fail
    refine (setOf_any (some ⟨gb, 0, none⟩) BL cb (by omega) HBB.out _ (own_ints ob4)).mono ?_
    rintro e w5 ⟨rfl, hb⟩
    have c5 := kept_cell hb c4 l4
    have l5 := lt_of_below hb l4
    have os5 := os4.below hb
    have own5 := own4.below hb
    have B5 : Below w.heap.size w w5 := B4.trans (hb.mono B4.size)
    have s5 := hb.size
    have lg4 := own4.base_le
    clear hb c4 ob4 os4 own4
    go_wp2_with fail
    refine (deleteFunc_some w3.heap.size g4 c4' C 85 enter_has #[.agg (setA (inL BL))] #[] (fun y => inL BL y.toNat) w5 (by omega) own5 ?_).mono ?_
    · intro W y hW hy
      have hy2 := HCB.out y hy
      obtain ⟨u, rfl⟩ : ∃ u : Nat, y = (u : Int) := ⟨y.toNat, by omega⟩
      exact has_any (inL BL) u (by omega) W
    rintro e w6 ⟨m6, rfl, own6, hg6⟩
    have c6 := hg6.cell (a := ⟨w.heap.size, 0, none⟩) c5 (fun e => by have := Option.some.inj e; simp at this; omega)
    have os6 : OwnInts w6 w2.heap.size (.slice a3 (vShift S BL st).length k3) (vShift S BL st) := World.ownsRow.kept os5 hg6 (.inr fun e => by have := la3 g4 e; omega)
    have B6 : Below w.heap.size w w6 := B5.grown hg6 B5.size (by intro z hz; cases hz; omega)
    obtain ⟨a6, k6, hv6⟩ := own6.shape
    rw [Value.slice.injEq] at hv6
    have hm6 := hv6.2.1
    clear hv6
    have hKl : (C.filter fun y => !inL BL y.toNat).length ≤ C.length := List.length_filter_le _ _
    obtain ⟨KL, hKL⟩ : ∃ KL, KL = C.filter fun y => !inL BL y.toNat := ⟨_, rfl⟩
    rw [← hKL] at own6 hm6 hKl HEV HE5
    subst hm6
    have hct := impl_CodesTogether ao S cap hn ⟨g4, 0, none⟩ KL c4' (by omega) a3 (vShift S BL st) k3 (by omega) w6 (hS.below B6) (own_ints own6) (own_ints os6)
    rw [HE5.out, HEV.out] at hct
    have HCT := Lib.hid hct
    clear hKL hct own6 os6 os5 c5
    go_wp2_with fail
    refine HCT.out.mono ?_
    rintro e w7 ⟨v7, rfl, own7, hb7⟩
    go_wp2_with fail
    go_ret2
    exact ⟨_, rfl, own7.rebase B6.size, B6.trans (hb7.mono B6.size)⟩
  · have hen : (eBun S C x i != 0) = true := by simpa using he
    have HV : Hid (vSwi S C x i = []) := Lib.hid (by unfold vSwi; rw [if_neg he])
    have HG := Lib.hid hg
    clear he hg
    go_enter Try.func34, Try.ntmps34
    go_wp2_with fail
    refine HG.out.mono ?_
    rintro e w1 ⟨v, rfl, own, hb⟩
    go_wp2_with fail
    go_ret2
    exact ⟨_, rfl, by rw [HV.out]; exact own_nil _ _, B0.trans (hb.mono B0.size)⟩

end Go.Proofs.Ytcbkmmadejbbpaa
