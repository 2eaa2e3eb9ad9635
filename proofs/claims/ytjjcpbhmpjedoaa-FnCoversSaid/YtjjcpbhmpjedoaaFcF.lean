/-
  Merged texts: Clone, Del, Far2, Far5, Tog, Tog2, UncI. Never import this beside one of them. By an AI agent.
-/
import Derived.Test.YtjjcpbhmpjedoaaPut
import Derived.Test.YtjjcpbhmpjedoaaAppend
import Derived.Test.YtjjcpbhmpjedoaaMath
import Derived.Lib.SliceRun
import Derived.Deep.WholeRow
import Derived.Test.YtjjcpbhmpjedoaaFar
import Derived.Deep.RegionHeld3
import Derived.Test.YtjjcpbhmpjedoaaFcC
import Derived.Test.YtjjcpbhmpjedoaaFcB
import Derived.Test.YtjjcpbhmpjedoaaErr
import Derived.Shelf.GgClosure.Gives
import Derived.Test.YtjjcpbhmpjedoaaFcE
namespace Go.Proofs.Ytjjcpbhmpjedoaa
open Go.RowKit Cv
set_option linter.unusedVariables false
set_option linter.unusedSimpArgs false
set_option maxRecDepth 100000

theorem own_made_some {w : World} {base m : Nat} {v v' : Value} {L : List Int} (h : OwnInts w base v' L) (hnil : v' = .slice none 0 0 ↔ v = .slice none 0 0 ∧ m = 0) (hv : v ≠ .slice none 0 0) : ∃ g c, v' = .slice (some ⟨g, 0, none⟩) L.length c := by
  rcases h.2 with ⟨h1, _⟩ | ⟨g, c, cur, h1, _⟩
  · exact absurd (hnil.1 h1).1 hv
  · exact ⟨g, c, h1⟩
end Go.Proofs.Ytjjcpbhmpjedoaa

namespace Go.Proofs.Ytjjcpbhmpjedoaa
open Go.RowKit Cv
set_option linter.unusedVariables false
set_option linter.unusedSimpArgs false
set_option maxRecDepth 100000

/-- a function value that answers p at the numbers of L, in every world in which what lay below n lies still -/
def PredN (f : Nat) (pre post : Array Value) (p : Int → Bool) (n : Nat) (w : World) (L : List Int) : Prop :=
  ∀ (W : World) (x : Int), Below n w W → x ∈ L → Calls Try.prog f (pre.push (.int .i64 x) ++ post) W fun e w' => e = .returned (.bool (p x)) ∧ Below W.heap.size W w'

theorem indexFunc_any (n g cap : Nat) (L : List Int) (f : Nat) (eg : ∀ args w, (callFunc f args).run Try.prog w = .ok (.enter f args) w) (pre post : Array Value) (p : Int → Bool) (w : World) (hl : L.length ≤ 4294967296)
    (hrow : OwnInts w n (.slice (some ⟨g, 0, none⟩) L.length cap) L) (hp : PredN f pre post p n w L) :
    Calls Try.prog 111 #[.slice (some ⟨g, 0, none⟩) L.length cap, .func (.func f) pre post] w fun e w' => ∃ r : Int, e = .returned (.int .i64 r) ∧ Below w.heap.size w w' ∧
      Hid ((r = -1 ∧ ∀ j, j < L.length → p (gi L j) = false) ∨ ∃ k : Nat, k < L.length ∧ r = k ∧ p (gi L k) = true ∧ ∀ j, j < k → p (gi L j) = false) := by
  obtain ⟨hb1, hb2⟩ := hrow.base_le
  have hcell : ∀ j, j < L.length → w.cell? ⟨g, j, none⟩ = some (.int .i64 (gi L j)) := fun j hj => hrow.cell hj
  have HP := Lib.hid hp
  clear hp
  go_enter Try.func111, Try.ntmps111
  go_wp2_with fail
  go_loopw [8] (fun i wr => ∃ k : Nat, k ≤ L.length ∧ i = .int .i64 k ∧ Below w.heap.size w wr ∧ Hid (∀ j, j < k → p (gi L j) = false)) (fun i _ => L.length - (intOf i).toNat)
  case atStart => exact ⟨0, Nat.zero_le _, rfl, Below.refl _ _, Lib.hid fun j hj => by omega⟩
  case round =>
    obtain ⟨k, hk, rfl, B, HA⟩ := hrel
    by_cases hlt : k < L.length
    · have hc := kept_cell B (hcell k hlt) hb2
      have hcall := HP.out wr (gi L k) (B.mono (by omega)) (gi_mem hlt)
      have hs := B.size
      cases hq : p (gi L k) with
      | true =>
        rw [hq] at hcall
        have HQ := Lib.hid hq
        clear hq
        go_wp2_with fail
        refine hcall.mono ?_
        rintro e w2 ⟨rfl, hb⟩
        go_wp2_with fail
        go_ret
        exact ⟨k, rfl, B.trans (hb.mono hs), Lib.hid (.inr ⟨k, hlt, rfl, HQ.out, HA.out⟩)⟩
      | false =>
        rw [hq] at hcall
        have HQ := Lib.hid hq
        clear hq
        go_wp2_with fail
        refine hcall.mono ?_
        rintro e w2 ⟨rfl, hb⟩
        go_wp2_with fail
        go_roundw
        case rel =>
          refine ⟨k + 1, by omega, by go_num, B.trans (hb.mono hs), Lib.hid fun j hj => ?_⟩
          by_cases e : j = k
          · subst e; exact HQ.out
          · exact HA.out j (by omega)
        case measure => simp [intOf]; omega
    · have ek : Hid (k = L.length) := Lib.hid (by omega)
      go_wp2_with fail
      go_ret
      exact ⟨-1, rfl, B, Lib.hid (.inl ⟨rfl, by rw [← ek.out]; exact HA.out⟩)⟩

/-- what DeleteFunc has done with the first j numbers: i of them are kept -/
def DelI (q : Int → Bool) (L R : List Int) (i j : Nat) : Prop :=
  R.length = L.length ∧ i < j ∧ R.take i = (L.take j).filter q ∧ ((L.take j).filter q).length = i ∧ ∀ t, j ≤ t → gi R t = gi L t
theorem delI_start {q : Int → Bool} {L : List Int} {k : Nat} (hk : k < L.length) (ht : ∀ j, j < k → q (gi L j) = true) (hf : q (gi L k) = false) : DelI q L L k (k + 1) := by
  have e : (L.take (k + 1)).filter q = L.take k := by
    rw [take_snoc L k hk, List.filter_append]
    have e1 : (L.take k).filter q = L.take k := List.filter_eq_self.2 fun x hx => by
      obtain ⟨j, hj, e⟩ := mem_gi hx
      rw [List.length_take] at hj
      rw [gi_take L k j (by omega)] at e
      rw [← e]; exact ht j (by omega)
    rw [e1]; simp [hf]
  exact ⟨rfl, by omega, e.symm, by rw [e, List.length_take]; omega, fun _ _ => rfl⟩
theorem delI_skip {q : Int → Bool} {L R : List Int} {i j : Nat} (h : DelI q L R i j) (hj : j < L.length) (hf : q (gi L j) = false) : DelI q L R i (j + 1) := by
  obtain ⟨h1, h2, h3, h4, h5⟩ := h
  have e : (L.take (j + 1)).filter q = (L.take j).filter q := by rw [take_snoc L j hj, List.filter_append]; simp [hf]
  exact ⟨h1, by omega, by rw [e]; exact h3, by rw [e]; exact h4, fun t ht => h5 t (by omega)⟩
theorem delI_keep {q : Int → Bool} {L R : List Int} {i j : Nat} (h : DelI q L R i j) (hj : j < L.length) (hf : q (gi L j) = true) : DelI q L (R.set i (gi L j)) (i + 1) (j + 1) := by
  obtain ⟨h1, h2, h3, h4, h5⟩ := h
  have e : (L.take (j + 1)).filter q = (L.take j).filter q ++ [gi L j] := by rw [take_snoc L j hj, List.filter_append]; simp [hf]
  refine ⟨by rw [List.length_set]; exact h1, by omega, ?_, by rw [e, List.length_append, h4]; rfl, fun t ht => ?_⟩
  · rw [e, ← h3, take_snoc _ i (by rw [List.length_set]; omega), gi_set R i _ i (by omega), if_pos rfl]
    congr 1
    refine ext_gi (by simp) fun t ht => ?_
    rw [List.length_take, List.length_set] at ht
    rw [gi_take _ i t (by omega), gi_take _ i t (by omega), gi_set R i _ t (by omega), if_neg (by omega)]
  · rw [gi_set R i _ t (by omega), if_neg (by omega)]; exact h5 t (by omega)
theorem delI_end {q : Int → Bool} {L R : List Int} {i : Nat} (h : DelI q L R i L.length) : R.take i = L.filter q ∧ (L.filter q).length = i ∧ i < L.length := by
  obtain ⟨h1, h2, h3, h4, h5⟩ := h
  rw [List.take_length] at h3 h4
  exact ⟨h3, h4, h2⟩

theorem own_take {w : World} {base g n cap : Nat} {T : List Int} (h : OwnInts w base (.slice (some ⟨g, 0, none⟩) n cap) T) (k : Nat) (hk : k ≤ T.length) : OwnInts w base (.slice (some ⟨g, 0, none⟩) k cap) (T.take k) := by
  rcases h.2 with ⟨hv, _⟩ | ⟨g', c', cur, hv, hb, hh, hle, hm, hs, ht⟩
  · simp at hv
  · simp only [Value.slice.injEq, Option.some.injEq, Addr.mk.injEq, and_true, true_and] at hv
    obtain ⟨rfl, rfl, rfl⟩ := hv
    have e : (T.take k).length = k := by rw [List.length_take]; omega
    refine ⟨by simp, .inr ⟨g, cap, cur, by rw [e], hb, hh, by omega, hm, hs, ?_⟩⟩
    rw [e, List.map_take, ← ht, List.take_take]
    congr 1; omega
theorem own_zeros (g : Nat) (m : Nat) : ∀ (o : Nat) (w : World) (base n cap : Nat) (T : List Int), OwnInts w base (.slice (some ⟨g, 0, none⟩) n cap) T →
    ∃ T' : List Int, OwnInts (w.setCells g o (List.replicate m (.int .i64 0))) base (.slice (some ⟨g, 0, none⟩) n cap) T' ∧ T'.length = T.length ∧ T'.take o = T.take o := by
  induction m with
  | zero => intro o w base n cap T h; exact ⟨T, h, rfl, rfl⟩
  | succ m ih =>
    intro o w base n cap T h
    obtain ⟨T', h1, h2, h3⟩ := ih (o + 1) _ base n cap _ (h.stored o 0)
    refine ⟨T', h1, by rw [h2, List.length_set], ?_⟩
    have e := congrArg (List.take o) h3
    rw [List.take_take, List.take_take, Nat.min_eq_left (by omega)] at e
    rw [e, List.take_set_of_le (Nat.le_refl _)]
theorem below_zeros (g : Nat) (m : Nat) : ∀ (o n : Nat) (w0 w : World), Below n w0 w → n ≤ g → Below n w0 (w.setCells g o (List.replicate m (.int .i64 0))) := by
  induction m with
  | zero => intro o n w0 w h _; exact h
  | succ m ih => intro o n w0 w h hg; exact ih (o + 1) n w0 _ (h.setCell (by simpa using hg) _) hg

theorem below_of_grown {w w' : World} {g n : Nat} (hg : w.grownBy w' (some g)) (h1 : n ≤ g) (h2 : n ≤ w.heap.size) : Below n w w' := (Below.refl n w).grown hg h2 fun j hj => by cases hj; exact h1
theorem grown_zeros (g : Nat) (m : Nat) : ∀ (o : Nat) (w0 w : World), w0.grownBy w (some g) → w0.grownBy (w.setCells g o (List.replicate m (.int .i64 0))) (some g) := by
  induction m with
  | zero => intro o w0 w h; exact h
  | succ m ih => intro o w0 w h; exact ih (o + 1) w0 _ (grown_setCell h _ _)

set_option maxHeartbeats 1000000 in
theorem deleteFunc_any (n g cap : Nat) (L : List Int) (f : Nat) (eg : ∀ args w, (callFunc f args).run Try.prog w = .ok (.enter f args) w) (pre post : Array Value) (p : Int → Bool) (w : World) (hl : L.length ≤ 4294967296)
    (hrow : OwnInts w n (.slice (some ⟨g, 0, none⟩) L.length cap) L) (hp : PredN f pre post p n w L) :
    Calls Try.prog 83 #[.slice (some ⟨g, 0, none⟩) L.length cap, .func (.func f) pre post] w fun e w' => ∃ v, e = .returned v ∧ OwnInts w' n v (L.filter fun x => !p x) ∧ w.grownBy w' (some g) := by
  obtain ⟨hb1, hb2⟩ := hrow.base_le
  obtain ⟨hcap, hcm⟩ := own_cap hrow
  unfold maxLen at hcm
  have HP := Lib.hid hp
  have hIF := indexFunc_any n g cap L f eg pre post p w hl hrow hp
  clear hp
  go_enter Try.func83, Try.ntmps83
  go_wp2_with fail
  refine hIF.mono ?_
  rintro e w1 ⟨r, rfl, hb, HR⟩
  have own := hrow.below hb
  have B : w.grownBy w1 (some g) := grown_of_below hb _
  rcases HR.out with ⟨hr, hall⟩ | ⟨k0, hk0, hr, ht, hall⟩
  · subst hr
    have HE : Hid ((L.filter fun x => !p x) = L) := Lib.hid (List.filter_eq_self.2 fun x hx => by obtain ⟨j, hj, e⟩ := mem_gi hx; rw [← e, hall j hj]; rfl)
    clear hall
    go_wp2_with fail
    go_ret
    exact ⟨_, rfl, by rw [HE.out]; exact own, B⟩
  · subst hr
    have HS : Hid (DelI (fun x => !p x) L L k0 (k0 + 1)) := Lib.hid (delI_start hk0 (fun j hj => by rw [hall j hj]; rfl) (by rw [ht]; rfl))
    have hne : ((k0 : Int) == -1) = false := beq_eq_false_iff_ne.2 (by omega)
    clear hall ht
    go_wp2_with fail
    go_loopw [5, 6] (fun vi vj wr => ∃ (i j : Nat) (R : List Int), vi = .int .i64 i ∧ vj = .int .i64 j ∧ j ≤ L.length ∧ Hid (DelI (fun x => !p x) L R i j) ∧ OwnInts wr n (.slice (some ⟨g, 0, none⟩) L.length cap) R ∧ w.grownBy wr (some g)) (fun _ vj _ => L.length - (intOf vj).toNat)
    case atStart => exact ⟨k0, k0 + 1, L, rfl, by go_num, by omega, HS, own, B⟩
    case round =>
      clear own B
      obtain ⟨i, j, R, rfl, rfl, hj, HI, own, B⟩ := hrel
      have hij := HI.out.2.1
      have hRl := HI.out.1
      by_cases hlt : j < L.length
      · have hcj := own.cell (k := j) (by omega)
        have hci := own.cell (k := i) (by omega)
        have hfi := own.free i
        rw [HI.out.2.2.2.2 j (Nat.le_refl _)] at hcj
        have hcall := HP.out wr (gi L j) (below_of_grown B hb1 (by omega)) (gi_mem hlt)
        obtain ⟨x, hx⟩ : ∃ x, x = gi L j := ⟨_, rfl⟩
        rw [← hx] at hcj hcall
        have HX := Lib.hid hx
        have hs : w.heap.size ≤ wr.heap.size := B.size
        cases hq : p x with
        | true =>
          rw [hq] at hcall
          have HK : Hid (DelI (fun x => !p x) L R i (j + 1)) := Lib.hid (delI_skip HI.out hlt (by rw [← hx, hq]; rfl))
          clear hq hx
          go_wp2_with fail
          refine hcall.mono ?_
          rintro e w2 ⟨rfl, hb2'⟩
          go_wp2_with fail
          go_roundw
          case rel => exact ⟨i, j + 1, R, rfl, by go_num, by omega, HK, own.below hb2', grown_trans B (grown_of_below hb2' _)⟩
          case measure => simp [intOf]; omega
        | false =>
          rw [hq] at hcall
          have HK : Hid (DelI (fun x => !p x) L (R.set i x) (i + 1) (j + 1)) := Lib.hid (by rw [hx]; exact delI_keep HI.out hlt (by rw [← hx, hq]; rfl))
          clear hq hx
          go_wp2_with fail
          refine hcall.mono ?_
          rintro e w2 ⟨rfl, hb2'⟩
          have own2 := own.below hb2'
          have hci2 := own2.cell (k := i) (by omega)
          have hfi2 := own2.free i
          clear hci hfi hcj
          go_wp2_with fail
          go_roundw
          case rel => exact ⟨i + 1, j + 1, R.set i x, by go_num, by go_num, by omega, HK, own2.stored i x, grown_setCell (grown_trans B (grown_of_below hb2' _)) _ _⟩
          case measure => simp [intOf]; omega
      · obtain rfl : j = L.length := by omega
        obtain ⟨e1, e2, e3⟩ := delI_end HI.out
        have hce : ¬ cap = i := by omega
        have hcl : ∀ ty, (Builtin.clear_ #[24] ty #[.slice (some ⟨g, i, none⟩) (L.length - i) (cap - i)]).run Try.prog wr = .ok (.tuple #[]) (wr.setCells g i (List.replicate (L.length - i) (.int .i64 0))) :=
          fun ty => Lib.run_clear_slice wr _ _ ty _ Try.underlying24 (zero_of_info (n := 1) (v := .int .i64 0) (by kernel_rfl)).1 rfl rfl g i _ _ (by omega) (fun t ht => by rw [own.cell (k := i + t) (by omega)]; rfl) (fun t ht => own.free (i + t))
        obtain ⟨T', t1, t2, t3⟩ := own_zeros g (L.length - i) i wr n L.length cap R own
        have HB := grown_zeros g (L.length - i) i w wr B
        have HT : Hid (T'.take i = L.filter fun x => !p x) := Lib.hid (by rw [t3, e1])
        have t4 := own_take t1 i (by omega)
        clear own B e1 e2 t3 hrow hIF
        go_wp2_with fail
        go_ret
        exact ⟨_, rfl, by rw [← HT.out]; exact t4, HB⟩

end Go.Proofs.Ytjjcpbhmpjedoaa

namespace Go.Proofs.Ytjjcpbhmpjedoaa
open Go.RowKit Cv
set_option linter.unusedVariables false
set_option linter.unusedSimpArgs false
set_option maxRecDepth 100000

end Go.Proofs.Ytjjcpbhmpjedoaa

namespace Go.Proofs.Ytjjcpbhmpjedoaa
open Go.RowKit Cv
set_option linter.unusedVariables false
set_option linter.unusedSimpArgs false
set_option maxRecDepth 100000

set_option maxHeartbeats 1000000 in
theorem farthest_any (ao : Option Addr) (S : List Int) (cap : Nat) (hSp : Sp S) (ac : Option Addr) (C : List Int) (capc : Nat) (h1 : 1 ≤ C.length) (hlen : C.length ≤ 1048576) (hC0 : ∀ i, i < C.length → 0 ≤ gi C i ∧ gi C i ≤ 9223372036854775807) (w : World) (hS : Ints w ao S) (hC : Ints w ac C) :
    Calls Try.prog 89 #[.agg #[.slice ao S.length cap], .slice ac C.length capc] w fun e w' => e = .returned (.tuple #[.int .i64 (farW S C).1, .int .i64 (farW S C).2]) ∧ Below w.heap.size w w' := by
  obtain ⟨N, hN⟩ : ∃ N : Nat, nW S = (N : Int) := ⟨(nW S).toNat, by have := (nW_bd hSp).1; omega⟩
  have N1 : 1 ≤ N := by have := (nW_bd hSp).1; omega
  have N2 : N ≤ 1024 := by have := (nW_bd hSp).2; omega
  have HFN : Hid (farP (toF S C) N = farW S C) := Lib.hid (by have := farP_W S C (nW_bd hSp).1; rwa [show (nW S).toNat = N by omega] at this)
  have HN := Lib.hid hN
  have hlo := hSp.lo
  have hhi := hSp.hi
  have HSp := Lib.hid hSp
  have HC0 := Lib.hid hC0
  have HU : Hid (∀ i, i < (upto N).length → 0 ≤ gi (upto N) i ∧ gi (upto N) i ≤ 9223372036854775807) := Lib.hid fun i h => by rw [upto_len] at h; rw [gi_upto _ _ h]; omega
  have HUl : Hid (N = (upto N).length) := Lib.hid (upto_len N).symm
  have HM : Hid (∀ k : Nat, minTo (gi (dFrom S C (k : Int))) ((dFrom S C (k : Int)).length - 1) = toW S C (k : Int)) := Lib.hid fun k => dFrom_min S C (k : Int) h1
  have HL : Hid (∀ k : Nat, C.length = (dFrom S C (k : Int)).length) := Lib.hid fun k => (dFrom_len _ _ _).symm
  clear hSp hC0 hN
  go_enter Try.func89, Try.ntmps89
  go_wp2_with fail
  have c0 := cell_new w (.slice ao S.length cap) 26
  have l0 := lt_alloc w (.cells #[.slice ao S.length cap] 26)
  have B0 : Below w.heap.size w (w.alloc (.cells #[.slice ao S.length cap] 26)) := by go_grown
  refine (digitParts_any ao S cap hlo hhi HSp.out.bd ac C capc (by omega) HC0.out _ (hS.below B0) (hC.below B0)).mono ?_
  rintro e w1 ⟨P, g, U, rfl, hp, hb1⟩
  have B1 := B0.trans (hb1.mono B0.size)
  have c1 := kept_cell hb1 c0 l0
  have l1 := lt_of_below hb1 l0
  clear hb1 c0 l0 B0
  go_wp2_with fail
  go_region_held3 (fun w' => w'.cell? ⟨w.heap.size, 0, none⟩ = some (.slice ao S.length cap)) (first | exact c1 | exact kept_cell hb2 c1 l1 | exact kept_cell hb3 (kept_cell hb2 c1 l1) (lt_of_below hb2 l1)) (first | (go_at_call 84; refine (allWords_any ao S cap HSp.out N HN _ (hS.below B1.drew)).mono ?_; rintro e w2 ⟨q, rfl, oq, hb2'⟩; have hb2 := (Below.refl _ w1).drew.trans hb2'; have B2 := B1.trans (hb2.mono B1.size)) | (go_at_call 53; refine (digitParts_n ao S cap hlo hhi HSp.out.bd _ (upto N) N _ HUl.out (by omega) HU.out _ (hS.below B2) (own_ints oq)).mono ?_; rintro e w3 ⟨P2, g2, U2, rfl, hp2, hb3⟩))
  have B3 := B2.trans (hb3.mono B2.size)
  replace hp := (hp.below hb2).below hb3
  clear hb2 hb2' hb3 oq B2 B1 c1 l1
  go_wp2_with fail
  go_loopw [6, 7, 20] (fun q t i wr => ∃ k : Nat, k ≤ N ∧ i = .int .i64 k ∧ q = .int .i64 (farP (toF S C) k).1 ∧ t = .int .i64 (farP (toF S C) k).2 ∧ Below w3.heap.size w3 wr) (fun _ _ i _ => N - (intOf i).toNat)
  case atStart => exact ⟨0, Nat.zero_le _, rfl, rfl, rfl, Below.refl _ _⟩
  case round =>
    obtain ⟨k, hk, rfl, rfl, rfl, B⟩ := hrel
    by_cases hlt : k < N
    · have hku : k < (upto N).length := by rw [upto_len]; exact hlt
      have hrk := kept_cell B (hp2.row k hku) hp2.pl
      have hik := hp2.ints hku
      rw [gi_upto _ _ hlt] at hik
      by_cases hf : (farP (toF S C) k).2 < toW S C (k : Int)
      all_goals
        first | (have HP := Lib.hid (farP_yes (toF S C) k hf); skip) | (have HP := Lib.hid (farP_no (toF S C) k hf); skip)
        go_wp2_with fail
        refine (distancesFrom_any S hhi (k : Int) _ _ _ rfl _ P g C U _ rfl hlen _ (hik.below B) (hp.below B)).mono ?_
        rintro e w4 ⟨q, rfl, oq, hb4⟩
        have B4 := B.trans (hb4.mono B.size)
        clear hrk hb4 B
        go_wp2_with fail
        refine (Min_any _ (dFrom S C (k : Int)) C.length _ (HL.out k) (by rw [dFrom_len]; omega) (by rw [dFrom_len]; omega) (toW S C (k : Int)) (Lib.hid (HM.out k)) _ (own_ints oq)).mono ?_
        rintro e w5 ⟨rfl, rfl⟩
        go_wp2
        go_roundw
        case rel => exact ⟨k + 1, by omega, by go_num, by rw [HP.out]; try rfl, by rw [HP.out]; try rfl, B4⟩
        case measure => simp [intOf]; omega
    · have ek : k = N := by omega
      go_wp2
      go_ret2
      exact ⟨by first | (rw [ek, HFN.out]; done) | (rw [ek, HFN.out]; rfl) | (rw [HFN.out]; rfl), B3.trans (B.mono B3.size)⟩

set_option maxHeartbeats 1000000 in
theorem impl_RadiusOf (ao : Option Addr) (S : List Int) (cap : Nat) (hn : S.length ≤ 4294967296) (ac : Option Addr) (C : List Int) (capc : Nat) (hnc : C.length ≤ 4294967296) (w : World) (hS : Ints w ao S) (hC : Ints w ac C) :
    Calls Try.prog 44 #[.agg #[.slice ao S.length cap], .slice ac C.length capc] w fun e w' => e = .returned (.tuple #[.int .i64 (vRadius S C), .int .i64 (eFull S C)]) ∧ Below w.heap.size w w' := by
  have B0 : Below w.heap.size w (w.alloc (.cells #[.slice ao S.length cap] 26)) := by go_grown
  have HQ := Lib.hid (eSome_nil S C)
  by_cases he : eFull S C = 0
  · obtain ⟨hz, hl⟩ := eFull_zero he
    have HV : Hid (vRadius S C = (farW S C).2) := Lib.hid (by unfold vRadius; rw [if_pos he])
    have HE := Lib.hid he
    have hzn : (eSome S C [] != 0) = false := by simp [HQ.out, he]
    obtain ⟨hSp, hc1, hc2⟩ := eCode_zero hz
    obtain ⟨N1, N2⟩ := nW_bd hSp
    have hlen := code_len hSp hc1 hc2
    have HSp := Lib.hid hSp
    have HC1 : Hid (∀ i, i < C.length → 0 ≤ gi C i ∧ gi C i ≤ 9223372036854775807) := Lib.hid fun i h => by have := hc1 i h; omega
    clear hc1 hc2 hSp
    clear hz he
    go_enter Try.func44, Try.ntmps44
    go_wp2_with fail
    refine (someWordsError_n ao S cap hn ac C capc hnc none [] 0 0 rfl (by omega) _ (hS.below B0) (hC.below B0) (.inl rfl)).mono ?_
    rintro e w1 ⟨rfl, hb⟩
    have c1 := kept_cell hb (cell_new w (.slice ao S.length cap) 26) (lt_alloc _ _)
    have B1 : Below w.heap.size w w1 := B0.trans (hb.mono B0.size)
    clear hb B0
    go_wp2_with fail
    refine (farthest_any ao S cap HSp.out ac C capc hl (by omega) HC1.out _ (hS.below B1) (hC.below B1)).mono ?_
    rintro e w2 ⟨rfl, hb2⟩
    go_wp2_with fail
    go_ret2
    exact ⟨by rw [HV.out, HE.out]; try rfl, B1.trans (hb2.mono B1.size)⟩
  · have HV : Hid (vRadius S C = 0) := Lib.hid (by unfold vRadius; rw [if_neg he])
    have hzn : (eSome S C [] != 0) = true := by rw [HQ.out]; simpa using he
    clear he
    go_enter Try.func44, Try.ntmps44
    go_wp2_with fail
    refine (someWordsError_n ao S cap hn ac C capc hnc none [] 0 0 rfl (by omega) _ (hS.below B0) (hC.below B0) (.inl rfl)).mono ?_
    rintro e w1 ⟨rfl, hb⟩
    go_wp2_with fail
    go_ret2
    exact ⟨by rw [HV.out, ← HQ.out]; try rfl, B0.trans (hb.mono B0.size)⟩

end Go.Proofs.Ytjjcpbhmpjedoaa

namespace Go.Proofs.Ytjjcpbhmpjedoaa
open Go.RowKit Cv
set_option linter.unusedVariables false
set_option linter.unusedSimpArgs false
set_option maxRecDepth 100000

/-- the error of a space and codes of it, the first k -/
def eTo (S : List Int) (L : Nat → List Int) : Nat → Int
  | 0 => 0
  | k + 1 => if eTo S L k = 0 then eCode S (L k) else eTo S L k
theorem eTo_stop {S : List Int} {L : Nat → List Int} {k : Nat} (h : eTo S L k ≠ 0) : ∀ m, k ≤ m → eTo S L m = eTo S L k := by
  intro m hm
  induction m with
  | zero => have : k = 0 := by omega
            subst this; rfl
  | succ m ih =>
    by_cases e : k = m + 1
    · subst e; rfl
    · have := ih (by omega)
      rw [eTo, this, if_neg h]

end Go.Proofs.Ytjjcpbhmpjedoaa

namespace Go.Proofs.Ytjjcpbhmpjedoaa
open Go.RowKit Cv
set_option linter.unusedVariables false
set_option linter.unusedSimpArgs false
set_option maxRecDepth 100000

theorem upto_filter (N : Nat) (p : Nat → Bool) : (upto N).filter (fun x => !!p x.toNat) = selL p N := by
  unfold upto selL
  rw [List.filter_map]
  congr 1
  exact List.filter_congr fun i hi => by simp

theorem exec_ld16 {a : Act} {w : World} {b : Nat} {p : Nat → Bool} (hr : RowAt w b p) (o : Oper) (x : Operand) (ho : o.op = .load 75 x) (hx : a.eval x = .pointer (some ⟨b, 0, none⟩)) : (execOp a.eval o).run Try.prog w = .ok (.value (.agg (setA p))) w := by
  unfold execOp
  simp only [ho, hx, Instr.loadAt, Instr.sureAddr, Sem.run_bind, Sem.run_pure, Result.andThen_ok, ldVar hr]
end Go.Proofs.Ytjjcpbhmpjedoaa

namespace Go.Proofs.Ytjjcpbhmpjedoaa
open Go.RowKit Cv
set_option linter.unusedVariables false
set_option linter.unusedSimpArgs false
set_option maxRecDepth 100000

theorem enter_has : ∀ args w, (callFunc 85 args).run Try.prog w = .ok (.enter 85 args) w := enters_of Try.func85 (by kernel_rfl) rfl
theorem unc_filter (S C : List Int) (r : Int) (N : Nat) (hN : nW S = (N : Int)) : (upto N).filter (fun x => !covN S C r x.toNat) = selL (uncP S C r) N := by
  have h := upto_filter N (fun u => !covN S C r u)
  simp only [Bool.not_not] at h
  rw [h]
  unfold selL
  congr 1
  apply List.filter_congr
  intro u hu
  rw [List.mem_range] at hu
  rw [covN_in, uncP_in, hN]
  have : u < (N : Int).toNat := by omega
  by_cases h2 : ∃ c, c ∈ C ∧ dist S (u : Int) c ≤ r
  · simp only [this, true_and, h2, not_true_eq_false, decide_true, decide_false, Bool.not_true]
  · simp only [this, true_and, h2, not_false_eq_true, decide_true, decide_false, Bool.not_false]

set_option maxHeartbeats 2000000 in
theorem impl_UncoveredWords (ao : Option Addr) (S : List Int) (cap : Nat) (hn : S.length ≤ 4294967296) (ac : Option Addr) (C : List Int) (capc : Nat) (hnc : C.length ≤ 4294967296) (r : Int) (hr : -9223372036854775808 ≤ r ∧ r ≤ 9223372036854775807) (w : World) (hS : Ints w ao S) (hC : Ints w ac C) :
    Calls Try.prog 37 #[.agg #[.slice ao S.length cap], .slice ac C.length capc, .int .i64 r] w fun e w' => ∃ v, e = .returned (.tuple #[v, .int .i64 (eCov S C r)]) ∧ OwnInts w' w.heap.size v (vUnc S C r) ∧ Below w.heap.size w w' := by
  have B0 : Below w.heap.size w (w.alloc (.cells #[.slice ao S.length cap] 26)) := by go_grown
  have HQ := Lib.hid (eCov2_nil S C r)
  have cS := cell_new w (.slice ao S.length cap) 26
  have lS := lt_alloc w (.cells #[.slice ao S.length cap] 26)
  by_cases hq : eCov S C r = 0
  · obtain ⟨hz, r1, r2⟩ := eCov_zero hq
    obtain ⟨hSp, hc1, hc2⟩ := eCode_zero hz
    have N1 := nW_bd hSp
    have hlen := code_len hSp hc1 hc2
    have HSp := Lib.hid hSp
    have HC1 : Hid (∀ i, i < C.length → 0 ≤ gi C i ∧ gi C i ≤ 9223372036854775807) := Lib.hid fun i h => by have := hc1 i h; omega
    obtain ⟨N, hN⟩ : ∃ N : Nat, nW S = (N : Int) := ⟨(nW S).toNat, by omega⟩
    have HN := Lib.hid hN
    have hN2 : N ≤ 1024 := by omega
    have HV : Hid (vUnc S C r = selL (uncP S C r) N) := Lib.hid (by unfold vUnc; rw [if_pos hq, hN]; rfl)
    have hqn : (eCov2 S C [] r != 0) = false := by rw [HQ.out]; simp [hq]
    have HQ0 := Lib.hid hq
    clear hc1 hc2 hSp hq hz hN N1
    go_enter Try.func37, Try.ntmps37
    go_wp2_with fail
    refine (coverError_n ao S cap hn ac C capc hnc r none [] 0 0 rfl (by omega) _ (hS.below B0) (hC.below B0) (.inl rfl)).mono ?_
    rintro e w1 ⟨rfl, hb⟩
    replace cS := kept_cell hb cS lS
    replace lS := lt_of_below hb lS
    have B1 : Below w.heap.size w w1 := B0.trans (hb.mono B0.size)
    have hs1 := B1.size
    clear hb B0
    go_wp2_with fail
    refine (coveredWords_any ao S cap HSp.out ac C capc (by omega) HC1.out r r1 r2 _ (hS.below B1) (hC.below B1)).mono ?_
    rintro e w2 ⟨rfl, hb2⟩
    replace cS := kept_cell hb2 cS lS
    replace lS := lt_of_below hb2 lS
    have B2 := B1.trans (hb2.mono hs1)
    have hs2 := B2.size
    have hz0 := rowz_new w2 (n := w2.heap.size) rfl
    obtain ⟨W5, hW5⟩ : ∃ W5, W5 = (w2.alloc (.cells #[.int .u64 0, .int .u64 0, .int .u64 0, .int .u64 0, .int .u64 0, .int .u64 0, .int .u64 0, .int .u64 0, .int .u64 0, .int .u64 0, .int .u64 0, .int .u64 0, .int .u64 0, .int .u64 0, .int .u64 0, .int .u64 0] 75)).setRow w2.heap.size (setA (covN S C r)) := ⟨_, rfl⟩
    have r5 : RowAt W5 w2.heap.size (covN S C r) := by rw [hW5]; exact row_set hz0
    have h45 : Below w2.heap.size w2 W5 := by rw [hW5]; exact ((Below.refl _ w2).alloc (Nat.le_refl _) _).grown (grown_setRow _) (by simp) fun j hj => by cases hj; exact Nat.le_refl _
    replace cS := kept_cell h45 cS lS
    replace lS := lt_of_below h45 lS
    have B5 := B2.trans (h45.mono hs2)
    have hs5 := B5.size
    have HW5 := Lib.hid hW5
    clear hW5
    go_wp2_with (first | (refine wpList_st16 rfl _ _ rfl hz0 (covN S C r) rfl rfl ?_; rw [← HW5.out]))
    refine wp_region_held_drew (S := fun w' => w'.cell? ⟨w.heap.size, 0, none⟩ = some (.slice ao S.length cap) ∧ RowAt w' w2.heap.size (covN S C r)) (by kernel_rfl) ⟨cS, r5⟩ (fun hHeld => ?_)
    refine wpAnyH_take (i := 0) (v := ?_) rfl (by kernel_rfl) (by kernel_rfl) (by kernel_rfl) (fun _ _ _ h => h) (Or.inl ⟨by rfl, ?_⟩) (by assumption) ?_
    rotate_left
    · (intro w hSw; have hSw := hSw.1; (try dsimp only at hSw); go_simp; try (with_reducible rfl))
    (try simp only [Act.put, List.setIfInBounds_toArray, List.set_cons_zero, List.set_cons_succ])
    refine wpAnyH_take (i := 2) (v := .agg (setA (covN S C r))) rfl (by kernel_rfl) (by kernel_rfl) (by kernel_rfl) (fun _ _ _ h => h) (Or.inl ⟨by rfl, ?_⟩) (by assumption) ?_
    · intro w hSw
      exact exec_ld16 hSw.2 _ (.tmp 9) (by kernel_rfl) (by kernel_rfl)
    (try simp only [Act.put, List.setIfInBounds_toArray, List.set_cons_zero, List.set_cons_succ])
    refine wpAnyH_take (i := 3) (v := ?_) rfl (by kernel_rfl) (by kernel_rfl) (by kernel_rfl) (fun _ _ _ h => h) (Or.inl ⟨by rfl, ?_⟩) (by assumption) ?_
    rotate_left
    · (intro w hSw; have hSw := hSw.1; (try dsimp only at hSw); go_simp; try (with_reducible rfl))
    (try simp only [Act.put, List.setIfInBounds_toArray, List.set_cons_zero, List.set_cons_succ])
    refine wpAnyH_ready (rs := [1]) (by kernel_rfl) (by simp) ?_
    refine AllReadyH.cons rfl (fun K hK => ?_) AllReadyH.nil
    go_simp
    (go_at_call 84; refine (allWords_any ao S cap HSp.out N HN.out _ (hS.below B5.drew)).mono ?_)
    rintro e w6 ⟨q, rfl, own, hb6⟩
    have h56 : Below W5.heap.size W5 w6 := (Below.refl _ W5).drew.trans hb6
    have c6 := kept_cell h56 cS lS
    have r6 := r5.below h56 r5.lt
    have hq5 : W5.heap.size ≤ q := own.base_le.1
    have hq6 : w2.heap.size < W5.heap.size := r5.lt
    have hq7 : w.heap.size ≤ w2.heap.size := hs2
    replace own := own.rebase (base' := w.heap.size) hs5
    have B6 := B5.trans (h56.mono hs5)
    have hdel := deleteFunc_any w.heap.size q N (upto N) 85 enter_has #[.agg (setA (covN S C r))] #[] (fun x => covN S C r x.toNat) w6 (by rw [upto_len]; omega) (by rw [upto_len]; exact own) (by
      intro W x hW hx
      obtain ⟨j, hj, e⟩ := mem_gi hx
      rw [upto_len] at hj
      rw [gi_upto N j hj] at e
      subst e
      exact has_any (covN S C r) j (by omega) W)
    rw [upto_len] at hdel
    refine hK.out _ _ (⟨c6, r6⟩) (fun hHeld => ?_)
    clear hK K
    (try simp only [Act.put, List.setIfInBounds_toArray, List.set_cons_zero, List.set_cons_succ])
    refine wpAnyH_ready (rs := [4]) (by kernel_rfl) (by simp) ?_
    refine AllReadyH.cons rfl (fun K hK => ?_) AllReadyH.nil
    go_simp
    (go_at_call 83; refine hdel.mono ?_)
    rintro e w7 ⟨v, rfl, own7, hg7⟩
    have c7 := hg7.cell (a := ⟨w.heap.size, 0, none⟩) c6 (fun e => by have e2 := Option.some.inj e; simp at e2; omega)
    have r7 := r6.kept hg7 (show w2.heap.size ≠ q by omega)
    have B7 := B6.trans (below_of_grown hg7 (by omega) B6.size)
    refine hK.out _ _ (⟨c7, r7⟩) (fun hHeld => ?_)
    clear hK K
    (try simp only [Act.put, List.setIfInBounds_toArray, List.set_cons_zero, List.set_cons_succ])
    refine wpAnyH_take (i := 5) (v := ?_) rfl (by kernel_rfl) (by kernel_rfl) (by kernel_rfl) (fun _ _ _ h => h) (Or.inl ⟨by rfl, ?_⟩) (by assumption) ?_
    rotate_left
    · (intro w hSw; have hSw := hSw.1; (try dsimp only at hSw); go_simp; try (with_reducible rfl))
    (try simp only [Act.put, List.setIfInBounds_toArray, List.set_cons_zero, List.set_cons_succ])
    refine wpAnyH_take (i := 6) (v := ?_) rfl (by kernel_rfl) (by kernel_rfl) (by kernel_rfl) (fun _ _ _ h => h) (Or.inl ⟨by rfl, ?_⟩) (by assumption) ?_
    rotate_left
    · (intro w hSw; have hSw := hSw.1; (try dsimp only at hSw); go_simp; try (with_reducible rfl))
    (try simp only [Act.put, List.setIfInBounds_toArray, List.set_cons_zero, List.set_cons_succ])
    refine wpAnyH_done (by kernel_rfl) ?_ _
    simp only [List.getElem_toArray, List.getElem_cons_succ, List.getElem_cons_zero, Act.put, List.setIfInBounds_toArray, List.set_cons_zero, List.set_cons_succ]
    go_wp2
    go_ret2
    refine ⟨_, by rw [HQ0.out]; rfl, ?_, B7⟩
    rw [HV.out, ← unc_filter S C r N HN.out]
    exact own7
  · have HV : Hid (vUnc S C r = []) := Lib.hid (by unfold vUnc; rw [if_neg hq])
    have hqn : (eCov2 S C [] r != 0) = true := by rw [HQ.out]; simpa using hq
    clear hq
    go_enter Try.func37, Try.ntmps37
    go_wp2_with fail
    refine (coverError_n ao S cap hn ac C capc hnc r none [] 0 0 rfl (by omega) _ (hS.below B0) (hC.below B0) (.inl rfl)).mono ?_
    rintro e w1 ⟨rfl, hb⟩
    go_wp2_with fail
    go_ret2
    exact ⟨_, by rw [HQ.out]; try rfl, by rw [HV.out]; exact own_nil _ _, B0.trans (hb.mono B0.size)⟩

end Go.Proofs.Ytjjcpbhmpjedoaa
