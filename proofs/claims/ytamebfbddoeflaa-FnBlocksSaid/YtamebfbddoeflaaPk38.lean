/-
  Texts put together: Del, WrJ9. By an AI agent.
-/
import Derived.Test.YtamebfbddoeflaaPkMath
import Derived.Test.YtamebfbddoeflaaPkAppend
import Derived.Test.YtamebfbddoeflaaPkPut
import Derived.Lib.SliceRun
import Derived.Deep.WholeRow
import Derived.Test.YtamebfbddoeflaaPkWrI9
import Derived.Test.YtamebfbddoeflaaPk34
namespace Go.Proofs.Ytamebfbddoeflaa
open Go.RowKit Cv
set_option linter.unusedVariables false
set_option linter.unusedSimpArgs false
set_option maxRecDepth 100000

/-- a function value that answers p at the numbers of L, in every world in which what lay below n lies still -/
def PredN (f : Nat) (pre post : Array Value) (p : Int → Bool) (n : Nat) (w : World) (L : List Int) : Prop :=
  ∀ (W : World) (x : Int), Below n w W → x ∈ L → Calls Try.prog f (pre.push (.int .i64 x) ++ post) W fun e w' => e = .returned (.bool (p x)) ∧ Below W.heap.size W w'

theorem indexFunc_any (n g cap : Nat) (L : List Int) (f : Nat) (eg : ∀ args w, (callFunc f args).run Try.prog w = .ok (.enter f args) w) (pre post : Array Value) (p : Int → Bool) (w : World) (hl : L.length ≤ 4294967296)
    (hrow : OwnInts w n (.slice (some ⟨g, 0, none⟩) L.length cap) L) (hp : PredN f pre post p n w L) :
    Calls Try.prog 58 #[.slice (some ⟨g, 0, none⟩) L.length cap, .func (.func f) pre post] w fun e w' => ∃ r : Int, e = .returned (.int .i64 r) ∧ Below w.heap.size w w' ∧
      Hid ((r = -1 ∧ ∀ j, j < L.length → p (gi L j) = false) ∨ ∃ k : Nat, k < L.length ∧ r = k ∧ p (gi L k) = true ∧ ∀ j, j < k → p (gi L j) = false) := by
  obtain ⟨hb1, hb2⟩ := hrow.base_le
  have hcell : ∀ j, j < L.length → w.cell? ⟨g, j, none⟩ = some (.int .i64 (gi L j)) := fun j hj => hrow.cell hj
  have HP := Lib.hid hp
  clear hp
  go_enter Try.func58, Try.ntmps58
  go_wp2_with fail
  go_loopw [8] (fun i wr => ∃ k : Nat, k ≤ L.length ∧ i = .int .i64 k ∧ Below w.heap.size w wr ∧ Hid (∀ j, j < k → p (gi L j) = false)) (fun i _ => L.length - (intOf i).toNat)
  case atStart => exact ⟨0, Nat.zero_le _, rfl, Below.refl _ _, Lib.hid fun j hj => by omega⟩
  case round =>
    obtain ⟨k, hk, rfl, B, HA⟩ := hrel
    by_cases hlt : k < L.length
    · have hc := kept_cell B (hcell k hlt) hb2
      have hcall := HP.out wr (gi L k) (B.mono (by omega)) (gi_mem hlt)
      have hs := B.size
      cases hq : p (gi L k) with
      | true =>
        rw [hq] at hcall
        have HQ := Lib.hid hq
        clear hq
        go_wp2_with fail
        refine hcall.mono ?_
        rintro e w2 ⟨rfl, hb⟩
        go_wp2_with fail
        go_ret
        exact ⟨k, rfl, B.trans (hb.mono hs), Lib.hid (.inr ⟨k, hlt, rfl, HQ.out, HA.out⟩)⟩
      | false =>
        rw [hq] at hcall
        have HQ := Lib.hid hq
        clear hq
        go_wp2_with fail
        refine hcall.mono ?_
        rintro e w2 ⟨rfl, hb⟩
        go_wp2_with fail
        go_roundw
        case rel =>
          refine ⟨k + 1, by omega, by go_num, B.trans (hb.mono hs), Lib.hid fun j hj => ?_⟩
          by_cases e : j = k
          · subst e; exact HQ.out
          · exact HA.out j (by omega)
        case measure => simp [intOf]; omega
    · have ek : Hid (k = L.length) := Lib.hid (by omega)
      go_wp2_with fail
      go_ret
      exact ⟨-1, rfl, B, Lib.hid (.inl ⟨rfl, by rw [← ek.out]; exact HA.out⟩)⟩

/-- what DeleteFunc has done with the first j numbers: i of them are kept -/
def DelI (q : Int → Bool) (L R : List Int) (i j : Nat) : Prop :=
  R.length = L.length ∧ i < j ∧ R.take i = (L.take j).filter q ∧ ((L.take j).filter q).length = i ∧ ∀ t, j ≤ t → gi R t = gi L t
theorem delI_start {q : Int → Bool} {L : List Int} {k : Nat} (hk : k < L.length) (ht : ∀ j, j < k → q (gi L j) = true) (hf : q (gi L k) = false) : DelI q L L k (k + 1) := by
  have e : (L.take (k + 1)).filter q = L.take k := by
    rw [take_snoc L k hk, List.filter_append]
    have e1 : (L.take k).filter q = L.take k := List.filter_eq_self.2 fun x hx => by
      obtain ⟨j, hj, e⟩ := mem_gi hx
      rw [List.length_take] at hj
      rw [gi_take L k j (by omega)] at e
      rw [← e]; exact ht j (by omega)
    rw [e1]; simp [hf]
  exact ⟨rfl, by omega, e.symm, by rw [e, List.length_take]; omega, fun _ _ => rfl⟩
theorem delI_skip {q : Int → Bool} {L R : List Int} {i j : Nat} (h : DelI q L R i j) (hj : j < L.length) (hf : q (gi L j) = false) : DelI q L R i (j + 1) := by
  obtain ⟨h1, h2, h3, h4, h5⟩ := h
  have e : (L.take (j + 1)).filter q = (L.take j).filter q := by rw [take_snoc L j hj, List.filter_append]; simp [hf]
  exact ⟨h1, by omega, by rw [e]; exact h3, by rw [e]; exact h4, fun t ht => h5 t (by omega)⟩
theorem delI_keep {q : Int → Bool} {L R : List Int} {i j : Nat} (h : DelI q L R i j) (hj : j < L.length) (hf : q (gi L j) = true) : DelI q L (R.set i (gi L j)) (i + 1) (j + 1) := by
  obtain ⟨h1, h2, h3, h4, h5⟩ := h
  have e : (L.take (j + 1)).filter q = (L.take j).filter q ++ [gi L j] := by rw [take_snoc L j hj, List.filter_append]; simp [hf]
  refine ⟨by rw [List.length_set]; exact h1, by omega, ?_, by rw [e, List.length_append, h4]; rfl, fun t ht => ?_⟩
  · rw [e, ← h3, take_snoc _ i (by rw [List.length_set]; omega), gi_set R i _ i (by omega), if_pos rfl]
    congr 1
    refine ext_gi (by simp) fun t ht => ?_
    rw [List.length_take, List.length_set] at ht
    rw [gi_take _ i t (by omega), gi_take _ i t (by omega), gi_set R i _ t (by omega), if_neg (by omega)]
  · rw [gi_set R i _ t (by omega), if_neg (by omega)]; exact h5 t (by omega)
theorem delI_end {q : Int → Bool} {L R : List Int} {i : Nat} (h : DelI q L R i L.length) : R.take i = L.filter q ∧ (L.filter q).length = i ∧ i < L.length := by
  obtain ⟨h1, h2, h3, h4, h5⟩ := h
  rw [List.take_length] at h3 h4
  exact ⟨h3, h4, h2⟩

theorem own_take {w : World} {base g n cap : Nat} {T : List Int} (h : OwnInts w base (.slice (some ⟨g, 0, none⟩) n cap) T) (k : Nat) (hk : k ≤ T.length) : OwnInts w base (.slice (some ⟨g, 0, none⟩) k cap) (T.take k) := by
  rcases h.2 with ⟨hv, _⟩ | ⟨g', c', cur, hv, hb, hh, hle, hm, hs, ht⟩
  · simp at hv
  · simp only [Value.slice.injEq, Option.some.injEq, Addr.mk.injEq, and_true, true_and] at hv
    obtain ⟨rfl, rfl, rfl⟩ := hv
    have e : (T.take k).length = k := by rw [List.length_take]; omega
    refine ⟨by simp, .inr ⟨g, cap, cur, by rw [e], hb, hh, by omega, hm, hs, ?_⟩⟩
    rw [e, List.map_take, ← ht, List.take_take]
    congr 1; omega
theorem own_zeros (g : Nat) (m : Nat) : ∀ (o : Nat) (w : World) (base n cap : Nat) (T : List Int), OwnInts w base (.slice (some ⟨g, 0, none⟩) n cap) T →
    ∃ T' : List Int, OwnInts (w.setCells g o (List.replicate m (.int .i64 0))) base (.slice (some ⟨g, 0, none⟩) n cap) T' ∧ T'.length = T.length ∧ T'.take o = T.take o := by
  induction m with
  | zero => intro o w base n cap T h; exact ⟨T, h, rfl, rfl⟩
  | succ m ih =>
    intro o w base n cap T h
    obtain ⟨T', h1, h2, h3⟩ := ih (o + 1) _ base n cap _ (h.stored o 0)
    refine ⟨T', h1, by rw [h2, List.length_set], ?_⟩
    have e := congrArg (List.take o) h3
    rw [List.take_take, List.take_take, Nat.min_eq_left (by omega)] at e
    rw [e, List.take_set_of_le (Nat.le_refl _)]
theorem below_of_grown {w w' : World} {g n : Nat} (hg : w.grownBy w' (some g)) (h1 : n ≤ g) (h2 : n ≤ w.heap.size) : Below n w w' := (Below.refl n w).grown hg h2 fun j hj => by cases hj; exact h1
theorem grown_zeros (g : Nat) (m : Nat) : ∀ (o : Nat) (w0 w : World), w0.grownBy w (some g) → w0.grownBy (w.setCells g o (List.replicate m (.int .i64 0))) (some g) := by
  induction m with
  | zero => intro o w0 w h; exact h
  | succ m ih => intro o w0 w h; exact ih (o + 1) w0 _ (grown_setCell h _ _)

set_option maxHeartbeats 1000000 in
theorem deleteFunc_any (n g cap : Nat) (L : List Int) (f : Nat) (eg : ∀ args w, (callFunc f args).run Try.prog w = .ok (.enter f args) w) (pre post : Array Value) (p : Int → Bool) (w : World) (hl : L.length ≤ 4294967296)
    (hrow : OwnInts w n (.slice (some ⟨g, 0, none⟩) L.length cap) L) (hp : PredN f pre post p n w L) :
    Calls Try.prog 26 #[.slice (some ⟨g, 0, none⟩) L.length cap, .func (.func f) pre post] w fun e w' => ∃ v, e = .returned v ∧ OwnInts w' n v (L.filter fun x => !p x) ∧ w.grownBy w' (some g) := by
  obtain ⟨hb1, hb2⟩ := hrow.base_le
  obtain ⟨hcap, hcm⟩ := own_cap hrow
  unfold maxLen at hcm
  have HP := Lib.hid hp
  have hIF := indexFunc_any n g cap L f eg pre post p w hl hrow hp
  clear hp
  go_enter Try.func26, Try.ntmps26
  go_wp2_with fail
  refine hIF.mono ?_
  rintro e w1 ⟨r, rfl, hb, HR⟩
  have own := hrow.below hb
  have B : w.grownBy w1 (some g) := grown_of_below hb _
  rcases HR.out with ⟨hr, hall⟩ | ⟨k0, hk0, hr, ht, hall⟩
  · subst hr
    have HE : Hid ((L.filter fun x => !p x) = L) := Lib.hid (List.filter_eq_self.2 fun x hx => by obtain ⟨j, hj, e⟩ := mem_gi hx; rw [← e, hall j hj]; rfl)
    clear hall
    go_wp2_with fail
    go_ret
    exact ⟨_, rfl, by rw [HE.out]; exact own, B⟩
  · subst hr
    have HS : Hid (DelI (fun x => !p x) L L k0 (k0 + 1)) := Lib.hid (delI_start hk0 (fun j hj => by rw [hall j hj]; rfl) (by rw [ht]; rfl))
    have hne : ((k0 : Int) == -1) = false := beq_eq_false_iff_ne.2 (by omega)
    clear hall ht
    go_wp2_with fail
    go_loopw [5, 6] (fun vi vj wr => ∃ (i j : Nat) (R : List Int), vi = .int .i64 i ∧ vj = .int .i64 j ∧ j ≤ L.length ∧ Hid (DelI (fun x => !p x) L R i j) ∧ OwnInts wr n (.slice (some ⟨g, 0, none⟩) L.length cap) R ∧ w.grownBy wr (some g)) (fun _ vj _ => L.length - (intOf vj).toNat)
    case atStart => exact ⟨k0, k0 + 1, L, rfl, by go_num, by omega, HS, own, B⟩
    case round =>
      clear own B
      obtain ⟨i, j, R, rfl, rfl, hj, HI, own, B⟩ := hrel
      have hij := HI.out.2.1
      have hRl := HI.out.1
      by_cases hlt : j < L.length
      · have hcj := own.cell (k := j) (by omega)
        have hci := own.cell (k := i) (by omega)
        have hfi := own.free i
        rw [HI.out.2.2.2.2 j (Nat.le_refl _)] at hcj
        have hcall := HP.out wr (gi L j) (below_of_grown B hb1 (by omega)) (gi_mem hlt)
        obtain ⟨x, hx⟩ : ∃ x, x = gi L j := ⟨_, rfl⟩
        rw [← hx] at hcj hcall
        have HX := Lib.hid hx
        have hs : w.heap.size ≤ wr.heap.size := B.size
        cases hq : p x with
        | true =>
          rw [hq] at hcall
          have HK : Hid (DelI (fun x => !p x) L R i (j + 1)) := Lib.hid (delI_skip HI.out hlt (by rw [← hx, hq]; rfl))
          clear hq hx
          go_wp2_with fail
          refine hcall.mono ?_
          rintro e w2 ⟨rfl, hb2'⟩
          go_wp2_with fail
          go_roundw
          case rel => exact ⟨i, j + 1, R, rfl, by go_num, by omega, HK, own.below hb2', grown_trans B (grown_of_below hb2' _)⟩
          case measure => simp [intOf]; omega
        | false =>
          rw [hq] at hcall
          have HK : Hid (DelI (fun x => !p x) L (R.set i x) (i + 1) (j + 1)) := Lib.hid (by rw [hx]; exact delI_keep HI.out hlt (by rw [← hx, hq]; rfl))
          clear hq hx
          go_wp2_with fail
          refine hcall.mono ?_
          rintro e w2 ⟨rfl, hb2'⟩
          have own2 := own.below hb2'
          have hci2 := own2.cell (k := i) (by omega)
          have hfi2 := own2.free i
          clear hci hfi hcj
          go_wp2_with fail
          go_roundw
          case rel => exact ⟨i + 1, j + 1, R.set i x, by go_num, by go_num, by omega, HK, own2.stored i x, grown_setCell (grown_trans B (grown_of_below hb2' _)) _ _⟩
          case measure => simp [intOf]; omega
      · obtain rfl : j = L.length := by omega
        obtain ⟨e1, e2, e3⟩ := delI_end HI.out
        have hce : ¬ cap = i := by omega
        have hcl : ∀ ty, (Builtin.clear_ #[24] ty #[.slice (some ⟨g, i, none⟩) (L.length - i) (cap - i)]).run Try.prog wr = .ok (.tuple #[]) (wr.setCells g i (List.replicate (L.length - i) (.int .i64 0))) :=
          fun ty => Lib.run_clear_slice wr _ _ ty _ Try.underlying24 (zero_of_info (n := 1) (v := .int .i64 0) (by kernel_rfl)).1 rfl rfl g i _ _ (by omega) (fun t ht => by rw [own.cell (k := i + t) (by omega)]; rfl) (fun t ht => own.free (i + t))
        obtain ⟨T', t1, t2, t3⟩ := own_zeros g (L.length - i) i wr n L.length cap R own
        have HB := grown_zeros g (L.length - i) i w wr B
        have HT : Hid (T'.take i = L.filter fun x => !p x) := Lib.hid (by rw [t3, e1])
        have t4 := own_take t1 i (by omega)
        clear own B e1 e2 t3 hrow hIF
        go_wp2_with fail
        go_ret
        exact ⟨_, rfl, by rw [← HT.out]; exact t4, HB⟩

end Go.Proofs.Ytamebfbddoeflaa

namespace Go.Proofs.Ytamebfbddoeflaa
open Go.RowKit Cv
set_option linter.unusedVariables false
set_option linter.unusedSimpArgs false
set_option maxRecDepth 100000

theorem enter_lacks9 : ∀ args w, (callFunc 29 args).run Try.prog w = .ok (.enter 29 args) w := enters_of Try.func29 (by kernel_rfl) rfl
theorem upto_filter9 (N : Nat) (p : Nat → Bool) : (upto N).filter (fun x => !!p x.toNat) = selL p N := by
  unfold upto selL
  rw [List.filter_map]
  congr 1
  exact List.filter_congr fun i hi => by simp
theorem deleteFunc_n9 (n g cap K : Nat) (L : List Int) (hK : K = L.length) (f : Nat) (eg : ∀ args w, (callFunc f args).run Try.prog w = .ok (.enter f args) w) (pre post : Array Value) (p : Int → Bool) (w : World) (hl : L.length ≤ 4294967296)
    (hrow : OwnInts w n (.slice (some ⟨g, 0, none⟩) K cap) L) (hp : PredN f pre post p n w L) :
    Calls Try.prog 26 #[.slice (some ⟨g, 0, none⟩) K cap, .func (.func f) pre post] w fun e w' => ∃ v, e = .returned v ∧ OwnInts w' n v (L.filter fun x => !p x) ∧ w.grownBy w' (some g) := by
  subst hK; exact deleteFunc_any n g cap L f eg pre post p w hl hrow hp

set_option maxHeartbeats 2000000 in
theorem impl_WordsReached (ao : Option Addr) (S : List Int) (cap : Nat) (hn : S.length ≤ 4294967296) (ac : Option Addr) (C : List Int) (capc : Nat) (hnc : C.length ≤ 4294967296) (at' : Option Addr) (T : List Int) (capt : Nat) (hnt : T.length ≤ 4294967296) (m : Int) (hmr : -9223372036854775808 ≤ m ∧ m ≤ 9223372036854775807) (w : World) (hS : Ints w ao S) (hC : Ints w ac C) (hT : Ints w at' T) :
    Calls Try.prog 6 #[.agg #[.slice ao S.length cap], .slice ac C.length capc, .slice at' T.length capt, .int .i64 m] w fun e w' => ∃ v, e = .returned (.tuple #[v, .int .i64 (eCs S C T m)]) ∧ OwnInts w' w.heap.size v (vWr S C T m) ∧ Below w.heap.size w w' := by
  obtain ⟨W0, hW0⟩ : ∃ W0, W0 = w.alloc (.cells #[.slice ao S.length cap] 26) := ⟨_, rfl⟩
  have B0 : Below w.heap.size w W0 := by rw [hW0]; go_grown
  have c0 : W0.cell? ⟨w.heap.size, 0, none⟩ = some (.slice ao S.length cap) := by rw [hW0]; exact cell_new _ _ _
  have l0 : w.heap.size < W0.heap.size := by rw [hW0]; exact lt_alloc _ _
  have HW0 := Lib.hid hW0
  have hce := columnsError_any ao S cap hn ac C capc hnc at' T capt hnt m W0 (hS.below B0) (hC.below B0) (hT.below B0)
  by_cases hz : eCs S C T m = 0
  · obtain ⟨hP, hcz, hwz, h8, hm0, hm8⟩ := eCs_zero hz
    have HP := Lib.hid hP
    have HSp := Lib.hid hP.sp
    have HCZ := Lib.hid hcz
    have HT : Hid (∀ i, i < T.length → Wd S (gi T i)) := Lib.hid (eWords_zero hwz).2
    have hNN := nW_bd hP.sp
    obtain ⟨N, hNe⟩ : ∃ N : Nat, nW S = (N : Int) := ⟨(nW S).toNat, by omega⟩
    have hN2 : N ≤ 1024 := by omega
    have HN := Lib.hid hNe
    have HV : Hid (vWr S C T m = selL (wrB S C T m) N) := Lib.hid (by unfold vWr; rw [if_pos hz, hNe]; rfl)
    rw [hz] at hce
    obtain ⟨j, rfl⟩ : ∃ j : Nat, m = (j : Int) := ⟨m.toNat, by omega⟩
    have hm2 : j ≤ 8 := by omega
    have HZ := Lib.hid hz
    have HCE := Lib.hid hce
    clear hz hce hP hcz hwz hNN hNe hW0
    go_enter Try.func6, Try.ntmps6
    go_wp2_with fail
    rw [← HW0.out]
    refine HCE.out.mono ?_
    rintro e w1 ⟨rfl, hb1⟩
    have B1 := B0.trans (hb1.mono B0.size)
    have c1 := kept_cell hb1 c0 l0
    have l1 := lt_of_below hb1 l0
    clear hb1 c0 l0 B0 HCE
    go_wp2_with fail
    refine wp_region_held_drew (S := fun w' => w'.cell? ⟨w.heap.size, 0, none⟩ = some (.slice ao S.length cap)) (by kernel_rfl) (c1) (fun hHeld => ?_)
    refine wpAnyH_take (i := 0) (v := ?_) rfl (by kernel_rfl) (by kernel_rfl) (by kernel_rfl) (fun _ _ _ h => h) (Or.inl ⟨by rfl, ?_⟩) (by assumption) ?_
    rotate_left
    · (intro w hSw; obtain hSw := hSw; (try dsimp only at hSw); go_simp; try (with_reducible rfl))
    (try simp only [Act.put, List.setIfInBounds_toArray, List.set_cons_zero, List.set_cons_succ, List.getElem_toArray, List.getElem_cons_succ, List.getElem_cons_zero])
    refine wpAnyH_take (i := 2) (v := ?_) rfl (by kernel_rfl) (by kernel_rfl) (by kernel_rfl) (fun _ _ _ h => h) (Or.inl ⟨by rfl, ?_⟩) (by assumption) ?_
    rotate_left
    · (intro w hSw; obtain hSw := hSw; (try dsimp only at hSw); go_simp; try (with_reducible rfl))
    (try simp only [Act.put, List.setIfInBounds_toArray, List.set_cons_zero, List.set_cons_succ, List.getElem_toArray, List.getElem_cons_succ, List.getElem_cons_zero])
    refine wpAnyH_take (i := 3) (v := ?_) rfl (by kernel_rfl) (by kernel_rfl) (by kernel_rfl) (fun _ _ _ h => h) (Or.inl ⟨by rfl, ?_⟩) (by assumption) ?_
    rotate_left
    · (intro w hSw; obtain hSw := hSw; (try dsimp only at hSw); go_simp; try (with_reducible rfl))
    (try simp only [Act.put, List.setIfInBounds_toArray, List.set_cons_zero, List.set_cons_succ, List.getElem_toArray, List.getElem_cons_succ, List.getElem_cons_zero])
    refine wpAnyH_take (i := 4) (v := ?_) rfl (by kernel_rfl) (by kernel_rfl) (by kernel_rfl) (fun _ _ _ h => h) (Or.inl ⟨by rfl, ?_⟩) (by assumption) ?_
    rotate_left
    · (intro w hSw; obtain hSw := hSw; (try dsimp only at hSw); go_simp; try (with_reducible rfl))
    (try simp only [Act.put, List.setIfInBounds_toArray, List.set_cons_zero, List.set_cons_succ, List.getElem_toArray, List.getElem_cons_succ, List.getElem_cons_zero])
    refine wpAnyH_take (i := 5) (v := ?_) rfl (by kernel_rfl) (by kernel_rfl) (by kernel_rfl) (fun _ _ _ h => h) (Or.inl ⟨by rfl, ?_⟩) (by assumption) ?_
    rotate_left
    · (intro w hSw; obtain hSw := hSw; (try dsimp only at hSw); go_simp; try (with_reducible rfl))
    (try simp only [Act.put, List.setIfInBounds_toArray, List.set_cons_zero, List.set_cons_succ, List.getElem_toArray, List.getElem_cons_succ, List.getElem_cons_zero])
    refine wpAnyH_ready (rs := [1]) (by kernel_rfl) (by simp) ?_
    refine AllReadyH.cons rfl (fun K hK => ?_) AllReadyH.nil
    go_simp
    (go_at_call 27; refine (allWords_any ao S cap HSp.out N HN _ (hS.below (B1.trans (Below.mono (Below.refl w1.heap.size w1).drew B1.size)))).mono ?_)
    rintro e x1 ⟨q1, rfl, own1, hb1⟩
    have H1 : Below w1.heap.size w1 x1 := Below.trans (Below.refl w1.heap.size w1).drew (hb1.mono (Below.size (Below.refl w1.heap.size w1).drew))
    refine hK.out _ _ (kept_cell H1 c1 l1) (fun hHeld => ?_)
    clear hK K
    (try simp only [Act.put, List.setIfInBounds_toArray, List.set_cons_zero, List.set_cons_succ, List.getElem_toArray, List.getElem_cons_succ, List.getElem_cons_zero])
    refine wpAnyH_ready (rs := [6]) (by kernel_rfl) (by simp) ?_
    refine AllReadyH.cons rfl (fun K hK => ?_) AllReadyH.nil
    go_simp
    (go_at_call 28; refine (wordsReached_any ao S cap HP.out ac C capc HCZ.out at' T capt h8 HT.out j hm2 _ (hS.below (B1.trans (Below.mono H1 B1.size))) (hC.below (B1.trans (Below.mono H1 B1.size))) (hT.below (B1.trans (Below.mono H1 B1.size)))).mono ?_)
    rintro e x2 ⟨rfl, hb2⟩
    have H2 : Below w1.heap.size w1 x2 := Below.trans H1 (hb2.mono (Below.size H1))
    replace own1 := own1.below hb2
    refine hK.out _ _ (kept_cell H2 c1 l1) (fun hHeld => ?_)
    clear hK K
    (try simp only [Act.put, List.setIfInBounds_toArray, List.set_cons_zero, List.set_cons_succ, List.getElem_toArray, List.getElem_cons_succ, List.getElem_cons_zero])
    refine wpAnyH_take (i := 7) (v := ?_) rfl (by kernel_rfl) (by kernel_rfl) (by kernel_rfl) (fun _ _ _ h => h) (Or.inl ⟨by rfl, ?_⟩) (by assumption) ?_
    rotate_left
    · (intro w hSw; obtain hSw := hSw; (try dsimp only at hSw); go_simp; try (with_reducible rfl))
    (try simp only [Act.put, List.setIfInBounds_toArray, List.set_cons_zero, List.set_cons_succ, List.getElem_toArray, List.getElem_cons_succ, List.getElem_cons_zero])
    refine wpAnyH_ready (rs := [8]) (by kernel_rfl) (by simp) ?_
    refine AllReadyH.cons rfl (fun K hK => ?_) AllReadyH.nil
    go_simp
    have hq3 : w1.heap.size ≤ q1 := own1.base_le.1
    have hdel := deleteFunc_n9 w1.heap.size q1 N N (upto N) (upto_len N).symm 29 enter_lacks9 #[.agg (setA (wrB S C T (j : Int)))] #[] (fun x => !wrB S C T (j : Int) x.toNat) x2 (by rw [upto_len]; omega) own1 (fun W x hW hx => by obtain ⟨u, hu, e⟩ := mem_gi hx; rw [upto_len] at hu; rw [gi_upto N u hu] at e; subst e; exact lacks_any _ u (by omega) W)
    (go_at_call 26; refine hdel.mono ?_)
    rintro e x3 ⟨v3, rfl, own3, hg3⟩
    have H3 : Below w1.heap.size w1 x3 := Below.trans H2 (below_of_grown hg3 (show w1.heap.size ≤ q1 by omega) (Below.size H2))
    refine hK.out _ _ (kept_cell H3 c1 l1) (fun hHeld => ?_)
    clear hK K
    (try simp only [Act.put, List.setIfInBounds_toArray, List.set_cons_zero, List.set_cons_succ, List.getElem_toArray, List.getElem_cons_succ, List.getElem_cons_zero])
    refine wpAnyH_take (i := 9) (v := ?_) rfl (by kernel_rfl) (by kernel_rfl) (by kernel_rfl) (fun _ _ _ h => h) (Or.inl ⟨by rfl, ?_⟩) (by assumption) ?_
    rotate_left
    · (intro w hSw; obtain hSw := hSw; (try dsimp only at hSw); go_simp; try (with_reducible rfl))
    (try simp only [Act.put, List.setIfInBounds_toArray, List.set_cons_zero, List.set_cons_succ, List.getElem_toArray, List.getElem_cons_succ, List.getElem_cons_zero])
    refine wpAnyH_take (i := 10) (v := ?_) rfl (by kernel_rfl) (by kernel_rfl) (by kernel_rfl) (fun _ _ _ h => h) (Or.inl ⟨by rfl, ?_⟩) (by assumption) ?_
    rotate_left
    · (intro w hSw; obtain hSw := hSw; (try dsimp only at hSw); go_simp; try (with_reducible rfl))
    (try simp only [Act.put, List.setIfInBounds_toArray, List.set_cons_zero, List.set_cons_succ, List.getElem_toArray, List.getElem_cons_succ, List.getElem_cons_zero])
    refine wpAnyH_done (by kernel_rfl) ?_ _
    (try simp only [Act.put, List.setIfInBounds_toArray, List.set_cons_zero, List.set_cons_succ, List.getElem_toArray, List.getElem_cons_succ, List.getElem_cons_zero])
    go_wp2_with fail
    go_ret2
    exact ⟨_, by rw [HZ.out]; try rfl, by rw [HV.out, ← upto_filter9]; exact OwnInts.rebase own3 B1.size, (B1.trans (Below.mono H3 B1.size))⟩
  · have hzn : (eCs S C T m != 0) = true := by simpa using hz
    have HV : Hid (vWr S C T m = []) := Lib.hid (by unfold vWr; rw [if_neg hz])
    have HCE := Lib.hid hce
    clear hz hce hW0
    go_enter Try.func6, Try.ntmps6
    go_wp2_with fail
    rw [← HW0.out]
    refine HCE.out.mono ?_
    rintro e w1 ⟨rfl, hb1⟩
    go_wp2_with fail
    go_ret2
    exact ⟨_, rfl, by rw [HV.out]; exact own_nil _ _, B0.trans (hb1.mono B0.size)⟩

end Go.Proofs.Ytamebfbddoeflaa
