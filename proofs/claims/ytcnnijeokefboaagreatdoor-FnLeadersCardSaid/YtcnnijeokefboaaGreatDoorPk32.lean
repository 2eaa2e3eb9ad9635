/-
  Texts put together: Del, ShA, Tog3h, AddSb. By an AI agent.
-/
import Derived.Test.YtcnnijeokefboaaGreatDoorMath
import Derived.Test.YtcnnijeokefboaaGreatDoorAppend
import Derived.Test.YtcnnijeokefboaaGreatDoorPut
import Derived.Lib.SliceRun
import Derived.Deep.WholeRow
import Derived.Test.YtcnnijeokefboaaGreatDoorSort
import Derived.Test.YtcnnijeokefboaaGreatDoorErr
import Derived.Test.YtcnnijeokefboaaGreatDoorSums
import Derived.Test.YtcnnijeokefboaaGreatDoorSums2
import Derived.Test.YtcnnijeokefboaaGreatDoorSpace
import Derived.Test.YtcnnijeokefboaaGreatDoorMem
namespace Go.Proofs.YtcnnijeokefboaaGreatDoor
open Go.RowKit Cv
set_option linter.unusedVariables false
set_option linter.unusedSimpArgs false
set_option maxRecDepth 100000

/-- a function value that answers p at the numbers of L, in every world in which what lay below n lies still -/
def PredN (f : Nat) (pre post : Array Value) (p : Int → Bool) (n : Nat) (w : World) (L : List Int) : Prop :=
  ∀ (W : World) (x : Int), Below n w W → x ∈ L → Calls Tryz.prog f (pre.push (.int .i64 x) ++ post) W fun e w' => e = .returned (.bool (p x)) ∧ Below W.heap.size W w'

theorem indexFunc_any (n g cap : Nat) (L : List Int) (f : Nat) (eg : ∀ args w, (callFunc f args).run Tryz.prog w = .ok (.enter f args) w) (pre post : Array Value) (p : Int → Bool) (w : World) (hl : L.length ≤ 4294967296)
    (hrow : OwnInts w n (.slice (some ⟨g, 0, none⟩) L.length cap) L) (hp : PredN f pre post p n w L) :
    Calls Tryz.prog 141 #[.slice (some ⟨g, 0, none⟩) L.length cap, .func (.func f) pre post] w fun e w' => ∃ r : Int, e = .returned (.int .i64 r) ∧ Below w.heap.size w w' ∧
      Hid ((r = -1 ∧ ∀ j, j < L.length → p (gi L j) = false) ∨ ∃ k : Nat, k < L.length ∧ r = k ∧ p (gi L k) = true ∧ ∀ j, j < k → p (gi L j) = false) := by
  obtain ⟨hb1, hb2⟩ := hrow.base_le
  have hcell : ∀ j, j < L.length → w.cell? ⟨g, j, none⟩ = some (.int .i64 (gi L j)) := fun j hj => hrow.cell hj
  have HP := Lib.hid hp
  clear hp
  go_enter Tryz.func141, Tryz.ntmps141
  go_wp2_with fail
  go_loopw [8] (fun i wr => ∃ k : Nat, k ≤ L.length ∧ i = .int .i64 k ∧ Below w.heap.size w wr ∧ Hid (∀ j, j < k → p (gi L j) = false)) (fun i _ => L.length - (intOf i).toNat)
  case atStart => exact ⟨0, Nat.zero_le _, rfl, Below.refl _ _, Lib.hid fun j hj => by omega⟩
  case round =>
    obtain ⟨k, hk, rfl, B, HA⟩ := hrel
    by_cases hlt : k < L.length
    · have hc := kept_cell B (hcell k hlt) hb2
      have hcall := HP.out wr (gi L k) (B.mono (by omega)) (gi_mem hlt)
      have hs := B.size
      cases hq : p (gi L k) with
      | true =>
        rw [hq] at hcall
        have HQ := Lib.hid hq
        clear hq
        go_wp2_with fail
        refine hcall.mono ?_
        rintro e w2 ⟨rfl, hb⟩
        go_wp2_with fail
        go_ret
        exact ⟨k, rfl, B.trans (hb.mono hs), Lib.hid (.inr ⟨k, hlt, rfl, HQ.out, HA.out⟩)⟩
      | false =>
        rw [hq] at hcall
        have HQ := Lib.hid hq
        clear hq
        go_wp2_with fail
        refine hcall.mono ?_
        rintro e w2 ⟨rfl, hb⟩
        go_wp2_with fail
        go_roundw
        case rel =>
          refine ⟨k + 1, by omega, by go_num, B.trans (hb.mono hs), Lib.hid fun j hj => ?_⟩
          by_cases e : j = k
          · subst e; exact HQ.out
          · exact HA.out j (by omega)
        case measure => simp [intOf]; omega
    · have ek : Hid (k = L.length) := Lib.hid (by omega)
      go_wp2_with fail
      go_ret
      exact ⟨-1, rfl, B, Lib.hid (.inl ⟨rfl, by rw [← ek.out]; exact HA.out⟩)⟩

/-- what DeleteFunc has done with the first j numbers: i of them are kept -/
def DelI (q : Int → Bool) (L R : List Int) (i j : Nat) : Prop :=
  R.length = L.length ∧ i < j ∧ R.take i = (L.take j).filter q ∧ ((L.take j).filter q).length = i ∧ ∀ t, j ≤ t → gi R t = gi L t
theorem delI_start {q : Int → Bool} {L : List Int} {k : Nat} (hk : k < L.length) (ht : ∀ j, j < k → q (gi L j) = true) (hf : q (gi L k) = false) : DelI q L L k (k + 1) := by
  have e : (L.take (k + 1)).filter q = L.take k := by
    rw [take_snoc L k hk, List.filter_append]
    have e1 : (L.take k).filter q = L.take k := List.filter_eq_self.2 fun x hx => by
      obtain ⟨j, hj, e⟩ := mem_gi hx
      rw [List.length_take] at hj
      rw [gi_take L k j (by omega)] at e
      rw [← e]; exact ht j (by omega)
    rw [e1]; simp [hf]
  exact ⟨rfl, by omega, e.symm, by rw [e, List.length_take]; omega, fun _ _ => rfl⟩
theorem delI_skip {q : Int → Bool} {L R : List Int} {i j : Nat} (h : DelI q L R i j) (hj : j < L.length) (hf : q (gi L j) = false) : DelI q L R i (j + 1) := by
  obtain ⟨h1, h2, h3, h4, h5⟩ := h
  have e : (L.take (j + 1)).filter q = (L.take j).filter q := by rw [take_snoc L j hj, List.filter_append]; simp [hf]
  exact ⟨h1, by omega, by rw [e]; exact h3, by rw [e]; exact h4, fun t ht => h5 t (by omega)⟩
theorem delI_keep {q : Int → Bool} {L R : List Int} {i j : Nat} (h : DelI q L R i j) (hj : j < L.length) (hf : q (gi L j) = true) : DelI q L (R.set i (gi L j)) (i + 1) (j + 1) := by
  obtain ⟨h1, h2, h3, h4, h5⟩ := h
  have e : (L.take (j + 1)).filter q = (L.take j).filter q ++ [gi L j] := by rw [take_snoc L j hj, List.filter_append]; simp [hf]
  refine ⟨by rw [List.length_set]; exact h1, by omega, ?_, by rw [e, List.length_append, h4]; rfl, fun t ht => ?_⟩
  · rw [e, ← h3, take_snoc _ i (by rw [List.length_set]; omega), gi_set R i _ i (by omega), if_pos rfl]
    congr 1
    refine ext_gi (by simp) fun t ht => ?_
    rw [List.length_take, List.length_set] at ht
    rw [gi_take _ i t (by omega), gi_take _ i t (by omega), gi_set R i _ t (by omega), if_neg (by omega)]
  · rw [gi_set R i _ t (by omega), if_neg (by omega)]; exact h5 t (by omega)
theorem delI_end {q : Int → Bool} {L R : List Int} {i : Nat} (h : DelI q L R i L.length) : R.take i = L.filter q ∧ (L.filter q).length = i ∧ i < L.length := by
  obtain ⟨h1, h2, h3, h4, h5⟩ := h
  rw [List.take_length] at h3 h4
  exact ⟨h3, h4, h2⟩

theorem own_take {w : World} {base g n cap : Nat} {T : List Int} (h : OwnInts w base (.slice (some ⟨g, 0, none⟩) n cap) T) (k : Nat) (hk : k ≤ T.length) : OwnInts w base (.slice (some ⟨g, 0, none⟩) k cap) (T.take k) := by
  rcases h.2 with ⟨hv, _⟩ | ⟨g', c', cur, hv, hb, hh, hle, hm, hs, ht⟩
  · simp at hv
  · simp only [Value.slice.injEq, Option.some.injEq, Addr.mk.injEq, and_true, true_and] at hv
    obtain ⟨rfl, rfl, rfl⟩ := hv
    have e : (T.take k).length = k := by rw [List.length_take]; omega
    refine ⟨by simp, .inr ⟨g, cap, cur, by rw [e], hb, hh, by omega, hm, hs, ?_⟩⟩
    rw [e, List.map_take, ← ht, List.take_take]
    congr 1; omega
theorem own_zeros (g : Nat) (m : Nat) : ∀ (o : Nat) (w : World) (base n cap : Nat) (T : List Int), OwnInts w base (.slice (some ⟨g, 0, none⟩) n cap) T →
    ∃ T' : List Int, OwnInts (w.setCells g o (List.replicate m (.int .i64 0))) base (.slice (some ⟨g, 0, none⟩) n cap) T' ∧ T'.length = T.length ∧ T'.take o = T.take o := by
  induction m with
  | zero => intro o w base n cap T h; exact ⟨T, h, rfl, rfl⟩
  | succ m ih =>
    intro o w base n cap T h
    obtain ⟨T', h1, h2, h3⟩ := ih (o + 1) _ base n cap _ (h.stored o 0)
    refine ⟨T', h1, by rw [h2, List.length_set], ?_⟩
    have e := congrArg (List.take o) h3
    rw [List.take_take, List.take_take, Nat.min_eq_left (by omega)] at e
    rw [e, List.take_set_of_le (Nat.le_refl _)]
theorem below_zeros (g : Nat) (m : Nat) : ∀ (o n : Nat) (w0 w : World), Below n w0 w → n ≤ g → Below n w0 (w.setCells g o (List.replicate m (.int .i64 0))) := by
  induction m with
  | zero => intro o n w0 w h _; exact h
  | succ m ih => intro o n w0 w h hg; exact ih (o + 1) n w0 _ (h.setCell (by simpa using hg) _) hg

theorem below_of_grown {w w' : World} {g n : Nat} (hg : w.grownBy w' (some g)) (h1 : n ≤ g) (h2 : n ≤ w.heap.size) : Below n w w' := (Below.refl n w).grown hg h2 fun j hj => by cases hj; exact h1
theorem grown_zeros (g : Nat) (m : Nat) : ∀ (o : Nat) (w0 w : World), w0.grownBy w (some g) → w0.grownBy (w.setCells g o (List.replicate m (.int .i64 0))) (some g) := by
  induction m with
  | zero => intro o w0 w h; exact h
  | succ m ih => intro o w0 w h; exact ih (o + 1) w0 _ (grown_setCell h _ _)

set_option maxHeartbeats 1000000 in
theorem deleteFunc_any (n g cap : Nat) (L : List Int) (f : Nat) (eg : ∀ args w, (callFunc f args).run Tryz.prog w = .ok (.enter f args) w) (pre post : Array Value) (p : Int → Bool) (w : World) (hl : L.length ≤ 4294967296)
    (hrow : OwnInts w n (.slice (some ⟨g, 0, none⟩) L.length cap) L) (hp : PredN f pre post p n w L) :
    Calls Tryz.prog 112 #[.slice (some ⟨g, 0, none⟩) L.length cap, .func (.func f) pre post] w fun e w' => ∃ v, e = .returned v ∧ OwnInts w' n v (L.filter fun x => !p x) ∧ w.grownBy w' (some g) := by
  obtain ⟨hb1, hb2⟩ := hrow.base_le
  obtain ⟨hcap, hcm⟩ := own_cap hrow
  unfold maxLen at hcm
  have HP := Lib.hid hp
  have hIF := indexFunc_any n g cap L f eg pre post p w hl hrow hp
  clear hp
  go_enter Tryz.func112, Tryz.ntmps112
  go_wp2_with fail
  refine hIF.mono ?_
  rintro e w1 ⟨r, rfl, hb, HR⟩
  have own := hrow.below hb
  have B : w.grownBy w1 (some g) := grown_of_below hb _
  rcases HR.out with ⟨hr, hall⟩ | ⟨k0, hk0, hr, ht, hall⟩
  · subst hr
    have HE : Hid ((L.filter fun x => !p x) = L) := Lib.hid (List.filter_eq_self.2 fun x hx => by obtain ⟨j, hj, e⟩ := mem_gi hx; rw [← e, hall j hj]; rfl)
    clear hall
    go_wp2_with fail
    go_ret
    exact ⟨_, rfl, by rw [HE.out]; exact own, B⟩
  · subst hr
    have HS : Hid (DelI (fun x => !p x) L L k0 (k0 + 1)) := Lib.hid (delI_start hk0 (fun j hj => by rw [hall j hj]; rfl) (by rw [ht]; rfl))
    have hne : ((k0 : Int) == -1) = false := beq_eq_false_iff_ne.2 (by omega)
    clear hall ht
    go_wp2_with fail
    go_loopw [5, 6] (fun vi vj wr => ∃ (i j : Nat) (R : List Int), vi = .int .i64 i ∧ vj = .int .i64 j ∧ j ≤ L.length ∧ Hid (DelI (fun x => !p x) L R i j) ∧ OwnInts wr n (.slice (some ⟨g, 0, none⟩) L.length cap) R ∧ w.grownBy wr (some g)) (fun _ vj _ => L.length - (intOf vj).toNat)
    case atStart => exact ⟨k0, k0 + 1, L, rfl, by go_num, by omega, HS, own, B⟩
    case round =>
      clear own B
      obtain ⟨i, j, R, rfl, rfl, hj, HI, own, B⟩ := hrel
      have hij := HI.out.2.1
      have hRl := HI.out.1
      by_cases hlt : j < L.length
      · have hcj := own.cell (k := j) (by omega)
        have hci := own.cell (k := i) (by omega)
        have hfi := own.free i
        rw [HI.out.2.2.2.2 j (Nat.le_refl _)] at hcj
        have hcall := HP.out wr (gi L j) (below_of_grown B hb1 (by omega)) (gi_mem hlt)
        obtain ⟨x, hx⟩ : ∃ x, x = gi L j := ⟨_, rfl⟩
        rw [← hx] at hcj hcall
        have HX := Lib.hid hx
        have hs : w.heap.size ≤ wr.heap.size := B.size
        cases hq : p x with
        | true =>
          rw [hq] at hcall
          have HK : Hid (DelI (fun x => !p x) L R i (j + 1)) := Lib.hid (delI_skip HI.out hlt (by rw [← hx, hq]; rfl))
          clear hq hx
          go_wp2_with fail
          refine hcall.mono ?_
          rintro e w2 ⟨rfl, hb2'⟩
          go_wp2_with fail
          go_roundw
          case rel => exact ⟨i, j + 1, R, rfl, by go_num, by omega, HK, own.below hb2', grown_trans B (grown_of_below hb2' _)⟩
          case measure => simp [intOf]; omega
        | false =>
          rw [hq] at hcall
          have HK : Hid (DelI (fun x => !p x) L (R.set i x) (i + 1) (j + 1)) := Lib.hid (by rw [hx]; exact delI_keep HI.out hlt (by rw [← hx, hq]; rfl))
          clear hq hx
          go_wp2_with fail
          refine hcall.mono ?_
          rintro e w2 ⟨rfl, hb2'⟩
          have own2 := own.below hb2'
          have hci2 := own2.cell (k := i) (by omega)
          have hfi2 := own2.free i
          clear hci hfi hcj
          go_wp2_with fail
          go_roundw
          case rel => exact ⟨i + 1, j + 1, R.set i x, by go_num, by go_num, by omega, HK, own2.stored i x, grown_setCell (grown_trans B (grown_of_below hb2' _)) _ _⟩
          case measure => simp [intOf]; omega
      · obtain rfl : j = L.length := by omega
        obtain ⟨e1, e2, e3⟩ := delI_end HI.out
        have hce : ¬ cap = i := by omega
        have hcl : ∀ ty, (Builtin.clear_ #[24] ty #[.slice (some ⟨g, i, none⟩) (L.length - i) (cap - i)]).run Tryz.prog wr = .ok (.tuple #[]) (wr.setCells g i (List.replicate (L.length - i) (.int .i64 0))) :=
          fun ty => Lib.run_clear_slice wr _ _ ty _ Tryz.underlying24 (zero_of_info (n := 1) (v := .int .i64 0) (by kernel_rfl)).1 rfl rfl g i _ _ (by omega) (fun t ht => by rw [own.cell (k := i + t) (by omega)]; rfl) (fun t ht => own.free (i + t))
        obtain ⟨T', t1, t2, t3⟩ := own_zeros g (L.length - i) i wr n L.length cap R own
        have HB := grown_zeros g (L.length - i) i w wr B
        have HT : Hid (T'.take i = L.filter fun x => !p x) := Lib.hid (by rw [t3, e1])
        have t4 := own_take t1 i (by omega)
        clear own B e1 e2 t3 hrow hIF
        go_wp2_with fail
        go_ret
        exact ⟨_, rfl, by rw [← HT.out]; exact t4, HB⟩

end Go.Proofs.YtcnnijeokefboaaGreatDoor

namespace Go.Proofs.YtcnnijeokefboaaGreatDoor
open Go.RowKit Cv
set_option linter.unusedVariables false
set_option linter.unusedSimpArgs false
set_option maxRecDepth 100000

theorem shifted_any (ao : Option Addr) (S : List Int) (cap : Nat) (hSp : Sp S) (ac : Addr) (C : List Int) (capc : Nat) (hl : C.length ≤ 1024) (hC : ∀ i, i < C.length → 0 ≤ gi C i ∧ gi C i ≤ 9223372036854775807) (x : Int) (hx : 0 ≤ x ∧ x ≤ 9223372036854775807) (w : World) (hS : Ints w ao S) (hCI : Ints w (some ac) C) :
    Calls Tryz.prog 104 #[.agg #[.slice ao S.length cap], .slice (some ac) C.length capc, .int .i64 x] w fun e w' => ∃ v, e = .returned v ∧ OwnInts w' w.heap.size v (putTo [] (fun i => sumW S (gi C i) x) C.length) ∧ Below w.heap.size w w' := by
  go_enter Tryz.func104, Tryz.ntmps104
  go_wp2_with fail
  have HC := Lib.hid hC
  have B0 : Below w.heap.size w (w.alloc (.cells #[.slice ao S.length cap] 26)) := by go_grown
  clear hC
  go_loopw [7, 12] (fun vo i wr => ∃ (k g' c' : Nat), k ≤ C.length ∧ i = .int .i64 k ∧ vo = .slice (some ⟨g', 0, none⟩) (putTo [] (fun i => sumW S (gi C i) x) k).length c' ∧ OwnInts wr (w.heap.size + 1) (.slice (some ⟨g', 0, none⟩) (putTo [] (fun i => sumW S (gi C i) x) k).length c') (putTo [] (fun i => sumW S (gi C i) x) k) ∧ wr.cell? ⟨w.heap.size, 0, none⟩ = some (.slice ao S.length cap) ∧ w.heap.size < wr.heap.size ∧ Below w.heap.size w wr) (fun _ i _ => C.length - (intOf i).toNat)
  case atStart => exact ⟨0, w.heap.size + 1, 0, Nat.zero_le _, rfl, rfl, own_empty _ _ (by simp) (by simp), kept_cell ((Below.refl _ (w.alloc (.cells #[.slice ao S.length cap] 26))).alloc (Nat.le_refl _) _) (cell_new _ _ _) (lt_alloc _ _), by simp; omega, by go_grown⟩
  case round =>
    obtain ⟨k, g1, c1, hk, rfl, rfl, own, c, l, B⟩ := hrel
    have hpl := putTo_len [] (fun i => sumW S (gi C i) x) k
    simp only [List.length_nil, Nat.zero_add] at hpl
    by_cases hlt : k < C.length
    · obtain ⟨b, o, he, hbl, hc⟩ := hCI.at hlt
      obtain rfl : ac = ⟨b, o, none⟩ := by simpa using he
      have hck := kept_cell B (hc k hlt) hbl
      obtain ⟨u1, u2⟩ := HC.out k hlt
      have hs := B.size
      clear hc he
      obtain ⟨P, hP⟩ : ∃ P, P = (putTo [] (fun i => sumW S (gi C i) x) k).length := ⟨_, rfl⟩
      rw [← hP] at own ⊢
      have HP := Lib.hid hP
      have hP2 : P ≤ 1024 := by omega
      clear hP
      go_wp2_with fail
      go_region_held3 (fun w' => w'.cell? ⟨w.heap.size, 0, none⟩ = some (.slice ao S.length cap) ∧ w'.cell? ⟨b, o + k, none⟩ = some (.int .i64 (gi C k))) (first | exact ⟨c, hck⟩ | exact ⟨k2, m2⟩ | exact ⟨k3, m3⟩) (first | (go_at_call 87; refine (l01Sum_any ao S cap hSp (gi C k) x u1 u2 hx.1 hx.2 _ (hS.below B.drew)).mono ?_; rintro e w2 ⟨rfl, hb2'⟩; have hb2 : Below wr.heap.size wr w2 := (Below.refl _ wr).drew.trans hb2'; have k2 := kept_cell hb2 c l; have l2 := lt_of_below hb2 l; have m2 := kept_cell hb2 hck (Nat.lt_of_lt_of_le hbl hs); have n2 : b < w2.heap.size := Nat.lt_of_lt_of_le hbl (Nat.le_trans hs hb2.size); have own1 := own.below hb2; have B2 := B.trans (hb2.mono hs); have hp := l01Put_any (w.heap.size + 1) g1 c1 (putTo [] (fun i => sumW S (gi C i) x) k) (sumW S (gi C k) x) w2 (by rw [← HP.out]; omega) (by rw [← HP.out]; exact own1); rw [← HP.out] at hp) | (go_at_call 123; refine hp.mono ?_; rintro e w3 ⟨g2, c2, rfl, own2, hb3⟩; have k3 := kept_cell hb3 k2 l2; have l3 := lt_of_below hb3 l2; have m3 := kept_cell hb3 m2 n2; have B3 := B2.trans (hb3.mono B2.size)))
      have e1 : Hid (putL (putTo [] (fun i => sumW S (gi C i) x) k) (sumW S (gi C k) x) = putTo [] (fun i => sumW S (gi C i) x) (k + 1)) := Lib.hid rfl
      rw [e1.out] at own2 ⊢
      clear own hp hck m2 m3 k2
      obtain ⟨P2, hP2⟩ : ∃ P, P = (putTo [] (fun i => sumW S (gi C i) x) (k + 1)).length := ⟨_, rfl⟩
      rw [← hP2] at own2 ⊢
      go_wp2_with fail
      go_roundw
      case rel => exact ⟨k + 1, g2, c2, by omega, by go_num, by rw [← hP2], by rw [← hP2]; exact own2, k3, l3, B3⟩
      case measure => simp [intOf]; omega
    · have ek : Hid (k = C.length) := Lib.hid (by omega)
      obtain ⟨P, hP⟩ : ∃ P, P = (putTo [] (fun i => sumW S (gi C i) x) k).length := ⟨_, rfl⟩
      rw [← hP] at own ⊢
      go_wp2_with fail
      go_ret
      exact ⟨_, rfl, by rw [← ek.out]; exact own.rebase (by omega), B⟩


end Go.Proofs.YtcnnijeokefboaaGreatDoor

namespace Go.Proofs.YtcnnijeokefboaaGreatDoor
open Go.RowKit Cv
set_option linter.unusedVariables false
set_option linter.unusedSimpArgs false
set_option maxRecDepth 100000

theorem l01Has_any (at' : Option Addr) (T : List Int) (cap : Nat) (x : Int) (hl : T.length ≤ 4294967296) (w : World) (hT : Ints w at' T) :
    Calls Tryz.prog 103 #[.slice at' T.length cap, .int .i64 x] w fun e w' => e = .returned (.bool (decide (x ∈ T))) ∧ w = w' := by
  go_enter Tryz.func103, Tryz.ntmps103
  go_wp2_with fail
  go_loopw [5] (fun i wr => ∃ k : Nat, k ≤ T.length ∧ i = .int .i64 k ∧ Hid (∀ j, j < k → gi T j ≠ x) ∧ wr = w) (fun i _ => T.length - (intOf i).toNat)
  case atStart => exact ⟨0, Nat.zero_le _, rfl, Lib.hid fun j hj => by omega, rfl⟩
  case round =>
    obtain ⟨k, hk, rfl, HA, rfl⟩ := hrel
    by_cases hlt : k < T.length
    · obtain ⟨b, o, rfl, hbl, hc⟩ := hT.at hlt
      have hck := hc k hlt
      clear hc
      by_cases he : gi T k = x
      · have hq : (gi T k == x) = true := by simpa using he
        have HX : Hid (decide (x ∈ T) = true) := Lib.hid (by rw [decide_eq_true_eq, ← he]; exact gi_mem hlt)
        clear he
        go_wp2_with fail
        go_ret
        exact ⟨ret_bool HX.out.symm, rfl⟩
      · have hq : (gi T k == x) = false := by simpa using he
        have HX := Lib.hid he
        clear he
        go_wp2_with fail
        go_roundw
        case rel =>
          refine ⟨k + 1, by omega, by go_num, Lib.hid fun j hj => ?_, by first | rfl | trivial⟩
          by_cases e : j = k
          · subst e; exact HX.out
          · exact HA.out j (by omega)
        case measure => simp [intOf]; omega
    · have ek : Hid (k = T.length) := Lib.hid (by omega)
      have HX : Hid (decide (x ∈ T) = false) := Lib.hid (by
        rw [decide_eq_false_iff_not]; intro hm
        obtain ⟨j, hj, e⟩ := mem_gi hm
        exact HA.out j (by rw [ek.out]; exact hj) e)
      go_wp2_with fail
      go_ret
      exact ⟨ret_bool HX.out.symm, rfl⟩

end Go.Proofs.YtcnnijeokefboaaGreatDoor

namespace Go.Proofs.YtcnnijeokefboaaGreatDoor
open Go.RowKit Cv
set_option linter.unusedVariables false
set_option linter.unusedSimpArgs false

theorem own_acr {W W' : World} {base g n c m : Nat} {L : List Int} (h : OwnInts W base (.slice (some ⟨g, 0, none⟩) n c) L) (hb : Below m W W') (hg : g < m) : OwnInts W' base (.slice (some ⟨g, 0, none⟩) n c) L := by
  refine ⟨h.1, ?_⟩
  rcases h.2 with h2 | ⟨g', c', cur, hv, hb', hh, r⟩
  · exact .inl h2
  · simp only [Value.slice.injEq, Option.some.injEq, Addr.mk.injEq, and_true, true_and] at hv
    obtain ⟨rfl, rfl, rfl⟩ := hv
    exact .inr ⟨g, c, cur, by simp, hb', by rw [hb.block g hg]; exact hh, r⟩

end Go.Proofs.YtcnnijeokefboaaGreatDoor
