/-
  The contracts of the errors of tickets and draws. By an AI agent.
-/
import Derived.Test.YtgaelpcghljihaaCh8
import Derived.Test.YtgaelpcghljihaaCode
import Derived.Test.YtgaelpcghljihaaDel
import Derived.Test.YtgaelpcghljihaaFam
namespace Go.Proofs.Ytgaelpcghljihaa
open Go.RowKit Cv
set_option linter.unusedVariables false
set_option linter.unusedSimpArgs false
set_option maxRecDepth 100000

theorem all_gi (q : Int → Bool) (T : List Int) : T.all q = true ↔ ∀ j, j < T.length → q (gi T j) = true := by
  rw [List.all_eq_true]
  constructor
  · intro h j hj; exact h _ (gi_mem hj)
  · intro h x hx
    obtain ⟨j, hj, e⟩ := mem_gi hx
    rw [← e]; exact h j hj
/-- a list that is ascending and has sets of k of v numbers -/
def tkB (v k : Int) (T : List Int) : Bool := ascB T T.length && T.all (setB v k)
def eTk (v p d h : Int) (T D : List Int) : Int := if lotB v p d h = true then (if decide (T.length ≤ 200) && tkB v p T && D.all (setB v d) then 0 else 2) else 1
theorem eTk_inv {v p d h : Int} (g : lotB v p d h = false) (T D : List Int) : eTk v p d h T D = 1 := by unfold eTk; rw [g]; rfl
theorem eTk_bad {v p d h : Int} (g : lotB v p d h = true) {T D : List Int} (e : ¬ (T.length ≤ 200 ∧ tkB v p T = true ∧ D.all (setB v d) = true)) : eTk v p d h T D = 2 := by
  unfold eTk
  rw [if_pos g, if_neg]
  intro hh
  simp only [Bool.and_eq_true, decide_eq_true_iff] at hh
  exact e ⟨hh.1.1, hh.1.2, hh.2⟩
theorem eTk_ok {v p d h : Int} (g : lotB v p d h = true) {T D : List Int} (h1 : T.length ≤ 200) (h2 : tkB v p T = true) (h3 : D.all (setB v d) = true) : eTk v p d h T D = 0 := by
  unfold eTk
  rw [if_pos g, if_pos]
  simp only [Bool.and_eq_true, decide_eq_true_iff]
  exact ⟨⟨h1, h2⟩, h3⟩
theorem tkB_one (v k x : Int) : tkB v k [x] = setB v k x := by simp [tkB, ascB]

theorem indexFunc_ints (a : Option Addr) (cap : Nat) (L : List Int) (f : Nat) (eg : ∀ args w, (callFunc f args).run Try.prog w = .ok (.enter f args) w) (pre post : Array Value) (q : Int → Bool) (w : World) (hl : L.length ≤ 4294967296)
    (hrow : Ints w a L) (hp : PredN f pre post q w.heap.size w L) :
    Calls Try.prog 139 #[.slice a L.length cap, .func (.func f) pre post] w fun e w' => ∃ r : Int, e = .returned (.int .i64 r) ∧ Below w.heap.size w w' ∧ Hid (decide (0 ≤ r) = L.any q) := by
  have HP := Lib.hid hp
  clear hp
  go_enter Try.func139, Try.ntmps139
  go_wp2_with fail
  go_loopw [8] (fun i wr => ∃ k : Nat, k ≤ L.length ∧ i = .int .i64 k ∧ Below w.heap.size w wr ∧ Hid (∀ j, j < k → q (gi L j) = false)) (fun i _ => L.length - (intOf i).toNat)
  case atStart => exact ⟨0, Nat.zero_le _, rfl, Below.refl _ _, Lib.hid fun j hj => by omega⟩
  case round =>
    obtain ⟨k, hk, rfl, B, HA⟩ := hrel
    by_cases hlt : k < L.length
    · obtain ⟨b, o, rfl, hbl, hcc⟩ := hrow.at hlt
      have hc := kept_cell B (hcc k hlt) hbl
      have hcall := HP.out wr (gi L k) B (gi_mem hlt)
      have hs := B.size
      clear hcc
      cases hq : q (gi L k) with
      | true =>
        rw [hq] at hcall
        have HQ := Lib.hid hq
        clear hq
        go_wp2_with fail
        refine hcall.mono ?_
        rintro e w2 ⟨rfl, hb⟩
        go_wp2_with fail
        go_ret
        refine ⟨k, rfl, B.trans (hb.mono hs), Lib.hid ?_⟩
        rw [decide_eq_true (by omega), eq_comm, List.any_eq_true]
        exact ⟨_, gi_mem hlt, HQ.out⟩
      | false =>
        rw [hq] at hcall
        have HQ := Lib.hid hq
        clear hq
        go_wp2_with fail
        refine hcall.mono ?_
        rintro e w2 ⟨rfl, hb⟩
        go_wp2_with fail
        go_roundw
        case rel =>
          refine ⟨k + 1, by omega, by go_num, B.trans (hb.mono hs), Lib.hid fun j hj => ?_⟩
          by_cases e : j = k
          · subst e; exact HQ.out
          · exact HA.out j (by omega)
        case measure => simp [intOf]; omega
    · have ek : Hid (k = L.length) := Lib.hid (by omega)
      go_wp2_with fail
      go_ret
      refine ⟨-1, rfl, B, Lib.hid ?_⟩
      rw [decide_eq_false (by omega), eq_comm, ← Bool.not_eq_true, List.any_eq_true]
      rintro ⟨x, hx, hq⟩
      obtain ⟨j, hj, e⟩ := mem_gi hx
      have := HA.out j (by have := ek.out; omega)
      rw [e, hq] at this; cases this

theorem containsFunc_ints (a : Option Addr) (cap : Nat) (L : List Int) (f : Nat) (eg : ∀ args w, (callFunc f args).run Try.prog w = .ok (.enter f args) w) (pre post : Array Value) (q : Int → Bool) (w : World) (hl : L.length ≤ 4294967296)
    (hrow : Ints w a L) (hp : PredN f pre post q w.heap.size w L) :
    Calls Try.prog 118 #[.slice a L.length cap, .func (.func f) pre post] w fun e w' => e = .returned (.bool (L.any q)) ∧ Below w.heap.size w w' := by
  have hidx := indexFunc_ints a cap L f eg pre post q w hl hrow hp
  clear hp hrow
  go_enter Try.func118, Try.ntmps118
  go_wp2_with fail
  refine hidx.mono ?_
  rintro e w1 ⟨r, rfl, hb, H⟩
  go_wp2_with fail
  go_ret
  exact ⟨ret_bool H.out, hb⟩

set_option maxHeartbeats 1000000 in
theorem lacksTicket_any (v p d h x : Int) (hv : 1 ≤ v ∧ v ≤ 12) (w : World) :
    Calls Try.prog 119 #[.agg #[.int .i64 v, .int .i64 p, .int .i64 d, .int .i64 h], .int .i64 x] w fun e w' => e = .returned (.bool (!setB v p x)) ∧ Below w.heap.size w w' := by
  have B0 : Below w.heap.size w (w.alloc (.cells #[.int .i64 v, .int .i64 p, .int .i64 d, .int .i64 h] 26)) := by go_grown
  obtain ⟨c0, c1, c2, c3, l0⟩ := lotAt_new w v p d h 26
  have hc := isSetOfNumbers_any x v p hv (w.alloc (.cells #[.int .i64 v, .int .i64 p, .int .i64 d, .int .i64 h] 26))
  obtain ⟨b, hb⟩ : ∃ b, b = setB v p x := ⟨_, rfl⟩
  rw [← hb] at hc ⊢
  clear hb hv
  go_enter Try.func119, Try.ntmps119
  go_wp2_with fail
  refine hc.mono ?_
  rintro e w1 ⟨rfl, rfl⟩
  go_wp2_with fail
  go_ret
  exact ⟨rfl, B0⟩

set_option maxHeartbeats 1000000 in
theorem lacksDraw_any (v p d h x : Int) (hv : 1 ≤ v ∧ v ≤ 12) (w : World) :
    Calls Try.prog 120 #[.agg #[.int .i64 v, .int .i64 p, .int .i64 d, .int .i64 h], .int .i64 x] w fun e w' => e = .returned (.bool (!setB v d x)) ∧ Below w.heap.size w w' := by
  have B0 : Below w.heap.size w (w.alloc (.cells #[.int .i64 v, .int .i64 p, .int .i64 d, .int .i64 h] 26)) := by go_grown
  obtain ⟨c0, c1, c2, c3, l0⟩ := lotAt_new w v p d h 26
  have hc := isSetOfNumbers_any x v d hv (w.alloc (.cells #[.int .i64 v, .int .i64 p, .int .i64 d, .int .i64 h] 26))
  obtain ⟨b, hb⟩ : ∃ b, b = setB v d x := ⟨_, rfl⟩
  rw [← hb] at hc ⊢
  clear hb hv
  go_enter Try.func120, Try.ntmps120
  go_wp2_with fail
  refine hc.mono ?_
  rintro e w1 ⟨rfl, rfl⟩
  go_wp2_with fail
  go_ret
  exact ⟨rfl, B0⟩

theorem any_all (q : Int → Bool) (T : List Int) : T.any (fun x => !q x) = !T.all q := by
  induction T with
  | nil => rfl
  | cons x T ih => rw [List.any_cons, List.all_cons, ih, Bool.not_and]

set_option maxHeartbeats 2000000 in
theorem ticketsError_any (v p d h : Int) (a : Option Addr) (T : List Int) (cap : Nat) (hn : T.length ≤ 4294967296) (b : Option Addr) (D : List Int) (capd : Nat) (hnd : D.length ≤ 4294967296) (w : World) (hT : Ints w a T) (hD : Ints w b D) :
    Calls Try.prog 60 #[.agg #[.int .i64 v, .int .i64 p, .int .i64 d, .int .i64 h], .slice a T.length cap, .slice b D.length capd] w fun e w' => e = .returned (.int .i64 (eTk v p d h T D)) ∧ Below w.heap.size w w' := by
  have B0 : Below w.heap.size w (w.alloc (.cells #[.int .i64 v, .int .i64 p, .int .i64 d, .int .i64 h] 26)) := by go_grown
  have l0 := lotAt_new w v p d h 26
  obtain ⟨c0, c1, c2, c3, l1⟩ := lotAt_new w v p d h 26
  have hc := IsLottery_any v p d h (w.alloc (.cells #[.int .i64 v, .int .i64 p, .int .i64 d, .int .i64 h] 26))
  cases hb : lotB v p d h with
  | false =>
    have HE := Lib.hid (eTk_inv hb T D)
    rw [hb] at hc
    clear hb
    go_enter Try.func60, Try.ntmps60
    go_wp2_with fail
    refine hc.mono ?_
    rintro e w1 ⟨rfl, hb⟩
    go_wp2_with fail
    go_ret
    exact ⟨ret_int HE.out.symm, B0.trans (hb.mono B0.size)⟩
  | true =>
    have hv : 1 ≤ v ∧ v ≤ 12 := by have l := (lot_iff v p d h).1 hb; exact ⟨l.v1, l.v2⟩
    have HB := Lib.hid hb
    rw [hb] at hc
    clear hb
    by_cases h1 : T.length ≤ 200
    case neg =>
      have HE := Lib.hid (eTk_bad HB.out (T := T) (D := D) fun g => h1 g.1)
      have i1 : (200 : Int) < (T.length : Int) := by omega
      go_enter Try.func60, Try.ntmps60
      go_wp2_with fail
      refine hc.mono ?_
      rintro e w1 ⟨rfl, hb⟩
      go_wp2_with fail
      go_ret
      exact ⟨ret_int HE.out.symm, B0.trans (hb.mono B0.size)⟩
    have i1 : ¬ (200 : Int) < (T.length : Int) := by omega
    cases ha : ascB T T.length with
    | false =>
      have HE := Lib.hid (eTk_bad HB.out (T := T) (D := D) fun g => by have := g.2.1; unfold tkB at this; rw [ha] at this; cases this)
      go_enter Try.func60, Try.ntmps60
      go_wp2_with fail
      refine hc.mono ?_
      rintro e w1 ⟨rfl, hb⟩
      have B1 := B0.trans (hb.mono B0.size)
      have hs := isStrictlyAscending_any a T cap hn w1 (hT.below B1)
      rw [ha] at hs
      clear ha
      go_wp2_with fail
      refine hs.mono ?_
      rintro e w2 ⟨rfl, hb2⟩
      go_wp2_with fail
      go_ret
      exact ⟨ret_int HE.out.symm, B1.trans (hb2.mono B1.size)⟩
    | true =>
      have HA := Lib.hid ha
      clear ha
      have hz : ∀ x, x = T.all (setB v p) → ∀ y, y = D.all (setB v d) → eTk v p d h T D = if x = true then (if y = true then 0 else 2) else 2 := by
        rintro x rfl y rfl
        have ht : tkB v p T = T.all (setB v p) := by unfold tkB; rw [HA.out]; rfl
        cases hx : T.all (setB v p) with
        | false => exact eTk_bad HB.out fun g => by have := g.2.1; rw [ht, hx] at this; cases this
        | true =>
          cases hy : D.all (setB v d) with
          | false => exact eTk_bad HB.out fun g => by have := g.2.2; rw [hy] at this; cases this
          | true => exact eTk_ok HB.out h1 (by rw [ht, hx]) hy
      obtain ⟨x, hx⟩ : ∃ x, x = T.all (setB v p) := ⟨_, rfl⟩
      obtain ⟨y, hy⟩ : ∃ y, y = D.all (setB v d) := ⟨_, rfl⟩
      have HZ := Lib.hid (hz x hx y hy)
      have HX := Lib.hid hx
      have HY := Lib.hid hy
      clear hz hx hy
      go_enter Try.func60, Try.ntmps60
      go_wp2_with fail
      refine hc.mono ?_
      rintro e w1 ⟨rfl, hb⟩
      have B1 := B0.trans (hb.mono B0.size)
      clear c0 c1 c2 c3 l1
      obtain ⟨c0, c1, c2, c3, l1⟩ := l0.below hb
      have l2 := l0.below hb
      have hs := isStrictlyAscending_any a T cap hn w1 (hT.below B1)
      rw [HA.out] at hs
      clear hb
      go_wp2_with fail
      refine hs.mono ?_
      rintro e w2 ⟨rfl, hb2⟩
      have B2 := B1.trans (hb2.mono B1.size)
      clear c0 c1 c2 c3 l1
      obtain ⟨c0, c1, c2, c3, l1⟩ := l2.below hb2
      have l3 := l2.below hb2
      have hs1 := containsFunc_ints a cap T 119 (fun _ _ => rfl) #[.agg #[.int .i64 v, .int .i64 p, .int .i64 d, .int .i64 h]] #[] (fun x => !setB v p x) w2 hn (hT.below B2) (fun W x hW _ => lacksTicket_any v p d h x hv W)
      rw [any_all, ← HX.out] at hs1
      clear hb2
      cases x with
      | false =>
        go_wp2_with fail
        refine hs1.mono ?_
        rintro e w3 ⟨rfl, hb3⟩
        go_wp2_with fail
        go_ret
        exact ⟨ret_int HZ.out.symm, B2.trans (hb3.mono B2.size)⟩
      | true =>
        go_wp2_with fail
        refine hs1.mono ?_
        rintro e w3 ⟨rfl, hb3⟩
        have B3 := B2.trans (hb3.mono B2.size)
        clear c0 c1 c2 c3 l1
        obtain ⟨c0, c1, c2, c3, l1⟩ := l3.below hb3
        have hs2 := containsFunc_ints b capd D 120 (fun _ _ => rfl) #[.agg #[.int .i64 v, .int .i64 p, .int .i64 d, .int .i64 h]] #[] (fun x => !setB v d x) w3 hnd (hD.below B3) (fun W x hW _ => lacksDraw_any v p d h x hv W)
        rw [any_all, ← HY.out] at hs2
        clear hb3
        cases y with
        | false =>
          go_wp2_with fail
          refine hs2.mono ?_
          rintro e w4 ⟨rfl, hb4⟩
          go_wp2_with fail
          go_ret
          exact ⟨ret_int HZ.out.symm, B3.trans (hb4.mono B3.size)⟩
        | true =>
          go_wp2_with fail
          refine hs2.mono ?_
          rintro e w4 ⟨rfl, hb4⟩
          go_wp2_with fail
          go_ret
          exact ⟨ret_int HZ.out.symm, B3.trans (hb4.mono B3.size)⟩

end Go.Proofs.Ytgaelpcghljihaa
