/-
  Texts put together: Tgt10, Gup. By an AI agent.
-/
import Derived.Test.YtpmfedllbiblbaaGreatPk34
import Derived.Test.YtpmfedllbiblbaaGreatPkGrW
namespace Go.Proofs.YtpmfedllbiblbaaGreat
open Go.RowKit Go.Shelf Cv
set_option linter.unusedVariables false
set_option linter.unusedSimpArgs false
set_option maxRecDepth 100000

section
attribute [local go_sem] Oper.semAt_some

theorem valuesS_any (a : Option Addr) (n c : Nat) (w : World) :
    Calls Tryz.prog 88 #[.slice a n c] w fun e w' => e = .returned (.func (.func 105) #[] #[.pointer (some ⟨w.heap.size, 0, none⟩)]) ∧ w'.heap[w.heap.size]? = some (.cells #[.slice a n c] 55 (0, 0)) ∧ Below w.heap.size w w' := by
  have H1 := Lib.hid (World.alloc_heap_new w (.cells #[.slice a n c] 55))
  go_enter Tryz.func88, Tryz.ntmps88
  go_wp2_with fail
  go_ret
  exact ⟨rfl, H1.out, by go_grown⟩

theorem wpListIn_ldAt {F : Fence} {n : Nat} {ops : Array Oper} {rest : List Oper} {o : Oper} {a : Act} {w : World} {Q : Exit → Act → World → Prop} (hgd : o.guard = none) (x : Operand) (ho : o.op = .load 68 x) {g q : Nat} {p : Nat → Bool}
    (hr : ∀ k, k < 16 → w.cell? ⟨g, q + k, none⟩ = some (.int .u64 (partN p k))) (hx : a.eval x = .pointer (some ⟨g, q, none⟩)) (h : wpListIn F n Tryz.prog ops Q rest (a.put o.dst (.agg (setA p))) w) : wpListIn F n Tryz.prog ops Q (o :: rest) a w := by
  refine wpListIn_plain hgd fun K hK => ?_
  unfold Oper.wpIn
  refine ⟨by simp [Oper.about, ho], ?_⟩
  rw [Oper.semAt_plain F _ _ (by rw [ho]; intro c hc; cases hc)]
  rw [exec_ldAt hr o x ho hx]
  exact hK _ _ h

set_option maxHeartbeats 2000000 in
/-- the closure of slices.Values yields the sets of the list -/
theorem valuesS_gives (n : Nat) (hn1 : 1 ≤ n) (base g K c : Nat) (PS : List (Nat → Bool)) (vb : Nat) (hK : K = PS.length) (hl : K ≤ 16777216) (w : World) (hL : OwnSets w base (.slice (some ⟨g, 0, none⟩) K c) PS) (hvb : w.heap[vb]? = some (.cells #[.slice (some ⟨g, 0, none⟩) K c] 55 (0, 0))) :
    Gives0 Fence.wide n Tryz.prog 105 #[.pointer (some ⟨vb, 0, none⟩)] encP (Below w.heap.size) (fun ys => ys = PS) K w := fun l J Wst hW hJ hY h0 => by
  have c1 := cell_of_heap ((hW.block vb (Array.getElem?_eq_some_iff.1 hvb).1).trans hvb)
  have HC : Hid (∀ j, j < K → ∀ k, k < 16 → w.cell? ⟨g, j * 16 + k, none⟩ = some (.int .u64 (partN (pAt PS j) k))) := Lib.hid fun j hj k hk => hL.cells j (by omega) k hk
  have hgl := hL.base_le.2
  have HT : Hid (∀ k, k < K → PS.take (k + 1) = PS.take k ++ [pAt PS k]) := Lib.hid fun k hk => by
    rw [List.take_add_one, List.getElem?_eq_getElem (by omega)]; simp [pAt, List.getD, List.getElem?_eq_getElem (show k < PS.length by omega)]
  have HKl := Lib.hid hK
  clear hvb hK hL
  have hdd : ∀ k : Nat, (Fence.wide.depth.isSome = true → 1 ≤ k) := fun k h => by cases (show (none : Option Nat).isSome = true from h)
  refine callsIn_of_wp Tryz.func105 rfl trivial ?_ rfl
  simp only [Tryz.ntmps105, List.size_toArray, List.length_cons, List.length_nil, Nat.reduceAdd, Nat.reduceSub, Array.replicate_succ, Array.replicate_zero, List.push_toArray, List.append_toArray, List.nil_append, List.cons_append]
  gi_wp2
  gi_loopw [7] (fun i wr => ∃ k : Nat, k ≤ K ∧ i = .int .i64 k ∧ J (PS.take k) wr ∧ Below w.heap.size w wr ∧ Wst.heap.size ≤ wr.heap.size) (fun i _ => K - (intOf i).toNat)
  case atStart => exact ⟨0, Nat.zero_le _, rfl, h0, hW, Nat.le_refl _⟩
  case round =>
    clear c1 h0
    obtain ⟨k, hk, rfl, hj, B, hz⟩ := hrel
    by_cases hlt : k < K
    · have hlI : (k : Int) < (K : Int) := by omega
      have hck : ∀ j, j < 16 → wr.cell? ⟨g, k * 16 + j, none⟩ = some (.int .u64 (partN (pAt PS k) j)) := fun j hj => kept_cell B (HC.out k hlt j hj) hgl
      have HTk := Lib.hid (HT.out k hlt)
      obtain ⟨P, hP⟩ : ∃ P, P = pAt PS k := ⟨_, rfl⟩
      rw [← hP] at hck HTk
      clear hP
      have hzr := rowz_new wr rfl
      have bW : Below wr.heap.size wr ((wr.alloc (.cells #[.int .u64 0, .int .u64 0, .int .u64 0, .int .u64 0, .int .u64 0, .int .u64 0, .int .u64 0, .int .u64 0, .int .u64 0, .int .u64 0, .int .u64 0, .int .u64 0, .int .u64 0, .int .u64 0, .int .u64 0, .int .u64 0] 68)).setRow wr.heap.size (setA P)) := ((Below.refl _ wr).alloc (Nat.le_refl _) _).grown (grown_setRow _) (by simp) (fun j e => by cases e; exact Nat.le_refl _)
      obtain ⟨W5, hW5⟩ : ∃ W5, W5 = ((wr.alloc (.cells #[.int .u64 0, .int .u64 0, .int .u64 0, .int .u64 0, .int .u64 0, .int .u64 0, .int .u64 0, .int .u64 0, .int .u64 0, .int .u64 0, .int .u64 0, .int .u64 0, .int .u64 0, .int .u64 0, .int .u64 0, .int .u64 0] 68)).setRow wr.heap.size (setA P)) := ⟨_, rfl⟩
      have rx : RowAt W5 wr.heap.size P := by rw [hW5]; exact row_set hzr
      rw [← hW5] at bW
      have HW5 := Lib.hid hW5
      clear hW5
      have hJx : J (PS.take k) W5 := hJ _ _ _ none hj ⟨bW.os, bW.tape, bW.output, bW.size, fun j hj' _ => bW.block j hj'⟩ (fun r e => by cases e)
      obtain ⟨fn, tmps, assign, body, hy, hR⟩ := hY (PS.take k) P W5 hJx (by simp; have := HKl.out; omega)
      simp only [encP] at hy
      have B5 := B.trans (bW.mono B.size)
      have z5 := Nat.le_trans hz bW.size
      clear hj hJx
      gi_wp2_with (first
        | (refine wpListIn_ldAt rfl _ rfl hck rfl ?_)
        | (refine wpListIn_st16 rfl _ _ rfl hzr P rfl rfl ?_; rw [← HW5.out])
        | (refine wpListIn_ld16 rfl _ rfl rx rfl ?_)
        | fail)
      refine hR.mono ?_
      rintro e W' ⟨rfl, hJ', hb', hk'⟩
      have HJ : Hid (J (PS.take (k + 1)) W') := Lib.hid (by rw [HTk.out]; exact hJ')
      have B' := B5.trans hb'
      have z' := Nat.le_trans z5 hb'.size
      clear hJ' hb' hk' hR hy rx hzr hck bW B5
      gi_wp2
      go_roundw
      case rel => exact ⟨k + 1, by omega, by go_num, HJ.out, B', z'⟩
      case measure => simp [intOf]; omega
    · have ek : k = PS.length := by have := HKl.out; omega
      have hlI : ¬ (k : Int) < (K : Int) := by omega
      rw [ek, List.take_length] at hj
      clear ek
      gi_wp2
      go_end0
      exact ⟨⟨_, rfl⟩, hj⟩

end

end Go.Proofs.YtpmfedllbiblbaaGreat

namespace Go.Proofs.YtpmfedllbiblbaaGreat
open Go.RowKit Go.Shelf Cv
set_option linter.unusedVariables false
set_option linter.unusedSimpArgs false
set_option maxRecDepth 100000

section
attribute [local go_sem] Oper.semAt_some

theorem cvr_union (PS : List (Nat → Bool)) (K : Nat) (hK : K = PS.length) (hb : ∀ p, p ∈ PS → ∀ u, p u = true → u < 1024) : Cvr (pAt PS) K (unionL PS) := by
  have hm : ∀ j, j < K → pAt PS j ∈ PS := fun j hj => by
    unfold pAt
    rw [List.getD_eq_getElem?_getD, List.getElem?_eq_getElem (by omega)]
    exact List.getElem_mem _
  refine ⟨fun j u hj h => List.any_eq_true.2 ⟨_, hm j hj, h⟩, fun u h => ?_, fun u h => ?_⟩
  · obtain ⟨p, hp, h2⟩ := List.any_eq_true.1 h
    obtain ⟨j, hj, e⟩ := List.getElem_of_mem hp
    refine ⟨j, by omega, ?_⟩
    unfold pAt
    rw [List.getD_eq_getElem?_getD, List.getElem?_eq_getElem hj, e]
    exact h2
  · obtain ⟨p, hp, h2⟩ := List.any_eq_true.1 h
    exact hb p hp u h2

/-- the rounds' numbers, or none if they are more than most -/
def upL (PS : List (Nat → Bool)) (K : Nat) : List Int := gnL (pAt PS) K (unionL PS)
def upV (PS : List (Nat → Bool)) (K most : Nat) : List Int := if (upL PS K).length ≤ most then upL PS K else []
def upE (PS : List (Nat → Bool)) (K most : Nat) : Int := if (upL PS K).length ≤ most then 0 else 3

theorem results_cells2 {fn : Func} {p q : Tmp} {ty tz : TypeId} (h : fn.results = #[.cell p ty, .cell q tz]) (tmps : Array Value) (P : Program) (w : World) :
    (results fn tmps).run P w =
      ((asAddr (tmps.getD p undef)).run P w).andThen fun a w₁ => ((loadVar ty a).run P w₁).andThen fun v w₂ => ((asAddr (tmps.getD q undef)).run P w₂).andThen fun a' w₃ => ((loadVar tz a').run P w₃).andThen fun v' w₄ => .ok (.tuple #[v, v']) w₄ := by
  simp only [results, h]
  simp [Sem.run_bind, Result.andThen]

theorem own_put {W : World} {base r : Nat} {v : Value} {L : List Int} {o o' : Obj} (h : OwnInts W base v L) (hr : W.heap[r]? = some o) (ho : o.isCells = false) : OwnInts (W.putObj r o') base v L := by
  refine World.ownsRow.kept h (grownBy_putObj' W r o') ?_
  cases e : v.ownBlock with
  | none => exact .inl rfl
  | some k =>
    refine .inr fun e2 => ?_
    obtain rfl := Option.some.inj e2
    rcases h.2 with ⟨rfl, _⟩ | ⟨g, cap, cur, rfl, _, hh, _⟩
    · simp [Value.ownBlock] at e
    · obtain rfl : g = k := by simpa [Value.ownBlock] using e
      rw [hh] at hr; cases hr; cases ho
theorem results_up {fn : Func} (h : fn.results = #[.cell 4 24, .cell 5 2]) (tmps : Array Value) {W : World} {b1 b2 : Nat} {aV : Option Addr} {n cV : Nat} {x : Int} (h4 : tmps.getD 4 undef = .pointer (some ⟨b1, 0, none⟩)) (h5 : tmps.getD 5 undef = .pointer (some ⟨b2, 0, none⟩))
    (c1 : W.cell? ⟨b1, 0, none⟩ = some (.slice aV n cV)) (c2 : W.cell? ⟨b2, 0, none⟩ = some (.int .i64 x)) : (results fn tmps).run Tryz.prog W = .ok (.tuple #[.slice aV n cV, .int .i64 x]) W := by
  rw [results_cells2 h, h4, h5]
  go_simp
  try rfl

set_option maxHeartbeats 400000 in
theorem greedyUpTo_any (base gs cs K : Nat) (PS : List (Nat → Bool)) (hK : K = PS.length) (h1 : 1 ≤ K) (hl : K ≤ 1048576) (hb : ∀ p, p ∈ PS → ∀ u, p u = true → u < 1024) (most : Nat) (hmost : most ≤ 1048576) (w : World) (hL : OwnSets w base (.slice (some ⟨gs, 0, none⟩) K cs) PS) :
    Calls Tryz.prog 51 #[.slice (some ⟨gs, 0, none⟩) K cs, .int .i64 (most : Int)] w fun e w' => ∃ v, e = .returned (.tuple #[v, .int .i64 (upE PS K most)]) ∧ OwnInts w' w.heap.size v (upV PS K most) ∧ Below w.heap.size w w' := by
  have HCv := Lib.hid (cvr_union PS K hK hb)
  have lg := hL.base_le.2
  refine (callsIn_wide (n := 6)).1 ?_
  refine callsIn_of_wp_marks Tryz.func51 rfl trivial ?_ rfl
  simp only [Tryz.ntmps51, List.size_toArray, List.length_cons, List.length_nil, Nat.reduceAdd, Nat.reduceSub, Array.replicate_succ, Array.replicate_zero, List.push_toArray, List.append_toArray, List.nil_append, List.cons_append]
  have HKl := Lib.hid hK
  clear hK hb
  obtain ⟨W0, hW0⟩ : ∃ W0, W0 = (((((w.alloc (.cells #[.int .i64 (most : Int)] 3)).alloc (.cells #[.slice none 0 0] 24)).alloc (.cells #[.int .i64 0] 2)).alloc (.cells #[] 2)).alloc (.cells #[.slice (some ⟨w.heap.size + 1 + 1 + 1, 0, none⟩) 0 0] 24)) := ⟨_, rfl⟩
  have B0 : Below w.heap.size w W0 := by rw [hW0]; go_grown
  have s0 : w.heap.size + 5 ≤ W0.heap.size := by rw [hW0]; simp; try omega
  have oE : OwnInts W0 w.heap.size (.slice (some ⟨w.heap.size + 1 + 1 + 1, 0, none⟩) 0 0) [] := by
    rw [hW0]; exact (own_empty ((((w.alloc (.cells #[.int .i64 (most : Int)] 3)).alloc (.cells #[.slice none 0 0] 24)).alloc (.cells #[.int .i64 0] 2))) w.heap.size (by simp; omega) (by simp)).alloc _
  have rw0 : ∀ (k : Nat) (V : World) (o : Obj), V.heap.size = w.heap.size + k → Below (w.heap.size + k + 1) (V.alloc o) W0 → W0.heap[w.heap.size + k]? = some o := fun k V o hk hB => by
    have h1 := hB.block (w.heap.size + k) (by omega)
    rw [← hk] at h1 ⊢
    exact h1.trans (heap_alloc_new V o)
  have q0 : W0.heap[w.heap.size]? = some (.cells #[.int .i64 (most : Int)] 3 (0, 0)) := rw0 0 w _ rfl (by rw [hW0]; go_grown)
  have q1 : W0.heap[w.heap.size + 1]? = some (.cells #[.slice none 0 0] 24 (0, 0)) := rw0 1 (w.alloc (.cells #[.int .i64 (most : Int)] 3)) _ (by simp) (by rw [hW0]; go_grown)
  have q2 : W0.heap[w.heap.size + 1 + 1]? = some (.cells #[.int .i64 0] 2 (0, 0)) := rw0 2 ((w.alloc (.cells #[.int .i64 (most : Int)] 3)).alloc (.cells #[.slice none 0 0] 24)) _ (by simp) (by rw [hW0]; go_grown)
  have q4 : Boxed W0 (w.heap.size + 1 + 1 + 1 + 1) 24 (.slice (some ⟨w.heap.size + 1 + 1 + 1, 0, none⟩) 0 0) := rw0 4 ((((w.alloc (.cells #[.int .i64 (most : Int)] 3)).alloc (.cells #[.slice none 0 0] 24)).alloc (.cells #[.int .i64 0] 2)).alloc (.cells #[] 2)) _ (by simp) (by rw [hW0]; go_grown)
  have HW0 := Lib.hid hW0
  clear hW0 rw0
  gi_wp2_with fail
  rw [← HW0.out]
  refine ⟨trivial, ?_⟩
  refine (callsIn_wide.2 (valuesS_any (some ⟨gs, 0, none⟩) K cs W0)).mono ?_
  rintro e w2 ⟨rfl, hv2, hb2⟩
  have B2 := B0.trans (hb2.mono B0.size)
  have s2 := hb2.size
  have oL2 : OwnSets w2 base (.slice (some ⟨gs, 0, none⟩) K cs) PS := (hL.below B0).below hb2
  have htg := together_any 105 #[.pointer (some ⟨W0.heap.size, 0, none⟩)] (enters_of Tryz.func105 (by kernel_rfl) rfl) (Below w2.heap.size) PS K w2 (fun h k => h.trans k) (fun A C h => h)
    (fun n hn => valuesS_gives n hn base gs K cs PS _ HKl.out (by omega) w2 oL2 hv2)
  gi_wp2_with fail
  refine ⟨trivial, ?_⟩
  refine (callsIn_wide.2 htg).mono ?_
  rintro e w3 ⟨rfl, hb3⟩
  have B3 := B2.trans (hb3.mono B2.size)
  have s3 := hb3.size
  clear htg hv2
  gi_wp2_with fail
  refine ⟨trivial, ?_⟩
  refine (callsIn_wide.2 (greedyRounds_any gs K cs (unionL PS) w3)).mono ?_
  rintro e w5 ⟨rfl, rQ, rS, hb5⟩
  have B5 := B3.trans (hb5.mono B3.size)
  have b05 : Below W0.heap.size W0 w5 := hb2.trans ((hb3.mono s2).trans (hb5.mono (Nat.le_trans s2 s3)))
  have oL5 : OwnSets w5 base (.slice (some ⟨gs, 0, none⟩) K cs) PS := (oL2.below hb3).below hb5
  have s5 := b05.size
  have lw := rQ.lt
  have ls := (Array.getElem?_eq_some_iff.1 rS).1
  replace q0 := (b05.block _ (by omega)).trans q0
  replace q1 := (b05.block _ (by omega)).trans q1
  replace q2 := (b05.block _ (by omega)).trans q2
  replace q4 : Boxed w5 (w.heap.size + 1 + 1 + 1 + 1) 24 (.slice (some ⟨w.heap.size + 1 + 1 + 1, 0, none⟩) 0 0) := (b05.block _ (by omega)).trans q4
  replace oE := oE.below b05
  have hw3 : w.heap.size + 5 ≤ w3.heap.size := by omega
  clear hb2 hb3 hb5 oL2 B2 B3 B0 s2 s3 b05
  gi_wp2_with fail
  have hgv := fun n hn => greedyRounds_gives n hn base gs cs K PS HKl.out h1 hl (unionL PS) HCv.out (w3.heap.size + 1) w3.heap.size w5 oL5 rQ rS
  have b15 : Below w5.heap.size w5 w5 := Below.refl _ _
  refine range_gives2 (m := 1) rfl (by omega) (gf := 108) (lb := #[.pointer (some ⟨w3.heap.size + 1, 0, none⟩), .pointer (some ⟨w3.heap.size, 0, none⟩)]) rfl trivial (enters_of Tryz.func108 (by kernel_rfl) rfl) (hgv (6 - 1) (by omega)) kpR_t
    (fun A C row hg hr hA => kpR_g A C row hg hr hA) b15 (fun _ => rfl)
    (fun (pre : List Int) W => (∃ v, Boxed W (w.heap.size + 1 + 1 + 1 + 1) 24 v ∧ W.ownsRow w.heap.size 2 1 v pre.length (pre.map (Value.int .i64)) ∧ ∀ k, v.ownBlock = some k → k = w.heap.size + 1 + 1 + 1 ∨ w5.heap.size + 2 + 1 ≤ k) ∧ (W.heap[w.heap.size]? = some (.cells #[.int .i64 (most : Int)] 3 (0, 0)) ∧ W.heap[w.heap.size + 1]? = some (.cells #[.slice none 0 0] 24 (0, 0)) ∧ W.heap[w.heap.size + 1 + 1]? = some (.cells #[.int .i64 0] 2 (0, 0))) ∧ pre.length ≤ most ∧ (Below w.heap.size w W ∧ w5.heap.size ≤ W.heap.size))
    (fun c (pre : List Int) W => c = .ret ∧ most < pre.length ∧ (W.heap[w.heap.size + 1]? = some (.cells #[.slice none 0 0] 24 (0, 0)) ∧ W.heap[w.heap.size + 1 + 1]? = some (.cells #[.int .i64 3] 2 (0, 0))) ∧ Below w.heap.size w W ∧ w5.heap.size ≤ W.heap.size)
    (fun q W => ((∃ v, Boxed W (w.heap.size + 1 + 1 + 1 + 1) 24 v ∧ W.ownsRow w.heap.size 2 1 v q.1.length (q.1.map (Value.int .i64)) ∧ ∀ k, v.ownBlock = some k → k = w.heap.size + 1 + 1 + 1 ∨ w5.heap.size + 2 + 1 ≤ k) ∧ (W.heap[w.heap.size]? = some (.cells #[.int .i64 (most : Int)] 3 (0, 0)) ∧ W.heap[w.heap.size + 1]? = some (.cells #[.slice none 0 0] 24 (0, 0)) ∧ W.heap[w.heap.size + 1 + 1]? = some (.cells #[.int .i64 0] 2 (0, 0))) ∧ q.1.length ≤ most ∧ (Below w.heap.size w W ∧ w5.heap.size ≤ W.heap.size)) ∧ q.2.2 = { tmps := #[.slice (some ⟨gs, 0, none⟩) K cs, .int .i64 (most : Int), undef, .pointer (some ⟨w.heap.size, 0, none⟩), .pointer (some ⟨w.heap.size + 1, 0, none⟩), .pointer (some ⟨w.heap.size + 1 + 1, 0, none⟩), .pointer (some ⟨w.heap.size + 1 + 1 + 1 + 1, 0, none⟩), .int .i64 q.2.1, .slice (some ⟨w.heap.size + 1 + 1 + 1, 0, none⟩) 0 0, .slice (some ⟨gs, 0, none⟩) K cs, .slice (some ⟨gs, 0, none⟩) K cs, .func (.func 105) #[] #[.pointer (some ⟨W0.heap.size, 0, none⟩)], .agg (setA (unionL PS)), .func (.func 108) #[] #[.pointer (some ⟨w3.heap.size + 1, 0, none⟩), .pointer (some ⟨w3.heap.size, 0, none⟩)], .int .i64 q.2.1, undef, undef, undef, undef, undef, undef, undef, undef, undef], defers := [] })
    ?ownI ?ownX ?ownA ⟨⟨_, q4, oE, fun k e => .inl (by simp [Value.ownBlock] at e; omega)⟩, ⟨q0, q1, q2⟩, Nat.zero_le _, B5, Nat.le_refl _⟩ ?assign ?body ?done ?stop
  case ownX =>
    rintro c pre A C row ⟨e1, e2, ⟨e3, e4⟩, e5, e6⟩ hg hr
    exact ⟨e1, e2, ⟨(hg.block _ (by omega) (fun e => by have := (hr _ e.symm).1; omega)).trans e3, (hg.block _ (by omega) (fun e => by have := (hr _ e.symm).1; omega)).trans e4⟩, e5.grown hg (by omega) (fun k e => by have := (hr k e).1; omega), Nat.le_trans e6 hg.size⟩
  case ownI =>
    rintro pre A C row ⟨⟨v, hv, hrow, hbl⟩, ⟨e0, e1, e2⟩, hl', hB', hsz⟩ hg hr
    have hne : ∀ k, v.ownBlock = some k → row ≠ some k := fun k e ee => by
      rcases (hr k ee).2 with h | ⟨o, ho, hc⟩
      · have h1 := hbl k e; have h2 := (hr k ee).1; omega
      · rcases hrow.2 with ⟨rfl, _⟩ | ⟨g, cap, cur, rfl, _, hh, _⟩
        · simp [Value.ownBlock] at e
        · obtain rfl : g = k := by simpa [Value.ownBlock] using e
          rw [hh] at ho; cases ho; cases hc
    have ot : ∀ (b : Nat) (o : Obj), b < w5.heap.size → A.heap[b]? = some o → C.heap[b]? = some o := fun b o hb h => (hg.block _ (by omega) (fun e => by have := (hr _ e.symm).1; omega)).trans h
    exact ⟨⟨v, ot _ _ (by omega) hv, World.ownsRow.kept hrow hg (by cases e : v.ownBlock with | none => exact .inl rfl | some k => exact .inr (fun ee => hne k e ee.symm)), hbl⟩, ⟨ot _ _ (by omega) e0, ot _ _ (by omega) e1, ot _ _ (by omega) e2⟩, hl', hB'.grown hg (by omega) (fun k e => by have := (hr k e).1; omega), Nat.le_trans hsz hg.size⟩
  case ownA =>
    rintro q A C row ⟨⟨⟨v, hv, hrow, hbl⟩, ⟨e0, e1, e2⟩, hl', hB', hsz⟩, ha⟩ hg hr
    have hne : ∀ k, v.ownBlock = some k → row ≠ some k := fun k e ee => by
      rcases (hr k ee).2 with h | ⟨o, ho, hc⟩
      · have h1 := hbl k e; have h2 := (hr k ee).1; omega
      · rcases hrow.2 with ⟨rfl, _⟩ | ⟨g, cap, cur, rfl, _, hh, _⟩
        · simp [Value.ownBlock] at e
        · obtain rfl : g = k := by simpa [Value.ownBlock] using e
          rw [hh] at ho; cases ho; cases hc
    have ot : ∀ (b : Nat) (o : Obj), b < w5.heap.size → A.heap[b]? = some o → C.heap[b]? = some o := fun b o hb h => (hg.block _ (by omega) (fun e => by have := (hr _ e.symm).1; omega)).trans h
    exact ⟨⟨⟨v, ot _ _ (by omega) hv, World.ownsRow.kept hrow hg (by cases e : v.ownBlock with | none => exact .inl rfl | some k => exact .inr (fun ee => hne k e ee.symm)), hbl⟩, ⟨ot _ _ (by omega) e0, ot _ _ (by omega) e1, ot _ _ (by omega) e2⟩, hl', hB'.grown hg (by omega) (fun k e => by have := (hr k e).1; omega), Nat.le_trans hsz hg.size⟩, ha⟩
  case assign =>
    intro l pre x W Kc h hK
    dsimp only [encI]
    gi_wp2
    exact hK _ _ ⟨h, rfl⟩ (Below.refl _ _)
  case body =>
    rintro l pre x a' W ⟨⟨⟨v, hv, hrow, hbl⟩, ⟨e0, e1, e2⟩, hl', hB', hsz⟩, ha⟩ hlt hbig
    dsimp only at ha hrow hl'
    subst ha
    have hc := hv.cell
    have c0 := cell_of_heap e0
    obtain ⟨aV, cV, hvs⟩ : ∃ a c, v = .slice a pre.length c := by obtain ⟨x1, x2, x3, _⟩ := OwnInts.ints (S := pre) hrow; exact ⟨x1, x2, x3⟩
    subst hvs
    by_cases hpl : pre.length = most
    · have hpI : ((pre.length : Int) == (most : Int)) = true := by simp [hpl]
      have c1 := cell_of_heap e1
      have c2 := cell_of_heap e2
      have f1 := frozen_of_row W (w.heap.size + 1) 0 _ _ e1
      have f2 := frozen_of_row W (w.heap.size + 1 + 1) 0 _ _ e2
      have HPL := Lib.hid hpl
      clear hpl
      gi_wp2
      have g1 := grownBy_setCell' W (w.heap.size + 1) (.slice none 0 0)
      have g2 := grownBy_setCell' (W.setCell ⟨w.heap.size + 1, 0, none⟩ (.slice none 0 0)) (w.heap.size + 1 + 1) (.int .i64 3)
      have r1 : Boxed (W.setCell ⟨w.heap.size + 1, 0, none⟩ (.slice none 0 0)) (w.heap.size + 1) 24 (.slice none 0 0) := (show Boxed W (w.heap.size + 1) 24 (.slice none 0 0) from e1).set _
      have r2 : Boxed (W.setCell ⟨w.heap.size + 1, 0, none⟩ (.slice none 0 0)) (w.heap.size + 1 + 1) 2 (.int .i64 0) := (show Boxed W (w.heap.size + 1 + 1) 2 (.int .i64 0) from e2).other (by omega) _
      refine ⟨(KeepsFrom.of_grownBy g1 (fun j e => by cases e; omega)).trans (KeepsFrom.of_grownBy g2 (fun j e => by cases e; omega)), rfl, by rw [List.length_append, HPL.out]; simp, ⟨r1.other (by omega) _, r2.set _⟩, (hB'.grown g1 hB'.size (fun j e => by cases e; omega)).grown g2 (by simpa using hB'.size) (fun j e => by cases e; omega), by simpa using hsz⟩
    · have hpI : ((pre.length : Int) == (most : Int)) = false := by simp; omega
      have HPL := Lib.hid hpl
      clear hpl
      gi_wp2_with (gi_at_builtin; refine wpListIn_append_int_at rfl _ _ rfl w.heap.size _ _ rfl (OwnInts.alloc hrow _) W.heap.size x rfl (cell_new _ _ _) (by omega) (by have := hB'.size; simp; omega) ?_; intro v' w7 hown' hgrow hat; obtain ⟨k1, k2, k3, k4, k5⟩ := hv.appended (by decide) hrow hB'.size (by omega) hown' hgrow; obtain ⟨g', cap', rfl⟩ := own_snoc hown'; have hc1 := k1.cell; have hf1 := k1.frozen)
      have z7 : W.heap.size ≤ w7.heap.size := Nat.le_trans (by simp) hgrow.size
      have ka : ∀ b, b < W.heap.size → (∀ k, (Value.slice aV pre.length cV).ownBlock = some k → b ≠ k) → b ≠ w.heap.size + 1 + 1 + 1 + 1 → (w7.setCell ⟨w.heap.size + 1 + 1 + 1 + 1, 0, none⟩ (.slice (some ⟨g', 0, none⟩) (pre.length + 1) cap')).heap[b]? = W.heap[b]? := fun b hb h1 h2 => by
        refine ((grownBy_setCell' w7 (w.heap.size + 1 + 1 + 1 + 1) _).block b (by omega) (fun e => h2 (Option.some.inj e))).trans ?_
        refine (hgrow.block b (by simp; omega) (fun e => h1 b e.symm rfl)).trans ?_
        exact ((Below.refl _ W).alloc (Nat.le_refl _) (.cells #[.int .i64 x] 2)).block b hb
      have kk : ∀ b, b < W.heap.size → (b < w.heap.size + 3 ∨ (w.heap.size + 5 ≤ b ∧ b < w5.heap.size + 2 + 1)) → (w7.setCell ⟨w.heap.size + 1 + 1 + 1 + 1, 0, none⟩ (.slice (some ⟨g', 0, none⟩) (pre.length + 1) cap')).heap[b]? = W.heap[b]? := fun b hb h => ka b hb (fun k e e2 => by have := hbl k e; omega) (by omega)
      refine ⟨k4.from _, ⟨fun cur t e => (kk _ (by omega) (.inr ⟨by omega, by omega⟩)).trans e, fun cur t e => (kk _ (by omega) (.inr ⟨by omega, by omega⟩)).trans e, fun cur t e => (kk _ (by omega) (.inl (by omega))).trans e⟩, fun b h1 h2 h3 => kk b h3 (.inr ⟨by omega, by omega⟩), ⟨_, k2, k3, fun k e => ?_⟩, ⟨(kk _ (by omega) (.inl (by omega))).trans e0, (kk _ (by omega) (.inl (by omega))).trans e1, (kk _ (by omega) (.inl (by omega))).trans e2⟩, by rw [List.length_append]; have := HPL.out; simp; omega, hB'.trans k5, by have := k5.size; omega⟩
      rcases hat with h | h
      · exact hbl k (h.symm.trans e)
      · rw [h] at e
        have := Option.some.inj e
        simp at this
        omega
  case done =>
    rintro D xs W hD rfl ⟨⟨v, hv, hrow, hbl⟩, ⟨e0, e1, e2⟩, hl', hB', hsz⟩ hK
    have hc := hv.cell
    have c1 := cell_of_heap e1
    have c2 := cell_of_heap e2
    have f1 := frozen_of_row W (w.heap.size + 1) 0 _ _ e1
    have f2 := frozen_of_row W (w.heap.size + 1 + 1) 0 _ _ e2
    obtain ⟨L, hL⟩ : ∃ L, L = gnL (pAt PS) K (unionL PS) := ⟨_, rfl⟩
    rw [← hL] at hrow hl'
    have HV : Hid (upV PS K most = L ∧ upE PS K most = 0) := Lib.hid (by unfold upV upE upL; rw [← hL, if_pos hl', if_pos hl']; exact ⟨rfl, rfl⟩)
    obtain ⟨aV, cV, hvs⟩ : ∃ a c, v = .slice a L.length c := by obtain ⟨x1, x2, x3, _⟩ := OwnInts.ints (S := L) hrow; exact ⟨x1, x2, x3⟩
    subst hvs
    clear hL
    gi_wp2
    have hpc := Tryz.results51
    have g1 := grownBy_setCell' W (w.heap.size + 1) (.slice aV L.length cV)
    have g2 := grownBy_setCell' (W.setCell ⟨w.heap.size + 1, 0, none⟩ (.slice aV L.length cV)) (w.heap.size + 1 + 1) (.int .i64 0)
    have r1 : Boxed (W.setCell ⟨w.heap.size + 1, 0, none⟩ (.slice aV L.length cV)) (w.heap.size + 1) 24 (.slice aV L.length cV) := (show Boxed W (w.heap.size + 1) 24 (.slice none 0 0) from e1).set _
    have r2 : Boxed (W.setCell ⟨w.heap.size + 1, 0, none⟩ (.slice aV L.length cV)) (w.heap.size + 1 + 1) 2 (.int .i64 0) := (show Boxed W (w.heap.size + 1 + 1) 2 (.int .i64 0) from e2).other (by omega) _
    have o1 := World.ownsRow.kept hrow g1 (by cases e : (Value.slice aV L.length cV).ownBlock with | none => exact .inl rfl | some k => exact .inr (fun e2 => by have h3 := hbl k e; have e3 : k = w.heap.size + 1 := Option.some.inj e2; omega))
    have o2 := World.ownsRow.kept o1 g2 (by cases e : (Value.slice aV L.length cV).ownBlock with | none => exact .inl rfl | some k => exact .inr (fun e2 => by have h3 := hbl k e; have e3 : k = w.heap.size + 1 + 1 := Option.some.inj e2; omega))
    have hK2 := (g2.block D (by have := (Array.getElem?_eq_some_iff.1 hK).1; simpa using this) (fun e => by have e3 : D = w.heap.size + 1 + 1 := Option.some.inj e; omega)).trans ((g1.block D (Array.getElem?_eq_some_iff.1 hK).1 (fun e => by have e3 : D = w.heap.size + 1 := Option.some.inj e; omega)).trans hK)
    refine leaves_marksJ (B := w5.heap.size) (J := fun Y => (Boxed Y (w.heap.size + 1) 24 (.slice aV L.length cV) ∧ Boxed Y (w.heap.size + 1 + 1) 2 (.int .i64 0)) ∧ OwnInts Y w.heap.size (.slice aV L.length cV) L ∧ Below w.heap.size w Y ∧ w5.heap.size ≤ Y.heap.size)
      (fun Y r o o' hj hr hh ho => ⟨⟨hj.1.1.kept (grownBy_putObj' _ _ _) (fun e => by have e3 : w.heap.size + 1 = r := Option.some.inj e; omega), hj.1.2.kept (grownBy_putObj' _ _ _) (fun e => by have e3 : w.heap.size + 1 + 1 = r := Option.some.inj e; omega)⟩, own_put hj.2.1 hh ho, hj.2.2.1.grown (grownBy_putObj' _ _ _) hj.2.2.1.size (fun j e => by cases e; omega), by simpa using hj.2.2.2⟩)
      (fun Y hj => ⟨_, results_up hpc _ (by rfl) (by rfl) hj.1.1.cell hj.1.2.cell, _, by rw [HV.out.2], by rw [HV.out.1]; exact hj.2.1, hj.2.2.1⟩) _ _ ⟨⟨D, rfl, hD, hK2, by simp⟩, trivial⟩
      ⟨⟨r1.other (by omega) _, r2.set _⟩, o2, (hB'.grown g1 hB'.size (fun j e => by cases e; omega)).grown g2 (by simpa using hB'.size) (fun j e => by cases e; omega), by simpa using hsz⟩
  case stop =>
    rintro D c pre W hD hSp ⟨rfl, hm, ⟨e1, e2⟩, hB', hsz⟩ hK
    have HV : Hid (upV PS K most = [] ∧ upE PS K most = 3) := Lib.hid (by unfold upV upE upL; rw [if_neg (by omega), if_neg (by omega)]; exact ⟨rfl, rfl⟩)
    gi_wp2
    have hpc := Tryz.results51
    refine leaves_marksJ (B := w5.heap.size) (J := fun Y => (Boxed Y (w.heap.size + 1) 24 (.slice none 0 0) ∧ Boxed Y (w.heap.size + 1 + 1) 2 (.int .i64 3)) ∧ Below w.heap.size w Y ∧ w5.heap.size ≤ Y.heap.size)
      (fun Y r o o' hj hr hh ho => ⟨⟨hj.1.1.kept (grownBy_putObj' _ _ _) (fun e => by have e3 : w.heap.size + 1 = r := Option.some.inj e; omega), hj.1.2.kept (grownBy_putObj' _ _ _) (fun e => by have e3 : w.heap.size + 1 + 1 = r := Option.some.inj e; omega)⟩, hj.2.1.grown (grownBy_putObj' _ _ _) hj.2.1.size (fun j e => by cases e; omega), by simpa using hj.2.2⟩)
      (fun Y hj => ⟨_, results_up hpc _ (by rfl) (by rfl) hj.1.1.cell hj.1.2.cell, _, by rw [HV.out.2], by rw [HV.out.1]; exact World.ownsRow_nil _ _ _ _, hj.2.1⟩) _ _ ⟨⟨D, rfl, hD, hK, by simp⟩, trivial⟩
      ⟨⟨e1, e2⟩, hB', hsz⟩

end

end Go.Proofs.YtpmfedllbiblbaaGreat
