/-
  Texts put together: Mic10, Cmi10, Lws, LawFnPairRows, Open, OpenB. By an AI agent.
-/
import Derived.Test.YtpmfedllbiblbaaGreatPk40
import Derived.Test.YtpmfedllbiblbaaGreatPkChc10
import Derived.Test.YtpmfedllbiblbaaGreatPk39
import Derived.Test.YtpmfedllbiblbaaGreatMis10
import Derived.Great.BuildSlice
import Derived.Test.YtpmfedllbiblbaaGreatRer10
import Derived.Test.YtpmfedllbiblbaaGreatHelp
import Derived.Test.YtpmfedllbiblbaaGreatPk47
import Derived.Test.YtpmfedllbiblbaaGreatPk48
import Derived.Test.YtpmfedllbiblbaaGreatPk49
import Derived.Test.YtpmfedllbiblbaaGreatPk44
import Derived.Test.YtpmfedllbiblbaaGreatFam
import Derived.Lib.MinMax
import Derived.Deep.Cut
import Derived.Test.YtpmfedllbiblbaaGreatMem
import Derived.ProofKit
import Derived.OpenShut
import Derived.Test.YtpmfedllbiblbaaGreatPk31
namespace Go.Proofs.YtpmfedllbiblbaaGreat
open Go.RowKit Cv
set_option linter.unusedVariables false
set_option linter.unusedSimpArgs false
set_option maxRecDepth 100000

/-- whether one of the first i rows has a choice -/
def anyR (S R : List Int) (i : Nat) (c : List Int) : Bool := (List.range i).any fun j => hasC (digs S (gi R j)) c
theorem msTo_filter (S : List Int) (C : List (List Int)) (R : List Int) (i : Nat) : msTo S C R i = C.filter fun c => !anyR S R i c := by
  induction i with
  | zero => exact (List.filter_eq_self.2 fun _ _ => rfl).symm
  | succ i ih =>
    rw [msTo, ih, List.filter_filter]
    refine List.filter_congr fun c _ => ?_
    unfold anyR
    rw [List.range_succ, List.any_append]
    simp [Bool.not_or, Bool.and_comm]
theorem union_chSets (S : List Int) (C : List (List Int)) (R : List Int) (u : Nat) (hu : u < C.length) : unionL (chSets S C R) u = anyR S R R.length (rr C u) := by
  unfold unionL chSets anyR
  rw [List.any_map]
  have e : ∀ L : List Int, (L.any ((fun p => p u) ∘ fun x => chP (digs S x) C C.length)) = L.any fun x => hasC (digs S x) (rr C u) := fun L => by
    congr 1; funext x; simp [chP, hu]
  rw [e]
  have e2 : R = (List.range R.length).map fun j => gi R j := ext_gi (by simp) fun i hi => by simp [gi, hi]
  rw [show (R.any fun x => hasC (digs S x) (rr C u)) = ((List.range R.length).map fun j => gi R j).any fun x => hasC (digs S x) (rr C u) from by rw [← e2], List.any_map]
  rfl
/-- the choices among the first i that no row has -/
def muJ (S : List Int) (C : List (List Int)) (R : List Int) (i : Nat) : List (List Int) := (C.take i).filter fun c => !anyR S R R.length c
theorem muJ_succ (S : List Int) (C : List (List Int)) (R : List Int) (i : Nat) (h : i < C.length) : muJ S C R (i + 1) = muJ S C R i ++ if anyR S R R.length (rr C i) = true then [] else [rr C i] := by
  unfold muJ
  rw [take_rr C i h, List.filter_append]
  by_cases e : anyR S R R.length (rr C i) = true <;> simp [e]
theorem muJ_all (S : List Int) (C : List (List Int)) (R : List Int) : muJ S C R C.length = msTo S C R R.length := by rw [msTo_filter]; unfold muJ; rw [List.take_length]
theorem muJ_len (S : List Int) (C : List (List Int)) (R : List Int) (i : Nat) : (muJ S C R i).length ≤ C.length := Nat.le_trans (List.length_filter_le _ _) (by rw [List.length_take]; omega)

theorem fill3 (z : Array Value) (hz : z.size = 3) (p : Ch3) : Instr.fill (fun i => some (i * 3, 3)) z [(0, .agg p.arr)] = some p.arr := by
  have h := Great.fill_whole (s := 3) (by decide) [.agg p.arr] z (fun v hv => by rw [List.mem_singleton.1 hv]; rfl) (by simp [hz])
  simpa [Value.cells] using h
theorem wpList_buildX {w : World} {ops : Array Oper} {rest : List Oper} {o : Oper} {a : Act} {Q : Exit → Act → World → Prop} (hgd : o.guard = none) (x : Operand)
    (ho : o.op = .buildSlice 57 1 #[(0, x)]) (p : Ch3) (hx : a.eval x = .agg p.arr)
    (h : wpList Tryz.prog ops Q rest (a.put o.dst (.slice (some ⟨w.heap.size, 0, none⟩) 1 1)) (w.alloc (.cells p.arr 64))) : wpList Tryz.prog ops Q (o :: rest) a w := by
  obtain ⟨i0, hi, hz0, hz1, hz2⟩ := info_parts infoCh3
  have hb : (Instr.buildSlice 57 1 #[(0, .agg p.arr)]).run Tryz.prog w = .ok (.slice (some ⟨w.heap.size, 0, none⟩) 1 1) (w.alloc (.cells p.arr 64)) :=
    run_buildSlice w 57 64 1 _ p.arr i0 (.agg Ch3.z.arr) Tryz.underlying57 hi hz0 (by rw [hz1]; decide) (by rw [hz1]; decide) (by
      rw [hz1]; exact fill3 _ (by simp) p)
  refine wpList_plain hgd fun K hK => ?_
  unfold Oper.wp execOp
  simp only [ho, Sem.run_bind, List.map_toArray, List.map_cons, List.map_nil, hx, hb, Result.andThen_ok]
  exact hK _ _ h
/-- an append of one choice -/
theorem wpList_append_X {w : World} {ops : Array Oper} {rest : List Oper} {o : Oper} {a : Act} {Q : Exit → Act → World → Prop} (hgd : o.guard = none) (s x : Operand)
    (ho : o.op = .call { callee := .builtin .append, args := #[s, x], argTypes := #[57, 57] })
    (base : Nat) (v : Value) (X : List Ch3) (hs : a.eval s = v) (hown : OwnXs w base v X) (b : Nat) (p : Ch3) (hp : p.one) (hx : a.eval x = .slice (some ⟨b, 0, none⟩) 1 1) (hc : w.heap[b]? = some (.cells p.arr 64 (0, 0)))
    (hlen : X.length ≤ 1048576) (hbase : base ≤ w.heap.size) (m : Nat) (hm : m = X.length + 1)
    (h : ∀ g c w', OwnXs w' base (.slice (some ⟨g, 0, none⟩) m c) (X ++ [p]) → w.grownBy w' v.ownBlock → wpList Tryz.prog ops Q rest (a.put o.dst (.slice (some ⟨g, 0, none⟩) m c)) w') : wpList Tryz.prog ops Q (o :: rest) a w := by
  subst hm
  obtain ⟨i0, hi, hz0, hz1, hz2⟩ := info_parts infoCh3
  refine wpList_plain hgd fun _ hK => ?_
  refine wp_append_lies w s x 57 ho base 64 i0 (.agg Ch3.z.arr) 3 72 Tryz.underlying57 hi hz0 hz1 hz2 rfl (by decide) v X.length (cellsX X) hs hown ⟨b, 0, none⟩ 1 1 p.arr.toList hx rfl ?_ ?_ (by decide) (by unfold maxLen; omega) (by omega) hbase _ rfl ?_
  · intro j u hj
    rw [addr_add, Nat.zero_add, cell_of_row w b j _ _ _ hc]
    simpa using hj
  · intro u hu
    have := hp
    unfold Ch3.one at this
    rw [Array.all_eq_true_iff_forall_mem] at this
    exact this u (by simpa using hu)
  · intro g cap w' h1 h2 _ _
    refine hK _ _ (h g cap w' ?_ h2)
    unfold OwnXs
    rw [List.length_append, cellsX_snoc]
    exact h1
theorem xAt_snoc (X : List Ch3) (p : Ch3) (j : Nat) (h : j < X.length + 1) : xAt (X ++ [p]) j = if j = X.length then p else xAt X j := by
  unfold xAt
  simp only [List.getD]
  by_cases e : j = X.length
  · subst e; simp
  · rw [if_neg e, List.getElem?_append_left (by omega)]

set_option maxHeartbeats 4000000 in
theorem missingChoices_any (ao : Option Addr) (S : List Int) (cap : Nat) (hSp : Sp S) (ar : Option Addr) (R : List Int) (capr : Nat) (hRl : R.length ≤ 1048576) (hR : ∀ i, i < R.length → 0 ≤ gi R i ∧ gi R i < nW S) (t : Nat) (ht1 : 0 < t) (ht3 : t ≤ 3) (w : World) (hS : Ints w ao S) (hRI : Ints w ar R) :
    Calls Tryz.prog 46 #[.agg #[.slice ao S.length cap], .slice ar R.length capr, .int .i64 (t : Int)] w fun e w' => ∃ g c, e = .returned (.slice (some ⟨g, 0, none⟩) (mL S R t).length c) ∧ w.heap.size ≤ g ∧ ChMem w' ao S.length cap g (mL S R t) t ∧ Below w.heap.size w w' := by
  have HSp := Lib.hid hSp
  have HR := Lib.hid hR
  have hC832 := allC_le hSp ht1 ht3
  have HCc : Hid (IsCs S.length t (allC S t)) := Lib.hid (allC_cs t)
  have HC2 : Hid (∀ c, c ∈ allC S t → c.length = 2 * t) := Lib.hid (allC_len2 S t)
  have hch := choicesOf_any ao S cap hSp t ht1 ht3
  have HML : Hid (mL S R t = muJ S (allC S t) R (allC S t).length) := Lib.hid (muJ_all _ _ _).symm
  obtain ⟨C, hC⟩ : ∃ C, C = allC S t := ⟨_, rfl⟩
  rw [← hC] at hC832 HCc HC2 hch HML
  have HMS := Lib.hid fun i => muJ_succ S C R i
  have HMN := Lib.hid fun i => muJ_len S C R i
  have HUN := Lib.hid fun u => union_chSets S C R u
  obtain ⟨NC, hNC⟩ : ∃ NC, NC = C.length := ⟨_, rfl⟩
  rw [← hNC] at hC832 hch HML HMN
  have HNC := Lib.hid hNC
  clear hC hNC hSp hR
  have B0 : Below w.heap.size w (w.alloc (.cells #[.slice ao S.length cap] 26)) := by go_grown
  have c0 := cell_new w (.slice ao S.length cap) 26
  have l0 := lt_alloc w (.cells #[.slice ao S.length cap] 26)
  go_enter Tryz.func46, Tryz.ntmps46
  go_wp2_with fail
  refine (hch _ (hS.below B0)).mono ?_
  rintro e w1 ⟨gx, g, nF, cF, rfl, oX, oF, hb1⟩
  have hCM : ChMem w1 ao S.length cap gx C t := ChMem.all HNC.out HC2.out oX oF fun k j hk hj => ⟨by
    rw [flat_lenC HC2.out]
    have := Nat.mul_le_mul_right (2 * t) (show k + 1 ≤ C.length from hk)
    rw [Nat.succ_mul] at this; omega, gi_flat k j HC2.out hk hj⟩
  have c1 := kept_cell hb1 c0 l0
  have l1 := lt_of_below hb1 l0
  have B1 := B0.trans (hb1.mono B0.size)
  have hcs := choiceSets_any ao S cap HSp.out ar R capr hRl HR.out gx NC S.length cap t ao C ht1 ht3 (by rw [← HNC.out]; omega) HCc.out w1 (hS.below B1) (hRI.below B1) hCM
  rw [← HNC.out] at hcs
  have Hcs := Lib.hid hcs
  clear c0 l0 B0 hb1 oX oF hcs hch
  go_wp2_with fail
  refine Hcs.out.mono ?_
  rintro e w2 ⟨gs, rfl, oS, hb2⟩
  have hCM2 := hCM.below hb2
  have c2 := kept_cell hb2 c1 l1
  have l2 := lt_of_below hb2 l1
  have B2 := B1.trans (hb2.mono B1.size)
  clear hb2 c1 l1 B1 hCM Hcs
  go_wp2_with fail
  refine (valuesS_any (some ⟨gs, 0, none⟩) R.length R.length w2).mono ?_
  rintro e w3 ⟨rfl, hvb, hb3⟩
  have oS3 := oS.below hb3
  have hgv := fun n (hn : 1 ≤ n) => valuesS_gives n hn w1.heap.size gs R.length R.length (chSets S C R) w2.heap.size (chSets_len S C R).symm (by omega) w3 oS3 hvb
  have htg := together_any 105 #[.pointer (some ⟨w2.heap.size, 0, none⟩)] (enters_of Tryz.func105 (by kernel_rfl) rfl) (Below w3.heap.size) (chSets S C R) R.length w3 (fun h k => h.trans k) (fun A B h => h) hgv
  have hCM3 := hCM2.below hb3
  have l3 := lt_of_below hb3 l2
  have B3 := B2.trans (hb3.mono B2.size)
  clear hb3 c2 l2 B2 hCM2 oS oS3 hvb hgv
  go_wp2_with fail
  refine htg.mono ?_
  rintro e w4 ⟨rfl, hb4⟩
  have hCM4 := hCM3.below hb4
  have B4 := B3.trans (hb4.mono B3.size)
  have HU : Hid (∀ u, u < NC → unionL (chSets S C R) u = anyR S R R.length (rr C u)) := Lib.hid fun u hu => HUN.out u (by rw [← HNC.out]; exact hu)
  obtain ⟨U, hU⟩ : ∃ U, U = unionL (chSets S C R) := ⟨_, rfl⟩
  rw [← hU] at HU ⊢
  have hz4 := rowz_new w4 rfl
  obtain ⟨w5, hw5⟩ : ∃ w5, w5 = (w4.alloc (.cells #[.int .u64 0, .int .u64 0, .int .u64 0, .int .u64 0, .int .u64 0, .int .u64 0, .int .u64 0, .int .u64 0, .int .u64 0, .int .u64 0, .int .u64 0, .int .u64 0, .int .u64 0, .int .u64 0, .int .u64 0, .int .u64 0] 68)).setRow w4.heap.size (setA U) := ⟨_, rfl⟩
  have r5 : RowAt w5 w4.heap.size U := by rw [hw5]; exact row_set hz4
  have b5 : Below w4.heap.size w4 w5 := by rw [hw5]; exact ((Below.refl _ w4).alloc (Nat.le_refl _) _).grown (grown_setRow _) (by simp) (fun j e => by cases e; exact Nat.le_refl _)
  have hCM5 := hCM4.below b5
  have B5 := B4.trans (b5.mono B4.size)
  have oM5 : OwnXs (w5.alloc (.cells #[] 64)) w5.heap.size (.slice (some ⟨w5.heap.size, 0, none⟩) 0 0) [] := World.ownsRow_made w5 (base := w5.heap.size) (e := 64) (size := 3) #[] 0 (Nat.le_refl _) (by simp [maxLen]) (by simp)
  have B6 : Below w5.heap.size w5 (w5.alloc (.cells #[] 64)) := (Below.refl _ _).alloc (Nat.le_refl _) _
  have HW5 := Lib.hid hw5
  clear hU hb4 htg hCM3 hCM4 l3 B3 B4 b5 hw5
  go_wp2_with (first | (refine wpList_st16 rfl _ _ rfl hz4 U rfl rfl ?_; rw [← HW5.out]) | fail)
  clear hz4
  have HMu0 : Hid (muJ S C R 0 = []) := Lib.hid rfl
  go_loopw [9, 24] (fun o x wr => ∃ (i gm cm M : Nat) (X : List Ch3), i ≤ NC ∧ x = .int .i64 (i : Int) ∧ o = .slice (some ⟨gm, 0, none⟩) M cm ∧ OwnXs wr w5.heap.size (.slice (some ⟨gm, 0, none⟩) M cm) X ∧ Hid (X.length = M ∧ (muJ S C R i).length = M ∧ ∀ j, j < M → ∃ g o, xAt X j = chX ao S.length cap g t o ∧ Ints w5 (some ⟨g, o, none⟩) (rr (muJ S C R i) j)) ∧ M ≤ i ∧ Below w5.heap.size w5 wr) (fun _ x _ => NC - (intOf x).toNat)
  case atStart => exact ⟨0, _, 0, 0, [], Nat.zero_le _, rfl, rfl, oM5, Lib.hid ⟨rfl, by rw [HMu0.out]; rfl, fun j hj => by omega⟩, Nat.le_refl _, B6⟩
  case round =>
    clear oM5 B6
    obtain ⟨i, gm, cm, M, X, hi, rfl, rfl, oX, HX, hMi, B⟩ := hrel
    have r8 := r5.below B r5.lt
    by_cases hlt : i < NC
    · have hlI : (i : Int) < (NC : Int) := by omega
      obtain ⟨hgx, g, o, ⟨hx1, hx2, hx3⟩, hIc⟩ := hCM5 i (by rw [← HNC.out]; exact hlt)
      replace hx1 := kept_cell B hx1 hgx
      replace hx2 := kept_cell B hx2 hgx
      replace hx3 := kept_cell B hx3 hgx
      simp only [chX] at hx1 hx2 hx3
      have HIc := Lib.hid hIc
      have hUi := HU.out i hlt
      have HMS1 := Lib.hid (HMS.out i (by rw [← HNC.out]; exact hlt))
      have hbw : Below wr.heap.size wr (wr.alloc (.cells #[.slice ao S.length cap, .slice (some ⟨g, o, none⟩) t t, .slice (some ⟨g, o + t, none⟩) t t] 64)) := (Below.refl _ _).alloc (Nat.le_refl _) _
      have r9 := r8.below hbw r8.lt
      have hla := lacks_any U i (by omega) (wr.alloc (.cells #[.slice ao S.length cap, .slice (some ⟨g, o, none⟩) t t, .slice (some ⟨g, o + t, none⟩) t t] 64))
      have hr : (wr.alloc (.cells #[.slice ao S.length cap, .slice (some ⟨g, o, none⟩) t t, .slice (some ⟨g, o + t, none⟩) t t] 64)).heap[wr.heap.size]? = some (.cells #[.slice ao S.length cap, .slice (some ⟨g, o, none⟩) t t, .slice (some ⟨g, o + t, none⟩) t t] 64 (0, 0)) := heap_alloc_new _ _
      clear hIc r8
      cases hu : U i with
      | true =>
        rw [hu] at hla
        have hMn : muJ S C R (i + 1) = muJ S C R i := by rw [HMS1.out, if_pos (by rw [← hUi]; exact hu), List.append_nil]
        have HX2 : Hid (X.length = M ∧ (muJ S C R (i + 1)).length = M ∧ ∀ j, j < M → ∃ g o, xAt X j = chX ao S.length cap g t o ∧ Ints w5 (some ⟨g, o, none⟩) (rr (muJ S C R (i + 1)) j)) := Lib.hid (by rw [hMn]; exact HX.out)
        clear hMn hu hUi hr
        go_wp2_with (first | (refine wpList_ld16 rfl _ rfl r9 rfl ?_) | (go_at_call 89; refine hla.mono ?_; rintro e w9 ⟨rfl, hb9⟩) | fail)
        have H9 := hbw.trans (hb9.mono hbw.size)
        have oX9 := oX.below H9
        have B9 := B.trans (H9.mono B.size)
        clear oX HX B hb9 H9 hx1 hx2 hx3 hbw r9
        go_roundw
        case rel => exact ⟨i + 1, gm, cm, M, X, by omega, by go_num, rfl, oX9, HX2, by omega, B9⟩
        case measure => simp [intOf]; omega
      | false =>
        rw [hu] at hla
        have hMn : muJ S C R (i + 1) = muJ S C R i ++ [rr C i] := by rw [HMS1.out, if_neg (by rw [← hUi, hu]; decide)]
        have HX2 : Hid ((X ++ [chX ao S.length cap g t o]).length = M + 1 ∧ (muJ S C R (i + 1)).length = M + 1 ∧ ∀ j, j < M + 1 → ∃ g' o', xAt (X ++ [chX ao S.length cap g t o]) j = chX ao S.length cap g' t o' ∧ Ints w5 (some ⟨g', o', none⟩) (rr (muJ S C R (i + 1)) j)) := Lib.hid ⟨by simp [HX.out.1], by rw [hMn]; simp [HX.out.2.1], fun j hj => by
          rw [hMn, xAt_snoc _ _ _ (by rw [HX.out.1]; exact hj), rr_app _ _ _ (by rw [HX.out.2.1]; exact hj), HX.out.1, HX.out.2.1]
          by_cases e : j = M
          · rw [if_pos e, if_pos e]; exact ⟨g, o, rfl, HIc.out⟩
          · rw [if_neg e, if_neg e]; exact HX.out.2.2 j (by omega)⟩
        have HXl := Lib.hid HX.out.1
        clear hMn hu hUi
        have hz5 := B.size
        have hzl : wr.heap.size < (wr.alloc (.cells #[.slice ao S.length cap, .slice (some ⟨g, o, none⟩) t t, .slice (some ⟨g, o + t, none⟩) t t] 64)).heap.size := by simp
        go_wp2_with (first
          | (refine wpList_ld16 rfl _ rfl r9 rfl ?_)
          | (go_at_call 89; refine hla.mono ?_; rintro e w9 ⟨rfl, hb9⟩; have H9 := hbw.trans (hb9.mono hbw.size); have hr9 := (hb9.block _ hzl).trans hr; have oX9 := oX.below H9; have z9 := H9.size)
          | (refine wpList_load_row rfl _ _ rfl wr.heap.size rfl _ _ _ _ hr9 Tryz.underlying64 rfl infoCh ?_)
          | (refine wpList_buildX rfl _ rfl (chX ao S.length cap g t o) rfl ?_)
          | (at_builtin; refine wpList_append_X rfl _ _ rfl w5.heap.size _ X rfl (oX9.alloc _) w9.heap.size (chX ao S.length cap g t o) (chX_one _ _ _ _ _ _) rfl (heap_alloc_new _ _) (by rw [HXl.out]; omega) (by rw [World.size_alloc]; omega) (M + 1) (by rw [HXl.out]) ?_; intro g9 c9 w10 oX10 hg10)
          | fail)
        have b10 : Below w5.heap.size wr w10 := ((H9.mono hz5).alloc (Nat.le_trans hz5 H9.size) (.cells (chX ao S.length cap g t o).arr 64)).grown hg10 (by rw [World.size_alloc]; omega) (fun z hz => by have h1 := oX9.base_le.1; cases hz; exact h1)
        have B10 := B.trans b10
        clear oX HX B hb9 H9 hx1 hx2 hx3 hbw r9 oX9 hr9 hg10 b10
        go_wp2_with fail
        go_roundw
        case rel => exact ⟨i + 1, g9, c9, M + 1, _, by omega, by go_num, rfl, oX10, HX2, by omega, B10⟩
        case measure => simp [intOf]; omega
    · have hlI : ¬ (i : Int) < (NC : Int) := by omega
      have hin : i = NC := by omega
      have HE : Hid (mL S R t = muJ S C R i) := Lib.hid (by rw [HML.out, hin])
      have HM2 : Hid ((mL S R t).length = M) := Lib.hid (by rw [HE.out]; exact HX.out.2.1)
      have hgm := oX.base_le
      have hch : ChMem wr ao S.length cap gm (mL S R t) t := fun j hj => by
        rw [HM2.out] at hj
        obtain ⟨g', o', e1, e2⟩ := HX.out.2.2 j hj
        have hcx := oX.cells j (by rw [HX.out.1]; exact hj)
        rw [e1] at hcx
        exact ⟨hgm.2, g', o', hcx, by rw [HE.out]; exact e2.below B⟩
      have hz5 : w.heap.size ≤ w5.heap.size := B5.size
      clear hin
      go_wp2_with fail
      go_ret
      exact ⟨gm, ⟨cm, by rw [HM2.out]; rfl⟩, by omega, hch, B5.trans (B.mono hz5)⟩

end Go.Proofs.YtpmfedllbiblbaaGreat

namespace Go.Proofs.YtpmfedllbiblbaaGreat
open Go.RowKit Cv
set_option linter.unusedVariables false
set_option linter.unusedSimpArgs false
set_option maxRecDepth 100000

set_option maxHeartbeats 2000000 in
theorem impl_CountMissing (ao : Option Addr) (S : List Int) (cap : Nat) (hn : S.length ≤ 4294967296) (ar : Option Addr) (R : List Int) (capr : Nat) (hnr : R.length ≤ 4294967296) (t : Int) (ht : -9223372036854775808 ≤ t ∧ t ≤ 9223372036854775807) (w : World) (hS : Ints w ao S) (hRI : Ints w ar R) :
    Calls Tryz.prog 13 #[.agg #[.slice ao S.length cap], .slice ar R.length capr, .int .i64 t] w fun e w' => e = .returned (.tuple #[.int .i64 (vCm S R t), .int .i64 (eR10 S R t)]) ∧ Below w.heap.size w w' := by
  have B0 : Below w.heap.size w (w.alloc (.cells #[.slice ao S.length cap] 26)) := by go_grown
  have c0 := cell_new w (.slice ao S.length cap) 26
  have l0 := lt_alloc w (.cells #[.slice ao S.length cap] 26)
  have hc := rowsError_any ao S cap hn ar R capr hnr t _ (hS.below B0) (hRI.below B0)
  by_cases he : eR10 S R t = 0
  case neg =>
    have HV : Hid (vCm S R t = 0) := Lib.hid (by unfold vCm; rw [if_neg he])
    obtain ⟨E, hE⟩ : ∃ E, E = eR10 S R t := ⟨_, rfl⟩
    rw [← hE] at hc he ⊢
    have hb : (E != 0) = true := by simpa using he
    clear hE he
    go_enter Tryz.func13, Tryz.ntmps13
    go_wp2_with fail
    refine hc.mono ?_
    rintro e w1 ⟨rfl, hb1⟩
    have B1 := B0.trans (hb1.mono B0.size)
    go_wp2_with fail
    go_ret2
    exact ⟨ret_i2 HV.out.symm rfl, B1⟩
  obtain ⟨hSp, hRb, hR2, g1, g2, g3⟩ := eR10_zero he
  have HSp := Lib.hid hSp
  have HRb := Lib.hid hRb
  have HV : Hid (vCm S R t = ((mL S R t.toNat).length : Nat)) := Lib.hid (by unfold vCm; rw [if_pos he])
  have HE := Lib.hid he
  rw [he] at hc
  clear he hRb
  obtain ⟨t, rfl⟩ : ∃ n : Nat, t = n := ⟨t.toNat, by omega⟩
  rw [Int.toNat_natCast] at HV
  have ht1 : 0 < t := by omega
  have ht3 : t ≤ 3 := by omega
  clear hSp
  go_enter Tryz.func13, Tryz.ntmps13
  go_wp2_with fail
  refine hc.mono ?_
  rintro e w1 ⟨rfl, hb1⟩
  have c1 := kept_cell hb1 c0 l0
  have B1 := B0.trans (hb1.mono B0.size)
  clear hc c0 l0 B0 hb1
  go_wp2_with fail
  refine (missingChoices_any ao S cap HSp.out ar R capr (by omega) HRb.out t ht1 ht3 _ (hS.below B1) (hRI.below B1)).mono ?_
  rintro e w2 ⟨g, c, rfl, _, _, hb2⟩
  go_wp2_with fail
  go_ret2
  exact ⟨ret_i2 HV.out.symm HE.out.symm, B1.trans (hb2.mono B1.size)⟩

theorem eC10_nil (S : List Int) (t : Int) : eR10 S [] t = eC10 S t := by
  unfold eR10
  by_cases h : isSp S = true
  · rw [if_pos h, if_pos ⟨rfl, by simp⟩]
  · rw [if_neg h]; unfold eC10; rw [if_neg h]
theorem vCc_nil (S : List Int) (t : Int) : vCm S [] t = vCc S t := by
  unfold vCm vCc mL
  rw [eC10_nil]
  rfl

set_option maxHeartbeats 2000000 in
theorem impl_CountChoices (ao : Option Addr) (S : List Int) (cap : Nat) (hn : S.length ≤ 4294967296) (t : Int) (ht : -9223372036854775808 ≤ t ∧ t ≤ 9223372036854775807) (w : World) (hS : Ints w ao S) :
    Calls Tryz.prog 20 #[.agg #[.slice ao S.length cap], .int .i64 t] w fun e w' => e = .returned (.tuple #[.int .i64 (vCc S t), .int .i64 (eC10 S t)]) ∧ Below w.heap.size w w' := by
  have B0 : Below w.heap.size w (w.alloc (.cells #[.slice ao S.length cap] 26)) := by go_grown
  have c0 := cell_new w (.slice ao S.length cap) 26
  have hc := impl_CountMissing ao S cap hn none [] 0 (by simp) t ht _ (hS.below B0) (.inl rfl)
  rw [eC10_nil, vCc_nil] at hc
  go_enter Tryz.func20, Tryz.ntmps20
  go_wp2_with fail
  refine hc.mono ?_
  rintro e w1 ⟨rfl, hb1⟩
  go_wp2_with fail
  go_ret2
  exact ⟨rfl, B0.trans (hb1.mono B0.size)⟩

set_option maxHeartbeats 2000000 in
theorem impl_StrengthOf (ao : Option Addr) (S : List Int) (cap : Nat) (hn : S.length ≤ 4294967296) (ar : Option Addr) (R : List Int) (capr : Nat) (hnr : R.length ≤ 4294967296) (w : World) (hS : Ints w ao S) (hRI : Ints w ar R) :
    Calls Tryz.prog 25 #[.agg #[.slice ao S.length cap], .slice ar R.length capr] w fun e w' => e = .returned (.tuple #[.int .i64 (vSt S R), .int .i64 (eR10 S R 1)]) ∧ Below w.heap.size w w' := by
  have B0 : Below w.heap.size w (w.alloc (.cells #[.slice ao S.length cap] 26)) := by go_grown
  have c0 := cell_new w (.slice ao S.length cap) 26
  have l0 := lt_alloc w (.cells #[.slice ao S.length cap] 26)
  have hc := rowsError_any ao S cap hn ar R capr hnr 1 _ (hS.below B0) (hRI.below B0)
  by_cases he : eR10 S R 1 = 0
  case neg =>
    have HV : Hid (vSt S R = 0) := Lib.hid (by unfold vSt; rw [if_neg he])
    obtain ⟨E, hE⟩ : ∃ E, E = eR10 S R 1 := ⟨_, rfl⟩
    rw [← hE] at hc he ⊢
    have hb : (E != 0) = true := by simpa using he
    clear hE he
    go_enter Tryz.func25, Tryz.ntmps25
    go_wp2_with fail
    refine hc.mono ?_
    rintro e w1 ⟨rfl, hb1⟩
    have B1 := B0.trans (hb1.mono B0.size)
    go_wp2_with fail
    go_ret2
    exact ⟨ret_i2 HV.out.symm rfl, B1⟩
  obtain ⟨hSp, hRb, hR2, g1, g2, g3⟩ := eR10_zero he
  have HSp := Lib.hid hSp
  have HRb := Lib.hid hRb
  have hn8 := hSp.hi
  obtain ⟨M, hM⟩ : ∃ M, M = min 3 S.length := ⟨_, rfl⟩
  have HV : Hid (vSt S R = (stTo S R M : Nat)) := Lib.hid (by unfold vSt; rw [if_pos he, hM])
  have HE := Lib.hid he
  have HGS := Lib.hid fun w => greatestStrength_any ao S cap (M : Int) (by omega) w
  have hM3 : M ≤ 3 := by omega
  rw [he] at hc
  clear he hRb hSp hM
  go_enter Tryz.func25, Tryz.ntmps25
  go_wp2_with fail
  refine hc.mono ?_
  rintro e w1 ⟨rfl, hb1⟩
  have c1 := kept_cell hb1 c0 l0
  have l1 := lt_of_below hb1 l0
  have B1 := B0.trans (hb1.mono B0.size)
  clear hc c0 l0 B0 hb1
  go_wp2_with fail
  refine (HGS.out _).mono ?_
  rintro e w2 ⟨rfl, hb2⟩
  have c2 := kept_cell hb2 c1 l1
  have l2 := lt_of_below hb2 l1
  have B2 := B1.trans (hb2.mono B1.size)
  clear c1 l1 B1 hb2
  go_wp2_with fail
  go_loopw [7] (fun x wr => ∃ s : Nat, s ≤ 3 ∧ x = .int .i64 (s : Int) ∧ Hid (stTo S R M = stTo S R s) ∧ wr.cell? ⟨w.heap.size, 0, none⟩ = some (.slice ao S.length cap) ∧ w.heap.size < wr.heap.size ∧ Below w.heap.size w wr) (fun x _ => (intOf x).toNat)
  case atStart => exact ⟨M, hM3, rfl, Lib.hid rfl, c2, l2, B2⟩
  case round =>
    clear c2 l2 B2
    obtain ⟨s, hs3, rfl, HS, c1, l1, B⟩ := hrel
    cases s with
    | zero =>
      have HS0 : Hid (stTo S R M = 0) := Lib.hid (by rw [HS.out]; rfl)
      go_wp2_with fail
      go_ret2
      exact ⟨ret_i2 (by rw [HV.out, HS0.out]) HE.out.symm, B⟩
    | succ s =>
      have ht1 : 0 < s + 1 := by omega
      have i1 : (0 : Int) < (s : Int) + 1 := by omega
      have HS2 : Hid (stTo S R (s + 1) = if mL S R (s + 1) = [] then s + 1 else stTo S R s) := Lib.hid rfl
      have hcm := missingChoices_any ao S cap HSp.out ar R capr (by omega) HRb.out (s + 1) ht1 hs3 wr (hS.below B) (hRI.below B)
      push_cast at hcm ⊢
      by_cases hm : mL S R (s + 1) = []
      · have HST : Hid (stTo S R M = s + 1) := Lib.hid (by rw [HS.out, HS2.out, if_pos hm])
        have hl : (mL S R (s + 1)).length = 0 := by rw [hm]; rfl
        rw [hl] at hcm
        clear hm hl
        go_wp2_with fail
        refine hcm.mono ?_
        rintro e w5 ⟨g, c, rfl, _, _, hb5⟩
        have B5 := B.trans (hb5.mono B.size)
        go_wp2_with fail
        go_ret2
        exact ⟨ret_i2 (by rw [HV.out, HST.out]; push_cast; rfl) HE.out.symm, B5⟩
      · have HST : Hid (stTo S R M = stTo S R s) := Lib.hid (by rw [HS.out, HS2.out, if_neg hm])
        obtain ⟨ml, hml⟩ : ∃ ml, ml = (mL S R (s + 1)).length := ⟨_, rfl⟩
        rw [← hml] at hcm
        have hmb : (0 : Int) < (ml : Int) := by
          have : (mL S R (s + 1)).length ≠ 0 := fun e => hm (List.eq_nil_of_length_eq_zero e)
          omega
        clear hm hml
        go_wp2_with fail
        refine hcm.mono ?_
        rintro e w5 ⟨g, c, rfl, _, _, hb5⟩
        have B5 := B.trans (hb5.mono B.size)
        have c5 := kept_cell hb5 c1 l1
        have l5 := lt_of_below hb5 l1
        clear hcm hb5 B c1 l1
        go_wp2_with fail
        go_roundw
        case rel => exact ⟨s, by omega, by go_num, HST, c5, l5, B5⟩
        case measure => simp [intOf]

end Go.Proofs.YtpmfedllbiblbaaGreat

namespace Go.Proofs.YtpmfedllbiblbaaGreat
open Go.RowKit Cv
set_option linter.unusedVariables false
set_option linter.unusedSimpArgs false
set_option maxRecDepth 100000

theorem big_any (a : Option Addr) (n cap : Nat) (w : World) :
    Calls Tryz.prog 5 #[.slice a n cap] w fun e w' => e = .returned (.bool (decide (4096 < n))) ∧ Below w.heap.size w w' := by
  have e1 : decide ((4096 : Int) < (n : Int)) = decide (4096 < n) := by
    by_cases h : 4096 < n
    · rw [decide_eq_true h, decide_eq_true (by omega)]
    · rw [decide_eq_false h, decide_eq_false (by omega)]
  by_cases h : 4096 < n
  · have i1 : (4096 : Int) < (n : Int) := by omega
    rw [decide_eq_true h]
    clear e1 h
    go_enter Tryz.func5, Tryz.ntmps5
    go_wp2_with fail
    go_ret
    exact ⟨rfl, Below.refl _ _⟩
  · have i1 : ¬ (4096 : Int) < (n : Int) := by omega
    rw [decide_eq_false h]
    clear e1 h
    go_enter Tryz.func5, Tryz.ntmps5
    go_wp2_with fail
    go_ret
    exact ⟨rfl, Below.refl _ _⟩

theorem likeInts_same (a a' : Option Addr) (S : List Int) (c c' : Nat) (w : World) (hn : S.length ≤ 4294967296) (h : Ints w a S) (h' : Ints w a' S) :
    Calls Tryz.prog 9 #[.slice a S.length c, .slice a' S.length c'] w fun e w' => e = .returned (.bool true) ∧ Below w.heap.size w w' := by
  go_enter Tryz.func9, Tryz.ntmps9
  go_wp2
  go_loopw [5] (fun i wr => ∃ k : Nat, k ≤ S.length ∧ i = .int .i64 k ∧ Below w.heap.size w wr) (fun i _ => S.length - (intOf i).toNat)
  case atStart => exact ⟨0, Nat.zero_le _, rfl, Below.refl _ _⟩
  case round =>
    obtain ⟨k, hk, rfl, hbel⟩ := hrel
    by_cases hlt : k < S.length
    · obtain ⟨b, o, rfl, hb, hc⟩ := h.at hlt
      obtain ⟨b', o', rfl, hb', hc'⟩ := h'.at hlt
      have hck : wr.cell? ⟨b, o + k, none⟩ = some (.int .i64 (gi S k)) := (hbel.cell (p := ⟨b, o + k, none⟩) hb).trans (hc k hlt)
      have hck' : wr.cell? ⟨b', o' + k, none⟩ = some (.int .i64 (gi S k)) := (hbel.cell (p := ⟨b', o' + k, none⟩) hb').trans (hc' k hlt)
      clear hc hc'
      go_wp2
      go_quiet (fail)
      go_wp2
      go_roundw
      case rel => exact ⟨k + 1, by omega, by go_num, below_drewN hbel _⟩
      case measure => simp [intOf]; omega
    · go_wp2
      go_ret
      exact ⟨rfl, hbel⟩

/-- is x among the first k numbers of S -/
def hasTo (S : List Int) (x : Int) : Nat → Bool
  | 0 => false
  | k + 1 => hasTo S x k || gi S k == x
theorem hasTo_iff (S : List Int) (x : Int) : ∀ k, hasTo S x k = true ↔ ∃ j, j < k ∧ gi S j = x := by
  intro k
  induction k with
  | zero => simp [hasTo]
  | succ k ih =>
    simp only [hasTo, Bool.or_eq_true, ih, beq_iff_eq]
    constructor
    · rintro (⟨j, hj, e⟩ | e)
      · exact ⟨j, by omega, e⟩
      · exact ⟨k, by omega, e⟩
    · rintro ⟨j, hj, e⟩
      by_cases h : j = k
      · subst h; exact .inr e
      · exact .inl ⟨j, by omega, e⟩
theorem hasTo_mono {S : List Int} {x : Int} {k n : Nat} (h : k ≤ n) (hk : hasTo S x k = true) : hasTo S x n = true := by
  obtain ⟨j, hj, e⟩ := (hasTo_iff S x k).1 hk
  exact (hasTo_iff S x n).2 ⟨j, by omega, e⟩
end Go.Proofs.YtpmfedllbiblbaaGreat

namespace Go.Proofs.YtpmfedllbiblbaaGreat
open Go.RowKit Cv
set_option linter.unusedVariables false
set_option linter.unusedSimpArgs false
set_option maxRecDepth 100000

set_option maxHeartbeats 8000000 in
theorem law_FnPairRows (a : Option Addr) (n cap : Nat) (W : World) (hY : Byts W W.heap.size a n) :
    Calls Tryz.prog 4 #[.slice a n cap] W fun e w' => e = .returned (.bool true) ∧ Below W.heap.size W w' := by
  have hbig := big_any a n cap W
  by_cases hn4 : 4096 < n
  · rw [decide_eq_true hn4] at hbig
    clear hY hn4
    go_enter Tryz.func4, Tryz.ntmps4
    go_wp2_with fail
    refine hbig.mono ?_
    rintro e w1 ⟨rfl, hb⟩
    clear hbig
    go_wp2_with fail
    go_ret
    exact ⟨rfl, hb⟩
  rw [decide_eq_false hn4] at hbig
  have hn : n ≤ 4096 := by omega
  clear hn4
  go_enter Tryz.func4, Tryz.ntmps4
  go_wp2_with fail
  refine hbig.mono ?_
  rintro e w1 ⟨rfl, BW⟩
  clear hbig
  have hYd : Byts w1 w1.heap.size a n := (hY.keep fun b o v hb h => kept_cell BW h hb).mono BW.size
  have hc := drawPr_any a n cap hn w1 hYd
  go_wp2_with fail
  refine hc.mono ?_
  rintro e w2 ⟨y, rfl, hy, hb⟩
  replace BW := BW.trans (hb.mono BW.size)
  clear hYd hc hb
  have B3 := BW
  have B := Below.refl w2.heap.size w2
  have n1 := vPrS_len y
  have n2 := vPrC_len y
  have hc := impl_PairRows y hy w2
  go_wp2_with fail
  refine hc.mono ?_
  rintro e w3 ⟨M, vs, v, rfl, hM0, hRow, oS, oC, hM1, hb⟩
  obtain ⟨aH1, cH1, hvs⟩ := own_shp oS
  obtain ⟨aG1, cG1, hvc⟩ := own_shp oC
  subst hvs hvc
  have JS1 := own_ints oS
  have JC1 := own_ints oC
  replace B := B.trans (hb.mono B.size)
  clear hc hb oS oC hM0 hRow hM1
  obtain ⟨X2, hX2⟩ : ∃ z, z = w3.heap.size := ⟨_, rfl⟩
  obtain ⟨v3, hv3⟩ : ∃ z, z = w3.alloc (.cells #[.slice aH1 (vPrS y).length cH1] 26) := ⟨_, rfl⟩
  have RX2 : v3.heap[X2]? = some (.cells #[.slice aH1 (vPrS y).length cH1] 26 (0, 0)) := by rw [hv3, hX2]; exact heap_alloc_new _ _
  have hb : Below w3.heap.size w3 v3 := by rw [hv3]; exact (Below.refl _ _).alloc (Nat.le_refl _) _
  replace JS1 := JS1.below hb
  replace JC1 := JC1.below hb
  replace B := B.trans (hb.mono B.size)
  have lX2 : X2 < v3.heap.size := row_lt RX2
  have HX2 := Lib.hid hX2
  have Hv3 := Lib.hid hv3
  have cX2 := cell_of1' RX2
  clear hb hX2 hv3 RX2
  have B5 := B
  clear B
  have B := Below.refl v3.heap.size v3
  have hc := spec_PairRows y hy v3
  go_wp2_with fail
  rw [← Hv3.out, ← HX2.out]
  refine hc.mono ?_
  rintro e w4 ⟨M, vs, v, rfl, hM0, hRow, oS, oC, hM1, hb⟩
  obtain ⟨aH2, cH2, hvs⟩ := own_shp oS
  obtain ⟨aG2, cG2, hvc⟩ := own_shp oC
  subst hvs hvc
  have JS2 := own_ints oS
  have JC2 := own_ints oC
  replace JS1 := JS1.below hb
  replace JC1 := JC1.below hb
  replace B := B.trans (hb.mono B.size)
  clear hc hb oS oC hM0 hRow hM1
  obtain ⟨X3, hX3⟩ : ∃ z, z = w4.heap.size := ⟨_, rfl⟩
  obtain ⟨v4, hv4⟩ : ∃ z, z = w4.alloc (.cells #[.slice aH2 (vPrS y).length cH2] 26) := ⟨_, rfl⟩
  have RX3 : v4.heap[X3]? = some (.cells #[.slice aH2 (vPrS y).length cH2] 26 (0, 0)) := by rw [hv4, hX3]; exact heap_alloc_new _ _
  have hb : Below w4.heap.size w4 v4 := by rw [hv4]; exact (Below.refl _ _).alloc (Nat.le_refl _) _
  replace JS1 := JS1.below hb
  replace JC1 := JC1.below hb
  replace JS2 := JS2.below hb
  replace JC2 := JC2.below hb
  replace B := B.trans (hb.mono B.size)
  have lX3 : X3 < v4.heap.size := row_lt RX3
  have HX3 := Lib.hid hX3
  have Hv4 := Lib.hid hv4
  have cX3 := cell_of1' RX3
  clear hb hX3 hv4 RX3
  have c2 := kept_cell B cX2 lX2
  have l2 := lt_of_below B lX2
  have BV : Below W.heap.size W v4 := (B3.trans (B5.mono B3.size)).trans (B.mono (B3.trans (B5.mono B3.size)).size)
  clear B B5 B3 BW cX2 lX2
  have B := Below.refl v4.heap.size v4
  go_upto_region 6 with fail
  rw [← Hv4.out, ← HX3.out]
  have hc := likeInts_same aH1 aH2 (vPrS y) cH1 cH2 v4 (by omega) JS1 JS2
  go_wp2_with fail
  refine hc.mono ?_
  rintro e w5 ⟨rfl, hb⟩
  replace JS1 := JS1.below hb
  replace JC1 := JC1.below hb
  replace JS2 := JS2.below hb
  replace JC2 := JC2.below hb
  replace B := B.trans (hb.mono B.size)
  have cc := kept_cell B c2 l2
  clear hc hb
  have hc := likeInts_same aG1 aG2 (vPrC y) cG1 cG2 w5 (by omega) JC1 JC2
  go_wp2_with fail
  refine hc.mono ?_
  rintro e w6 ⟨rfl, hb⟩
  replace JS1 := JS1.below hb
  replace JC1 := JC1.below hb
  replace JS2 := JS2.below hb
  replace JC2 := JC2.below hb
  replace B := B.trans (hb.mono B.size)
  have cc := kept_cell B c2 l2
  clear hc hb
  clear JS2 JC2 cX3 lX3
  have hc := impl_PairNumber y hy w6
  go_wp2_with fail
  refine hc.mono ?_
  rintro e w7 ⟨rfl, hb⟩
  replace JS1 := JS1.below hb
  replace JC1 := JC1.below hb
  replace B := B.trans (hb.mono B.size)
  have cc := kept_cell B c2 l2
  clear hc hb
  have hc := spec_PairNumber y hy w7
  go_wp2_with fail
  refine hc.mono ?_
  rintro e w8 ⟨rfl, hb⟩
  replace JS1 := JS1.below hb
  replace JC1 := JC1.below hb
  replace B := B.trans (hb.mono B.size)
  have cc := kept_cell B c2 l2
  clear hc hb
  have BW : Below W.heap.size W w8 := BV.trans (B.mono BV.size)
  have hYd : Byts w8 w8.heap.size a n := (hY.keep fun b o v hb h => kept_cell BW h hb).mono BW.size
  have hc := drawStr_any a n cap hn w8 hYd
  go_wp2_with fail
  refine hc.mono ?_
  rintro e w9 ⟨ax, S, cx, vF, F, rfl, hI, _, hS8, own, hFl, hb⟩
  replace JS1 := JS1.below hb
  replace JC1 := JC1.below hb
  replace BW := BW.trans (hb.mono BW.size)
  obtain ⟨aF, cF, hvF⟩ := own_shp own
  subst hvF
  have IF := own_ints own
  replace B := B.trans (hb.mono B.size)
  clear hYd hc hb own cc
  obtain ⟨X, hX⟩ : ∃ z, z = w9.heap.size := ⟨_, rfl⟩
  obtain ⟨v5, hv5⟩ : ∃ z, z = w9.alloc (.cells #[.slice ax S.length cx] 26) := ⟨_, rfl⟩
  have RX : v5.heap[X]? = some (.cells #[.slice ax S.length cx] 26 (0, 0)) := by rw [hv5, hX]; exact heap_alloc_new _ _
  have IX : Ints v5 ax S := by rw [hv5]; exact hI.below ((Below.refl _ _).alloc (Nat.le_refl _) _)
  have IFX : Ints v5 aF F := by rw [hv5]; exact IF.below ((Below.refl _ _).alloc (Nat.le_refl _) _)
  have bX : Below w9.heap.size w9 v5 := by rw [hv5]; exact (Below.refl _ _).alloc (Nat.le_refl _) _
  replace BW : Below W.heap.size W v5 := BW.trans (bX.mono BW.size)
  have lX : X < v5.heap.size := row_lt RX
  have HX := Lib.hid hX
  have Hv5 := Lib.hid hv5
  have cX := cell_of1' RX
  replace JS1 := JS1.below bX
  replace JC1 := JC1.below bX
  replace B : Below v4.heap.size v4 v5 := B.trans (bX.mono B.size)
  have cs := kept_cell B c2 l2
  have ls := lt_of_below B l2
  clear hX hv5 hI RX bX IF B c2 l2 BV
  have BV := BW
  have B := Below.refl v5.heap.size v5
  have hc := impl_StrengthOf ax S cx (by omega) aF F cF (by omega) v5 (IX.below B) (IFX.below B)
  go_wp2_with fail
  rw [← Hv5.out, ← HX.out]
  refine hc.mono ?_
  rintro e w10 ⟨rfl, hb⟩
  replace JS1 := JS1.below hb
  replace JC1 := JC1.below hb
  replace B := B.trans (hb.mono B.size)
  have cc := kept_cell B cX lX
  have cs' := kept_cell B cs ls
  clear hc hb
  have hc := spec_StrengthOf ax S cx (by omega) aF F cF (by omega) w10 (IX.below B) (IFX.below B)
  go_wp2_with fail
  refine hc.mono ?_
  rintro e w11 ⟨rfl, hb⟩
  replace JS1 := JS1.below hb
  replace JC1 := JC1.below hb
  replace B := B.trans (hb.mono B.size)
  have cc := kept_cell B cX lX
  have cs' := kept_cell B cs ls
  clear hc hb
  replace BW : Below W.heap.size W w11 := BV.trans (B.mono BV.size)
  have hYd : Byts w11 w11.heap.size a n := (hY.keep fun b o v hb h => kept_cell BW h hb).mono BW.size
  have hc := drawCb_any a n cap hn w11 hYd
  go_wp2_with fail
  refine hc.mono ?_
  rintro e w12 ⟨ay, T, cy, t, rfl, hI, _, hT8, ht, hb⟩
  replace JS1 := JS1.below hb
  replace JC1 := JC1.below hb
  replace BW := BW.trans (hb.mono BW.size)
  replace B := B.trans (hb.mono B.size)
  clear hYd hc hb cc cs' hY
  obtain ⟨Vb, hVb⟩ : ∃ z, z = w12.heap.size := ⟨_, rfl⟩
  obtain ⟨v6, hv6⟩ : ∃ z, z = w12.alloc (.cells #[.slice ay T.length cy] 26) := ⟨_, rfl⟩
  have RVb : v6.heap[Vb]? = some (.cells #[.slice ay T.length cy] 26 (0, 0)) := by rw [hv6, hVb]; exact heap_alloc_new _ _
  have IVb : Ints v6 ay T := by rw [hv6]; exact hI.below ((Below.refl _ _).alloc (Nat.le_refl _) _)
  have bVb : Below w12.heap.size w12 v6 := by rw [hv6]; exact (Below.refl _ _).alloc (Nat.le_refl _) _
  replace BW : Below W.heap.size W v6 := BW.trans (bVb.mono BW.size)
  have lVb : Vb < v6.heap.size := row_lt RVb
  have HVb := Lib.hid hVb
  have Hv6 := Lib.hid hv6
  have cVb := cell_of1' RVb
  replace JS1 := JS1.below bVb
  replace JC1 := JC1.below bVb
  replace B : Below v5.heap.size v5 v6 := B.trans (bVb.mono B.size)
  have d1 := kept_cell B cX lX
  have e1 := lt_of_below B lX
  have d2 := kept_cell B cs ls
  have e2 := lt_of_below B ls
  replace IX := IX.below B
  replace IFX := IFX.below B
  clear hVb hv6 hI RVb bVb B cX lX cs ls BV
  have BV := BW
  have B := Below.refl v6.heap.size v6
  have hc := impl_ChoiceBound ay T cy (by omega) t ht v6 (IVb.below B)
  go_wp2_with fail
  rw [← Hv6.out, ← HVb.out]
  refine hc.mono ?_
  rintro e w13 ⟨rfl, hb⟩
  replace JS1 := JS1.below hb
  replace JC1 := JC1.below hb
  replace B := B.trans (hb.mono B.size)
  have d1' := kept_cell B d1 e1
  have d2' := kept_cell B d2 e2
  have cc := kept_cell B cVb lVb
  clear hc hb
  have hc := spec_ChoiceBound ay T cy (by omega) t ht w13 (IVb.below B)
  go_wp2_with fail
  refine hc.mono ?_
  rintro e w14 ⟨rfl, hb⟩
  replace JS1 := JS1.below hb
  replace JC1 := JC1.below hb
  replace B := B.trans (hb.mono B.size)
  have d1' := kept_cell B d1 e1
  have d2' := kept_cell B d2 e2
  have cc := kept_cell B cVb lVb
  clear hc hb
  clear cc cVb lVb IVb
  have key : ((eR10 S F 1 == 0) = true ∧ 0 < vSt S F) ∨ ((eR10 S F 1 == 0) = true ∧ ¬ 0 < vSt S F) ∨ (eR10 S F 1 == 0) = false := by
    by_cases h1 : eR10 S F 1 = 0
    · by_cases h2 : 0 < vSt S F
      · exact .inl ⟨by simpa using h1, h2⟩
      · exact .inr (.inl ⟨by simpa using h1, h2⟩)
    · exact .inr (.inr (by simpa using h1))
  rcases key with ⟨k1, k2⟩ | ⟨k1, k2⟩ | k1
  case inl => as_aux_lemma =>
    have h0 : eR10 S F 1 = 0 := by simpa using k1
    obtain ⟨s1, s2, s3⟩ := st_bound h0 k2
    have f1 : ¬ (F.length : Int) < vCb S (vSt S F) := by omega
    have f2 : (eC10 S (vSt S F) != 0) = false := by rw [s1]; rfl
    clear h0 s2
    have hc := impl_ChoiceBound ax S cx (by omega) (vSt S F) (by omega) w14 (IX.below B)
    go_wp2_with fail
    refine hc.mono ?_
    rintro e w15 ⟨rfl, hb⟩
    replace JS1 := JS1.below hb
    replace JC1 := JC1.below hb
    replace B := B.trans (hb.mono B.size)
    have d1' := kept_cell B d1 e1
    have d2' := kept_cell B d2 e2
    clear hc hb
    clear s1 s3 d1' IX IFX
    by_cases hE : 1 ≤ y ∧ y ≤ 8
    · obtain ⟨p1, p2⟩ := pr_st y hE
      have p3 := pr_len y hE
      obtain ⟨q1, q2⟩ : ePn y = 0 ∧ vPn y = (pn y.toNat : Nat) := by unfold ePn vPn; rw [if_pos hE, if_pos hE]; exact ⟨rfl, rfl⟩
      have g1 : (ePn y != 0) = false := by rw [q1]; rfl
      have g2 : (ePn y == 0) = true := by rw [q1]; rfl
      have g3 : (((vPrC y).length : Int) == vPn y) = true := by rw [p3, q2]; simp
      have P2 := Lib.hid p2
      have g4 : ¬ vSt (vPrS y) (vPrC y) < min y 2 := by omega
      clear hE p2 p3 q1 q2
      have hc := impl_StrengthOf aH1 (vPrS y) cH1 (by omega) aG1 (vPrC y) cG1 (by omega) w15 JS1 JC1
      rw [p1] at hc
      go_wp2_with fail
      refine hc.mono ?_
      rintro e w16 ⟨rfl, hb⟩
      replace JS1 := JS1.below hb
      replace JC1 := JC1.below hb
      replace B := B.trans (hb.mono B.size)
      have d2' := kept_cell B d2 e2
      clear hc hb
      have p2 := P2.out
      clear p1
      go_wp2_with fail
      go_ret
      exact ⟨by first | rfl | simp [g2, g3] | (simp [g2, g3]; omega), BV.trans (B.mono BV.size)⟩
    · obtain ⟨r1, r2⟩ := pr_nil y hE
      obtain ⟨q1, q2⟩ := ePn_bad hE
      have g1 : (ePn y != 0) = true := by rw [q1]; rfl
      have g3 : (((vPrC y).length : Int) == 0) = true := by rw [r2]; rfl
      clear hE r1 r2 q1 q2
      go_wp2_with fail
      go_ret
      exact ⟨by first | rfl | simp [g3], BV.trans (B.mono BV.size)⟩
  case inr.inl => as_aux_lemma =>
    clear d1' IX IFX
    by_cases hE : 1 ≤ y ∧ y ≤ 8
    · obtain ⟨p1, p2⟩ := pr_st y hE
      have p3 := pr_len y hE
      obtain ⟨q1, q2⟩ : ePn y = 0 ∧ vPn y = (pn y.toNat : Nat) := by unfold ePn vPn; rw [if_pos hE, if_pos hE]; exact ⟨rfl, rfl⟩
      have g1 : (ePn y != 0) = false := by rw [q1]; rfl
      have g2 : (ePn y == 0) = true := by rw [q1]; rfl
      have g3 : (((vPrC y).length : Int) == vPn y) = true := by rw [p3, q2]; simp
      have P2 := Lib.hid p2
      have g4 : ¬ vSt (vPrS y) (vPrC y) < min y 2 := by omega
      clear hE p2 p3 q1 q2
      have hc := impl_StrengthOf aH1 (vPrS y) cH1 (by omega) aG1 (vPrC y) cG1 (by omega) w14 JS1 JC1
      rw [p1] at hc
      go_wp2_with fail
      refine hc.mono ?_
      rintro e w17 ⟨rfl, hb⟩
      replace JS1 := JS1.below hb
      replace JC1 := JC1.below hb
      replace B := B.trans (hb.mono B.size)
      have d2' := kept_cell B d2 e2
      clear hc hb
      have p2 := P2.out
      clear p1
      go_wp2_with fail
      go_ret
      exact ⟨by first | rfl | simp [g2, g3] | (simp [g2, g3]; omega), BV.trans (B.mono BV.size)⟩
    · obtain ⟨r1, r2⟩ := pr_nil y hE
      obtain ⟨q1, q2⟩ := ePn_bad hE
      have g1 : (ePn y != 0) = true := by rw [q1]; rfl
      have g3 : (((vPrC y).length : Int) == 0) = true := by rw [r2]; rfl
      clear hE r1 r2 q1 q2
      go_wp2_with fail
      go_ret
      exact ⟨by first | rfl | simp [g3], BV.trans (B.mono BV.size)⟩
  case inr.inr => as_aux_lemma =>
    clear d1' IX IFX
    by_cases hE : 1 ≤ y ∧ y ≤ 8
    · obtain ⟨p1, p2⟩ := pr_st y hE
      have p3 := pr_len y hE
      obtain ⟨q1, q2⟩ : ePn y = 0 ∧ vPn y = (pn y.toNat : Nat) := by unfold ePn vPn; rw [if_pos hE, if_pos hE]; exact ⟨rfl, rfl⟩
      have g1 : (ePn y != 0) = false := by rw [q1]; rfl
      have g2 : (ePn y == 0) = true := by rw [q1]; rfl
      have g3 : (((vPrC y).length : Int) == vPn y) = true := by rw [p3, q2]; simp
      have P2 := Lib.hid p2
      have g4 : ¬ vSt (vPrS y) (vPrC y) < min y 2 := by omega
      clear hE p2 p3 q1 q2
      have hc := impl_StrengthOf aH1 (vPrS y) cH1 (by omega) aG1 (vPrC y) cG1 (by omega) w14 JS1 JC1
      rw [p1] at hc
      go_wp2_with fail
      refine hc.mono ?_
      rintro e w18 ⟨rfl, hb⟩
      replace JS1 := JS1.below hb
      replace JC1 := JC1.below hb
      replace B := B.trans (hb.mono B.size)
      have d2' := kept_cell B d2 e2
      clear hc hb
      have p2 := P2.out
      clear p1
      go_wp2_with fail
      go_ret
      exact ⟨by first | rfl | simp [g2, g3] | (simp [g2, g3]; omega), BV.trans (B.mono BV.size)⟩
    · obtain ⟨r1, r2⟩ := pr_nil y hE
      obtain ⟨q1, q2⟩ := ePn_bad hE
      have g1 : (ePn y != 0) = true := by rw [q1]; rfl
      have g3 : (((vPrC y).length : Int) == 0) = true := by rw [r2]; rfl
      clear hE r1 r2 q1 q2
      go_wp2_with fail
      go_ret
      exact ⟨by first | rfl | simp [g3], BV.trans (B.mono BV.size)⟩

end Go.Proofs.YtpmfedllbiblbaaGreat

namespace Go.Proofs.YtpmfedllbiblbaaGreat
open Go.RowKit Go.ChangeShapes Go.WideShapes Go.ChangeAt Cv
set_option linter.unusedVariables false
set_option maxRecDepth 100000

theorem own : ownKnob Tryz.prog.godebug = none := by kernel_rfl
theorem laidOut : laidOutB Tryz.prog = true := by kernel_rfl

theorem wf_i64_bd {n : Int} (h : (Lit.int .i64 n).wf = true) : -9223372036854775808 ≤ n ∧ n ≤ 9223372036854775807 := by
  simpa [Lit.wf, IntKind.min, IntKind.max, IntKind.signed, IntKind.bits] using h

theorem row_ints {H : Type} {enc : TypeId × Value → H} {W : World} {sp : Nat → Bool} {fuel : Nat} {v : Value} {x : DataW H × List MemPlace} {a : Option Addr} {len cap : Nat} (hv : v = .slice a len cap)
    (hf : DataW.trod enc Tryz.prog W 0 sp true fuel 24 [v] = some x) : ∃ S : List Int, len = S.length ∧ S.length ≤ 9223372036854775807 ∧ Ints W a S := by
  subst hv
  rcases open_ints Tryz.underlying24 Tryz.underlying2 (by kernel_rfl) hf with ⟨hcs, _⟩ | ⟨ad, l, c, zs, hcs, _, hl, hm, hz, _, hcell, hwz⟩
  · simp only [List.cons.injEq, Value.slice.injEq, and_true] at hcs
    exact ⟨[], by simp [hcs.2.1], by simp, .inl rfl⟩
  · simp only [List.cons.injEq, Value.slice.injEq, and_true] at hcs
    obtain ⟨ha, hlen, hcap⟩ := hcs
    unfold maxLen at hm
    have hlz : l ≤ zs.length := by rw [hz]; split <;> omega
    have hlt : (zs.take l).length = l := by rw [List.length_take]; omega
    refine ⟨zs.take l, by rw [hlt]; exact hlen, by omega, ?_⟩
    by_cases h0 : l = 0
    · exact .inl (by omega)
    · obtain ⟨b, off, spot⟩ := ad
      have hc0 := hcell 0 (by omega)
      have hspot : spot = none := by simpa [Addr.add] using World.cell?_spot hc0
      subst hspot
      refine .inr ⟨b, off, ha, World.block_lt_of_cell? W _ hc0, fun i hi => ?_⟩
      have hci := hcell i (by omega)
      have e : gi (zs.take l) i = zs.getD i 0 := by rw [gi_take _ _ _ (by omega)]; rfl
      rw [e, ← hci]
      congr 1
      unfold Addr.add
      split
      · simp_all
      · rfl

theorem open_intsv {H : Type} {enc : TypeId × Value → H} {W : World} {base : Nat} {sp : Nat → Bool} {v : Value} {d : DataW H} {p : List MemPlace} (hv : Value.okWide Tryz.prog W .any base 24 v) (h : DataW.Trod enc Tryz.prog W 0 sp true 24 v d p) :
    ∃ (a : Option Addr) (S : List Int) (cap : Nat), v = .slice a S.length cap ∧ S.length ≤ 9223372036854775807 ∧ Ints W a S := by
  obtain ⟨a, len, cap, rfl⟩ := okWide_slice Tryz.underlying24 hv
  obtain ⟨fuel, hf⟩ := h
  obtain ⟨S, hl, h1, h2⟩ := row_ints rfl (by simpa [Value.cells] using hf)
  subst hl
  exact ⟨a, S, cap, rfl, h1, h2⟩




end Go.Proofs.YtpmfedllbiblbaaGreat

namespace Go.Proofs.YtpmfedllbiblbaaGreat
open Go.RowKit Go.ChangeShapes Go.WideShapes Go.ChangeAt Cv
set_option linter.unusedVariables false
set_option maxRecDepth 100000

theorem row_bytes {H : Type} {enc : TypeId × Value → H} {W : World} {sp : Nat → Bool} {fuel : Nat} {v : Value} {x : DataW H × List MemPlace} {a : Option Addr} {len cap : Nat} (hv : v = .slice a len cap)
    (hf : DataW.trod enc Tryz.prog W 0 sp true fuel 22 [v] = some x) : Byts W W.heap.size a len := by
  subst hv
  rcases open_ints Tryz.underlying22 Tryz.underlying5 (by kernel_rfl) hf with ⟨hcs, _⟩ | ⟨ad, l, c, zs, hcs, _, hl, hm, hz, _, hcell, hwz⟩
  · simp only [List.cons.injEq, Value.slice.injEq, and_true] at hcs
    exact .inl hcs.2.1
  · simp only [List.cons.injEq, Value.slice.injEq, and_true] at hcs
    obtain ⟨ha, hlen, hcap⟩ := hcs
    have hlz : l ≤ zs.length := by rw [hz]; split <;> omega
    by_cases h0 : l = 0
    · exact .inl (by omega)
    · obtain ⟨b, off, spot⟩ := ad
      have hc0 := hcell 0 (by omega)
      have hspot : spot = none := by simpa [Addr.add] using World.cell?_spot hc0
      subst hspot
      refine .inr ⟨b, off, ha, World.block_lt_of_cell? W _ hc0, fun i hi => ?_⟩
      have hlt : i < zs.length := by omega
      have hci := hcell i hlt
      have hw := hwz (zs.getD i 0) (by rw [List.getD_eq_getElem?_getD, List.getElem?_eq_getElem hlt]; exact List.getElem_mem hlt)
      simp [Lit.wf, IntKind.min, IntKind.max, IntKind.signed, IntKind.bits] at hw
      refine ⟨zs.getD i 0, by simp; omega, by simp; omega, ?_⟩
      rw [← hci]
      congr 1
      unfold Addr.add
      split
      · simp_all
      · rfl

theorem open_bytesv {H : Type} {enc : TypeId × Value → H} {W : World} {base : Nat} {sp : Nat → Bool} {v : Value} {d : DataW H} {p : List MemPlace} (hv : Value.okWide Tryz.prog W .any base 22 v) (h : DataW.Trod enc Tryz.prog W 0 sp true 22 v d p) :
    ∃ (a : Option Addr) (n cap : Nat), v = .slice a n cap ∧ Byts W W.heap.size a n := by
  obtain ⟨a, len, cap, rfl⟩ := okWide_slice Tryz.underlying22 hv
  obtain ⟨fuel, hf⟩ := h
  exact ⟨a, len, cap, rfl, row_bytes rfl (by simpa [Value.cells] using hf)⟩

end Go.Proofs.YtpmfedllbiblbaaGreat
