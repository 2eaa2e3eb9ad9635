/-
  Texts put together: SynI, Ds. By an AI agent.
-/
import Derived.Test.YtcnnijeokefboaaGreatDoorPk34
import Derived.Test.YtcnnijeokefboaaGreatDoorPkPlE
import Derived.Deep.RegionHeld3
import Derived.Test.YtcnnijeokefboaaGreatDoorPut
import Derived.Test.YtcnnijeokefboaaGreatDoorPk23
import Derived.Test.YtcnnijeokefboaaGreatDoorMath
import Derived.StillTailTactics
namespace Go.Proofs.YtcnnijeokefboaaGreatDoor
open Go.RowKit Cv
set_option linter.unusedVariables false
set_option linter.unusedSimpArgs false
set_option maxRecDepth 100000

theorem syn1_any (ao : Option Addr) (S : List Int) (cap g : Nat) (hP : Pl S) (G : List Int) (k : Nat) (hG : Wd S (gi G k)) (x : Int) (hx : Wd S x) (xb : Nat) (w : World) (hS : Ints w ao S) (hI : Ints w (some ⟨g, k * S.length, none⟩) (digs S (gi G k))) (hxb : w.cell? ⟨xb, 0, none⟩ = some (.int .i64 x)) :
    Calls Tryz.prog 69 #[chkVal ao S cap g G k, .pointer (some ⟨xb, 0, none⟩)] w fun e w' => e = .returned (.int .i64 (prW S (gi G k) x)) ∧ Below w.heap.size w w' := by
  by_cases h2 : gi S 0 = 2
  · have hb := bitRest_any S hP h2 (gi G k) x hG hx w
    unfold chkVal
    rw [if_pos h2]
    clear hI hS
    obtain ⟨c, hc⟩ : ∃ c, c = gi G k := ⟨_, rfl⟩
    obtain ⟨p, hp⟩ : ∃ p, p = prW S c x := ⟨_, rfl⟩
    rw [← hc, ← hp] at hb ⊢
    clear hc hp h2 hG
    go_enter Tryz.func69, Tryz.ntmps69
    go_wp2_with fail
    refine hb.mono ?_
    rintro e w1 ⟨rfl, hb1⟩
    go_wp2_with fail
    go_ret
    exact ⟨rfl, hb1⟩
  · have hb := digRest_any ao S cap hP (gi G k) x g (k * S.length) hx w hS hI
    unfold chkVal
    rw [if_neg h2]
    clear hI hS
    obtain ⟨c, hc⟩ : ∃ c, c = gi G k := ⟨_, rfl⟩
    obtain ⟨p, hp⟩ : ∃ p, p = prW S c x := ⟨_, rfl⟩
    rw [← hc, ← hp] at hb ⊢
    clear hc hp h2 hG
    go_enter Tryz.func69, Tryz.ntmps69
    go_wp2_with fail
    refine hb.mono ?_
    rintro e w1 ⟨rfl, hb1⟩
    go_wp2_with fail
    go_ret
    exact ⟨rfl, hb1⟩

set_option maxHeartbeats 1000000 in
theorem numbersC_any (a : Option Addr) (cap n : Nat) (V : List Value) (hn : V.length = n) (hl : n ≤ 1048576) (f : Nat) (eg : ∀ args w, (callFunc f args).run Tryz.prog w = .ok (.enter f args) w) (pre post : Array Value) (D : Nat → Int) (w : World) (hV : Vals w a V)
    (hp : ∀ (W : World) (j : Nat) (v : Value), Below w.heap.size w W → V[j]? = some v → Calls Tryz.prog f (pre.push v ++ post) W fun e w' => e = .returned (.int .i64 (D j)) ∧ Below W.heap.size W w') :
    Calls Tryz.prog 68 #[.slice a n cap, .func (.func f) pre post] w fun e w' => ∃ v, e = .returned v ∧ OwnInts w' w.heap.size v ((List.range n).map D) ∧ Below w.heap.size w w' := by
  obtain ⟨i0, hi, hz0, hz1, hz2⟩ := info_parts infoI64
  have HP := Lib.hid hp
  have HV := Lib.hid hV
  have HN := Lib.hid hn
  clear hp hV hn
  go_enter Tryz.func68, Tryz.ntmps68
  go_wp2_with (at_make; refine wpList_make_full _ rfl _ _ 24 rfl w.heap.size 2 i0 (.int .i64 0) 1 Tryz.underlying24 hi hz0 hz1 .i64 .i64 _ _ n rfl rfl rfl rfl (by rw [hz2]; omega) (by unfold maxLen; omega) (Nat.le_refl _) ?_; intro w1 hown hgrow)
  have B1 : Below w.heap.size w w1 := below_grown0 hgrow
  replace hown := own_made hown
  clear hgrow
  go_loopw [13] (fun i wr => ∃ (k : Nat) (T : List Int), k ≤ n ∧ i = .int .i64 k ∧ OwnInts wr w.heap.size (.slice (some ⟨w.heap.size, 0, none⟩) n n) T ∧ Hid (T.length = n ∧ ∀ j, j < k → gi T j = D j) ∧ Below w.heap.size w wr) (fun i _ => n - (intOf i).toNat)
  case atStart => exact ⟨0, _, Nat.zero_le _, rfl, hown, Lib.hid ⟨by simp, fun j h => by omega⟩, B1⟩
  case round =>
    clear hown B1
    obtain ⟨k, T, hk, rfl, own, HT, B⟩ := hrel
    by_cases hlt : k < n
    · obtain ⟨v, hv⟩ : ∃ v, V[k]? = some v := ⟨_, List.getElem?_eq_getElem (by rw [HN.out]; exact hlt)⟩
      obtain ⟨b, o, ha, hbl, hc0⟩ : ∃ b o, a = some ⟨b, o, none⟩ ∧ b < w.heap.size ∧ ∀ i v, V[i]? = some v → w.cell? ⟨b, o + i, none⟩ = some v := by
        rcases HV.out with h | h
        · have := HN.out; omega
        · exact h
      subst ha
      have hck := kept_cell B (hc0 k v hv) hbl
      have hcall := HP.out wr k v B hv
      have hs := B.size
      have kI : (k : Int) < (n : Int) := by omega
      clear hc0 hv
      go_wp2_with fail
      refine hcall.mono ?_
      rintro e w2 ⟨rfl, hb⟩
      have own2 := own.below hb
      have B2 := B.trans (hb.mono hs)
      have hc2 := own2.cell (k := k) (by rw [HT.out.1]; exact hlt)
      have hf2 := own2.free k
      clear hb own hck B
      go_wp2_with fail
      go_roundw
      case rel =>
        refine ⟨k + 1, _, by omega, by go_num, own2.stored k (D k), Lib.hid ⟨by rw [List.length_set]; exact HT.out.1, fun j hj => ?_⟩, B2.setCell (by simp) _⟩
        rw [gi_set _ _ _ _ (by rw [HT.out.1]; exact hlt)]
        by_cases e : j = k
        · subst e; rw [if_pos rfl]
        · rw [if_neg e]; exact HT.out.2 j (by omega)
      case measure => simp [intOf]; omega
    · have hT : T = (List.range n).map D := ext_gi (by rw [List.length_map, List.length_range]; exact HT.out.1) fun j hj => by
        rw [HT.out.1] at hj
        rw [HT.out.2 j (by omega)]; simp [gi, hj]
      rw [hT] at own
      have kI : ¬ (k : Int) < (n : Int) := by omega
      clear hT
      go_wp2_with fail
      go_ret
      exact ⟨_, rfl, own, B⟩

theorem syL_range (S G : List Int) (x : Int) : (List.range G.length).map (fun j => prW S (gi G j) x) = syL S G x :=
  ext_gi (by simp [syL]) fun i hi => by
    have hi' : i < G.length := by simpa using hi
    simp [gi, syL, hi']

theorem vSyn_len20 (S G : List Int) (x : Int) : (vSyn S G x).length ≤ 1048576 := by
  unfold vSyn
  split
  · rename_i h
    have := (eSpan_zero (eSyn_zero h).2).2.1
    simp only [syL, List.length_map]; omega
  · simp

theorem impl_SyndromeOf (ao : Option Addr) (S : List Int) (cap : Nat) (hn : S.length ≤ 4294967296) (ag : Option Addr) (G : List Int) (capg : Nat) (hng : G.length ≤ 4294967296) (x : Int) (hxr : -9223372036854775808 ≤ x ∧ x ≤ 9223372036854775807) (w : World) (hS : Ints w ao S) (hG : Ints w ag G) :
    Calls Tryz.prog 20 #[.agg #[.slice ao S.length cap], .slice ag G.length capg, .int .i64 x] w fun e w' => ∃ v, e = .returned (.tuple #[v, .int .i64 (eSyn S G x)]) ∧ OwnInts w' w.heap.size v (vSyn S G x) ∧ Below w.heap.size w w' := by
  obtain ⟨W0, hW0⟩ : ∃ W0, W0 = (w.alloc (.cells #[.slice ao S.length cap] 26)).alloc (.cells #[.int .i64 x] 2) := ⟨_, rfl⟩
  have B0 : Below w.heap.size w W0 := by rw [hW0]; go_grown
  have c0 : W0.cell? ⟨w.heap.size, 0, none⟩ = some (.slice ao S.length cap) := by rw [hW0]; exact kept_cell ((Below.refl _ (w.alloc (.cells #[.slice ao S.length cap] 26))).alloc (Nat.le_refl _) _) (cell_new _ _ _) (lt_alloc _ _)
  have x0 : W0.cell? ⟨w.heap.size + 1, 0, none⟩ = some (.int .i64 x) := by
    have h := cell_new (w.alloc (.cells #[.slice ao S.length cap] 26)) (.int .i64 x) 2
    rw [World.size_alloc] at h; rw [hW0]; exact h
  have s0 : w.heap.size + 1 < W0.heap.size := by rw [hW0]; simp
  have hpe := plainError_any ao S cap hn ag G capg hng x W0 (hS.below B0) (hG.below B0)
  have HW0 := Lib.hid hW0
  have c0e := c0
  have x0e := x0
  rw [hW0] at c0e x0e
  by_cases hz : eSyn S G x = 0
  · obtain ⟨h1, h2⟩ := eSyn_zero hz
    obtain ⟨h3, h4, h5⟩ := eSpan_zero h2
    obtain ⟨hSp, hw⟩ := eWords_zero h3
    have HP := Lib.hid (pl_of hSp h5)
    have HWd : Hid (∀ i, i < G.length → Wd S (gi G i)) := Lib.hid hw
    have HX : Hid (Wd S x) := Lib.hid (by obtain ⟨_, a, b⟩ := eWords1 h1; exact ⟨a, b⟩)
    have HV : Hid (vSyn S G x = (List.range G.length).map (fun j => prW S (gi G j) x)) := Lib.hid (by unfold vSyn; rw [if_pos hz, syL_range])
    rw [hz] at hpe
    have HZ := Lib.hid hz
    have HPE := Lib.hid hpe
    clear hz hpe h1 h2 h3 h5 hSp hw hW0
    go_enter Tryz.func20, Tryz.ntmps20
    go_wp2_with fail
    rw [← HW0.out]
    clear c0e x0e
    refine HPE.out.mono ?_
    rintro e w1 ⟨rfl, hb1⟩
    have c1 := kept_cell hb1 c0 (by omega)
    have x1 := kept_cell hb1 x0 s0
    have B1 := B0.trans (hb1.mono B0.size)
    have s1 : w.heap.size + 1 < w1.heap.size := by have := hb1.size; omega
    clear hb1 c0 x0 B0
    go_wp2_with fail
    refine (checksOf_any ao S cap HP.out ag G capg (by omega) HWd.out w1 (hS.below B1) (hG.below B1)).mono ?_
    rintro e w2 ⟨v, rfl, ⟨g, hck⟩, hb2⟩
    obtain ⟨a, c, rfl, hV⟩ := vals_row hck.row (chkVals_len _ _ _ _ _ _)
    have x2 := kept_cell hb2 x1 s1
    have s2 : w.heap.size + 1 < w2.heap.size := by have := hb2.size; omega
    have B2 := B1.trans (hb2.mono B1.size)
    have hnum := numbersC_any a c G.length (chkVals ao S cap g G G.length) (chkVals_len _ _ _ _ _ _) (by omega) 69 (enters_of Tryz.func69 (by kernel_rfl) rfl) #[] #[.pointer (some ⟨w.heap.size + 1, 0, none⟩)] (fun j => prW S (gi G j) x) w2 hV (fun W2 j u hb' hu => by
      have hj : j < G.length := by have := (List.getElem?_eq_some_iff.1 hu).1; rwa [chkVals_len] at this
      rw [chkVals_at _ _ _ _ _ _ _ hj] at hu
      obtain rfl := Option.some.inj hu
      exact syn1_any ao S cap g HP.out G j (HWd.out j hj) x HX.out (w.heap.size + 1) W2 ((hS.below B2).below hb') ((hck.ints j hj).below hb') (kept_cell hb' x2 s2))
    have HNM := Lib.hid hnum
    clear hnum hV hck hb2 x1 B1 c1
    go_wp2_with fail
    refine HNM.out.mono ?_
    rintro e w3 ⟨v, rfl, own, hb3⟩
    go_wp2_with fail
    go_ret2
    exact ⟨_, by rw [HZ.out]; try rfl, by rw [HV.out]; exact own.rebase B2.size, B2.trans (hb3.mono B2.size)⟩
  · have hzn : (eSyn S G x != 0) = true := by simpa using hz
    have HV : Hid (vSyn S G x = []) := Lib.hid (by unfold vSyn; rw [if_neg hz])
    have HPE := Lib.hid hpe
    clear hz hpe hW0
    go_enter Tryz.func20, Tryz.ntmps20
    go_wp2_with fail
    rw [← HW0.out]
    clear c0e x0e
    refine HPE.out.mono ?_
    rintro e w1 ⟨rfl, hb1⟩
    go_wp2_with fail
    go_ret2
    exact ⟨_, rfl, by rw [HV.out]; exact own_nil _ _, B0.trans (hb1.mono B0.size)⟩

end Go.Proofs.YtcnnijeokefboaaGreatDoor

namespace Go.Proofs.YtcnnijeokefboaaGreatDoor
open Go.RowKit Cv
set_option linter.unusedVariables false
set_option linter.unusedSimpArgs false
set_option maxRecDepth 100000

theorem wp_append_int {w : World} {o : Oper} {a : Act} {K : Act → World → Prop} {Q : Exit → Act → World → Prop} (s x : Operand)
    (ho : o.op = .call { callee := .builtin .append, args := #[s, x], argTypes := #[24, 24] })
    (base : Nat) (v : Value) (L : List Int) (hs : a.eval s = v) (hown : OwnInts w base v L) (b : Nat) (y : Int) (hx : a.eval x = .slice (some ⟨b, 0, none⟩) 1 1) (hc : w.cell? ⟨b, 0, none⟩ = some (.int .i64 y))
    (hlen : L.length ≤ 1073741824) (hbase : base ≤ w.heap.size)
    (h : ∀ v' w', OwnInts w' base v' (L ++ [y]) → w.grownBy w' v.ownBlock → K (a.put o.dst v') w') : o.wp Tryz.prog a w K Q := by
  obtain ⟨i0, hi, hz0, hz1, hz2⟩ := info_parts infoI64
  refine wp_append_own w s x 24 ho base 2 i0 (.int .i64 0) 1 8 Tryz.underlying24 hi hz0 hz1 hz2 rfl (by decide) v L.length (L.map (Value.int .i64)) hs hown ⟨b, 0, none⟩ 1 1 [.int .i64 y] hx rfl ?_ ?_ (by unfold maxLen; omega) (by omega) hbase ?_
  · intro j u hj
    match j, hj with
    | 0, hj => simp at hj; subst hj; simpa [Addr.add] using hc
  · intro u hu; simp at hu; subst hu; rfl
  · intro v' w' h1 h2 _
    refine h v' w' ?_ h2
    unfold OwnInts
    rw [List.length_append, List.map_append]
    exact h1

end Go.Proofs.YtcnnijeokefboaaGreatDoor
