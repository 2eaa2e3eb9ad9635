/-
  Texts put together: Clone, SpnI. By an AI agent.
-/
import Derived.Test.YtcnnijeokefboaaGreatDoorPut
import Derived.Test.YtcnnijeokefboaaGreatDoorAppend
import Derived.Test.YtcnnijeokefboaaGreatDoorMathB
import Derived.Test.YtcnnijeokefboaaGreatDoorSort
import Derived.Test.YtcnnijeokefboaaGreatDoorPk22
namespace Go.Proofs.YtcnnijeokefboaaGreatDoor
open Go.RowKit Cv
set_option linter.unusedVariables false
set_option linter.unusedSimpArgs false
set_option maxRecDepth 100000

theorem own_made_some {w : World} {base m : Nat} {v v' : Value} {L : List Int} (h : OwnInts w base v' L) (hnil : v' = .slice none 0 0 ↔ v = .slice none 0 0 ∧ m = 0) (hv : v ≠ .slice none 0 0) : ∃ g c, v' = .slice (some ⟨g, 0, none⟩) L.length c := by
  rcases h.2 with ⟨h1, _⟩ | ⟨g, c, cur, h1, _⟩
  · exact absurd (hnil.1 h1).1 hv
  · exact ⟨g, c, h1⟩
theorem clone_any (g0 : Nat) (L : List Int) (cap base : Nat) (w : World) (hl : L.length ≤ 1048576) (hb : base ≤ w.heap.size) (a : Addr) (hL : Ints w (some a) L) :
    Calls Tryz.prog 138 #[.slice (some a) L.length cap] w fun e w' => ∃ g c, e = .returned (.slice (some ⟨g, 0, none⟩) L.length c) ∧ OwnInts w' w.heap.size (.slice (some ⟨g, 0, none⟩) L.length c) L ∧ Below w.heap.size w w' := by
  have B0 : Below w.heap.size w (w.alloc (.cells #[] 2)) := by go_grown
  have o0 := own_empty w w.heap.size (Nat.le_refl _) rfl
  have hnil0 := Lib.run_eql_slice_nil (P := Tryz.prog) w 24 2 (some a) L.length cap 0 0 Tryz.underlying24
  go_enter Tryz.func138, Tryz.ntmps138
  go_wp2_with (at_builtin; refine wpList_append_ints rfl _ _ rfl w.heap.size _ [] rfl o0 a L L.length cap rfl rfl (hL.below B0) (by simp; omega) B0.size ?_; intro v' w4 hown' hgrow hnil; have hb4 := grown_below B0 B0.size hgrow o0 (Nat.le_refl _); rw [List.nil_append] at hown'; obtain ⟨g, c, hv⟩ := own_made_some hown' hnil (fun h => absurd (Value.slice.inj h).1 (by simp)); subst hv)
  go_ret
  exact ⟨g, c, rfl, hown', hb4⟩

end Go.Proofs.YtcnnijeokefboaaGreatDoor

namespace Go.Proofs.YtcnnijeokefboaaGreatDoor
open Go.RowKit Cv
set_option linter.unusedVariables false
set_option linter.unusedSimpArgs false
set_option maxRecDepth 100000

theorem contains_any (at' : Option Addr) (T : List Int) (cap : Nat) (x : Int) (hl : T.length ≤ 4294967296) (w : World) (hT : Ints w at' T) :
    Calls Tryz.prog 100 #[.slice at' T.length cap, .int .i64 x] w fun e w' => e = .returned (.bool (decide (x ∈ T))) ∧ w = w' := by
  have hidx : Calls Tryz.prog 137 #[.slice at' T.length cap, .int .i64 x] w fun e w' => ∃ r : Int, e = .returned (.int .i64 r) ∧ Hid (decide (x ∈ T) = decide (0 ≤ r)) ∧ w = w' := by
    go_enter Tryz.func137, Tryz.ntmps137
    go_wp2_with fail
    go_loopw [8] (fun i wr => ∃ k : Nat, k ≤ T.length ∧ i = .int .i64 k ∧ Hid (∀ j, j < k → gi T j ≠ x) ∧ wr = w) (fun i _ => T.length - (intOf i).toNat)
    case atStart => exact ⟨0, Nat.zero_le _, rfl, Lib.hid fun j hj => by omega, rfl⟩
    case round =>
      obtain ⟨k, hk, rfl, HA, rfl⟩ := hrel
      by_cases hlt : k < T.length
      · obtain ⟨b, o, rfl, hbl, hc⟩ := hT.at hlt
        have hck := hc k hlt
        clear hc
        by_cases he : gi T k = x
        · have hq : (x == gi T k) = true := by simpa using he.symm
          have HX : Hid (decide (x ∈ T) = decide (0 ≤ (k : Int))) := Lib.hid (by rw [decide_eq_true (show (0 : Int) ≤ (k : Int) by omega), decide_eq_true_eq, ← he]; exact gi_mem hlt)
          clear he
          go_wp2_with fail
          go_ret
          exact ⟨_, rfl, HX, rfl⟩
        · have hq : (x == gi T k) = false := by simpa using fun h => he h.symm
          have HX := Lib.hid he
          clear he
          go_wp2_with fail
          go_roundw
          case rel =>
            refine ⟨k + 1, by omega, by go_num, Lib.hid fun j hj => ?_, by first | rfl | trivial⟩
            by_cases e : j = k
            · subst e; exact HX.out
            · exact HA.out j (by omega)
          case measure => simp [intOf]; omega
      · have HX : Hid (decide (x ∈ T) = decide (0 ≤ (-1 : Int))) := Lib.hid (by
          rw [decide_eq_false (show ¬ (0 : Int) ≤ -1 by omega), decide_eq_false_iff_not]; intro hm
          obtain ⟨j, hj, e⟩ := mem_gi hm
          exact HA.out j (by omega) e)
        go_wp2_with fail
        go_ret
        exact ⟨_, rfl, HX, rfl⟩
  go_enter Tryz.func100, Tryz.ntmps100
  go_wp2_with fail
  refine hidx.mono ?_
  rintro e w1 ⟨r, rfl, HX, rfl⟩
  go_wp2_with fail
  go_ret
  exact ⟨ret_bool HX.out.symm, rfl⟩

def lenV : Value → Nat
  | .slice _ n _ => n
  | _ => 0
theorem own_lenV {w : World} {base : Nat} {v : Value} {T : List Int} (h : OwnInts w base v T) : lenV v = T.length := by
  obtain ⟨a, c, rfl, _⟩ := h.ints
  rfl

set_option maxHeartbeats 2000000 in
theorem spanWith_any (ao : Option Addr) (S : List Int) (cap : Nat) (hP : Pl S) (ag : Addr) (L : List Int) (capl : Nat) (hl1 : 1 ≤ L.length) (hl : L.length ≤ 1024) (hL : ∀ u, u ∈ L → Wd S u) (x : Int) (hx : Wd S x) (hx0 : x ≠ 0) (w : World) (hS : Ints w ao S) (hLI : Ints w (some ag) L) :
    Calls Tryz.prog 101 #[.agg #[.slice ao S.length cap], .slice (some ag) L.length capl, .int .i64 x] w fun e w' => ∃ v, e = .returned v ∧ OwnInts w' w.heap.size v (spW S L x) ∧ Below w.heap.size w w' := by
  have HP := Lib.hid hP
  have HLw : Hid (∀ i, i < L.length → 0 ≤ gi L i ∧ gi L i ≤ 9223372036854775807) := Lib.hid fun i hi => by have := hL _ (gi_mem hi); unfold Wd at this; have := nW_bd hP.sp; omega
  have HM : Hid (∀ k, 0 ≤ mulW S x k ∧ mulW S x k ≤ 9223372036854775807) := Lib.hid fun k => by have := mul_wd hP.sp hx k; unfold Wd at this; have := nW_bd hP.sp; omega
  have HN : Hid (∀ k, k < qN S → mulW S x k ≠ 0) := Lib.hid (mul_ne hP hx hx0)
  have HZ : Hid (mulW S x (qN S) = 0) := Lib.hid (mul_end hP x)
  have HW : Hid (widL S L x (qN S) = spW S L x) := Lib.hid (wid_end hP L x)
  have hq3 : qN S ≤ 2 := by have := qN_bd hP; omega
  obtain ⟨x1, x2⟩ := HM.out 0
  change 0 ≤ x at x1
  change x ≤ _ at x2
  obtain ⟨b, o, hb, hbl, hc⟩ := hLI.at (show 0 < L.length by omega)
  obtain rfl : ag = ⟨b, o, none⟩ := by simpa using hb
  have HC := Lib.hid hc
  have B0 : Below w.heap.size w (w.alloc (.cells #[.slice ao S.length cap] 26)) := by go_grown
  have c0 := cell_new w (.slice ao S.length cap) 26
  have l0 := lt_alloc w (.cells #[.slice ao S.length cap] 26)
  clear hP hL hx hx0 hb hc
  go_enter Tryz.func101, Tryz.ntmps101
  go_wp2_with fail
  refine (clone_any 0 L capl w.heap.size _ (by omega) B0.size ⟨b, o, none⟩ (hLI.below B0)).mono ?_
  rintro e w1 ⟨g, c, rfl, own, hb1⟩
  rw [World.size_alloc] at own
  have B1 := B0.trans (hb1.mono B0.size)
  have c1 := kept_cell hb1 c0 l0
  have l1 := lt_of_below hb1 l0
  have own1 : OwnInts w1 (w.heap.size + 1) (.slice (some ⟨g, 0, none⟩) L.length c) (widL S L x 0) := own
  clear own hb1 c0 l0 B0
  go_wp2_with fail
  go_loopw [7, 8] (fun v m wr => ∃ k : Nat, k ≤ qN S ∧ m = .int .i64 (mulW S x k) ∧ OwnInts wr (w.heap.size + 1) v (widL S L x k) ∧ wr.cell? ⟨w.heap.size, 0, none⟩ = some (.slice ao S.length cap) ∧ w.heap.size < wr.heap.size ∧ Below w.heap.size w wr) (fun v _ _ => 4 * L.length - lenV v)
  case atStart => exact ⟨0, Nat.zero_le _, rfl, own1, c1, l1, B1⟩
  case round =>
    clear own1 c1 l1 B1
    obtain ⟨k, hk, rfl, own, c2, l2, B2⟩ := hrel
    by_cases hlt : k < qN S
    · have hne : (mulW S x k != 0) = true := by simpa using HN.out k hlt
      have HLV := own_lenV own
      rw [widL_len] at HLV
      replace HLV := Lib.hid HLV
      have H0 := Lib.hid (widI_0 S L x k)
      rw [← H0.out] at own
      obtain ⟨m1, m2⟩ := HM.out k
      have HI := Lib.hid (widI_step S L x k)
      have HA := Lib.hid (widI_all S L x k)
      have HLN := Lib.hid (widI_len S L x k)
      have HK1 : Hid (sumW S (mulW S x k) x = mulW S x (k + 1)) := Lib.hid rfl
      obtain ⟨mk, hmk⟩ : ∃ mk, mk = mulW S x k := ⟨_, rfl⟩
      rw [← hmk] at hne m1 m2 HI HK1 ⊢
      have HMK := Lib.hid hmk
      clear hmk
      go_wp2_with fail
      go_loopw [7, 22] (fun v i wi => ∃ j : Nat, j ≤ L.length ∧ i = .int .i64 j ∧ OwnInts wi (w.heap.size + 1) v (widI S L x k j) ∧ wi.cell? ⟨w.heap.size, 0, none⟩ = some (.slice ao S.length cap) ∧ w.heap.size < wi.heap.size ∧ Below w.heap.size w wi) (fun _ i _ => L.length - (intOf i).toNat)
      case atStart => exact ⟨0, Nat.zero_le _, rfl, own, c2, l2, B2⟩
      case round =>
        clear own c2 l2 B2
        obtain ⟨j, hj, rfl, own, c, l, B⟩ := hrel
        by_cases hlj : j < L.length
        · have hck := kept_cell B (HC.out j hlj) hbl
          obtain ⟨u1, u2⟩ := HLw.out j hlj
          have hs := B.size
          go_wp2_with fail
          refine (sumOfWords_any ao S cap HP.out.sp (gi L j) mk u1 u2 m1 m2 _ (hS.below B)).mono ?_
          rintro e w3 ⟨rfl, hb3⟩
          have c3 := kept_cell hb3 c l
          have l3 := lt_of_below hb3 l
          have oo := own.below hb3
          have B3 := B.trans (hb3.mono hs)
          have hs3 := hb3.size
          have hlen : (widI S L x k j).length ≤ 1073741824 := by have := HLN.out j; have : (k + 2) * L.length ≤ 4 * 1024 := Nat.mul_le_mul (by omega) hl; omega
          have H2 := Lib.hid (HI.out j hlj)
          clear hb3 own c l B hck
          go_wp2_with (at_builtin; refine wpList_append_int rfl _ _ rfl (w.heap.size + 1) _ _ rfl (oo.alloc _) w3.heap.size _ rfl (cell_new _ _ _) (by omega) (by rw [World.size_alloc]; omega) ?_; intro v' w4 hown' hgrow)
          have B3a := B3.alloc B3.size (.cells #[.int .i64 (sumW S (gi L j) mk)] 2)
          have B4 := grown_below B3a B3a.size hgrow (oo.alloc _) (by omega)
          have c4a := kept_cell ((Below.refl w3.heap.size w3).alloc (Nat.le_refl _) (.cells #[.int .i64 (sumW S (gi L j) mk)] 2)) c3 l3
          have c4 := kept_cell (grown_below (n := w.heap.size + 1) (Below.refl _ _) (by rw [World.size_alloc]; omega) hgrow (oo.alloc _) (Nat.le_refl _)) c4a (by omega)
          have l4 : w.heap.size < w4.heap.size := by have := hgrow.size; rw [World.size_alloc] at this; omega
          go_wp2_with fail
          go_roundw
          case rel => exact ⟨j + 1, by omega, by go_num, by rw [H2.out]; exact hown', c4, l4, B4⟩
          case measure => simp [intOf]; omega
        · have ej : j = L.length := by omega
          rw [ej, HA.out] at own
          clear ej
          have hs := B.size
          go_wp2_with fail
          refine (sumOfWords_any ao S cap HP.out.sp mk x m1 m2 x1 x2 _ (hS.below B)).mono ?_
          rintro e w3 ⟨rfl, hb3⟩
          have c3 := kept_cell hb3 c l
          have l3 := lt_of_below hb3 l
          have oo := own.below hb3
          have B3 := B.trans (hb3.mono hs)
          rw [HK1.out]
          go_wp2_with fail
          go_roundw
          case rel => exact ⟨k + 1, by omega, rfl, oo, c3, l3, B3⟩
          case measure =>
            have e1 := own_lenV oo
            rw [widL_len, Nat.add_mul (k + 1) 1, Nat.one_mul] at e1
            have e2 := HLV.out
            have e3 : (k + 1) * L.length ≤ 2 * L.length := Nat.mul_le_mul_right _ (by omega)
            omega
    · have ek : k = qN S := by omega
      have e0 : mulW S x k = 0 := by rw [ek]; exact HZ.out
      rw [ek, HW.out] at own
      clear ek
      rw [e0]
      clear e0
      go_wp2_with fail
      go_ret
      exact ⟨_, rfl, own.rebase (by omega), B2⟩

end Go.Proofs.YtcnnijeokefboaaGreatDoor
