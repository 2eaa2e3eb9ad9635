/-
  Texts put together: Lws, Rw9, SumW, LawFnArrays, Open, OpenB. By an AI agent.
-/
import Derived.Test.YtpmfedllbiblbaaGreatPkHelp
import Derived.Test.YtpmfedllbiblbaaGreatPkRwc
import Derived.Test.YtpmfedllbiblbaaGreatPk2
import Derived.Test.YtpmfedllbiblbaaGreatPk43
import Derived.Test.YtpmfedllbiblbaaGreatPkDrwC
import Derived.Test.YtpmfedllbiblbaaGreatPk45
import Derived.Test.YtpmfedllbiblbaaGreatPk48
import Derived.Test.YtpmfedllbiblbaaGreatPkLrs10
import Derived.Test.YtpmfedllbiblbaaGreatPk49
import Derived.Test.YtpmfedllbiblbaaGreatPkNcsA
import Derived.Test.YtpmfedllbiblbaaGreatPk41
import Derived.Test.YtpmfedllbiblbaaGreatPk50
import Derived.Test.YtpmfedllbiblbaaGreatPk39
import Derived.Test.YtpmfedllbiblbaaGreatPkHcX
import Derived.Test.YtpmfedllbiblbaaGreatPkFam
import Derived.Lib.MinMax
import Derived.Deep.Cut
import Derived.Test.YtpmfedllbiblbaaGreatPkMem
import Derived.ProofKit
import Derived.OpenShut
import Derived.Test.YtpmfedllbiblbaaGreatPk31
namespace Go.Proofs.YtpmfedllbiblbaaGreat
open Go.RowKit Cv
set_option linter.unusedVariables false
set_option linter.unusedSimpArgs false
set_option maxRecDepth 100000

theorem big_any (a : Option Addr) (n cap : Nat) (w : World) :
    Calls Tryz.prog 5 #[.slice a n cap] w fun e w' => e = .returned (.bool (decide (4096 < n))) ∧ Below w.heap.size w w' := by
  have e1 : decide ((4096 : Int) < (n : Int)) = decide (4096 < n) := by
    by_cases h : 4096 < n
    · rw [decide_eq_true h, decide_eq_true (by omega)]
    · rw [decide_eq_false h, decide_eq_false (by omega)]
  by_cases h : 4096 < n
  · have i1 : (4096 : Int) < (n : Int) := by omega
    rw [decide_eq_true h]
    clear e1 h
    go_enter Tryz.func5, Tryz.ntmps5
    go_wp2_with fail
    go_ret
    exact ⟨rfl, Below.refl _ _⟩
  · have i1 : ¬ (4096 : Int) < (n : Int) := by omega
    rw [decide_eq_false h]
    clear e1 h
    go_enter Tryz.func5, Tryz.ntmps5
    go_wp2_with fail
    go_ret
    exact ⟨rfl, Below.refl _ _⟩

theorem likeInts_same (a a' : Option Addr) (S : List Int) (c c' : Nat) (w : World) (hn : S.length ≤ 4294967296) (h : Ints w a S) (h' : Ints w a' S) :
    Calls Tryz.prog 9 #[.slice a S.length c, .slice a' S.length c'] w fun e w' => e = .returned (.bool true) ∧ Below w.heap.size w w' := by
  go_enter Tryz.func9, Tryz.ntmps9
  go_wp2
  go_loopw [5] (fun i wr => ∃ k : Nat, k ≤ S.length ∧ i = .int .i64 k ∧ Below w.heap.size w wr) (fun i _ => S.length - (intOf i).toNat)
  case atStart => exact ⟨0, Nat.zero_le _, rfl, Below.refl _ _⟩
  case round =>
    obtain ⟨k, hk, rfl, hbel⟩ := hrel
    by_cases hlt : k < S.length
    · obtain ⟨b, o, rfl, hb, hc⟩ := h.at hlt
      obtain ⟨b', o', rfl, hb', hc'⟩ := h'.at hlt
      have hck : wr.cell? ⟨b, o + k, none⟩ = some (.int .i64 (gi S k)) := (hbel.cell (p := ⟨b, o + k, none⟩) hb).trans (hc k hlt)
      have hck' : wr.cell? ⟨b', o' + k, none⟩ = some (.int .i64 (gi S k)) := (hbel.cell (p := ⟨b', o' + k, none⟩) hb').trans (hc' k hlt)
      clear hc hc'
      go_wp2
      go_quiet (fail)
      go_wp2
      go_roundw
      case rel => exact ⟨k + 1, by omega, by go_num, below_drewN hbel _⟩
      case measure => simp [intOf]; omega
    · go_wp2
      go_ret
      exact ⟨rfl, hbel⟩

/-- is x among the first k numbers of S -/
def hasTo (S : List Int) (x : Int) : Nat → Bool
  | 0 => false
  | k + 1 => hasTo S x k || gi S k == x
end Go.Proofs.YtpmfedllbiblbaaGreat

namespace Go.Proofs.YtpmfedllbiblbaaGreat
open Go.RowKit Cv
set_option linter.unusedVariables false
set_option linter.unusedSimpArgs false
set_option maxRecDepth 100000

theorem OwnRws.rd {w : World} {lo hi : Nat} {v : Value} {R : List (List Int)} (h : OwnRws w lo hi v R) : RdRws w lo hi v R := by
  obtain ⟨hs, e1, e2, e3, e4, _⟩ := h
  exact ⟨hs, e1, e2, e3, fun i hi => by obtain ⟨x, hx, ho, _, hk⟩ := e4 i hi; exact ⟨x, hx, ho, hk⟩⟩
set_option maxHeartbeats 1000000 in
theorem rows9_same (a a' : Option Addr) (c c' lo hi lo' hi' : Nat) (R : List (List Int)) (w : World) (hR : R.length ≤ 4096 ∧ ∀ i, (rr R i).length ≤ 4096) (h : RdRws w lo hi (.slice a R.length c) R) (h' : RdRws w lo' hi' (.slice a' R.length c') R) :
    Calls Tryz.prog 12 #[.slice a R.length c, .slice a' R.length c'] w fun e w' => e = .returned (.bool true) ∧ Below w.heap.size w w' := by
  obtain ⟨hl, hr⟩ := hR
  have HR := Lib.hid hr
  clear hr
  go_enter Tryz.func12, Tryz.ntmps12
  go_wp2_with fail
  go_loopw [5] (fun i wr => ∃ k : Nat, k ≤ R.length ∧ i = .int .i64 k ∧ Below w.heap.size w wr) (fun i _ => R.length - (intOf i).toNat)
  case atStart => exact ⟨0, Nat.zero_le _, rfl, Below.refl _ _⟩
  case round =>
    obtain ⟨k, hk, rfl, B⟩ := hrel
    by_cases hlt : k < R.length
    · obtain ⟨g, z, rfl, hg, hc, ho⟩ := h.at hlt
      obtain ⟨g', z', rfl, hg', hc', ho'⟩ := h'.at hlt
      replace hc := kept_cell B hc hg
      replace hc' := kept_cell B hc' hg'
      obtain ⟨az, cz, hz, hI⟩ := ho.ints
      obtain ⟨az', cz', hz', hI'⟩ := ho'.ints
      subst hz
      subst hz'
      have hL := HR.out k
      obtain ⟨L, hLe⟩ : ∃ L, L = rr R k := ⟨_, rfl⟩
      rw [← hLe] at hc hc' hI hI' hL
      have hgw : g < wr.heap.size := Nat.lt_of_lt_of_le hg B.size
      have hgw' : g' < wr.heap.size := Nat.lt_of_lt_of_le hg' B.size
      have i1 : (0 : Int) ≤ (k : Int) := by omega
      have i2 : (k : Int) < (R.length : Int) := by omega
      clear ho ho' hLe
      go_wp2_with fail
      go_region_held3 (fun w' => w'.cell? ⟨g, k, none⟩ = some (.slice az L.length cz) ∧ w'.cell? ⟨g', k, none⟩ = some (.slice az' L.length cz')) (first | exact ⟨hc, hc'⟩ | exact ⟨kept_cell hb hc hgw, kept_cell hb hc' hgw'⟩) ((go_at_call 9; refine (likeInts_same az az' L cz cz' _ (by omega) (hI.below B.drew) (hI'.below B.drew)).mono ?_; rintro e w4 ⟨rfl, hb'⟩; have hb : Below wr.heap.size wr w4 := (Below.refl wr.heap.size wr).drew.trans hb'))
      replace B := B.trans (hb.mono B.size)
      clear hb hb' hc hc'
      go_wp2_with fail
      go_roundw
      case rel => exact ⟨k + 1, by omega, by go_num, B⟩
      case measure => simp [intOf]; omega
    · go_wp2_with fail
      go_ret
      exact ⟨rfl, B⟩

end Go.Proofs.YtpmfedllbiblbaaGreat

namespace Go.Proofs.YtpmfedllbiblbaaGreat
open Go.RowKit Cv
set_option linter.unusedVariables false
set_option linter.unusedSimpArgs false

theorem wsT_one_bd {L : List Int} {m : Int} (h : ∀ j, 0 ≤ gi L j ∧ gi L j ≤ m) (k : Nat) : 0 ≤ wsT (fun _ => 1) L k ∧ wsT (fun _ => 1) L k ≤ k * m := by
  induction k with
  | zero => simp [wsT]
  | succ k ih =>
    have := h k
    rw [wsT, Int.one_mul]
    push_cast
    rw [Int.add_mul, Int.one_mul]
    omega
/-- the sum of a list of small numbers -/
theorem sum_any (a : Option Addr) (L : List Int) (c : Nat) (m : Int) (hm : 0 ≤ m ∧ m ≤ 1048576) (hb : ∀ j, 0 ≤ gi L j ∧ gi L j ≤ m) (w : World) (hn : L.length ≤ 1048576) (h : Ints w a L) :
    Calls Tryz.prog 27 #[.slice a L.length c] w fun e w' => e = .returned (.int .i64 (wsT (fun _ => 1) L L.length)) ∧ Below w.heap.size w w' := by
  have HW := Lib.hid fun k => wsT_one_bd hb k
  have HB := Lib.hid hb
  obtain ⟨m0, m1⟩ := hm
  clear hb
  have hz : wsT (fun _ => 1) L 0 = 0 := rfl
  have HZ := Lib.hid hz
  clear hz
  go_enter Tryz.func27, Tryz.ntmps27
  go_wp2_with fail
  go_loop [3, 4] (fun s i => ∃ k : Nat, k ≤ L.length ∧ i = .int .i64 (k : Int) ∧ s = .int .i64 (wsT (fun _ => 1) L k)) (fun _ i => L.length - (intOf i).toNat)
  case atStart => exact ⟨0, Nat.zero_le _, rfl, by rw [HZ.out]⟩
  case round =>
    obtain ⟨k, hk, rfl, rfl⟩ := hrel
    by_cases hlt : k < L.length
    · have hlI : (k : Int) < (L.length : Int) := by omega
      obtain ⟨b, o, rfl, hbl, hc⟩ := h.at hlt
      have hck := hc k hlt
      obtain ⟨s0, s1⟩ := HW.out k
      obtain ⟨t0, t1⟩ := HB.out k
      have HS : Hid (wsT (fun _ => 1) L (k + 1) = wsT (fun _ => 1) L k + gi L k) := Lib.hid (by rw [wsT, Int.one_mul])
      have hkm : (k : Int) * m ≤ 1048576 * 1048576 := Int.mul_le_mul (by omega) m1 m0 (by omega)
      obtain ⟨s, hs⟩ : ∃ s, s = wsT (fun _ => 1) L k := ⟨_, rfl⟩
      obtain ⟨y, hy⟩ : ∃ y, y = gi L k := ⟨_, rfl⟩
      rw [← hs, ← hy] at HS
      rw [← hs] at s0 s1 ⊢
      rw [← hy] at hck t0 t1
      have e1 : IntKind.i64.wrap (s + y) = s + y := IntWalk.i64_in _ ⟨by omega, by omega⟩
      clear hc hs hy hkm s1
      go_wp2_with fail
      go_round
      case rel => exact ⟨k + 1, by omega, by go_num, by rw [HS.out]⟩
      case measure => simp [intOf]; omega
    · have hlI : ¬ (k : Int) < (L.length : Int) := by omega
      have hkL : k = L.length := by omega
      go_wp2_with fail
      go_ret
      exact ⟨rfl, Below.refl _ _⟩

end Go.Proofs.YtpmfedllbiblbaaGreat

namespace Go.Proofs.YtpmfedllbiblbaaGreat
open Go.RowKit Cv
set_option linter.unusedVariables false
set_option linter.unusedSimpArgs false
set_option maxRecDepth 100000

theorem own_capF {w : World} {base : Nat} {v : Value} {T : List Int} (h : OwnInts w base v T) : ∀ a n c, v = .slice a n c → T.length ≤ c := by
  intro a n c e
  subst e
  rcases h.2 with ⟨hv, hl⟩ | ⟨g', c', _, hv, hb, hh, hle, hm, _⟩ <;> simp only [Value.slice.injEq] at hv
  · simp at hl; simp [hl]
  · obtain ⟨_, rfl, rfl⟩ := hv
    exact hle
theorem rd_shapeF {w : World} {lo hi : Nat} {v : Value} {R : List (List Int)} (h : RdRws w lo hi v R) : ∃ a c, v = .slice a R.length c := by
  obtain ⟨hs, e1, e2, e3, e4⟩ := h
  rcases e2.2 with ⟨hv, hn⟩ | ⟨g, cap, cur, hv, _⟩
  · exact ⟨none, 0, by rw [hn]; exact hv⟩
  · exact ⟨_, _, hv⟩

set_option maxHeartbeats 8000000 in
theorem law_FnArrays (a : Option Addr) (n cap : Nat) (W : World) (hY : Byts W W.heap.size a n) :
    Calls Tryz.prog 3 #[.slice a n cap] W fun e w' => e = .returned (.bool true) ∧ Below W.heap.size W w' := by
  have hbig := big_any a n cap W
  by_cases hn4 : 4096 < n
  · rw [decide_eq_true hn4] at hbig
    clear hY hn4
    go_enter Tryz.func3, Tryz.ntmps3
    go_wp2_with fail
    refine hbig.mono ?_
    rintro e w1 ⟨rfl, hb⟩
    clear hbig
    go_wp2_with fail
    go_ret
    exact ⟨rfl, hb⟩
  rw [decide_eq_false hn4] at hbig
  have hn : n ≤ 4096 := by omega
  clear hn4
  go_enter Tryz.func3, Tryz.ntmps3
  go_wp2_with fail
  refine hbig.mono ?_
  rintro e w1 ⟨rfl, BW⟩
  clear hbig
  have hYd : Byts w1 w1.heap.size a n := (hY.keep fun b o v hb h => kept_cell BW h hb).mono BW.size
  have hc := drawLr_any a n cap hn w1 hYd
  go_wp2_with fail
  refine hc.mono ?_
  rintro e w2 ⟨ax, S, cx, vF, F, t, rfl, hI, _, hS8, own, hFl, ht, hb⟩
  replace BW := BW.trans (hb.mono BW.size)
  have hcF := own_capF own
  obtain ⟨aF, cF, hvF⟩ := own_shp own
  subst hvF
  have hcF := hcF _ _ _ rfl
  have IF := own_ints own
  clear hYd hc hb own
  obtain ⟨X, hX⟩ : ∃ z, z = w2.heap.size := ⟨_, rfl⟩
  obtain ⟨v3, hv3⟩ : ∃ z, z = w2.alloc (.cells #[.slice ax S.length cx] 26) := ⟨_, rfl⟩
  have RX : v3.heap[X]? = some (.cells #[.slice ax S.length cx] 26 (0, 0)) := by rw [hv3, hX]; exact heap_alloc_new _ _
  have IX : Ints v3 ax S := by rw [hv3]; exact hI.below ((Below.refl _ _).alloc (Nat.le_refl _) _)
  have IFX : Ints v3 aF F := by rw [hv3]; exact IF.below ((Below.refl _ _).alloc (Nat.le_refl _) _)
  have bX : Below w2.heap.size w2 v3 := by rw [hv3]; exact (Below.refl _ _).alloc (Nat.le_refl _) _
  replace BW : Below W.heap.size W v3 := BW.trans (bX.mono BW.size)
  have lX : X < v3.heap.size := row_lt RX
  have HX := Lib.hid hX
  have Hv3 := Lib.hid hv3
  have cX := cell_of1' RX
  clear hX hv3 hI RX bX IF
  have BV := BW
  have B := Below.refl v3.heap.size v3
  have n1 := vLr_len S F t
  have n5 := vNw_len S F t
  have hc := impl_LeanRows ax S cx (by omega) aF F cF (by omega) hcF t ht v3 (IX.below B) (IFX.below B)
  go_wp2_with fail
  rw [← Hv3.out, ← HX.out]
  refine hc.mono ?_
  rintro e w3 ⟨v1', rfl, own1, hb⟩
  replace B := B.trans (hb.mono B.size)
  have cc := kept_cell B cX lX
  clear hc hb
  obtain ⟨a1, k1, hv1⟩ := own_shp own1
  subst hv1
  have J1 := own_ints own1
  clear own1
  have hc := spec_LeanRows ax S cx (by omega) aF F cF (by omega) hcF t ht w3 (IX.below B) (IFX.below B)
  go_wp2_with fail
  refine hc.mono ?_
  rintro e w4 ⟨v2', rfl, own2, hb⟩
  replace J1 := J1.below hb
  replace B := B.trans (hb.mono B.size)
  have cc := kept_cell B cX lX
  clear hc hb
  obtain ⟨a2, k2, hv2⟩ := own_shp own2
  subst hv2
  have J2 := own_ints own2
  clear own2
  have hc := likeInts_same a1 a2 (vLr S F t) k1 k2 w4 (by omega) J1 J2
  go_wp2_with fail
  refine hc.mono ?_
  rintro e w5 ⟨rfl, hb⟩
  replace J1 := J1.below hb
  replace J2 := J2.below hb
  replace B := B.trans (hb.mono B.size)
  have cc := kept_cell B cX lX
  clear hc hb
  clear J2
  have hc := impl_MissingChoices ax S cx (by omega) aF F cF (by omega) t ht w5 (IX.below B) (IFX.below B)
  go_wp2_with fail
  refine hc.mono ?_
  rintro e w6 ⟨v3', rfl, oM, hb⟩
  replace J1 := J1.below hb
  replace B := B.trans (hb.mono B.size)
  have cc := kept_cell B cX lX
  clear hc hb
  replace oM := oM.rd
  obtain ⟨a3, k3, hv3⟩ := rd_shapeF oM
  subst hv3
  obtain ⟨lo3, hlo3⟩ : ∃ lo hi : Nat, RdRws w6 lo hi (.slice a3 (vMi S F t).length k3) (vMi S F t) := ⟨_, _, oM⟩
  obtain ⟨hi3, J3⟩ := hlo3
  clear oM
  have hc := spec_MissingChoices ax S cx (by omega) aF F cF (by omega) t ht w6 (IX.below B) (IFX.below B)
  go_wp2_with fail
  refine hc.mono ?_
  rintro e w7 ⟨v4', rfl, oM, hb⟩
  replace J1 := J1.below hb
  replace J3 := J3.below hb
  replace B := B.trans (hb.mono B.size)
  have cc := kept_cell B cX lX
  clear hc hb
  obtain ⟨a4, k4, hv4⟩ := rd_shapeF oM
  subst hv4
  have hc := rows9_same a3 a4 k3 k4 _ _ _ _ (vMi S F t) w7 (fa_mi S F t) J3 oM
  go_wp2_with fail
  refine hc.mono ?_
  rintro e w8 ⟨rfl, hb⟩
  replace J1 := J1.below hb
  replace J3 := J3.below hb
  replace B := B.trans (hb.mono B.size)
  have cc := kept_cell B cX lX
  clear hc hb
  clear oM
  have hc := impl_CountMissing ax S cx (by omega) aF F cF (by omega) t ht w8 (IX.below B) (IFX.below B)
  go_wp2_with fail
  refine hc.mono ?_
  rintro e w9 ⟨rfl, hb⟩
  replace J1 := J1.below hb
  replace J3 := J3.below hb
  replace B := B.trans (hb.mono B.size)
  have cc := kept_cell B cX lX
  clear hc hb
  have hc := spec_CountMissing ax S cx (by omega) aF F cF (by omega) t ht w9 (IX.below B) (IFX.below B)
  go_wp2_with fail
  refine hc.mono ?_
  rintro e w10 ⟨rfl, hb⟩
  replace J1 := J1.below hb
  replace J3 := J3.below hb
  replace B := B.trans (hb.mono B.size)
  have cc := kept_cell B cX lX
  clear hc hb
  have hc := impl_NewChoices ax S cx (by omega) aF F cF (by omega) hcF t ht w10 (IX.below B) (IFX.below B)
  go_wp2_with fail
  refine hc.mono ?_
  rintro e w11 ⟨v5', rfl, own5, hb⟩
  replace J1 := J1.below hb
  replace J3 := J3.below hb
  replace B := B.trans (hb.mono B.size)
  have cc := kept_cell B cX lX
  clear hc hb
  obtain ⟨a5, k5, hv5⟩ := own_shp own5
  subst hv5
  have J5 := own_ints own5
  clear own5
  have hc := spec_NewChoices ax S cx (by omega) aF F cF (by omega) hcF t ht w11 (IX.below B) (IFX.below B)
  go_wp2_with fail
  refine hc.mono ?_
  rintro e w12 ⟨v6', rfl, own6, hb⟩
  replace J1 := J1.below hb
  replace J3 := J3.below hb
  replace J5 := J5.below hb
  replace B := B.trans (hb.mono B.size)
  have cc := kept_cell B cX lX
  clear hc hb
  obtain ⟨a6, k6, hv6⟩ := own_shp own6
  subst hv6
  have J6 := own_ints own6
  clear own6
  have hc := likeInts_same a5 a6 (vNw S F t) k5 k6 w12 (by omega) J5 J6
  go_wp2_with fail
  refine hc.mono ?_
  rintro e w13 ⟨rfl, hb⟩
  replace J1 := J1.below hb
  replace J3 := J3.below hb
  replace J5 := J5.below hb
  replace J6 := J6.below hb
  replace B := B.trans (hb.mono B.size)
  have cc := kept_cell B cX lX
  clear hc hb
  clear J6
  have BW : Below W.heap.size W w13 := BV.trans (B.mono BV.size)
  have hYd : Byts w13 w13.heap.size a n := (hY.keep fun b o v hb h => kept_cell BW h hb).mono BW.size
  have hc := drawGu_any a n cap hn w13 hYd
  go_wp2_with fail
  refine hc.mono ?_
  rintro e w14 ⟨ay, T, cy, y, rfl, hI, _, hT8, hy, hb⟩
  replace J1 := J1.below hb
  replace J3 := J3.below hb
  replace J5 := J5.below hb
  replace BW := BW.trans (hb.mono BW.size)
  replace B := B.trans (hb.mono B.size)
  clear hYd hc hb cc
  obtain ⟨Y, hY⟩ : ∃ z, z = w14.heap.size := ⟨_, rfl⟩
  obtain ⟨v4, hv4⟩ : ∃ z, z = w14.alloc (.cells #[.slice ay T.length cy] 26) := ⟨_, rfl⟩
  have RY : v4.heap[Y]? = some (.cells #[.slice ay T.length cy] 26 (0, 0)) := by rw [hv4, hY]; exact heap_alloc_new _ _
  have IY : Ints v4 ay T := by rw [hv4]; exact hI.below ((Below.refl _ _).alloc (Nat.le_refl _) _)
  have bY : Below w14.heap.size w14 v4 := by rw [hv4]; exact (Below.refl _ _).alloc (Nat.le_refl _) _
  replace BW : Below W.heap.size W v4 := BW.trans (bY.mono BW.size)
  have lY : Y < v4.heap.size := row_lt RY
  have HY := Lib.hid hY
  have Hv4 := Lib.hid hv4
  have cY := cell_of1' RY
  replace J1 := J1.below bY
  replace J3 := J3.below bY
  replace J5 := J5.below bY
  replace B : Below v3.heap.size v3 v4 := B.trans (bY.mono B.size)
  replace IX := IX.below B
  replace IFX := IFX.below B
  replace cX := kept_cell B cX lX
  replace lX := lt_of_below B lX
  clear hY hv4 hI RY bY B BV
  have BV := BW
  clear BW
  have B := Below.refl v4.heap.size v4
  have n7 := vGu_len T y
  have hc := impl_GreedyRows ay T cy (by omega) y hy v4 (IY.below B)
  go_wp2_with fail
  rw [← Hv4.out, ← HY.out]
  refine hc.mono ?_
  rintro e w15 ⟨v7', rfl, own7, hb⟩
  replace J1 := J1.below hb
  replace J3 := J3.below hb
  replace J5 := J5.below hb
  replace B := B.trans (hb.mono B.size)
  have cc := kept_cell B cX lX
  have cY' := kept_cell B cY lY
  clear hc hb
  obtain ⟨a7, k7, hv7⟩ := own_shp own7
  subst hv7
  have J7 := own_ints own7
  clear own7
  have hc := spec_GreedyRows ay T cy (by omega) y hy w15 (IY.below B)
  go_wp2_with fail
  refine hc.mono ?_
  rintro e w16 ⟨v8', rfl, own8, hb⟩
  replace J1 := J1.below hb
  replace J3 := J3.below hb
  replace J5 := J5.below hb
  replace J7 := J7.below hb
  replace B := B.trans (hb.mono B.size)
  have cc := kept_cell B cX lX
  have cY' := kept_cell B cY lY
  clear hc hb
  obtain ⟨a8, k8, hv8⟩ := own_shp own8
  subst hv8
  have J8 := own_ints own8
  clear own8
  have hc := likeInts_same a7 a8 (vGu T y) k7 k8 w16 (by omega) J7 J8
  go_wp2_with fail
  refine hc.mono ?_
  rintro e w17 ⟨rfl, hb⟩
  replace J1 := J1.below hb
  replace J3 := J3.below hb
  replace J5 := J5.below hb
  replace J7 := J7.below hb
  replace J8 := J8.below hb
  replace B := B.trans (hb.mono B.size)
  have cc := kept_cell B cX lX
  have cY' := kept_cell B cY lY
  clear hc hb
  clear J8
  have hc := impl_CountChoices ax S cx (by omega) t ht w17 (IX.below B)
  go_wp2_with fail
  refine hc.mono ?_
  rintro e w18 ⟨rfl, hb⟩
  replace J1 := J1.below hb
  replace J3 := J3.below hb
  replace J5 := J5.below hb
  replace J7 := J7.below hb
  replace B := B.trans (hb.mono B.size)
  have cc := kept_cell B cX lX
  have cY' := kept_cell B cY lY
  clear hc hb
  have hc := spec_CountChoices ax S cx (by omega) t ht w18 (IX.below B)
  go_wp2_with fail
  refine hc.mono ?_
  rintro e w19 ⟨rfl, hb⟩
  replace J1 := J1.below hb
  replace J3 := J3.below hb
  replace J5 := J5.below hb
  replace J7 := J7.below hb
  replace B := B.trans (hb.mono B.size)
  have cc := kept_cell B cX lX
  have cY' := kept_cell B cY lY
  clear hc hb
  have IY0 := IY
  clear IY
  have BW : Below W.heap.size W w19 := BV.trans (B.mono BV.size)
  have hYd : Byts w19 w19.heap.size a n := (hY.keep fun b o v hb h => kept_cell BW h hb).mono BW.size
  have hc := drawHc_any a n cap hn w19 hYd
  go_wp2_with fail
  refine hc.mono ?_
  rintro e w20 ⟨az, U, cz, z, gL, L, cL, rfl, hI, _, hU8, hz, hLc, hcm, hLl, IL, _, hb⟩
  replace J1 := J1.below hb
  replace J3 := J3.below hb
  replace J5 := J5.below hb
  replace J7 := J7.below hb
  replace BW := BW.trans (hb.mono BW.size)
  have IY1 := (IY0.below B).below hb
  clear IY0
  replace B := B.trans (hb.mono B.size)
  clear hYd hc hb cc cY'
  obtain ⟨Z, hZ⟩ : ∃ z, z = w20.heap.size := ⟨_, rfl⟩
  obtain ⟨v5, hv5⟩ : ∃ z, z = w20.alloc (.cells #[.slice az U.length cz] 26) := ⟨_, rfl⟩
  have RZ : v5.heap[Z]? = some (.cells #[.slice az U.length cz] 26 (0, 0)) := by rw [hv5, hZ]; exact heap_alloc_new _ _
  have IZ : Ints v5 az U := by rw [hv5]; exact hI.below ((Below.refl _ _).alloc (Nat.le_refl _) _)
  have ILZ : Ints v5 (some ⟨gL, 0, none⟩) L := by rw [hv5]; exact IL.below ((Below.refl _ _).alloc (Nat.le_refl _) _)
  have bZ : Below w20.heap.size w20 v5 := by rw [hv5]; exact (Below.refl _ _).alloc (Nat.le_refl _) _
  replace BW : Below W.heap.size W v5 := BW.trans (bZ.mono BW.size)
  have lZ : Z < v5.heap.size := row_lt RZ
  have HZ := Lib.hid hZ
  have Hv5 := Lib.hid hv5
  have cZ := cell_of1' RZ
  replace J1 := J1.below bZ
  replace J3 := J3.below bZ
  replace J5 := J5.below bZ
  replace J7 := J7.below bZ
  replace B : Below v4.heap.size v4 v5 := B.trans (bZ.mono B.size)
  replace IX := IX.below B
  replace IFX := IFX.below B
  replace cX := kept_cell B cX lX
  replace lX := lt_of_below B lX
  replace cY := kept_cell B cY lY
  replace lY := lt_of_below B lY
  clear hZ hv5 hI RZ bZ B BV
  clear IL
  have BV := BW
  clear BW
  have B := Below.refl v5.heap.size v5
  have IY : Ints v5 ay T := by rw [Hv5.out]; exact IY1.below ((Below.refl _ _).alloc (Nat.le_refl _) _)
  clear IY1 hY
  have K1 := J1
  have K3 := J3
  have K5 := J5
  have K7 := J7
  have hc9 : cL ≤ 9223372036854775807 := by unfold maxLen at hcm; omega
  have hc := impl_HasChoice az U cz (by omega) z hz gL L cL (by omega) hLc hc9 v5 (IZ.below B) (ILZ.below B)
  go_wp2_with fail
  rw [← Hv5.out, ← HZ.out]
  refine hc.mono ?_
  rintro e w21 ⟨rfl, hb⟩
  replace J1 := J1.below hb
  replace J3 := J3.below hb
  replace J5 := J5.below hb
  replace J7 := J7.below hb
  replace B := B.trans (hb.mono B.size)
  have cc := kept_cell B cX lX
  have cY' := kept_cell B cY lY
  have cZ' := kept_cell B cZ lZ
  clear hc hb
  have hc := spec_HasChoice az U cz (by omega) z hz gL L cL (by omega) hLc hc9 w21 (IZ.below B) (ILZ.below B)
  go_wp2_with fail
  refine hc.mono ?_
  rintro e w22 ⟨rfl, hb⟩
  replace J1 := J1.below hb
  replace J3 := J3.below hb
  replace J5 := J5.below hb
  replace J7 := J7.below hb
  replace B := B.trans (hb.mono B.size)
  have cc := kept_cell B cX lX
  have cY' := kept_cell B cY lY
  have cZ' := kept_cell B cZ lZ
  clear hc hb
  clear J1 J3 J5 IZ ILZ cZ cZ' lZ Hv3 Hv4 Hv5
  go_upto_if 219 with fail
  go_cut [39, 40, 41, 42] from 218 (fun _ _ _ _ wx => Below v5.heap.size v5 wx)
  case first => as_aux_lemma =>
    clear BV K1 K3 K5 K7
    by_cases hE : eGu T y = 0
    · have hE0 : (eGu T y == 0) = true := by simpa using hE
      obtain ⟨g1, g2, g3, g4⟩ := gu_all hE
      have q1 : ¬ vSt T (vGu T y) < y := by omega
      have q2 : ¬ ((vGu T y).length : Int) < vCb T y := by omega
      clear hE g3 g4
      have hc := impl_StrengthOf ay T cy (by omega) a7 (vGu T y) k7 (by omega) w22 (IY.below B) J7
      rw [g2] at hc
      go_wp2_with fail
      refine hc.mono ?_
      rintro e w23 ⟨rfl, hb⟩
      replace J7 := J7.below hb
      replace B := B.trans (hb.mono B.size)
      have cc := kept_cell B cX lX
      have cY' := kept_cell B cY lY
      clear hc hb
      have hc := impl_ChoiceBound ay T cy (by omega) y hy w23 (IY.below B)
      rw [g1] at hc
      go_wp2_with fail
      refine hc.mono ?_
      rintro e w24 ⟨rfl, hb⟩
      replace J7 := J7.below hb
      replace B := B.trans (hb.mono B.size)
      have cc := kept_cell B cX lX
      have cY' := kept_cell B cY lY
      clear hc hb
      clear cc cY'
      go_wp2_with fail
      go_meet
      exact B
    · have hE0 : (eGu T y == 0) = false := by simpa using hE
      clear hE
      go_wp2_with fail
      go_meet
      exact B
  case rest => as_aux_lemma =>
  clear B J7 K7 cc cY'
  have B := hcut
  clear hcut
  have J1 := K1.below B
  have J3 := K3.below B
  have J5 := K5.below B
  have cX' := kept_cell B cX lX
  clear K1 K3 K5
  by_cases hE : eR10 S F t = 0
  · have f0 : (eR10 S F t != 0) = false := by rw [hE]; rfl
    obtain ⟨l1, l2, l3⟩ := fa_lean hE
    have f1 : (eC10 S t != 0) = false := by rw [fa_ec hE]; rfl
    have q1 : (vCm S F t != ((vMi S F t).length : Int)) = false := by rw [fa_cm]; simp
    have q2 : ¬ (F.length : Int) < ((vLr S F t).length : Int) := by omega
    obtain ⟨m1, m2, m3⟩ := fa_new hE
    obtain ⟨b1, b2⟩ := fa_bd S F t
    have hw : IntKind.i64.wrap (vCc S t - vCm S F t) = vCc S t - vCm S F t := IntWalk.i64_in _ ⟨by omega, by omega⟩
    have q3 : (((vNw S F t).length : Int) == (F.length : Int)) = true := by rw [m1]; simp
    have M2 := Lib.hid m2
    have M3 := Lib.hid m3
    clear hE m1 m2 m3 l3 b1 b2
    have hc := impl_MissingChoices ax S cx (by omega) a1 (vLr S F t) k1 (by omega) t ht wc (IX.below B) J1
    rw [l1, l2] at hc
    go_wp2_with fail
    refine hc.mono ?_
    rintro e w25 ⟨v9', rfl, oM, hb⟩
    replace J1 := J1.below hb
    replace J3 := J3.below hb
    replace J5 := J5.below hb
    replace B := B.trans (hb.mono B.size)
    have cX' := kept_cell B cX lX
    clear hc hb
    replace oM := oM.rd
    obtain ⟨a9, k9, hv9⟩ := rd_shapeF oM
    subst hv9
    clear l1 l2
    have hc := rows9_same a9 a3 k9 k3 _ _ _ _ (vMi S F t) w25 (fa_mi S F t) oM J3
    go_wp2_with fail
    refine hc.mono ?_
    rintro e w26 ⟨rfl, hb⟩
    replace J1 := J1.below hb
    replace J3 := J3.below hb
    replace J5 := J5.below hb
    replace B := B.trans (hb.mono B.size)
    have cX' := kept_cell B cX lX
    clear hc hb
    clear oM J3 J1
    have hc := sum_any a5 (vNw S F t) k5 1048576 (by omega) M3.out w26 (by omega) J5
    rw [M2.out] at hc
    go_wp2_with fail
    refine hc.mono ?_
    rintro e w27 ⟨rfl, hb⟩
    replace J5 := J5.below hb
    replace B := B.trans (hb.mono B.size)
    have cX' := kept_cell B cX lX
    clear hc hb
    clear cX'
    go_wp2_with fail
    go_ret
    exact ⟨by first | rfl | simp [q3] | (simp; omega), BV.trans (B.mono BV.size)⟩
  · have f0 : (eR10 S F t != 0) = true := by simp [hE]
    have z1 : (((vLr S F t).length : Int) == 0) = true := by rw [fa_none hE]; rfl
    clear hE cX'
    go_wp2_with fail
    go_ret
    exact ⟨by first | rfl | simp [z1], BV.trans (B.mono BV.size)⟩

end Go.Proofs.YtpmfedllbiblbaaGreat

namespace Go.Proofs.YtpmfedllbiblbaaGreat
open Go.RowKit Go.ChangeShapes Go.WideShapes Go.ChangeAt Cv
set_option linter.unusedVariables false
set_option maxRecDepth 100000

theorem own : ownKnob Tryz.prog.godebug = none := by kernel_rfl
theorem laidOut : laidOutB Tryz.prog = true := by kernel_rfl

end Go.Proofs.YtpmfedllbiblbaaGreat

namespace Go.Proofs.YtpmfedllbiblbaaGreat
open Go.RowKit Go.ChangeShapes Go.WideShapes Go.ChangeAt Cv
set_option linter.unusedVariables false
set_option maxRecDepth 100000

theorem row_bytes {H : Type} {enc : TypeId × Value → H} {W : World} {sp : Nat → Bool} {fuel : Nat} {v : Value} {x : DataW H × List MemPlace} {a : Option Addr} {len cap : Nat} (hv : v = .slice a len cap)
    (hf : DataW.trod enc Tryz.prog W 0 sp true fuel 22 [v] = some x) : Byts W W.heap.size a len := by
  subst hv
  rcases open_ints Tryz.underlying22 Tryz.underlying5 (by kernel_rfl) hf with ⟨hcs, _⟩ | ⟨ad, l, c, zs, hcs, _, hl, hm, hz, _, hcell, hwz⟩
  · simp only [List.cons.injEq, Value.slice.injEq, and_true] at hcs
    exact .inl hcs.2.1
  · simp only [List.cons.injEq, Value.slice.injEq, and_true] at hcs
    obtain ⟨ha, hlen, hcap⟩ := hcs
    have hlz : l ≤ zs.length := by rw [hz]; split <;> omega
    by_cases h0 : l = 0
    · exact .inl (by omega)
    · obtain ⟨b, off, spot⟩ := ad
      have hc0 := hcell 0 (by omega)
      have hspot : spot = none := by simpa [Addr.add] using World.cell?_spot hc0
      subst hspot
      refine .inr ⟨b, off, ha, World.block_lt_of_cell? W _ hc0, fun i hi => ?_⟩
      have hlt : i < zs.length := by omega
      have hci := hcell i hlt
      have hw := hwz (zs.getD i 0) (by rw [List.getD_eq_getElem?_getD, List.getElem?_eq_getElem hlt]; exact List.getElem_mem hlt)
      simp [Lit.wf, IntKind.min, IntKind.max, IntKind.signed, IntKind.bits] at hw
      refine ⟨zs.getD i 0, by simp; omega, by simp; omega, ?_⟩
      rw [← hci]
      congr 1
      unfold Addr.add
      split
      · simp_all
      · rfl

theorem open_bytesv {H : Type} {enc : TypeId × Value → H} {W : World} {base : Nat} {sp : Nat → Bool} {v : Value} {d : DataW H} {p : List MemPlace} (hv : Value.okWide Tryz.prog W .any base 22 v) (h : DataW.Trod enc Tryz.prog W 0 sp true 22 v d p) :
    ∃ (a : Option Addr) (n cap : Nat), v = .slice a n cap ∧ Byts W W.heap.size a n := by
  obtain ⟨a, len, cap, rfl⟩ := okWide_slice Tryz.underlying22 hv
  obtain ⟨fuel, hf⟩ := h
  exact ⟨a, len, cap, rfl, row_bytes rfl (by simpa [Value.cells] using hf)⟩

end Go.Proofs.YtpmfedllbiblbaaGreat
