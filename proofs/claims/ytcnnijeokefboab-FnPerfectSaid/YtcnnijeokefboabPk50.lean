/-
  Texts put together: Exc, Lws, Rw9. By an AI agent.
-/
import Derived.Test.YtcnnijeokefboabMath
import Derived.Test.YtcnnijeokefboabPk40
import Derived.Test.YtcnnijeokefboabPkTimesC
import Derived.Test.YtcnnijeokefboabPk4
import Derived.Test.YtcnnijeokefboabPkRwc
namespace Go.Proofs.Ytcnnijeokefboab
open Go.RowKit Cv
set_option linter.unusedVariables false
set_option linter.unusedSimpArgs false
set_option maxRecDepth 100000

set_option maxHeartbeats 2000000 in
theorem impl_ExcessOf (ao : Option Addr) (S : List Int) (cap : Nat) (hn : S.length ≤ 4294967296) (ac : Option Addr) (C : List Int) (capc : Nat) (hnc : C.length ≤ 4294967296) (r : Int) (hr : -9223372036854775808 ≤ r ∧ r ≤ 9223372036854775807) (w : World) (hS : Ints w ao S) (hC : Ints w ac C) :
    Calls Try.prog 20 #[.agg #[.slice ao S.length cap], .slice ac C.length capc, .int .i64 r] w fun e w' => e = .returned (.tuple #[.int .i64 (vExc S C r), .int .i64 (eExc S C r)]) ∧ Below w.heap.size w w' := by
  have B0 : Below w.heap.size w (w.alloc (.cells #[.slice ao S.length cap] 26)) := by go_grown
  have HQ := Lib.hid (eCov2_nil S C r)
  by_cases hq : eCov S C r = 0
  · obtain ⟨hz, r1, r2⟩ := eCov_zero hq
    obtain ⟨hSp, hc1, hc2⟩ := eCode_zero hz
    obtain ⟨N1, N2⟩ := nW_bd hSp
    have hlen := code_len hSp hc1 hc2
    have HSp := Lib.hid hSp
    have HC1 : Hid (∀ i, i < C.length → 0 ≤ gi C i ∧ gi C i ≤ 9223372036854775807) := Lib.hid fun i h => by have := hc1 i h; omega
    clear hc1 hc2 hSp
    have hqn : (eCov2 S C [] r != 0) = false := by rw [HQ.out]; simp [hq]
    obtain ⟨N, hN⟩ : ∃ N : Nat, nW S = (N : Int) := ⟨(nW S).toNat, by omega⟩
    have HNN : Hid ((nW S).toNat = N) := Lib.hid (by omega)
    have HN := Lib.hid hN
    have hNle : N ≤ 1024 := by omega
    have HQ0 := Lib.hid hq
    clear hq hz hN
    go_enter Try.func20, Try.ntmps20
    go_wp2_with fail
    refine (coverError_n ao S cap hn ac C capc hnc r none [] 0 0 rfl (by omega) _ (hS.below B0) (hC.below B0) (.inl rfl)).mono ?_
    rintro e w1 ⟨rfl, hb⟩
    have c1 := kept_cell hb (cell_new w (.slice ao S.length cap) 26) (lt_alloc _ _)
    have B1 : Below w.heap.size w w1 := B0.trans (hb.mono B0.size)
    clear hb B0
    go_wp2_with fail
    refine (timesCovered_any ao S cap HSp.out ac C capc (by omega) HC1.out r r1 r2 N HN _ (hS.below B1) (hC.below B1)).mono ?_
    rintro e w2 ⟨q, rfl, oq, hb2⟩
    have B2 := B1.trans (hb2.mono B1.size)
    have HT := Lib.hid (timesL_len S C r)
    clear hb2 B1 c1
    go_wp2_with fail
    go_loop [9, 24] (fun t i => ∃ k : Nat, k ≤ N ∧ i = .int .i64 k ∧ t = .int .i64 (exS (tAt S C r) k) ∧ Hid (∀ u : Nat, u < k → tAt S C r u ≠ 0)) (fun _ i => N - (intOf i).toNat)
    case atStart => exact ⟨0, Nat.zero_le _, rfl, rfl, Lib.hid fun u h => by omega⟩
    case round =>
      obtain ⟨k, hk, rfl, rfl, HZ⟩ := hrel
      by_cases hlt : k < N
      · have hck := oq.cell (k := k) (by rw [HT.out, HNN.out]; exact hlt)
        rw [gi_timesA _ _ _ _ (by rw [HNN.out]; exact hlt)] at hck
        obtain ⟨t1, t2⟩ := tAt_bd S C r k
        have hE := exS_bd (tAt S C r) C.length (by omega) (tAt_bd S C r) k
        have hkC : (k : Int) * (C.length : Int) ≤ 1024 * 1024 := Int.mul_le_mul (by omega) (by omega) (by omega) (by omega)
        obtain ⟨e1, e2⟩ := hE
        have e3 : exS (tAt S C r) k ≤ 1048576 := by omega
        clear e2 hkC
        by_cases hz : tAt S C r k = 0
        · have hzb : (tAt S C r k == 0) = true := by simp [hz]
          have HX := Lib.hid (exc_zero HQ0.out (by rw [HNN.out]; exact zTo_at hlt hz))
          clear hz
          go_wp2
          go_ret2
          exact ⟨by rw [HX.out.1, HX.out.2]; try rfl, B2⟩
        · have hzb : (tAt S C r k == 0) = false := by simpa using hz
          have HZk := Lib.hid hz
          have HS1 : Hid (exS (tAt S C r) (k + 1) = exS (tAt S C r) k + (tAt S C r k - 1)) := Lib.hid rfl
          clear hz
          go_wp2
          go_round
          case rel =>
            refine ⟨k + 1, by omega, by go_num, by rw [HS1.out]; try rfl, Lib.hid fun u hu => ?_⟩
            by_cases e : u = k
            · subst e; exact HZk.out
            · exact HZ.out u (by omega)
          case measure => simp [intOf]; omega
      · have ek : Hid (k = N) := Lib.hid (by omega)
        have HX := Lib.hid (exc_ok HQ0.out (by rw [HNN.out]; exact zTo_none fun u hu => HZ.out u (by omega)))
        go_wp2
        go_ret2
        exact ⟨by rw [HX.out.1, HX.out.2, HNN.out, ← ek.out]; try rfl, B2⟩
  · have hqn : (eCov2 S C [] r != 0) = true := by rw [HQ.out]; simpa using hq
    have HX := Lib.hid (exc_bad hq)
    clear hq
    go_enter Try.func20, Try.ntmps20
    go_wp2_with fail
    refine (coverError_n ao S cap hn ac C capc hnc r none [] 0 0 rfl (by omega) _ (hS.below B0) (hC.below B0) (.inl rfl)).mono ?_
    rintro e w1 ⟨rfl, hb⟩
    go_wp2_with fail
    go_ret2
    exact ⟨by rw [HX.out.1, HX.out.2, ← HQ.out]; try rfl, B0.trans (hb.mono B0.size)⟩

end Go.Proofs.Ytcnnijeokefboab

namespace Go.Proofs.Ytcnnijeokefboab
open Go.RowKit Cv
set_option linter.unusedVariables false
set_option linter.unusedSimpArgs false
set_option maxRecDepth 100000

theorem big_any (a : Option Addr) (n cap : Nat) (w : World) :
    Calls Try.prog 4 #[.slice a n cap] w fun e w' => e = .returned (.bool (decide (4096 < n))) ∧ Below w.heap.size w w' := by
  have e1 : decide ((4096 : Int) < (n : Int)) = decide (4096 < n) := by
    by_cases h : 4096 < n
    · rw [decide_eq_true h, decide_eq_true (by omega)]
    · rw [decide_eq_false h, decide_eq_false (by omega)]
  by_cases h : 4096 < n
  · have i1 : (4096 : Int) < (n : Int) := by omega
    rw [decide_eq_true h]
    clear e1 h
    go_enter Try.func4, Try.ntmps4
    go_wp2_with fail
    go_ret
    exact ⟨rfl, Below.refl _ _⟩
  · have i1 : ¬ (4096 : Int) < (n : Int) := by omega
    rw [decide_eq_false h]
    clear e1 h
    go_enter Try.func4, Try.ntmps4
    go_wp2_with fail
    go_ret
    exact ⟨rfl, Below.refl _ _⟩

theorem likeInts_same (a a' : Option Addr) (S : List Int) (c c' : Nat) (w : World) (hn : S.length ≤ 4294967296) (h : Ints w a S) (h' : Ints w a' S) :
    Calls Try.prog 16 #[.slice a S.length c, .slice a' S.length c'] w fun e w' => e = .returned (.bool true) ∧ Below w.heap.size w w' := by
  go_enter Try.func16, Try.ntmps16
  go_wp2
  go_loopw [5] (fun i wr => ∃ k : Nat, k ≤ S.length ∧ i = .int .i64 k ∧ Below w.heap.size w wr) (fun i _ => S.length - (intOf i).toNat)
  case atStart => exact ⟨0, Nat.zero_le _, rfl, Below.refl _ _⟩
  case round =>
    obtain ⟨k, hk, rfl, hbel⟩ := hrel
    by_cases hlt : k < S.length
    · obtain ⟨b, o, rfl, hb, hc⟩ := h.at hlt
      obtain ⟨b', o', rfl, hb', hc'⟩ := h'.at hlt
      have hck : wr.cell? ⟨b, o + k, none⟩ = some (.int .i64 (gi S k)) := (hbel.cell (p := ⟨b, o + k, none⟩) hb).trans (hc k hlt)
      have hck' : wr.cell? ⟨b', o' + k, none⟩ = some (.int .i64 (gi S k)) := (hbel.cell (p := ⟨b', o' + k, none⟩) hb').trans (hc' k hlt)
      clear hc hc'
      go_wp2
      go_quiet (fail)
      go_wp2
      go_roundw
      case rel => exact ⟨k + 1, by omega, by go_num, below_drewN hbel _⟩
      case measure => simp [intOf]; omega
    · go_wp2
      go_ret
      exact ⟨rfl, hbel⟩

/-- is x among the first k numbers of S -/
def hasTo (S : List Int) (x : Int) : Nat → Bool
  | 0 => false
  | k + 1 => hasTo S x k || gi S k == x
theorem hasTo_iff (S : List Int) (x : Int) : ∀ k, hasTo S x k = true ↔ ∃ j, j < k ∧ gi S j = x := by
  intro k
  induction k with
  | zero => simp [hasTo]
  | succ k ih =>
    simp only [hasTo, Bool.or_eq_true, ih, beq_iff_eq]
    constructor
    · rintro (⟨j, hj, e⟩ | e)
      · exact ⟨j, by omega, e⟩
      · exact ⟨k, by omega, e⟩
    · rintro ⟨j, hj, e⟩
      by_cases h : j = k
      · subst h; exact .inr e
      · exact .inl ⟨j, by omega, e⟩
theorem hasTo_mono {S : List Int} {x : Int} {k n : Nat} (h : k ≤ n) (hk : hasTo S x k = true) : hasTo S x n = true := by
  obtain ⟨j, hj, e⟩ := (hasTo_iff S x k).1 hk
  exact (hasTo_iff S x n).2 ⟨j, by omega, e⟩
theorem hasInt_any (a : Option Addr) (S : List Int) (c : Nat) (x : Int) (w : World) (hn : S.length ≤ 4294967296) (h : Ints w a S) :
    Calls Try.prog 22 #[.slice a S.length c, .int .i64 x] w fun e w' => e = .returned (.bool (hasTo S x S.length)) ∧ Below w.heap.size w w' := by
  obtain ⟨V, hV⟩ : ∃ V, V = hasTo S x S.length := ⟨_, rfl⟩
  rw [← hV]
  have HV := Lib.hid hV
  clear hV
  go_enter Try.func22, Try.ntmps22
  go_wp2
  go_loopw [5] (fun i wr => ∃ k : Nat, k ≤ S.length ∧ i = .int .i64 k ∧ Hid (hasTo S x k = false) ∧ Below w.heap.size w wr) (fun i _ => S.length - (intOf i).toNat)
  case atStart => exact ⟨0, Nat.zero_le _, rfl, Lib.hid rfl, Below.refl _ _⟩
  case round =>
    obtain ⟨k, hk, rfl, HK, hbel⟩ := hrel
    by_cases hlt : k < S.length
    · obtain ⟨b, o, rfl, hb, hc⟩ := h.at hlt
      have hck : wr.cell? ⟨b, o + k, none⟩ = some (.int .i64 (gi S k)) := (hbel.cell (p := ⟨b, o + k, none⟩) hb).trans (hc k hlt)
      clear hc
      by_cases he : gi S k = x
      · have hbe : (gi S k == x) = true := by simpa using he
        have hVt : Hid (V = true) := Lib.hid (by rw [HV.out]; exact (hasTo_iff S x _).2 ⟨k, hlt, he⟩)
        clear he
        go_wp2
        go_ret
        exact ⟨by rw [hVt.out]; rfl, hbel⟩
      · have hbe : (gi S k == x) = false := by simpa using he
        have HK' : Hid (hasTo S x (k + 1) = false) := Lib.hid (by show (hasTo S x k || gi S k == x) = false; rw [HK.out, hbe]; rfl)
        clear he
        go_wp2
        go_roundw
        case rel => exact ⟨k + 1, by omega, by go_num, HK', hbel⟩
        case measure => simp [intOf]; omega
    · have hVf : Hid (V = false) := Lib.hid (by rw [HV.out, show S.length = k by omega]; exact HK.out)
      go_wp2
      go_ret
      exact ⟨by rw [hVf.out]; rfl, hbel⟩

end Go.Proofs.Ytcnnijeokefboab

namespace Go.Proofs.Ytcnnijeokefboab
open Go.RowKit Cv
set_option linter.unusedVariables false
set_option linter.unusedSimpArgs false
set_option maxRecDepth 100000

theorem OwnRws.rd {w : World} {lo hi : Nat} {v : Value} {R : List (List Int)} (h : OwnRws w lo hi v R) : RdRws w lo hi v R := by
  obtain ⟨hs, e1, e2, e3, e4, _⟩ := h
  exact ⟨hs, e1, e2, e3, fun i hi => by obtain ⟨x, hx, ho, _, hk⟩ := e4 i hi; exact ⟨x, hx, ho, hk⟩⟩
set_option maxHeartbeats 1000000 in
theorem rows9_same (a a' : Option Addr) (c c' lo hi lo' hi' : Nat) (R : List (List Int)) (w : World) (hR : R.length ≤ 4096 ∧ ∀ i, (rr R i).length ≤ 4096) (h : RdRws w lo hi (.slice a R.length c) R) (h' : RdRws w lo' hi' (.slice a' R.length c') R) :
    Calls Try.prog 19 #[.slice a R.length c, .slice a' R.length c'] w fun e w' => e = .returned (.bool true) ∧ Below w.heap.size w w' := by
  obtain ⟨hl, hr⟩ := hR
  have HR := Lib.hid hr
  clear hr
  go_enter Try.func19, Try.ntmps19
  go_wp2_with fail
  go_loopw [5] (fun i wr => ∃ k : Nat, k ≤ R.length ∧ i = .int .i64 k ∧ Below w.heap.size w wr) (fun i _ => R.length - (intOf i).toNat)
  case atStart => exact ⟨0, Nat.zero_le _, rfl, Below.refl _ _⟩
  case round =>
    obtain ⟨k, hk, rfl, B⟩ := hrel
    by_cases hlt : k < R.length
    · obtain ⟨g, z, rfl, hg, hc, ho⟩ := h.at hlt
      obtain ⟨g', z', rfl, hg', hc', ho'⟩ := h'.at hlt
      replace hc := kept_cell B hc hg
      replace hc' := kept_cell B hc' hg'
      obtain ⟨az, cz, hz, hI⟩ := ho.ints
      obtain ⟨az', cz', hz', hI'⟩ := ho'.ints
      subst hz
      subst hz'
      have hL := HR.out k
      obtain ⟨L, hLe⟩ : ∃ L, L = rr R k := ⟨_, rfl⟩
      rw [← hLe] at hc hc' hI hI' hL
      have hgw : g < wr.heap.size := Nat.lt_of_lt_of_le hg B.size
      have hgw' : g' < wr.heap.size := Nat.lt_of_lt_of_le hg' B.size
      have i1 : (0 : Int) ≤ (k : Int) := by omega
      have i2 : (k : Int) < (R.length : Int) := by omega
      clear ho ho' hLe
      go_wp2_with fail
      go_region_held3 (fun w' => w'.cell? ⟨g, k, none⟩ = some (.slice az L.length cz) ∧ w'.cell? ⟨g', k, none⟩ = some (.slice az' L.length cz')) (first | exact ⟨hc, hc'⟩ | exact ⟨kept_cell hb hc hgw, kept_cell hb hc' hgw'⟩) ((go_at_call 16; refine (likeInts_same az az' L cz cz' _ (by omega) (hI.below B.drew) (hI'.below B.drew)).mono ?_; rintro e w4 ⟨rfl, hb'⟩; have hb : Below wr.heap.size wr w4 := (Below.refl wr.heap.size wr).drew.trans hb'))
      replace B := B.trans (hb.mono B.size)
      clear hb hb' hc hc'
      go_wp2_with fail
      go_roundw
      case rel => exact ⟨k + 1, by omega, by go_num, B⟩
      case measure => simp [intOf]; omega
    · go_wp2_with fail
      go_ret
      exact ⟨rfl, B⟩

end Go.Proofs.Ytcnnijeokefboab
