/-
  The contract of the model of DoPart. By an AI agent.
-/
import Derived.Test.YtcbkmmadejbbpaaMathQ
import Derived.Test.YtcbkmmadejbbpaaBool
import Derived.Test.YtcbkmmadejbbpaaShA
import Derived.Test.YtcbkmmadejbbpaaBall2
import Derived.Test.YtcbkmmadejbbpaaErr2
import Derived.Test.YtcbkmmadejbbpaaMark
import Derived.Deep.RegionHeld3
namespace Go.Proofs.Ytcbkmmadejbbpaa
open Go.RowKit Cv
set_option linter.unusedVariables false
set_option linter.unusedSimpArgs false
set_option maxRecDepth 100000

/-- a table of truths -/
def tbP (f : Nat → Bool) (N : Nat) : List Bool := (List.range N).map f
theorem tbP_len (f : Nat → Bool) (N : Nat) : (tbP f N).length = N := by simp [tbP]
theorem gb_tbP (f : Nat → Bool) {N k : Nat} (h : k < N) : gb (tbP f N) k = f k := by simp [gb, tbP, h]
theorem tbP_set (f : Nat → Bool) (N k : Nat) (x : Bool) : (tbP f N).set k x = tbP (fun u => if u = k then x else f u) N := by
  apply List.ext_getElem
  · simp [tbP]
  · intro i h1 h2
    simp only [tbP, List.getElem_set, List.getElem_map, List.getElem_range]
    by_cases e : k = i
    · subst e; simp
    · rw [if_neg e, if_neg (by omega)]
theorem tbP_congr {f g : Nat → Bool} {N : Nat} (h : ∀ u, u < N → f u = g u) : tbP f N = tbP g N := by
  unfold tbP
  exact List.map_congr_left fun j hj => h j (by simpa using hj)
theorem tbP_0 (N : Nat) : List.replicate N false = tbP (fun _ => false) N := by
  apply List.ext_getElem
  · simp [tbP]
  · intro i h1 h2; simp [tbP]
/-- the table behind the marking of a list -/
def aftB (f : Nat → Bool) (L : List Int) : Nat → Bool := if clrB f L = true then orL f L else f
theorem orL_0 (f : Nat → Bool) (L : List Int) : orL f (L.take 0) = f := by funext u; simp [orL, inL]
theorem orL_step (f : Nat → Bool) (L : List Int) (k x : Nat) (hk : k < L.length) (hx : gi L k = (x : Int)) : orL f (L.take (k + 1)) = fun u => if u = x then true else orL f (L.take k) u := by
  funext u
  unfold orL inL
  rw [take_snoc L k hk, hx]
  by_cases e : u = x
  · subst e; simp
  · have h1 : ¬ (u : Int) = (x : Int) := by omega
    rw [if_neg e]; simp [h1]
theorem gby_below {w w' : World} (h : Below w.heap.size w w') (g : Nat) : w.grownBy w' (some g) := ⟨h.os, h.tape, h.output, h.size, fun i hi _ => h.block i hi⟩
theorem gby_set (w : World) (g k : Nat) (u : Value) : w.grownBy (w.setCell ⟨g, k, none⟩ u) (some g) := by
  refine ⟨rfl, rfl, rfl, by simp, fun i hi hne => ?_⟩
  exact Below.heap_setCell w ⟨g, k, none⟩ u i (fun e => hne (by rw [e]))

set_option maxHeartbeats 2000000 in
theorem l06Mark_any (ao : Option Addr) (S : List Int) (cap : Nat) (hSp : Sp S) (ac : Addr) (C : List Int) (capc : Nat) (hl : C.length ≤ 1024) (hC : ∀ i, i < C.length → 0 ≤ gi C i ∧ gi C i ≤ 9223372036854775807) (x : Int) (hx : 0 ≤ x ∧ x ≤ 9223372036854775807) (N : Nat) (hN : Hid (nW S = (N : Int))) (base g : Nat) (f : Nat → Bool) (w : World) (hS : Ints w ao S) (hCI : Ints w (some ac) C)
    (own : OwnBools w base (.slice (some ⟨g, 0, none⟩) N N) (tbP f N)) :
    Calls Try.prog 67 #[.agg #[.slice ao S.length cap], .slice (some ac) C.length capc, .int .i64 x, .slice (some ⟨g, 0, none⟩) N N] w fun e w' => e = .returned (.bool (clrB f (shW S C x))) ∧ OwnBools w' base (.slice (some ⟨g, 0, none⟩) N N) (tbP (aftB f (shW S C x)) N) ∧ w.grownBy w' (some g) := by
  have B0 : Below w.heap.size w (w.alloc (.cells #[.slice ao S.length cap] 26)) := by go_grown
  have hg := own.base_le
  have hL : Hid (∀ i, i < (shW S C x).length → 0 ≤ gi (shW S C x) i ∧ gi (shW S C x) i < (N : Int)) := Lib.hid fun i hi => by rw [← hN.out]; exact shW_bd hSp C x hi
  have hLl := shW_le S C x
  have hcall := shifted_any ao S cap hSp ac C capc hl hC x hx (w.alloc (.cells #[.slice ao S.length cap] 26)) (hS.below B0) (hCI.below B0)
  change Calls Try.prog _ _ _ (fun e w' => ∃ v, e = .returned v ∧ OwnInts w' _ v (shW S C x) ∧ _) at hcall
  obtain ⟨L, hLe⟩ : ∃ L, L = shW S C x := ⟨_, rfl⟩
  rw [← hLe] at hL hLl hcall ⊢
  clear hLe hN hSp hC
  go_enter Try.func67, Try.ntmps67
  go_wp2_with fail
  refine hcall.mono ?_
  rintro e w1 ⟨v, rfl, ol, hb⟩
  have B1 := B0.trans (hb.mono B0.size)
  have own1 := own.below B1
  have s1 := B1.size
  have s0 : w.heap.size < w1.heap.size := by have := hb.size; rw [World.size_alloc] at this; omega
  obtain ⟨a_, k_, hv⟩ := ol.shape
  subst hv
  rw [World.size_alloc] at ol
  clear hb hcall B0 own
  go_wp2_with fail
  go_loop [10] (fun i => ∃ k : Nat, k ≤ L.length ∧ i = .int .i64 k ∧ Hid (∀ j, j < k → f (gi L j).toNat = false)) (fun i => L.length - (intOf i).toNat)
  case atStart => exact ⟨0, Nat.zero_le _, rfl, Lib.hid fun j hj => by omega⟩
  case round =>
    obtain ⟨k, hk, rfl, HF⟩ := hrel
    by_cases hlt : k < L.length
    · obtain ⟨b, o, rfl, hbl, hc⟩ := (own_ints ol).at hlt
      obtain ⟨y1, y2⟩ := hL.out k hlt
      obtain ⟨u, hu⟩ : ∃ u : Nat, gi L k = (u : Int) := ⟨(gi L k).toNat, by omega⟩
      have hck := hc k hlt
      rw [hu] at hck y1 y2
      have hun : u < N := by omega
      have hcb := own1.cell (k := u) (by rw [tbP_len]; exact hun)
      rw [gb_tbP f hun] at hcb
      have hlI : (k : Int) < (L.length : Int) := by omega
      have hut : (gi L k).toNat = u := by omega
      clear hc hu
      cases hq : f u with
      | true =>
        rw [hq] at hcb
        have HX : Hid (clrB f L = false) := Lib.hid (by
          unfold clrB; rw [decide_eq_false_iff_not]; intro h; have := h k hlt; rw [hut, hq] at this; cases this)
        clear hq
        go_wp2
        go_ret
        exact ⟨by rw [HX.out]; try rfl, by unfold aftB; rw [HX.out]; exact own1, gby_below B1 g⟩
      | false =>
        rw [hq] at hcb
        have HQ : Hid (f (gi L k).toNat = false) := Lib.hid (by rw [hut]; exact hq)
        clear hq hut
        go_wp2
        go_round
        case rel =>
          refine ⟨k + 1, by omega, by go_num, Lib.hid fun j hj => ?_⟩
          by_cases e : j = k
          · subst e; exact HQ.out
          · exact HF.out j (by omega)
        case measure => simp [intOf]; omega
    · have hlI : ¬ (k : Int) < (L.length : Int) := by omega
      have HX : Hid (clrB f L = true) := Lib.hid (by
        unfold clrB; rw [decide_eq_true_eq]; intro i hi; exact HF.out i (by omega))
      go_wp2
      go_loopw [11] (fun i wr => ∃ k : Nat, k ≤ L.length ∧ i = .int .i64 k ∧ OwnBools wr base (.slice (some ⟨g, 0, none⟩) N N) (tbP (orL f (L.take k)) N) ∧ OwnInts wr (w.heap.size + 1) (.slice a_ L.length k_) L ∧ w.grownBy wr (some g)) (fun i _ => L.length - (intOf i).toNat)
      case atStart => exact ⟨0, Nat.zero_le _, rfl, by rw [orL_0]; exact own1, ol, gby_below B1 g⟩
      case round =>
        clear own1 ol B1 s1 s0 hlI hk HF
        obtain ⟨m, hm, rfl, ow, ol, G⟩ := hrel
        by_cases hlt : m < L.length
        · obtain ⟨b, o, rfl, hbl, hc⟩ := (own_ints ol).at hlt
          obtain ⟨y1, y2⟩ := hL.out m hlt
          obtain ⟨u, hu⟩ : ∃ u : Nat, gi L m = (u : Int) := ⟨(gi L m).toNat, by omega⟩
          have HS := Lib.hid (orL_step f L m u hlt hu)
          have hck := hc m hlt
          rw [hu] at hck y1 y2
          have hun : u < N := by omega
          have hcb := ow.cell (k := u) (by rw [tbP_len]; exact hun)
          have hf := ow.free u
          have ow2 := ow.stored u true
          rw [tbP_set, ← HS.out] at ow2
          have ol2 := ol.setBelow (a := ⟨g, u, none⟩) (by (try dsimp only); omega) (.bool true)
          have G2 := G.trans (gby_set wr g u (.bool true))
          have hlI : (m : Int) < (L.length : Int) := by omega
          clear hc hu
          go_wp2
          go_roundw
          case rel => exact ⟨m + 1, by omega, by go_num, ow2, ol2, G2⟩
          case measure => simp [intOf]; omega
        · have ek : Hid (m = L.length) := Lib.hid (by omega)
          have hlI : ¬ (m : Int) < (L.length : Int) := by omega
          go_wp2
          go_ret
          exact ⟨by rw [HX.out]; try rfl, by unfold aftB; rw [HX.out, if_pos rfl]; rw [ek.out, List.take_length] at ow; exact ow, G⟩

/-- how the model goes on where the code has no words -/
theorem eSome_none {S C T : List Int} (h : eCode S C = 0) (h0 : C.length = 0) : eSome S C T ≠ 0 := fun g => by have := (eSome_zero g).2.2; omega
set_option maxHeartbeats 8000000 in
theorem spec_DoPart_none (ao : Option Addr) (S : List Int) (cap : Nat) (hn : S.length ≤ 4294967296) (ac : Option Addr) (C : List Int) (capc : Nat) (hnc : C.length ≤ 4294967296) (at' : Option Addr) (T : List Int) (capt : Nat) (hnt : T.length ≤ 4294967296) (w : World) (hS : Ints w ao S) (hC : Ints w ac C) (hT : Ints w at' T) (hz : eCode S C = 0) (h0 : C.length = 0) :
    Calls Try.prog 29 #[.agg #[.slice ao S.length cap], .slice ac C.length capc, .slice at' T.length capt] w fun e w' => e = .returned (.tuple #[.bool (vDo S C T), .int .i64 (eSome S C T)]) ∧ Below w.heap.size w w' := by
    have B0 : Below w.heap.size w (w.alloc (.cells #[.slice ao S.length cap] 26)) := by go_grown
    have HA := Lib.hid (doE_all (T := T) hz)
    obtain ⟨hSp, hc1, hc2⟩ := eCode_zero hz
    obtain ⟨N1, N2⟩ := nW_bd hSp
    have hlen := code_len hSp hc1 hc2
    have HSp := Lib.hid hSp
    have HC1 : Hid (∀ i, i < C.length → 0 ≤ gi C i ∧ gi C i ≤ 9223372036854775807) := Lib.hid fun i h => by have := hc1 i h; omega
    have HZ := Lib.hid hz
    have HF : Hid (eFull S C = 5) := Lib.hid (by unfold eFull; rw [if_pos ⟨hz, h0⟩])
    have hlc : C.length ≤ 1024 := by omega
    have HY : Hid (∀ k, 0 ≤ gi T k ∧ gi T k < nW S → doE S C T (k + 1) = doE S C T k) := Lib.hid fun k h => doE_yes h
    have HNo : Hid (∀ k, ¬ (0 ≤ gi T k ∧ gi T k < nW S) → doE S C T (k + 1) = 2) := Lib.hid fun k h => doE_no h
    have H0 : Hid (doE S C T 0 = eFull S C) := Lib.hid (doE_0 S C T)
    obtain ⟨DE, hDE⟩ : ∃ DE, DE = doE S C T := ⟨_, rfl⟩
    rw [← hDE] at HY HNo H0 HA
    rw [HF.out] at H0
    obtain ⟨ES, hES⟩ : ∃ ES, ES = eSome S C T := ⟨_, rfl⟩
    obtain ⟨VD, hVD⟩ : ∃ VD, VD = vDo S C T := ⟨_, rfl⟩
    rw [← hES] at HA
    rw [← hES, ← hVD]
    have HES := Lib.hid hES
    have HVD := Lib.hid hVD
    clear hDE hES hVD
    have hne : (ES != 0) = true := by rw [HES.out]; simpa using eSome_none (T := T) hz h0
    have HV : Hid (VD = false) := Lib.hid (by rw [HVD.out]; unfold vDo; rw [if_neg (eSome_none hz h0)])
    clear h0
    clear hc1 hc2 hz hSp
    go_enter Try.func29, Try.ntmps29
    go_wp2_with fail
    refine (l02Full_any ao S cap hn ac C capc hnc _ (hS.below B0) (hC.below B0)).mono ?_
    rintro e w1 ⟨rfl, hb⟩
    rw [HF.out]
    have c1 := kept_cell hb (cell_new w (.slice ao S.length cap) 26) (lt_alloc _ _)
    have l1 := lt_of_below hb (lt_alloc w (.cells #[.slice ao S.length cap] 26))
    have B1 : Below w.heap.size w w1 := B0.trans (hb.mono B0.size)
    clear hb B0
    go_wp2_with fail
    go_loopw [8, 9] (fun bd i wr => ∃ k : Nat, k ≤ T.length ∧ i = .int .i64 k ∧ bd = .int .i64 (DE k) ∧ wr.cell? ⟨w.heap.size, 0, none⟩ = some (.slice ao S.length cap) ∧ w.heap.size < wr.heap.size ∧ Below w.heap.size w wr) (fun _ i _ => T.length - (intOf i).toNat)
    case atStart => exact ⟨0, Nat.zero_le _, rfl, by rw [H0.out], c1, l1, B1⟩
    case round =>
      clear c1 l1 B1
      obtain ⟨k, hk, rfl, rfl, c, l, B⟩ := hrel
      by_cases hlt : k < T.length
      · obtain ⟨b, o, rfl, hbl, hc⟩ := hT.at hlt
        have hck : wr.cell? ⟨b, o + k, none⟩ = some (.int .i64 (gi T k)) := kept_cell B (hc k hlt) hbl
        have hbr : b < wr.heap.size := lt_of_below B hbl
        have EW : IntKind.i64.wrap (nW S - 1) = nW S - 1 := IntWalk.i64_in _ ⟨by omega, by omega⟩
        have hs := B.size
        have hlI : (k : Int) < (T.length : Int) := by omega
        clear hc
        by_cases hq : 0 ≤ gi T k ∧ gi T k < nW S
        · have B2 := inB_true (n := gi T k) (low := 0) (high := nW S - 1) hq.1 (by omega)
          have HD := Lib.hid (HY.out k hq)
          clear hq
          go_wp2_with fail
          go_region_held3 (fun w' => w'.cell? ⟨b, o + k, none⟩ = some (.int .i64 (gi T k)) ∧ w'.cell? ⟨w.heap.size, 0, none⟩ = some (.slice ao S.length cap)) (first | exact ⟨hck, c⟩ | exact ⟨kept_cell hb2 hck hbr, kept_cell hb2 c l⟩) (first | (go_at_call 50; refine (l01N_sp ao S cap _ HSp.out (hS.below B.drew)).mono ?_; rintro e w2 ⟨rfl, hb2'⟩; have hb2 : Below wr.heap.size wr w2 := (Below.refl wr.heap.size wr).drew.trans hb2') | (go_at_call 61; refine (l01In_any _ _ _ _).mono ?_; rintro e w3 ⟨rfl, rfl⟩))
          clear EW
          go_wp2_with fail
          go_roundw
          case rel => exact ⟨k + 1, by omega, by go_num, by rw [HD.out], kept_cell hb2 c l, lt_of_below hb2 l, B.trans (hb2.mono hs)⟩
          case measure => simp [intOf]; omega
        · have B2 := inB_false (n := gi T k) (low := 0) (high := nW S - 1) (by omega)
          have HD := Lib.hid (HNo.out k hq)
          clear hq
          go_wp2_with fail
          go_region_held3 (fun w' => w'.cell? ⟨b, o + k, none⟩ = some (.int .i64 (gi T k)) ∧ w'.cell? ⟨w.heap.size, 0, none⟩ = some (.slice ao S.length cap)) (first | exact ⟨hck, c⟩ | exact ⟨kept_cell hb2 hck hbr, kept_cell hb2 c l⟩) (first | (go_at_call 50; refine (l01N_sp ao S cap _ HSp.out (hS.below B.drew)).mono ?_; rintro e w2 ⟨rfl, hb2'⟩; have hb2 : Below wr.heap.size wr w2 := (Below.refl wr.heap.size wr).drew.trans hb2') | (go_at_call 61; refine (l01In_any _ _ _ _).mono ?_; rintro e w3 ⟨rfl, rfl⟩))
          clear EW
          go_wp2_with fail
          go_roundw
          case rel => exact ⟨k + 1, by omega, by go_num, by rw [HD.out], kept_cell hb2 c l, lt_of_below hb2 l, B.trans (hb2.mono hs)⟩
          case measure => simp [intOf]; omega
      · have hlI : ¬ (k : Int) < (T.length : Int) := by omega
        have ek : Hid (k = T.length) := Lib.hid (by omega)
        rw [ek.out, HA.out]
        go_wp2_with fail
        go_ret2
        exact ⟨by rw [HV.out]; try rfl, B⟩

theorem eSome_wd {S C T : List Int} (h : eCode S C = 0) (g : eSome S C T = 0) (k : Nat) (hk : k < T.length) : 0 ≤ gi T k ∧ gi T k < nW S := by
  by_cases q : 0 ≤ gi T k ∧ gi T k < nW S
  · exact q
  · rw [eSome_w h hk q] at g; omega
set_option maxHeartbeats 8000000 in
theorem spec_DoPart_some (ao : Option Addr) (S : List Int) (cap : Nat) (hn : S.length ≤ 4294967296) (ac : Option Addr) (C : List Int) (capc : Nat) (hnc : C.length ≤ 4294967296) (at' : Option Addr) (T : List Int) (capt : Nat) (hnt : T.length ≤ 4294967296) (w : World) (hS : Ints w ao S) (hC : Ints w ac C) (hT : Ints w at' T) (hz : eCode S C = 0) (h0 : 0 < C.length) :
    Calls Try.prog 29 #[.agg #[.slice ao S.length cap], .slice ac C.length capc, .slice at' T.length capt] w fun e w' => e = .returned (.tuple #[.bool (vDo S C T), .int .i64 (eSome S C T)]) ∧ Below w.heap.size w w' := by
    have B0 : Below w.heap.size w (w.alloc (.cells #[.slice ao S.length cap] 26)) := by go_grown
    have HA := Lib.hid (doE_all (T := T) hz)
    obtain ⟨hSp, hc1, hc2⟩ := eCode_zero hz
    obtain ⟨N1, N2⟩ := nW_bd hSp
    have hlen := code_len hSp hc1 hc2
    have HSp := Lib.hid hSp
    have HC1 : Hid (∀ i, i < C.length → 0 ≤ gi C i ∧ gi C i ≤ 9223372036854775807) := Lib.hid fun i h => by have := hc1 i h; omega
    have HZ := Lib.hid hz
    have HF : Hid (eFull S C = 0) := Lib.hid (by unfold eFull; rw [if_neg (by omega), hz])
    have hlc : C.length ≤ 1024 := by omega
    have HY : Hid (∀ k, 0 ≤ gi T k ∧ gi T k < nW S → doE S C T (k + 1) = doE S C T k) := Lib.hid fun k h => doE_yes h
    have HNo : Hid (∀ k, ¬ (0 ≤ gi T k ∧ gi T k < nW S) → doE S C T (k + 1) = 2) := Lib.hid fun k h => doE_no h
    have H0 : Hid (doE S C T 0 = eFull S C) := Lib.hid (doE_0 S C T)
    obtain ⟨DE, hDE⟩ : ∃ DE, DE = doE S C T := ⟨_, rfl⟩
    rw [← hDE] at HY HNo H0 HA
    rw [HF.out] at H0
    obtain ⟨ES, hES⟩ : ∃ ES, ES = eSome S C T := ⟨_, rfl⟩
    obtain ⟨VD, hVD⟩ : ∃ VD, VD = vDo S C T := ⟨_, rfl⟩
    rw [← hES] at HA
    rw [← hES, ← hVD]
    have HES := Lib.hid hES
    have HVD := Lib.hid hVD
    clear hDE hES hVD
    have HO := Lib.hid (do_iff hz T)
    have HWD : Hid (ES = 0 → ∀ k, k < T.length → 0 ≤ gi T k ∧ gi T k < nW S) := Lib.hid (by rw [HES.out]; exact eSome_wd hz)
    obtain ⟨N, hN⟩ : ∃ N : Nat, nW S = (N : Int) := ⟨(nW S).toNat, by omega⟩
    have HN := Lib.hid hN
    have hN2 : N ≤ 1024 := by omega
    have N1p : 1 ≤ N := by omega
    obtain ⟨bc, oc, rfl, hbc, _⟩ := hC.at h0
    obtain ⟨i0, hi, hz0, hz1, hz2⟩ := info_parts infoBool
    have EM : IntKind.i64.wrap ((T.length : Int) * (C.length : Int)) = (T.length : Int) * (C.length : Int) := IntWalk.i64_in _ (by
      have h1 : (T.length : Int) * (C.length : Int) ≤ 4294967296 * 1024 := Int.mul_le_mul (by omega) (by omega) (by omega) (by omega)
      have h2 : 0 ≤ (T.length : Int) * (C.length : Int) := Int.mul_nonneg (by omega) (by omega)
      exact ⟨by omega, by omega⟩)
    have NP : 1 ≤ nW S := N1
    clear hc1 hc2 hz hSp hN
    go_enter Try.func29, Try.ntmps29
    go_wp2_with fail
    refine (l02Full_any ao S cap hn (some ⟨bc, oc, none⟩) C capc hnc _ (hS.below B0) (hC.below B0)).mono ?_
    rintro e w1 ⟨rfl, hb⟩
    rw [HF.out]
    have c1 := kept_cell hb (cell_new w (.slice ao S.length cap) 26) (lt_alloc _ _)
    have l1 := lt_of_below hb (lt_alloc w (.cells #[.slice ao S.length cap] 26))
    have B1 : Below w.heap.size w w1 := B0.trans (hb.mono B0.size)
    clear hb B0
    go_wp2_with fail
    go_loopw [8, 9] (fun bd i wr => ∃ k : Nat, k ≤ T.length ∧ i = .int .i64 k ∧ bd = .int .i64 (DE k) ∧ wr.cell? ⟨w.heap.size, 0, none⟩ = some (.slice ao S.length cap) ∧ w.heap.size < wr.heap.size ∧ Below w.heap.size w wr) (fun _ i _ => T.length - (intOf i).toNat)
    case atStart => exact ⟨0, Nat.zero_le _, rfl, by rw [H0.out], c1, l1, B1⟩
    case round =>
      clear c1 l1 B1
      obtain ⟨k, hk, rfl, rfl, c, l, B⟩ := hrel
      by_cases hlt : k < T.length
      · obtain ⟨b, o, rfl, hbl, hc⟩ := hT.at hlt
        have hck : wr.cell? ⟨b, o + k, none⟩ = some (.int .i64 (gi T k)) := kept_cell B (hc k hlt) hbl
        have hbr : b < wr.heap.size := lt_of_below B hbl
        have EW : IntKind.i64.wrap (nW S - 1) = nW S - 1 := IntWalk.i64_in _ ⟨by omega, by omega⟩
        have hs := B.size
        have hlI : (k : Int) < (T.length : Int) := by omega
        clear hc
        by_cases hq : 0 ≤ gi T k ∧ gi T k < nW S
        · have B2 := inB_true (n := gi T k) (low := 0) (high := nW S - 1) hq.1 (by omega)
          have HD := Lib.hid (HY.out k hq)
          clear hq
          go_wp2_with fail
          go_region_held3 (fun w' => w'.cell? ⟨b, o + k, none⟩ = some (.int .i64 (gi T k)) ∧ w'.cell? ⟨w.heap.size, 0, none⟩ = some (.slice ao S.length cap)) (first | exact ⟨hck, c⟩ | exact ⟨kept_cell hb2 hck hbr, kept_cell hb2 c l⟩) (first | (go_at_call 50; refine (l01N_sp ao S cap _ HSp.out (hS.below B.drew)).mono ?_; rintro e w2 ⟨rfl, hb2'⟩; have hb2 : Below wr.heap.size wr w2 := (Below.refl wr.heap.size wr).drew.trans hb2') | (go_at_call 61; refine (l01In_any _ _ _ _).mono ?_; rintro e w3 ⟨rfl, rfl⟩))
          clear EW
          go_wp2_with fail
          go_roundw
          case rel => exact ⟨k + 1, by omega, by go_num, by rw [HD.out], kept_cell hb2 c l, lt_of_below hb2 l, B.trans (hb2.mono hs)⟩
          case measure => simp [intOf]; omega
        · have B2 := inB_false (n := gi T k) (low := 0) (high := nW S - 1) (by omega)
          have HD := Lib.hid (HNo.out k hq)
          clear hq
          go_wp2_with fail
          go_region_held3 (fun w' => w'.cell? ⟨b, o + k, none⟩ = some (.int .i64 (gi T k)) ∧ w'.cell? ⟨w.heap.size, 0, none⟩ = some (.slice ao S.length cap)) (first | exact ⟨hck, c⟩ | exact ⟨kept_cell hb2 hck hbr, kept_cell hb2 c l⟩) (first | (go_at_call 50; refine (l01N_sp ao S cap _ HSp.out (hS.below B.drew)).mono ?_; rintro e w2 ⟨rfl, hb2'⟩; have hb2 : Below wr.heap.size wr w2 := (Below.refl wr.heap.size wr).drew.trans hb2') | (go_at_call 61; refine (l01In_any _ _ _ _).mono ?_; rintro e w3 ⟨rfl, rfl⟩))
          clear EW
          go_wp2_with fail
          go_roundw
          case rel => exact ⟨k + 1, by omega, by go_num, by rw [HD.out], kept_cell hb2 c l, lt_of_below hb2 l, B.trans (hb2.mono hs)⟩
          case measure => simp [intOf]; omega
      · have hlI : ¬ (k : Int) < (T.length : Int) := by omega
        have ek : Hid (k = T.length) := Lib.hid (by omega)
        rw [ek.out, HA.out]
        by_cases hs0 : ES = 0
        · have hsb : (ES != 0) = false := by simp [hs0]
          have HV : Hid (VD = doB S C T) := Lib.hid (by rw [HVD.out]; unfold vDo; rw [if_pos (by rw [← HES.out]; exact hs0)])
          have HW := Lib.hid (HWD.out hs0)
          have HS0 := Lib.hid hs0
          have sB := B.size
          clear hlI hlt hk hs0
          go_wp2_with (first | (go_at_call 50; refine (l01N_nat ao S cap N HN _ HSp.out (hS.below B)).mono ?_; rintro e w3 ⟨rfl, hb3⟩; have c3 := kept_cell hb3 c l; have l3 := lt_of_below hb3 l; have B3 := B.trans (hb3.mono sB); have s3 := hb3.size; clear c l B) | (at_make; refine wpList_make_full _ rfl _ _ 76 rfl w3.heap.size 4 i0 (.bool false) 1 Try.underlying76 hi hz0 hz1 .i64 .i64 (N : Int) (N : Int) N rfl rfl rfl rfl (by rw [hz2]; omega) (by unfold maxLen; omega) (Nat.le_refl _) ?_; intro w4 hown hgrow) | fail)
          have hb4 : Below w3.heap.size w3 w4 := below_grown0 hgrow
          have c4 := kept_cell hb4 c3 l3
          have l4 := lt_of_below hb4 l3
          have B4 := B3.trans (hb4.mono B3.size)
          replace hown := ownb_made hown
          rw [tbP_0, ← mkT_0 S C T] at hown
          have gw : w.heap.size < w3.heap.size := l3
          clear hgrow hb4 c3 l3 B3 hb3 s3
          go_loopw [11] (fun i wr => ∃ k : Nat, k ≤ T.length ∧ i = .int .i64 k ∧ OwnBools wr w3.heap.size (.slice (some ⟨w3.heap.size, 0, none⟩) N N) (tbP (mkT S C T k) N) ∧ Hid (onceP S C T k) ∧ wr.cell? ⟨w.heap.size, 0, none⟩ = some (.slice ao S.length cap) ∧ w.heap.size < wr.heap.size ∧ Below w.heap.size w wr) (fun i _ => T.length - (intOf i).toNat)
          case atStart => exact ⟨0, Nat.zero_le _, rfl, hown, Lib.hid (once_0 S C T), c4, l4, B4⟩
          case round =>
            clear hown c4 l4 B4
            obtain ⟨k, hk, rfl, ow, HP, c, l, B⟩ := hrel
            by_cases hlt : k < T.length
            · obtain ⟨b, o, rfl, hbl, hc⟩ := hT.at hlt
              have hck : wr.cell? ⟨b, o + k, none⟩ = some (.int .i64 (gi T k)) := kept_cell B (hc k hlt) hbl
              have hbr : b < wr.heap.size := lt_of_below B hbl
              have hs := B.size
              have hlI : (k : Int) < (T.length : Int) := by omega
              obtain ⟨y1, y2⟩ := HW.out k hlt
              have hmk := l06Mark_any ao S cap HSp.out ⟨bc, oc, none⟩ C capc hlc HC1.out (gi T k) ⟨y1, by omega⟩ N HN w3.heap.size w3.heap.size (mkT S C T k) wr.drew (hS.below B.drew) (hC.below B.drew) ow.drew
              have HST := Lib.hid (mkT_step S C T k)
              have HOS := Lib.hid (once_step (k := k) HP.out)
              have HON := Lib.hid (once_not (S := S) (C := C) (T := T) HSp.out (k := k) hlt)
              obtain ⟨cl, hcl⟩ : ∃ cl, cl = clrB (mkT S C T k) (shW S C (gi T k)) := ⟨_, rfl⟩
              have hgr := ow.base_le
              rw [← hcl] at hmk HOS HON
              have HCL := Lib.hid hcl
              clear hc hcl
              go_wp2_with fail
              go_region_held3 (fun w' => w'.cell? ⟨b, o + k, none⟩ = some (.int .i64 (gi T k)) ∧ w'.cell? ⟨w.heap.size, 0, none⟩ = some (.slice ao S.length cap)) (first | exact ⟨hck, c⟩ | exact ⟨hg5.cell (a := ⟨b, o + k, none⟩) hck (fun e => by have := Option.some.inj e; simp at this; omega), hg5.cell (a := ⟨w.heap.size, 0, none⟩) c (fun e => by have := Option.some.inj e; simp at this; omega)⟩) (first | (go_at_call 67; refine hmk.mono ?_; rintro e w5 ⟨rfl, ow5, hg5'⟩; have hg5 : wr.grownBy w5 (some w3.heap.size) := World.grownBy.trans (gby_below (Below.refl _ wr).drew _) hg5'))
              have c5 := hg5.cell (a := ⟨w.heap.size, 0, none⟩) c (fun e => by have := Option.some.inj e; simp at this; omega)
              have l5 : w.heap.size < w5.heap.size := Nat.lt_of_lt_of_le l hg5.size
              have B5 := B.grown hg5 hs (by intro z hz; cases hz; omega)
              unfold aftB at ow5
              rw [← HCL.out] at ow5
              clear hmk HCL
              cases cl with
              | true =>
                rw [if_pos (rfl : true = true), ← HST.out] at ow5
                go_wp2_with fail
                go_roundw
                case rel => exact ⟨k + 1, by omega, by go_num, ow5, Lib.hid (HOS.out rfl), c5, l5, B5⟩
                case measure => simp [intOf]; omega
              | false =>
                have HX : Hid (doB S C T = false) := Lib.hid (by
                  have h1 := HON.out rfl
                  cases e : doB S C T with
                  | false => rfl
                  | true => exact absurd (HO.out.1 e).1 h1)
                go_wp2_with fail
                go_ret2
                exact ⟨by rw [HV.out, HX.out, HS0.out]; try rfl, B5⟩
            · have hlI : ¬ (k : Int) < (T.length : Int) := by omega
              have ek : Hid (k = T.length) := Lib.hid (by omega)
              have hs := B.size
              have HX : Hid (doB S C T = ((T.length : Int) * (C.length : Int) == (N : Int))) := Lib.hid (by
                rw [Bool.eq_iff_iff, HO.out, beq_iff_eq, HN.out]
                exact ⟨fun h => h.2, fun h => ⟨by rw [← ek.out]; exact HP.out, h⟩⟩)
              go_wp2_with (first | (go_at_call 50; refine (l01N_nat ao S cap N HN _ HSp.out (hS.below B)).mono ?_; rintro e w6 ⟨rfl, hb6⟩) | fail)
              go_ret2
              exact ⟨by rw [HV.out, HX.out, HS0.out]; try rfl, B.trans (hb6.mono hs)⟩
        · have hsb : (ES != 0) = true := by simpa using hs0
          have HV : Hid (VD = false) := Lib.hid (by rw [HVD.out]; unfold vDo; rw [if_neg (by rw [← HES.out]; exact hs0)])
          clear hs0
          go_wp2_with fail
          go_ret2
          exact ⟨by rw [HV.out]; try rfl, B⟩

set_option maxHeartbeats 1000000 in
theorem spec_DoPart (ao : Option Addr) (S : List Int) (cap : Nat) (hn : S.length ≤ 4294967296) (ac : Option Addr) (C : List Int) (capc : Nat) (hnc : C.length ≤ 4294967296) (at' : Option Addr) (T : List Int) (capt : Nat) (hnt : T.length ≤ 4294967296) (w : World) (hS : Ints w ao S) (hC : Ints w ac C) (hT : Ints w at' T) :
    Calls Try.prog 29 #[.agg #[.slice ao S.length cap], .slice ac C.length capc, .slice at' T.length capt] w fun e w' => e = .returned (.tuple #[.bool (vDo S C T), .int .i64 (eSome S C T)]) ∧ Below w.heap.size w w' := by
  by_cases hz : eCode S C = 0
  · by_cases h0 : C.length = 0
    · exact spec_DoPart_none ao S cap hn ac C capc hnc at' T capt hnt w hS hC hT hz h0
    · exact spec_DoPart_some ao S cap hn ac C capc hnc at' T capt hnt w hS hC hT hz (by omega)
  · have B0 : Below w.heap.size w (w.alloc (.cells #[.slice ao S.length cap] 26)) := by go_grown
    have h1 : (eCode S C == 0) = false := by simpa using hz
    have h2 : (eCode S C == 5) = false := by have := eCode_or S C; simp; omega
    have h3 : (eCode S C != 0) = true := by simpa using hz
    have HF := Lib.hid (eFull_c hz)
    have HE := Lib.hid (eSome_c (T := T) hz)
    have HV : Hid (vDo S C T = false) := Lib.hid (by unfold vDo; rw [HE.out, if_neg hz])
    clear hz
    go_enter Try.func29, Try.ntmps29
    go_wp2_with fail
    refine (l02Full_any ao S cap hn ac C capc hnc _ (hS.below B0) (hC.below B0)).mono ?_
    rintro e w1 ⟨rfl, hb⟩
    rw [HF.out]
    go_wp2_with fail
    go_ret2
    exact ⟨by rw [HV.out, HE.out]; try rfl, B0.trans (hb.mono B0.size)⟩

end Go.Proofs.Ytcbkmmadejbbpaa
