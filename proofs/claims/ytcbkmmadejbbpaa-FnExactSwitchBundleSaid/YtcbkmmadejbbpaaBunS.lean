/-
  The contracts of the models of the bundles' errors and of BundleOf. By an AI agent.
-/
import Derived.Test.YtcbkmmadejbbpaaMathR
import Derived.Test.YtcbkmmadejbbpaaPerS
import Derived.Test.YtcbkmmadejbbpaaTog3h
import Derived.Test.YtcbkmmadejbbpaaPutN
import Derived.Test.YtcbkmmadejbbpaaAppendAt
import Derived.Test.YtcbkmmadejbbpaaDigits
import Derived.Test.YtcbkmmadejbbpaaMark
import Derived.Deep.RegionHeld3
import Derived.Deep.CutRange
import Derived.Test.YtcbkmmadejbbpaaFam
import Derived.Deep.CutRange
import Derived.Test.YtcbkmmadejbbpaaFam
namespace Go.Proofs.Ytcbkmmadejbbpaa
open Go.RowKit Cv
set_option linter.unusedVariables false
set_option linter.unusedSimpArgs false
set_option maxRecDepth 100000

theorem eBun_a {S C : List Int} {x i : Int} (h : eBuA S C x i ≠ 0) : eBun S C x i = eBuA S C x i := by unfold eBun; rw [if_neg h]
theorem eBun_5 {S C : List Int} {x i : Int} (h : eBuA S C x i = 0) (g : ¬ (allTwo S = true ∧ perB S C 1 = true ∧ x ∈ C)) : eBun S C x i = 5 := by unfold eBun; rw [if_pos h, if_neg g]
theorem eBun_0 {S C : List Int} {x i : Int} (h : eBuA S C x i = 0) (g : allTwo S = true ∧ perB S C 1 = true ∧ x ∈ C) : eBun S C x i = 0 := by unfold eBun; rw [if_pos h, if_pos g]

set_option maxHeartbeats 2000000 in
theorem l06Given_any (ao : Option Addr) (S : List Int) (cap : Nat) (hn : S.length ≤ 4294967296) (ac : Option Addr) (C : List Int) (capc : Nat) (hnc : C.length ≤ 4294967296) (x : Int) (hx : -9223372036854775808 ≤ x ∧ x ≤ 9223372036854775807) (i : Int) (hi : -9223372036854775808 ≤ i ∧ i ≤ 9223372036854775807) (w : World) (hS : Ints w ao S) (hC : Ints w ac C) :
    Calls Try.prog 72 #[.agg #[.slice ao S.length cap], .slice ac C.length capc, .int .i64 x, .int .i64 i] w fun e w' => e = .returned (.int .i64 (eBun S C x i)) ∧ Below w.heap.size w w' := by
  have B0 : Below w.heap.size w (w.alloc (.cells #[.slice ao S.length cap] 26)) := by go_grown
  have c0 := cell_new w (.slice ao S.length cap) 26
  have l0 := lt_alloc w (.cells #[.slice ao S.length cap] 26)
  have HA := Lib.hid (eBun_a (S := S) (C := C) (x := x) (i := i))
  have H5 := Lib.hid (eBun_5 (S := S) (C := C) (x := x) (i := i))
  have H0 := Lib.hid (eBun_0 (S := S) (C := C) (x := x) (i := i))
  have HAu : Hid (eBuA S C x i = if eCode S C = 0 then (if (0 ≤ x ∧ x < nW S) ∧ 0 ≤ i ∧ i < S.length then 0 else 2) else eCode S C) := Lib.hid rfl
  obtain ⟨E, hE⟩ : ∃ E, E = eBun S C x i := ⟨_, rfl⟩
  obtain ⟨EA, hEA⟩ : ∃ EA, EA = eBuA S C x i := ⟨_, rfl⟩
  rw [← hE, ← hEA] at HA H5 H0
  rw [← hEA] at HAu
  rw [← hE]
  clear hE hEA
  by_cases hz : eCode S C = 0
  · have hzb : (eCode S C == 0) = true := by simp [hz]
    obtain ⟨hSp, hc1, hc2⟩ := eCode_zero hz
    obtain ⟨N1, N2⟩ := nW_bd hSp
    have hlen := code_len hSp hc1 hc2
    have HC1 : Hid (∀ i, i < C.length → 0 ≤ gi C i ∧ gi C i ≤ 9223372036854775807) := Lib.hid fun i h => by have := hc1 i h; omega
    have HSp := Lib.hid hSp
    have hs8 := hSp.hi
    have hs1 := hSp.lo
    have HIs := Lib.hid fun W h1 h2 => l06Is_any ao S cap hSp ac C capc (by omega) HC1.out 1 W h1 h2
    have HAx : Hid (EA = if (0 ≤ x ∧ x < nW S) ∧ 0 ≤ i ∧ i < S.length then 0 else 2) := Lib.hid (by rw [HAu.out, if_pos hz])
    clear hc1 hc2 hSp
    by_cases hxw : 0 ≤ x ∧ x < nW S
    · have BI := inB_true (n := x) (low := 0) (high := nW S - 1) hxw.1 (by omega)
      by_cases hiw : 0 ≤ i ∧ i < S.length
      · have BJ := inB_true (n := i) (low := 0) (high := (S.length : Int) - 1) hiw.1 (by omega)
        have HA0 : Hid (EA = 0) := Lib.hid (by rw [HAx.out, if_pos ⟨hxw, hiw⟩])
        clear hz hxw hiw
        go_enter Try.func72, Try.ntmps72
        go_wp2_with fail
        refine (l01Given_any ao S cap hn ac C capc hnc _ (hS.below B0) (hC.below B0)).mono ?_
        rintro e w1 ⟨rfl, hb⟩
        have c1 := kept_cell hb c0 l0
        have l1 := lt_of_below hb l0
        have B1 : Below w.heap.size w w1 := B0.trans (hb.mono B0.size)
        clear hb B0 c0 l0
        go_wp2_with (first | (go_at_call 50; refine (l01N_sp ao S cap _ HSp.out (hS.below B1)).mono ?_; rintro e w2 ⟨rfl, hb2⟩; have c2 := kept_cell hb2 c1 l1; have l2 := lt_of_below hb2 l1; have B2 := B1.trans (hb2.mono B1.size); clear c1) | (go_at_call 61; refine (l01In_any _ _ _ _).mono ?_; rintro e w' ⟨rfl, rfl⟩) | fail)
        have HT : Hid (∀ k, k < S.length → gi S k ≠ 2 → E = 5) := Lib.hid fun k hk g => H5.out HA0.out fun h => g (by have := h.1; unfold allTwo at this; rw [decide_eq_true_eq] at this; exact this k hk)
        go_loop [10] (fun j => ∃ k : Nat, k ≤ S.length ∧ j = .int .i64 k ∧ Hid (∀ j, j < k → gi S j = 2)) (fun j => S.length - (intOf j).toNat)
        case atStart => exact ⟨0, Nat.zero_le _, rfl, Lib.hid fun u h => by omega⟩
        case round =>
          obtain ⟨k, hk, rfl, HZ⟩ := hrel
          by_cases hlt : k < S.length
          · obtain ⟨b, o, rfl, hbl, hc⟩ := hS.at hlt
            have hck := kept_cell B2 (hc k hlt) hbl
            have hlI : (k : Int) < (S.length : Int) := by omega
            clear hc
            by_cases h2 : gi S k = 2
            · have h2b : (gi S k != 2) = false := by simp [h2]
              have H2 := Lib.hid h2
              clear h2
              go_wp2
              go_round
              case rel =>
                refine ⟨k + 1, by omega, by go_num, Lib.hid fun u hu => ?_⟩
                by_cases e : u = k
                · subst e; exact H2.out
                · exact HZ.out u (by omega)
              case measure => simp [intOf]; omega
            · have h2b : (gi S k != 2) = true := by simpa using h2
              have HX := Lib.hid (HT.out k hlt h2)
              clear h2
              go_wp2
              go_ret
              exact ⟨by rw [HX.out]; try rfl, B2⟩
          · have ek : Hid (k = S.length) := Lib.hid (by omega)
            have hlI : ¬ (k : Int) < (S.length : Int) := by omega
            have HT2 : Hid (allTwo S = true) := Lib.hid (by unfold allTwo; rw [decide_eq_true_eq]; intro u hu; exact HZ.out u (by rw [ek.out]; exact hu))
            have hcall := HIs.out _ (hS.below B2) (hC.below B2)
            cases hp : perB S C 1 with
            | true =>
              rw [hp] at hcall
              have HP := Lib.hid hp
              clear hp
              by_cases hm : x ∈ C
              · have HX := Lib.hid (H0.out HA0.out ⟨HT2.out, HP.out, hm⟩)
                have hmd : decide (x ∈ C) = true := by simpa using hm
                clear hm
                go_wp2_with fail
                refine hcall.mono ?_
                rintro e w3 ⟨rfl, hb3⟩
                have B3 := B2.trans (hb3.mono B2.size)
                have hhas := l01Has_any ac C capc x hnc w3 (hC.below B3)
                rw [hmd] at hhas
                go_wp2_with fail
                refine hhas.mono ?_
                rintro e w4 ⟨rfl, rfl⟩
                go_wp2_with fail
                go_ret
                exact ⟨by rw [HX.out]; try rfl, B3⟩
              · have HX := Lib.hid (H5.out HA0.out fun h => hm h.2.2)
                have hmd : decide (x ∈ C) = false := by simpa using hm
                clear hm
                go_wp2_with fail
                refine hcall.mono ?_
                rintro e w3 ⟨rfl, hb3⟩
                have B3 := B2.trans (hb3.mono B2.size)
                have hhas := l01Has_any ac C capc x hnc w3 (hC.below B3)
                rw [hmd] at hhas
                go_wp2_with fail
                refine hhas.mono ?_
                rintro e w4 ⟨rfl, rfl⟩
                go_wp2_with fail
                go_ret
                exact ⟨by rw [HX.out]; try rfl, B3⟩
            | false =>
              rw [hp] at hcall
              have HX := Lib.hid (H5.out HA0.out fun h => by rw [hp] at h; exact absurd h.2.1 (by decide))
              clear hp
              go_wp2_with fail
              refine hcall.mono ?_
              rintro e w3 ⟨rfl, hb3⟩
              go_wp2_with fail
              go_ret
              exact ⟨by rw [HX.out]; try rfl, B2.trans (hb3.mono B2.size)⟩
      · have BJ := inB_false (n := i) (low := 0) (high := (S.length : Int) - 1) (by omega)
        have HA0 : Hid (EA = 2) := Lib.hid (by rw [HAx.out, if_neg (fun h => hiw h.2)])
        have HX : Hid (E = 2) := Lib.hid (by rw [HA.out (by rw [HA0.out]; decide), HA0.out])
        clear hz hxw hiw
        go_enter Try.func72, Try.ntmps72
        go_wp2_with fail
        refine (l01Given_any ao S cap hn ac C capc hnc _ (hS.below B0) (hC.below B0)).mono ?_
        rintro e w1 ⟨rfl, hb⟩
        have c1 := kept_cell hb c0 l0
        have l1 := lt_of_below hb l0
        have B1 : Below w.heap.size w w1 := B0.trans (hb.mono B0.size)
        clear hb B0 c0 l0
        go_wp2_with (first | (go_at_call 50; refine (l01N_sp ao S cap _ HSp.out (hS.below B1)).mono ?_; rintro e w2 ⟨rfl, hb2⟩; have c2 := kept_cell hb2 c1 l1; have l2 := lt_of_below hb2 l1; have B2 := B1.trans (hb2.mono B1.size); clear c1) | (go_at_call 61; refine (l01In_any _ _ _ _).mono ?_; rintro e w' ⟨rfl, rfl⟩) | fail)
        go_wp2_with fail
        go_ret
        exact ⟨by rw [HX.out]; try rfl, B2⟩
    · have BI := inB_false (n := x) (low := 0) (high := nW S - 1) (by omega)
      have HA0 : Hid (EA = 2) := Lib.hid (by rw [HAx.out, if_neg (fun h => hxw h.1)])
      have HX : Hid (E = 2) := Lib.hid (by rw [HA.out (by rw [HA0.out]; decide), HA0.out])
      clear hz hxw
      go_enter Try.func72, Try.ntmps72
      go_wp2_with fail
      refine (l01Given_any ao S cap hn ac C capc hnc _ (hS.below B0) (hC.below B0)).mono ?_
      rintro e w1 ⟨rfl, hb⟩
      have c1 := kept_cell hb c0 l0
      have l1 := lt_of_below hb l0
      have B1 : Below w.heap.size w w1 := B0.trans (hb.mono B0.size)
      clear hb B0 c0 l0
      go_wp2_with (first | (go_at_call 50; refine (l01N_sp ao S cap _ HSp.out (hS.below B1)).mono ?_; rintro e w2 ⟨rfl, hb2⟩; have c2 := kept_cell hb2 c1 l1; have l2 := lt_of_below hb2 l1; have B2 := B1.trans (hb2.mono B1.size); clear c1) | (go_at_call 61; refine (l01In_any _ _ _ _).mono ?_; rintro e w' ⟨rfl, rfl⟩) | fail)
      go_wp2_with fail
      go_ret
      exact ⟨by rw [HX.out]; try rfl, B2⟩
  · have hzb : (eCode S C == 0) = false := by simpa using hz
    have hzn : (eCode S C != 0) = true := by simpa using hz
    have HA0 : Hid (EA = eCode S C) := Lib.hid (by rw [HAu.out, if_neg hz])
    have HX : Hid (E = eCode S C) := Lib.hid (by rw [HA.out (by rw [HA0.out]; exact hz), HA0.out])
    clear hz
    go_enter Try.func72, Try.ntmps72
    go_wp2_with fail
    refine (l01Given_any ao S cap hn ac C capc hnc _ (hS.below B0) (hC.below B0)).mono ?_
    rintro e w1 ⟨rfl, hb⟩
    go_wp2_with fail
    go_ret
    exact ⟨by rw [HX.out]; try rfl, B0.trans (hb.mono B0.size)⟩

/-- a list of one number that was built -/
theorem own_one (w : World) (base : Nat) (x : Int) (h : base ≤ w.heap.size) {n : Nat} (hn : n = w.heap.size) : OwnInts (w.alloc (.cells #[.int .i64 x] 2)) base (.slice (some ⟨n, 0, none⟩) 1 1) [x] := by
  subst hn
  exact ⟨by simp, .inr ⟨w.heap.size, 1, #[.int .i64 x], rfl, h, heap_alloc_new w _, Nat.le_refl _, by simp [maxLen], by simp, by simp⟩⟩

set_option maxHeartbeats 8000000 in
theorem l06Bundle_any (ao : Option Addr) (S : List Int) (cap : Nat) (ac : Option Addr) (C : List Int) (capc : Nat) (hz : eCode S C = 0) (x : Int) (hx : x ∈ C) (i : Nat) (hi : i < S.length) (w : World) (hS : Ints w ao S) (hC : Ints w ac C) :
    Calls Try.prog 73 #[.agg #[.slice ao S.length cap], .slice ac C.length capc, .int .i64 x, .int .i64 i] w fun e w' => ∃ v, e = .returned v ∧ OwnInts w' w.heap.size v (sorted (bunL S C i x)) ∧ Below w.heap.size w w' := by
  obtain ⟨hSp, hc1, hc2⟩ := eCode_zero hz
  obtain ⟨N1, N2⟩ := nW_bd hSp
  have hlen := code_len0 hz
  have HC1 : Hid (∀ u, u ∈ C → 0 ≤ u ∧ u ≤ 9223372036854775807) := Lib.hid fun u h => by
    obtain ⟨t, ht, rfl⟩ := mem_gi h
    have := hc1 t ht; omega
  have HSp := Lib.hid hSp
  have hs8 := hSp.hi
  have HX := Lib.hid hx
  have HSub := Lib.hid fun k => sub_to (S := S) i hx k
  have HStep := Lib.hid fun k h => to_step (S := S) (C := C) (i := i) (w := x) (k := k) h
  have HEnd := Lib.hid fun k h1 h2 => to_end (S := S) (i := i) hx (k := k) h1 h2
  have iI : (i : Int) < (S.length : Int) := by omega
  clear hc1 hc2 hSp hz hx
  go_enter Try.func73, Try.ntmps73
  go_wp2_with fail
  obtain ⟨W1, hW1⟩ : ∃ W1, W1 = w.alloc (.cells #[.slice ao S.length cap] 26) := ⟨_, rfl⟩
  have B1 : Below w.heap.size w W1 := by rw [hW1]; go_grown
  have c1 : W1.cell? ⟨w.heap.size, 0, none⟩ = some (.slice ao S.length cap) := by rw [hW1]; exact cell_new _ _ _
  have s1 : W1.heap.size = w.heap.size + 1 := by rw [hW1]; simp
  have ow1 := own_one W1 (w.heap.size + 1) x (by omega) (n := w.heap.size + 1) (by omega)
  obtain ⟨W2, hW2⟩ : ∃ W2, W2 = W1.alloc (.cells #[.int .i64 x] 2) := ⟨_, rfl⟩
  rw [← hW2] at ow1
  have b2 : Below W1.heap.size W1 W2 := by rw [hW2]; exact (Below.refl _ _).alloc (Nat.le_refl _) _
  have s2 : W2.heap.size = w.heap.size + 2 := by rw [hW2]; simp; omega
  have ow2 := own_one W2 (w.heap.size + 1) x (by omega) (n := w.heap.size + 2) (by omega)
  obtain ⟨W3, hW3⟩ : ∃ W3, W3 = W2.alloc (.cells #[.int .i64 x] 2) := ⟨_, rfl⟩
  rw [← hW3] at ow2
  have b3 : Below W2.heap.size W2 W3 := by rw [hW3]; exact (Below.refl _ _).alloc (Nat.le_refl _) _
  have s3 : W3.heap.size = w.heap.size + 3 := by rw [hW3]; simp; omega
  have oo3 := ow1.below b3
  have c3 := kept_cell b3 (kept_cell b2 c1 (by omega)) (by omega)
  have B3 : Below w.heap.size w W3 := (B1.trans (b2.mono B1.size)).trans (b3.mono (by omega))
  have HW : Hid (W3 = ((w.alloc (.cells #[.slice ao S.length cap] 26)).alloc (.cells #[.int .i64 x] 2)).alloc (.cells #[.int .i64 x] 2)) := Lib.hid (by rw [hW3, hW2, hW1])
  have l3 : w.heap.size < W3.heap.size := by omega
  clear hW1 hW2 hW3 B1 c1 s1 b2 b3 ow1 s2 s3
  rw [← HW.out]
  go_loopw [9, 10, 11] (fun vo vq vi wr => ∃ (k go co gq cq : Nat) (Q : List Int), k ≤ Q.length ∧ vi = .int .i64 k ∧ Hid (Q = buTo S C i x k) ∧ vo = .slice (some ⟨go, 0, none⟩) (sorted Q).length co ∧ vq = .slice (some ⟨gq, 0, none⟩) Q.length cq ∧ OwnInts wr (w.heap.size + 1) (.slice (some ⟨go, 0, none⟩) (sorted Q).length co) (sorted Q) ∧ OwnInts wr (w.heap.size + 1) (.slice (some ⟨gq, 0, none⟩) Q.length cq) Q ∧ go ≠ gq ∧ wr.cell? ⟨w.heap.size, 0, none⟩ = some (.slice ao S.length cap) ∧ w.heap.size < wr.heap.size ∧ Below w.heap.size w wr) (fun _ _ vi _ => C.length + 1 - (intOf vi).toNat)
  case atStart => exact ⟨0, w.heap.size + 1, 1, w.heap.size + 2, 1, [x], by simp, rfl, Lib.hid rfl, by rw [sorted_1]; rfl, rfl, by rw [sorted_1]; exact oo3, ow2, by omega, c3, l3, B3⟩
  case round =>
    clear oo3 ow2 c3 l3 B3
    obtain ⟨k, go, co, gq, cq, Q, hk, rfl, HQ, rfl, rfl, oo, oq, hne, c, l, B⟩ := hrel
    have hsub := HSub.out k
    rw [← HQ.out] at hsub
    have hQC := hsub.len
    by_cases hlt : k < Q.length
    · have hltI : (k : Int) < (Q.length : Int) := by omega
      have HR0 : Hid (buTo S C i x (k + 1) = buIn S C i (gi Q k) Q C.length) := Lib.hid (by have h := HStep.out k (by rw [← HQ.out]; exact hlt); rw [← HQ.out] at h; exact h)
      obtain ⟨x0, hx0⟩ : ∃ x0, x0 = gi Q k := ⟨_, rfl⟩
      have hxC : x0 ∈ C := by rw [hx0]; exact hsub.sub _ (gi_mem hlt)
      obtain ⟨x00, x09⟩ := HC1.out x0 hxC
      rw [← hx0] at HR0
      have HX0 := Lib.hid hx0
      have HSB := Lib.hid hsub
      clear hx0 hxC hsub
      go_wp2_with fail
      go_loopw [9, 10, 12] (fun vo vq vj wr => ∃ (j go co gq cq : Nat) (R : List Int), j ≤ C.length ∧ vj = .int .i64 j ∧ Hid (R = buIn S C i x0 Q j) ∧ vo = .slice (some ⟨go, 0, none⟩) (sorted R).length co ∧ vq = .slice (some ⟨gq, 0, none⟩) R.length cq ∧ OwnInts wr (w.heap.size + 1) (.slice (some ⟨go, 0, none⟩) (sorted R).length co) (sorted R) ∧ OwnInts wr (w.heap.size + 1) (.slice (some ⟨gq, 0, none⟩) R.length cq) R ∧ go ≠ gq ∧ wr.cell? ⟨w.heap.size, 0, none⟩ = some (.slice ao S.length cap) ∧ w.heap.size < wr.heap.size ∧ Below w.heap.size w wr) (fun _ _ vj _ => C.length - (intOf vj).toNat)
      case atStart => exact ⟨0, go, co, gq, cq, Q, Nat.zero_le _, rfl, Lib.hid rfl, rfl, rfl, oo, oq, hne, c, l, B⟩
      case round =>
        clear oo oq hne c l B
        obtain ⟨j, go, co, gq, cq, R, hj, rfl, HR, rfl, rfl, oo, oq, hne, c, l, B⟩ := hrel
        have hsR : Sub C R := by rw [HR.out]; exact sub_in i x0 HSB.out j hj
        have hRC := hsR.len
        have hQR : Q.length ≤ R.length := by rw [HR.out]; exact in_len i x0 Q j
        have hgk : gi R k = x0 := by rw [HR.out, in_gi i x0 Q j k hlt, HX0.out]
        obtain ⟨P, hP⟩ : ∃ P, P = R.length := ⟨_, rfl⟩
        obtain ⟨PS, hPS⟩ : ∃ PS, PS = (sorted R).length := ⟨_, rfl⟩
        have hPSP : PS = P := by rw [hPS, hP, sorted_len]
        have hcq := oq.cell (k := k) (by omega)
        rw [hgk] at hcq
        rw [← hP] at oq ⊢
        rw [← hPS] at oo ⊢
        have HPl := Lib.hid hP
        have HPSl := Lib.hid hPS
        have HSR := Lib.hid hsR
        have hkP : (k : Int) < (P : Int) := by omega
        have k0 : (0 : Int) ≤ (k : Int) := by omega
        have gqb := oq.base_le
        have gob := oo.base_le
        have hP9 : P ≤ 1024 := by omega
        have hPS9 : PS ≤ 1024 := by omega
        clear hP hPS hsR hgk hPSP
        by_cases hjt : j < C.length
        · obtain ⟨b, o, rfl, hbl, hcc0⟩ := hC.at hjt
          have hcc : wr.cell? ⟨b, o + j, none⟩ = some (.int .i64 (gi C j)) := kept_cell B (hcc0 j hjt) hbl
          have hbr : b < wr.heap.size := lt_of_below B hbl
          have hjI : (j : Int) < (C.length : Int) := by omega
          have j0 : (0 : Int) ≤ (j : Int) := by omega
          have HIN : Hid (buIn S C i x0 Q (j + 1) = if bndB S i x0 (gi C j) = true ∧ ¬ gi C j ∈ R then R ++ [gi C j] else R) := Lib.hid (by rw [buIn, ← HR.out])
          obtain ⟨y0, hy0⟩ : ∃ y0, y0 = gi C j := ⟨_, rfl⟩
          obtain ⟨y00, y09⟩ := HC1.out (gi C j) (gi_mem hjt)
          rw [← hy0] at hcc HIN y00 y09
          have hcc' : ∀ W : World, Below w.heap.size w W → W.cell? ⟨b, o + j, none⟩ = some (.int .i64 y0) := fun W hW => by rw [hy0]; exact kept_cell hW (hcc0 j hjt) hbl
          have HCC := Lib.hid hcc'
          have HDst := Lib.hid fun W h => l01Distance_any ao S cap hs8 HSp.out.bd x0 y0 x00 x09 y00 y09 W h
          clear hcc0 hy0 hcc'
          go_wp2_with fail
          go_cut [13] from 24 to 84 (fun nr wx => ∃ nb : Bool, nr = .bool nb ∧ Hid (nb = bndB S i x0 y0) ∧ Below wr.heap.size wr wx)
          case first =>
            by_cases hd : dist S x0 y0 = 3
            · have hdb : (dist S x0 y0 == 3) = true := by simp [hd]
              have HBT : Hid (bndB S i x0 y0 = (dig S x0 i != dig S y0 i)) := Lib.hid (by unfold bndB; rw [decide_eq_true hd, Bool.true_and])
              have hdd : (0 : Int) ≤ (i : Int) := by omega
              clear hd
              refine wp_region_held_drew (S := fun w' => w'.cell? ⟨w.heap.size, 0, none⟩ = some (.slice ao S.length cap) ∧ w'.cell? ⟨gq, k, none⟩ = some (.int .i64 x0) ∧ w'.cell? ⟨b, o + j, none⟩ = some (.int .i64 y0)) (by kernel_rfl) ⟨c, hcq, hcc⟩ (fun hHeld => ?_)
              refine wpAnyH_take (i := 0) (v := .agg #[.slice ao S.length cap]) rfl (by kernel_rfl) (by kernel_rfl) (by kernel_rfl) (fun _ _ _ h => h) (Or.inl ⟨by rfl, ?_⟩) (by assumption) ?_
              · (intro W hSw; obtain ⟨h1, _, _⟩ := hSw; (try dsimp only at h1); go_simp)
              (try simp only [List.getElem_toArray, List.getElem_cons_succ, List.getElem_cons_zero, Act.put, List.setIfInBounds_toArray, List.set_cons_zero, List.set_cons_succ])
              refine wpAnyH_take (i := 1) (v := ?_) rfl (by kernel_rfl) (by kernel_rfl) (by kernel_rfl) (fun _ _ _ h => h) (Or.inl ⟨by rfl, ?_⟩) (by assumption) ?_
              rotate_left
              · (intro w hSw; (try dsimp only at hSw); go_simp; try (with_reducible rfl))
              (try simp only [List.getElem_toArray, List.getElem_cons_succ, List.getElem_cons_zero, Act.put, List.setIfInBounds_toArray, List.set_cons_zero, List.set_cons_succ])
              refine wpAnyH_take (i := 2) (v := ?_) rfl (by kernel_rfl) (by kernel_rfl) (by kernel_rfl) (fun _ _ _ h => h) (Or.inl ⟨by rfl, ?_⟩) (by assumption) ?_
              rotate_left
              · (intro w hSw; (try dsimp only at hSw); go_simp; try (with_reducible rfl))
              (try simp only [List.getElem_toArray, List.getElem_cons_succ, List.getElem_cons_zero, Act.put, List.setIfInBounds_toArray, List.set_cons_zero, List.set_cons_succ])
              refine wpAnyH_take (i := 3) (v := .pointer (some ⟨gq, k, none⟩)) rfl (by kernel_rfl) (by kernel_rfl) (by kernel_rfl) (fun _ _ _ h => h) (Or.inl ⟨by rfl, ?_⟩) (by assumption) ?_
              · (intro W hSw; go_simp)
              (try simp only [List.getElem_toArray, List.getElem_cons_succ, List.getElem_cons_zero, Act.put, List.setIfInBounds_toArray, List.set_cons_zero, List.set_cons_succ])
              refine wpAnyH_take (i := 4) (v := .int .i64 x0) rfl (by kernel_rfl) (by kernel_rfl) (by kernel_rfl) (fun _ _ _ h => h) (Or.inl ⟨by rfl, ?_⟩) (by assumption) ?_
              · (intro W hSw; obtain ⟨_, h2, _⟩ := hSw; (try dsimp only at h2); go_simp)
              (try simp only [List.getElem_toArray, List.getElem_cons_succ, List.getElem_cons_zero, Act.put, List.setIfInBounds_toArray, List.set_cons_zero, List.set_cons_succ])
              refine wpAnyH_take (i := 5) (v := ?_) rfl (by kernel_rfl) (by kernel_rfl) (by kernel_rfl) (fun _ _ _ h => h) (Or.inl ⟨by rfl, ?_⟩) (by assumption) ?_
              rotate_left
              · (intro w hSw; (try dsimp only at hSw); go_simp; try (with_reducible rfl))
              (try simp only [List.getElem_toArray, List.getElem_cons_succ, List.getElem_cons_zero, Act.put, List.setIfInBounds_toArray, List.set_cons_zero, List.set_cons_succ])
              refine wpAnyH_take (i := 6) (v := ?_) rfl (by kernel_rfl) (by kernel_rfl) (by kernel_rfl) (fun _ _ _ h => h) (Or.inl ⟨by rfl, ?_⟩) (by assumption) ?_
              rotate_left
              · (intro w hSw; (try dsimp only at hSw); go_simp; try (with_reducible rfl))
              (try simp only [List.getElem_toArray, List.getElem_cons_succ, List.getElem_cons_zero, Act.put, List.setIfInBounds_toArray, List.set_cons_zero, List.set_cons_succ])
              refine wpAnyH_take (i := 7) (v := .pointer (some ⟨b, o + j, none⟩)) rfl (by kernel_rfl) (by kernel_rfl) (by kernel_rfl) (fun _ _ _ h => h) (Or.inl ⟨by rfl, ?_⟩) (by assumption) ?_
              · (intro W hSw; go_simp)
              (try simp only [List.getElem_toArray, List.getElem_cons_succ, List.getElem_cons_zero, Act.put, List.setIfInBounds_toArray, List.set_cons_zero, List.set_cons_succ])
              refine wpAnyH_take (i := 8) (v := .int .i64 y0) rfl (by kernel_rfl) (by kernel_rfl) (by kernel_rfl) (fun _ _ _ h => h) (Or.inl ⟨by rfl, ?_⟩) (by assumption) ?_
              · (intro W hSw; obtain ⟨_, _, h3⟩ := hSw; (try dsimp only at h3); go_simp)
              (try simp only [List.getElem_toArray, List.getElem_cons_succ, List.getElem_cons_zero, Act.put, List.setIfInBounds_toArray, List.set_cons_zero, List.set_cons_succ])
              refine wpAnyH_ready (rs := [9]) (by kernel_rfl) (by simp) ?_
              refine AllReadyH.cons rfl (fun K hK => ?_) AllReadyH.nil
              go_simp
              (go_at_call 62; refine (HDst.out _ (hS.below B.drew)).mono ?_)
              rintro e w2 ⟨rfl, hb2'⟩
              have hb2 : Below wr.heap.size wr w2 := (Below.refl _ wr).drew.trans hb2'
              have c2 := kept_cell hb2 c (by omega)
              have hcq2 := kept_cell hb2 hcq (by omega)
              have hcc2 := kept_cell hb2 hcc (by omega)
              have oo2 := oo.below hb2
              have oq2 := oq.below hb2
              have B2 := B.trans (hb2.mono B.size)
              have s2 := hb2.size
              refine hK.out _ _ ⟨c2, hcq2, hcc2⟩ (fun hHeld => ?_)
              clear hK K
              (try simp only [List.getElem_toArray, List.getElem_cons_succ, List.getElem_cons_zero, Act.put, List.setIfInBounds_toArray, List.set_cons_zero, List.set_cons_succ])
              refine wpAnyH_take (i := 10) (v := .bool true) rfl (by kernel_rfl) (by kernel_rfl) (by kernel_rfl) (fun _ _ _ h => h) (Or.inl ⟨by rfl, ?_⟩) (by assumption) ?_
              · (intro W hSw; go_simp)
              (try simp only [List.getElem_toArray, List.getElem_cons_succ, List.getElem_cons_zero, Act.put, List.setIfInBounds_toArray, List.set_cons_zero, List.set_cons_succ])
              refine wpAnyH_take (i := 11) (v := ?_) rfl (by kernel_rfl) (by kernel_rfl) (by kernel_rfl) (fun _ _ _ h => h) (Or.inl ⟨by rfl, ?_⟩) (by assumption) ?_
              rotate_left
              · (intro w hSw; (try dsimp only at hSw); go_simp; try (with_reducible rfl))
              (try simp only [List.getElem_toArray, List.getElem_cons_succ, List.getElem_cons_zero, Act.put, List.setIfInBounds_toArray, List.set_cons_zero, List.set_cons_succ])
              refine wpAnyH_take (i := 12) (v := .agg #[.slice ao S.length cap]) rfl (by kernel_rfl) (by kernel_rfl) (by kernel_rfl) (fun _ _ _ h => h) (Or.inl ⟨by rfl, ?_⟩) (by assumption) ?_
              · (intro W hSw; obtain ⟨h1, _, _⟩ := hSw; (try dsimp only at h1); go_simp)
              (try simp only [List.getElem_toArray, List.getElem_cons_succ, List.getElem_cons_zero, Act.put, List.setIfInBounds_toArray, List.set_cons_zero, List.set_cons_succ])
              refine wpAnyH_take (i := 13) (v := ?_) rfl (by kernel_rfl) (by kernel_rfl) (by kernel_rfl) (fun _ _ _ h => h) (Or.inl ⟨by rfl, ?_⟩) (by assumption) ?_
              rotate_left
              · (intro w hSw; (try dsimp only at hSw); go_simp; try (with_reducible rfl))
              (try simp only [List.getElem_toArray, List.getElem_cons_succ, List.getElem_cons_zero, Act.put, List.setIfInBounds_toArray, List.set_cons_zero, List.set_cons_succ])
              refine wpAnyH_take (i := 14) (v := ?_) rfl (by kernel_rfl) (by kernel_rfl) (by kernel_rfl) (fun _ _ _ h => h) (Or.inl ⟨by rfl, ?_⟩) (by assumption) ?_
              rotate_left
              · (intro w hSw; (try dsimp only at hSw); go_simp; try (with_reducible rfl))
              (try simp only [List.getElem_toArray, List.getElem_cons_succ, List.getElem_cons_zero, Act.put, List.setIfInBounds_toArray, List.set_cons_zero, List.set_cons_succ])
              refine wpAnyH_take (i := 15) (v := .pointer (some ⟨gq, k, none⟩)) rfl (by kernel_rfl) (by kernel_rfl) (by kernel_rfl) (fun _ _ _ h => h) (Or.inl ⟨by rfl, ?_⟩) (by assumption) ?_
              · (intro W hSw; go_simp)
              (try simp only [List.getElem_toArray, List.getElem_cons_succ, List.getElem_cons_zero, Act.put, List.setIfInBounds_toArray, List.set_cons_zero, List.set_cons_succ])
              refine wpAnyH_take (i := 16) (v := .int .i64 x0) rfl (by kernel_rfl) (by kernel_rfl) (by kernel_rfl) (fun _ _ _ h => h) (Or.inl ⟨by rfl, ?_⟩) (by assumption) ?_
              · (intro W hSw; obtain ⟨_, h2, _⟩ := hSw; (try dsimp only at h2); go_simp)
              (try simp only [List.getElem_toArray, List.getElem_cons_succ, List.getElem_cons_zero, Act.put, List.setIfInBounds_toArray, List.set_cons_zero, List.set_cons_succ])
              refine wpAnyH_take (i := 18) (v := ?_) rfl (by kernel_rfl) (by kernel_rfl) (by kernel_rfl) (fun _ _ _ h => h) (Or.inl ⟨by rfl, ?_⟩) (by assumption) ?_
              rotate_left
              · (intro w hSw; (try dsimp only at hSw); go_simp; try (with_reducible rfl))
              (try simp only [List.getElem_toArray, List.getElem_cons_succ, List.getElem_cons_zero, Act.put, List.setIfInBounds_toArray, List.set_cons_zero, List.set_cons_succ])
              refine wpAnyH_take (i := 21) (v := .agg #[.slice ao S.length cap]) rfl (by kernel_rfl) (by kernel_rfl) (by kernel_rfl) (fun _ _ _ h => h) (Or.inl ⟨by rfl, ?_⟩) (by assumption) ?_
              · (intro W hSw; obtain ⟨h1, _, _⟩ := hSw; (try dsimp only at h1); go_simp)
              (try simp only [List.getElem_toArray, List.getElem_cons_succ, List.getElem_cons_zero, Act.put, List.setIfInBounds_toArray, List.set_cons_zero, List.set_cons_succ])
              refine wpAnyH_take (i := 22) (v := ?_) rfl (by kernel_rfl) (by kernel_rfl) (by kernel_rfl) (fun _ _ _ h => h) (Or.inl ⟨by rfl, ?_⟩) (by assumption) ?_
              rotate_left
              · (intro w hSw; (try dsimp only at hSw); go_simp; try (with_reducible rfl))
              (try simp only [List.getElem_toArray, List.getElem_cons_succ, List.getElem_cons_zero, Act.put, List.setIfInBounds_toArray, List.set_cons_zero, List.set_cons_succ])
              refine wpAnyH_take (i := 23) (v := ?_) rfl (by kernel_rfl) (by kernel_rfl) (by kernel_rfl) (fun _ _ _ h => h) (Or.inl ⟨by rfl, ?_⟩) (by assumption) ?_
              rotate_left
              · (intro w hSw; (try dsimp only at hSw); go_simp; try (with_reducible rfl))
              (try simp only [List.getElem_toArray, List.getElem_cons_succ, List.getElem_cons_zero, Act.put, List.setIfInBounds_toArray, List.set_cons_zero, List.set_cons_succ])
              refine wpAnyH_take (i := 24) (v := .pointer (some ⟨b, o + j, none⟩)) rfl (by kernel_rfl) (by kernel_rfl) (by kernel_rfl) (fun _ _ _ h => h) (Or.inl ⟨by rfl, ?_⟩) (by assumption) ?_
              · (intro W hSw; go_simp)
              (try simp only [List.getElem_toArray, List.getElem_cons_succ, List.getElem_cons_zero, Act.put, List.setIfInBounds_toArray, List.set_cons_zero, List.set_cons_succ])
              refine wpAnyH_take (i := 25) (v := .int .i64 y0) rfl (by kernel_rfl) (by kernel_rfl) (by kernel_rfl) (fun _ _ _ h => h) (Or.inl ⟨by rfl, ?_⟩) (by assumption) ?_
              · (intro W hSw; obtain ⟨_, _, h3⟩ := hSw; (try dsimp only at h3); go_simp)
              (try simp only [List.getElem_toArray, List.getElem_cons_succ, List.getElem_cons_zero, Act.put, List.setIfInBounds_toArray, List.set_cons_zero, List.set_cons_succ])
              refine wpAnyH_take (i := 27) (v := ?_) rfl (by kernel_rfl) (by kernel_rfl) (by kernel_rfl) (fun _ _ _ h => h) (Or.inl ⟨by rfl, ?_⟩) (by assumption) ?_
              rotate_left
              · (intro w hSw; (try dsimp only at hSw); go_simp; try (with_reducible rfl))
              (try simp only [List.getElem_toArray, List.getElem_cons_succ, List.getElem_cons_zero, Act.put, List.setIfInBounds_toArray, List.set_cons_zero, List.set_cons_succ])
              refine wpAnyH_ready (rs := [17]) (by kernel_rfl) (by simp) ?_
              refine AllReadyH.cons rfl (fun K hK => ?_) AllReadyH.nil
              go_simp
              (go_at_call 77; refine (l01Digits_any ao S cap hs8 HSp.out.bd x0 x00 x09 _ (hS.below B2)).mono ?_)
              rintro e w3 ⟨g3, rfl, od3, hb3⟩
              have c3 := kept_cell hb3 c2 (by omega)
              have hcq3 := kept_cell hb3 hcq2 (by omega)
              have hcc3 := kept_cell hb3 hcc2 (by omega)
              have oo3 := oo2.below hb3
              have oq3 := oq2.below hb3
              have B3 := B2.trans (hb3.mono B2.size)
              have s3 := hb3.size
              have hd3 : w3.cell? ⟨g3, i, none⟩ = some (.int .i64 (dig S x0 i)) := by have h := od3.cell (k := i) (by rw [digs_length]; exact hi); rwa [gi_digs _ _ _ hi] at h
              have lg3 := od3.base_le
              refine hK.out _ _ ⟨c3, hcq3, hcc3⟩ (fun hHeld => ?_)
              clear hK K
              (try simp only [List.getElem_toArray, List.getElem_cons_succ, List.getElem_cons_zero, Act.put, List.setIfInBounds_toArray, List.set_cons_zero, List.set_cons_succ])
              refine wpAnyH_take (i := 19) (v := .pointer (some ⟨g3, i, none⟩)) rfl (by kernel_rfl) (by kernel_rfl) (by kernel_rfl) (fun _ _ _ h => h) (Or.inl ⟨by rfl, ?_⟩) (by assumption) ?_
              · (intro W hSw; go_simp)
              (try simp only [List.getElem_toArray, List.getElem_cons_succ, List.getElem_cons_zero, Act.put, List.setIfInBounds_toArray, List.set_cons_zero, List.set_cons_succ])
              refine wpAnyH_ready (rs := [20, 26]) (by kernel_rfl) (by simp) ?_
              refine AllReadyH.cons rfl (fun K hK => ?_) ?_
              · go_simp
                refine hK.out _ _ ⟨c3, hcq3, hcc3⟩ (fun hHeld => ?_)
                clear hK K
                (try simp only [List.getElem_toArray, List.getElem_cons_succ, List.getElem_cons_zero, Act.put, List.setIfInBounds_toArray, List.set_cons_zero, List.set_cons_succ])
                refine wpAnyH_ready (rs := [26]) (by kernel_rfl) (by simp) ?_
                refine AllReadyH.cons rfl (fun K hK => ?_) AllReadyH.nil
                go_simp
                (go_at_call 77; refine (l01Digits_any ao S cap hs8 HSp.out.bd y0 y00 y09 _ (hS.below B3)).mono ?_)
                rintro e w4 ⟨g4, rfl, od4, hb4⟩
                have c4 := kept_cell hb4 c3 (by omega)
                have hcq4 := kept_cell hb4 hcq3 (by omega)
                have hcc4 := kept_cell hb4 hcc3 (by omega)
                have oo4 := oo3.below hb4
                have oq4 := oq3.below hb4
                have B4 := B3.trans (hb4.mono B3.size)
                have s4 := hb4.size
                have hd4 : w4.cell? ⟨g4, i, none⟩ = some (.int .i64 (dig S y0 i)) := by have h := od4.cell (k := i) (by rw [digs_length]; exact hi); rwa [gi_digs _ _ _ hi] at h
                have lg4 := od4.base_le
                refine hK.out _ _ ⟨c4, hcq4, hcc4⟩ (fun hHeld => ?_)
                clear hK K
                (try simp only [List.getElem_toArray, List.getElem_cons_succ, List.getElem_cons_zero, Act.put, List.setIfInBounds_toArray, List.set_cons_zero, List.set_cons_succ])
                refine wpAnyH_take (i := 28) (v := .pointer (some ⟨g4, i, none⟩)) rfl (by kernel_rfl) (by kernel_rfl) (by kernel_rfl) (fun _ _ _ h => h) (Or.inl ⟨by rfl, ?_⟩) (by assumption) ?_
                · (intro W hSw; go_simp)
                (try simp only [List.getElem_toArray, List.getElem_cons_succ, List.getElem_cons_zero, Act.put, List.setIfInBounds_toArray, List.set_cons_zero, List.set_cons_succ])
                refine wpAnyH_ready (rs := [29]) (by kernel_rfl) (by simp) ?_
                refine AllReadyH.cons rfl (fun K hK => ?_) AllReadyH.nil
                go_simp
                refine hK.out _ _ ⟨c4, hcq4, hcc4⟩ (fun hHeld => ?_)
                clear hK K
                (try simp only [List.getElem_toArray, List.getElem_cons_succ, List.getElem_cons_zero, Act.put, List.setIfInBounds_toArray, List.set_cons_zero, List.set_cons_succ])
                refine wpAnyH_take (i := 30) (v := .bool (dig S x0 i != dig S y0 i)) rfl (by kernel_rfl) (by kernel_rfl) (by kernel_rfl) (fun _ _ _ h => h) (Or.inl ⟨by rfl, ?_⟩) (by assumption) ?_
                · (intro W hSw; go_simp)
                (try simp only [List.getElem_toArray, List.getElem_cons_succ, List.getElem_cons_zero, Act.put, List.setIfInBounds_toArray, List.set_cons_zero, List.set_cons_succ])
                refine wpAnyH_take (i := 31) (v := .bool (dig S x0 i != dig S y0 i)) rfl (by kernel_rfl) (by kernel_rfl) (by kernel_rfl) (fun _ _ _ h => h) (Or.inl ⟨by rfl, ?_⟩) (by assumption) ?_
                · (intro W hSw; go_simp)
                (try simp only [List.getElem_toArray, List.getElem_cons_succ, List.getElem_cons_zero, Act.put, List.setIfInBounds_toArray, List.set_cons_zero, List.set_cons_succ])
                refine wpAnyH_take (i := 32) (v := ?_) rfl (by kernel_rfl) (by kernel_rfl) (by kernel_rfl) (fun _ _ _ h => h) (Or.inl ⟨by rfl, ?_⟩) (by assumption) ?_
                rotate_left
                · (intro w hSw; (try dsimp only at hSw); go_simp; try (with_reducible rfl))
                (try simp only [List.getElem_toArray, List.getElem_cons_succ, List.getElem_cons_zero, Act.put, List.setIfInBounds_toArray, List.set_cons_zero, List.set_cons_succ])
                refine wpAnyH_done (by kernel_rfl) ?_ _
                go_wp2_with fail
                go_meet
                exact ⟨dig S x0 i != dig S y0 i, rfl, Lib.hid (by rw [HBT.out]), hb2.trans ((hb3.mono hb2.size).trans (hb4.mono (Nat.le_trans hb2.size hb3.size)))⟩
              · refine AllReadyH.cons rfl (fun K hK => ?_) AllReadyH.nil
                go_simp
                (go_at_call 77; refine (l01Digits_any ao S cap hs8 HSp.out.bd y0 y00 y09 _ (hS.below B3)).mono ?_)
                rintro e w4 ⟨g4, rfl, od4, hb4⟩
                have c4 := kept_cell hb4 c3 (by omega)
                have hcq4 := kept_cell hb4 hcq3 (by omega)
                have hcc4 := kept_cell hb4 hcc3 (by omega)
                have oo4 := oo3.below hb4
                have oq4 := oq3.below hb4
                have B4 := B3.trans (hb4.mono B3.size)
                have s4 := hb4.size
                have hd4 : w4.cell? ⟨g4, i, none⟩ = some (.int .i64 (dig S y0 i)) := by have h := od4.cell (k := i) (by rw [digs_length]; exact hi); rwa [gi_digs _ _ _ hi] at h
                have lg4 := od4.base_le
                refine hK.out _ _ ⟨c4, hcq4, hcc4⟩ (fun hHeld => ?_)
                clear hK K
                (try simp only [List.getElem_toArray, List.getElem_cons_succ, List.getElem_cons_zero, Act.put, List.setIfInBounds_toArray, List.set_cons_zero, List.set_cons_succ])
                have hd3' := kept_cell hb4 hd3 lg3.2
                refine wpAnyH_take (i := 28) (v := .pointer (some ⟨g4, i, none⟩)) rfl (by kernel_rfl) (by kernel_rfl) (by kernel_rfl) (fun _ _ _ h => h) (Or.inl ⟨by rfl, ?_⟩) (by assumption) ?_
                · (intro W hSw; go_simp)
                (try simp only [List.getElem_toArray, List.getElem_cons_succ, List.getElem_cons_zero, Act.put, List.setIfInBounds_toArray, List.set_cons_zero, List.set_cons_succ])
                refine wpAnyH_ready (rs := [20, 29]) (by kernel_rfl) (by simp) ?_
                refine AllReadyH.cons rfl (fun K hK => ?_) ?_
                · go_simp
                  refine hK.out _ _ ⟨c4, hcq4, hcc4⟩ (fun hHeld => ?_)
                  clear hK K
                  (try simp only [List.getElem_toArray, List.getElem_cons_succ, List.getElem_cons_zero, Act.put, List.setIfInBounds_toArray, List.set_cons_zero, List.set_cons_succ])
                  refine wpAnyH_ready (rs := [29]) (by kernel_rfl) (by simp) ?_
                  refine AllReadyH.cons rfl (fun K hK => ?_) AllReadyH.nil
                  go_simp
                  refine hK.out _ _ ⟨c4, hcq4, hcc4⟩ (fun hHeld => ?_)
                  clear hK K
                  (try simp only [List.getElem_toArray, List.getElem_cons_succ, List.getElem_cons_zero, Act.put, List.setIfInBounds_toArray, List.set_cons_zero, List.set_cons_succ])
                  refine wpAnyH_take (i := 30) (v := .bool (dig S x0 i != dig S y0 i)) rfl (by kernel_rfl) (by kernel_rfl) (by kernel_rfl) (fun _ _ _ h => h) (Or.inl ⟨by rfl, ?_⟩) (by assumption) ?_
                  · (intro W hSw; go_simp)
                  (try simp only [List.getElem_toArray, List.getElem_cons_succ, List.getElem_cons_zero, Act.put, List.setIfInBounds_toArray, List.set_cons_zero, List.set_cons_succ])
                  refine wpAnyH_take (i := 31) (v := .bool (dig S x0 i != dig S y0 i)) rfl (by kernel_rfl) (by kernel_rfl) (by kernel_rfl) (fun _ _ _ h => h) (Or.inl ⟨by rfl, ?_⟩) (by assumption) ?_
                  · (intro W hSw; go_simp)
                  (try simp only [List.getElem_toArray, List.getElem_cons_succ, List.getElem_cons_zero, Act.put, List.setIfInBounds_toArray, List.set_cons_zero, List.set_cons_succ])
                  refine wpAnyH_take (i := 32) (v := ?_) rfl (by kernel_rfl) (by kernel_rfl) (by kernel_rfl) (fun _ _ _ h => h) (Or.inl ⟨by rfl, ?_⟩) (by assumption) ?_
                  rotate_left
                  · (intro w hSw; (try dsimp only at hSw); go_simp; try (with_reducible rfl))
                  (try simp only [List.getElem_toArray, List.getElem_cons_succ, List.getElem_cons_zero, Act.put, List.setIfInBounds_toArray, List.set_cons_zero, List.set_cons_succ])
                  refine wpAnyH_done (by kernel_rfl) ?_ _
                  go_wp2_with fail
                  go_meet
                  exact ⟨dig S x0 i != dig S y0 i, rfl, Lib.hid (by rw [HBT.out]), hb2.trans ((hb3.mono hb2.size).trans (hb4.mono (Nat.le_trans hb2.size hb3.size)))⟩
                · refine AllReadyH.cons rfl (fun K hK => ?_) AllReadyH.nil
                  go_simp
                  refine hK.out _ _ ⟨c4, hcq4, hcc4⟩ (fun hHeld => ?_)
                  clear hK K
                  (try simp only [List.getElem_toArray, List.getElem_cons_succ, List.getElem_cons_zero, Act.put, List.setIfInBounds_toArray, List.set_cons_zero, List.set_cons_succ])
                  refine wpAnyH_ready (rs := [20]) (by kernel_rfl) (by simp) ?_
                  refine AllReadyH.cons rfl (fun K hK => ?_) AllReadyH.nil
                  go_simp
                  refine hK.out _ _ ⟨c4, hcq4, hcc4⟩ (fun hHeld => ?_)
                  clear hK K
                  (try simp only [List.getElem_toArray, List.getElem_cons_succ, List.getElem_cons_zero, Act.put, List.setIfInBounds_toArray, List.set_cons_zero, List.set_cons_succ])
                  refine wpAnyH_take (i := 30) (v := .bool (dig S x0 i != dig S y0 i)) rfl (by kernel_rfl) (by kernel_rfl) (by kernel_rfl) (fun _ _ _ h => h) (Or.inl ⟨by rfl, ?_⟩) (by assumption) ?_
                  · (intro W hSw; go_simp)
                  (try simp only [List.getElem_toArray, List.getElem_cons_succ, List.getElem_cons_zero, Act.put, List.setIfInBounds_toArray, List.set_cons_zero, List.set_cons_succ])
                  refine wpAnyH_take (i := 31) (v := .bool (dig S x0 i != dig S y0 i)) rfl (by kernel_rfl) (by kernel_rfl) (by kernel_rfl) (fun _ _ _ h => h) (Or.inl ⟨by rfl, ?_⟩) (by assumption) ?_
                  · (intro W hSw; go_simp)
                  (try simp only [List.getElem_toArray, List.getElem_cons_succ, List.getElem_cons_zero, Act.put, List.setIfInBounds_toArray, List.set_cons_zero, List.set_cons_succ])
                  refine wpAnyH_take (i := 32) (v := ?_) rfl (by kernel_rfl) (by kernel_rfl) (by kernel_rfl) (fun _ _ _ h => h) (Or.inl ⟨by rfl, ?_⟩) (by assumption) ?_
                  rotate_left
                  · (intro w hSw; (try dsimp only at hSw); go_simp; try (with_reducible rfl))
                  (try simp only [List.getElem_toArray, List.getElem_cons_succ, List.getElem_cons_zero, Act.put, List.setIfInBounds_toArray, List.set_cons_zero, List.set_cons_succ])
                  refine wpAnyH_done (by kernel_rfl) ?_ _
                  go_wp2_with fail
                  go_meet
                  exact ⟨dig S x0 i != dig S y0 i, rfl, Lib.hid (by rw [HBT.out]), hb2.trans ((hb3.mono hb2.size).trans (hb4.mono (Nat.le_trans hb2.size hb3.size)))⟩
            · have hdb : (dist S x0 y0 == 3) = false := by simpa using hd
              have HBF : Hid (bndB S i x0 y0 = false) := Lib.hid (by unfold bndB; rw [decide_eq_false hd, Bool.false_and])
              clear hd
              have fc := fam_cell c
              have fcq := fam_cell hcq
              have fcc := fam_cell hcc
              refine wp_region_fam (by kernel_rfl) (by kernel_rfl) ?_
              repeat (go_big_quiet_step (first | (go_at_call 62; exact fam_calls (HDst.out _ (hS.below (B.trans ((fam_below _).mono B.size)))))))
              refine wpQuiet_nil ?_
              rintro _ ⟨y, rfl⟩
              have hb2 := fam_below y
              generalize fam wr y = w4 at hb2 ⊢
              go_wp2_with fail
              go_meet
              exact ⟨false, rfl, Lib.hid HBF.out.symm, hb2⟩
          case rest =>
            obtain ⟨nb, rfl, HNB, hbx⟩ := hcut
            obtain ⟨w4, hw4⟩ : ∃ w4, w4 = wc := ⟨_, rfl⟩
            subst hw4
            replace hbx : Below wr.heap.size wr w4 := hbx
            have c4 := kept_cell hbx c l
            have l4 := lt_of_below hbx l
            have hcc4 := kept_cell hbx hcc hbr
            have oo4 := oo.below hbx
            have oq4 := oq.below hbx
            have B4 := B.trans (hbx.mono B.size)
            have s4 := hbx.size
            clear hbx hcq hcc c l oo oq B
            cases nb with
            | false =>
              have HI : Hid (R = buIn S C i x0 Q (j + 1)) := Lib.hid (by rw [HIN.out, ← HNB.out, if_neg (by simp)])
              go_wp2_with fail
              go_roundw
              case rel => exact ⟨j + 1, go, co, gq, cq, R, by omega, by go_num, HI, by rw [← HPSl.out], by rw [← HPl.out], by rw [← HPSl.out]; exact oo4, by rw [← HPl.out]; exact oq4, hne, c4, l4, B4⟩
              case measure => simp [intOf]; omega
            | true =>
              have hhas : Calls Try.prog 76 #[.slice (some ⟨go, 0, none⟩) PS co, .int .i64 y0] w4 fun e w' => e = .returned (.bool (decide (y0 ∈ sorted R))) ∧ w4 = w' := by
                rw [HPSl.out]; exact l01Has_any (some ⟨go, 0, none⟩) (sorted R) co y0 (by rw [← HPSl.out]; omega) w4 (own_ints oo4)
              by_cases hm : y0 ∈ R
              · have hmd : decide (y0 ∈ sorted R) = true := by rw [decide_eq_true_eq, Cv.mem_sorted]; exact hm
                have HI : Hid (R = buIn S C i x0 Q (j + 1)) := Lib.hid (by rw [HIN.out, if_neg (fun g => g.2 hm)])
                rw [hmd] at hhas
                clear hmd hm
                go_wp2_with fail
                refine hhas.mono ?_
                rintro e w5 ⟨rfl, rfl⟩
                go_wp2_with fail
                go_roundw
                case rel => exact ⟨j + 1, go, co, gq, cq, R, by omega, by go_num, HI, by rw [← HPSl.out], by rw [← HPl.out], by rw [← HPSl.out]; exact oo4, by rw [← HPl.out]; exact oq4, hne, c4, l4, B4⟩
                case measure => simp [intOf]; omega
              · have hmd : decide (y0 ∈ sorted R) = false := by rw [decide_eq_false_iff_not, Cv.mem_sorted]; exact hm
                have HI : Hid (R ++ [y0] = buIn S C i x0 Q (j + 1)) := Lib.hid (by rw [HIN.out, if_pos ⟨HNB.out.symm, hm⟩])
                have hput := l01Put_new (w.heap.size + 1) go co (sorted R) y0 (by rw [Cv.mem_sorted]; exact hm) w4 (by rw [← HPSl.out]; omega) (by rw [← HPSl.out]; exact oo4)
                rw [put_srt HSR.out.nd hm, ← HPSl.out] at hput
                rw [hmd] at hhas
                have HPut := Lib.hid hput
                have hL1 : (sorted (R ++ [y0])).length = P + 1 := by rw [sorted_len, List.length_append, ← HPl.out]; rfl
                have HL1 := Lib.hid hL1
                have hRl : R.length ≤ 1073741824 := by rw [← HPl.out]; omega
                clear hmd hm hput hL1
                go_wp2_with fail
                refine hhas.mono ?_
                rintro e w5 ⟨rfl, rfl⟩
                go_wp2_with fail
                refine HPut.out.mono ?_
                rintro e w6 ⟨g6, c6, rfl, oo6, hb6⟩
                have c7 := kept_cell hb6 c4 l4
                have l7 := lt_of_below hb6 l4
                have hcc7 := kept_cell hb6 hcc4 (by omega)
                have oq7 := oq4.below hb6
                have B7 := B4.trans (hb6.mono B4.size)
                have s7 := hb6.size
                have lg6 := oo6.base_le
                clear c4 l4 hcc4 oo4 oq4 B4 hb6
                go_wp2_with (at_builtin; refine wpList_append_int_at rfl _ _ rfl (w.heap.size + 1) (.slice (some ⟨gq, 0, none⟩) P cq) R rfl (oq7.alloc _) w6.heap.size y0 rfl (cell_new _ _ _) hRl (by rw [World.size_alloc]; omega) ?_; intro v' w9 hown' hgrow hblk)
                obtain ⟨g', cp', hv', _⟩ := own_some hown' (by simp)
                subst hv'
                have hbT : Below w6.heap.size w6 (w6.alloc (.cells #[.int .i64 y0] 2)) := (Below.refl _ _).alloc (Nat.le_refl _) _
                have c9 := hgrow.cell (a := ⟨w.heap.size, 0, none⟩) (kept_cell hbT c7 l7) (fun e => by have := Option.some.inj e; simp at this; omega)
                have oo9 : OwnInts w9 w4.heap.size (.slice (some ⟨g6, 0, none⟩) (sorted (R ++ [y0])).length c6) (sorted (R ++ [y0])) := World.ownsRow.kept (oo6.alloc _) hgrow (.inr (show some g6 ≠ some gq from fun e => by have := Option.some.inj e; omega))
                have B9 := (B7.alloc B7.size (.cells #[.int .i64 y0] 2)).grown hgrow (by rw [World.size_alloc]; have := B7.size; omega) (fun z hz => by cases hz; (try dsimp only); omega)
                have l9 : w.heap.size < w9.heap.size := by have := hgrow.size; rw [World.size_alloc] at this; omega
                have hgne : g6 ≠ g' := by rcases hblk with h | h <;> simp [Value.ownBlock] at h <;> omega
                have hL2 : (R ++ [y0]).length = P + 1 := by rw [List.length_append, ← HPl.out]; rfl
                have HL2 := Lib.hid hL2
                rw [hL2] at hown' ⊢
                try rw [HL1.out]
                rw [HL1.out] at oo9
                clear hblk hgrow hbT oo6 oq7 B7 c7 hcc7 hL2
                go_wp2_with fail
                go_roundw
                case rel => exact ⟨j + 1, g6, c6, g', cp', R ++ [y0], by omega, by go_num, HI, by rw [HL1.out], by rw [HL2.out], by rw [HL1.out]; exact oo9.rebase (by omega), by rw [HL2.out]; exact hown', hgne, c9, l9, B9⟩
                case measure => simp [intOf]; omega
        · have hjI : ¬ (j : Int) < (C.length : Int) := by omega
          have HI : Hid (R = buTo S C i x (k + 1)) := Lib.hid (by rw [HR0.out, HR.out, show j = C.length by omega])
          go_wp2_with fail
          go_roundw
          case rel => exact ⟨k + 1, go, co, gq, cq, R, by have := HPl.out; omega, by go_num, HI, by rw [← HPSl.out], by rw [← HPl.out], by rw [← HPSl.out]; exact oo, by rw [← HPl.out]; exact oq, hne, c, l, B⟩
          case measure => simp [intOf]; omega
    · have hltI : ¬ (k : Int) < (Q.length : Int) := by omega
      have HF : Hid (bunL S C i x = Q) := Lib.hid (by have h := HEnd.out k (by rw [← HQ.out]; exact hk) (by rw [← HQ.out]; exact hlt); rw [h, ← HQ.out])
      obtain ⟨PS, hPS⟩ : ∃ PS, PS = (sorted Q).length := ⟨_, rfl⟩
      rw [← hPS] at oo ⊢
      clear hPS hsub
      go_wp2_with fail
      go_ret
      exact ⟨_, rfl, by rw [HF.out]; exact oo.rebase (by omega), B⟩

set_option maxHeartbeats 1000000 in
theorem spec_BundleOf (ao : Option Addr) (S : List Int) (cap : Nat) (hn : S.length ≤ 4294967296) (ac : Option Addr) (C : List Int) (capc : Nat) (hnc : C.length ≤ 4294967296) (x : Int) (hx : -9223372036854775808 ≤ x ∧ x ≤ 9223372036854775807) (i : Int) (hi : -9223372036854775808 ≤ i ∧ i ≤ 9223372036854775807) (w : World) (hS : Ints w ao S) (hC : Ints w ac C) :
    Calls Try.prog 31 #[.agg #[.slice ao S.length cap], .slice ac C.length capc, .int .i64 x, .int .i64 i] w fun e w' => ∃ v, e = .returned (.tuple #[v, .int .i64 (eBun S C x i)]) ∧ OwnInts w' w.heap.size v (vBun S C x i) ∧ Below w.heap.size w w' := by
  have B0 : Below w.heap.size w (w.alloc (.cells #[.slice ao S.length cap] 26)) := by go_grown
  have c0 := cell_new w (.slice ao S.length cap) 26
  have l0 := lt_alloc w (.cells #[.slice ao S.length cap] 26)
  have hg := l06Given_any ao S cap hn ac C capc hnc x hx i hi _ (hS.below B0) (hC.below B0)
  by_cases he : eBun S C x i = 0
  · have hen : (eBun S C x i != 0) = false := by simp [he]
    obtain ⟨ha, _, _, hm⟩ := eBun_zero he
    obtain ⟨hz, hxw, i0, i1⟩ := eBuA_zero ha
    obtain ⟨t, ht⟩ : ∃ t : Nat, i = (t : Int) := ⟨i.toNat, by omega⟩
    have HV : Hid (vBun S C x i = sorted (bunL S C t x)) := Lib.hid (by unfold vBun; rw [if_pos he, ht]; rfl)
    have hcall := Lib.hid fun W h1 h2 => l06Bundle_any ao S cap ac C capc hz x hm t (by omega) W h1 h2
    rw [← ht] at hcall
    have HE := Lib.hid he
    have HG := Lib.hid hg
    clear he ha hm hz hxw ht hg
    go_enter Try.func31, Try.ntmps31
    go_wp2_with fail
    refine HG.out.mono ?_
    rintro e w1 ⟨rfl, hb⟩
    have c1 := kept_cell hb c0 l0
    have B1 : Below w.heap.size w w1 := B0.trans (hb.mono B0.size)
    have s1 := B1.size
    go_wp2_with fail
    refine (hcall.out _ (hS.below B1) (hC.below B1)).mono ?_
    rintro e w2 ⟨v, rfl, own, hb2⟩
    go_wp2_with fail
    go_ret2
    exact ⟨_, by rw [HE.out]; rfl, by rw [HV.out]; exact own.rebase s1, B1.trans (hb2.mono s1)⟩
  · have hen : (eBun S C x i != 0) = true := by simpa using he
    have HV : Hid (vBun S C x i = []) := Lib.hid (by unfold vBun; rw [if_neg he])
    have HG := Lib.hid hg
    clear he hg
    go_enter Try.func31, Try.ntmps31
    go_wp2_with fail
    refine HG.out.mono ?_
    rintro e w1 ⟨rfl, hb⟩
    go_wp2_with fail
    go_ret2
    exact ⟨_, rfl, by rw [HV.out]; exact own_nil _ _, B0.trans (hb.mono B0.size)⟩

end Go.Proofs.Ytcbkmmadejbbpaa
