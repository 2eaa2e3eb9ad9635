/-
  The contract of the program's SpanOf. By an AI agent.
-/
import Derived.Test.YtdacokgmcenjoaaDoorSpnI
import Derived.Test.YtdacokgmcenjoaaDoorPlE
namespace Go.Proofs.YtdacokgmcenjoaaDoor
open Go.RowKit Cv
set_option linter.unusedVariables false
set_option linter.unusedSimpArgs false
set_option maxRecDepth 100000

theorem own_single (w : World) (base : Nat) (h : base ≤ w.heap.size) (x : Int) : OwnInts (w.alloc (.cells #[.int .i64 x] 2)) base (.slice (some ⟨w.heap.size, 0, none⟩) 1 1) [x] :=
  ⟨by simp, .inr ⟨w.heap.size, 1, #[.int .i64 x], rfl, h, heap_alloc_new w _, by simp, by simp [maxLen], by simp, by simp⟩⟩

set_option maxHeartbeats 2000000 in
theorem spanOf_any (ao : Option Addr) (S : List Int) (cap : Nat) (hP : Pl S) (ag : Option Addr) (G : List Int) (capg : Nat) (hlg : G.length ≤ 1048576) (hG : ∀ i, i < G.length → Wd S (gi G i)) (w : World) (hS : Ints w ao S) (hGI : Ints w ag G) :
    Calls Tryd.prog 64 #[.agg #[.slice ao S.length cap], .slice ag G.length capg] w fun e w' => ∃ g c, e = .returned (.slice (some ⟨g, 0, none⟩) (spTo S G G.length).length c) ∧ OwnInts w' w.heap.size (.slice (some ⟨g, 0, none⟩) (spTo S G G.length).length c) (sorted (spTo S G G.length)) ∧ Below w.heap.size w w' := by
  have HP := Lib.hid hP
  have HG := Lib.hid hG
  have HL := Lib.hid (fun k hk => spTo_len hP hG k hk)
  have HGp := Lib.hid (fun k hk => gp_to hP hG k hk)
  have HWb : Hid (∀ i, i < G.length → 0 ≤ gi G i ∧ gi G i ≤ 9223372036854775807) := Lib.hid fun i hi => by have := hG i hi; unfold Wd at this; have := nW_bd hP.sp; omega
  have B0 : Below w.heap.size w (w.alloc (.cells #[.slice ao S.length cap] 28)) := by go_grown
  have c0 := cell_new w (.slice ao S.length cap) 28
  have l0 := lt_alloc w (.cells #[.slice ao S.length cap] 28)
  have own0 : OwnInts ((w.alloc (.cells #[.slice ao S.length cap] 28)).alloc (.cells #[.int .i64 0] 2)) (w.heap.size + 1) (.slice (some ⟨w.heap.size + 1, 0, none⟩) 1 1) (spTo S G 0) := by
    have h := own_single (w.alloc (.cells #[.slice ao S.length cap] 28)) (w.heap.size + 1) (by rw [World.size_alloc]; omega) 0
    rw [World.size_alloc] at h
    exact h
  have b1 : Below (w.alloc (.cells #[.slice ao S.length cap] 28)).heap.size (w.alloc (.cells #[.slice ao S.length cap] 28)) ((w.alloc (.cells #[.slice ao S.length cap] 28)).alloc (.cells #[.int .i64 0] 2)) := (Below.refl _ _).alloc (Nat.le_refl _) _
  have c1 := kept_cell b1 c0 l0
  have l1 := lt_of_below b1 l0
  have B1 := B0.alloc B0.size (.cells #[.int .i64 0] 2)
  clear hP hG b1 c0 l0 B0
  go_enter Tryd.func64, Tryd.ntmps64
  go_wp2_with fail
  go_loopw [5, 11] (fun v i wr => ∃ k g c : Nat, k ≤ G.length ∧ i = .int .i64 k ∧ v = .slice (some ⟨g, 0, none⟩) (spTo S G k).length c ∧ OwnInts wr (w.heap.size + 1) (.slice (some ⟨g, 0, none⟩) (spTo S G k).length c) (spTo S G k) ∧ wr.cell? ⟨w.heap.size, 0, none⟩ = some (.slice ao S.length cap) ∧ w.heap.size < wr.heap.size ∧ Below w.heap.size w wr) (fun _ i _ => G.length - (intOf i).toNat)
  case atStart => exact ⟨0, w.heap.size + 1, 1, Nat.zero_le _, rfl, rfl, own0, c1, l1, B1⟩
  case round =>
    clear own0 c1 l1 B1
    obtain ⟨k, g, c, hk, rfl, rfl, own, cs, l, B⟩ := hrel
    obtain ⟨n1, n2⟩ := HL.out k hk
    have hI := own_ints own
    have hs := B.size
    by_cases hlt : k < G.length
    · obtain ⟨b, o, rfl, hbl, hc⟩ := hGI.at hlt
      have hck := kept_cell B (hc k hlt) hbl
      obtain ⟨u1, u2⟩ := HWb.out k hlt
      have hcon := contains_any (some ⟨g, 0, none⟩) (spTo S G k) c (gi G k) (by omega) wr hI
      by_cases hm : gi G k ∈ spTo S G k
      · have HS1 : Hid (spTo S G (k + 1) = spTo S G k) := Lib.hid (by rw [spTo, if_pos hm])
        rw [decide_eq_true hm] at hcon
        obtain ⟨P, hPl⟩ : ∃ P, P = (spTo S G k).length := ⟨_, rfl⟩
        rw [← hPl] at own hcon n1 n2 ⊢
        have HPl := Lib.hid hPl
        clear hm hc hPl hI
        go_wp2_with fail
        refine hcon.mono ?_
        rintro e w2 ⟨rfl, rfl⟩
        go_wp2_with fail
        go_roundw
        case rel => exact ⟨k + 1, g, c, by omega, by go_num, by rw [HS1.out, ← HPl.out], by rw [HS1.out, ← HPl.out]; exact own, cs, l, B⟩
        case measure => simp [intOf]; omega
      · have HS1 : Hid (spTo S G (k + 1) = spW S (spTo S G k) (gi G k)) := Lib.hid (by rw [spTo, if_neg hm])
        rw [decide_eq_false hm] at hcon
        have hg := HGp.out k hk
        have hx0 : gi G k ≠ 0 := fun e => hm (by rw [e]; exact hg.zero)
        have hw := spanWith_any ao S cap HP.out ⟨g, 0, none⟩ (spTo S G k) c n1 n2 hg.wd (gi G k) (HG.out k hlt) hx0 wr (hS.below B) hI
        obtain ⟨P, hPl⟩ : ∃ P, P = (spTo S G k).length := ⟨_, rfl⟩
        rw [← hPl] at own hcon hw n1 n2 ⊢
        have HW := Lib.hid hw
        clear hm hc hPl hI hg hx0 hw
        go_wp2_with fail
        refine hcon.mono ?_
        rintro e w2 ⟨rfl, rfl⟩
        go_wp2_with fail
        refine HW.out.mono ?_
        rintro e w3 ⟨v, rfl, own3, hb3⟩
        rw [← HS1.out] at own3
        have c3 := kept_cell hb3 cs l
        have l3 := lt_of_below hb3 l
        have B3 := B.trans (hb3.mono hs)
        obtain ⟨m1, m2⟩ := HL.out (k + 1) (by omega)
        obtain ⟨g', c', hv, _⟩ := own_some own3 (fun e => by rw [e] at m1; simp at m1)
        subst hv
        have hs1 : w.heap.size + 1 ≤ wr.heap.size := l
        clear own cs l B hcon hck
        go_wp2_with fail
        go_roundw
        case rel => exact ⟨k + 1, g', c', by omega, by go_num, rfl, own3.rebase (by omega), c3, l3, B3⟩
        case measure => simp [intOf]; omega
    · have ek : k = G.length := by omega
      subst ek
      have hsrt := sort_any (w.heap.size + 1) g c (spTo S G G.length) wr (by omega) own
      have HSL := Lib.hid (sorted_len (spTo S G G.length))
      obtain ⟨P, hPl⟩ : ∃ P, P = (spTo S G G.length).length := ⟨_, rfl⟩
      rw [← hPl] at own hsrt n1 n2 ⊢
      have HPl := Lib.hid hPl
      clear hPl hI
      have hgb := own.base_le
      go_wp2_with fail
      refine hsrt.mono ?_
      rintro e w2 ⟨rfl, own2, hg2⟩
      go_wp2_with fail
      go_ret
      exact ⟨g, c, by rw [← HPl.out]; rfl, by rw [← HPl.out]; exact own2.rebase (Nat.le_succ _), B.grown hg2 B.size (by intro z hz; simp at hz; omega)⟩

end Go.Proofs.YtdacokgmcenjoaaDoor
