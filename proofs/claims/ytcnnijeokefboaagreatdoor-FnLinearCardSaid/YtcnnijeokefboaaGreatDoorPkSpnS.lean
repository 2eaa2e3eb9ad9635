/-
  The contract of the model of SpanOf. By an AI agent.
-/
import Derived.Test.YtcnnijeokefboaaGreatDoorMathB
import Derived.Test.YtcnnijeokefboaaGreatDoorPk20
import Derived.Test.YtcnnijeokefboaaGreatDoorPk21
import Derived.Test.YtcnnijeokefboaaGreatDoorPk23
import Derived.Deep.RegionHeld3
namespace Go.Proofs.YtcnnijeokefboaaGreatDoor
open Go.RowKit Cv
set_option linter.unusedVariables false
set_option linter.unusedSimpArgs false
set_option maxRecDepth 100000

theorem own_single0 (w : World) (base : Nat) (h : base ≤ w.heap.size) (x : Int) : OwnInts (w.alloc (.cells #[.int .i64 x] 2)) base (.slice (some ⟨w.heap.size, 0, none⟩) 1 1) [x] :=
  ⟨by simp, .inr ⟨w.heap.size, 1, #[.int .i64 x], rfl, h, heap_alloc_new w _, by simp, by simp [maxLen], by simp, by simp⟩⟩

set_option maxHeartbeats 4000000 in
theorem l05Span_any (ao : Option Addr) (S : List Int) (cap : Nat) (hP : Pl S) (ag : Option Addr) (G : List Int) (capg : Nat) (hlg : G.length ≤ 1048576) (hG : ∀ i, i < G.length → Wd S (gi G i)) (w : World) (hS : Ints w ao S) (hGI : Ints w ag G) :
    Calls Tryz.prog 52 #[.agg #[.slice ao S.length cap], .slice ag G.length capg] w fun e w' => ∃ v, e = .returned v ∧ OwnInts w' w.heap.size v (sorted (spTo S G G.length)) ∧ Below w.heap.size w w' := by
  have HP := Lib.hid hP
  have HG := Lib.hid hG
  have HL := Lib.hid (fun k hk => moL_len hP hG k hk)
  have HM := Lib.hid (fun k hk u => mem_moL (S := S) (G := G) hP hG k hk u)
  have HWb : Hid (∀ i, i < G.length → 0 ≤ gi G i ∧ gi G i ≤ 9223372036854775807) := Lib.hid fun i hi => by have := hG i hi; unfold Wd at this; have := nW_bd hP.sp; omega
  have HMb : Hid (∀ k, k ≤ G.length → ∀ i, i < (moL S G k).length → 0 ≤ gi (moL S G k) i ∧ gi (moL S G k) i ≤ 9223372036854775807) := Lib.hid fun k hk i hi => by
    have h1 := (mem_moL hP hG k hk _).1 (gi_mem hi)
    have := (gp_to hP hG k hk).wd _ h1
    unfold Wd at this; have := nW_bd hP.sp; omega
  have HE : Hid (sorted (spTo S G G.length) = moL S G G.length) := Lib.hid (spTo_sel hP hG _ (Nat.le_refl _))
  have HN := Lib.hid (fun k hk hn => moL_no (S := S) (G := G) hP hG (k := k) hk hn)
  have HNw := Lib.hid (fun k hk hn => nx_wd (S := S) (G := G) hP hG (k := k) hk hn)
  have HQ : Hid (gi S 0 = (qN S : Int) + 1) := Lib.hid (by unfold qN; rcases hP.q with h | h <;> rw [h] <;> rfl)
  have hq2 : qN S = 1 ∨ qN S = 2 := qN_bd hP
  have hlo := hP.sp.lo
  obtain ⟨N1, N2⟩ := nW_bd hP.sp
  obtain ⟨N, hN⟩ : ∃ N : Nat, (nW S).toNat = N := ⟨_, rfl⟩
  have HNN := Lib.hid hN
  have hN2 : N ≤ 1024 := by omega
  obtain ⟨bS, oS, rfl, hbS, hcS⟩ := hS.at (show 0 < S.length by omega)
  have hcS0 := hcS 0 (by omega)
  rw [HQ.out, Nat.add_zero] at hcS0
  have B0 : Below w.heap.size w (w.alloc (.cells #[.slice (some ⟨bS, oS, none⟩) S.length cap] 26)) := by go_grown
  have c0 := cell_new w (.slice (some ⟨bS, oS, none⟩) S.length cap) 26
  have l0 := lt_alloc w (.cells #[.slice (some ⟨bS, oS, none⟩) S.length cap] 26)
  have own0 : OwnInts ((w.alloc (.cells #[.slice (some ⟨bS, oS, none⟩) S.length cap] 26)).alloc (.cells #[.int .i64 0] 2)) (w.heap.size + 1) (.slice (some ⟨w.heap.size + 1, 0, none⟩) 1 1) (moL S G 0) := by
    have h := own_single0 (w.alloc (.cells #[.slice (some ⟨bS, oS, none⟩) S.length cap] 26)) (w.heap.size + 1) (by rw [World.size_alloc]; omega) 0
    rw [World.size_alloc] at h
    rw [moL_0 hP hG]; exact h
  have H1 : Hid ((moL S G 0).length = 1) := Lib.hid (by rw [moL_0 hP hG]; rfl)
  have b1 : Below (w.alloc (.cells #[.slice (some ⟨bS, oS, none⟩) S.length cap] 26)).heap.size (w.alloc (.cells #[.slice (some ⟨bS, oS, none⟩) S.length cap] 26)) ((w.alloc (.cells #[.slice (some ⟨bS, oS, none⟩) S.length cap] 26)).alloc (.cells #[.int .i64 0] 2)) := (Below.refl _ _).alloc (Nat.le_refl _) _
  have c1 := kept_cell b1 c0 l0
  have l1 := lt_of_below b1 l0
  have B1 := B0.alloc B0.size (.cells #[.int .i64 0] 2)
  clear hP hG b1 c0 l0 B0 hcS hN
  go_enter Tryz.func52, Tryz.ntmps52
  go_wp2_with fail
  go_loopw [5, 15] (fun v i wr => ∃ k g c : Nat, k ≤ G.length ∧ i = .int .i64 k ∧ v = .slice (some ⟨g, 0, none⟩) (moL S G k).length c ∧ OwnInts wr (w.heap.size + 1) (.slice (some ⟨g, 0, none⟩) (moL S G k).length c) (moL S G k) ∧ wr.cell? ⟨w.heap.size, 0, none⟩ = some (.slice (some ⟨bS, oS, none⟩) S.length cap) ∧ w.heap.size < wr.heap.size ∧ Below w.heap.size w wr) (fun _ i _ => G.length - (intOf i).toNat)
  case atStart => exact ⟨0, w.heap.size + 1, 1, Nat.zero_le _, rfl, by rw [H1.out], by have h := own0; rw [H1.out]; exact h, c1, l1, B1⟩
  case round =>
    clear own0 c1 l1 B1 H1
    obtain ⟨k, g, c, hk, rfl, rfl, own, cs, l, B⟩ := hrel
    obtain ⟨n1, n2⟩ := HL.out k hk
    have hI := own_ints own
    have hs := B.size
    by_cases hlt : k < G.length
    · obtain ⟨b, o, rfl, hbl, hc⟩ := hGI.at hlt
      have hck := kept_cell B (hc k hlt) hbl
      obtain ⟨u1, u2⟩ := HWb.out k hlt
      have hcon := l01Has_any (some ⟨g, 0, none⟩) (moL S G k) c (gi G k) (by omega) wr hI
      by_cases hm : gi G k ∈ spTo S G k
      · have HS1 : Hid (moL S G (k + 1) = moL S G k) := Lib.hid (moL_yes hm)
        rw [decide_eq_true ((HM.out k hk _).2 hm)] at hcon
        obtain ⟨P, hPl⟩ : ∃ P, P = (moL S G k).length := ⟨_, rfl⟩
        rw [← hPl] at own hcon n1 n2 ⊢
        have HPl := Lib.hid hPl
        clear hm hc hPl hI
        go_wp2_with fail
        refine hcon.mono ?_
        rintro e w2 ⟨rfl, rfl⟩
        go_wp2_with fail
        go_roundw
        case rel => exact ⟨k + 1, g, c, by omega, by go_num, by rw [HS1.out, ← HPl.out], by rw [HS1.out, ← HPl.out]; exact own, cs, l, B⟩
        case measure => simp [intOf]; omega
      · have HNO := Lib.hid (HN.out k hlt hm)
        have HNWd := Lib.hid (HNw.out k hlt hm)
        rw [decide_eq_false (fun h => hm ((HM.out k hk _).1 h))] at hcon
        obtain ⟨x, hx⟩ : ∃ x, x = gi G k := ⟨_, rfl⟩
        obtain ⟨M, hMM⟩ : ∃ M, M = moL S G k := ⟨_, rfl⟩
        have HXw : Hid (Wd S x) := Lib.hid (by rw [hx]; exact HG.out k hlt)
        have HMi := Lib.hid (HMb.out k hk)
        rw [← hx, ← hMM] at HNO HNWd
        have hcw := hc k hlt
        rw [← hx] at hck u1 u2 hcw
        rw [← hMM] at own hI n1 n2 HMi
        rw [← hx, ← hMM] at hcon
        rw [← hMM]
        obtain ⟨P, hPl⟩ : ∃ P, P = M.length := ⟨_, rfl⟩
        rw [← hPl] at own hcon n1 n2 ⊢
        have HPl := Lib.hid hPl
        have HOs := Lib.hid (fun j => ownW_step HP.out.sp HXw.out j)
        have HOw : Hid (∀ j, 0 ≤ ownW S x j ∧ ownW S x j ≤ 9223372036854775807) := Lib.hid fun j => by have := ownW_wd HP.out.sp HXw.out j; unfold Wd at this; omega
        have hoc := l01Own_any ⟨g, 0, none⟩ M P c hPl (by omega) wr hI
        clear hm hc hI hx hMM hPl
        go_wp2_with fail
        refine hcon.mono ?_
        rintro e w2 ⟨rfl, rfl⟩
        go_wp2_with fail
        refine hoc.mono ?_
        rintro e w2 ⟨g2, c2, rfl, ownN, hb2⟩
        have hW0 : ∃ W0, W0 = wr := ⟨_, rfl⟩
        obtain ⟨W0, hW0⟩ := hW0
        subst hW0
        have hgW := own.base_le
        have BN := hb2
        have ownN3 : OwnInts w2 W0.heap.size (.slice (some ⟨g2, 0, none⟩) P c2) (nxL S M x 0) := ownN
        have HSH : Hid (∀ (W : World) (y : Int), 0 ≤ y ∧ y ≤ 9223372036854775807 → Ints W (some ⟨bS, oS, none⟩) S → Ints W (some ⟨g, 0, none⟩) M → Calls Tryz.prog 104 #[.agg #[.slice (some ⟨bS, oS, none⟩) S.length cap], .slice (some ⟨g, 0, none⟩) P c, .int .i64 y] W fun e w' => ∃ v, e = .returned v ∧ OwnInts w' W.heap.size v (putTo [] (fun i => sumW S (gi M i) y) M.length) ∧ Below W.heap.size W w') := Lib.hid fun W y hy h1 h2 => by
          have h := shifted_any (some ⟨bS, oS, none⟩) S cap HP.out.sp ⟨g, 0, none⟩ M c (by rw [← HPl.out]; omega) HMi.out y hy W h1 h2
          rw [← HPl.out] at h ⊢; exact h
        clear ownN hb2 hcon hoc hck
        go_wp2_with fail
        go_loopw [7, 8, 9] (fun v ow m wi => ∃ j : Nat, j ≤ qN S ∧ m = .int .i64 ((j : Int) + 1) ∧ ow = .int .i64 (ownW S x j) ∧ OwnInts wi W0.heap.size v (nxL S M x j) ∧ Below W0.heap.size W0 wi) (fun _ _ m _ => 4 - (intOf m).toNat)
        case atStart => exact ⟨0, Nat.zero_le _, rfl, rfl, ownN3, BN⟩
        case round =>
          clear ownN3 BN
          obtain ⟨j, hj, rfl, rfl, ownX, BW⟩ := hrel
          have B2 := B.trans (BW.mono hs)
          have hq0 := kept_cell B2 hcS0 hbS
          have cs2 := kept_cell BW cs l
          have l2 := lt_of_below BW l
          have ownM := own_acr own BW hgW.2
          have hMI := own_ints ownM
          have hs2 := BW.size
          by_cases hlj : j < qN S
          · have hck := kept_cell B2 hcw hbl
            obtain ⟨o1, o2⟩ := HOw.out j
            have e3 : ((j : Int) + 1 < (qN S : Int) + 1) := by omega
            have hbw : b < wr.heap.size := lt_of_below B2 hbl
            go_wp2_with fail
            go_region_held3 (fun w' => w'.cell? ⟨w.heap.size, 0, none⟩ = some (.slice (some ⟨bS, oS, none⟩) S.length cap) ∧ w'.cell? ⟨b, o + k, none⟩ = some (.int .i64 x)) (first | exact ⟨cs2, hck⟩ | exact ⟨k2, m2⟩) (first | (go_at_call 87; refine (l01Sum_any (some ⟨bS, oS, none⟩) S cap HP.out.sp (ownW S x j) x o1 o2 u1 u2 _ (hS.below B2.drew)).mono ?_; rintro e w4 ⟨rfl, hb4'⟩; have hb4 : Below wr.heap.size wr w4 := (Below.refl _ wr).drew.trans hb4'; have k2 := kept_cell hb4 cs2 l2; have m2 := kept_cell hb4 hck hbw))
            have own4 := ownX.below hb4
            have BW4 := BW.trans (hb4.mono hs2)
            have ownM4 := own_acr own BW4 hgW.2
            have hMI4 := own_ints ownM4
            have B4 := B.trans (BW4.mono hs)
            have s4 := BW4.size
            have hy : 0 ≤ ownW S x (j + 1) ∧ ownW S x (j + 1) ≤ 9223372036854775807 := HOw.out (j + 1)
            have HY := Lib.hid (HOs.out j)
            have hsh := HSH.out w4 (ownW S x (j + 1)) hy (hS.below B4) hMI4
            have HSH4 := Lib.hid hsh
            have HX : Hid (∀ T, T = putTo [] (fun i => sumW S (gi M i) (ownW S x (j + 1))) M.length → nxL S M x j ++ T = nxL S M x (j + 1)) := Lib.hid fun T hT => by rw [hT]; rfl
            have hne : putTo [] (fun i => sumW S (gi M i) (ownW S x (j + 1))) M.length ≠ [] := fun h => by
              have h2 := (mem_putTo [] (fun i => sumW S (gi M i) (ownW S x (j + 1))) M.length (sumW S (gi M 0) (ownW S x (j + 1)))).2 (.inr ⟨0, by rw [← HPl.out]; omega, rfl⟩)
              rw [h] at h2; simp at h2
            have hTl : (putTo [] (fun i => sumW S (gi M i) (ownW S x (j + 1))) M.length).length ≤ P := by
              have h := putTo_len [] (fun i => sumW S (gi M i) (ownW S x (j + 1))) M.length
              have h2 := HPl.out
              rw [List.length_nil] at h; omega
            have hXl := nxL_len S M x j
            rw [← HPl.out] at hXl
            have hXl2 : (j + 1) * P ≤ 3 * 1024 := Nat.mul_le_mul (by omega) n2
            clear hsh hb4 ownX ownM hMI hMI4 ownM4 k2 m2 hck cs2 hq0
            obtain ⟨y, hyy⟩ : ∃ y, y = ownW S x (j + 1) := ⟨_, rfl⟩
            obtain ⟨T, hT⟩ : ∃ T, T = putTo [] (fun i => sumW S (gi M i) y) M.length := ⟨_, rfl⟩
            rw [← hyy] at HY HSH4 HX hne hTl hy
            rw [← hT] at HSH4 hne hTl HX
            rw [HY.out]
            have HXT := Lib.hid (HX.out T rfl)
            have HYY := Lib.hid hyy
            clear hyy HX hT
            have k4 := kept_cell BW4 cs l
            have l4 := lt_of_below BW4 l
            go_wp2_with fail
            refine HSH4.out.mono ?_
            rintro e w5 ⟨vT, rfl, ownT, hb5⟩
            obtain ⟨g5, c5, hv, _⟩ := own_some ownT hne
            obtain ⟨K, hK⟩ : ∃ K, K = T.length := ⟨_, rfl⟩
            rw [← hK] at hv hTl
            subst hv
            have hTI := own_ints ownT
            have own5 := own4.below hb5
            have BW5 := BW4.trans (hb5.mono s4)
            have s5 := BW5.size
            have HK := Lib.hid hK
            clear hK own4 BW4 hb5 B4 k4
            go_wp2_with (at_builtin; refine wpList_append_ints rfl _ _ rfl W0.heap.size _ _ rfl own5 ⟨g5, 0, none⟩ T K c5 HK.out rfl hTI (by omega) s5 ?_; intro v' w6 hown' hgrow hnil)
            have BW6 := grown_below BW5 s5 hgrow own5 (Nat.le_refl _)
            go_wp2_with fail
            go_roundw
            case rel => exact ⟨j + 1, by omega, by go_num, by rw [HYY.out], by rw [← HXT.out]; exact hown', BW6⟩
            case measure => simp [intOf]; omega
          · have ej : j = qN S := by omega
            subst ej
            have e3 : ¬ ((qN S : Int) + 1 < (qN S : Int) + 1) := by omega
            obtain ⟨an, cn, hv, hIn⟩ := ownX.ints
            subst hv
            have hXl := nxL_len S M x (qN S)
            rw [← HPl.out] at hXl
            have hXl2 : (qN S + 1) * P ≤ 3 * 1024 := Nat.mul_le_mul (by omega) n2
            obtain ⟨X, hX⟩ : ∃ X, X = nxL S M x (qN S) := ⟨_, rfl⟩
            rw [← hX] at hIn hXl ⊢
            rw [← hX] at HNO HNWd ownX
            obtain ⟨XL, hXL⟩ : ∃ XL, XL = X.length := ⟨_, rfl⟩
            have HXL := Lib.hid hXL
            rw [← hXL] at hXl ⊢
            have hset := fun (W : World) (h1 : Ints W (some ⟨bS, oS, none⟩) S) (h2 : Ints W an X) => l05Set_any (some ⟨bS, oS, none⟩) S cap HP.out.sp an X cn (by omega) HNWd.out W h1 h2
            rw [← hXL, HNN.out] at hset
            have HSET := Lib.hid hset
            clear hset hX hXL hMI ownM ownX
            have hs2 := BW.size
            have Ba := BW.alloc hs2 (.cells #[] 2)
            have B3 := B.trans (Ba.mono hs)
            have hIn3 : Ints (wr.alloc (.cells #[] 2)) an X := hIn.below ((Below.refl _ _).alloc (Nat.le_refl _) _)
            have o0 := own_empty wr wr.heap.size (Nat.le_refl _) rfl
            have hst := HSET.out _ (hS.below B3) hIn3
            have HST := Lib.hid hst
            obtain ⟨p, hp⟩ : ∃ p, p = wr.heap.size := ⟨_, rfl⟩
            clear hst hIn3 hIn HSET
            go_wp2_with fail
            refine HST.out.mono ?_
            rintro e w6 ⟨g6, rfl, ownB, hb6⟩
            have o6 := o0.below hb6
            have B6 := Ba.trans (hb6.mono Ba.size)
            have hgB := ownB.base_le
            rw [World.size_alloc] at hgB
            have sp6 : p + 1 ≤ w6.heap.size := by have := hb6.size; rw [World.size_alloc] at this; omega
            have HBc : Hid (∀ i, i < N → w6.cell? ⟨g6, i, none⟩ = some (.bool (inL X i))) := Lib.hid fun i hi => by
              have h := ownB.cell (k := i) (by simpa using hi)
              have e : gb ((List.range N).map (inL X)) i = inL X i := by simp [gb, hi]
              rw [e] at h; exact h
            have b7 : Below p w6 w6 := Below.refl _ _
            rw [← hp] at o6 hgB ⊢
            have hpW : W0.heap.size ≤ p := by omega
            clear o0 Ba hb6 ownB B3 HST hp
            go_wp2_with fail
            go_loopw [5, 53] (fun vo i wi => ∃ m : Nat, m ≤ N ∧ i = .int .i64 m ∧ OwnInts wi p vo (selL (inL X) m) ∧ vo.ownBlock ≠ some g6 ∧ wi.heap[g6]? = w6.heap[g6]? ∧ w6.heap.size ≤ wi.heap.size ∧ Below p w6 wi) (fun _ i _ => N - (intOf i).toNat)
            case atStart => exact ⟨0, Nat.zero_le _, rfl, o6, by simp [Value.ownBlock]; omega, rfl, Nat.le_refl _, b7⟩
            case round =>
              clear o6 b7
              obtain ⟨m, hm, rfl, oo, nb, HB, hsz, B7⟩ := hrel
              by_cases hlm : m < N
              · have hcb : wr.cell? ⟨g6, m, none⟩ = some (.bool (inL X m)) := (World.cell?_of_block HB).trans (HBc.out m hlm)
                have hselL := selL_len (inL X) m
                have e4 : (m : Int) < (N : Int) := by omega
                have e5 : (0 : Int) ≤ (m : Int) := by omega
                cases hq : inL X m with
                | true =>
                  rw [hq] at hcb
                  have H2 : Hid (selL (inL X) (m + 1) = selL (inL X) m ++ [(m : Int)]) := Lib.hid (by rw [selL_succ, if_pos hq])
                  have E0 : IntKind.i64.wrap (m : Int) = (m : Int) := IntWalk.i64_in _ ⟨by omega, by omega⟩
                  clear hq
                  go_wp2_with (at_builtin; refine wpList_append_int_at rfl _ _ rfl p _ _ rfl (oo.alloc _) wr.heap.size _ rfl (cell_new _ _ _) (by omega) (by rw [World.size_alloc]; omega) ?_; intro v' w8 hown' hgrow hat)
                  have B8 := grown_below (B7.alloc (by omega) _) (by rw [World.size_alloc]; omega) hgrow (oo.alloc _) (Nat.le_refl _)
                  have HB8 : w8.heap[g6]? = w6.heap[g6]? := by rw [hgrow.block g6 (by simp; omega) (fun e => nb e.symm), Below.heap_alloc _ _ _ (by omega)]; exact HB
                  have hsz8 : w6.heap.size ≤ w8.heap.size := by have := hgrow.size; simp at this; omega
                  have n8 : v'.ownBlock ≠ some g6 := by
                    rcases hat with h | h
                    · rw [h]; exact nb
                    · rw [h]; simp; omega
                  clear hgrow hat oo hcb
                  go_wp2_with fail
                  go_roundw
                  case rel => exact ⟨m + 1, by omega, by go_num, by rw [H2.out]; exact hown', n8, HB8, hsz8, B8⟩
                  case measure => simp [intOf]; omega
                | false =>
                  rw [hq] at hcb
                  have H2 : Hid (selL (inL X) (m + 1) = selL (inL X) m) := Lib.hid (by rw [selL_succ, if_neg (by rw [hq]; decide), List.append_nil])
                  clear hq
                  go_wp2_with fail
                  go_roundw
                  case rel => exact ⟨m + 1, by omega, by go_num, by rw [H2.out]; exact oo, nb, HB, hsz, B7⟩
                  case measure => simp [intOf]; omega
              · have em : m = N := by omega
                subst em
                have HNO2 : Hid (selL (inL X) m = moL S G (k + 1)) := Lib.hid (by rw [← HNN.out]; exact HNO.out)
                rw [HNO2.out] at oo
                have BW7 : Below W0.heap.size W0 wr := B6.trans (B7.mono hpW)
                have B9 := B.trans (BW7.mono hs)
                have k9 := kept_cell BW7 cs l
                have l9 := lt_of_below BW7 l
                obtain ⟨m1, m2⟩ := HL.out (k + 1) (by omega)
                obtain ⟨g', c', hv, _⟩ := own_some oo (fun e => by rw [e] at m1; simp at m1)
                subst hv
                have e4 : ¬ ((m : Int) < (m : Int)) := by omega
                clear B6 B7 BW7 BW B2 HB hsz nb
                go_wp2_with fail
                go_roundw
                case rel => exact ⟨k + 1, g', c', by omega, by go_num, rfl, oo.rebase (by omega), k9, l9, B9⟩
                case measure => simp [intOf]; omega
    · have ek : k = G.length := by omega
      subst ek
      have e4 : ¬ ((G.length : Int) < (G.length : Int)) := by omega
      go_wp2_with fail
      go_ret
      exact ⟨_, rfl, by rw [HE.out]; exact own.rebase (Nat.le_succ _), B⟩

theorem l05Words_any (ao : Option Addr) (S : List Int) (cap : Nat) (hn : S.length ≤ 4294967296) (ag : Option Addr) (G : List Int) (capg : Nat) (hng : G.length ≤ 4294967296) (w : World) (hS : Ints w ao S) (hG : Ints w ag G) :
    Calls Tryz.prog 51 #[.agg #[.slice ao S.length cap], .slice ag G.length capg] w fun e w' => e = .returned (.int .i64 (eSpan S G)) ∧ Below w.heap.size w w' := by
  have B0 : Below w.heap.size w (w.alloc (.cells #[.slice ao S.length cap] 26)) := by go_grown
  have c0 := cell_new w (.slice ao S.length cap) 26
  have l0 := lt_alloc w (.cells #[.slice ao S.length cap] 26)
  by_cases hz : eWords S G = 0
  · have hzn : (eWords S G != 0) = false := by simp [hz]
    by_cases h20 : 20 < G.length
    · have HE := Lib.hid (eSpan_many hz h20)
      clear hz
      go_enter Tryz.func51, Tryz.ntmps51
      go_wp2_with fail
      refine (l01Words_any ao S cap hn ag G capg hng _ (hS.below B0) (hG.below B0)).mono ?_
      rintro e w1 ⟨rfl, hb⟩
      go_wp2_with fail
      go_ret
      exact ⟨ret_int HE.out.symm, B0.trans (hb.mono B0.size)⟩
    · have h21 : ¬ 20 < G.length := h20
      have HE : Hid (eSpan S G = if isPl S = true then 0 else 5) := Lib.hid (by unfold eSpan; rw [if_pos hz, if_neg h20])
      clear hz
      cases hp : isPl S with
      | true =>
        rw [hp] at HE
        go_enter Tryz.func51, Tryz.ntmps51
        go_wp2_with fail
        refine (l01Words_any ao S cap hn ag G capg hng _ (hS.below B0) (hG.below B0)).mono ?_
        rintro e w1 ⟨rfl, hb⟩
        have c1 := kept_cell hb c0 l0
        have B1 := B0.trans (hb.mono B0.size)
        clear hb c0 l0 B0
        go_wp2_with fail
        refine (l05Plain_any ao S cap hn _ (hS.below B1)).mono ?_
        rw [hp]
        rintro e w2 ⟨rfl, hb2⟩
        go_wp2_with fail
        go_ret
        exact ⟨ret_int HE.out.symm, B1.trans (hb2.mono B1.size)⟩
      | false =>
        rw [hp] at HE
        go_enter Tryz.func51, Tryz.ntmps51
        go_wp2_with fail
        refine (l01Words_any ao S cap hn ag G capg hng _ (hS.below B0) (hG.below B0)).mono ?_
        rintro e w1 ⟨rfl, hb⟩
        have c1 := kept_cell hb c0 l0
        have B1 := B0.trans (hb.mono B0.size)
        clear hb c0 l0 B0
        go_wp2_with fail
        refine (l05Plain_any ao S cap hn _ (hS.below B1)).mono ?_
        rw [hp]
        rintro e w2 ⟨rfl, hb2⟩
        go_wp2_with fail
        go_ret
        exact ⟨ret_int HE.out.symm, B1.trans (hb2.mono B1.size)⟩
  · have hzn : (eWords S G != 0) = true := by simpa using hz
    have HE := Lib.hid (eSpan_bad hz)
    clear hz
    go_enter Tryz.func51, Tryz.ntmps51
    go_wp2_with fail
    refine (l01Words_any ao S cap hn ag G capg hng _ (hS.below B0) (hG.below B0)).mono ?_
    rintro e w1 ⟨rfl, hb⟩
    go_wp2_with fail
    go_ret
    exact ⟨ret_int HE.out.symm, B0.trans (hb.mono B0.size)⟩

theorem spec_SpanOf (ao : Option Addr) (S : List Int) (cap : Nat) (hn : S.length ≤ 4294967296) (ag : Option Addr) (G : List Int) (capg : Nat) (hng : G.length ≤ 4294967296) (w : World) (hS : Ints w ao S) (hG : Ints w ag G) :
    Calls Tryz.prog 8 #[.agg #[.slice ao S.length cap], .slice ag G.length capg] w fun e w' => ∃ v, e = .returned (.tuple #[v, .int .i64 (eSpan S G)]) ∧ OwnInts w' w.heap.size v (vSpan S G) ∧ Below w.heap.size w w' := by
  have B0 : Below w.heap.size w (w.alloc (.cells #[.slice ao S.length cap] 26)) := by go_grown
  have c0 := cell_new w (.slice ao S.length cap) 26
  have l0 := lt_alloc w (.cells #[.slice ao S.length cap] 26)
  have hpe := l05Words_any ao S cap hn ag G capg hng _ (hS.below B0) (hG.below B0)
  by_cases hz : eSpan S G = 0
  · obtain ⟨h1, h2, h3⟩ := eSpan_zero hz
    obtain ⟨hSp, hw⟩ := eWords_zero h1
    have HP := Lib.hid (pl_of hSp h3)
    have HWd : Hid (∀ i, i < G.length → Wd S (gi G i)) := Lib.hid hw
    have HV : Hid (vSpan S G = sorted (spTo S G G.length)) := Lib.hid (by unfold vSpan; rw [if_pos hz])
    have hzn : (eSpan S G != 0) = false := by simp [hz]
    have HZ := Lib.hid hz
    clear h1 h3 hSp hw hz
    go_enter Tryz.func8, Tryz.ntmps8
    go_wp2_with fail
    refine hpe.mono ?_
    rintro e w1 ⟨rfl, hb⟩
    have c1 := kept_cell hb c0 l0
    have B1 : Below w.heap.size w w1 := B0.trans (hb.mono B0.size)
    have s1 := B1.size
    clear hb B0 c0 l0 hpe
    go_wp2_with fail
    refine (l05Span_any ao S cap HP.out ag G capg (by omega) HWd.out _ (hS.below B1) (hG.below B1)).mono ?_
    rintro e w2 ⟨v, rfl, own, hb⟩
    go_wp2_with fail
    go_ret2
    exact ⟨_, by rw [HZ.out]; rfl, by rw [HV.out]; exact own.rebase s1, B1.trans (hb.mono s1)⟩
  · have hzn : (eSpan S G != 0) = true := by simpa using hz
    have HV : Hid (vSpan S G = []) := Lib.hid (by unfold vSpan; rw [if_neg hz])
    clear hz
    go_enter Tryz.func8, Tryz.ntmps8
    go_wp2_with fail
    refine hpe.mono ?_
    rintro e w1 ⟨rfl, hb⟩
    go_wp2_with fail
    go_ret2
    exact ⟨_, rfl, by rw [HV.out]; exact own_nil _ _, B0.trans (hb.mono B0.size)⟩

end Go.Proofs.YtcnnijeokefboaaGreatDoor
