/-
  The contract of the model's list of leaders. By an AI agent.
-/
import Derived.Test.YthinedjblpgalaaDoorMath31
import Derived.Test.YthinedjblpgalaaDoorNrS
import Derived.Test.YthinedjblpgalaaDoorBool
import Derived.Test.YthinedjblpgalaaDoorPut
namespace Go.Proofs.YthinedjblpgalaaDoor
open Go.RowKit Cv
set_option linter.unusedVariables false
set_option linter.unusedSimpArgs false
set_option maxRecDepth 100000

theorem gi_app2 (K L : List Int) (m : Nat) (h : m < L.length) : gi (K ++ L) (K.length + m) = gi L m := by
  rw [gi_lt _ _ (by simp; omega), gi_lt _ _ h, List.getElem_append_right (by omega)]
  simp
theorem gb_in (K : List Int) (N k : Nat) (h : k < N) : gb ((List.range N).map (inL K)) k = inL K k := by simp [gb, h]
theorem marks_0 (N : Nat) : (List.range N).map (inL []) = List.replicate N false := by
  rw [← marB_0 [] N]; exact (marB_all [] N).symm

set_option maxHeartbeats 4000000 in
theorem l05Leaders_any (ao : Option Addr) (S : List Int) (cap : Nat) (hP : Pl S) (ac : Addr) (C : List Int) (capc : Nat) (hg : Gp S C) (hl : C.length ≤ 1024) (w : World) (hS : Ints w ao S) (hCI : Ints w (some ac) C) :
    Calls Tryd.prog 29 #[.agg #[.slice ao S.length cap], .slice (some ac) C.length capc] w fun e w' => ∃ g c, e = .returned (.slice (some ⟨g, 0, none⟩) (ldsM S C (nW S).toNat).length c) ∧ OwnInts w' w.heap.size (.slice (some ⟨g, 0, none⟩) (ldsM S C (nW S).toNat).length c) (ldsM S C (nW S).toNat) ∧ Below w.heap.size w w' := by
  obtain ⟨i0, hi, hz0, hz1, hz2⟩ := info_parts infoBool
  obtain ⟨N1, N2⟩ := nW_bd hP.sp
  have hhi := hP.sp.hi
  have hl1 : 1 ≤ C.length := List.length_pos_of_mem hg.zero
  have HC9 : Hid (∀ i, i < C.length → 0 ≤ gi C i ∧ gi C i ≤ 9223372036854775807) := Lib.hid fun i hi => by have := hg.wd _ (gi_mem hi); unfold Wd at this; omega
  obtain ⟨N, hN⟩ : ∃ N : Nat, nW S = (N : Int) := ⟨(nW S).toNat, by omega⟩
  have hN2 : (nW S).toNat = N := by omega
  have HN := Lib.hid hN
  have HNp : Hid (prodTo S S.length = (N : Int)) := Lib.hid hN
  rw [hN] at N1 N2
  rw [hN2]
  have HSp := Lib.hid hP.sp
  have HLW : Hid (∀ x, 0 ≤ ldr S C x ∧ ldr S C x ≤ 9223372036854775807) := Lib.hid fun x => by have := ldr_wd hP hg x; unfold Wd at this; have := nW_bd hP.sp; omega
  have HLN : Hid (∀ k, (ldsM S C k).length ≤ k) := Lib.hid fun k => ldsM_len S C k
  have HTw : Hid (∀ x y, y ∈ putTo [] (fun i => sumW S (gi C i) x) C.length → 0 ≤ y ∧ y < (N : Int)) := Lib.hid fun x y hy => by
    obtain ⟨u, _, rfl⟩ := (mem_shL _ _ _ _).1 ((mem_class x y).1 hy)
    have := wd_sum hP.sp u x; unfold Wd at this; rw [hN] at this; exact this
  have B0 : Below w.heap.size w (w.alloc (.cells #[.slice ao S.length cap] 28)) := by go_grown
  have c0 := cell_new w (.slice ao S.length cap) 28
  have l0 := lt_alloc w (.cells #[.slice ao S.length cap] 28)
  clear hP hg hN hN2
  go_enter Tryd.func29, Tryd.ntmps29
  go_wp2_with fail
  refine (l01N_any ao S cap _ hhi HSp.out.bd (hS.below B0)).mono ?_
  rintro e w1 ⟨rfl, hb⟩
  rw [HNp.out]
  have c1 := kept_cell hb c0 l0
  have l1 := lt_of_below hb l0
  have B1 : Below w.heap.size w w1 := B0.trans (hb.mono B0.size)
  have s1 := B1.size
  clear hb B0 c0 l0
  go_wp2_with (at_make; refine wpList_make_full _ rfl _ _ 69 rfl w1.heap.size 4 i0 (.bool false) 1 Tryd.underlying69 hi hz0 hz1 .i64 .i64 (N : Int) (N : Int) N rfl rfl rfl rfl (by rw [hz2]; omega) (by unfold maxLen; omega) (Nat.le_refl _) ?_; intro w2 hown hgrow)
  have hb2 := below_grown0 hgrow
  have B2 : Below w.heap.size w w2 := B1.trans (hb2.mono s1)
  replace hown := ownb_made hown
  rw [← marks_0] at hown
  have q2 := hown.base_le.2
  have c2 := kept_cell hb2 c1 l1
  have hown3 := hown.alloc (.cells #[] 2)
  have oo := own_empty w2 (w1.heap.size + 1) (by omega) rfl
  have b3 : Below w2.heap.size w2 (w2.alloc (.cells #[] 2)) := (Below.refl _ _).alloc (Nat.le_refl _) _
  have c3 := kept_cell b3 c2 (by omega)
  have B3 := B2.trans (b3.mono B2.size)
  clear hgrow hb2 hown c1 c2 b3 B1 B2
  go_loopw [6, 7] (fun v i wr => ∃ k g c : Nat, k ≤ N ∧ i = .int .i64 k ∧ v = .slice (some ⟨g, 0, none⟩) (ldsM S C k).length c ∧ OwnInts wr (w1.heap.size + 1) (.slice (some ⟨g, 0, none⟩) (ldsM S C k).length c) (ldsM S C k) ∧ OwnBools wr w1.heap.size (.slice (some ⟨w1.heap.size, 0, none⟩) N N) ((List.range N).map (inL (knTo S C k))) ∧ wr.cell? ⟨w.heap.size, 0, none⟩ = some (.slice ao S.length cap) ∧ Below w.heap.size w wr) (fun _ i _ => N - (intOf i).toNat)
  case atStart => exact ⟨0, w2.heap.size, 0, Nat.zero_le _, rfl, rfl, oo, hown3, c3, B3⟩
  case round =>
    clear oo hown3 c3 B3 q2
    obtain ⟨k, g, c, hk, rfl, rfl, own, ownB, cs, B⟩ := hrel
    have hgW := own.base_le
    have hcall := l01N_sp ao S cap wr HSp.out (hS.below B)
    rw [HN.out] at hcall
    obtain ⟨P, hPl⟩ : ∃ P, P = (ldsM S C k).length := ⟨_, rfl⟩
    have hPN : P ≤ k := by rw [hPl]; exact HLN.out k
    rw [← hPl] at own ⊢
    have HPl := Lib.hid hPl
    clear hPl
    by_cases hlt : k < N
    · have hltI : (k : Int) < (N : Int) := by omega
      have i1 : (0 : Int) ≤ (k : Int) := by omega
      by_cases hm : (k : Int) ∈ knTo S C k
      · have HY := Lib.hid (kn_yes hm)
        have hgb : gb ((List.range N).map (inL (knTo S C k))) k = true := by rw [gb_in _ _ _ hlt]; exact decide_eq_true hm
        clear hm
        go_wp2_with fail
        refine hcall.mono ?_
        rintro e w4 ⟨rfl, hb4⟩
        have own4 := own.below hb4
        have ownB4 := ownB.below hb4
        have c4 := kept_cell hb4 cs (by omega)
        have B4 := B.trans (hb4.mono B.size)
        have hck := ownB4.cell (k := k) (by simpa using hlt)
        rw [hgb] at hck
        clear hb4 hcall own ownB cs B hgb
        go_wp2_with fail
        go_roundw
        case rel => exact ⟨k + 1, g, c, by omega, by go_num, by rw [HY.out.2.2, HPl.out], by rw [HY.out.2.2, ← HPl.out]; exact own4, by rw [HY.out.1]; exact ownB4, c4, B4⟩
        case measure => simp [intOf]; omega
      · have HY := Lib.hid (kn_no hm)
        have HM := Lib.hid (fun (T : List Int) h => known_marks (S := S) (C := C) (L := T) hm h N)
        have hgb : gb ((List.range N).map (inL (knTo S C k))) k = false := by rw [gb_in _ _ _ hlt]; exact decide_eq_false hm
        have HSH := Lib.hid (fun (W : World) (h1 : Ints W ao S) (h2 : Ints W (some ac) C) => shifted_any ao S cap HSp.out ac C capc hl HC9.out (k : Int) ⟨by omega, by omega⟩ W h1 h2)
        have HLL := Lib.hid (fun (W : World) (h1 : Ints W ao S) (h2 : Ints W (some ac) C) => l05Leader_any ao S cap HSp.out ac C capc hl1 hl HC9.out (k : Int) ⟨by omega, by omega⟩ W h1 h2)
        have HT : Hid (∀ y, y ∈ putTo [] (fun i => sumW S (gi C i) (k : Int)) C.length ↔ y ∈ shL S C (k : Int)) := Lib.hid fun y => mem_class (k : Int) y
        have HTb := Lib.hid (HTw.out (k : Int))
        have hne : putTo [] (fun i => sumW S (gi C i) (k : Int)) C.length ≠ [] := fun h => by
          have h2 := (mem_putTo [] (fun i => sumW S (gi C i) (k : Int)) C.length (sumW S (gi C 0) (k : Int))).2 (.inr ⟨0, by omega, rfl⟩)
          rw [h] at h2; simp at h2
        have hTl := putTo_len [] (fun i => sumW S (gi C i) (k : Int)) C.length
        rw [List.length_nil, Nat.zero_add] at hTl
        obtain ⟨T, hTT⟩ : ∃ T, T = putTo [] (fun i => sumW S (gi C i) (k : Int)) C.length := ⟨_, rfl⟩
        rw [← hTT] at HSH HT HTb hne hTl
        have HMT := Lib.hid (HM.out T HT.out)
        obtain ⟨x, hx⟩ : ∃ x, x = ldr S C (k : Int) := ⟨_, rfl⟩
        have hxb : 0 ≤ x ∧ x ≤ 9223372036854775807 := by rw [hx]; exact HLW.out _
        rw [← hx] at HLL HY
        have HNE := Lib.hid hne
        clear hm HM HTw HT hne hTT hx
        go_wp2_with fail
        refine hcall.mono ?_
        rintro e w4 ⟨rfl, hb4⟩
        have own4 := own.below hb4
        have ownB4 := ownB.below hb4
        have c4 := kept_cell hb4 cs (by omega)
        have B4 := B.trans (hb4.mono B.size)
        have hck := ownB4.cell (k := k) (by simpa using hlt)
        rw [hgb] at hck
        have hg4 := own4.base_le
        clear hb4 hcall own ownB cs B hgb
        go_wp2_with fail
        refine (HSH.out w4 (hS.below B4) (hCI.below B4)).mono ?_
        rintro e w5 ⟨v, rfl, ownT, hb5⟩
        obtain ⟨g5, c5, hv, _⟩ := own_some ownT HNE.out
        obtain ⟨Q, hQ⟩ : ∃ Q, Q = T.length := ⟨_, rfl⟩
        have hQ2 : Q ≤ 1024 := by omega
        rw [← hQ] at hv
        subst hv
        have HQ := Lib.hid hQ
        have own5 := own4.below hb5
        have ownB5 := ownB4.below hb5
        have cs5 := kept_cell hb5 c4 (by omega)
        have B5 := B4.trans (hb5.mono B4.size)
        have ownT5 : OwnInts w5 (w1.heap.size + 1) (.slice (some ⟨g5, 0, none⟩) Q c5) T := ownT.rebase (by omega)
        have hTn := (own_ints ownT)
        have hm0 : OwnBools w5 w1.heap.size (.slice (some ⟨w1.heap.size, 0, none⟩) N N) (marB (knTo S C k ++ T) N ((knTo S C k).length + 0)) := by
          have e : marB (knTo S C k ++ T) N ((knTo S C k).length + 0) = (List.range N).map (inL (knTo S C k)) := by
            rw [← marB_all]; unfold marB; rw [Nat.add_zero, List.take_left, List.take_length]
          rw [e]; exact ownB5
        clear ownT ownB5 ownB4 own4 c4 B4 hb5 hck hQ hTn HSH
        go_wp2_with fail
        go_loopw [30] (fun i wi => ∃ m : Nat, m ≤ Q ∧ i = .int .i64 m ∧ OwnBools wi w1.heap.size (.slice (some ⟨w1.heap.size, 0, none⟩) N N) (marB (knTo S C k ++ T) N ((knTo S C k).length + m)) ∧ OwnInts wi (w1.heap.size + 1) (.slice (some ⟨g5, 0, none⟩) Q c5) T ∧ OwnInts wi (w1.heap.size + 1) (.slice (some ⟨g, 0, none⟩) P c) (ldsM S C k) ∧ wi.cell? ⟨w.heap.size, 0, none⟩ = some (.slice ao S.length cap) ∧ Below w.heap.size w wi) (fun i _ => Q - (intOf i).toNat)
        case atStart => exact ⟨0, Nat.zero_le _, rfl, hm0, ownT5, own5, cs5, B5⟩
        case round =>
          clear hm0 ownT5 own5 cs5 B5
          obtain ⟨m, hm, rfl, ownB, ownT, own, cs, B⟩ := hrel
          by_cases hlm : m < Q
          · have hmT : m < T.length := by have := HQ.out; omega
            have hcT := ownT.cell hmT
            obtain ⟨u1, u2⟩ := HTb.out _ (gi_mem hmT)
            obtain ⟨u, hu⟩ : ∃ u : Nat, gi T m = (u : Int) := ⟨(gi T m).toNat, by omega⟩
            have HU : Hid ((marB (knTo S C k ++ T) N ((knTo S C k).length + m)).set u true = marB (knTo S C k ++ T) N ((knTo S C k).length + (m + 1))) := Lib.hid (marB_step (knTo S C k ++ T) N ((knTo S C k).length + m) u (by rw [List.length_append]; omega) (by rw [gi_app2 _ _ _ hmT]; exact hu) (by omega))
            rw [hu] at hcT u1 u2
            have hun : u < N := by omega
            have hcell := ownB.cell (k := u) (by rw [marB_len]; omega)
            have hf := ownB.free u
            clear hu hmT
            go_wp2_with fail
            go_roundw
            case rel => exact ⟨m + 1, by omega, by go_num, by rw [← HU.out]; exact ownB.stored u true, ownT.setBelow (by simp) _, own.setBelow (by simp) _, cell_set_other cs (by simp; omega), B.setCell (by simp; omega) _⟩
            case measure => simp [intOf]; omega
          · have ek : Hid (m = T.length) := Lib.hid (by have := HQ.out; omega)
            have ownB' : OwnBools wr w1.heap.size (.slice (some ⟨w1.heap.size, 0, none⟩) N N) ((List.range N).map (inL (knTo S C (k + 1)))) := by
              have h := ownB
              rw [ek.out, ← List.length_append, marB_all, HMT.out] at h; exact h
            have hput := l01Put_any (w1.heap.size + 1) g c (ldsM S C k) x
            rw [← HPl.out] at hput
            have HPU := Lib.hid hput
            have hgi := own.base_le
            clear ownB ownT hput
            go_wp2_with fail
            refine (HLL.out wr (hS.below B) (hCI.below B)).mono ?_
            rintro e w6 ⟨rfl, hb6⟩
            have own6 := own.below hb6
            have ownB6 := ownB'.below hb6
            have cs6 := kept_cell hb6 cs (by omega)
            have B6 := B.trans (hb6.mono B.size)
            have s6 := hb6.size
            clear hb6 own ownB' cs B
            go_wp2_with fail
            refine (HPU.out w6 (by omega) own6).mono ?_
            rintro e w7 ⟨g7, c7, rfl, own7, hb7⟩
            have ownB7 := ownB6.below hb7
            have cs7 := kept_cell hb7 cs6 (by omega)
            have B7 := B6.trans (hb7.mono B6.size)
            rw [← HY.out.2.2] at own7 ⊢
            clear hb7 ownB6 cs6 B6 own6
            go_wp2_with fail
            go_roundw
            case rel => exact ⟨k + 1, g7, c7, by omega, by go_num, rfl, own7, ownB7, cs7, B7⟩
            case measure => simp [intOf]; omega
    · have ek : Hid (k = N) := Lib.hid (by omega)
      have hltI : ¬ (k : Int) < (N : Int) := by omega
      go_wp2_with fail
      refine hcall.mono ?_
      rintro e w2 ⟨rfl, hb2⟩
      go_wp2_with fail
      go_ret
      exact ⟨g, c, by rw [← ek.out, ← HPl.out]; rfl, by rw [← ek.out, ← HPl.out]; exact (own.below hb2).rebase (by omega), B.trans (hb2.mono B.size)⟩

end Go.Proofs.YthinedjblpgalaaDoor
