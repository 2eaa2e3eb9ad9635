/-
  The contracts of FreeCode. By an AI agent.
-/
import Derived.Test.YtlkfmopcdmppmaaMath19
import Derived.Test.YtlkfmopcdmppmaaFar5
import Derived.Test.YtlkfmopcdmppmaaAppend
import Derived.Test.YtlkfmopcdmppmaaAppendAt
import Derived.Test.YtlkfmopcdmppmaaMark
import Derived.Test.YtlkfmopcdmppmaaNum
import Derived.Shelf.Abstract
import Derived.WalkMore
namespace Go.Proofs.Ytlkfmopcdmppmaa
open Go.RowKit Go.Shelf Cv
set_option linter.unusedVariables false
set_option linter.unusedSimpArgs false
set_option maxRecDepth 100000

/-- slices.IndexFunc on a list that came in, with a function that may make memory -/
theorem indexFunc_ints (a : Option Addr) (cap : Nat) (L : List Int) (f : Nat) (eg : ∀ args w, (callFunc f args).run Try.prog w = .ok (.enter f args) w) (pre post : Array Value) (p : Int → Bool) (w : World) (hl : L.length ≤ 4294967296)
    (hL : Ints w a L) (hp : ∀ (W : World) (x : Int), Below w.heap.size w W → x ∈ L → Calls Try.prog f (pre.push (.int .i64 x) ++ post) W fun e w' => e = .returned (.bool (p x)) ∧ Below W.heap.size W w') :
    Calls Try.prog 102 #[.slice a L.length cap, .func (.func f) pre post] w fun e w' => ∃ r : Int, e = .returned (.int .i64 r) ∧ Below w.heap.size w w' ∧
      Hid ((r = -1 ∧ ∀ j, j < L.length → p (gi L j) = false) ∨ ∃ k : Nat, k < L.length ∧ r = k ∧ p (gi L k) = true ∧ ∀ j, j < k → p (gi L j) = false) := by
  have HP := Lib.hid hp
  clear hp
  go_enter Try.func102, Try.ntmps102
  go_wp2_with fail
  go_loopw [8] (fun i wr => ∃ k : Nat, k ≤ L.length ∧ i = .int .i64 k ∧ Below w.heap.size w wr ∧ Hid (∀ j, j < k → p (gi L j) = false)) (fun i _ => L.length - (intOf i).toNat)
  case atStart => exact ⟨0, Nat.zero_le _, rfl, Below.refl _ _, Lib.hid fun j hj => by omega⟩
  case round =>
    obtain ⟨k, hk, rfl, B, HA⟩ := hrel
    by_cases hlt : k < L.length
    · obtain ⟨b, o, rfl, hbl, hc0⟩ := hL.at hlt
      have hc := kept_cell B (hc0 k hlt) hbl
      have hcall := HP.out wr (gi L k) B (gi_mem hlt)
      have hs := B.size
      clear hc0
      cases hq : p (gi L k) with
      | true =>
        rw [hq] at hcall
        have HQ := Lib.hid hq
        clear hq
        go_wp2_with fail
        refine hcall.mono ?_
        rintro e w2 ⟨rfl, hb⟩
        go_wp2_with fail
        go_ret
        exact ⟨k, rfl, B.trans (hb.mono hs), Lib.hid (.inr ⟨k, hlt, rfl, HQ.out, HA.out⟩)⟩
      | false =>
        rw [hq] at hcall
        have HQ := Lib.hid hq
        clear hq
        go_wp2_with fail
        refine hcall.mono ?_
        rintro e w2 ⟨rfl, hb⟩
        go_wp2_with fail
        go_roundw
        case rel =>
          refine ⟨k + 1, by omega, by go_num, B.trans (hb.mono hs), Lib.hid fun j hj => ?_⟩
          by_cases e : j = k
          · subst e; exact HQ.out
          · exact HA.out j (by omega)
        case measure => simp [intOf]; omega
    · have ek : Hid (k = L.length) := Lib.hid (by omega)
      go_wp2_with fail
      go_ret
      exact ⟨-1, rfl, B, Lib.hid (.inl ⟨rfl, by rw [← ek.out]; exact HA.out⟩)⟩

theorem containsFunc_ints (a : Option Addr) (cap : Nat) (L : List Int) (f : Nat) (eg : ∀ args w, (callFunc f args).run Try.prog w = .ok (.enter f args) w) (pre post : Array Value) (p : Int → Bool) (w : World) (hl : L.length ≤ 4294967296)
    (hL : Ints w a L) (hp : ∀ (W : World) (x : Int), Below w.heap.size w W → x ∈ L → Calls Try.prog f (pre.push (.int .i64 x) ++ post) W fun e w' => e = .returned (.bool (p x)) ∧ Below W.heap.size W w') :
    Calls Try.prog 98 #[.slice a L.length cap, .func (.func f) pre post] w fun e w' => e = .returned (.bool (L.any p)) ∧ Below w.heap.size w w' := by
  have hidx := indexFunc_ints a cap L f eg pre post p w hl hL hp
  clear hp
  go_enter Try.func98, Try.ntmps98
  go_wp2_with fail
  refine hidx.mono ?_
  rintro e w1 ⟨r, rfl, hb, H⟩
  have hany : Hid (L.any p = decide (0 ≤ r)) := Lib.hid (by
    rw [Bool.eq_iff_iff, List.any_eq_true, decide_eq_true_eq]
    rcases H.out with ⟨h1, h2⟩ | ⟨k, h1, h2, h3, _⟩
    · constructor
      · rintro ⟨x, hx, hp⟩
        obtain ⟨j, hj, e⟩ := mem_gi hx
        have := h2 j hj
        rw [e, hp] at this; cases this
      · omega
    · exact ⟨fun _ => by omega, fun _ => ⟨_, gi_mem h1, h3⟩⟩)
  go_wp2_with fail
  go_ret
  exact ⟨ret_bool hany.out.symm, hb⟩

theorem isOutside_any (nb n : Nat) (x : Int) (W : World) (h : W.cell? ⟨nb, 0, none⟩ = some (.int .i64 (n : Int))) :
    Calls Try.prog 96 #[.int .i64 x, .pointer (some ⟨nb, 0, none⟩)] W fun e w' => e = .returned (.bool (!(decide (0 ≤ x) && decide (x < (n : Int))))) ∧ Below W.heap.size W w' := by
  by_cases h0 : x < 0
  · have hd : decide (x < 0) = true := by simpa using h0
    have HR : Hid ((!(decide (0 ≤ x) && decide (x < (n : Int)))) = true) := Lib.hid (by simp; omega)
    go_enter Try.func96, Try.ntmps96
    go_wp2
    go_ret
    exact ⟨ret_bool HR.out.symm, Below.refl _ _⟩
  · have hd : decide (x < 0) = false := by simpa using h0
    go_enter Try.func96, Try.ntmps96
    go_wp2
    go_ret
    exact ⟨ret_bool (by rw [Bool.eq_iff_iff]; simp <;> omega), Below.refl _ _⟩

theorem any_out (n : Nat) (P : List Int) : P.any (fun x => !(decide (0 ≤ x) && decide (x < (n : Int)))) = !insTo n P := by
  rw [Bool.eq_iff_iff, List.any_eq_true, Bool.not_eq_true', insTo, decide_eq_false_iff_not]
  constructor
  · rintro ⟨x, hx, h⟩ g
    obtain ⟨j, hj, e⟩ := mem_gi hx
    have := g j hj
    rw [e] at this
    simp at h; omega
  · intro h
    apply Classical.byContradiction
    intro g
    exact h fun j hj => by
      apply Classical.byContradiction
      intro g2
      exact g ⟨gi P j, gi_mem hj, by simp; omega⟩

set_option maxHeartbeats 2000000 in
theorem arePlaces_any (ao : Option Addr) (S : List Int) (cap : Nat) (hn : S.length ≤ 4294967296) (ap : Option Addr) (P : List Int) (capp : Nat) (hnp : P.length ≤ 4294967296) (w : World) (hS : Ints w ao S) (hP : Ints w ap P) :
    Calls Try.prog 66 #[.agg #[.slice ao S.length cap], .slice ap P.length capp] w fun e w' => e = .returned (.bool (plTo S.length P P.length)) ∧ Below w.heap.size w w' := by
  have E0 : IntKind.i64.wrap (S.length : Int) = (S.length : Int) := IntWalk.i64_in _ ⟨by omega, by omega⟩
  have HSP := Lib.hid (pl_split S.length P)
  go_enter Try.func66, Try.ntmps66
  have hI : Ints ((w.alloc (.cells #[.slice ao S.length cap] 28)).alloc (.cells #[.int .i64 (S.length : Int)] 2)) ap P := hP.below (by go_grown)
  have hnb : ((w.alloc (.cells #[.slice ao S.length cap] 28)).alloc (.cells #[.int .i64 (S.length : Int)] 2)).cell? ⟨w.heap.size + 1, 0, none⟩ = some (.int .i64 (S.length : Int)) := by
    have h := cell_new (w.alloc (.cells #[.slice ao S.length cap] 28)) (.int .i64 (S.length : Int)) 2
    rw [World.size_alloc] at h; exact h
  obtain ⟨W2, hW2⟩ : ∃ W2, W2 = (w.alloc (.cells #[.slice ao S.length cap] 28)).alloc (.cells #[.int .i64 (S.length : Int)] 2) := ⟨_, rfl⟩
  have B2 : Below w.heap.size w W2 := by rw [hW2]; go_grown
  have s2 : W2.heap.size = w.heap.size + 1 + 1 := by rw [hW2]; simp
  rw [← hW2] at hI hnb
  have HW2 := Lib.hid hW2
  clear hW2
  go_wp2_with fail
  rw [← HW2.out]
  have hcont := fun (W : World) (hb : Below W2.heap.size W2 W) => containsFunc_ints ap capp P 96 (enters_of Try.func96 (by kernel_rfl) rfl) #[] #[.pointer (some ⟨w.heap.size + 1, 0, none⟩)] (fun x => !(decide (0 ≤ x) && decide (x < (S.length : Int)))) W hnp (hI.below hb) (fun W' x hb' _ => isOutside_any (w.heap.size + 1) S.length x W' (kept_cell (hb.trans (hb'.mono hb.size)) hnb (by omega)))
  cases hasc : ascB P P.length with
  | true =>
    refine (isStrictlyAscending_any ap P capp hnp _ hI).mono ?_
    rw [hasc]
    rintro e w3 ⟨rfl, hb3⟩
    go_wp2_with fail
    refine (hcont w3 hb3).mono ?_
    rw [any_out]
    rintro e w4 ⟨rfl, hb4⟩
    go_wp2_with fail
    go_ret
    exact ⟨ret_bool (by rw [HSP.out, hasc]; simp), (B2.trans (hb3.mono (by omega))).trans (hb4.mono (by have := hb3.size; omega))⟩
  | false =>
    refine (isStrictlyAscending_any ap P capp hnp _ hI).mono ?_
    rw [hasc]
    rintro e w3 ⟨rfl, hb3⟩
    go_wp2_with fail
    go_ret
    exact ⟨ret_bool (by rw [HSP.out, hasc]; rfl), B2.trans (hb3.mono (by omega))⟩

set_option maxHeartbeats 4000000 in
theorem spec_FreeCode (ao : Option Addr) (S : List Int) (cap : Nat) (hn : S.length ≤ 4294967296) (ap : Option Addr) (P : List Int) (capp : Nat) (hnp : P.length ≤ 4294967296) (w : World) (hS : Ints w ao S) (hP : Ints w ap P) :
    Calls Try.prog 30 #[.agg #[.slice ao S.length cap], .slice ap P.length capp] w fun e w' => ∃ v, e = .returned (.tuple #[v, .int .i64 (eFree S P)]) ∧ OwnInts w' w.heap.size v (vFree S P) ∧ Below w.heap.size w w' := by
  have B0 : Below w.heap.size w (w.alloc (.cells #[.slice ao S.length cap] 28)) := by go_grown
  by_cases hsp : isSp S = true
  · have HSp := Lib.hid ((isSp_iff S).1 hsp)
    have hlo := HSp.out.lo
    have hhi := HSp.out.hi
    have HPB : Hid (plTo S.length P P.length = false → eFree S P = 2 ∧ vFree S P = []) := Lib.hid fun h => ⟨eFree_bad hsp h, by unfold vFree; rw [eFree_bad hsp h]; rfl⟩
    have HPG : Hid (plTo S.length P P.length = true → eFree S P = 0) := Lib.hid fun h => eFree_ok hsp h
    go_enter Try.func30, Try.ntmps30
    go_wp2_with fail
    refine (l01Is_any ao S cap _ hn (hS.below B0)).mono ?_
    rw [hsp]
    rintro e w1 ⟨rfl, hb⟩
    have c1 := kept_cell hb (cell_new w (.slice ao S.length cap) 28) (lt_alloc _ _)
    have l1 := lt_of_below hb (lt_alloc w (.cells #[.slice ao S.length cap] 28))
    have B1 : Below w.heap.size w w1 := B0.trans (hb.mono B0.size)
    have E1 : IntKind.i64.wrap ((S.length : Int) - 1) = (S.length : Int) - 1 := IntWalk.i64_in _ ⟨by omega, by omega⟩
    clear hb B0 hsp
    go_wp2_with fail
    go_loopw [6] (fun i wr => ∃ k : Nat, k ≤ P.length ∧ i = .int .i64 k ∧ Hid (plTo S.length P k = true) ∧ wr.cell? ⟨w.heap.size, 0, none⟩ = some (.slice ao S.length cap) ∧ w.heap.size < wr.heap.size ∧ Below w.heap.size w wr) (fun i _ => P.length - (intOf i).toNat)
    case atStart => exact ⟨0, Nat.zero_le _, rfl, Lib.hid rfl, c1, l1, B1⟩
    case round =>
      clear c1 l1 B1
      obtain ⟨k, hk, rfl, HK, c, l, B⟩ := hrel
      by_cases hlt : k < P.length
      · obtain ⟨b, o, rfl, hbl, hc⟩ := hP.at hlt
        have hck : wr.cell? ⟨b, o + k, none⟩ = some (.int .i64 (gi P k)) := kept_cell B (hc k hlt) hbl
        by_cases hq : 0 ≤ gi P k ∧ gi P k ≤ (S.length : Int) - 1
        · have B2 := inB_true (n := gi P k) (low := 0) (high := (S.length : Int) - 1) hq.1 hq.2
          have HQ := Lib.hid hq
          clear hq
          by_cases h0 : k = 0
          · have hd : decide ((0 : Int) < (k : Int)) = false := by simp; omega
            have hdN : decide (0 < k) = false := by simp; omega
            have HN : Hid (plTo S.length P (k + 1) = true) := Lib.hid (by
              rw [plTo, HK.out]; have := HQ.out; simp [h0]; subst h0; omega)
            clear hc h0
            go_wp2_with fail
            have fc := fam_cell c
            have fk := fam_cell hck
            refine wp_region_fam (by kernel_rfl) (by kernel_rfl) ?_
            repeat (go_big_quiet_step ((go_at_call 63; exact fam_same (l01In_any _ _ _ _))))
            refine wpQuiet_nil ?_
            rintro _ ⟨x, rfl⟩
            have hb2 := fam_below x
            generalize fam wr x = w2 at hb2 ⊢
            clear fc fk E1
            go_wp2
            go_roundw
            case rel => exact ⟨k + 1, by omega, by go_num, HN, kept_cell hb2 c l, lt_of_below hb2 l, B.trans (hb2.mono B.size)⟩
            case measure => simp [intOf]; omega
          · obtain ⟨m, rfl⟩ : ∃ m, k = m + 1 := ⟨k - 1, by omega⟩
            have hcm : wr.cell? ⟨b, o + m, none⟩ = some (.int .i64 (gi P m)) := kept_cell B (hc m (by omega)) hbl
            have hd : decide ((0 : Int) < ((m + 1 : Nat) : Int)) = true := by simp; try omega
            have hd2 : decide ((0 : Int) < (m : Int) + 1) = true := by simp; try omega
            have hdN : decide (0 < m + 1) = true := by simp
            have E2 : IntKind.i64.wrap ((m : Int) + 1 - 1) = (m : Int) := by rw [IntWalk.i64_in _ ⟨by omega, by omega⟩]; omega
            have E3 : IntKind.i64.wrap (m : Int) = (m : Int) := IntWalk.i64_in _ ⟨by omega, by omega⟩
            have i1 : (0 : Int) ≤ (m : Int) := by omega
            have i2 : (m : Int) < (P.length : Int) := by omega
            have i3 : (m : Int) + 1 < (P.length : Int) := by omega
            have i4 : (0 : Int) ≤ (m : Int) + 1 := by omega
            clear hc h0
            by_cases ha : gi P m < gi P (m + 1)
            · have hda : decide (gi P (m + 1) ≤ gi P m) = false := by simpa using ha
              have HN : Hid (plTo S.length P (m + 1 + 1) = true) := Lib.hid (by
                rw [plTo, HK.out]; have := HQ.out; simp; omega)
              clear ha
              go_wp2_with fail
              have fc := fam_cell c
              have fk := fam_cell hck
              have fm := fam_cell hcm
              refine wp_region_fam (by kernel_rfl) (by kernel_rfl) ?_
              repeat (go_big_quiet_step ((go_at_call 63; exact fam_same (l01In_any _ _ _ _))))
              refine wpQuiet_nil ?_
              rintro _ ⟨x, rfl⟩
              have hb2 := fam_below x
              generalize fam wr x = w2 at hb2 ⊢
              clear fc fk fm E1
              go_wp2
              go_roundw
              case rel => exact ⟨m + 1 + 1, by omega, by go_num, HN, kept_cell hb2 c l, lt_of_below hb2 l, B.trans (hb2.mono B.size)⟩
              case measure => simp [intOf]; omega
            · have hda : decide (gi P (m + 1) ≤ gi P m) = true := by simpa using ha
              have HN := Lib.hid (HPB.out (plTo_desc hlt (by omega) ha))
              clear ha
              go_wp2_with fail
              have fc := fam_cell c
              have fk := fam_cell hck
              have fm := fam_cell hcm
              refine wp_region_fam (by kernel_rfl) (by kernel_rfl) ?_
              repeat (go_big_quiet_step ((go_at_call 63; exact fam_same (l01In_any _ _ _ _))))
              refine wpQuiet_nil ?_
              rintro _ ⟨x, rfl⟩
              have hb2 := fam_below x
              generalize fam wr x = w2 at hb2 ⊢
              clear fc fk fm E1
              go_wp2
              go_ret2
              exact ⟨_, by rw [HN.out.1]; try rfl, by rw [HN.out.2]; exact own_nil _ _, B.trans (hb2.mono B.size)⟩
        · have B2 := inB_false (n := gi P k) (low := 0) (high := (S.length : Int) - 1) hq
          have HN := Lib.hid (HPB.out (plTo_bad hlt (by omega)))
          clear hq hc
          go_wp2_with fail
          have fc := fam_cell c
          have fk := fam_cell hck
          refine wp_region_fam (by kernel_rfl) (by kernel_rfl) ?_
          repeat (go_big_quiet_step ((go_at_call 63; exact fam_same (l01In_any _ _ _ _))))
          refine wpQuiet_nil ?_
          rintro _ ⟨x, rfl⟩
          have hb2 := fam_below x
          generalize fam wr x = w2 at hb2 ⊢
          clear fc fk E1
          go_wp2
          go_ret2
          exact ⟨_, by rw [HN.out.1]; try rfl, by rw [HN.out.2]; exact own_nil _ _, B.trans (hb2.mono B.size)⟩
      · have HPT : Hid (plTo S.length P P.length = true) := Lib.hid (by rw [← (show k = P.length by omega)]; exact HK.out)
        have HE0 := Lib.hid (HPG.out HPT.out)
        have HPI := Lib.hid ((plTo_iff _ _ _).1 HPT.out)
        have hpl8 : P.length ≤ 8 := by have := pl_len HPT.out (by omega); omega
        obtain ⟨N1, N2⟩ := nW_bd HSp.out
        obtain ⟨N, hN⟩ : ∃ N : Nat, nW S = (N : Int) := ⟨(nW S).toNat, by omega⟩
        have HN := Lib.hid hN
        have hN2 : N ≤ 1024 := by omega
        have HV : Hid (vFree S P = freeL S P N) := Lib.hid (by unfold vFree; rw [if_pos HE0.out, hN]; rfl)
        have hs := B.size
        have hltI : ¬ (k : Int) < (P.length : Int) := by omega
        have o2 := own_empty wr (w.heap.size + 1) (by omega) rfl
        have B2 := B.alloc hs (.cells #[] 2)
        have c2 := kept_cell ((Below.refl wr.heap.size wr).alloc (Nat.le_refl _) (.cells #[] 2)) c l
        clear hN N1 N2 c B
        go_wp2_with fail
        go_loopw [7, 8] (fun v i wi => ∃ t : Nat, t ≤ N ∧ i = .int .i64 t ∧ OwnInts wi (w.heap.size + 1) v (freeL S P t) ∧ wi.cell? ⟨w.heap.size, 0, none⟩ = some (.slice ao S.length cap) ∧ w.heap.size < wi.heap.size ∧ Below w.heap.size w wi) (fun _ i _ => N - (intOf i).toNat)
        case atStart => exact ⟨0, Nat.zero_le _, rfl, o2, c2, by simp; omega, B2⟩
        case round =>
          clear o2 c2 B2 l hs
          obtain ⟨t, ht, rfl, own, c, l, B⟩ := hrel
          have hcall := l01N_sp ao S cap wr HSp.out (hS.below B)
          rw [HN.out] at hcall
          by_cases htN : t < N
          · have htI : (t : Int) < (N : Int) := by omega
            go_wp2_with fail
            refine hcall.mono ?_
            rintro e w2 ⟨rfl, hb2⟩
            have c2 := kept_cell hb2 c l
            have l2 := lt_of_below hb2 l
            have B2 := B.trans (hb2.mono B.size)
            replace own := own.below hb2
            clear hb2 c l B hcall
            go_wp2_with fail
            refine (l01Digits_any ao S cap hhi HSp.out.bd (t : Int) (by omega) (by omega) w2 (hS.below B2)).mono ?_
            rintro e w3 ⟨g, rfl, od, hb3⟩
            have c3 := kept_cell hb3 c2 l2
            have l3 := lt_of_below hb3 l2
            have B3 := B2.trans (hb3.mono B2.size)
            replace own := own.below hb3
            clear hb3 c2 l2 B2
            go_wp2_with fail
            go_loop [10, 11] (fun q i => ∃ j : Nat, j ≤ P.length ∧ i = .int .i64 j ∧ q = .bool (frTo S P (t : Int) j)) (fun _ i => P.length - (intOf i).toNat)
            case atStart => exact ⟨0, Nat.zero_le _, rfl, rfl⟩
            case round =>
              obtain ⟨j, hj, rfl, rfl⟩ := hrel
              by_cases hjl : j < P.length
              · have hjI : (j : Int) < (P.length : Int) := by omega
                obtain ⟨b, o, rfl, hbl, hc⟩ := hP.at hjl
                have hcj : w3.cell? ⟨b, o + j, none⟩ = some (.int .i64 (gi P j)) := kept_cell B3 (hc j hjl) hbl
                obtain ⟨⟨y0, y1⟩, _⟩ := HPI.out j hjl
                obtain ⟨p, hp⟩ : ∃ p : Nat, gi P j = (p : Int) := ⟨(gi P j).toNat, by omega⟩
                have hpn : p < S.length := by omega
                have hpI : (p : Int) < (S.length : Int) := by omega
                have hp0 : (0 : Int) ≤ (p : Int) := by omega
                rw [hp] at hcj
                have hcd := od.cell (k := p) (by rw [digs_length]; exact hpn)
                rw [gi_digs _ _ _ hpn] at hcd
                have HPJ : Hid ((gi P j).toNat = p) := Lib.hid (by rw [hp]; rfl)
                clear hc hp y0 y1
                cases hf : frTo S P (t : Int) j with
                | false =>
                  have HF : Hid (frTo S P (t : Int) (j + 1) = false) := Lib.hid (by rw [frTo, hf]; rfl)
                  go_wp2_with fail
                  go_round
                  case rel => exact ⟨j + 1, by omega, by go_num, by rw [HF.out]⟩
                  case measure => simp [intOf]; omega
                | true =>
                  have HF : Hid (frTo S P (t : Int) (j + 1) = (dig S (t : Int) p == 0)) := Lib.hid (by rw [frTo, hf, HPJ.out, Bool.eq_iff_iff]; simp)
                  go_wp2_with fail
                  go_round
                  case rel => exact ⟨j + 1, by omega, by go_num, by rw [HF.out]⟩
                  case measure => simp [intOf]; omega
              · have ej : Hid (j = P.length) := Lib.hid (by omega)
                have hjI : ¬ (j : Int) < (P.length : Int) := by omega
                have hlenL := selL_len (fun u => frTo S P u P.length) t
                obtain ⟨a1, k1, hv⟩ := own.shape
                subst hv
                obtain ⟨m, hm⟩ : ∃ m, m = (freeL S P t).length := ⟨_, rfl⟩
                have HM := Lib.hid hm
                rw [← hm] at own ⊢
                have hm2 : m ≤ 1024 := by have := HM.out; unfold freeL at this; omega
                have hs3 := B3.size
                clear hm hlenL
                cases hf : frTo S P (t : Int) j with
                | true =>
                  have H2 : Hid (freeL S P (t + 1) = freeL S P t ++ [(t : Int)]) := Lib.hid (by unfold freeL; rw [selL_succ, if_pos (by rw [← ej.out]; exact hf)])
                  have E0 : IntKind.i64.wrap (t : Int) = (t : Int) := IntWalk.i64_in _ ⟨by omega, by omega⟩
                  clear hf
                  go_wp2_with (at_builtin; refine wpList_append_int rfl _ _ rfl (w.heap.size + 1) _ _ rfl (own.alloc _) w3.heap.size _ rfl (cell_new _ _ _) (by have := HM.out; omega) (by rw [World.size_alloc]; omega) ?_; intro v' w4 hown' hgrow)
                  have B4 := grown_below (B3.alloc hs3 _) (by rw [World.size_alloc]; omega) hgrow (own.alloc _) (by omega)
                  have c4 : w4.cell? ⟨w.heap.size, 0, none⟩ = some (.slice ao S.length cap) := hgrow.cell (a := ⟨w.heap.size, 0, none⟩) (kept_cell ((Below.refl w3.heap.size w3).alloc (Nat.le_refl _) _) c3 l3) (fun e => by have := World.ownsRow.lt own _ e.symm; simp at this; omega)
                  have l4 : w.heap.size < w4.heap.size := by have := hgrow.size; simp at this; omega
                  clear own hgrow c3 od
                  go_wp2_with fail
                  go_roundw
                  case rel => exact ⟨t + 1, by omega, by go_num, by rw [H2.out]; exact hown', c4, l4, B4⟩
                  case measure => simp [intOf]; omega
                | false =>
                  have H2 : Hid (freeL S P (t + 1) = freeL S P t) := Lib.hid (by unfold freeL; rw [selL_succ, if_neg (by rw [← ej.out, hf]; simp), List.append_nil])
                  clear hf
                  go_wp2_with fail
                  go_roundw
                  case rel => exact ⟨t + 1, by omega, by go_num, by rw [H2.out, ← HM.out] at *; exact own, c3, l3, B3⟩
                  case measure => simp [intOf]; omega
          · have et : Hid (t = N) := Lib.hid (by omega)
            have htI : ¬ (t : Int) < (N : Int) := by omega
            go_wp2_with fail
            refine hcall.mono ?_
            rintro e w2 ⟨rfl, hb2⟩
            go_wp2_with fail
            go_ret2
            exact ⟨_, by rw [HE0.out]; try rfl, by rw [HV.out, ← et.out]; exact (own.below hb2).rebase (by omega), B.trans (hb2.mono B.size)⟩
  · have hsp' : isSp S = false := by simpa using hsp
    have HE := Lib.hid (eFree_inv (P := P) hsp')
    have HV : Hid (vFree S P = []) := Lib.hid (by unfold vFree; rw [eFree_inv hsp']; rfl)
    clear hsp
    go_enter Try.func30, Try.ntmps30
    go_wp2_with fail
    refine (l01Is_any ao S cap _ hn (hS.below B0)).mono ?_
    rw [hsp']
    rintro e w1 ⟨rfl, hb⟩
    go_wp2_with fail
    go_ret2
    exact ⟨_, by rw [HE.out]; try rfl, by rw [HV.out]; exact own_nil _ _, B0.trans (hb.mono B0.size)⟩

theorem block_cell {w w' : World} {b k : Nat} {v : Value} (h : w'.heap[b]? = w.heap[b]?) (hc : w.cell? ⟨b, k, none⟩ = some v) : w'.cell? ⟨b, k, none⟩ = some v := (World.cell?_of_block (w := w) (w' := w') (a := ⟨b, k, none⟩) h).trans hc

set_option maxHeartbeats 4000000 in
theorem impl_FreeCode (ao : Option Addr) (S : List Int) (cap : Nat) (hn : S.length ≤ 4294967296) (ap : Option Addr) (P : List Int) (capp : Nat) (hnp : P.length ≤ 4294967296) (w : World) (hS : Ints w ao S) (hP : Ints w ap P) :
    Calls Try.prog 31 #[.agg #[.slice ao S.length cap], .slice ap P.length capp] w fun e w' => ∃ v, e = .returned (.tuple #[v, .int .i64 (eFree S P)]) ∧ OwnInts w' w.heap.size v (vFree S P) ∧ Below w.heap.size w w' := by
  have B0 : Below w.heap.size w (w.alloc (.cells #[.slice ao S.length cap] 28)) := by go_grown
  by_cases hsp : isSp S = true
  · have HSp := Lib.hid ((isSp_iff S).1 hsp)
    have hlo := HSp.out.lo
    have hhi := HSp.out.hi
    have HAP := Lib.hid (fun w => arePlaces_any ao S cap hn ap P capp hnp w)
    cases hpl : plTo S.length P P.length with
    | true =>
      have HE0 := Lib.hid (eFree_ok hsp hpl)
      have HPI := Lib.hid ((plTo_iff _ _ _).1 hpl)
      have hpl8 : P.length ≤ 8 := by have := pl_len hpl (by omega); omega
      obtain ⟨N1, N2⟩ := nW_bd HSp.out
      obtain ⟨N, hN⟩ : ∃ N : Nat, nW S = (N : Int) := ⟨(nW S).toNat, by omega⟩
      have HN := Lib.hid hN
      have hN2 : N ≤ 1024 := by omega
      have HV : Hid (vFree S P = freeL S P N) := Lib.hid (by unfold vFree; rw [if_pos HE0.out, hN]; rfl)
      have HU : Hid (∀ i, i < (upto N).length → 0 ≤ gi (upto N) i ∧ gi (upto N) i ≤ 9223372036854775807) := Lib.hid fun i h => by rw [upto_len] at h; rw [gi_upto _ _ h]; omega
      have HUl : Hid (N = (upto N).length) := Lib.hid (upto_len N).symm
      have HPL := Lib.hid hpl
      clear hN N1 N2 hpl
      go_enter Try.func31, Try.ntmps31
      go_wp2_with fail
      go_step3
      go_wp2_with fail
      refine (IsSpace_any ao S cap _ hn (hS.below B0)).mono ?_
      rw [hsp]
      rintro e w0 ⟨rfl, hb⟩
      have c0 := kept_cell hb (cell_new w (.slice ao S.length cap) 28) (lt_alloc _ _)
      have l0 := lt_of_below hb (lt_alloc w (.cells #[.slice ao S.length cap] 28))
      have B1 : Below w.heap.size w w0 := B0.trans (hb.mono B0.size)
      clear hb B0 hsp
      go_wp2_with fail
      refine (HAP.out w0 (hS.below B1) (hP.below B1)).mono ?_
      rw [HPL.out]
      rintro e w1 ⟨rfl, hb1⟩
      have c1 := kept_cell hb1 c0 l0
      have l1 := lt_of_below hb1 l0
      have B2 := B1.trans (hb1.mono B1.size)
      have s2 := B2.size
      have o2 := own_empty w1 (w.heap.size + 1) (by omega) rfl
      have cW := kept_cell ((Below.refl w1.heap.size w1).alloc (Nat.le_refl _) (.cells #[] 2)) c1 l1
      have BW := B2.alloc s2 (.cells #[] 2)
      clear hb1 c0 l0 B1 B2
      go_wp2_with fail
      go_step3
      go_wp2_with fail
      obtain ⟨W, hW⟩ : ∃ W, W = w1.alloc (.cells #[] 2) := ⟨_, rfl⟩
      have sW : W.heap.size = w1.heap.size + 1 := by rw [hW]; simp
      rw [← hW] at o2 cW BW ⊢
      have lW : w.heap.size < W.heap.size := by omega
      clear hW c1 l1
      go_region_held3 (fun w' => w'.cell? ⟨w.heap.size, 0, none⟩ = some (.slice ao S.length cap)) (first | exact cW | exact kept_cell hb2 cW lW | exact kept_cell hb3 (kept_cell hb2 cW lW) (lt_of_below hb2 lW)) (first | (go_at_call 68; refine (allWords_any ao S cap HSp.out N HN _ (hS.below BW.drew)).mono ?_; rintro e w2 ⟨q, rfl, oq, hb2'⟩; have hb2 := (Below.refl _ W).drew.trans hb2'; have B3 := BW.trans (hb2.mono BW.size)) | (go_at_call 67; refine (digitParts_n ao S cap hlo hhi HSp.out.bd _ (upto N) N _ HUl.out (by omega) HU.out _ (hS.below B3) (own_ints oq)).mono ?_; rintro e w3 ⟨P2, g2, U2, rfl, hp2, hb3⟩))
      have B4 := B3.trans (hb3.mono B3.size)
      have o4 := (o2.below hb2).below hb3
      have s4 := hb2.size
      have s5 := hb3.size
      have hpg := hp2.own.base_le
      have hpb := hp2.bp
      have hpl2 := hp2.pl
      clear hb2 hb2' hb3 oq B3 BW cW o2
      go_wp2_with fail
      go_loopw [6, 24] (fun v i wr => ∃ k : Nat, k ≤ N ∧ i = .int .i64 k ∧ OwnInts wr (w.heap.size + 1) v (freeL S P k) ∧ (v.ownBlock ≠ some g2 ∧ v.ownBlock ≠ some P2) ∧ Hid (wr.heap[P2]? = w3.heap[P2]? ∧ wr.heap[g2]? = w3.heap[g2]?) ∧ w3.heap.size ≤ wr.heap.size ∧ Below w.heap.size w wr) (fun _ i _ => N - (intOf i).toNat)
      case atStart => exact ⟨0, Nat.zero_le _, rfl, o4, ⟨by simp [Value.ownBlock]; omega, by simp [Value.ownBlock]; omega⟩, Lib.hid ⟨rfl, rfl⟩, Nat.le_refl _, B4⟩
      case round =>
        clear o4 B4
        obtain ⟨k, hk, rfl, own, ⟨ng, np⟩, HB, hsz, B⟩ := hrel
        by_cases hlt : k < N
        · have hku : k < (upto N).length := by rw [upto_len]; exact hlt
          have hrk := block_cell HB.out.1 (hp2.row k hku)
          have hik := hp2.ints hku
          rw [gi_upto _ _ hlt] at hik
          have hikR : Ints wr (some ⟨g2, k * S.length, none⟩) (digs S (k : Int)) := by
            refine .inr ⟨g2, _, rfl, by omega, fun i hi => ?_⟩
            obtain ⟨b, o, he, hbl, hc⟩ := hik.at hi
            simp only [Option.some.injEq, Addr.mk.injEq, and_true] at he
            obtain ⟨rfl, rfl⟩ := he
            exact block_cell HB.out.2 (hc i hi)
          go_wp2_with fail
          go_loop [10, 31] (fun q i => ∃ j : Nat, j ≤ P.length ∧ i = .int .i64 j ∧ Hid (frTo S P (k : Int) j = true)) (fun _ i => P.length - (intOf i).toNat)
          case atStart => exact ⟨0, Nat.zero_le _, rfl, Lib.hid rfl⟩
          case round =>
            obtain ⟨j, hj, rfl, HF⟩ := hrel
            by_cases hjl : j < P.length
            · have hjI : (j : Int) < (P.length : Int) := by omega
              obtain ⟨b, o, rfl, hbl, hc⟩ := hP.at hjl
              have hcj : wr.cell? ⟨b, o + j, none⟩ = some (.int .i64 (gi P j)) := kept_cell B (hc j hjl) hbl
              obtain ⟨⟨y0, y1⟩, _⟩ := HPI.out j hjl
              obtain ⟨p, hp⟩ : ∃ p : Nat, gi P j = (p : Int) := ⟨(gi P j).toNat, by omega⟩
              have hpn : p < S.length := by omega
              have hpI : (p : Int) < (S.length : Int) := by omega
              have hp0 : (0 : Int) ≤ (p : Int) := by omega
              rw [hp] at hcj
              obtain ⟨b2, o2, he2, hb2l, hc2⟩ := hikR.at (i := p) (by rw [digs_length]; exact hpn)
              simp only [Option.some.injEq, Addr.mk.injEq, and_true] at he2
              obtain ⟨rfl, rfl⟩ := he2
              have hcd := hc2 p (by rw [digs_length]; exact hpn)
              rw [gi_digs _ _ _ hpn] at hcd
              have HPJ : Hid ((gi P j).toNat = p) := Lib.hid (by rw [hp]; rfl)
              clear hc hp y0 y1 hc2
              by_cases hd0 : dig S (k : Int) p = 0
              · have hdn : (dig S (k : Int) p != 0) = false := by simp [hd0]
                have HN1 : Hid (frTo S P (k : Int) (j + 1) = true) := Lib.hid (by rw [frTo, HF.out, HPJ.out]; simp [hd0])
                clear hd0
                go_wp2_with fail
                go_round
                case rel => exact ⟨j + 1, by omega, by go_num, HN1⟩
                case measure => simp [intOf]; omega
              · have hdn : (dig S (k : Int) p != 0) = true := by simpa using hd0
                have HN1 : Hid (freeL S P (k + 1) = freeL S P k) := Lib.hid (by unfold freeL; rw [selL_succ, if_neg (by rw [frTo_no hjl (by rw [HPJ.out]; exact hd0)]; simp), List.append_nil])
                clear hd0
                go_wp2_with fail
                go_roundw
                case rel => exact ⟨k + 1, by omega, by go_num, by rw [HN1.out]; exact own, ⟨ng, np⟩, HB, hsz, B⟩
                case measure => simp [intOf]; omega
            · have ej : Hid (j = P.length) := Lib.hid (by omega)
              have hjI : ¬ (j : Int) < (P.length : Int) := by omega
              have H2 : Hid (freeL S P (k + 1) = freeL S P k ++ [(k : Int)]) := Lib.hid (by unfold freeL; rw [selL_succ, if_pos (by rw [← ej.out]; exact HF.out)])
              have E0 : IntKind.i64.wrap (k : Int) = (k : Int) := IntWalk.i64_in _ ⟨by omega, by omega⟩
              have hlenL := selL_len (fun u => frTo S P u P.length) k
              have hs := B.size
              go_wp2_with (at_builtin; refine wpList_append_int_at rfl _ _ rfl (w.heap.size + 1) _ _ rfl (own.alloc _) wr.heap.size _ rfl (cell_new _ _ _) (by unfold freeL; omega) (by rw [World.size_alloc]; omega) ?_; intro v' w4 hown' hgrow hat)
              have B5 := grown_below (B.alloc hs _) (by rw [World.size_alloc]; omega) hgrow (own.alloc _) (by omega)
              have HB4 : Hid (w4.heap[P2]? = w3.heap[P2]? ∧ w4.heap[g2]? = w3.heap[g2]?) := Lib.hid ⟨by rw [hgrow.block P2 (by simp; omega) (fun e => np e.symm), Below.heap_alloc _ _ _ (by omega)]; exact HB.out.1, by rw [hgrow.block g2 (by simp; omega) (fun e => ng e.symm), Below.heap_alloc _ _ _ (by omega)]; exact HB.out.2⟩
              have hsz4 : w3.heap.size ≤ w4.heap.size := by have := hgrow.size; simp at this; omega
              have n4 : v'.ownBlock ≠ some g2 ∧ v'.ownBlock ≠ some P2 := by
                rcases hat with h | h
                · rw [h]; exact ⟨ng, np⟩
                · rw [h]; simp; omega
              clear own hgrow hat
              go_wp2_with fail
              go_roundw
              case rel => exact ⟨k + 1, by omega, by go_num, by rw [H2.out]; exact hown', n4, HB4, hsz4, B5⟩
              case measure => simp [intOf]; omega
        · have ek : Hid (k = N) := Lib.hid (by omega)
          have hkI : ¬ (k : Int) < (N : Int) := by omega
          go_wp2_with fail
          (try rw [Exit.noGoto_ret])
          go_ret2
          exact ⟨_, by rw [HE0.out]; try rfl, by rw [HV.out, ← ek.out]; exact own.rebase (by omega), B⟩
    | false =>
      have HE0 := Lib.hid (eFree_bad hsp hpl)
      have HV : Hid (vFree S P = []) := Lib.hid (by unfold vFree; rw [HE0.out]; rfl)
      have HPL := Lib.hid hpl
      clear hpl
      go_enter Try.func31, Try.ntmps31
      go_wp2_with fail
      go_step3
      go_wp2_with fail
      refine (IsSpace_any ao S cap _ hn (hS.below B0)).mono ?_
      rw [hsp]
      rintro e w0 ⟨rfl, hb⟩
      have c0 := kept_cell hb (cell_new w (.slice ao S.length cap) 28) (lt_alloc _ _)
      have B1 : Below w.heap.size w w0 := B0.trans (hb.mono B0.size)
      clear hb B0 hsp
      go_wp2_with fail
      refine (HAP.out w0 (hS.below B1) (hP.below B1)).mono ?_
      rw [HPL.out]
      rintro e w1 ⟨rfl, hb1⟩
      go_wp2_with fail
      (try rw [Exit.noGoto_ret])
      go_ret2
      exact ⟨_, by rw [HE0.out]; try rfl, by rw [HV.out]; exact own_nil _ _, B1.trans (hb1.mono B1.size)⟩
  · have hsp' : isSp S = false := by simpa using hsp
    have HE := Lib.hid (eFree_inv (P := P) hsp')
    have HV : Hid (vFree S P = []) := Lib.hid (by unfold vFree; rw [eFree_inv hsp']; rfl)
    clear hsp
    go_enter Try.func31, Try.ntmps31
    go_wp2_with fail
    go_step3
    go_wp2_with fail
    refine (IsSpace_any ao S cap _ hn (hS.below B0)).mono ?_
    rw [hsp']
    rintro e w1 ⟨rfl, hb⟩
    go_wp2_with fail
    (try rw [Exit.noGoto_ret])
    go_ret2
    exact ⟨_, by rw [HE.out]; try rfl, by rw [HV.out]; exact own_nil _ _, B0.trans (hb.mono B0.size)⟩

end Go.Proofs.Ytlkfmopcdmppmaa
