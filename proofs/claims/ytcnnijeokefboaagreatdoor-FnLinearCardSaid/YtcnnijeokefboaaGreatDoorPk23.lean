/-
  Texts put together: Code2, Err, ShA, Tog3h, AddSb. By an AI agent.
-/
import Derived.Test.YtcnnijeokefboaaGreatDoorPk22
import Derived.Test.YtcnnijeokefboaaGreatDoorPk15
import Derived.Test.YtcnnijeokefboaaGreatDoorMath
import Derived.Test.YtcnnijeokefboaaGreatDoorAppend
import Derived.Deep.RegionHeld3
import Derived.Test.YtcnnijeokefboaaGreatDoorSort
import Derived.Test.YtcnnijeokefboaaGreatDoorPk21
import Derived.Test.YtcnnijeokefboaaGreatDoorPut
import Derived.Test.YtcnnijeokefboaaGreatDoorPk20
import Derived.Test.YtcnnijeokefboaaGreatDoorPk11
import Derived.Test.YtcnnijeokefboaaGreatDoorMem
namespace Go.Proofs.YtcnnijeokefboaaGreatDoor
open Go.RowKit Cv
set_option linter.unusedVariables false
set_option linter.unusedSimpArgs false
set_option maxRecDepth 100000

set_option maxHeartbeats 4000000 in
theorem l01Code_any (ao : Option Addr) (S : List Int) (cap : Nat) (hSp : Sp S) (ac : Option Addr) (C : List Int) (capc : Nat) (hnc : C.length ≤ 4294967296) (w : World) (hS : Ints w ao S) (hC : Ints w ac C) :
    Calls Tryz.prog 121 #[.agg #[.slice ao S.length cap], .slice ac C.length capc] w fun e w' => e = .returned (.bool (codeB S C)) ∧ Below w.heap.size w w' := by
  obtain ⟨N1, N2⟩ := nW_bd hSp
  have HSp := Lib.hid hSp
  clear hSp
  go_enter Tryz.func121, Tryz.ntmps121
  go_wp2_with fail
  go_loopw [5] (fun i wr => ∃ k : Nat, k ≤ C.length ∧ i = .int .i64 k ∧ Hid (∀ j, j < k → 0 ≤ gi C j ∧ gi C j < nW S) ∧ Hid (∀ j, 0 < j → j < k → gi C (j - 1) < gi C j) ∧ wr.cell? ⟨w.heap.size, 0, none⟩ = some (.slice ao S.length cap) ∧ w.heap.size < wr.heap.size ∧ Below w.heap.size w wr)
    (fun i _ => C.length - (intOf i).toNat)
  case atStart => exact ⟨0, Nat.zero_le _, rfl, Lib.hid fun j h => by omega, Lib.hid fun j _ h => by omega, cell_new _ _ _, lt_alloc _ _, by go_grown⟩
  case round =>
    obtain ⟨k, hk, rfl, HK, HA, c, l, B⟩ := hrel
    by_cases hlt : k < C.length
    · obtain ⟨b, o, rfl, hbl, hc⟩ := hC.at hlt
      have hck : wr.cell? ⟨b, o + k, none⟩ = some (.int .i64 (gi C k)) := kept_cell B (hc k hlt) hbl
      have hbr : b < wr.heap.size := lt_of_below B hbl
      have EW : IntKind.i64.wrap (nW S - 1) = nW S - 1 := IntWalk.i64_in _ ⟨by omega, by omega⟩
      by_cases hq : 0 ≤ gi C k ∧ gi C k < nW S
      · have B2 := inB_true (n := gi C k) (low := 0) (high := nW S - 1) hq.1 (by omega)
        have HQ := Lib.hid hq
        clear hq
        by_cases h0 : k = 0
        · have hd : decide ((0 : Int) < (k : Int)) = false := by simp; omega
          have hdN : decide (0 < k) = false := by simp; omega
          have H0 := Lib.hid h0
          clear hc h0
          go_wp2_with fail
          have fc := fam_cell c
          have fk := fam_cell hck
          refine wp_region_fam (by kernel_rfl) (by kernel_rfl) ?_
          repeat (go_big_quiet_step ((first | (go_at_call 47; exact fam_calls (l01N_sp ao S cap _ HSp.out (hS.below (B.trans ((fam_below _).mono B.size))))) | (go_at_call 108; exact fam_same (l01In_any _ _ _ _)))))
          refine wpQuiet_nil ?_
          rintro _ ⟨x, rfl⟩
          have hb2 := fam_below x
          generalize fam wr x = w2 at hb2 ⊢
          clear fc fk
          clear EW
          go_wp2
          go_roundw
          case rel =>
            refine ⟨k + 1, by omega, by go_num, Lib.hid fun j hj => ?_, Lib.hid fun j h0 hj => by have := H0.out; omega, kept_cell hb2 c l, lt_of_below hb2 l, B.trans (hb2.mono B.size)⟩
            by_cases e : j = k
            · subst e; exact HQ.out
            · exact HK.out j (by omega)
          case measure => simp [intOf]; omega
        · obtain ⟨m, rfl⟩ : ∃ m, k = m + 1 := ⟨k - 1, by omega⟩
          have hcm : wr.cell? ⟨b, o + m, none⟩ = some (.int .i64 (gi C m)) := kept_cell B (hc m (by omega)) hbl
          have hd : decide ((0 : Int) < ((m + 1 : Nat) : Int)) = true := by simp; try omega
          have hd2 : decide ((0 : Int) < (m : Int) + 1) = true := by simp; try omega
          have hdN : decide (0 < m + 1) = true := by simp
          have E1 : IntKind.i64.wrap ((m : Int) + 1 - 1) = (m : Int) := by rw [IntWalk.i64_in _ ⟨by omega, by omega⟩]; omega
          have E2 : IntKind.i64.wrap (m : Int) = (m : Int) := IntWalk.i64_in _ ⟨by omega, by omega⟩
          have i1 : (0 : Int) ≤ (m : Int) := by omega
          have i2 : (m : Int) < (C.length : Int) := by omega
          have i3 : (m : Int) + 1 < (C.length : Int) := by omega
          have i4 : (0 : Int) ≤ (m : Int) + 1 := by omega
          clear hc h0
          by_cases ha : gi C m < gi C (m + 1)
          · have hda : decide (gi C (m + 1) ≤ gi C m) = false := by simpa using ha
            have HB := Lib.hid ha
            clear ha
            go_wp2_with fail
            go_region_held3 (fun w' => w'.cell? ⟨b, o + (m + 1), none⟩ = some (.int .i64 (gi C (m + 1))) ∧ w'.cell? ⟨w.heap.size, 0, none⟩ = some (.slice ao S.length cap) ∧ w'.cell? ⟨b, o + m, none⟩ = some (.int .i64 (gi C m))) (first | exact ⟨hck, c, hcm⟩ | exact ⟨kept_cell hb2 hck hbr, kept_cell hb2 c l, kept_cell hb2 hcm hbr⟩) (first | (go_at_call 47; refine (l01N_sp ao S cap _ HSp.out (hS.below B.drew)).mono ?_; rintro e w2 ⟨rfl, hb2'⟩; have hb2 : Below wr.heap.size wr w2 := (Below.refl wr.heap.size wr).drew.trans hb2') | (go_at_call 108; refine (l01In_any _ _ _ _).mono ?_; rintro e w3 ⟨rfl, rfl⟩))
            clear EW E1 E2
            go_wp2
            go_roundw
            case rel =>
              refine ⟨m + 1 + 1, by omega, by go_num, Lib.hid fun j hj => ?_, Lib.hid fun j h0 hj => ?_, kept_cell hb2 c l, lt_of_below hb2 l, B.trans (hb2.mono B.size)⟩
              · by_cases e : j = m + 1
                · subst e; exact HQ.out
                · exact HK.out j (by omega)
              · by_cases e : j = m + 1
                · subst e; exact HB.out
                · exact HA.out j h0 (by omega)
            case measure => simp [intOf]; omega
          · have hda : decide (gi C (m + 1) ≤ gi C m) = true := by simpa using ha
            have HB := Lib.hid (codeB_desc (S := S) (C := C) (k := m + 1) (by omega) hlt ha)
            clear ha
            go_wp2_with fail
            go_region_held3 (fun w' => w'.cell? ⟨b, o + (m + 1), none⟩ = some (.int .i64 (gi C (m + 1))) ∧ w'.cell? ⟨w.heap.size, 0, none⟩ = some (.slice ao S.length cap) ∧ w'.cell? ⟨b, o + m, none⟩ = some (.int .i64 (gi C m))) (first | exact ⟨hck, c, hcm⟩ | exact ⟨kept_cell hb2 hck hbr, kept_cell hb2 c l, kept_cell hb2 hcm hbr⟩) (first | (go_at_call 47; refine (l01N_sp ao S cap _ HSp.out (hS.below B.drew)).mono ?_; rintro e w2 ⟨rfl, hb2'⟩; have hb2 : Below wr.heap.size wr w2 := (Below.refl wr.heap.size wr).drew.trans hb2') | (go_at_call 108; refine (l01In_any _ _ _ _).mono ?_; rintro e w3 ⟨rfl, rfl⟩))
            clear EW E1 E2
            go_wp2
            go_ret
            exact ⟨ret_bool HB.out.symm, B.trans (hb2.mono B.size)⟩
      · have B2 := inB_false (n := gi C k) (low := 0) (high := nW S - 1) (by omega)
        have HB := Lib.hid (codeB_bad (S := S) (C := C) hlt hq)
        clear hq hc
        go_wp2_with fail
        have fc := fam_cell c
        have fk := fam_cell hck
        refine wp_region_fam (by kernel_rfl) (by kernel_rfl) ?_
        repeat (go_big_quiet_step ((first | (go_at_call 47; exact fam_calls (l01N_sp ao S cap _ HSp.out (hS.below (B.trans ((fam_below _).mono B.size))))) | (go_at_call 108; exact fam_same (l01In_any _ _ _ _)))))
        refine wpQuiet_nil ?_
        rintro _ ⟨x, rfl⟩
        have hb2 := fam_below x
        generalize fam wr x = w2 at hb2 ⊢
        clear fc fk
        clear EW
        go_wp2
        go_ret
        exact ⟨ret_bool HB.out.symm, B.trans (hb2.mono B.size)⟩
    · have HB := Lib.hid (codeB_ok (S := S) (C := C) (fun i hi => HK.out i (by omega)) (fun i h0 hi => HA.out i h0 (by omega)))
      go_wp2
      go_ret
      exact ⟨ret_bool HB.out.symm, B⟩

set_option maxHeartbeats 1000000 in
theorem l01Given_any (ao : Option Addr) (S : List Int) (cap : Nat) (hn : S.length ≤ 4294967296) (ac : Option Addr) (C : List Int) (capc : Nat) (hnc : C.length ≤ 4294967296) (w : World) (hS : Ints w ao S) (hC : Ints w ac C) :
    Calls Tryz.prog 71 #[.agg #[.slice ao S.length cap], .slice ac C.length capc] w fun e w' => e = .returned (.int .i64 (eCode S C)) ∧ Below w.heap.size w w' := by
  have B0 : Below w.heap.size w (w.alloc (.cells #[.slice ao S.length cap] 26)) := by go_grown
  by_cases hsp : isSp S = true
  · have HSp := Lib.hid ((isSp_iff S).1 hsp)
    cases hcb : codeB S C with
    | true =>
      have HE := Lib.hid (eCode_ok hsp hcb)
      go_enter Tryz.func71, Tryz.ntmps71
      go_wp2_with fail
      refine (l01Is_any ao S cap _ hn (hS.below B0)).mono ?_
      rintro e w1 ⟨rfl, hb⟩
      have c1 := kept_cell hb (cell_new w (.slice ao S.length cap) 26) (lt_alloc _ _)
      have B1 : Below w.heap.size w w1 := B0.trans (hb.mono B0.size)
      go_wp2_with fail
      refine (l01Code_any ao S cap HSp.out ac C capc hnc _ (hS.below B1) (hC.below B1)).mono ?_
      rintro e w2 ⟨rfl, hb2⟩
      go_wp2_with fail
      go_ret
      exact ⟨ret_int HE.out.symm, B1.trans (hb2.mono B1.size)⟩
    | false =>
      have HE := Lib.hid (eCode_bad hsp hcb)
      go_enter Tryz.func71, Tryz.ntmps71
      go_wp2_with fail
      refine (l01Is_any ao S cap _ hn (hS.below B0)).mono ?_
      rintro e w1 ⟨rfl, hb⟩
      have c1 := kept_cell hb (cell_new w (.slice ao S.length cap) 26) (lt_alloc _ _)
      have B1 : Below w.heap.size w w1 := B0.trans (hb.mono B0.size)
      go_wp2_with fail
      refine (l01Code_any ao S cap HSp.out ac C capc hnc _ (hS.below B1) (hC.below B1)).mono ?_
      rintro e w2 ⟨rfl, hb2⟩
      go_wp2_with fail
      go_ret
      exact ⟨ret_int HE.out.symm, B1.trans (hb2.mono B1.size)⟩
  · have hsp' : isSp S = false := by simpa using hsp
    have HE := Lib.hid (eCode_inv (C := C) hsp')
    clear hsp
    go_enter Tryz.func71, Tryz.ntmps71
    go_wp2_with (go_at_call 55; refine (l01Is_any ao S cap _ hn (hS.below B0)).mono ?_; rintro e w1 ⟨rfl, hb⟩)
    go_ret
    exact ⟨ret_int HE.out.symm, B0.trans (hb.mono B0.size)⟩

theorem ret_bi {a b : Bool} {c d : Int} (h1 : a = b) (h2 : c = d) : Ending.returned (.tuple #[.bool a, .int .i64 c]) = .returned (.tuple #[.bool b, .int .i64 d]) := by rw [h1, h2]

end Go.Proofs.YtcnnijeokefboaaGreatDoor

namespace Go.Proofs.YtcnnijeokefboaaGreatDoor
open Go.RowKit Cv
set_option linter.unusedVariables false
set_option linter.unusedSimpArgs false
set_option maxRecDepth 100000

theorem cmpOr2 (ao : Option Addr) (x y : Int) (cap : Nat) (w : World) (h : Ints w ao [x, y]) :
    Calls Tryz.prog 99 #[.slice ao 2 cap] w fun e w' => e = .returned (.int .i64 (orI x y)) ∧ w = w' := by
  obtain ⟨b, o, rfl, hb, hc⟩ := h.at (i := 0) (by simp)
  have c0 : w.cell? ⟨b, o, none⟩ = some (.int .i64 x) := by simpa [gi] using hc 0 (by simp)
  have c1 : w.cell? ⟨b, o + 1, none⟩ = some (.int .i64 y) := by simpa [gi] using hc 1 (by simp)
  clear hc h
  by_cases hx : x = 0
  · subst hx
    have HO : Hid (orI 0 y = y) := Lib.hid rfl
    by_cases hy : y = 0
    · subst hy
      go_enter Tryz.func99, Tryz.ntmps99
      go_wp2
      go_rounds 3
      go_ret
      exact ⟨rfl, rfl⟩
    · have hn : (y != 0) = true := by simpa using hy
      go_enter Tryz.func99, Tryz.ntmps99
      go_wp2
      go_rounds 2
      go_ret
      exact ⟨ret_int HO.out.symm, rfl⟩
  · have HO : Hid (orI x y = x) := Lib.hid (by unfold orI; rw [if_neg hx])
    have hn : (x != 0) = true := by simpa using hx
    clear hx
    go_enter Tryz.func99, Tryz.ntmps99
    go_wp2
    go_rounds 1
    go_ret
    exact ⟨ret_int HO.out.symm, rfl⟩

set_option maxHeartbeats 1000000 in
theorem codeAndWordsError_any (ao : Option Addr) (S : List Int) (cap : Nat) (hn : S.length ≤ 4294967296) (ac : Option Addr) (C : List Int) (capc : Nat) (hnc : C.length ≤ 4294967296) (at' : Option Addr) (T : List Int) (capt : Nat) (hnt : T.length ≤ 4294967296) (w : World) (hS : Ints w ao S) (hC : Ints w ac C) (hT : Ints w at' T) :
    Calls Tryz.prog 83 #[.agg #[.slice ao S.length cap], .slice ac C.length capc, .slice at' T.length capt] w fun e w' => e = .returned (.int .i64 (eCW S C T)) ∧ Below w.heap.size w w' := by
  go_enter Tryz.func83, Tryz.ntmps83
  go_wp2_with fail
  have c0 := cell_new w (.slice ao S.length cap) 26
  have B0 : Below w.heap.size w (w.alloc (.cells #[.slice ao S.length cap] 26)) := by go_grown
  go_region_held3 (fun w' => w'.cell? ⟨w.heap.size, 0, none⟩ = some (.slice ao S.length cap)) (first | exact c0 | exact kept_cell hb1 c0 (lt_alloc _ _) | exact kept_cell hb2 (kept_cell hb1 c0 (lt_alloc _ _)) (lt_of_below hb1 (lt_alloc _ _)) | exact kept_cell hb3 (kept_cell hb1 c0 (lt_alloc _ _)) (lt_of_below hb1 (lt_alloc _ _))) (first | (go_at_call 57; refine (codeError_any ao S cap hn ac C capc hnc _ (hS.below B0.drew) (hC.below B0.drew)).mono ?_; rintro e w1 ⟨rfl, hb1'⟩; have hb1 := (Below.refl _ (w.alloc (.cells #[.slice ao S.length cap] 26))).drew.trans hb1'; have B1 := B0.trans (hb1.mono B0.size)) | (go_at_call 94; refine (wordsError_any ao S cap hn at' T capt hnt _ (hS.below B1) (hT.below B1)).mono ?_; rintro e w2 ⟨rfl, hb2⟩; have hb3 := hb2.alloc (o := .cells #[.int .i64 (eCode S C), .int .i64 (eWords S T)] 2) hb2.size) | (go_at_call 99; refine (cmpOr2 _ (eCode S C) (eWords S T) _ _ (ints_new2 _ _ _ _ rfl)).mono ?_; rintro e w3 ⟨rfl, rfl⟩))
  go_wp2
  go_ret
  exact ⟨rfl, B1.trans (hb3.mono B1.size)⟩

theorem codeAndWordsError_n (ao : Option Addr) (S : List Int) (cap : Nat) (hn : S.length ≤ 4294967296) (ac : Option Addr) (C : List Int) (capc : Nat) (hnc : C.length ≤ 4294967296) (at' : Option Addr) (T : List Int) (K capt : Nat) (hK : K = T.length) (hnt : K ≤ 4294967296) (w : World) (hS : Ints w ao S) (hC : Ints w ac C) (hT : Ints w at' T) :
    Calls Tryz.prog 83 #[.agg #[.slice ao S.length cap], .slice ac C.length capc, .slice at' K capt] w fun e w' => e = .returned (.int .i64 (eCW S C T)) ∧ Below w.heap.size w w' := by
  subst hK; exact codeAndWordsError_any ao S cap hn ac C capc hnc at' T capt hnt w hS hC hT

end Go.Proofs.YtcnnijeokefboaaGreatDoor

namespace Go.Proofs.YtcnnijeokefboaaGreatDoor
open Go.RowKit Cv
set_option linter.unusedVariables false
set_option linter.unusedSimpArgs false
set_option maxRecDepth 100000

theorem shifted_any (ao : Option Addr) (S : List Int) (cap : Nat) (hSp : Sp S) (ac : Addr) (C : List Int) (capc : Nat) (hl : C.length ≤ 1024) (hC : ∀ i, i < C.length → 0 ≤ gi C i ∧ gi C i ≤ 9223372036854775807) (x : Int) (hx : 0 ≤ x ∧ x ≤ 9223372036854775807) (w : World) (hS : Ints w ao S) (hCI : Ints w (some ac) C) :
    Calls Tryz.prog 104 #[.agg #[.slice ao S.length cap], .slice (some ac) C.length capc, .int .i64 x] w fun e w' => ∃ v, e = .returned v ∧ OwnInts w' w.heap.size v (putTo [] (fun i => sumW S (gi C i) x) C.length) ∧ Below w.heap.size w w' := by
  go_enter Tryz.func104, Tryz.ntmps104
  go_wp2_with fail
  have HC := Lib.hid hC
  have B0 : Below w.heap.size w (w.alloc (.cells #[.slice ao S.length cap] 26)) := by go_grown
  clear hC
  go_loopw [7, 12] (fun vo i wr => ∃ (k g' c' : Nat), k ≤ C.length ∧ i = .int .i64 k ∧ vo = .slice (some ⟨g', 0, none⟩) (putTo [] (fun i => sumW S (gi C i) x) k).length c' ∧ OwnInts wr (w.heap.size + 1) (.slice (some ⟨g', 0, none⟩) (putTo [] (fun i => sumW S (gi C i) x) k).length c') (putTo [] (fun i => sumW S (gi C i) x) k) ∧ wr.cell? ⟨w.heap.size, 0, none⟩ = some (.slice ao S.length cap) ∧ w.heap.size < wr.heap.size ∧ Below w.heap.size w wr) (fun _ i _ => C.length - (intOf i).toNat)
  case atStart => exact ⟨0, w.heap.size + 1, 0, Nat.zero_le _, rfl, rfl, own_empty _ _ (by simp) (by simp), kept_cell ((Below.refl _ (w.alloc (.cells #[.slice ao S.length cap] 26))).alloc (Nat.le_refl _) _) (cell_new _ _ _) (lt_alloc _ _), by simp; omega, by go_grown⟩
  case round =>
    obtain ⟨k, g1, c1, hk, rfl, rfl, own, c, l, B⟩ := hrel
    have hpl := putTo_len [] (fun i => sumW S (gi C i) x) k
    simp only [List.length_nil, Nat.zero_add] at hpl
    by_cases hlt : k < C.length
    · obtain ⟨b, o, he, hbl, hc⟩ := hCI.at hlt
      obtain rfl : ac = ⟨b, o, none⟩ := by simpa using he
      have hck := kept_cell B (hc k hlt) hbl
      obtain ⟨u1, u2⟩ := HC.out k hlt
      have hs := B.size
      clear hc he
      obtain ⟨P, hP⟩ : ∃ P, P = (putTo [] (fun i => sumW S (gi C i) x) k).length := ⟨_, rfl⟩
      rw [← hP] at own ⊢
      have HP := Lib.hid hP
      have hP2 : P ≤ 1024 := by omega
      clear hP
      go_wp2_with fail
      go_region_held3 (fun w' => w'.cell? ⟨w.heap.size, 0, none⟩ = some (.slice ao S.length cap) ∧ w'.cell? ⟨b, o + k, none⟩ = some (.int .i64 (gi C k))) (first | exact ⟨c, hck⟩ | exact ⟨k2, m2⟩ | exact ⟨k3, m3⟩) (first | (go_at_call 87; refine (l01Sum_any ao S cap hSp (gi C k) x u1 u2 hx.1 hx.2 _ (hS.below B.drew)).mono ?_; rintro e w2 ⟨rfl, hb2'⟩; have hb2 : Below wr.heap.size wr w2 := (Below.refl _ wr).drew.trans hb2'; have k2 := kept_cell hb2 c l; have l2 := lt_of_below hb2 l; have m2 := kept_cell hb2 hck (Nat.lt_of_lt_of_le hbl hs); have n2 : b < w2.heap.size := Nat.lt_of_lt_of_le hbl (Nat.le_trans hs hb2.size); have own1 := own.below hb2; have B2 := B.trans (hb2.mono hs); have hp := l01Put_any (w.heap.size + 1) g1 c1 (putTo [] (fun i => sumW S (gi C i) x) k) (sumW S (gi C k) x) w2 (by rw [← HP.out]; omega) (by rw [← HP.out]; exact own1); rw [← HP.out] at hp) | (go_at_call 123; refine hp.mono ?_; rintro e w3 ⟨g2, c2, rfl, own2, hb3⟩; have k3 := kept_cell hb3 k2 l2; have l3 := lt_of_below hb3 l2; have m3 := kept_cell hb3 m2 n2; have B3 := B2.trans (hb3.mono B2.size)))
      have e1 : Hid (putL (putTo [] (fun i => sumW S (gi C i) x) k) (sumW S (gi C k) x) = putTo [] (fun i => sumW S (gi C i) x) (k + 1)) := Lib.hid rfl
      rw [e1.out] at own2 ⊢
      clear own hp hck m2 m3 k2
      obtain ⟨P2, hP2⟩ : ∃ P, P = (putTo [] (fun i => sumW S (gi C i) x) (k + 1)).length := ⟨_, rfl⟩
      rw [← hP2] at own2 ⊢
      go_wp2_with fail
      go_roundw
      case rel => exact ⟨k + 1, g2, c2, by omega, by go_num, by rw [← hP2], by rw [← hP2]; exact own2, k3, l3, B3⟩
      case measure => simp [intOf]; omega
    · have ek : Hid (k = C.length) := Lib.hid (by omega)
      obtain ⟨P, hP⟩ : ∃ P, P = (putTo [] (fun i => sumW S (gi C i) x) k).length := ⟨_, rfl⟩
      rw [← hP] at own ⊢
      go_wp2_with fail
      go_ret
      exact ⟨_, rfl, by rw [← ek.out]; exact own.rebase (by omega), B⟩


end Go.Proofs.YtcnnijeokefboaaGreatDoor

namespace Go.Proofs.YtcnnijeokefboaaGreatDoor
open Go.RowKit Cv
set_option linter.unusedVariables false
set_option linter.unusedSimpArgs false
set_option maxRecDepth 100000

theorem l01Has_any (at' : Option Addr) (T : List Int) (cap : Nat) (x : Int) (hl : T.length ≤ 4294967296) (w : World) (hT : Ints w at' T) :
    Calls Tryz.prog 103 #[.slice at' T.length cap, .int .i64 x] w fun e w' => e = .returned (.bool (decide (x ∈ T))) ∧ w = w' := by
  go_enter Tryz.func103, Tryz.ntmps103
  go_wp2_with fail
  go_loopw [5] (fun i wr => ∃ k : Nat, k ≤ T.length ∧ i = .int .i64 k ∧ Hid (∀ j, j < k → gi T j ≠ x) ∧ wr = w) (fun i _ => T.length - (intOf i).toNat)
  case atStart => exact ⟨0, Nat.zero_le _, rfl, Lib.hid fun j hj => by omega, rfl⟩
  case round =>
    obtain ⟨k, hk, rfl, HA, rfl⟩ := hrel
    by_cases hlt : k < T.length
    · obtain ⟨b, o, rfl, hbl, hc⟩ := hT.at hlt
      have hck := hc k hlt
      clear hc
      by_cases he : gi T k = x
      · have hq : (gi T k == x) = true := by simpa using he
        have HX : Hid (decide (x ∈ T) = true) := Lib.hid (by rw [decide_eq_true_eq, ← he]; exact gi_mem hlt)
        clear he
        go_wp2_with fail
        go_ret
        exact ⟨ret_bool HX.out.symm, rfl⟩
      · have hq : (gi T k == x) = false := by simpa using he
        have HX := Lib.hid he
        clear he
        go_wp2_with fail
        go_roundw
        case rel =>
          refine ⟨k + 1, by omega, by go_num, Lib.hid fun j hj => ?_, by first | rfl | trivial⟩
          by_cases e : j = k
          · subst e; exact HX.out
          · exact HA.out j (by omega)
        case measure => simp [intOf]; omega
    · have ek : Hid (k = T.length) := Lib.hid (by omega)
      have HX : Hid (decide (x ∈ T) = false) := Lib.hid (by
        rw [decide_eq_false_iff_not]; intro hm
        obtain ⟨j, hj, e⟩ := mem_gi hm
        exact HA.out j (by rw [ek.out]; exact hj) e)
      go_wp2_with fail
      go_ret
      exact ⟨ret_bool HX.out.symm, rfl⟩

end Go.Proofs.YtcnnijeokefboaaGreatDoor

namespace Go.Proofs.YtcnnijeokefboaaGreatDoor
open Go.RowKit Cv
set_option linter.unusedVariables false
set_option linter.unusedSimpArgs false

theorem own_acr {W W' : World} {base g n c m : Nat} {L : List Int} (h : OwnInts W base (.slice (some ⟨g, 0, none⟩) n c) L) (hb : Below m W W') (hg : g < m) : OwnInts W' base (.slice (some ⟨g, 0, none⟩) n c) L := by
  refine ⟨h.1, ?_⟩
  rcases h.2 with h2 | ⟨g', c', cur, hv, hb', hh, r⟩
  · exact .inl h2
  · simp only [Value.slice.injEq, Option.some.injEq, Addr.mk.injEq, and_true, true_and] at hv
    obtain ⟨rfl, rfl, rfl⟩ := hv
    exact .inr ⟨g, c, cur, by simp, hb', by rw [hb.block g hg]; exact hh, r⟩

end Go.Proofs.YtcnnijeokefboaaGreatDoor
