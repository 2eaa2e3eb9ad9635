/-
  Texts put together: Nums, Ldr, Cls, Clone, SpnI. By an AI agent.
-/
import Derived.Test.YtcnnijeokefboaaGreatDoorMathB
import Derived.Test.YtcnnijeokefboaaGreatDoorSums
import Derived.Shelf.Abstract
import Derived.Deep.RegionHeld3
import Derived.Test.YtcnnijeokefboaaGreatDoorMem
import Derived.Test.YtcnnijeokefboaaGreatDoorSums2
import Derived.Deep.WholeRow
import Derived.Test.YtcnnijeokefboaaGreatDoorPut
import Derived.Test.YtcnnijeokefboaaGreatDoorAppend
import Derived.Test.YtcnnijeokefboaaGreatDoorSort
namespace Go.Proofs.YtcnnijeokefboaaGreatDoor
open Go.RowKit Go.Shelf Cv
set_option linter.unusedVariables false
set_option linter.unusedSimpArgs false
set_option maxRecDepth 100000

/-- a function value that answers D at the numbers of L, in every world in which what lay below n lies still -/
def FunN (f : Nat) (pre post : Array Value) (D : Int → Int) (n : Nat) (w : World) (L : List Int) : Prop :=
  ∀ (W : World) (x : Int), Below n w W → x ∈ L → Calls Tryz.prog f (pre.push (.int .i64 x) ++ post) W fun e w' => e = .returned (.int .i64 (D x)) ∧ Below W.heap.size W w'

set_option maxHeartbeats 1000000 in
theorem numbers_any (a : Option Addr) (cap : Nat) (L : List Int) (hl : L.length ≤ 1048576) (f : Nat) (eg : ∀ args w, (callFunc f args).run Tryz.prog w = .ok (.enter f args) w) (pre post : Array Value) (D : Int → Int) (w : World) (hL : Ints w a L) (hp : FunN f pre post D w.heap.size w L) :
    Calls Tryz.prog 145 #[.slice a L.length cap, .func (.func f) pre post] w fun e w' => ∃ g, e = .returned (.slice (some ⟨g, 0, none⟩) L.length L.length) ∧ OwnInts w' w.heap.size (.slice (some ⟨g, 0, none⟩) L.length L.length) (L.map D) ∧ Below w.heap.size w w' := by
  obtain ⟨i0, hi, hz0, hz1, hz2⟩ := info_parts infoI64
  have HP := Lib.hid hp
  clear hp
  go_enter Tryz.func145, Tryz.ntmps145
  go_wp2_with (at_make; refine wpList_make_full _ rfl _ _ 24 rfl w.heap.size 2 i0 (.int .i64 0) 1 Tryz.underlying24 hi hz0 hz1 .i64 .i64 _ _ L.length rfl rfl rfl rfl (by rw [hz2]; omega) (by unfold maxLen; omega) (Nat.le_refl _) ?_; intro w1 hown hgrow)
  have B1 : Below w.heap.size w w1 := below_grown0 hgrow
  replace hown := own_made hown
  clear hgrow
  go_loopw [13] (fun i wr => ∃ (k : Nat) (T : List Int), k ≤ L.length ∧ i = .int .i64 k ∧ OwnInts wr w.heap.size (.slice (some ⟨w.heap.size, 0, none⟩) L.length L.length) T ∧ Hid (T.length = L.length ∧ ∀ j, j < k → gi T j = D (gi L j)) ∧ Below w.heap.size w wr) (fun i _ => L.length - (intOf i).toNat)
  case atStart => exact ⟨0, _, Nat.zero_le _, rfl, hown, Lib.hid ⟨by simp, fun j h => by omega⟩, B1⟩
  case round =>
    clear hown B1
    obtain ⟨k, T, hk, rfl, own, HT, B⟩ := hrel
    by_cases hlt : k < L.length
    · obtain ⟨b, o, rfl, hbl, hc⟩ := hL.at hlt
      have hck := kept_cell B (hc k hlt) hbl
      have hcall := HP.out wr (gi L k) B (gi_mem hlt)
      have hs := B.size
      clear hc
      go_wp2_with fail
      refine hcall.mono ?_
      rintro e w2 ⟨rfl, hb⟩
      have own2 := own.below hb
      have B2 := B.trans (hb.mono hs)
      have hc2 := own2.cell (k := k) (by rw [HT.out.1]; exact hlt)
      have hf2 := own2.free k
      clear hb own hck B
      go_wp2_with fail
      go_roundw
      case rel =>
        refine ⟨k + 1, _, by omega, by go_num, own2.stored k (D (gi L k)), Lib.hid ⟨by rw [List.length_set]; exact HT.out.1, fun j hj => ?_⟩, B2.setCell (by simp) _⟩
        rw [gi_set _ _ _ _ (by rw [HT.out.1]; exact hlt)]
        by_cases e : j = k
        · subst e; rw [if_pos rfl]
        · rw [if_neg e]; exact HT.out.2 j (by omega)
      case measure => simp [intOf]; omega
    · have hT : T = L.map D := ext_gi (by rw [List.length_map]; exact HT.out.1) fun j hj => by
        rw [HT.out.1] at hj
        rw [HT.out.2 j (by omega)]; simp [gi, hj]
      rw [hT] at own
      clear hT
      go_wp2_with fail
      go_ret
      exact ⟨_, rfl, own, B⟩

/-- the weight of a word, as a function value over the boxed space -/
theorem weight_fun (sb : Nat) (ao : Option Addr) (S : List Int) (cap : Nat) (hSp : Sp S) (C : List Int) (hC : ∀ x, x ∈ C → 0 ≤ x ∧ x ≤ 9223372036854775807) (n : Nat) (w : World) (hsb : sb < n) (hn : n ≤ w.heap.size) (c : w.cell? ⟨sb, 0, none⟩ = some (.slice ao S.length cap)) (hS : ∀ W, Below n w W → Ints W ao S) :
    FunN 146 #[] #[.pointer (some ⟨sb, 0, none⟩)] (dist S 0) n w C := by
  intro W x hb hx
  obtain ⟨x1, x2⟩ := hC x hx
  have cW := kept_cell hb c hsb
  have hSW := hS W hb
  show Calls Tryz.prog 146 #[.int .i64 x, .pointer (some ⟨sb, 0, none⟩)] W _
  go_enter Tryz.func146, Tryz.ntmps146
  go_wp2_with fail
  refine (distance_any ao S cap hSp 0 x (by omega) (by omega) x1 x2 _ hSW).mono ?_
  rintro e w2 ⟨rfl, hb2⟩
  go_wp2_with fail
  go_ret
  exact ⟨rfl, hb2⟩

theorem weights_any (ao : Option Addr) (S : List Int) (cap : Nat) (hSp : Sp S) (ac : Option Addr) (C : List Int) (capc : Nat) (hl : C.length ≤ 1048576) (hC : ∀ x, x ∈ C → 0 ≤ x ∧ x ≤ 9223372036854775807) (w : World) (hS : Ints w ao S) (hCI : Ints w ac C) :
    Calls Tryz.prog 119 #[.agg #[.slice ao S.length cap], .slice ac C.length capc] w fun e w' => ∃ g, e = .returned (.slice (some ⟨g, 0, none⟩) C.length C.length) ∧ OwnInts w' w.heap.size (.slice (some ⟨g, 0, none⟩) C.length C.length) (C.map (dist S 0)) ∧ Below w.heap.size w w' := by
  have B0 : Below w.heap.size w (w.alloc (.cells #[.slice ao S.length cap] 26)) := by go_grown
  have c0 := cell_new w (.slice ao S.length cap) 26
  have hf := weight_fun w.heap.size ao S cap hSp C hC _ _ (lt_alloc w (.cells #[.slice ao S.length cap] 26)) (Nat.le_refl _) c0 (fun W hb => (hS.below B0).below hb)
  have HF := Lib.hid hf
  clear hf c0
  go_enter Tryz.func119, Tryz.ntmps119
  go_wp2_with fail
  refine (numbers_any ac capc C hl 146 (enters_of Tryz.func146 (by kernel_rfl) rfl) #[] #[.pointer (some ⟨w.heap.size, 0, none⟩)] (dist S 0) _ (hCI.below B0) HF.out).mono ?_
  rintro e w2 ⟨g, rfl, own, hb⟩
  go_wp2_with fail
  go_ret
  exact ⟨_, rfl, own.rebase (by simp), B0.trans (hb.mono B0.size)⟩

end Go.Proofs.YtcnnijeokefboaaGreatDoor

namespace Go.Proofs.YtcnnijeokefboaaGreatDoor
open Go.RowKit Go.Shelf Cv
set_option linter.unusedVariables false
set_option linter.unusedSimpArgs false
set_option maxRecDepth 100000

theorem isNaN_any (x : Int) (w : World) : Calls Tryz.prog 166 #[.int .i64 x] w fun e w' => e = .returned (.bool false) ∧ w = w' := by
  go_enter Tryz.func166, Tryz.ntmps166
  go_wp2
  go_ret
  exact ⟨ret_bool (by simp), rfl⟩

theorem compare_any (x y : Int) (w : World) : Calls Tryz.prog 152 #[.int .i64 x, .int .i64 y] w fun e w' => e = .returned (.int .i64 (cmpI x y)) ∧ w = w' := by
  by_cases h1 : x < y
  · have H : Hid (cmpI x y = -1) := Lib.hid (by unfold cmpI; rw [if_pos h1])
    go_enter Tryz.func152, Tryz.ntmps152
    go_wp2_with fail
    refine (isNaN_any x w).mono ?_
    rintro e w1 ⟨rfl, rfl⟩
    go_wp2_with fail
    refine (isNaN_any y w).mono ?_
    rintro e w1 ⟨rfl, rfl⟩
    go_wp2_with fail
    go_ret
    exact ⟨ret_int H.out.symm, rfl⟩
  · by_cases h2 : y < x
    · have H : Hid (cmpI x y = 1) := Lib.hid (by unfold cmpI; rw [if_neg h1, if_pos h2])
      go_enter Tryz.func152, Tryz.ntmps152
      go_wp2_with fail
      refine (isNaN_any x w).mono ?_
      rintro e w1 ⟨rfl, rfl⟩
      go_wp2_with fail
      refine (isNaN_any y w).mono ?_
      rintro e w1 ⟨rfl, rfl⟩
      go_wp2_with fail
      go_ret
      exact ⟨ret_int H.out.symm, rfl⟩
    · have H : Hid (cmpI x y = 0) := Lib.hid (by unfold cmpI; rw [if_neg h1, if_neg h2])
      go_enter Tryz.func152, Tryz.ntmps152
      go_wp2_with fail
      refine (isNaN_any x w).mono ?_
      rintro e w1 ⟨rfl, rfl⟩
      go_wp2_with fail
      refine (isNaN_any y w).mono ?_
      rintro e w1 ⟨rfl, rfl⟩
      go_wp2_with fail
      go_ret
      exact ⟨ret_int H.out.symm, rfl⟩

theorem cmpOrI2 (ao : Option Addr) (x y : Int) (cap : Nat) (w : World) (h : Ints w ao [x, y]) :
    Calls Tryz.prog 151 #[.slice ao 2 cap] w fun e w' => e = .returned (.int .i64 (orI x y)) ∧ w = w' := by
  obtain ⟨b, o, rfl, hb, hc⟩ := h.at (i := 0) (by simp)
  have c0 : w.cell? ⟨b, o, none⟩ = some (.int .i64 x) := by simpa [gi] using hc 0 (by simp)
  have c1 : w.cell? ⟨b, o + 1, none⟩ = some (.int .i64 y) := by simpa [gi] using hc 1 (by simp)
  clear hc h
  by_cases hx : x = 0
  · subst hx
    have HO : Hid (orI 0 y = y) := Lib.hid rfl
    by_cases hy : y = 0
    · subst hy
      go_enter Tryz.func151, Tryz.ntmps151
      go_wp2
      go_rounds 3
      go_ret
      exact ⟨rfl, rfl⟩
    · have hn : (y != 0) = true := by simpa using hy
      go_enter Tryz.func151, Tryz.ntmps151
      go_wp2
      go_rounds 2
      go_ret
      exact ⟨ret_int HO.out.symm, rfl⟩
  · have HO : Hid (orI x y = x) := Lib.hid (by unfold orI; rw [if_neg hx])
    have hn : (x != 0) = true := by simpa using hx
    clear hx
    go_enter Tryz.func151, Tryz.ntmps151
    go_wp2
    go_rounds 1
    go_ret
    exact ⟨ret_int HO.out.symm, rfl⟩

/-- a function value that compares two numbers of L as words -/
def CmpN (f : Nat) (pre post : Array Value) (S : List Int) (n : Nat) (w : World) (L : List Int) : Prop :=
  ∀ (W : World) (x y : Int), Below n w W → x ∈ L → y ∈ L → Calls Tryz.prog f (pre ++ (#[.int .i64 x, .int .i64 y] ++ post)) W fun e w' => e = .returned (.int .i64 (cmpW S x y)) ∧ Below W.heap.size W w'

set_option maxHeartbeats 1000000 in
theorem minFunc_any (a : Option Addr) (cap : Nat) (L : List Int) (S : List Int) (hl1 : 1 ≤ L.length) (hl : L.length ≤ 1048576) (f : Nat) (eg : ∀ args w, (callFunc f args).run Tryz.prog w = .ok (.enter f args) w) (pre post : Array Value) (w : World) (hL : Ints w a L) (hp : CmpN f pre post S w.heap.size w L) :
    Calls Tryz.prog 149 #[.slice a L.length cap, .func (.func f) pre post] w fun e w' => e = .returned (.int .i64 (ldrTo S L (L.length - 1))) ∧ Below w.heap.size w w' := by
  obtain ⟨b, o, rfl, hbl, hc⟩ := hL.at (show 0 < L.length by omega)
  have hc0 := hc 0 (by omega)
  rw [Nat.add_zero] at hc0
  have HC := Lib.hid hc
  have HP := Lib.hid hp
  have i0 : (0 : Int) < (L.length : Int) := by omega
  have i1 : ¬ (L.length : Int) < 1 := by omega
  clear hp hc hL
  go_enter Tryz.func149, Tryz.ntmps149
  go_wp2_with fail
  go_loopw [5, 6] (fun m i wr => ∃ k : Nat, k < L.length ∧ i = .int .i64 ((k : Int) + 1) ∧ m = .int .i64 (ldrTo S L k) ∧ Below w.heap.size w wr) (fun _ i _ => L.length + 1 - (intOf i).toNat)
  case atStart => exact ⟨0, by omega, rfl, rfl, Below.refl _ _⟩
  case round =>
    obtain ⟨k, hk, rfl, rfl, B⟩ := hrel
    have hs := B.size
    by_cases hlt : k + 1 < L.length
    · have e4 : (k : Int) + 1 < (L.length : Int) := by omega
      have e5 : (0 : Int) ≤ (k : Int) + 1 := by omega
      have e6 : ((k : Int) + 1).toNat = k + 1 := by omega
      have hck := kept_cell B (HC.out (k + 1) hlt) hbl
      have hcall := HP.out wr (gi L (k + 1)) (ldrTo S L k) B (gi_mem hlt) (ldrTo_mem S L k hk)
      have HN := Lib.hid (cmpW_neg S (gi L (k + 1)) (ldrTo S L k))
      have HD : Hid (ldrTo S L (k + 1) = if lgt S (gi L (k + 1)) (ldrTo S L k) = true then gi L (k + 1) else ldrTo S L k) := Lib.hid rfl
      obtain ⟨c, hcc⟩ : ∃ c, c = cmpW S (gi L (k + 1)) (ldrTo S L k) := ⟨_, rfl⟩
      rw [← hcc] at hcall HN
      obtain ⟨m, hm⟩ : ∃ m, m = ldrTo S L k := ⟨_, rfl⟩
      rw [← hm] at hcall HN HD ⊢
      clear hcc hm
      cases hq : lgt S (gi L (k + 1)) m with
      | true =>
        rw [hq] at HN HD
        have hd : decide (c < 0) = true := HN.out
        clear hq
        go_wp2_with fail
        refine hcall.mono ?_
        rintro e w2 ⟨rfl, hb⟩
        have hck2 := kept_cell hb hck (lt_of_below B hbl)
        have B2 := B.trans (hb.mono hs)
        clear hck B hcall hb
        go_wp2_with fail
        go_roundw
        case rel => exact ⟨k + 1, by omega, by go_num, by rw [HD.out]; rfl, B2⟩
        case measure => simp [intOf]; omega
      | false =>
        rw [hq] at HN HD
        have hd : decide (c < 0) = false := HN.out
        clear hq
        go_wp2_with fail
        refine hcall.mono ?_
        rintro e w2 ⟨rfl, hb⟩
        have B2 := B.trans (hb.mono hs)
        clear hck B hcall hb
        go_wp2_with fail
        go_roundw
        case rel => exact ⟨k + 1, by omega, by go_num, by rw [HD.out]; rfl, B2⟩
        case measure => simp [intOf]; omega
    · have ek : Hid (k = L.length - 1) := Lib.hid (by omega)
      have e4 : ¬ (k : Int) + 1 < (L.length : Int) := by omega
      go_wp2_with fail
      go_ret
      exact ⟨by rw [← ek.out]; rfl, B⟩

end Go.Proofs.YtcnnijeokefboaaGreatDoor

namespace Go.Proofs.YtcnnijeokefboaaGreatDoor
open Go.RowKit Go.Shelf Cv
set_option linter.unusedVariables false
set_option linter.unusedSimpArgs false
set_option maxRecDepth 100000

set_option maxHeartbeats 2000000 in
theorem leader_cmp (sb : Nat) (ao : Option Addr) (S : List Int) (cap : Nat) (hSp : Sp S) (L : List Int) (hL : ∀ x, x ∈ L → 0 ≤ x ∧ x ≤ 9223372036854775807) (n : Nat) (w : World) (hsb : sb < n) (hn : n ≤ w.heap.size) (cS : w.cell? ⟨sb, 0, none⟩ = some (.slice ao S.length cap)) (hSn : ∀ W, Below n w W → Ints W ao S) :
    CmpN 150 #[] #[.pointer (some ⟨sb, 0, none⟩)] S n w L := by
  intro W u x hb hu hx
  obtain ⟨u1, u2⟩ := hL u hu
  obtain ⟨x1, x2⟩ := hL x hx
  have c1 := kept_cell hb cS hsb
  have hSW := hSn W hb
  have sW := hb.size
  have ls : sb < W.heap.size := by omega
  have hsb2 : sb < W.drew.heap.size := ls
  clear cS hSn hb
  show Calls Tryz.prog 150 #[.int .i64 u, .int .i64 x, .pointer (some ⟨sb, 0, none⟩)] W _
  go_enter Tryz.func150, Tryz.ntmps150
  go_wp2_with fail
  refine wp_region_held_drew (S := fun w' => w'.cell? ⟨sb, 0, none⟩ = some (.slice ao S.length cap)) (by kernel_rfl) c1 (fun hHeld => ?_)
  refine wpAnyH_take (i := 0) (v := ?_) rfl (by kernel_rfl) (by kernel_rfl) (by kernel_rfl) (fun _ _ _ h => h) (Or.inl ⟨by rfl, ?_⟩) (by assumption) ?_
  rotate_left
  · (intro w hSw; (try dsimp only at hSw); go_simp; try (with_reducible rfl))
  (try simp only [Act.put, List.setIfInBounds_toArray, List.set_cons_zero, List.set_cons_succ])
  refine wpAnyH_take (i := 1) (v := ?_) rfl (by kernel_rfl) (by kernel_rfl) (by kernel_rfl) (fun _ _ _ h => h) (Or.inl ⟨by rfl, ?_⟩) (by assumption) ?_
  rotate_left
  · (intro w hSw; (try dsimp only at hSw); go_simp; try (with_reducible rfl))
  (try simp only [Act.put, List.setIfInBounds_toArray, List.set_cons_zero, List.set_cons_succ])
  refine wpAnyH_take (i := 3) (v := ?_) rfl (by kernel_rfl) (by kernel_rfl) (by kernel_rfl) (fun _ _ _ h => h) (Or.inl ⟨by rfl, ?_⟩) (by assumption) ?_
  rotate_left
  · (intro w hSw; (try dsimp only at hSw); go_simp; try (with_reducible rfl))
  (try simp only [Act.put, List.setIfInBounds_toArray, List.set_cons_zero, List.set_cons_succ])
  refine wpAnyH_take (i := 4) (v := ?_) rfl (by kernel_rfl) (by kernel_rfl) (by kernel_rfl) (fun _ _ _ h => h) (Or.inl ⟨by rfl, ?_⟩) (by assumption) ?_
  rotate_left
  · (intro w hSw; (try dsimp only at hSw); go_simp; try (with_reducible rfl))
  (try simp only [Act.put, List.setIfInBounds_toArray, List.set_cons_zero, List.set_cons_succ])
  refine wpAnyH_take (i := 7) (v := ?_) rfl (by kernel_rfl) (by kernel_rfl) (by kernel_rfl) (fun _ _ _ h => h) (Or.inl ⟨by rfl, ?_⟩) (by assumption) ?_
  rotate_left
  · (intro w hSw; (try dsimp only at hSw); go_simp; try (with_reducible rfl))
  (try simp only [Act.put, List.setIfInBounds_toArray, List.set_cons_zero, List.set_cons_succ])
  refine wpAnyH_take (i := 8) (v := ?_) rfl (by kernel_rfl) (by kernel_rfl) (by kernel_rfl) (fun _ _ _ h => h) (Or.inl ⟨by rfl, ?_⟩) (by assumption) ?_
  rotate_left
  · (intro w hSw; (try dsimp only at hSw); go_simp; try (with_reducible rfl))
  (try simp only [Act.put, List.setIfInBounds_toArray, List.set_cons_zero, List.set_cons_succ])
  refine wpAnyH_ready (rs := [2]) (by kernel_rfl) (by simp) ?_
  refine AllReadyH.cons rfl (fun K hK => ?_) AllReadyH.nil
  go_simp
  (go_at_call 95; refine (distance_any ao S cap hSp 0 u (by omega) (by omega) u1 u2 _ (hSW.below (Below.refl _ _).drew)).mono ?_)
  rintro e w2 ⟨rfl, hb2'⟩
  have hb2 : Below W.heap.size W w2 := (Below.refl _ W).drew.trans hb2'
  refine hK.out _ _ (kept_cell hb2 c1 ls) (fun hHeld => ?_)
  clear hK K
  (try simp only [Act.put, List.setIfInBounds_toArray, List.set_cons_zero, List.set_cons_succ])
  refine wpAnyH_ready (rs := [5]) (by kernel_rfl) (by simp) ?_
  refine AllReadyH.cons rfl (fun K hK => ?_) AllReadyH.nil
  go_simp
  (go_at_call 95; refine (distance_any ao S cap hSp 0 x (by omega) (by omega) x1 x2 _ (hSW.below hb2)).mono ?_)
  rintro e w3 ⟨rfl, hb3'⟩
  have hb3 : Below W.heap.size W w3 := hb2.trans (hb3'.mono hb2.size)
  refine hK.out _ _ (kept_cell hb3 c1 ls) (fun hHeld => ?_)
  clear hK K
  (try simp only [Act.put, List.setIfInBounds_toArray, List.set_cons_zero, List.set_cons_succ])
  refine wpAnyH_ready (rs := [6]) (by kernel_rfl) (by simp) ?_
  refine AllReadyH.cons rfl (fun K hK => ?_) AllReadyH.nil
  go_simp
  (go_at_call 152; refine (compare_any (dist S 0 u) (dist S 0 x) _).mono ?_)
  rintro e w4 ⟨rfl, rfl⟩
  refine hK.out _ _ (kept_cell hb3 c1 ls) (fun hHeld => ?_)
  clear hK K
  (try simp only [Act.put, List.setIfInBounds_toArray, List.set_cons_zero, List.set_cons_succ])
  refine wpAnyH_ready (rs := [9]) (by kernel_rfl) (by simp) ?_
  refine AllReadyH.cons rfl (fun K hK => ?_) AllReadyH.nil
  go_simp
  (go_at_call 152; refine (compare_any u x _).mono ?_)
  rintro e w4 ⟨rfl, rfl⟩
  refine hK.out _ _ (kept_cell hb3 c1 ls) (fun hHeld => ?_)
  clear hK K
  (try simp only [Act.put, List.setIfInBounds_toArray, List.set_cons_zero, List.set_cons_succ])
  refine wpAnyH_ready (rs := [10]) (by kernel_rfl) (by simp) ?_
  refine AllReadyH.cons rfl (fun K hK => ?_) AllReadyH.nil
  have hb4 : Below W.heap.size W (w3.alloc (.cells #[.int .i64 (cmpI (dist S 0 u) (dist S 0 x)), .int .i64 (cmpI u x)] 3)) := hb3.alloc hb3.size _
  go_simp
  refine hK.out _ _ (kept_cell hb4 c1 ls) (fun hHeld => ?_)
  clear hK K
  (try simp only [Act.put, List.setIfInBounds_toArray, List.set_cons_zero, List.set_cons_succ])
  refine wpAnyH_ready (rs := [11]) (by kernel_rfl) (by simp) ?_
  refine AllReadyH.cons rfl (fun K hK => ?_) AllReadyH.nil
  go_simp
  (go_at_call 151; refine (cmpOrI2 _ (cmpI (dist S 0 u) (dist S 0 x)) (cmpI u x) _ _ (ints_new2 _ _ _ _ rfl)).mono ?_)
  rintro e w5 ⟨rfl, rfl⟩
  refine hK.out _ _ (kept_cell hb4 c1 ls) (fun hHeld => ?_)
  clear hK K
  (try simp only [Act.put, List.setIfInBounds_toArray, List.set_cons_zero, List.set_cons_succ])
  refine wpAnyH_take (i := 12) (v := ?_) rfl (by kernel_rfl) (by kernel_rfl) (by kernel_rfl) (fun _ _ _ h => h) (Or.inl ⟨by rfl, ?_⟩) (by assumption) ?_
  rotate_left
  · (intro w hSw; (try dsimp only at hSw); go_simp; try (with_reducible rfl))
  (try simp only [Act.put, List.setIfInBounds_toArray, List.set_cons_zero, List.set_cons_succ])
  refine wpAnyH_done (by kernel_rfl) ?_ _
  (try simp only [List.getElem_toArray, List.getElem_cons_succ, List.getElem_cons_zero, Act.put, List.setIfInBounds_toArray, List.set_cons_zero, List.set_cons_succ])
  go_wp2_with fail
  go_ret
  exact ⟨rfl, hb4⟩

theorem leaderOf_any (ao : Option Addr) (S : List Int) (cap : Nat) (hSp : Sp S) (ac : Option Addr) (L : List Int) (capc : Nat) (hl1 : 1 ≤ L.length) (hl : L.length ≤ 1048576) (hL : ∀ x, x ∈ L → 0 ≤ x ∧ x ≤ 9223372036854775807) (w : World) (hS : Ints w ao S) (hLI : Ints w ac L) :
    Calls Tryz.prog 125 #[.agg #[.slice ao S.length cap], .slice ac L.length capc] w fun e w' => e = .returned (.int .i64 (ldrTo S L (L.length - 1))) ∧ Below w.heap.size w w' := by
  have B0 : Below w.heap.size w (w.alloc (.cells #[.slice ao S.length cap] 26)) := by go_grown
  have c0 := cell_new w (.slice ao S.length cap) 26
  have hf := leader_cmp w.heap.size ao S cap hSp L hL _ _ (lt_alloc w (.cells #[.slice ao S.length cap] 26)) (Nat.le_refl _) c0 (fun W hb => (hS.below B0).below hb)
  have HF := Lib.hid hf
  clear hf c0
  go_enter Tryz.func125, Tryz.ntmps125
  go_wp2_with fail
  refine (minFunc_any ac capc L S hl1 hl 150 (enters_of Tryz.func150 (by kernel_rfl) rfl) #[] #[.pointer (some ⟨w.heap.size, 0, none⟩)] _ (hLI.below B0) HF.out).mono ?_
  rintro e w2 ⟨rfl, hb⟩
  go_wp2_with fail
  go_ret
  exact ⟨rfl, B0.trans (hb.mono B0.size)⟩

theorem class_fun (lb : Nat) (ao : Option Addr) (S : List Int) (cap : Nat) (hSp : Sp S) (C : List Int) (hC : ∀ x, x ∈ C → 0 ≤ x ∧ x ≤ 9223372036854775807) (x : Int) (hx : 0 ≤ x ∧ x ≤ 9223372036854775807) (n : Nat) (w : World) (hlb : lb + 1 < n) (cS : w.cell? ⟨lb, 0, none⟩ = some (.slice ao S.length cap)) (cX : w.cell? ⟨lb + 1, 0, none⟩ = some (.int .i64 x)) (hSn : ∀ W, Below n w W → Ints W ao S) :
    FunN 153 #[] #[.pointer (some ⟨lb, 0, none⟩), .pointer (some ⟨lb + 1, 0, none⟩)] (fun u => sumW S u x) n w C := by
  intro W u hb hu
  obtain ⟨u1, u2⟩ := hC u hu
  have c1 := kept_cell hb cS (by omega)
  have c2 := kept_cell hb cX (by omega)
  have hSW := hSn W hb
  clear cS cX hSn hb
  show Calls Tryz.prog 153 #[.int .i64 u, .pointer (some ⟨lb, 0, none⟩), .pointer (some ⟨lb + 1, 0, none⟩)] W _
  go_enter Tryz.func153, Tryz.ntmps153
  go_wp2_with fail
  refine (sumOfWords_any ao S cap hSp u x u1 u2 hx.1 hx.2 _ hSW).mono ?_
  rintro e w2 ⟨rfl, hb2⟩
  go_wp2_with fail
  go_ret
  exact ⟨rfl, hb2⟩

theorem boxlc (w : World) (a b c : Value) (t u : TypeId) : ∃ W, W = (w.alloc (.cells #[a, b] t)).alloc (.cells #[c] u) ∧ W.cell? ⟨w.heap.size, 0, none⟩ = some a ∧ W.cell? ⟨w.heap.size, 1, none⟩ = some b ∧ W.cell? ⟨w.heap.size + 1, 0, none⟩ = some c ∧ W.heap.size = w.heap.size + 2 ∧ Below w.heap.size w W := by
  have s1 : (w.alloc (.cells #[a, b] t)).heap.size = w.heap.size + 1 := World.size_alloc _ _
  have s2 : ((w.alloc (.cells #[a, b] t)).alloc (.cells #[c] u)).heap.size = w.heap.size + 2 := by rw [World.size_alloc, s1]
  have b1 : Below (w.alloc (.cells #[a, b] t)).heap.size (w.alloc (.cells #[a, b] t)) ((w.alloc (.cells #[a, b] t)).alloc (.cells #[c] u)) := (Below.refl _ _).alloc (Nat.le_refl _) _
  have b0 : Below w.heap.size w ((w.alloc (.cells #[a, b] t)).alloc (.cells #[c] u)) := ((Below.refl _ _).alloc (Nat.le_refl _) _).trans (b1.mono (by omega))
  have y0 : (w.alloc (.cells #[a, b] t)).cell? ⟨w.heap.size, 0, none⟩ = some a := by rw [cell_of_row _ w.heap.size 0 _ _ _ (heap_alloc_last w (.cells #[a, b] t))]; rfl
  have y1 : (w.alloc (.cells #[a, b] t)).cell? ⟨w.heap.size, 1, none⟩ = some b := by rw [cell_of_row _ w.heap.size 1 _ _ _ (heap_alloc_last w (.cells #[a, b] t))]; rfl
  have x3 := cell_new (w.alloc (.cells #[a, b] t)) c u
  rw [s1] at x3
  exact ⟨_, rfl, kept_cell b1 y0 (lt_alloc _ _), kept_cell b1 y1 (lt_alloc _ _), x3, s2, b0⟩

theorem class_any (ao : Option Addr) (S : List Int) (cap : Nat) (hSp : Sp S) (ac : Option Addr) (C : List Int) (capc : Nat) (hl : C.length ≤ 1048576) (hC : ∀ x, x ∈ C → 0 ≤ x ∧ x ≤ 9223372036854775807) (x : Int) (hx : 0 ≤ x ∧ x ≤ 9223372036854775807) (w : World) (hS : Ints w ao S) (hCI : Ints w ac C) :
    Calls Tryz.prog 126 #[.agg #[.slice ao S.length cap, .slice ac C.length capc], .int .i64 x] w fun e w' => ∃ g, e = .returned (.slice (some ⟨g, 0, none⟩) C.length C.length) ∧ OwnInts w' w.heap.size (.slice (some ⟨g, 0, none⟩) C.length C.length) (shL S C x) ∧ Below w.heap.size w w' := by
  obtain ⟨W0, hW0, cS, cC, cX, z0, B0⟩ := boxlc w (.slice ao S.length cap) (.slice ac C.length capc) (.int .i64 x) 64 2
  have HW0 := Lib.hid hW0
  have z0a : w.heap.size + 2 ≤ W0.heap.size := by omega
  have hf := class_fun w.heap.size ao S cap hSp C hC x hx W0.heap.size W0 (by omega) cS cX (fun W hb => (hS.below B0).below hb)
  have HF := Lib.hid hf
  clear hW0 z0 hf
  go_enter Tryz.func126, Tryz.ntmps126
  go_wp2_with fail
  rw [← HW0.out]
  go_wp2_with fail
  refine (numbers_any ac capc C hl 153 (enters_of Tryz.func153 (by kernel_rfl) rfl) #[] #[.pointer (some ⟨w.heap.size, 0, none⟩), .pointer (some ⟨w.heap.size + 1, 0, none⟩)] (fun u => sumW S u x) _ (hCI.below B0) HF.out).mono ?_
  rintro e w2 ⟨g, rfl, own, hb⟩
  go_wp2_with fail
  go_ret
  exact ⟨_, rfl, own.rebase (by omega), B0.trans (hb.mono (by omega))⟩

end Go.Proofs.YtcnnijeokefboaaGreatDoor

namespace Go.Proofs.YtcnnijeokefboaaGreatDoor
open Go.RowKit Cv
set_option linter.unusedVariables false
set_option linter.unusedSimpArgs false
set_option maxRecDepth 100000

theorem own_made_some {w : World} {base m : Nat} {v v' : Value} {L : List Int} (h : OwnInts w base v' L) (hnil : v' = .slice none 0 0 ↔ v = .slice none 0 0 ∧ m = 0) (hv : v ≠ .slice none 0 0) : ∃ g c, v' = .slice (some ⟨g, 0, none⟩) L.length c := by
  rcases h.2 with ⟨h1, _⟩ | ⟨g, c, cur, h1, _⟩
  · exact absurd (hnil.1 h1).1 hv
  · exact ⟨g, c, h1⟩
theorem clone_any (g0 : Nat) (L : List Int) (cap base : Nat) (w : World) (hl : L.length ≤ 1048576) (hb : base ≤ w.heap.size) (a : Addr) (hL : Ints w (some a) L) :
    Calls Tryz.prog 138 #[.slice (some a) L.length cap] w fun e w' => ∃ g c, e = .returned (.slice (some ⟨g, 0, none⟩) L.length c) ∧ OwnInts w' w.heap.size (.slice (some ⟨g, 0, none⟩) L.length c) L ∧ Below w.heap.size w w' := by
  have B0 : Below w.heap.size w (w.alloc (.cells #[] 2)) := by go_grown
  have o0 := own_empty w w.heap.size (Nat.le_refl _) rfl
  have hnil0 := Lib.run_eql_slice_nil (P := Tryz.prog) w 24 2 (some a) L.length cap 0 0 Tryz.underlying24
  go_enter Tryz.func138, Tryz.ntmps138
  go_wp2_with (at_builtin; refine wpList_append_ints rfl _ _ rfl w.heap.size _ [] rfl o0 a L L.length cap rfl rfl (hL.below B0) (by simp; omega) B0.size ?_; intro v' w4 hown' hgrow hnil; have hb4 := grown_below B0 B0.size hgrow o0 (Nat.le_refl _); rw [List.nil_append] at hown'; obtain ⟨g, c, hv⟩ := own_made_some hown' hnil (fun h => absurd (Value.slice.inj h).1 (by simp)); subst hv)
  go_ret
  exact ⟨g, c, rfl, hown', hb4⟩

end Go.Proofs.YtcnnijeokefboaaGreatDoor

namespace Go.Proofs.YtcnnijeokefboaaGreatDoor
open Go.RowKit Cv
set_option linter.unusedVariables false
set_option linter.unusedSimpArgs false
set_option maxRecDepth 100000

theorem contains_any (at' : Option Addr) (T : List Int) (cap : Nat) (x : Int) (hl : T.length ≤ 4294967296) (w : World) (hT : Ints w at' T) :
    Calls Tryz.prog 100 #[.slice at' T.length cap, .int .i64 x] w fun e w' => e = .returned (.bool (decide (x ∈ T))) ∧ w = w' := by
  have hidx : Calls Tryz.prog 137 #[.slice at' T.length cap, .int .i64 x] w fun e w' => ∃ r : Int, e = .returned (.int .i64 r) ∧ Hid (decide (x ∈ T) = decide (0 ≤ r)) ∧ w = w' := by
    go_enter Tryz.func137, Tryz.ntmps137
    go_wp2_with fail
    go_loopw [8] (fun i wr => ∃ k : Nat, k ≤ T.length ∧ i = .int .i64 k ∧ Hid (∀ j, j < k → gi T j ≠ x) ∧ wr = w) (fun i _ => T.length - (intOf i).toNat)
    case atStart => exact ⟨0, Nat.zero_le _, rfl, Lib.hid fun j hj => by omega, rfl⟩
    case round =>
      obtain ⟨k, hk, rfl, HA, rfl⟩ := hrel
      by_cases hlt : k < T.length
      · obtain ⟨b, o, rfl, hbl, hc⟩ := hT.at hlt
        have hck := hc k hlt
        clear hc
        by_cases he : gi T k = x
        · have hq : (x == gi T k) = true := by simpa using he.symm
          have HX : Hid (decide (x ∈ T) = decide (0 ≤ (k : Int))) := Lib.hid (by rw [decide_eq_true (show (0 : Int) ≤ (k : Int) by omega), decide_eq_true_eq, ← he]; exact gi_mem hlt)
          clear he
          go_wp2_with fail
          go_ret
          exact ⟨_, rfl, HX, rfl⟩
        · have hq : (x == gi T k) = false := by simpa using fun h => he h.symm
          have HX := Lib.hid he
          clear he
          go_wp2_with fail
          go_roundw
          case rel =>
            refine ⟨k + 1, by omega, by go_num, Lib.hid fun j hj => ?_, by first | rfl | trivial⟩
            by_cases e : j = k
            · subst e; exact HX.out
            · exact HA.out j (by omega)
          case measure => simp [intOf]; omega
      · have HX : Hid (decide (x ∈ T) = decide (0 ≤ (-1 : Int))) := Lib.hid (by
          rw [decide_eq_false (show ¬ (0 : Int) ≤ -1 by omega), decide_eq_false_iff_not]; intro hm
          obtain ⟨j, hj, e⟩ := mem_gi hm
          exact HA.out j (by omega) e)
        go_wp2_with fail
        go_ret
        exact ⟨_, rfl, HX, rfl⟩
  go_enter Tryz.func100, Tryz.ntmps100
  go_wp2_with fail
  refine hidx.mono ?_
  rintro e w1 ⟨r, rfl, HX, rfl⟩
  go_wp2_with fail
  go_ret
  exact ⟨ret_bool HX.out.symm, rfl⟩

def lenV : Value → Nat
  | .slice _ n _ => n
  | _ => 0
theorem own_lenV {w : World} {base : Nat} {v : Value} {T : List Int} (h : OwnInts w base v T) : lenV v = T.length := by
  obtain ⟨a, c, rfl, _⟩ := h.ints
  rfl

set_option maxHeartbeats 2000000 in
theorem spanWith_any (ao : Option Addr) (S : List Int) (cap : Nat) (hP : Pl S) (ag : Addr) (L : List Int) (capl : Nat) (hl1 : 1 ≤ L.length) (hl : L.length ≤ 1024) (hL : ∀ u, u ∈ L → Wd S u) (x : Int) (hx : Wd S x) (hx0 : x ≠ 0) (w : World) (hS : Ints w ao S) (hLI : Ints w (some ag) L) :
    Calls Tryz.prog 101 #[.agg #[.slice ao S.length cap], .slice (some ag) L.length capl, .int .i64 x] w fun e w' => ∃ v, e = .returned v ∧ OwnInts w' w.heap.size v (spW S L x) ∧ Below w.heap.size w w' := by
  have HP := Lib.hid hP
  have HLw : Hid (∀ i, i < L.length → 0 ≤ gi L i ∧ gi L i ≤ 9223372036854775807) := Lib.hid fun i hi => by have := hL _ (gi_mem hi); unfold Wd at this; have := nW_bd hP.sp; omega
  have HM : Hid (∀ k, 0 ≤ mulW S x k ∧ mulW S x k ≤ 9223372036854775807) := Lib.hid fun k => by have := mul_wd hP.sp hx k; unfold Wd at this; have := nW_bd hP.sp; omega
  have HN : Hid (∀ k, k < qN S → mulW S x k ≠ 0) := Lib.hid (mul_ne hP hx hx0)
  have HZ : Hid (mulW S x (qN S) = 0) := Lib.hid (mul_end hP x)
  have HW : Hid (widL S L x (qN S) = spW S L x) := Lib.hid (wid_end hP L x)
  have hq3 : qN S ≤ 2 := by have := qN_bd hP; omega
  obtain ⟨x1, x2⟩ := HM.out 0
  change 0 ≤ x at x1
  change x ≤ _ at x2
  obtain ⟨b, o, hb, hbl, hc⟩ := hLI.at (show 0 < L.length by omega)
  obtain rfl : ag = ⟨b, o, none⟩ := by simpa using hb
  have HC := Lib.hid hc
  have B0 : Below w.heap.size w (w.alloc (.cells #[.slice ao S.length cap] 26)) := by go_grown
  have c0 := cell_new w (.slice ao S.length cap) 26
  have l0 := lt_alloc w (.cells #[.slice ao S.length cap] 26)
  clear hP hL hx hx0 hb hc
  go_enter Tryz.func101, Tryz.ntmps101
  go_wp2_with fail
  refine (clone_any 0 L capl w.heap.size _ (by omega) B0.size ⟨b, o, none⟩ (hLI.below B0)).mono ?_
  rintro e w1 ⟨g, c, rfl, own, hb1⟩
  rw [World.size_alloc] at own
  have B1 := B0.trans (hb1.mono B0.size)
  have c1 := kept_cell hb1 c0 l0
  have l1 := lt_of_below hb1 l0
  have own1 : OwnInts w1 (w.heap.size + 1) (.slice (some ⟨g, 0, none⟩) L.length c) (widL S L x 0) := own
  clear own hb1 c0 l0 B0
  go_wp2_with fail
  go_loopw [7, 8] (fun v m wr => ∃ k : Nat, k ≤ qN S ∧ m = .int .i64 (mulW S x k) ∧ OwnInts wr (w.heap.size + 1) v (widL S L x k) ∧ wr.cell? ⟨w.heap.size, 0, none⟩ = some (.slice ao S.length cap) ∧ w.heap.size < wr.heap.size ∧ Below w.heap.size w wr) (fun v _ _ => 4 * L.length - lenV v)
  case atStart => exact ⟨0, Nat.zero_le _, rfl, own1, c1, l1, B1⟩
  case round =>
    clear own1 c1 l1 B1
    obtain ⟨k, hk, rfl, own, c2, l2, B2⟩ := hrel
    by_cases hlt : k < qN S
    · have hne : (mulW S x k != 0) = true := by simpa using HN.out k hlt
      have HLV := own_lenV own
      rw [widL_len] at HLV
      replace HLV := Lib.hid HLV
      have H0 := Lib.hid (widI_0 S L x k)
      rw [← H0.out] at own
      obtain ⟨m1, m2⟩ := HM.out k
      have HI := Lib.hid (widI_step S L x k)
      have HA := Lib.hid (widI_all S L x k)
      have HLN := Lib.hid (widI_len S L x k)
      have HK1 : Hid (sumW S (mulW S x k) x = mulW S x (k + 1)) := Lib.hid rfl
      obtain ⟨mk, hmk⟩ : ∃ mk, mk = mulW S x k := ⟨_, rfl⟩
      rw [← hmk] at hne m1 m2 HI HK1 ⊢
      have HMK := Lib.hid hmk
      clear hmk
      go_wp2_with fail
      go_loopw [7, 22] (fun v i wi => ∃ j : Nat, j ≤ L.length ∧ i = .int .i64 j ∧ OwnInts wi (w.heap.size + 1) v (widI S L x k j) ∧ wi.cell? ⟨w.heap.size, 0, none⟩ = some (.slice ao S.length cap) ∧ w.heap.size < wi.heap.size ∧ Below w.heap.size w wi) (fun _ i _ => L.length - (intOf i).toNat)
      case atStart => exact ⟨0, Nat.zero_le _, rfl, own, c2, l2, B2⟩
      case round =>
        clear own c2 l2 B2
        obtain ⟨j, hj, rfl, own, c, l, B⟩ := hrel
        by_cases hlj : j < L.length
        · have hck := kept_cell B (HC.out j hlj) hbl
          obtain ⟨u1, u2⟩ := HLw.out j hlj
          have hs := B.size
          go_wp2_with fail
          refine (sumOfWords_any ao S cap HP.out.sp (gi L j) mk u1 u2 m1 m2 _ (hS.below B)).mono ?_
          rintro e w3 ⟨rfl, hb3⟩
          have c3 := kept_cell hb3 c l
          have l3 := lt_of_below hb3 l
          have oo := own.below hb3
          have B3 := B.trans (hb3.mono hs)
          have hs3 := hb3.size
          have hlen : (widI S L x k j).length ≤ 1073741824 := by have := HLN.out j; have : (k + 2) * L.length ≤ 4 * 1024 := Nat.mul_le_mul (by omega) hl; omega
          have H2 := Lib.hid (HI.out j hlj)
          clear hb3 own c l B hck
          go_wp2_with (at_builtin; refine wpList_append_int rfl _ _ rfl (w.heap.size + 1) _ _ rfl (oo.alloc _) w3.heap.size _ rfl (cell_new _ _ _) (by omega) (by rw [World.size_alloc]; omega) ?_; intro v' w4 hown' hgrow)
          have B3a := B3.alloc B3.size (.cells #[.int .i64 (sumW S (gi L j) mk)] 2)
          have B4 := grown_below B3a B3a.size hgrow (oo.alloc _) (by omega)
          have c4a := kept_cell ((Below.refl w3.heap.size w3).alloc (Nat.le_refl _) (.cells #[.int .i64 (sumW S (gi L j) mk)] 2)) c3 l3
          have c4 := kept_cell (grown_below (n := w.heap.size + 1) (Below.refl _ _) (by rw [World.size_alloc]; omega) hgrow (oo.alloc _) (Nat.le_refl _)) c4a (by omega)
          have l4 : w.heap.size < w4.heap.size := by have := hgrow.size; rw [World.size_alloc] at this; omega
          go_wp2_with fail
          go_roundw
          case rel => exact ⟨j + 1, by omega, by go_num, by rw [H2.out]; exact hown', c4, l4, B4⟩
          case measure => simp [intOf]; omega
        · have ej : j = L.length := by omega
          rw [ej, HA.out] at own
          clear ej
          have hs := B.size
          go_wp2_with fail
          refine (sumOfWords_any ao S cap HP.out.sp mk x m1 m2 x1 x2 _ (hS.below B)).mono ?_
          rintro e w3 ⟨rfl, hb3⟩
          have c3 := kept_cell hb3 c l
          have l3 := lt_of_below hb3 l
          have oo := own.below hb3
          have B3 := B.trans (hb3.mono hs)
          rw [HK1.out]
          go_wp2_with fail
          go_roundw
          case rel => exact ⟨k + 1, by omega, rfl, oo, c3, l3, B3⟩
          case measure =>
            have e1 := own_lenV oo
            rw [widL_len, Nat.add_mul (k + 1) 1, Nat.one_mul] at e1
            have e2 := HLV.out
            have e3 : (k + 1) * L.length ≤ 2 * L.length := Nat.mul_le_mul_right _ (by omega)
            omega
    · have ek : k = qN S := by omega
      have e0 : mulW S x k = 0 := by rw [ek]; exact HZ.out
      rw [ek, HW.out] at own
      clear ek
      rw [e0]
      clear e0
      go_wp2_with fail
      go_ret
      exact ⟨_, rfl, own.rebase (by omega), B2⟩

end Go.Proofs.YtcnnijeokefboaaGreatDoor
