/-
  The contract of the model's drawn codes. By an AI agent.
-/
import Derived.Test.YtcnnijeokefboaaGreatDoorPk15
import Derived.Test.YtcnnijeokefboaaGreatDoorPk14
namespace Go.Proofs.YtcnnijeokefboaaGreatDoor
open Go.RowKit Cv
set_option linter.unusedVariables false
set_option linter.unusedSimpArgs false
set_option maxRecDepth 100000

theorem ownBlock_ge5 {w : World} {base : Nat} {v : Value} {L : List Int} (h : OwnInts w base v L) {g : Nat} (e : v.ownBlock = some g) : base ≤ g := by
  obtain ⟨h1, h2⟩ := h
  rcases h2 with ⟨hv, _⟩ | ⟨g', _, _, hv, hg, _⟩
  · rw [hv] at e; simp [Value.ownBlock] at e
  · rw [hv] at e; simp [Value.ownBlock] at e; omega
theorem IntsX.grownR {b : Nat} {w w' : World} {r : Option Nat} {ao : Option Addr} {S : List Int} (h : IntsX b w ao S) (hg : w.grownBy w' r) (hne : ∀ g o, ao = some ⟨g, o, none⟩ → some g ≠ r) : IntsX b w' ao S := by
  obtain ⟨h1, h2⟩ := h
  refine ⟨?_, h2⟩
  rcases h1 with h | ⟨g, o, rfl, hlt, hc⟩
  · exact .inl h
  · exact .inr ⟨g, o, rfl, Nat.lt_of_lt_of_le hlt hg.size, fun i hi => hg.cell (a := ⟨g, o + i, none⟩) (hc i hi) (by simpa using hne g o rfl)⟩
/-- numbers from 0 to k - 1, at most k of them -/
def CL (C : List Int) (k : Nat) : Prop := (∀ i, i < C.length → 0 ≤ gi C i ∧ gi C i < (k : Int)) ∧ C.length ≤ k
theorem CL.mono {C : List Int} {k : Nat} (h : CL C k) : CL C (k + 1) := ⟨fun i hi => by have := h.1 i hi; omega, by have := h.2; omega⟩
theorem CL.snoc {C : List Int} {k : Nat} (h : CL C k) : CL (C ++ [(k : Int)]) (k + 1) := by
  refine ⟨fun i hi => ?_, by rw [List.length_append, List.length_singleton]; have := h.2; omega⟩
  rw [List.length_append, List.length_singleton] at hi
  by_cases e : i < C.length
  · have := h.1 i e
    simp only [gi, List.getD] at this ⊢
    rw [List.getElem?_append_left e]
    omega
  · rw [show i = C.length by omega]
    simp [gi]
    omega
theorem cl_nil : CL [] 0 := ⟨fun i hi => by simp at hi, by simp⟩

set_option maxHeartbeats 8000000 in
theorem drawCode_any (b : Nat) (a : Option Addr) (n cap : Nat) (hn : n ≤ 4096) (ao : Option Addr) (S : List Int) (capS : Nat) (hSp : Sp S) (w : World) (hs : Src w b a n cap) (hX : IntsX b w ao S) :
    Calls Tryz.prog 122 #[.pointer (some ⟨b, 0, none⟩), .agg #[.slice ao S.length capS]] w fun e w' => ∃ v C, e = .returned v ∧ OwnInts w' w.heap.size v C ∧ CL C 1024 ∧ Src w' b a n cap ∧ w.grownBy w' (some b) := by
  have hbl := hs.lt
  obtain ⟨NN1, NN2⟩ := nW_bd hSp
  obtain ⟨N, hN⟩ : ∃ N : Nat, nW S = (N : Int) := ⟨(nW S).toNat, by omega⟩
  have hN4 : N ≤ 1024 := by omega
  have HSp := Lib.hid hSp
  have s1 := hSp.lo
  have s8 := hSp.hi
  obtain ⟨A, hA⟩ : ∃ A, A = w.heap.size := ⟨_, rfl⟩
  obtain ⟨W2, hW2⟩ : ∃ W2, W2 = (w.alloc (.cells #[.slice ao S.length capS] 26)).alloc (.cells #[] 2) := ⟨_, rfl⟩
  have hs2 : Src W2 b a n cap := by rw [hW2]; exact (hs.alloc _).alloc _
  have hG2 : w.grownBy W2 (some b) := by rw [hW2]; exact grown_alloc (grown_alloc (World.grownBy.refl w _) _) _
  have RA2 : W2.heap[A]? = some (.cells #[.slice ao S.length capS] 26 (0, 0)) := by
    rw [hW2, hA]; exact row_g (heap_alloc_new w _) (World.grownBy_alloc _ _ none) (by simp)
  have hX2 : IntsX b W2 ao S := by rw [hW2]; exact (hX.below (B := 0) ((Below.refl _ _).alloc (Nat.le_refl _) _)).below (B := 0) ((Below.refl _ _).alloc (Nat.le_refl _) _)
  obtain ⟨v, hv⟩ : ∃ v, v = Value.slice (some ⟨A + 1, 0, none⟩) 0 0 := ⟨_, rfl⟩
  obtain ⟨C, hC⟩ : ∃ C : List Int, C = [] := ⟨_, rfl⟩
  have own2 : OwnInts W2 (A + 1) v C := by
    rw [hW2, hv, hC]; exact own_empty _ (A + 1) (by rw [hA]; simp) (by rw [hA]; simp)
  have hXA : Hid (∀ g o, ao = some ⟨g, o, none⟩ → g < A) := Lib.hid fun g o e => by
    rcases hX.1 with h | ⟨g', o', e', hl, _⟩
    · omega
    · rw [e] at e'; cases e'; rw [hA]; exact hl
  have HA := Lib.hid hA
  have HW2 := Lib.hid hW2
  have HV := Lib.hid hv
  have HC := Lib.hid hC
  have hAb : b < A := by omega
  have hnx := next_any b a n cap hn 4 (by omega) W2 hs2
  clear hA hW2 hs hbl hX hSp hv hC NN1 NN2
  go_enter Tryz.func122, Tryz.ntmps122
  go_wp2_with fail
  rw [← HW2.out, ← HA.out]
  rw [← HV.out]
  refine hnx.mono ?_
  rintro e w3 ⟨q, rfl, q0, q1, q2, hs3, hg3⟩
  have RA3 := row_g RA2 hg3 (by simp; omega)
  have hX3 := hX2.grown hg3
  have hG3 := grown_trans hG2 hg3
  have own3 := own2.kept hg3 (.inr (fun e => by have := ownBlock_ge5 own2 e; omega))
  clear hnx hg3 RA2 hX2 hs2 hG2 own2 q1 q2
  by_cases e0 : q = 0
  · have b0 : (q == 0) = true := by simpa using e0
    clear e0
    obtain ⟨u3a, hu3a⟩ : ∃ u, u = w3.alloc (.cells #[.int .i64 2, .int .i64 2, .int .i64 3, .int .i64 4] 2) := ⟨_, rfl⟩
    have RA3a : u3a.heap[A]? = some (.cells #[.slice ao S.length capS] 26 (0, 0)) := by rw [hu3a]; exact row_g RA3 (World.grownBy_alloc w3 _ none) (by simp)
    have hX3a : IntsX b u3a ao S := by rw [hu3a]; exact hX3.below (B := 0) ((Below.refl _ _).alloc (Nat.le_refl _) _)
    have hs3a : Src u3a b a n cap := by rw [hu3a]; exact hs3.alloc _
    have hG3a : w.grownBy u3a (some b) := by rw [hu3a]; exact grown_alloc hG3 _
    have own3a : OwnInts u3a (A + 1) v C := by rw [hu3a]; exact own3.alloc _
    have I3a : Ints u3a (some ⟨w3.heap.size, 0, none⟩) [2, 2, 3, 4] := by rw [hu3a]; exact ints_new w3 _ _
    have hp3a := pick_n b a n cap hn w3.heap.size _ 4 rfl (by omega) (by omega) (by have := hs3.lt; omega) u3a hs3a I3a
    have HU3a := Lib.hid hu3a
    clear hu3a I3a
    go_wp2_with fail
    rw [← HU3a.out]
    refine hp3a.mono ?_
    rintro e w5 ⟨m, rfl, hm5, hs5, hg5⟩
    have RA5 := row_g RA3a hg5 (by simp; omega)
    have hX5 := hX3a.grown hg5
    have hG5 := grown_trans hG3a hg5
    have own5 := own3a.kept hg5 (.inr (fun e => by have := ownBlock_ge5 own3a e; omega))
    clear hp3a hg5 RA3a hX3a hs3a hG3a own3a RA3 hX3 hs3 hG3 own3
    have hm : 2 ≤ m ∧ m ≤ 4 := by simp only [List.mem_cons, List.not_mem_nil, or_false] at hm5; omega
    clear hm5
    have hn6 := next_any b a n cap hn 2 (by omega) w5 hs5
    go_wp2_with fail
    refine hn6.mono ?_
    rintro e w6 ⟨t, rfl, t0, t1, t2, hs6, hg6⟩
    have RA6 := row_g RA5 hg6 (by simp; omega)
    have hX6 := hX5.grown hg6
    have hG6 := grown_trans hG5 hg6
    have own6 := own5.kept hg6 (.inr (fun e => by have := ownBlock_ge5 own5 e; omega))
    clear hn6 hg6 RA5 hX5 hs5 hG5 own5
    go_wp2_with fail
    go_loopw [5, 8] (fun lv kv wl => ∃ (k : Nat) (Ck : List Int), k ≤ N ∧ kv = .int .i64 (k : Int) ∧ Hid (CL Ck k) ∧ OwnInts wl (A + 1) lv Ck ∧ wl.heap[A]? = some (.cells #[.slice ao S.length capS] 26 (0, 0)) ∧ IntsX b wl ao S ∧ Src wl b a n cap ∧ w.grownBy wl (some b)) (fun _ kv _ => N - (intOf kv).toNat)
    case atStart => exact ⟨0, C, Nat.zero_le _, rfl, Lib.hid (by rw [HC.out]; exact cl_nil), own6, RA6, hX6, hs6, hG6⟩
    case round =>
      clear own6 RA6 hX6 hs6 hG6
      obtain ⟨k, Ck, hk, rfl, HK, own7, RA7, hX7, hs7, hG7⟩ := hrel
      have hNc := l01N_sp ao S capS wr HSp.out hX7.1
      rw [hN] at hNc
      have xA7 := cell_of1' RA7
      by_cases hlt : k < N
      · have i1 : (k : Int) < (N : Int) := by omega
        go_wp2_with fail
        refine hNc.mono ?_
        rintro e w8 ⟨rfl, hb8⟩
        have RA8 := row_g RA7 (grown_of_below hb8 none) (by simp)
        have hX8 := hX7.below (B := 0) hb8
        have hs8 := hs7.below hb8 hs7.lt
        have hG8 := grown_trans hG7 (grown_of_below hb8 _)
        have own8 := own7.below hb8
        clear hNc hb8 RA7 hX7 hs7 hG7 own7 xA7
        have xA8 := cell_of1' RA8
        have hd := l01Digits_any ao S capS s8 HSp.out.bd (k : Int) (by omega) (by omega) w8 hX8.1
        go_wp2_with fail
        refine hd.mono ?_
        rintro e w9 ⟨g, rfl, ownD, hb9⟩
        have RA9 := row_g RA8 (grown_of_below hb9 none) (by simp)
        have hX9 := hX8.below (B := 0) hb9
        have hs9 := hs8.below hb9 hs8.lt
        have hG9 := grown_trans hG8 (grown_of_below hb9 _)
        have own9 := own8.below hb9
        clear hd hb9 RA8 hX8 hs8 hG8 own8 xA8
        have HDg : Hid (∀ j, j < S.length → 0 ≤ gi (digs S (k : Int)) j ∧ gi (digs S (k : Int)) j ≤ 4) := Lib.hid fun j hj => by rw [gi_digs _ _ _ hj]; have h1 := dig_bd S (k : Int) HSp.out.bd j hj; have h2 := HSp.out.bd j hj; omega
        have hDl : (digs S (k : Int)).length = S.length := by simp [digs]
        obtain ⟨D, hD⟩ : ∃ D, D = digs S (k : Int) := ⟨_, rfl⟩
        rw [← hD] at ownD HDg hDl
        have HDl := Lib.hid hDl
        clear hD hDl
        go_wp2_with fail
        go_loopw [10, 38] (fun sv jv wj => ∃ j x : Nat, j ≤ S.length ∧ jv = .int .i64 (j : Int) ∧ sv = .int .i64 (x : Int) ∧ x ≤ 4 * j ∧ wj = w9) (fun _ jv _ => S.length - (intOf jv).toNat)
        case atStart => exact ⟨0, 0, Nat.zero_le _, rfl, rfl, by omega, rfl⟩
        case round =>
          obtain ⟨j, x, hj, rfl, rfl, hx, hw⟩ := hrel
          subst hw
          by_cases hjl : j < S.length
          · have hck := ownD.cell (k := j) (by rw [HDl.out]; exact hjl)
            obtain ⟨d0, d1⟩ := HDg.out j hjl
            obtain ⟨y, hy⟩ : ∃ y : Nat, gi D j = (y : Int) := ⟨(gi D j).toNat, by omega⟩
            rw [hy] at hck d0 d1
            have hy4 : y ≤ 4 := by omega
            have i2 : (0 : Int) ≤ (j : Int) := by omega
            have i3 : (j : Int) < (S.length : Int) := by omega
            clear hy d0 d1
            go_wp2_with fail
            go_roundw
            case rel => exact ⟨j + 1, x + y, by omega, by go_num, by go_num, by omega, by first | rfl | trivial⟩
            case measure => simp [intOf]; omega
          · have i3 : ¬ (j : Int) < (S.length : Int) := by omega
            have hm0 : ¬ m = 0 := by omega
            have hm1 : (m == 0) = false := by simp; omega
            have hx0 : (0 : Int) ≤ (x : Int) := by omega
            have hmod : (x : Int).tmod m = (x : Int) % m := Int.tmod_eq_emod_of_nonneg hx0
            by_cases he : (x : Int) % m = t
            · have hbe : ((x : Int) % m == t) = true := by simpa using he
              have HE := Lib.hid he
              clear he
              have hlC : Ck.length ≤ 1073741824 := by have := HK.out.2; omega
              have hzA : A + 1 ≤ (wr.alloc (.cells #[.int .i64 (k : Int)] 2)).heap.size := by have := row_lt RA9; simp; omega
              go_wp2_with (at_builtin; refine wpList_append_int_at rfl _ _ rfl (A + 1) _ Ck rfl (own9.alloc _) wr.heap.size (k : Int) rfl (cell_new _ _ _) hlC hzA ?_; intro v' wz own' hgrow hnew)
              have RAz := row_g (row_g RA9 (World.grownBy_alloc wr (.cells #[.int .i64 (k : Int)] 2) none) (by simp)) hgrow (fun e => by have := ownBlock_ge5 own9 e.symm; omega)
              have hXz := (hX9.below (B := 0) ((Below.refl _ _).alloc (Nat.le_refl _) (.cells #[.int .i64 (k : Int)] 2))).grownR hgrow (fun g o e e2 => by have h1 := ownBlock_ge5 own9 e2.symm; have h2 := hXA.out g o e; omega)
              have hsz : Src wz b a n cap := (hs9.alloc _).grownO hgrow (fun g' e => by have := ownBlock_ge5 own9 e; omega)
              have hGz : w.grownBy wz (some b) := grown_over (grown_alloc hG9 _) hgrow (fun g' e => by have := ownBlock_ge5 own9 e; have := HA.out; omega)
              clear hmod
              go_roundw
              case rel => exact ⟨k + 1, Ck ++ [(k : Int)], by omega, by go_num, Lib.hid HK.out.snoc, own', RAz, hXz, hsz, hGz⟩
              case measure => simp [intOf]; omega
            · have hbe : ((x : Int) % m == t) = false := by simpa using he
              have HE := Lib.hid he
              clear he
              go_wp2_with fail
              clear hmod
              go_roundw
              case rel => exact ⟨k + 1, Ck, by omega, by go_num, Lib.hid HK.out.mono, own9, RA9, hX9, hs9, hG9⟩
              case measure => simp [intOf]; omega
      · have i1 : ¬ (k : Int) < (N : Int) := by omega
        go_wp2_with fail
        refine hNc.mono ?_
        rintro e w8 ⟨rfl, hb8⟩
        have RA8 := row_g RA7 (grown_of_below hb8 none) (by simp)
        have hX8 := hX7.below (B := 0) hb8
        have hs8 := hs7.below hb8 hs7.lt
        have hG8 := grown_trans hG7 (grown_of_below hb8 _)
        have own8 := own7.below hb8
        go_wp2_with fail
        go_ret
        exact ⟨_, _, rfl, own8.rebase (by have := HA.out; omega), ⟨fun i hi => by have := HK.out.1 i hi; omega, by have := HK.out.2; omega⟩, hs8, hG8⟩
  have b0 : (q == 0) = false := by simpa using e0
  by_cases e1 : q = 1
  · have b1 : (q == 1) = true := by simpa using e1
    clear e0 e1
    obtain ⟨u3a, hu3a⟩ : ∃ u, u = w3.alloc (.cells #[.int .i64 2, .int .i64 3, .int .i64 3] 2) := ⟨_, rfl⟩
    have RA3a : u3a.heap[A]? = some (.cells #[.slice ao S.length capS] 26 (0, 0)) := by rw [hu3a]; exact row_g RA3 (World.grownBy_alloc w3 _ none) (by simp)
    have hX3a : IntsX b u3a ao S := by rw [hu3a]; exact hX3.below (B := 0) ((Below.refl _ _).alloc (Nat.le_refl _) _)
    have hs3a : Src u3a b a n cap := by rw [hu3a]; exact hs3.alloc _
    have hG3a : w.grownBy u3a (some b) := by rw [hu3a]; exact grown_alloc hG3 _
    have own3a : OwnInts u3a (A + 1) v C := by rw [hu3a]; exact own3.alloc _
    have I3a : Ints u3a (some ⟨w3.heap.size, 0, none⟩) [2, 3, 3] := by rw [hu3a]; exact ints_new w3 _ _
    have hp3a := pick_n b a n cap hn w3.heap.size _ 3 rfl (by omega) (by omega) (by have := hs3.lt; omega) u3a hs3a I3a
    have HU3a := Lib.hid hu3a
    clear hu3a I3a
    go_wp2_with fail
    rw [← HU3a.out]
    refine hp3a.mono ?_
    rintro e w6 ⟨m, rfl, hm6, hs6, hg6⟩
    have RA6 := row_g RA3a hg6 (by simp; omega)
    have hX6 := hX3a.grown hg6
    have hG6 := grown_trans hG3a hg6
    have own6 := own3a.kept hg6 (.inr (fun e => by have := ownBlock_ge5 own3a e; omega))
    clear hp3a hg6 RA3a hX3a hs3a hG3a own3a RA3 hX3 hs3 hG3 own3
    have hm : 2 ≤ m ∧ m ≤ 3 := by simp only [List.mem_cons, List.not_mem_nil, or_false] at hm6; omega
    clear hm6
    go_wp2_with fail
    go_loopw [5, 13] (fun lv kv wl => ∃ (k : Nat) (Ck : List Int), k ≤ N ∧ kv = .int .i64 (k : Int) ∧ Hid (CL Ck k) ∧ OwnInts wl (A + 1) lv Ck ∧ wl.heap[A]? = some (.cells #[.slice ao S.length capS] 26 (0, 0)) ∧ IntsX b wl ao S ∧ Src wl b a n cap ∧ w.grownBy wl (some b)) (fun _ kv _ => N - (intOf kv).toNat)
    case atStart => exact ⟨0, C, Nat.zero_le _, rfl, Lib.hid (by rw [HC.out]; exact cl_nil), own6, RA6, hX6, hs6, hG6⟩
    case round =>
      clear own6 RA6 hX6 hs6 hG6
      obtain ⟨k, Ck, hk, rfl, HK, own7, RA7, hX7, hs7, hG7⟩ := hrel
      have hNc := l01N_sp ao S capS wr HSp.out hX7.1
      rw [hN] at hNc
      have xA7 := cell_of1' RA7
      obtain ⟨aC, cC, hvC⟩ := own_shp own7
      subst hvC
      by_cases hlt : k < N
      · have i1 : (k : Int) < (N : Int) := by omega
        go_wp2_with fail
        refine hNc.mono ?_
        rintro e w8 ⟨rfl, hb8⟩
        have RA8 := row_g RA7 (grown_of_below hb8 none) (by simp)
        have hX8 := hX7.below (B := 0) hb8
        have hs8 := hs7.below hb8 hs7.lt
        have hG8 := grown_trans hG7 (grown_of_below hb8 _)
        have own8 := own7.below hb8
        clear hNc hb8 RA7 hX7 hs7 hG7 own7 xA7
        have hlC0 : Ck.length ≤ 1024 := by have := HK.out.2; omega
        have IC := own_ints own8
        have HIC := Lib.hid IC
        clear IC
        go_wp2_with fail
        go_loopw [14, 71] (fun gv jv wj => ∃ (j : Nat) (gd : Bool), j ≤ Ck.length ∧ jv = .int .i64 (j : Int) ∧ gv = .bool gd ∧ Below w8.heap.size w8 wj) (fun _ jv _ => Ck.length - (intOf jv).toNat)
        case atStart => exact ⟨0, true, Nat.zero_le _, rfl, rfl, Below.refl _ _⟩
        case round =>
          obtain ⟨j, gd, hj, rfl, rfl, Bj⟩ := hrel
          have RAj := row_g RA8 (grown_of_below Bj none) (by simp)
          have xAj := cell_of1' RAj
          by_cases hjl : j < Ck.length
          · have i2 : (0 : Int) ≤ (j : Int) := by omega
            have i3 : (j : Int) < (Ck.length : Int) := by omega
            have sj := Bj.size
            cases gd with
            | false =>
              go_wp2_with fail
              have fA := fam_cell xAj
              refine wp_region_fam (by kernel_rfl) (by kernel_rfl) ?_
              repeat (go_big_quiet_step (fail))
              refine wpQuiet_nil ?_
              rintro _ ⟨y, rfl⟩
              have hb2 := fam_below y
              generalize fam wr y = w2 at hb2 ⊢
              clear fA
              go_wp2_with fail
              go_roundw
              case rel => exact ⟨j + 1, false, by omega, by go_num, rfl, Bj.trans (hb2.mono sj)⟩
              case measure => simp [intOf]; omega
            | true =>
              obtain ⟨gC, oC, hgC, hlC, hcC⟩ := (HIC.out.below Bj).at hjl
              subst hgC
              have hck := hcC j hjl
              obtain ⟨c0, c1⟩ := HK.out.1 j hjl
              have hdist := fun W hI => l01Distance_any ao S capS s8 HSp.out.bd (gi Ck j) (k : Int) c0 (by omega) (by omega) (by omega) W hI
              obtain ⟨D, hD⟩ : ∃ D, D = dist S (gi Ck j) (k : Int) := ⟨_, rfl⟩
              rw [← hD] at hdist
              have hIX := (hX8.below (B := 0) Bj).1
              clear hcC hD c0 c1
              go_wp2_with fail
              have fA := fam_cell xAj
              have fC := fam_cell hck
              refine wp_region_fam (by kernel_rfl) (by kernel_rfl) ?_
              repeat (go_big_quiet_step ((go_at_call 91; exact fam_calls (hdist _ (hIX.below (fam_below _))))))
              refine wpQuiet_nil ?_
              rintro _ ⟨y, rfl⟩
              have hb2 := fam_below y
              generalize fam wr y = w2 at hb2 ⊢
              clear fA fC hdist hIX
              go_wp2_with fail
              go_roundw
              case rel => exact ⟨j + 1, _, by omega, by go_num, rfl, Bj.trans (hb2.mono sj)⟩
              case measure => simp [intOf]; omega
          · have i3 : ¬ (j : Int) < (Ck.length : Int) := by omega
            have hX9 := hX8.below (B := 0) Bj
            have hs9 := hs8.below Bj hs8.lt
            have hG9 := grown_trans hG8 (grown_of_below Bj _)
            have own9 := own8.below Bj
            have RA9 := RAj
            cases gd with
            | true =>
              have hlC : Ck.length ≤ 1073741824 := by have := HK.out.2; omega
              have hzA : A + 1 ≤ (wr.alloc (.cells #[.int .i64 (k : Int)] 2)).heap.size := by have := row_lt RA9; simp; omega
              go_wp2_with (at_builtin; refine wpList_append_int_at rfl _ _ rfl (A + 1) _ Ck rfl (own9.alloc _) wr.heap.size (k : Int) rfl (cell_new _ _ _) hlC hzA ?_; intro v' wz own' hgrow hnew)
              have RAz := row_g (row_g RA9 (World.grownBy_alloc wr (.cells #[.int .i64 (k : Int)] 2) none) (by simp)) hgrow (fun e => by have := ownBlock_ge5 own9 e.symm; omega)
              have hXz := (hX9.below (B := 0) ((Below.refl _ _).alloc (Nat.le_refl _) (.cells #[.int .i64 (k : Int)] 2))).grownR hgrow (fun g o e e2 => by have h1 := ownBlock_ge5 own9 e2.symm; have h2 := hXA.out g o e; omega)
              have hsz : Src wz b a n cap := (hs9.alloc _).grownO hgrow (fun g' e => by have := ownBlock_ge5 own9 e; omega)
              have hGz : w.grownBy wz (some b) := grown_over (grown_alloc hG9 _) hgrow (fun g' e => by have := ownBlock_ge5 own9 e; have := HA.out; omega)
              go_roundw
              case rel => exact ⟨k + 1, Ck ++ [(k : Int)], by omega, by go_num, Lib.hid HK.out.snoc, own', RAz, hXz, hsz, hGz⟩
              case measure => simp [intOf]; omega
            | false =>
              go_wp2_with fail
              go_roundw
              case rel => exact ⟨k + 1, Ck, by omega, by go_num, Lib.hid HK.out.mono, own9, RA9, hX9, hs9, hG9⟩
              case measure => simp [intOf]; omega
      · have i1 : ¬ (k : Int) < (N : Int) := by omega
        go_wp2_with fail
        refine hNc.mono ?_
        rintro e w8 ⟨rfl, hb8⟩
        have RA8 := row_g RA7 (grown_of_below hb8 none) (by simp)
        have hX8 := hX7.below (B := 0) hb8
        have hs8 := hs7.below hb8 hs7.lt
        have hG8 := grown_trans hG7 (grown_of_below hb8 _)
        have own8 := own7.below hb8
        go_wp2_with fail
        go_ret
        exact ⟨_, _, rfl, own8.rebase (by have := HA.out; omega), ⟨fun i hi => by have := HK.out.1 i hi; omega, by have := HK.out.2; omega⟩, hs8, hG8⟩
  · have b1 : (q == 1) = false := by simpa using e1
    clear e0 e1
    obtain ⟨u3a, hu3a⟩ : ∃ u, u = w3.alloc (.cells #[.int .i64 3, .int .i64 8, .int .i64 20] 2) := ⟨_, rfl⟩
    have RA3a : u3a.heap[A]? = some (.cells #[.slice ao S.length capS] 26 (0, 0)) := by rw [hu3a]; exact row_g RA3 (World.grownBy_alloc w3 _ none) (by simp)
    have hX3a : IntsX b u3a ao S := by rw [hu3a]; exact hX3.below (B := 0) ((Below.refl _ _).alloc (Nat.le_refl _) _)
    have hs3a : Src u3a b a n cap := by rw [hu3a]; exact hs3.alloc _
    have hG3a : w.grownBy u3a (some b) := by rw [hu3a]; exact grown_alloc hG3 _
    have own3a : OwnInts u3a (A + 1) v C := by rw [hu3a]; exact own3.alloc _
    have I3a : Ints u3a (some ⟨w3.heap.size, 0, none⟩) [3, 8, 20] := by rw [hu3a]; exact ints_new w3 _ _
    have hp3a := pick_n b a n cap hn w3.heap.size _ 3 rfl (by omega) (by omega) (by have := hs3.lt; omega) u3a hs3a I3a
    have HU3a := Lib.hid hu3a
    clear hu3a I3a
    go_wp2_with fail
    rw [← HU3a.out]
    refine hp3a.mono ?_
    rintro e w6 ⟨m, rfl, hm6, hs6, hg6⟩
    have RA6 := row_g RA3a hg6 (by simp; omega)
    have hX6 := hX3a.grown hg6
    have hG6 := grown_trans hG3a hg6
    have own6 := own3a.kept hg6 (.inr (fun e => by have := ownBlock_ge5 own3a e; omega))
    clear hp3a hg6 RA3a hX3a hs3a hG3a own3a RA3 hX3 hs3 hG3 own3
    have hm : 3 ≤ m ∧ m ≤ 20 := by simp only [List.mem_cons, List.not_mem_nil, or_false] at hm6; omega
    clear hm6
    have hn5 := next_any b a n cap hn m (by omega) w6 hs6
    go_wp2_with fail
    refine hn5.mono ?_
    rintro e w5 ⟨x, rfl, x0, x1, x2, hs5, hg5⟩
    have RA5 := row_g RA6 hg5 (by simp; omega)
    have hX5 := hX6.grown hg5
    have hG5 := grown_trans hG6 hg5
    have own5 := own6.kept hg5 (.inr (fun e => by have := ownBlock_ge5 own6 e; omega))
    clear hn5 hg5 RA6 hX6 hs6 hG6 own6
    have hx : x < 20 := by have := x2 (by omega); omega
    obtain ⟨k0, rfl⟩ : ∃ k0 : Nat, x = k0 := ⟨x.toNat, by omega⟩
    clear x1 x2
    go_wp2_with fail
    go_loopw [5, 16] (fun lv kv wl => ∃ (k : Nat) (Ck : List Int) (g c : Nat), k ≤ 20 ∧ kv = .int .i64 (k : Int) ∧ lv = .slice (some ⟨g, 0, none⟩) Ck.length c ∧ Hid ((∀ i, i < Ck.length → 0 ≤ gi Ck i ∧ gi Ck i < (N : Int)) ∧ Ck.length + k ≤ 40) ∧ OwnInts wl (A + 1) (.slice (some ⟨g, 0, none⟩) Ck.length c) Ck ∧ wl.heap[A]? = some (.cells #[.slice ao S.length capS] 26 (0, 0)) ∧ IntsX b wl ao S ∧ Src wl b a n cap ∧ w.grownBy wl (some b)) (fun _ kv _ => (intOf kv).toNat)
    case atStart => exact ⟨k0, C, A + 1, 0, by omega, rfl, by rw [HV.out, HC.out]; rfl, Lib.hid ⟨by rw [HC.out]; intro i hi; simp at hi, by rw [HC.out]; simp; omega⟩, by rw [HC.out] at own5 ⊢; rw [HV.out] at own5; exact own5, RA5, hX5, hs5, hG5⟩
    case round =>
      clear own5 RA5 hX5 hs5 hG5 hx x0
      obtain ⟨k, Ck, g, c, hk, rfl, rfl, HK, own7, RA7, hX7, hs7, hG7⟩ := hrel
      have hNc := l01N_sp ao S capS wr HSp.out hX7.1
      rw [hN] at hNc
      have xA7 := cell_of1' RA7
      by_cases hlt : 0 < k
      · have i1 : (0 : Int) < (k : Int) := by omega
        go_wp2_with fail
        refine hNc.mono ?_
        rintro e w8 ⟨rfl, hb8⟩
        have RA8 := row_g RA7 (grown_of_below hb8 none) (by simp)
        have hX8 := hX7.below (B := 0) hb8
        have hs8 := hs7.below hb8 hs7.lt
        have hG8 := grown_trans hG7 (grown_of_below hb8 _)
        have own8 := own7.below hb8
        clear hNc hb8 RA7 hX7 hs7 hG7 own7 xA7
        have hN1 : 1 ≤ N := by have h1 := (nW_bd HSp.out).1; rw [hN] at h1; omega
        have hn9 := next_any b a n cap hn (N : Int) (by omega) w8 hs8
        go_wp2_with fail
        refine hn9.mono ?_
        rintro e w9 ⟨y, rfl, y0, y1, y2, hs9, hg9⟩
        have RA9 := row_g RA8 hg9 (by simp; omega)
        have hX9 := hX8.grown hg9
        have hG9 := grown_trans hG8 hg9
        have own9 := own8.kept hg9 (.inr (fun e => by have := ownBlock_ge5 own8 e; omega))
        clear hn9 hg9 RA8 hX8 hs8 hG8 own8
        have hyN : y < (N : Int) := y2 (by omega)
        have hput := l01Put_any (A + 1) g c Ck y w9 (by have := HK.out.2; omega) own9
        go_wp2_with fail
        refine hput.mono ?_
        rintro e wp ⟨g', c', rfl, ownp, hbp⟩
        have RAp := row_g RA9 (grown_of_below hbp none) (by simp)
        have hXp := hX9.below (B := 0) hbp
        have hsp := hs9.below hbp hs9.lt
        have hGp := grown_trans hG9 (grown_of_below hbp _)
        have HKp : Hid ((∀ i, i < (putL Ck y).length → 0 ≤ gi (putL Ck y) i ∧ gi (putL Ck y) i < (N : Int)) ∧ (putL Ck y).length + (k - 1) ≤ 40) := Lib.hid ⟨fun i hi => by
          rcases (mem_putL Ck y _).1 (gi_mem hi) with h | h
          · obtain ⟨j, hj, e⟩ := mem_gi h
            rw [← e]; exact HK.out.1 j hj
          · rw [h]; omega, by have h1 := (putL_len Ck y).2; have h2 := HK.out.2; omega⟩
        clear hput RA9 hX9 hs9 hG9 own9 hbp y0 y1 y2 hyN
        go_wp2_with fail
        go_roundw
        case rel => exact ⟨k - 1, putL Ck y, g', c', by omega, (by rw [show ((k - 1 : Nat) : Int) = (k : Int) - 1 by omega]), rfl, HKp, ownp, RAp, hXp, hsp, hGp⟩
        case measure => simp [intOf]; omega
      · have i1 : ¬ (0 : Int) < (k : Int) := by omega
        go_wp2_with fail
        go_ret
        exact ⟨_, rfl, Ck, own7.rebase (by have := HA.out; omega), ⟨fun i hi => by have := HK.out.1 i hi; omega, by have := HK.out.2; omega⟩, hs7, hG7⟩

end Go.Proofs.YtcnnijeokefboaaGreatDoor
