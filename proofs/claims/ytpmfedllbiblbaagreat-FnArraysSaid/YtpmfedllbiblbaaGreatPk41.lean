/-
  Texts put together: Grs10x, FreeB, ChB10, MathPr. By an AI agent.
-/
import Derived.Test.YtpmfedllbiblbaaGreatPk39
import Derived.Test.YtpmfedllbiblbaaGreatPkNcsA
import Derived.Test.YtpmfedllbiblbaaGreatPkMath
import Derived.Test.YtpmfedllbiblbaaGreatPkNum
import Derived.Test.YtpmfedllbiblbaaGreatPk35
import Derived.Test.YtpmfedllbiblbaaGreatPkAppendAt
import Derived.Test.YtpmfedllbiblbaaGreatPkMark
import Derived.Test.YtpmfedllbiblbaaGreatPkSums2
import Derived.StillTailTactics
import Derived.BigRegion
import Derived.IntWalk
import Derived.Test.YtpmfedllbiblbaaGreatPkRow10
import Derived.Test.YtpmfedllbiblbaaGreatPkRer10
import Derived.Test.YtpmfedllbiblbaaGreatPkPut
namespace Go.Proofs.YtpmfedllbiblbaaGreat
open Go.RowKit Cv
set_option linter.unusedVariables false
set_option linter.unusedSimpArgs false
set_option maxRecDepth 100000

theorem ret_gs {v : Value} {x y : Int} (h : x = y) : Ending.returned (.tuple #[v, .int .i64 x]) = Ending.returned (.tuple #[v, .int .i64 y]) := by rw [h]
def slenG : Value → Nat
  | .slice _ n _ => n
  | _ => 0
/-- the digits of the first words -/
def wdL (S : List Int) (k : Nat) : List (List Int) := (List.range k).map fun (x : Nat) => digs S (x : Int)
theorem wdL_len (S : List Int) (k : Nat) : (wdL S k).length = k := by simp [wdL]
theorem wdL_succ (S : List Int) (k : Nat) : wdL S k ++ [digs S (k : Int)] = wdL S (k + 1) := by unfold wdL; rw [List.range_succ, List.map_append]; rfl
theorem rr_wdL (S : List Int) (n k : Nat) (h : k < n) : rr (wdL S n) k = digs S (k : Int) := by
  unfold rr wdL
  simp [List.getD, h]
/-- how many of the first choices a row has -/
def hkT (D : List Int) (L : List (List Int)) (k : Nat) : Nat := ((L.take k).filter fun c => hasC D c).length
theorem hkT_succ (D : List Int) (L : List (List Int)) (k : Nat) (h : k < L.length) : hkT D L (k + 1) = hkT D L k + if hasC D (rr L k) = true then 1 else 0 := by
  unfold hkT
  rw [take_rr L k h, List.filter_append, List.length_append]
  by_cases e : hasC D (rr L k) = true <;> simp [e]
theorem hkT_le (D : List Int) (L : List (List Int)) (k : Nat) : hkT D L k ≤ L.length := Nat.le_trans (List.length_filter_le _ _) (by rw [List.length_take]; omega)
theorem hkT_all (S : List Int) (L : List (List Int)) (j : Nat) : hkT (digs S (j : Int)) L L.length = hkG S L j := by unfold hkT hkG; rw [List.take_length]
theorem mbV_bd {f : Nat → Nat} {M : Nat} (h : ∀ j, f j ≤ M) (k : Nat) : mbV f k ≤ M := by
  induction k with
  | zero => exact Nat.zero_le _
  | succ k ih => rw [mbV]; split <;> first | exact h _ | exact ih
theorem riG_sub {S : List Int} {C : List (List Int)} {N : Nat} {O : List Int} {L : List (List Int)} (h : RiG S C N O L) : L.length ≤ C.length ∧ ∀ c, c ∈ L → c ∈ C := by
  rw [h.l]
  exact ⟨List.length_filter_le _ _, fun c hc => (List.mem_filter.1 hc).1⟩

set_option maxHeartbeats 4000000 in
theorem spec_GreedyRows (ao : Option Addr) (S : List Int) (cap : Nat) (hn : S.length ≤ 4294967296) (t : Int) (ht : -9223372036854775808 ≤ t ∧ t ≤ 9223372036854775807) (w : World) (hS : Ints w ao S) :
    Calls Tryz.prog 19 #[.agg #[.slice ao S.length cap], .int .i64 t] w fun e w' => ∃ v, e = .returned (.tuple #[v, .int .i64 (eGu S t)]) ∧ OwnInts w' w.heap.size v (vGu S t) ∧ Below w.heap.size w w' := by
  have B0 : Below w.heap.size w (w.alloc (.cells #[.slice ao S.length cap] 26)) := by go_grown
  have c0 := cell_new w (.slice ao S.length cap) 26
  have l0 := lt_alloc w (.cells #[.slice ao S.length cap] 26)
  have hc := l10Code_any ao S cap hn t _ (hS.below B0)
  by_cases he : eC10 S t = 0
  case neg =>
    have HV : Hid (vGu S t = [] ∧ eGu S t = eC10 S t) := Lib.hid (by unfold vGu eGu; rw [if_neg he, if_neg he]; exact ⟨rfl, rfl⟩)
    obtain ⟨E, hE⟩ : ∃ E, E = eC10 S t := ⟨_, rfl⟩
    rw [← hE] at hc he HV
    have hb : (E != 0) = true := by simpa using he
    clear hE he
    go_enter Tryz.func19, Tryz.ntmps19
    go_wp2_with fail
    refine hc.mono ?_
    rintro e w1 ⟨rfl, hb1⟩
    have B1 := B0.trans (hb1.mono B0.size)
    go_wp2_with fail
    go_ret2
    exact ⟨_, ret_gs HV.out.2.symm, by rw [HV.out.1]; exact World.ownsRow_nil _ _ _ _, B1⟩
  obtain ⟨hSp, g1, g2, g3⟩ := eC10_zero he
  have HSp := Lib.hid hSp
  have HV0 : Hid (vGu S t = upV (psG S (allC S t.toNat) (nW S).toNat) (nW S).toNat 200 ∧ eGu S t = upE (psG S (allC S t.toNat) (nW S).toNat) (nW S).toNat 200) := Lib.hid (by unfold vGu eGu; rw [if_pos he, if_pos he]; exact ⟨rfl, rfl⟩)
  rw [he] at hc
  clear he
  obtain ⟨t, rfl⟩ : ∃ n : Nat, t = n := ⟨t.toNat, by omega⟩
  rw [Int.toNat_natCast] at HV0
  obtain ⟨N1, N2⟩ := nW_bd hSp
  obtain ⟨N, hN⟩ : ∃ N : Nat, nW S = (N : Int) := ⟨(nW S).toNat, by omega⟩
  rw [hN, Int.toNat_natCast] at HV0
  have hN1 : 1 ≤ N := by omega
  have hN2 : N ≤ 1024 := by omega
  have HN := Lib.hid hN
  have ht1 : 0 < t := by omega
  have ht3 : t ≤ 3 := by omega
  have hC832 := allC_le hSp ht1 ht3
  have HCc : Hid (IsCs S.length t (allC S t)) := Lib.hid (allC_cs t)
  have HAL := Lib.hid fun w hS => l10All_any ao S cap hSp t ht1 ht3 w hS
  have HR0 := Lib.hid (riG_0 S (allC S t) N)
  have HRD := Lib.hid fun O => riG_done hSp hN (t := t) (by omega) (O := O)
  have HRS := Lib.hid fun O L => riG_step hSp hN (t := t) (by omega) (O := O) (L := L)
  obtain ⟨C, hC⟩ : ∃ C, C = allC S t := ⟨_, rfl⟩
  rw [← hC] at HV0 hC832 HCc HAL HR0 HRD HRS
  have HRL := Lib.hid fun O L => riG_sub (S := S) (C := C) (N := N) (O := O) (L := L)
  obtain ⟨U, hU⟩ : ∃ U, U = upL (psG S C N) N := ⟨_, rfl⟩
  have HV : Hid (vGu S (t : Int) = (if U.length ≤ 200 then U else []) ∧ eGu S (t : Int) = if U.length ≤ 200 then 0 else 3) := Lib.hid (by rw [HV0.out.1, HV0.out.2, hU]; exact ⟨rfl, rfl⟩)
  rw [← hU] at HRD HRS
  have HCN := Lib.hid fun W h => l01N_sp ao S cap W hSp h
  rw [hN] at HCN
  clear hSp hC hU hN HV0 N1 N2
  go_enter Tryz.func19, Tryz.ntmps19
  go_wp2_with fail
  refine hc.mono ?_
  rintro e w1 ⟨rfl, hb1⟩
  have c1 := kept_cell hb1 c0 l0
  have l1 := lt_of_below hb1 l0
  have B1 := B0.trans (hb1.mono B0.size)
  have lsE := LsAt.empty w1 (w.heap.size + 1) l1 (n := w1.heap.size) rfl
  have c2 := kept_cell ((Below.refl _ w1).alloc (Nat.le_refl _) (.cells #[] 24)) c1 l1
  have l2 : w.heap.size < (w1.alloc (.cells #[] 24)).heap.size := by simp; try omega
  have B2 := B1.alloc B1.size (.cells #[] 24)
  clear hc c0 l0 B0 hb1 c1 l1 B1
  have hW0 : Hid (wdL S 0 = []) := Lib.hid rfl
  go_wp2_with fail
  go_loopw [7, 8] (fun o x wr => ∃ i g' c' : Nat, i ≤ N ∧ x = .int .i64 (i : Int) ∧ o = .slice (some ⟨g', 0, none⟩) i c' ∧ LsAt wr (w.heap.size + 1) (.slice (some ⟨g', 0, none⟩) i c') (wdL S i) ∧ wr.cell? ⟨w.heap.size, 0, none⟩ = some (.slice ao S.length cap) ∧ w.heap.size < wr.heap.size ∧ Below w.heap.size w wr) (fun _ x _ => N - (intOf x).toNat)
  case atStart => exact ⟨0, _, 0, Nat.zero_le _, rfl, rfl, by rw [hW0.out]; exact lsE, c2, l2, B2⟩
  case round =>
    clear lsE c2 l2 B2
    obtain ⟨i, gw, cw, hi, rfl, rfl, ls, c1, l1, B⟩ := hrel
    have hcN := HCN.out wr (hS.below B)
    have HWs := Lib.hid (wdL_succ S i)
    have HWl := Lib.hid (wdL_len S i)
    by_cases hlt : i < N
    · have hlI : (i : Int) < (N : Int) := by omega
      have hx0 : (0 : Int) ≤ (i : Int) := by omega
      have hx9 : (i : Int) ≤ 9223372036854775807 := by omega
      have HDl := digs_length S (i : Int)
      obtain ⟨D, hD⟩ : ∃ D, D = digs S (i : Int) := ⟨_, rfl⟩
      have hdg := Lib.hid fun W h => l01Digits_any ao S cap HSp.out.hi HSp.out.bd (i : Int) hx0 hx9 W h
      rw [← hD] at HDl HWs hdg
      have HDL := Lib.hid HDl
      clear hD HDl
      go_wp2_with fail
      refine hcN.mono ?_
      rintro e w3 ⟨rfl, hb3⟩
      have ls3 := ls.below hb3
      have c3 := kept_cell hb3 c1 l1
      have l3 := lt_of_below hb3 l1
      have B3 := B.trans (hb3.mono B.size)
      clear hcN ls c1 l1 B hb3
      go_wp2_with fail
      refine (hdg.out _ (hS.below B3)).mono ?_
      rintro e w5 ⟨gD, rfl, own5, hb5⟩
      have ls5 := ls3.below hb5
      have own6 := own5.rebase (base' := w.heap.size + 1) l3
      have c5 := kept_cell hb5 c3 l3
      have l5 := lt_of_below hb5 l3
      have B5 := B3.trans (hb5.mono B3.size)
      clear own5 ls3 c3 l3 B3 hb5
      go_wp2_with (first
        | (at_builtin; refine wpList_append_ls rfl _ _ rfl (w.heap.size + 1) _ (wdL S i) rfl (ls5.alloc _) w5.heap.size gD S.length S.length D HDL.out.symm (own6.alloc _) rfl (cell_new _ _ _) (by rw [HWl.out]; omega) (by simp; omega) ?_; intro g9 c9 w9 ls9 hg9 hat9; rw [HWs.out, HWl.out] at ls9; rw [HWl.out])
        | fail)
      have hgw := (ls5.lo_le gw rfl).1
      have B8 : Below (w.heap.size + 1) w5 (w5.alloc (.cells #[.slice (some ⟨gD, 0, none⟩) S.length S.length] 24)) := ((Below.refl _ w5).mono l5).alloc l5 _
      have B9 : Below (w.heap.size + 1) w5 w9 := B8.grown hg9 (Nat.le_trans l5 B8.size) (fun z hz => by cases hz; exact hgw)
      have c9b := kept_cell B9 c5 (Nat.lt_succ_self _)
      have l9 := Nat.lt_of_lt_of_le l5 B9.size
      have BB := B5.trans (B9.mono (Nat.le_succ _))
      clear ls5 own6 c5 l5 B5 B8 B9 hg9 hat9 hgw
      go_wp2_with fail
      go_roundw
      case rel => exact ⟨i + 1, g9, c9, by omega, by go_num, rfl, ls9, c9b, l9, BB⟩
      case measure => simp [intOf]; omega
    have hlI : ¬ (i : Int) < (N : Int) := by omega
    have hiN : i = N := by omega
    rw [hiN] at ls hlI HWl ⊢
    clear hi hlt hiN HWs
    go_wp2_with fail
    refine hcN.mono ?_
    rintro e w3 ⟨rfl, hb3⟩
    have ls3 := ls.below hb3
    have c3 := kept_cell hb3 c1 l1
    have l3 := lt_of_below hb3 l1
    have B3 := B.trans (hb3.mono B.size)
    clear hcN ls c1 l1 B hb3
    go_wp2_with fail
    refine (HAL.out _ (hS.below B3)).mono ?_
    rintro e w5 ⟨ga, ca, rfl, lsC, hb5⟩
    have lsW := ls3.below hb5
    replace lsC := lsC.rebase (lo' := w.heap.size + 1) l3
    have c5 := kept_cell hb5 c3 l3
    have l5 := lt_of_below hb5 l3
    have B5 := B3.trans (hb5.mono B3.size)
    obtain ⟨Z, hZ⟩ : ∃ Z, Z = w5.heap.size := ⟨_, rfl⟩
    have lsC0 := (lsb_of lsC hZ).alloc (.cells #[] 2)
    have lsW0 := (lsb_of lsW hZ).alloc (.cells #[] 2)
    have o0 := own_empty w5 Z (Nat.le_of_eq hZ) rfl
    have c6 := kept_cell ((Below.refl _ w5).alloc (Nat.le_refl _) (.cells #[] 2)) c5 l5
    have l6 : w.heap.size < (w5.alloc (.cells #[] 2)).heap.size := by simp; omega
    have B6 := B5.alloc B5.size (.cells #[] 2)
    have z6 : Z ≤ (w5.alloc (.cells #[] 2)).heap.size := by simp; omega
    have hZ1 : w.heap.size + 1 ≤ Z := by omega
    clear ls3 c3 l3 B3 hb5 lsC lsW c5 l5 B5 hZ
    go_wp2_with fail
    go_loopw [9, 10] (fun l o wr => ∃ (L : List (List Int)) (O : List Int) (n gl cl go co : Nat), Hid (RiG S C N O L) ∧ Hid (O.length = n) ∧ n ≤ 200 ∧ l = .slice (some ⟨gl, 0, none⟩) L.length cl ∧ o = .slice (some ⟨go, 0, none⟩) n co ∧ LsB (fun g => g < Z) wr (w.heap.size + 1) (.slice (some ⟨gl, 0, none⟩) L.length cl) L ∧ LsB (fun g => g < Z) wr (w.heap.size + 1) (.slice (some ⟨gw, 0, none⟩) N cw) (wdL S N) ∧ OwnInts wr Z (.slice (some ⟨go, 0, none⟩) n co) O ∧ Z ≤ wr.heap.size ∧ wr.cell? ⟨w.heap.size, 0, none⟩ = some (.slice ao S.length cap) ∧ w.heap.size < wr.heap.size ∧ Below w.heap.size w wr) (fun _ o _ => 200 - slenG o)
    case atStart => exact ⟨C, [], 0, ga, ca, _, 0, HR0, Lib.hid rfl, Nat.zero_le _, rfl, rfl, lsC0, lsW0, o0, z6, c6, l6, B6⟩
    case round =>
      clear lsC0 lsW0 o0 z6 c6 l6 B6
      obtain ⟨L, O, n, gl, cl, go, co, HRi, HnO, hn2, rfl, rfl, lsL, lsW, oO, zr, c1, l1, B⟩ := hrel
      obtain ⟨hLC, hLs⟩ := HRL.out O L HRi.out
      have HLc : Hid (IsCs S.length t L) := Lib.hid fun c hc => HCc.out c (hLs c hc)
      obtain ⟨m, hm⟩ : ∃ m, m = L.length := ⟨_, rfl⟩
      rw [← hm] at lsL hLC ⊢
      have hm8 : m ≤ 832 := by omega
      have HmL := Lib.hid hm
      clear hLs hLC hm
      by_cases hm0 : m = 0
      · have hlm : ¬ (0 : Int) < (m : Int) := by omega
        have hlm2 : ¬ 0 < m := by omega
        have HVe : Hid (vGu S (t : Int) = O ∧ eGu S (t : Int) = 0) := Lib.hid (by
          have hL : L = [] := List.eq_nil_of_length_eq_zero (by rw [← HmL.out]; exact hm0)
          have h := HRi.out
          rw [hL] at h
          have e := HRD.out O h
          rw [HV.out.1, HV.out.2, ← e, HnO.out, if_pos hn2, if_pos hn2]
          exact ⟨rfl, rfl⟩)
        have hwZ : w.heap.size ≤ Z := by omega
        clear hm0
        go_wp2_with fail
        go_ret2
        exact ⟨_, ret_gs HVe.out.2.symm, by rw [HVe.out.1]; exact oO.rebase hwZ, B⟩
      have hlm : (0 : Int) < (m : Int) := by omega
      have hlm2 : 0 < m := by omega
      have hLne : Hid (L ≠ []) := Lib.hid fun e => hm0 (by rw [HmL.out, e]; rfl)
      have HSt := Lib.hid (HRS.out O L HRi.out hLne.out)
      clear hm0
      by_cases h200 : n = 200
      · have hpI : ((n : Int) == 200) = true := by simp [h200]
        have HVe : Hid (vGu S (t : Int) = [] ∧ eGu S (t : Int) = 3) := Lib.hid (by
          have h := HSt.out.2.1
          rw [HnO.out] at h
          rw [HV.out.1, HV.out.2, if_neg (by omega), if_neg (by omega)]
          exact ⟨rfl, rfl⟩)
        clear h200
        go_wp2_with fail
        go_ret2
        exact ⟨_, ret_gs HVe.out.2.symm, by rw [HVe.out.1]; exact World.ownsRow_nil _ _ _ _, B⟩
      have hpI : ((n : Int) == 200) = false := by simp; omega
      have hn1 : n < 200 := by omega
      clear h200
      obtain ⟨w0, rfl⟩ : ∃ w0, w0 = wr := ⟨_, rfl⟩
      go_wp2_with fail
      go_loopw [11, 12, 13] (fun b q x wr => ∃ k : Nat, k ≤ N ∧ x = .int .i64 (k : Int) ∧ b = .int .i64 ((mbI (hkG S L) k : Nat) : Int) ∧ q = .int .i64 ((mbV (hkG S L) k : Nat) : Int) ∧ Below w0.heap.size w0 wr) (fun _ _ x _ => N - (intOf x).toNat)
      case atStart => exact ⟨0, Nat.zero_le _, rfl, rfl, rfl, Below.refl _ _⟩
      case round =>
        obtain ⟨k, hk, rfl, rfl, rfl, BW⟩ := hrel
        have lsW1 := lsW.below BW
        have lsL1 := lsL.below BW
        obtain ⟨w4, rfl⟩ : ∃ w4, w4 = wr := ⟨_, rfl⟩
        have HMB := Lib.hid (mb_step (hkG S L) k)
        have HMk : Hid (k = N → mbI (hkG S L) k = mbI (hkG S L) N) := Lib.hid fun e => by rw [e]
        have hV8 : mbV (hkG S L) k ≤ m := mbV_bd (fun j => by rw [HmL.out]; exact List.length_filter_le _ _) k
        obtain ⟨V, hV⟩ : ∃ V, V = mbV (hkG S L) k := ⟨_, rfl⟩
        obtain ⟨I, hI⟩ : ∃ I, I = mbI (hkG S L) k := ⟨_, rfl⟩
        rw [← hV, ← hI] at HMB ⊢
        rw [← hV] at hV8
        rw [← hI] at HMk
        clear hV hI
        by_cases hlk : k < N
        · have hkI : (k : Int) < (N : Int) := by omega
          obtain ⟨gw', gd, cd, hgw', hlW, hcW, hoW, _⟩ := lsW1.at (show k < (wdL S N).length by rw [wdL_len]; exact hlk)
          obtain rfl : gw = gw' := by simpa using hgw'
          rw [rr_wdL S N k hlk, digs_length] at hcW hoW
          have HDl : Hid ((digs S (k : Int)).length = S.length) := Lib.hid (digs_length S (k : Int))
          have HTF := Lib.hid (hkT_all S L k)
          obtain ⟨D, hD⟩ : ∃ D, D = digs S (k : Int) := ⟨_, rfl⟩
          rw [← hD] at hoW HDl HTF
          obtain ⟨F, hF⟩ : ∃ F, F = hkG S L k := ⟨_, rfl⟩
          rw [← hF] at HTF HMB
          clear hgw' hD HMk hF
          go_wp2_with fail
          go_loopw [14, 15] (fun q x wr => ∃ j : Nat, j ≤ m ∧ x = .int .i64 (j : Int) ∧ q = .int .i64 ((hkT D L j : Nat) : Int) ∧ Below w4.heap.size w4 wr) (fun _ x _ => m - (intOf x).toNat)
          case atStart => exact ⟨0, Nat.zero_le _, rfl, by simp [hkT], Below.refl _ _⟩
          case round =>
            obtain ⟨j, hj, rfl, rfl, BJ⟩ := hrel
            have hTl : hkT D L j ≤ m := by rw [HmL.out]; exact hkT_le D L j
            have HTs := Lib.hid (hkT_succ D L j)
            have HTe : Hid (j = m → hkT D L j = F) := Lib.hid fun e => by rw [e, HmL.out]; exact HTF.out
            obtain ⟨T, hT⟩ : ∃ T, T = hkT D L j := ⟨_, rfl⟩
            rw [← hT] at hTl HTs HTe ⊢
            clear hT
            by_cases hlj : j < m
            · have hjI : (j : Int) < (m : Int) := by omega
              have hjL : j < L.length := by rw [← HmL.out]; exact hlj
              obtain ⟨gl', gr, cr, hgl', hlL, hcL, hoL, _⟩ := lsL1.at hjL
              obtain rfl : gl = gl' := by simpa using hgl'
              replace hcL := kept_cell BJ hcL hlL
              replace hlL := lt_of_below BJ hlL
              replace hoL := own_ints (hoL.below BJ)
              replace hcW := kept_cell BJ hcW hlW
              replace hlW := lt_of_below BJ hlW
              replace hoW := own_ints (hoW.below BJ)
              obtain ⟨hEl, hEb⟩ := HLc.out _ (rr_mem hjL)
              have HTn := Lib.hid (HTs.out hjL)
              obtain ⟨E, hE⟩ : ∃ E, E = rr L j := ⟨_, rfl⟩
              rw [← hE] at hEl hEb HTn hcL hoL
              obtain ⟨me, hme⟩ : ∃ me, me = E.length := ⟨_, rfl⟩
              rw [← hme] at hEl hcL
              have HHas := Lib.hid fun W h1 h2 => l10Has_any gd S.length cd D gr me cr t E HDl.out HSp.out.hi hme.symm hEl ht3 hEb W h1 h2
              obtain ⟨bo, hbo⟩ : ∃ bo, bo = hasC D E := ⟨_, rfl⟩
              rw [← hbo] at HHas HTn
              have hjN : j < m := hlj
              clear hgl' hE hme hbo hEb hEl HTs HTe hjL
              go_wp2_with fail
              refine wp_region_held_drew (S := fun w' => w'.cell? ⟨gw, k, none⟩ = some (.slice (some ⟨gd, 0, none⟩) S.length cd) ∧ w'.cell? ⟨gl, j, none⟩ = some (.slice (some ⟨gr, 0, none⟩) me cr)) (by kernel_rfl) (⟨hcW, hcL⟩) (fun hHeld => ?_)
              refine wpAnyH_take (i := 0) (v := ?_) rfl (by kernel_rfl) (by kernel_rfl) (by kernel_rfl) (fun _ _ _ h => h) (Or.inl ⟨by rfl, ?_⟩) (by assumption) ?_
              rotate_left
              · (intro w hSw; obtain ⟨hSw0, hSw1⟩ := hSw; (try dsimp only at hSw0 hSw1); go_simp; try (with_reducible rfl))
              (try simp only [Act.put, List.setIfInBounds_toArray, List.set_cons_zero, List.set_cons_succ, List.getElem_toArray, List.getElem_cons_succ, List.getElem_cons_zero])
              refine wpAnyH_take (i := 1) (v := ?_) rfl (by kernel_rfl) (by kernel_rfl) (by kernel_rfl) (fun _ _ _ h => h) (Or.inl ⟨by rfl, ?_⟩) (by assumption) ?_
              rotate_left
              · (intro w hSw; obtain ⟨hSw0, hSw1⟩ := hSw; (try dsimp only at hSw0 hSw1); go_simp; try (with_reducible rfl))
              (try simp only [Act.put, List.setIfInBounds_toArray, List.set_cons_zero, List.set_cons_succ, List.getElem_toArray, List.getElem_cons_succ, List.getElem_cons_zero])
              refine wpAnyH_take (i := 2) (v := ?_) rfl (by kernel_rfl) (by kernel_rfl) (by kernel_rfl) (fun _ _ _ h => h) (Or.inl ⟨by rfl, ?_⟩) (by assumption) ?_
              rotate_left
              · (intro w hSw; obtain ⟨hSw0, hSw1⟩ := hSw; (try dsimp only at hSw0 hSw1); go_simp; try (with_reducible rfl))
              (try simp only [Act.put, List.setIfInBounds_toArray, List.set_cons_zero, List.set_cons_succ, List.getElem_toArray, List.getElem_cons_succ, List.getElem_cons_zero])
              refine wpAnyH_take (i := 3) (v := ?_) rfl (by kernel_rfl) (by kernel_rfl) (by kernel_rfl) (fun _ _ _ h => h) (Or.inl ⟨by rfl, ?_⟩) (by assumption) ?_
              rotate_left
              · (intro w hSw; obtain ⟨hSw0, hSw1⟩ := hSw; (try dsimp only at hSw0 hSw1); go_simp; try (with_reducible rfl))
              (try simp only [Act.put, List.setIfInBounds_toArray, List.set_cons_zero, List.set_cons_succ, List.getElem_toArray, List.getElem_cons_succ, List.getElem_cons_zero])
              refine wpAnyH_take (i := 4) (v := ?_) rfl (by kernel_rfl) (by kernel_rfl) (by kernel_rfl) (fun _ _ _ h => h) (Or.inl ⟨by rfl, ?_⟩) (by assumption) ?_
              rotate_left
              · (intro w hSw; obtain ⟨hSw0, hSw1⟩ := hSw; (try dsimp only at hSw0 hSw1); go_simp; try (with_reducible rfl))
              (try simp only [Act.put, List.setIfInBounds_toArray, List.set_cons_zero, List.set_cons_succ, List.getElem_toArray, List.getElem_cons_succ, List.getElem_cons_zero])
              refine wpAnyH_take (i := 5) (v := ?_) rfl (by kernel_rfl) (by kernel_rfl) (by kernel_rfl) (fun _ _ _ h => h) (Or.inl ⟨by rfl, ?_⟩) (by assumption) ?_
              rotate_left
              · (intro w hSw; obtain ⟨hSw0, hSw1⟩ := hSw; (try dsimp only at hSw0 hSw1); go_simp; try (with_reducible rfl))
              (try simp only [Act.put, List.setIfInBounds_toArray, List.set_cons_zero, List.set_cons_succ, List.getElem_toArray, List.getElem_cons_succ, List.getElem_cons_zero])
              refine wpAnyH_take (i := 6) (v := ?_) rfl (by kernel_rfl) (by kernel_rfl) (by kernel_rfl) (fun _ _ _ h => h) (Or.inl ⟨by rfl, ?_⟩) (by assumption) ?_
              rotate_left
              · (intro w hSw; obtain ⟨hSw0, hSw1⟩ := hSw; (try dsimp only at hSw0 hSw1); go_simp; try (with_reducible rfl))
              (try simp only [Act.put, List.setIfInBounds_toArray, List.set_cons_zero, List.set_cons_succ, List.getElem_toArray, List.getElem_cons_succ, List.getElem_cons_zero])
              refine wpAnyH_take (i := 7) (v := ?_) rfl (by kernel_rfl) (by kernel_rfl) (by kernel_rfl) (fun _ _ _ h => h) (Or.inl ⟨by rfl, ?_⟩) (by assumption) ?_
              rotate_left
              · (intro w hSw; obtain ⟨hSw0, hSw1⟩ := hSw; (try dsimp only at hSw0 hSw1); go_simp; try (with_reducible rfl))
              (try simp only [Act.put, List.setIfInBounds_toArray, List.set_cons_zero, List.set_cons_succ, List.getElem_toArray, List.getElem_cons_succ, List.getElem_cons_zero])
              refine wpAnyH_ready (rs := [8]) (by kernel_rfl) (by simp) ?_
              refine AllReadyH.cons rfl (fun K hK => ?_) AllReadyH.nil
              go_simp
              (go_at_call 56; refine (HHas.out _ (hoW.below (Below.refl wr.heap.size wr).drew) (hoL.below (Below.refl wr.heap.size wr).drew)).mono ?_)
              rintro e x1 ⟨rfl, hb1⟩
              have H1 : Below wr.heap.size wr x1 := Below.trans (Below.refl wr.heap.size wr).drew (hb1.mono (Below.size (Below.refl wr.heap.size wr).drew))
              refine hK.out _ _ (⟨kept_cell H1 hcW hlW, kept_cell H1 hcL hlL⟩) (fun hHeld => ?_)
              clear hK K
              (try simp only [Act.put, List.setIfInBounds_toArray, List.set_cons_zero, List.set_cons_succ, List.getElem_toArray, List.getElem_cons_succ, List.getElem_cons_zero])
              refine wpAnyH_done (by kernel_rfl) ?_ _
              (try simp only [Act.put, List.setIfInBounds_toArray, List.set_cons_zero, List.set_cons_succ, List.getElem_toArray, List.getElem_cons_succ, List.getElem_cons_zero])
              have Hn : Below wr.heap.size wr x1 := H1
              obtain ⟨w5, hw5⟩ : ∃ z, z = x1 := ⟨_, rfl⟩
              rw [← hw5] at Hn ⊢
              clear hw5 hHeld
              have BJ5 := BJ.trans (Hn.mono BJ.size)
              clear BJ Hn hcL hlL hoL hcW hlW hoW HHas
              cases bo with
              | true =>
                have HT2 : Hid (hkT D L (j + 1) = T + 1) := Lib.hid (by rw [HTn.out]; rfl)
                clear HTn
                go_wp2_with fail
                go_roundw
                case rel => exact ⟨j + 1, by omega, by go_num, by rw [HT2.out]; go_num, BJ5⟩
                case measure => simp [intOf]; omega
              | false =>
                have HT2 : Hid (hkT D L (j + 1) = T) := Lib.hid (by rw [HTn.out]; rfl)
                clear HTn
                go_wp2_with fail
                go_roundw
                case rel => exact ⟨j + 1, by omega, by go_num, by rw [HT2.out], BJ5⟩
                case measure => simp [intOf]; omega
            have hjI : ¬ (j : Int) < (m : Int) := by omega
            have hTF := HTe.out (by omega)
            rw [← hTF] at HMB
            have BW5 := BW.trans (BJ.mono BW.size)
            clear HTe HTs BW BJ
            by_cases hVT : V < T
            · have hVI : (V : Int) < (T : Int) := by omega
              have HM2 : Hid (mbV (hkG S L) (k + 1) = T ∧ mbI (hkG S L) (k + 1) = k) := Lib.hid (by rw [HMB.out.1, HMB.out.2, if_pos hVT, if_pos hVT]; exact ⟨rfl, rfl⟩)
              clear hVT hTF
              go_wp2_with fail
              go_roundw
              case rel => exact ⟨k + 1, by omega, by go_num, by rw [HM2.out.2], by rw [HM2.out.1], BW5⟩
              case measure => simp [intOf]; omega
            · have hVI : ¬ (V : Int) < (T : Int) := by omega
              have HM2 : Hid (mbV (hkG S L) (k + 1) = V ∧ mbI (hkG S L) (k + 1) = I) := Lib.hid (by rw [HMB.out.1, HMB.out.2, if_neg hVT, if_neg hVT]; exact ⟨rfl, rfl⟩)
              clear hVT hTF
              go_wp2_with fail
              go_roundw
              case rel => exact ⟨k + 1, by omega, by go_num, by rw [HM2.out.2], by rw [HM2.out.1], BW5⟩
              case measure => simp [intOf]; omega
        have hkI : ¬ (k : Int) < (N : Int) := by omega
        have hIN := HMk.out (by omega)
        have HS2 := HSt.out
        rw [← hIN] at HS2
        obtain ⟨hI1, _, HRn⟩ := HS2
        obtain ⟨O', hO'⟩ : ∃ O', O' = O ++ [((I : Nat) : Int)] := ⟨_, rfl⟩
        have HOl : Hid (O'.length = n + 1) := Lib.hid (by rw [hO', List.length_append, HnO.out]; rfl)
        have HmO : Hid ((O ++ [((I : Nat) : Int)]) = O') := Lib.hid hO'.symm
        have HNx : Hid (msTo S L [((I : Nat) : Int)] 1 = L.filter fun c => !hasC (digs S ((I : Nat) : Int)) c) := Lib.hid rfl
        obtain ⟨Nx, hNx⟩ : ∃ Nx, Nx = L.filter fun c => !hasC (digs S ((I : Nat) : Int)) c := ⟨_, rfl⟩
        rw [← hNx] at HRn HNx
        rw [← hO'] at HRn
        have HRn2 := Lib.hid HRn
        have oO1 := oO.below BW
        have zr1 := Nat.le_trans zr BW.size
        have cc := kept_cell BW c1 l1
        have ll := lt_of_below BW l1
        have BB := B.trans (BW.mono B.size)
        have HCA : Hid (∀ (b : Nat) (W : World), w.heap.size + 1 ≤ W.heap.size → Ints W ao S → LsB (fun g => g < Z) W (w.heap.size + 1) (.slice (some ⟨gl, 0, none⟩) m cl) L → Ints W (some ⟨b, 0, none⟩) [((I : Nat) : Int)] → Calls Tryz.prog 45 #[.agg #[.slice ao S.length cap], .slice (some ⟨gl, 0, none⟩) m cl, .slice (some ⟨b, 0, none⟩) 1 1] W fun e w' => ∃ g c, e = .returned (.slice (some ⟨g, 0, none⟩) Nx.length c) ∧ LsB (fun g => g < Z) w' (w.heap.size + 1) (.slice (some ⟨g, 0, none⟩) Nx.length c) Nx ∧ Below W.heap.size W w') := Lib.hid fun b W h1 h2 h3 h4 => by
          rw [HmL.out] at h3 ⊢
          have h := l10MissingB_any ao S cap HSp.out (w.heap.size + 1) gl cl t L ht3 (by rw [← HmL.out]; omega) HLc.out (some ⟨b, 0, none⟩) [((I : Nat) : Int)] 1 (by simp) (one_rng ⟨by omega, by rw [HN.out]; omega⟩) W h1 h2 h3 h4
          rw [show ([((I : Nat) : Int)] : List Int).length = 1 from rfl, HNx.out] at h
          exact h
        clear hIN HRn hO' hNx HNx lsW lsL oO zr c1 l1 B BW HMk HMB
        go_wp2_with (first
          | (at_builtin; refine wpList_append_int rfl _ _ rfl Z _ O rfl (oO1.alloc _) w4.heap.size ((I : Nat) : Int) rfl (cell_new _ _ _) (by rw [HnO.out]; omega) (by simp; omega) ?_; intro v7 w7 own7 hgrow7; obtain ⟨g7, c7, hv7, _⟩ := own_some own7 (by simp); rw [HmO.out, HOl.out] at hv7; subst hv7; rw [HmO.out] at own7; have B7 : Below (w.heap.size + 1) w4 w7 := (((Below.refl _ w4).mono ll).alloc ll (.cells #[.int .i64 ((I : Nat) : Int)] 2)).grown hgrow7 (by simp; omega) (fun z hz => by have h1 := oO1.base_le.1; have e' : go = z := Option.some.inj hz; omega); have c7b := kept_cell B7 cc (Nat.lt_succ_self _))
          | fail)
        have lsL7 := (lsL1.alloc (.cells #[.int .i64 ((I : Nat) : Int)] 2)).keptI (oO1.alloc (.cells #[.int .i64 ((I : Nat) : Int)] 2)) hgrow7 (fun g hg => by have h1 := oO1.base_le.1; simp only [Value.ownBlock]; intro e; have e' := Option.some.inj e; omega)
        have lsW7 := (lsW1.alloc (.cells #[.int .i64 ((I : Nat) : Int)] 2)).keptI (oO1.alloc (.cells #[.int .i64 ((I : Nat) : Int)] 2)) hgrow7 (fun g hg => by have h1 := oO1.base_le.1; simp only [Value.ownBlock]; intro e; have e' := Option.some.inj e; omega)
        have l7 := Nat.lt_of_lt_of_le ll B7.size
        have z7 : Z ≤ w7.heap.size := by have h1 := B7.size; omega
        have BB7 := BB.trans (B7.mono (Nat.le_succ _))
        clear oO1 lsL1 lsW1 cc ll BB B7 hgrow7
        have oI := own_one w7 ((I : Nat) : Int) (w.heap.size + 1) l7 (n := w7.heap.size) rfl
        have B8 : Below w7.heap.size w7 (w7.alloc (.cells #[.int .i64 ((I : Nat) : Int)] 2)) := (Below.refl _ w7).alloc (Nat.le_refl _) _
        go_wp2_with fail
        refine (HCA.out _ _ (Nat.le_trans l7 B8.size) ((hS.below BB7).below B8) (lsL7.below B8) (own_ints oI)).mono ?_
        rintro e w9 ⟨gn, cn, rfl, lsN, hb9⟩
        have BX := B8.trans (hb9.mono B8.size)
        have lsW9 := lsW7.below BX
        have own9 := own7.below BX
        have c9 := kept_cell BX c7b l7
        have l9 := lt_of_below BX l7
        have z9 := Nat.le_trans z7 BX.size
        have B9 := BB7.trans (BX.mono BB7.size)
        clear HCA lsL7 lsW7 own7 c7b l7 z7 BB7 oI B8 hb9 BX
        go_wp2_with fail
        go_roundw
        case rel => exact ⟨Nx, O', n + 1, gn, cn, g7, c7, HRn2, HOl, by omega, rfl, rfl, lsN, lsW9, own9, z9, c9, l9, B9⟩
        case measure => simp [slenG]; omega

end Go.Proofs.YtpmfedllbiblbaaGreat

namespace Go.Proofs.YtpmfedllbiblbaaGreat
open Go.RowKit Cv
set_option linter.unusedVariables false
set_option linter.unusedSimpArgs false
set_option maxRecDepth 100000

end Go.Proofs.YtpmfedllbiblbaaGreat

namespace Go.Proofs.YtpmfedllbiblbaaGreat
open Go.RowKit Cv
set_option linter.unusedVariables false
set_option linter.unusedSimpArgs false
set_option maxRecDepth 100000

theorem ret_ib {a b c d : Int} (h1 : a = b) (h2 : c = d) : Ending.returned (.tuple #[.int .i64 a, .int .i64 c]) = .returned (.tuple #[.int .i64 b, .int .i64 d]) := by rw [h1, h2]
theorem eR10_nil (S : List Int) (t : Int) : eR10 S [] t = eC10 S t := by
  by_cases h : isSp S = true
  · exact eR10_ok h ⟨(okW_iff S [] _).2 (fun i hi => by simp at hi), by simp⟩
  · have h' : isSp S = false := by simpa using h
    rw [eR10_inv h', eC10_inv h']
/-- the product of the t largest sizes -/
def topP (S : List Int) (t : Nat) : Int := prodTo ((sorted S).drop (S.length - t)) t
def vCb (S : List Int) (t : Int) : Int := if eC10 S t = 0 then topP S t.toNat else 0

set_option maxHeartbeats 2000000 in
theorem impl_ChoiceBound (ao : Option Addr) (S : List Int) (cap : Nat) (hn : S.length ≤ 4294967296) (t : Int) (ht : -9223372036854775808 ≤ t ∧ t ≤ 9223372036854775807) (w : World) (hS : Ints w ao S) :
    Calls Tryz.prog 26 #[.agg #[.slice ao S.length cap], .int .i64 t] w fun e w' => e = .returned (.tuple #[.int .i64 (vCb S t), .int .i64 (eC10 S t)]) ∧ Below w.heap.size w w' := by
  have B0 : Below w.heap.size w (w.alloc (.cells #[.slice ao S.length cap] 26)) := by go_grown
  have c0 := cell_new w (.slice ao S.length cap) 26
  have l0 := lt_alloc w (.cells #[.slice ao S.length cap] 26)
  have hc := rowsError_any ao S cap hn none [] 0 (by simp) t _ (hS.below B0) (.inl rfl)
  rw [eR10_nil, show ([] : List Int).length = 0 from rfl] at hc
  by_cases he : eC10 S t = 0
  case neg =>
    have HV : Hid (vCb S t = 0) := Lib.hid (by unfold vCb; rw [if_neg he])
    obtain ⟨E, hE⟩ : ∃ E, E = eC10 S t := ⟨_, rfl⟩
    rw [← hE] at hc he ⊢
    have hb : (E != 0) = true := by simpa using he
    clear hE he
    go_enter Tryz.func26, Tryz.ntmps26
    go_wp2_with fail
    refine hc.mono ?_
    rintro e w1 ⟨rfl, hb1⟩
    have B1 := B0.trans (hb1.mono B0.size)
    go_wp2_with fail
    go_ret2
    exact ⟨ret_ib HV.out.symm rfl, B1⟩
  obtain ⟨hSp, g1, g2, g3⟩ := eC10_zero he
  have HSp := Lib.hid hSp
  have hlo := hSp.lo
  have hhi := hSp.hi
  have HV : Hid (vCb S t = topP S t.toNat) := Lib.hid (by unfold vCb; rw [if_pos he])
  have HE := Lib.hid he
  rw [he] at hc
  clear he hSp
  obtain ⟨t, rfl⟩ : ∃ n : Nat, t = n := ⟨t.toNat, by omega⟩
  rw [Int.toNat_natCast] at HV
  go_enter Tryz.func26, Tryz.ntmps26
  go_wp2_with fail
  refine hc.mono ?_
  rintro e w1 ⟨rfl, hb1⟩
  have c1 := kept_cell hb1 c0 l0
  have l1 := lt_of_below hb1 l0
  have B1 := B0.trans (hb1.mono B0.size)
  clear hc c0 l0 B0 hb1
  go_wp2_with fail
  refine (values_any ao S cap w1).mono ?_
  rintro e w2 ⟨rfl, hvb, hb2⟩
  have B2 := B1.trans (hb2.mono B1.size)
  go_wp2_with fail
  refine (sorted_values w1.heap.size ao S cap hlo (by omega) w2 (hS.below B2) hvb).mono ?_
  rintro e w3 ⟨v, rfl, own, hb3⟩
  have B3 := B2.trans (hb3.mono B2.size)
  have hsl := sorted_len S
  obtain ⟨g, kg, rfl, _⟩ := own_some own (by intro h; rw [h] at hsl; simp at hsl; omega)
  obtain ⟨hcap, _⟩ := own_cap own
  rw [hsl] at hcap
  have hg := own.base_le
  obtain ⟨m, hm⟩ : ∃ m : Nat, m = S.length - t := ⟨_, rfl⟩
  have hmt : m + t = S.length := by omega
  have hIm : (S.length : Int) - (t : Int) = (m : Int) := by omega
  have E1 : IntKind.i64.wrap (m : Int) = (m : Int) := IntWalk.i64_in _ ⟨by omega, by omega⟩
  have i0 : (0 : Int) ≤ (m : Int) := by omega
  have i1 : (m : Int) ≤ (S.length : Int) := by omega
  have i2 : m ≤ S.length := by omega
  have i3 : ¬ kg = m := by omega
  have i4 : ¬ m = kg := by omega
  have i5 : (S.length : Int) ≤ (kg : Int) := by omega
  have HDl : Hid (((sorted S).drop m).length = S.length - m) := Lib.hid (by rw [List.length_drop, hsl])
  have hSm : S.length - m = t := by omega
  have HTP : Hid (prodTo ((sorted S).drop m) (S.length - m) = topP S t) := Lib.hid (by unfold topP; rw [hSm, hm])
  have hI : Ints w3 (some ⟨g, m, none⟩) ((sorted S).drop m) := own_ints_drop own m
  have hbt : ∀ i, i < ((sorted S).drop m).length → 2 ≤ gi ((sorted S).drop m) i ∧ gi ((sorted S).drop m) i ≤ 4 := fun i hi => by rw [HDl.out] at hi; rw [gi_drop]; exact sorted_bd HSp.out.bd _ (by omega)
  have hw := wordCount_any (some ⟨g, m, none⟩) ((sorted S).drop m) (kg - m) w3 (by rw [HDl.out]; omega) hbt hI
  rw [HDl.out, HTP.out] at hw
  rw [hsl]
  clear hbt hI hm hsl hvb hb2 hb3 own hSm hmt
  go_wp2_with fail
  refine hw.mono ?_
  rintro e w4 ⟨rfl, hb4⟩
  go_wp2_with fail
  go_ret2
  exact ⟨ret_ib HV.out.symm HE.out.symm, B3.trans (hb4.mono B3.size)⟩

end Go.Proofs.YtpmfedllbiblbaaGreat

namespace Go.Proofs.YtpmfedllbiblbaaGreat
open Go.RowKit Cv
set_option linter.unusedVariables false
set_option linter.unusedSimpArgs false

theorem nd_len2 {α : Type} [DecidableEq α] : ∀ {L M : List α}, L.Nodup → (∀ x, x ∈ L → x ∈ M) → L.length ≤ M.length := by
  intro L
  induction L with
  | nil => intro M _ _; simp
  | cons a L ih =>
    intro M hn hs
    have ha : a ∈ M := hs a (by simp)
    rw [List.nodup_cons] at hn
    have := ih (M := M.erase a) hn.2 fun x hx => (List.mem_erase_of_ne (fun (e : x = a) => hn.1 (by rw [← e]; exact hx))).2 (hs x (by simp [hx]))
    rw [List.length_erase_of_mem ha] at this
    have hp : 0 < M.length := List.length_pos_of_mem ha
    simp; omega
/-- a choice that no rows lack is in a row -/
theorem ms_has {S : List Int} {C : List (List Int)} {R : List Int} {c : List Int} (hc : c ∈ C) : ∀ n, c ∉ msTo S C R n → ∃ i, i < n ∧ hasC (digs S (gi R i)) c = true
  | 0, h => absurd hc h
  | n + 1, h => by
    by_cases g : c ∈ msTo S C R n
    · rw [msTo, List.mem_filter] at h
      refine ⟨n, by omega, ?_⟩
      cases e : hasC (digs S (gi R n)) c with
      | true => rfl
      | false => exact absurd ⟨g, by rw [e]; rfl⟩ h
    · obtain ⟨i, hi, e⟩ := ms_has hc n g
      exact ⟨i, by omega, e⟩
theorem hcTo_at {D c : List Int} {t : Nat} : ∀ n, hcTo D c t n = true → ∀ k, k < n → gi D (gi c k).toNat = gi c (t + k)
  | 0, _, k, hk => by omega
  | n + 1, h, k, hk => by
    rw [hcTo, Bool.and_eq_true] at h
    by_cases e : k = n
    · subst e; simpa using h.2
    · exact hcTo_at n h.1 k (by omega)
theorem has_dg {T P D : List Int} {t : Nat} (hP : P.length = t) (hD : D.length = t) (h : hasC T (P ++ D) = true) : D = P.map fun p => gi T p.toNat := by
  unfold hasC at h
  rw [List.length_append, hP, hD, show (t + t) / 2 = t by omega] at h
  have h2 := hcTo_at t h
  refine ext_gi (by rw [List.length_map]; omega) fun i hi => ?_
  have := h2 i (by omega)
  rw [gi_append_lt _ _ _ (by omega), gi_append_ge _ _ _ (by omega), show t + i - P.length = i by omega] at this
  rw [← this]
  simp [gi, List.getD, show i < P.length by omega]
theorem dg_nd {Q : List Int} (hQ : Sp Q) : (dgTo Q Q.length).Nodup := by
  rw [dgTo_digs Q hQ.bd Q.length (Nat.le_refl _), List.take_length]
  rw [List.Nodup, List.pairwise_map]
  refine (List.Pairwise.and_mem.1 (List.nodup_range (n := (prodTo Q Q.length).toNat))).imp fun {a b} h e => ?_
  obtain ⟨ha, hb, hne⟩ := h
  rw [List.mem_range] at ha hb
  have h1 := wordTo_digs Q (a : Int) hQ (by omega) (by omega)
  have h2 := wordTo_digs Q (b : Int) hQ (by omega) (by omega)
  rw [e] at h1
  exact hne (by omega)
theorem sp_szP {S : List Int} (hS : Sp S) {t : Nat} (h1 : 1 ≤ t) (h3 : t ≤ 3) {P : List Int} (hP : P ∈ plM S.length 0 t) : Sp (szP S P) := by
  obtain ⟨hl, hb⟩ := szP_bd hS hP
  refine ⟨by omega, by omega, hb, ?_⟩
  rw [hl]
  have c0 : ∀ i, i < t → 0 ≤ gi (szP S P) i ∧ gi (szP S P) i ≤ 4 := fun i hi => by have := hb i (by omega); omega
  have key : ∀ k, k ≤ t → 0 ≤ prodTo (szP S P) k ∧ prodTo (szP S P) k ≤ 4 ^ k := by
    intro k
    induction k with
    | zero => intro _; simp [prodTo]
    | succ k ih =>
      intro hk
      obtain ⟨i1, i2⟩ := ih (by omega)
      obtain ⟨g1, g2⟩ := c0 k (by omega)
      rw [prodTo, Int.pow_succ]
      exact ⟨Int.mul_nonneg i1 g1, Int.mul_le_mul i2 g2 g1 (by have : (0 : Int) ≤ 4 ^ k := Int.le_trans i1 i2; exact this)⟩
  have h := (key t (Nat.le_refl _)).2
  rcases (show t = 1 ∨ t = 2 ∨ t = 3 by omega) with rfl | rfl | rfl
  · exact Int.le_trans h (by decide)
  · exact Int.le_trans h (by decide)
  · exact Int.le_trans h (by decide)
/-- rows that lack no choice of t places are at least as many as the product of any t sizes -/
theorem rows_ge {S R : List Int} (hS : Sp S) {t : Nat} (h1 : 1 ≤ t) (h3 : t ≤ 3) (hm : mL S R t = []) {P : List Int} (hP : P ∈ plM S.length 0 t) : prodTo (szP S P) t ≤ R.length := by
  obtain ⟨hl, hb⟩ := szP_bd hS hP
  have hq := sp_szP hS h1 h3 hP
  have hc := dg_count (szP S P) hb t (by omega)
  have nd := dg_nd hq
  rw [hl] at nd
  have hlp := (plM_len _ _ _ _ hP).1
  have sub : ∀ D, D ∈ dgTo (szP S P) t → D ∈ R.map fun r => P.map fun p => gi (digs S r) p.toNat := fun D hD => by
    have hin : P ++ D ∈ allC S t := by
      unfold allC
      rw [List.mem_flatMap]
      exact ⟨P, hP, List.mem_map.2 ⟨D, hD, rfl⟩⟩
    obtain ⟨i, hi, e⟩ := ms_has hin R.length (by unfold mL at hm; rw [hm]; simp)
    have := has_dg hlp (dgTo_len _ _ _ hD) e
    rw [this]
    exact List.mem_map.2 ⟨gi R i, gi_mem hi, rfl⟩
  have := nd_len2 nd sub
  rw [List.length_map] at this
  omega
theorem pl_sub (S : List Int) : ∀ (t f : Nat) (Q : List Int), f ≤ S.length → List.Sublist Q (S.drop f) → Q.length = t → ∃ P, P ∈ plM S.length f t ∧ szP S P = Q
  | 0, f, Q, _, _, hl => by
    obtain rfl := List.eq_nil_of_length_eq_zero hl
    exact ⟨[], by simp [plM], rfl⟩
  | t + 1, f, [], _, _, hl => by simp at hl
  | t + 1, f, q :: Q, hf, hs, hl => by
    obtain ⟨r1, r2, e, hq, hs2⟩ := List.cons_sublist_iff.1 hs
    obtain ⟨i, hi, rfl⟩ := List.getElem_of_mem hq
    have hlen : (S.drop f).length = r1.length + r2.length := by rw [e, List.length_append]
    rw [List.length_drop] at hlen
    have e2 : r2 = S.drop (f + r1.length) := by
      have : (S.drop f).drop r1.length = r2 := by rw [e, List.drop_left]
      rw [← this, List.drop_drop]
    have hs3 : List.Sublist Q (S.drop (f + i + 1)) := hs2.trans (by rw [e2]; exact List.drop_sublist_drop_left S (by omega))
    obtain ⟨P, hP, hz⟩ := pl_sub S t (f + i + 1) Q (by omega) hs3 (by simpa using hl)
    refine ⟨((f + i : Nat) : Int) :: P, ?_, ?_⟩
    · simp only [plM, List.mem_flatMap, List.mem_range, List.mem_map]
      exact ⟨i, by omega, P, hP, rfl⟩
    · unfold szP at hz ⊢
      rw [List.map_cons, hz]
      congr 1
      have : (S.drop f)[i]? = some r1[i] := by rw [e, List.getElem?_append_left hi]; simp
      rw [List.getElem?_drop] at this
      have e5 : ((f : Int) + (i : Int)).toNat = f + i := by omega
      simp [gi, List.getD, e5, this]
theorem prod_foldr (L : List Int) : prodTo L L.length = L.foldr (· * ·) 1 := by
  induction L with
  | nil => rfl
  | cons q L ih => rw [List.length_cons, prodTo_cons, ih]; rfl
theorem foldr_perm {L M : List Int} (h : L.Perm M) : L.foldr (· * ·) 1 = M.foldr (· * ·) 1 := by
  induction h with
  | nil => rfl
  | cons x _ ih => simp only [List.foldr_cons, ih]
  | swap x y l => simp only [List.foldr_cons]; rw [← Int.mul_assoc, Int.mul_comm y x, Int.mul_assoc]
  | trans _ _ i1 i2 => rw [i1, i2]
theorem top_ge {S R : List Int} (hS : Sp S) {t : Nat} (h1 : 1 ≤ t) (h3 : t ≤ 3) (hn : t ≤ S.length) (hm : mL S R t = []) : topP S t ≤ R.length := by
  have hl := sorted_len S
  obtain ⟨Q, hp, hs⟩ := List.exists_perm_sublist (List.drop_sublist (S.length - t) (sorted S)) (sorted_perm S)
  have hql : Q.length = t := by rw [hp.length_eq, List.length_drop, hl]; omega
  obtain ⟨P, hP, hz⟩ := pl_sub S t 0 Q (by omega) (by simpa using hs) hql
  have h := rows_ge hS h1 h3 hm hP
  rw [hz] at h
  have e : topP S t = prodTo Q t := by
    unfold topP
    have e1 := prod_foldr Q
    have e2 := prod_foldr ((sorted S).drop (S.length - t))
    rw [List.length_drop, hl, show S.length - (S.length - t) = t by omega] at e2
    rw [hql] at e1
    rw [e1, e2, foldr_perm hp]
  omega
theorem st_ge {S R : List Int} {t : Nat} (h1 : 1 ≤ t) (hm : mL S R t = []) : ∀ m, t ≤ m → t ≤ stTo S R m
  | 0, h => by omega
  | m + 1, h => by
    rw [stTo]
    by_cases e : mL S R (m + 1) = []
    · rw [if_pos e]; exact h
    · rw [if_neg e]
      by_cases g : t = m + 1
      · rw [← g] at e; exact absurd hm e
      · exact st_ge h1 hm m (by omega)
end Go.Proofs.YtpmfedllbiblbaaGreat
