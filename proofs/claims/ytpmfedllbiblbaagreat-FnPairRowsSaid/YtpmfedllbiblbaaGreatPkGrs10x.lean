/-
  The model's GreedyRows. By an AI agent.
-/
import Derived.Test.YtpmfedllbiblbaaGreatPk40
import Derived.Test.YtpmfedllbiblbaaGreatNcsA
namespace Go.Proofs.YtpmfedllbiblbaaGreat
open Go.RowKit Cv
set_option linter.unusedVariables false
set_option linter.unusedSimpArgs false
set_option maxRecDepth 100000

theorem ret_gs {v : Value} {x y : Int} (h : x = y) : Ending.returned (.tuple #[v, .int .i64 x]) = Ending.returned (.tuple #[v, .int .i64 y]) := by rw [h]
def slenG : Value → Nat
  | .slice _ n _ => n
  | _ => 0
/-- the digits of the first words -/
def wdL (S : List Int) (k : Nat) : List (List Int) := (List.range k).map fun (x : Nat) => digs S (x : Int)
theorem wdL_len (S : List Int) (k : Nat) : (wdL S k).length = k := by simp [wdL]
theorem wdL_succ (S : List Int) (k : Nat) : wdL S k ++ [digs S (k : Int)] = wdL S (k + 1) := by unfold wdL; rw [List.range_succ, List.map_append]; rfl
theorem rr_wdL (S : List Int) (n k : Nat) (h : k < n) : rr (wdL S n) k = digs S (k : Int) := by
  unfold rr wdL
  simp [List.getD, h]
/-- how many of the first choices a row has -/
def hkT (D : List Int) (L : List (List Int)) (k : Nat) : Nat := ((L.take k).filter fun c => hasC D c).length
theorem hkT_succ (D : List Int) (L : List (List Int)) (k : Nat) (h : k < L.length) : hkT D L (k + 1) = hkT D L k + if hasC D (rr L k) = true then 1 else 0 := by
  unfold hkT
  rw [take_rr L k h, List.filter_append, List.length_append]
  by_cases e : hasC D (rr L k) = true <;> simp [e]
theorem hkT_le (D : List Int) (L : List (List Int)) (k : Nat) : hkT D L k ≤ L.length := Nat.le_trans (List.length_filter_le _ _) (by rw [List.length_take]; omega)
theorem hkT_all (S : List Int) (L : List (List Int)) (j : Nat) : hkT (digs S (j : Int)) L L.length = hkG S L j := by unfold hkT hkG; rw [List.take_length]
theorem mbV_bd {f : Nat → Nat} {M : Nat} (h : ∀ j, f j ≤ M) (k : Nat) : mbV f k ≤ M := by
  induction k with
  | zero => exact Nat.zero_le _
  | succ k ih => rw [mbV]; split <;> first | exact h _ | exact ih
theorem riG_sub {S : List Int} {C : List (List Int)} {N : Nat} {O : List Int} {L : List (List Int)} (h : RiG S C N O L) : L.length ≤ C.length ∧ ∀ c, c ∈ L → c ∈ C := by
  rw [h.l]
  exact ⟨List.length_filter_le _ _, fun c hc => (List.mem_filter.1 hc).1⟩

set_option maxHeartbeats 4000000 in
theorem spec_GreedyRows (ao : Option Addr) (S : List Int) (cap : Nat) (hn : S.length ≤ 4294967296) (t : Int) (ht : -9223372036854775808 ≤ t ∧ t ≤ 9223372036854775807) (w : World) (hS : Ints w ao S) :
    Calls Tryz.prog 19 #[.agg #[.slice ao S.length cap], .int .i64 t] w fun e w' => ∃ v, e = .returned (.tuple #[v, .int .i64 (eGu S t)]) ∧ OwnInts w' w.heap.size v (vGu S t) ∧ Below w.heap.size w w' := by
  have B0 : Below w.heap.size w (w.alloc (.cells #[.slice ao S.length cap] 26)) := by go_grown
  have c0 := cell_new w (.slice ao S.length cap) 26
  have l0 := lt_alloc w (.cells #[.slice ao S.length cap] 26)
  have hc := l10Code_any ao S cap hn t _ (hS.below B0)
  by_cases he : eC10 S t = 0
  case neg =>
    have HV : Hid (vGu S t = [] ∧ eGu S t = eC10 S t) := Lib.hid (by unfold vGu eGu; rw [if_neg he, if_neg he]; exact ⟨rfl, rfl⟩)
    obtain ⟨E, hE⟩ : ∃ E, E = eC10 S t := ⟨_, rfl⟩
    rw [← hE] at hc he HV
    have hb : (E != 0) = true := by simpa using he
    clear hE he
    go_enter Tryz.func19, Tryz.ntmps19
    go_wp2_with fail
    refine hc.mono ?_
    rintro e w1 ⟨rfl, hb1⟩
    have B1 := B0.trans (hb1.mono B0.size)
    go_wp2_with fail
    go_ret2
    exact ⟨_, ret_gs HV.out.2.symm, by rw [HV.out.1]; exact World.ownsRow_nil _ _ _ _, B1⟩
  obtain ⟨hSp, g1, g2, g3⟩ := eC10_zero he
  have HSp := Lib.hid hSp
  have HV0 : Hid (vGu S t = upV (psG S (allC S t.toNat) (nW S).toNat) (nW S).toNat 200 ∧ eGu S t = upE (psG S (allC S t.toNat) (nW S).toNat) (nW S).toNat 200) := Lib.hid (by unfold vGu eGu; rw [if_pos he, if_pos he]; exact ⟨rfl, rfl⟩)
  rw [he] at hc
  clear he
  obtain ⟨t, rfl⟩ : ∃ n : Nat, t = n := ⟨t.toNat, by omega⟩
  rw [Int.toNat_natCast] at HV0
  obtain ⟨N1, N2⟩ := nW_bd hSp
  obtain ⟨N, hN⟩ : ∃ N : Nat, nW S = (N : Int) := ⟨(nW S).toNat, by omega⟩
  rw [hN, Int.toNat_natCast] at HV0
  have hN1 : 1 ≤ N := by omega
  have hN2 : N ≤ 1024 := by omega
  have HN := Lib.hid hN
  have ht1 : 0 < t := by omega
  have ht3 : t ≤ 3 := by omega
  have hC832 := allC_le hSp ht1 ht3
  have HCc : Hid (IsCs S.length t (allC S t)) := Lib.hid (allC_cs t)
  have HAL := Lib.hid fun w hS => l10All_any ao S cap hSp t ht1 ht3 w hS
  have HR0 := Lib.hid (riG_0 S (allC S t) N)
  have HRD := Lib.hid fun O => riG_done hSp hN (t := t) (by omega) (O := O)
  have HRS := Lib.hid fun O L => riG_step hSp hN (t := t) (by omega) (O := O) (L := L)
  obtain ⟨C, hC⟩ : ∃ C, C = allC S t := ⟨_, rfl⟩
  rw [← hC] at HV0 hC832 HCc HAL HR0 HRD HRS
  have HRL := Lib.hid fun O L => riG_sub (S := S) (C := C) (N := N) (O := O) (L := L)
  obtain ⟨U, hU⟩ : ∃ U, U = upL (psG S C N) N := ⟨_, rfl⟩
  have HV : Hid (vGu S (t : Int) = (if U.length ≤ 200 then U else []) ∧ eGu S (t : Int) = if U.length ≤ 200 then 0 else 3) := Lib.hid (by rw [HV0.out.1, HV0.out.2, hU]; exact ⟨rfl, rfl⟩)
  rw [← hU] at HRD HRS
  have HCN := Lib.hid fun W h => l01N_sp ao S cap W hSp h
  rw [hN] at HCN
  clear hSp hC hU hN HV0 N1 N2
  go_enter Tryz.func19, Tryz.ntmps19
  go_wp2_with fail
  refine hc.mono ?_
  rintro e w1 ⟨rfl, hb1⟩
  have c1 := kept_cell hb1 c0 l0
  have l1 := lt_of_below hb1 l0
  have B1 := B0.trans (hb1.mono B0.size)
  have lsE := LsAt.empty w1 (w.heap.size + 1) l1 (n := w1.heap.size) rfl
  have c2 := kept_cell ((Below.refl _ w1).alloc (Nat.le_refl _) (.cells #[] 24)) c1 l1
  have l2 : w.heap.size < (w1.alloc (.cells #[] 24)).heap.size := by simp; try omega
  have B2 := B1.alloc B1.size (.cells #[] 24)
  clear hc c0 l0 B0 hb1 c1 l1 B1
  have hW0 : Hid (wdL S 0 = []) := Lib.hid rfl
  go_wp2_with fail
  go_loopw [7, 8] (fun o x wr => ∃ i g' c' : Nat, i ≤ N ∧ x = .int .i64 (i : Int) ∧ o = .slice (some ⟨g', 0, none⟩) i c' ∧ LsAt wr (w.heap.size + 1) (.slice (some ⟨g', 0, none⟩) i c') (wdL S i) ∧ wr.cell? ⟨w.heap.size, 0, none⟩ = some (.slice ao S.length cap) ∧ w.heap.size < wr.heap.size ∧ Below w.heap.size w wr) (fun _ x _ => N - (intOf x).toNat)
  case atStart => exact ⟨0, _, 0, Nat.zero_le _, rfl, rfl, by rw [hW0.out]; exact lsE, c2, l2, B2⟩
  case round =>
    clear lsE c2 l2 B2
    obtain ⟨i, gw, cw, hi, rfl, rfl, ls, c1, l1, B⟩ := hrel
    have hcN := HCN.out wr (hS.below B)
    have HWs := Lib.hid (wdL_succ S i)
    have HWl := Lib.hid (wdL_len S i)
    by_cases hlt : i < N
    · have hlI : (i : Int) < (N : Int) := by omega
      have hx0 : (0 : Int) ≤ (i : Int) := by omega
      have hx9 : (i : Int) ≤ 9223372036854775807 := by omega
      have HDl := digs_length S (i : Int)
      obtain ⟨D, hD⟩ : ∃ D, D = digs S (i : Int) := ⟨_, rfl⟩
      have hdg := Lib.hid fun W h => l01Digits_any ao S cap HSp.out.hi HSp.out.bd (i : Int) hx0 hx9 W h
      rw [← hD] at HDl HWs hdg
      have HDL := Lib.hid HDl
      clear hD HDl
      go_wp2_with fail
      refine hcN.mono ?_
      rintro e w3 ⟨rfl, hb3⟩
      have ls3 := ls.below hb3
      have c3 := kept_cell hb3 c1 l1
      have l3 := lt_of_below hb3 l1
      have B3 := B.trans (hb3.mono B.size)
      clear hcN ls c1 l1 B hb3
      go_wp2_with fail
      refine (hdg.out _ (hS.below B3)).mono ?_
      rintro e w5 ⟨gD, rfl, own5, hb5⟩
      have ls5 := ls3.below hb5
      have own6 := own5.rebase (base' := w.heap.size + 1) l3
      have c5 := kept_cell hb5 c3 l3
      have l5 := lt_of_below hb5 l3
      have B5 := B3.trans (hb5.mono B3.size)
      clear own5 ls3 c3 l3 B3 hb5
      go_wp2_with (first
        | (at_builtin; refine wpList_append_ls rfl _ _ rfl (w.heap.size + 1) _ (wdL S i) rfl (ls5.alloc _) w5.heap.size gD S.length S.length D HDL.out.symm (own6.alloc _) rfl (cell_new _ _ _) (by rw [HWl.out]; omega) (by simp; omega) ?_; intro g9 c9 w9 ls9 hg9 hat9; rw [HWs.out, HWl.out] at ls9; rw [HWl.out])
        | fail)
      have hgw := (ls5.lo_le gw rfl).1
      have B8 : Below (w.heap.size + 1) w5 (w5.alloc (.cells #[.slice (some ⟨gD, 0, none⟩) S.length S.length] 24)) := ((Below.refl _ w5).mono l5).alloc l5 _
      have B9 : Below (w.heap.size + 1) w5 w9 := B8.grown hg9 (Nat.le_trans l5 B8.size) (fun z hz => by cases hz; exact hgw)
      have c9b := kept_cell B9 c5 (Nat.lt_succ_self _)
      have l9 := Nat.lt_of_lt_of_le l5 B9.size
      have BB := B5.trans (B9.mono (Nat.le_succ _))
      clear ls5 own6 c5 l5 B5 B8 B9 hg9 hat9 hgw
      go_wp2_with fail
      go_roundw
      case rel => exact ⟨i + 1, g9, c9, by omega, by go_num, rfl, ls9, c9b, l9, BB⟩
      case measure => simp [intOf]; omega
    have hlI : ¬ (i : Int) < (N : Int) := by omega
    have hiN : i = N := by omega
    rw [hiN] at ls hlI HWl ⊢
    clear hi hlt hiN HWs
    go_wp2_with fail
    refine hcN.mono ?_
    rintro e w3 ⟨rfl, hb3⟩
    have ls3 := ls.below hb3
    have c3 := kept_cell hb3 c1 l1
    have l3 := lt_of_below hb3 l1
    have B3 := B.trans (hb3.mono B.size)
    clear hcN ls c1 l1 B hb3
    go_wp2_with fail
    refine (HAL.out _ (hS.below B3)).mono ?_
    rintro e w5 ⟨ga, ca, rfl, lsC, hb5⟩
    have lsW := ls3.below hb5
    replace lsC := lsC.rebase (lo' := w.heap.size + 1) l3
    have c5 := kept_cell hb5 c3 l3
    have l5 := lt_of_below hb5 l3
    have B5 := B3.trans (hb5.mono B3.size)
    obtain ⟨Z, hZ⟩ : ∃ Z, Z = w5.heap.size := ⟨_, rfl⟩
    have lsC0 := (lsb_of lsC hZ).alloc (.cells #[] 2)
    have lsW0 := (lsb_of lsW hZ).alloc (.cells #[] 2)
    have o0 := own_empty w5 Z (Nat.le_of_eq hZ) rfl
    have c6 := kept_cell ((Below.refl _ w5).alloc (Nat.le_refl _) (.cells #[] 2)) c5 l5
    have l6 : w.heap.size < (w5.alloc (.cells #[] 2)).heap.size := by simp; omega
    have B6 := B5.alloc B5.size (.cells #[] 2)
    have z6 : Z ≤ (w5.alloc (.cells #[] 2)).heap.size := by simp; omega
    have hZ1 : w.heap.size + 1 ≤ Z := by omega
    clear ls3 c3 l3 B3 hb5 lsC lsW c5 l5 B5 hZ
    go_wp2_with fail
    go_loopw [9, 10] (fun l o wr => ∃ (L : List (List Int)) (O : List Int) (n gl cl go co : Nat), Hid (RiG S C N O L) ∧ Hid (O.length = n) ∧ n ≤ 200 ∧ l = .slice (some ⟨gl, 0, none⟩) L.length cl ∧ o = .slice (some ⟨go, 0, none⟩) n co ∧ LsB (fun g => g < Z) wr (w.heap.size + 1) (.slice (some ⟨gl, 0, none⟩) L.length cl) L ∧ LsB (fun g => g < Z) wr (w.heap.size + 1) (.slice (some ⟨gw, 0, none⟩) N cw) (wdL S N) ∧ OwnInts wr Z (.slice (some ⟨go, 0, none⟩) n co) O ∧ Z ≤ wr.heap.size ∧ wr.cell? ⟨w.heap.size, 0, none⟩ = some (.slice ao S.length cap) ∧ w.heap.size < wr.heap.size ∧ Below w.heap.size w wr) (fun _ o _ => 200 - slenG o)
    case atStart => exact ⟨C, [], 0, ga, ca, _, 0, HR0, Lib.hid rfl, Nat.zero_le _, rfl, rfl, lsC0, lsW0, o0, z6, c6, l6, B6⟩
    case round =>
      clear lsC0 lsW0 o0 z6 c6 l6 B6
      obtain ⟨L, O, n, gl, cl, go, co, HRi, HnO, hn2, rfl, rfl, lsL, lsW, oO, zr, c1, l1, B⟩ := hrel
      obtain ⟨hLC, hLs⟩ := HRL.out O L HRi.out
      have HLc : Hid (IsCs S.length t L) := Lib.hid fun c hc => HCc.out c (hLs c hc)
      obtain ⟨m, hm⟩ : ∃ m, m = L.length := ⟨_, rfl⟩
      rw [← hm] at lsL hLC ⊢
      have hm8 : m ≤ 832 := by omega
      have HmL := Lib.hid hm
      clear hLs hLC hm
      by_cases hm0 : m = 0
      · have hlm : ¬ (0 : Int) < (m : Int) := by omega
        have hlm2 : ¬ 0 < m := by omega
        have HVe : Hid (vGu S (t : Int) = O ∧ eGu S (t : Int) = 0) := Lib.hid (by
          have hL : L = [] := List.eq_nil_of_length_eq_zero (by rw [← HmL.out]; exact hm0)
          have h := HRi.out
          rw [hL] at h
          have e := HRD.out O h
          rw [HV.out.1, HV.out.2, ← e, HnO.out, if_pos hn2, if_pos hn2]
          exact ⟨rfl, rfl⟩)
        have hwZ : w.heap.size ≤ Z := by omega
        clear hm0
        go_wp2_with fail
        go_ret2
        exact ⟨_, ret_gs HVe.out.2.symm, by rw [HVe.out.1]; exact oO.rebase hwZ, B⟩
      have hlm : (0 : Int) < (m : Int) := by omega
      have hlm2 : 0 < m := by omega
      have hLne : Hid (L ≠ []) := Lib.hid fun e => hm0 (by rw [HmL.out, e]; rfl)
      have HSt := Lib.hid (HRS.out O L HRi.out hLne.out)
      clear hm0
      by_cases h200 : n = 200
      · have hpI : ((n : Int) == 200) = true := by simp [h200]
        have HVe : Hid (vGu S (t : Int) = [] ∧ eGu S (t : Int) = 3) := Lib.hid (by
          have h := HSt.out.2.1
          rw [HnO.out] at h
          rw [HV.out.1, HV.out.2, if_neg (by omega), if_neg (by omega)]
          exact ⟨rfl, rfl⟩)
        clear h200
        go_wp2_with fail
        go_ret2
        exact ⟨_, ret_gs HVe.out.2.symm, by rw [HVe.out.1]; exact World.ownsRow_nil _ _ _ _, B⟩
      have hpI : ((n : Int) == 200) = false := by simp; omega
      have hn1 : n < 200 := by omega
      clear h200
      obtain ⟨w0, rfl⟩ : ∃ w0, w0 = wr := ⟨_, rfl⟩
      go_wp2_with fail
      go_loopw [11, 12, 13] (fun b q x wr => ∃ k : Nat, k ≤ N ∧ x = .int .i64 (k : Int) ∧ b = .int .i64 ((mbI (hkG S L) k : Nat) : Int) ∧ q = .int .i64 ((mbV (hkG S L) k : Nat) : Int) ∧ Below w0.heap.size w0 wr) (fun _ _ x _ => N - (intOf x).toNat)
      case atStart => exact ⟨0, Nat.zero_le _, rfl, rfl, rfl, Below.refl _ _⟩
      case round =>
        obtain ⟨k, hk, rfl, rfl, rfl, BW⟩ := hrel
        have lsW1 := lsW.below BW
        have lsL1 := lsL.below BW
        obtain ⟨w4, rfl⟩ : ∃ w4, w4 = wr := ⟨_, rfl⟩
        have HMB := Lib.hid (mb_step (hkG S L) k)
        have HMk : Hid (k = N → mbI (hkG S L) k = mbI (hkG S L) N) := Lib.hid fun e => by rw [e]
        have hV8 : mbV (hkG S L) k ≤ m := mbV_bd (fun j => by rw [HmL.out]; exact List.length_filter_le _ _) k
        obtain ⟨V, hV⟩ : ∃ V, V = mbV (hkG S L) k := ⟨_, rfl⟩
        obtain ⟨I, hI⟩ : ∃ I, I = mbI (hkG S L) k := ⟨_, rfl⟩
        rw [← hV, ← hI] at HMB ⊢
        rw [← hV] at hV8
        rw [← hI] at HMk
        clear hV hI
        by_cases hlk : k < N
        · have hkI : (k : Int) < (N : Int) := by omega
          obtain ⟨gw', gd, cd, hgw', hlW, hcW, hoW, _⟩ := lsW1.at (show k < (wdL S N).length by rw [wdL_len]; exact hlk)
          obtain rfl : gw = gw' := by simpa using hgw'
          rw [rr_wdL S N k hlk, digs_length] at hcW hoW
          have HDl : Hid ((digs S (k : Int)).length = S.length) := Lib.hid (digs_length S (k : Int))
          have HTF := Lib.hid (hkT_all S L k)
          obtain ⟨D, hD⟩ : ∃ D, D = digs S (k : Int) := ⟨_, rfl⟩
          rw [← hD] at hoW HDl HTF
          obtain ⟨F, hF⟩ : ∃ F, F = hkG S L k := ⟨_, rfl⟩
          rw [← hF] at HTF HMB
          clear hgw' hD HMk hF
          go_wp2_with fail
          go_loopw [14, 15] (fun q x wr => ∃ j : Nat, j ≤ m ∧ x = .int .i64 (j : Int) ∧ q = .int .i64 ((hkT D L j : Nat) : Int) ∧ Below w4.heap.size w4 wr) (fun _ x _ => m - (intOf x).toNat)
          case atStart => exact ⟨0, Nat.zero_le _, rfl, by simp [hkT], Below.refl _ _⟩
          case round =>
            obtain ⟨j, hj, rfl, rfl, BJ⟩ := hrel
            have hTl : hkT D L j ≤ m := by rw [HmL.out]; exact hkT_le D L j
            have HTs := Lib.hid (hkT_succ D L j)
            have HTe : Hid (j = m → hkT D L j = F) := Lib.hid fun e => by rw [e, HmL.out]; exact HTF.out
            obtain ⟨T, hT⟩ : ∃ T, T = hkT D L j := ⟨_, rfl⟩
            rw [← hT] at hTl HTs HTe ⊢
            clear hT
            by_cases hlj : j < m
            · have hjI : (j : Int) < (m : Int) := by omega
              have hjL : j < L.length := by rw [← HmL.out]; exact hlj
              obtain ⟨gl', gr, cr, hgl', hlL, hcL, hoL, _⟩ := lsL1.at hjL
              obtain rfl : gl = gl' := by simpa using hgl'
              replace hcL := kept_cell BJ hcL hlL
              replace hlL := lt_of_below BJ hlL
              replace hoL := own_ints (hoL.below BJ)
              replace hcW := kept_cell BJ hcW hlW
              replace hlW := lt_of_below BJ hlW
              replace hoW := own_ints (hoW.below BJ)
              obtain ⟨hEl, hEb⟩ := HLc.out _ (rr_mem hjL)
              have HTn := Lib.hid (HTs.out hjL)
              obtain ⟨E, hE⟩ : ∃ E, E = rr L j := ⟨_, rfl⟩
              rw [← hE] at hEl hEb HTn hcL hoL
              obtain ⟨me, hme⟩ : ∃ me, me = E.length := ⟨_, rfl⟩
              rw [← hme] at hEl hcL
              have HHas := Lib.hid fun W h1 h2 => l10Has_any gd S.length cd D gr me cr t E HDl.out HSp.out.hi hme.symm hEl ht3 hEb W h1 h2
              obtain ⟨bo, hbo⟩ : ∃ bo, bo = hasC D E := ⟨_, rfl⟩
              rw [← hbo] at HHas HTn
              have hjN : j < m := hlj
              clear hgl' hE hme hbo hEb hEl HTs HTe hjL
              go_wp2_with fail
              refine wp_region_held_drew (S := fun w' => w'.cell? ⟨gw, k, none⟩ = some (.slice (some ⟨gd, 0, none⟩) S.length cd) ∧ w'.cell? ⟨gl, j, none⟩ = some (.slice (some ⟨gr, 0, none⟩) me cr)) (by kernel_rfl) (⟨hcW, hcL⟩) (fun hHeld => ?_)
              refine wpAnyH_take (i := 0) (v := ?_) rfl (by kernel_rfl) (by kernel_rfl) (by kernel_rfl) (fun _ _ _ h => h) (Or.inl ⟨by rfl, ?_⟩) (by assumption) ?_
              rotate_left
              · (intro w hSw; obtain ⟨hSw0, hSw1⟩ := hSw; (try dsimp only at hSw0 hSw1); go_simp; try (with_reducible rfl))
              (try simp only [Act.put, List.setIfInBounds_toArray, List.set_cons_zero, List.set_cons_succ, List.getElem_toArray, List.getElem_cons_succ, List.getElem_cons_zero])
              refine wpAnyH_take (i := 1) (v := ?_) rfl (by kernel_rfl) (by kernel_rfl) (by kernel_rfl) (fun _ _ _ h => h) (Or.inl ⟨by rfl, ?_⟩) (by assumption) ?_
              rotate_left
              · (intro w hSw; obtain ⟨hSw0, hSw1⟩ := hSw; (try dsimp only at hSw0 hSw1); go_simp; try (with_reducible rfl))
              (try simp only [Act.put, List.setIfInBounds_toArray, List.set_cons_zero, List.set_cons_succ, List.getElem_toArray, List.getElem_cons_succ, List.getElem_cons_zero])
              refine wpAnyH_take (i := 2) (v := ?_) rfl (by kernel_rfl) (by kernel_rfl) (by kernel_rfl) (fun _ _ _ h => h) (Or.inl ⟨by rfl, ?_⟩) (by assumption) ?_
              rotate_left
              · (intro w hSw; obtain ⟨hSw0, hSw1⟩ := hSw; (try dsimp only at hSw0 hSw1); go_simp; try (with_reducible rfl))
              (try simp only [Act.put, List.setIfInBounds_toArray, List.set_cons_zero, List.set_cons_succ, List.getElem_toArray, List.getElem_cons_succ, List.getElem_cons_zero])
              refine wpAnyH_take (i := 3) (v := ?_) rfl (by kernel_rfl) (by kernel_rfl) (by kernel_rfl) (fun _ _ _ h => h) (Or.inl ⟨by rfl, ?_⟩) (by assumption) ?_
              rotate_left
              · (intro w hSw; obtain ⟨hSw0, hSw1⟩ := hSw; (try dsimp only at hSw0 hSw1); go_simp; try (with_reducible rfl))
              (try simp only [Act.put, List.setIfInBounds_toArray, List.set_cons_zero, List.set_cons_succ, List.getElem_toArray, List.getElem_cons_succ, List.getElem_cons_zero])
              refine wpAnyH_take (i := 4) (v := ?_) rfl (by kernel_rfl) (by kernel_rfl) (by kernel_rfl) (fun _ _ _ h => h) (Or.inl ⟨by rfl, ?_⟩) (by assumption) ?_
              rotate_left
              · (intro w hSw; obtain ⟨hSw0, hSw1⟩ := hSw; (try dsimp only at hSw0 hSw1); go_simp; try (with_reducible rfl))
              (try simp only [Act.put, List.setIfInBounds_toArray, List.set_cons_zero, List.set_cons_succ, List.getElem_toArray, List.getElem_cons_succ, List.getElem_cons_zero])
              refine wpAnyH_take (i := 5) (v := ?_) rfl (by kernel_rfl) (by kernel_rfl) (by kernel_rfl) (fun _ _ _ h => h) (Or.inl ⟨by rfl, ?_⟩) (by assumption) ?_
              rotate_left
              · (intro w hSw; obtain ⟨hSw0, hSw1⟩ := hSw; (try dsimp only at hSw0 hSw1); go_simp; try (with_reducible rfl))
              (try simp only [Act.put, List.setIfInBounds_toArray, List.set_cons_zero, List.set_cons_succ, List.getElem_toArray, List.getElem_cons_succ, List.getElem_cons_zero])
              refine wpAnyH_take (i := 6) (v := ?_) rfl (by kernel_rfl) (by kernel_rfl) (by kernel_rfl) (fun _ _ _ h => h) (Or.inl ⟨by rfl, ?_⟩) (by assumption) ?_
              rotate_left
              · (intro w hSw; obtain ⟨hSw0, hSw1⟩ := hSw; (try dsimp only at hSw0 hSw1); go_simp; try (with_reducible rfl))
              (try simp only [Act.put, List.setIfInBounds_toArray, List.set_cons_zero, List.set_cons_succ, List.getElem_toArray, List.getElem_cons_succ, List.getElem_cons_zero])
              refine wpAnyH_take (i := 7) (v := ?_) rfl (by kernel_rfl) (by kernel_rfl) (by kernel_rfl) (fun _ _ _ h => h) (Or.inl ⟨by rfl, ?_⟩) (by assumption) ?_
              rotate_left
              · (intro w hSw; obtain ⟨hSw0, hSw1⟩ := hSw; (try dsimp only at hSw0 hSw1); go_simp; try (with_reducible rfl))
              (try simp only [Act.put, List.setIfInBounds_toArray, List.set_cons_zero, List.set_cons_succ, List.getElem_toArray, List.getElem_cons_succ, List.getElem_cons_zero])
              refine wpAnyH_ready (rs := [8]) (by kernel_rfl) (by simp) ?_
              refine AllReadyH.cons rfl (fun K hK => ?_) AllReadyH.nil
              go_simp
              (go_at_call 56; refine (HHas.out _ (hoW.below (Below.refl wr.heap.size wr).drew) (hoL.below (Below.refl wr.heap.size wr).drew)).mono ?_)
              rintro e x1 ⟨rfl, hb1⟩
              have H1 : Below wr.heap.size wr x1 := Below.trans (Below.refl wr.heap.size wr).drew (hb1.mono (Below.size (Below.refl wr.heap.size wr).drew))
              refine hK.out _ _ (⟨kept_cell H1 hcW hlW, kept_cell H1 hcL hlL⟩) (fun hHeld => ?_)
              clear hK K
              (try simp only [Act.put, List.setIfInBounds_toArray, List.set_cons_zero, List.set_cons_succ, List.getElem_toArray, List.getElem_cons_succ, List.getElem_cons_zero])
              refine wpAnyH_done (by kernel_rfl) ?_ _
              (try simp only [Act.put, List.setIfInBounds_toArray, List.set_cons_zero, List.set_cons_succ, List.getElem_toArray, List.getElem_cons_succ, List.getElem_cons_zero])
              have Hn : Below wr.heap.size wr x1 := H1
              obtain ⟨w5, hw5⟩ : ∃ z, z = x1 := ⟨_, rfl⟩
              rw [← hw5] at Hn ⊢
              clear hw5 hHeld
              have BJ5 := BJ.trans (Hn.mono BJ.size)
              clear BJ Hn hcL hlL hoL hcW hlW hoW HHas
              cases bo with
              | true =>
                have HT2 : Hid (hkT D L (j + 1) = T + 1) := Lib.hid (by rw [HTn.out]; rfl)
                clear HTn
                go_wp2_with fail
                go_roundw
                case rel => exact ⟨j + 1, by omega, by go_num, by rw [HT2.out]; go_num, BJ5⟩
                case measure => simp [intOf]; omega
              | false =>
                have HT2 : Hid (hkT D L (j + 1) = T) := Lib.hid (by rw [HTn.out]; rfl)
                clear HTn
                go_wp2_with fail
                go_roundw
                case rel => exact ⟨j + 1, by omega, by go_num, by rw [HT2.out], BJ5⟩
                case measure => simp [intOf]; omega
            have hjI : ¬ (j : Int) < (m : Int) := by omega
            have hTF := HTe.out (by omega)
            rw [← hTF] at HMB
            have BW5 := BW.trans (BJ.mono BW.size)
            clear HTe HTs BW BJ
            by_cases hVT : V < T
            · have hVI : (V : Int) < (T : Int) := by omega
              have HM2 : Hid (mbV (hkG S L) (k + 1) = T ∧ mbI (hkG S L) (k + 1) = k) := Lib.hid (by rw [HMB.out.1, HMB.out.2, if_pos hVT, if_pos hVT]; exact ⟨rfl, rfl⟩)
              clear hVT hTF
              go_wp2_with fail
              go_roundw
              case rel => exact ⟨k + 1, by omega, by go_num, by rw [HM2.out.2], by rw [HM2.out.1], BW5⟩
              case measure => simp [intOf]; omega
            · have hVI : ¬ (V : Int) < (T : Int) := by omega
              have HM2 : Hid (mbV (hkG S L) (k + 1) = V ∧ mbI (hkG S L) (k + 1) = I) := Lib.hid (by rw [HMB.out.1, HMB.out.2, if_neg hVT, if_neg hVT]; exact ⟨rfl, rfl⟩)
              clear hVT hTF
              go_wp2_with fail
              go_roundw
              case rel => exact ⟨k + 1, by omega, by go_num, by rw [HM2.out.2], by rw [HM2.out.1], BW5⟩
              case measure => simp [intOf]; omega
        have hkI : ¬ (k : Int) < (N : Int) := by omega
        have hIN := HMk.out (by omega)
        have HS2 := HSt.out
        rw [← hIN] at HS2
        obtain ⟨hI1, _, HRn⟩ := HS2
        obtain ⟨O', hO'⟩ : ∃ O', O' = O ++ [((I : Nat) : Int)] := ⟨_, rfl⟩
        have HOl : Hid (O'.length = n + 1) := Lib.hid (by rw [hO', List.length_append, HnO.out]; rfl)
        have HmO : Hid ((O ++ [((I : Nat) : Int)]) = O') := Lib.hid hO'.symm
        have HNx : Hid (msTo S L [((I : Nat) : Int)] 1 = L.filter fun c => !hasC (digs S ((I : Nat) : Int)) c) := Lib.hid rfl
        obtain ⟨Nx, hNx⟩ : ∃ Nx, Nx = L.filter fun c => !hasC (digs S ((I : Nat) : Int)) c := ⟨_, rfl⟩
        rw [← hNx] at HRn HNx
        rw [← hO'] at HRn
        have HRn2 := Lib.hid HRn
        have oO1 := oO.below BW
        have zr1 := Nat.le_trans zr BW.size
        have cc := kept_cell BW c1 l1
        have ll := lt_of_below BW l1
        have BB := B.trans (BW.mono B.size)
        have HCA : Hid (∀ (b : Nat) (W : World), w.heap.size + 1 ≤ W.heap.size → Ints W ao S → LsB (fun g => g < Z) W (w.heap.size + 1) (.slice (some ⟨gl, 0, none⟩) m cl) L → Ints W (some ⟨b, 0, none⟩) [((I : Nat) : Int)] → Calls Tryz.prog 45 #[.agg #[.slice ao S.length cap], .slice (some ⟨gl, 0, none⟩) m cl, .slice (some ⟨b, 0, none⟩) 1 1] W fun e w' => ∃ g c, e = .returned (.slice (some ⟨g, 0, none⟩) Nx.length c) ∧ LsB (fun g => g < Z) w' (w.heap.size + 1) (.slice (some ⟨g, 0, none⟩) Nx.length c) Nx ∧ Below W.heap.size W w') := Lib.hid fun b W h1 h2 h3 h4 => by
          rw [HmL.out] at h3 ⊢
          have h := l10MissingB_any ao S cap HSp.out (w.heap.size + 1) gl cl t L ht3 (by rw [← HmL.out]; omega) HLc.out (some ⟨b, 0, none⟩) [((I : Nat) : Int)] 1 (by simp) (one_rng ⟨by omega, by rw [HN.out]; omega⟩) W h1 h2 h3 h4
          rw [show ([((I : Nat) : Int)] : List Int).length = 1 from rfl, HNx.out] at h
          exact h
        clear hIN HRn hO' hNx HNx lsW lsL oO zr c1 l1 B BW HMk HMB
        go_wp2_with (first
          | (at_builtin; refine wpList_append_int rfl _ _ rfl Z _ O rfl (oO1.alloc _) w4.heap.size ((I : Nat) : Int) rfl (cell_new _ _ _) (by rw [HnO.out]; omega) (by simp; omega) ?_; intro v7 w7 own7 hgrow7; obtain ⟨g7, c7, hv7, _⟩ := own_some own7 (by simp); rw [HmO.out, HOl.out] at hv7; subst hv7; rw [HmO.out] at own7; have B7 : Below (w.heap.size + 1) w4 w7 := (((Below.refl _ w4).mono ll).alloc ll (.cells #[.int .i64 ((I : Nat) : Int)] 2)).grown hgrow7 (by simp; omega) (fun z hz => by have h1 := oO1.base_le.1; have e' : go = z := Option.some.inj hz; omega); have c7b := kept_cell B7 cc (Nat.lt_succ_self _))
          | fail)
        have lsL7 := (lsL1.alloc (.cells #[.int .i64 ((I : Nat) : Int)] 2)).keptI (oO1.alloc (.cells #[.int .i64 ((I : Nat) : Int)] 2)) hgrow7 (fun g hg => by have h1 := oO1.base_le.1; simp only [Value.ownBlock]; intro e; have e' := Option.some.inj e; omega)
        have lsW7 := (lsW1.alloc (.cells #[.int .i64 ((I : Nat) : Int)] 2)).keptI (oO1.alloc (.cells #[.int .i64 ((I : Nat) : Int)] 2)) hgrow7 (fun g hg => by have h1 := oO1.base_le.1; simp only [Value.ownBlock]; intro e; have e' := Option.some.inj e; omega)
        have l7 := Nat.lt_of_lt_of_le ll B7.size
        have z7 : Z ≤ w7.heap.size := by have h1 := B7.size; omega
        have BB7 := BB.trans (B7.mono (Nat.le_succ _))
        clear oO1 lsL1 lsW1 cc ll BB B7 hgrow7
        have oI := own_one w7 ((I : Nat) : Int) (w.heap.size + 1) l7 (n := w7.heap.size) rfl
        have B8 : Below w7.heap.size w7 (w7.alloc (.cells #[.int .i64 ((I : Nat) : Int)] 2)) := (Below.refl _ w7).alloc (Nat.le_refl _) _
        go_wp2_with fail
        refine (HCA.out _ _ (Nat.le_trans l7 B8.size) ((hS.below BB7).below B8) (lsL7.below B8) (own_ints oI)).mono ?_
        rintro e w9 ⟨gn, cn, rfl, lsN, hb9⟩
        have BX := B8.trans (hb9.mono B8.size)
        have lsW9 := lsW7.below BX
        have own9 := own7.below BX
        have c9 := kept_cell BX c7b l7
        have l9 := lt_of_below BX l7
        have z9 := Nat.le_trans z7 BX.size
        have B9 := BB7.trans (BX.mono BB7.size)
        clear HCA lsL7 lsW7 own7 c7b l7 z7 BB7 oI B8 hb9 BX
        go_wp2_with fail
        go_roundw
        case rel => exact ⟨Nx, O', n + 1, gn, cn, g7, c7, HRn2, HOl, by omega, rfl, rfl, lsN, lsW9, own9, z9, c9, l9, B9⟩
        case measure => simp [slenG]; omega

end Go.Proofs.YtpmfedllbiblbaaGreat
