/-
  Texts put together: MathFa, Clone, PltA, AllW. By an AI agent.
-/
import Derived.Test.YtpmfedllbiblbaaGreatPk43
import Derived.Test.YtpmfedllbiblbaaGreatPkPut
import Derived.Test.YtpmfedllbiblbaaGreatPkAppend
import Derived.Test.YtpmfedllbiblbaaGreatPkPlaA
import Derived.Test.YtpmfedllbiblbaaGreatPkWords
namespace Go.Proofs.YtpmfedllbiblbaaGreat
open Go.RowKit Cv
set_option linter.unusedVariables false
set_option linter.unusedSimpArgs false

theorem fa_ec {S R : List Int} {t : Int} (h : eR10 S R t = 0) : eC10 S t = 0 := by
  obtain ⟨hS, hR, hl, h1, h3, hn⟩ := eR10_zero h
  exact eC10_ok ((isSp_iff S).2 hS) ⟨h1, h3, hn⟩
theorem fa_mi (S R : List Int) (t : Int) : (vMi S R t).length ≤ 4096 ∧ ∀ i, (rr (vMi S R t) i).length ≤ 4096 := by
  unfold vMi
  by_cases h : eR10 S R t = 0
  · rw [if_pos h]
    obtain ⟨hS, hR, hl, h1, h3, hn⟩ := eR10_zero h
    refine ⟨Nat.le_trans (mL_len hS R (by omega) (by omega)) (by omega), fun i => ?_⟩
    by_cases hi : i < (mL S R t.toNat).length
    · have hm := (msTo_sub S (allC S t.toNat) R R.length).2 _ (rr_mem hi)
      have := allC_len2 S t.toNat _ hm
      show (rr (mL S R t.toNat) i).length ≤ 4096
      have h2 : (rr (mL S R t.toNat) i).length = 2 * t.toNat := this
      omega
    · have : rr (mL S R t.toNat) i = [] := by unfold rr; rw [List.getD_eq_getElem?_getD, List.getElem?_eq_none (by omega)]; rfl
      rw [this]; simp
  · rw [if_neg h]; exact ⟨by simp, fun i => by simp [rr]⟩
theorem fa_cm (S R : List Int) (t : Int) : vCm S R t = ((vMi S R t).length : Int) := by
  unfold vCm vMi
  by_cases h : eR10 S R t = 0
  · rw [if_pos h, if_pos h]
  · rw [if_neg h, if_neg h]; rfl
theorem fa_lean {S R : List Int} {t : Int} (h : eR10 S R t = 0) : eR10 S (vLr S R t) t = 0 ∧ vMi S (vLr S R t) t = vMi S R t ∧ (vLr S R t).length ≤ R.length := by
  obtain ⟨h1, h2, h3⟩ := lr_all h
  refine ⟨h1, ?_, h2⟩
  unfold vMi
  rw [if_pos h1, if_pos h, h3]
theorem fa_none {S R : List Int} {t : Int} (h : ¬ eR10 S R t = 0) : vLr S R t = [] := by unfold vLr; rw [if_neg h]
theorem fa_new {S R : List Int} {t : Int} (h : eR10 S R t = 0) : (vNw S R t).length = R.length ∧ wsT (fun _ => 1) (vNw S R t) (vNw S R t).length = vCc S t - vCm S R t ∧ ∀ j, 0 ≤ gi (vNw S R t) j ∧ gi (vNw S R t) j ≤ 1048576 := by
  obtain ⟨hS, hR, hl, h1, h3, hn⟩ := eR10_zero h
  have e : vNw S R t = nwL S (allC S t.toNat) R R.length := by unfold vNw; rw [if_pos h]
  have hlen := nwL_len S (allC S t.toNat) R R.length
  refine ⟨by rw [e, hlen], ?_, fun j => ?_⟩
  · rw [e, hlen, nw_sum _ _ _ _ _ (Nat.le_refl _)]
    unfold vCc vCm mL
    rw [if_pos h, if_pos (fa_ec h)]
  · rw [e]
    by_cases hj : j < R.length
    · have : gi (nwL S (allC S t.toNat) R R.length) j = ((msTo S (allC S t.toNat) R j).length : Int) - ((msTo S (allC S t.toNat) R (j + 1)).length : Int) := by simp [nwL, gi, hj]
      rw [this]
      have a := (msTo_sub S (allC S t.toNat) R j).1
      have b := allC_le hS (t := t.toNat) (by omega) (by omega)
      have c : (msTo S (allC S t.toNat) R (j + 1)).length ≤ (msTo S (allC S t.toNat) R j).length := by rw [msTo]; exact List.length_filter_le _ _
      omega
    · have : gi (nwL S (allC S t.toNat) R R.length) j = 0 := by
        unfold gi; rw [List.getD_eq_getElem?_getD, List.getElem?_eq_none (by omega)]; rfl
      rw [this]; omega
theorem fa_bd (S F : List Int) (t : Int) : (0 ≤ vCc S t ∧ vCc S t ≤ 832) ∧ (0 ≤ vCm S F t ∧ vCm S F t ≤ 832) := by
  constructor
  · unfold vCc
    split
    · rename_i h
      obtain ⟨hS, h1, h3, hn⟩ := eC10_zero h
      have := allC_le hS (t := t.toNat) (by omega) (by omega)
      omega
    · omega
  · unfold vCm
    split
    · rename_i h
      obtain ⟨hS, hR, hl, h1, h3, hn⟩ := eR10_zero h
      have := mL_len hS F (t := t.toNat) (by omega) (by omega)
      omega
    · omega
end Go.Proofs.YtpmfedllbiblbaaGreat

namespace Go.Proofs.YtpmfedllbiblbaaGreat
open Go.RowKit Cv
set_option linter.unusedVariables false
set_option linter.unusedSimpArgs false
set_option maxRecDepth 100000

theorem own_made_some {w : World} {base m : Nat} {v v' : Value} {L : List Int} (h : OwnInts w base v' L) (hnil : v' = .slice none 0 0 ↔ v = .slice none 0 0 ∧ m = 0) (hv : v ≠ .slice none 0 0) : ∃ g c, v' = .slice (some ⟨g, 0, none⟩) L.length c := by
  rcases h.2 with ⟨h1, _⟩ | ⟨g, c, cur, h1, _⟩
  · exact absurd (hnil.1 h1).1 hv
  · exact ⟨g, c, h1⟩
theorem clone_any (g0 : Nat) (L : List Int) (cap base : Nat) (w : World) (hl : L.length ≤ 1048576) (hb : base ≤ w.heap.size) (a : Addr) (hL : Ints w (some a) L) :
    Calls Tryz.prog 104 #[.slice (some a) L.length cap] w fun e w' => ∃ g c, e = .returned (.slice (some ⟨g, 0, none⟩) L.length c) ∧ OwnInts w' w.heap.size (.slice (some ⟨g, 0, none⟩) L.length c) L ∧ Below w.heap.size w w' := by
  have B0 : Below w.heap.size w (w.alloc (.cells #[] 2)) := by go_grown
  have o0 := own_empty w w.heap.size (Nat.le_refl _) rfl
  have hnil0 := Lib.run_eql_slice_nil (P := Tryz.prog) w 24 2 (some a) L.length cap 0 0 Tryz.underlying24
  go_enter Tryz.func104, Tryz.ntmps104
  go_wp2_with (at_builtin; refine wpList_append_ints rfl _ _ rfl w.heap.size _ [] rfl o0 a L L.length cap rfl rfl (hL.below B0) (by simp; omega) B0.size ?_; intro v' w4 hown' hgrow hnil; have hb4 := grown_below B0 B0.size hgrow o0 (Nat.le_refl _); rw [List.nil_append] at hown'; obtain ⟨g, c, hv⟩ := own_made_some hown' hnil (fun h => absurd (Value.slice.inj h).1 (by simp)); subst hv)
  go_ret
  exact ⟨g, c, rfl, hown', hb4⟩

end Go.Proofs.YtpmfedllbiblbaaGreat

namespace Go.Proofs.YtpmfedllbiblbaaGreat
open Go.RowKit Cv
set_option linter.unusedVariables false
set_option linter.unusedSimpArgs false
set_option maxRecDepth 100000

set_option maxHeartbeats 2000000 in
theorem partOf_any (ao : Option Addr) (S : List Int) (cap : Nat) (hn1 : 1 ≤ S.length) (hS8 : S.length ≤ 8) (bp op t cp : Nat) (P : List Int) (hPl : P.length = t) (ht : t ≤ 8) (hP : ∀ k, k < t → 0 ≤ gi P k ∧ gi P k < S.length) (w : World) (hS : Ints w ao S) (hPI : Ints w (some ⟨bp, op, none⟩) P) :
    Calls Tryz.prog 84 #[.agg #[.slice ao S.length cap], .slice (some ⟨bp, op, none⟩) t cp] w fun e w' => ∃ g, e = .returned (.agg #[.slice (some ⟨g, 0, none⟩) t t]) ∧ OwnInts w' w.heap.size (.slice (some ⟨g, 0, none⟩) t t) (szP S P) ∧ Below w.heap.size w w' := by
  obtain ⟨i0, hi, hz0, hz1, hz2⟩ := info_parts infoI64
  obtain ⟨bS, oS, rfl, hbS, hcS⟩ := hS.at (show 0 < S.length by omega)
  have HC : Hid (∀ k, k < t → ∃ p : Nat, gi (szP S P) k = gi S p ∧ p < S.length ∧ bp < w.heap.size ∧ w.cell? ⟨bp, op + k, none⟩ = some (.int .i64 (p : Int)) ∧ w.cell? ⟨bS, oS + p, none⟩ = some (.int .i64 (gi S p))) := Lib.hid fun k hk => by
    have h := hP k hk
    obtain ⟨b, o, he, hb, hcc⟩ := hPI.at (show k < P.length by omega)
    cases he
    refine ⟨(gi P k).toNat, gi_szP S P k (by omega), by omega, hb, ?_, hcS _ (by omega)⟩
    rw [hcc k (by omega)]; congr 2; omega
  have HQl : Hid ((szP S P).length = t) := Lib.hid (by rw [szP_len, hPl])
  obtain ⟨Q, hQ⟩ : ∃ Q, Q = szP S P := ⟨_, rfl⟩
  rw [← hQ] at HC HQl ⊢
  clear hQ hP hPI hcS
  obtain ⟨W, hW⟩ : ∃ W, W = (w.alloc (.cells #[.slice (some ⟨bS, oS, none⟩) S.length cap] 26)).alloc (.cells #[.slice none 0 0] 26) := ⟨_, rfl⟩
  have hWs : W.heap.size = w.heap.size + 2 := by rw [hW]; simp
  have B0 : Below w.heap.size w W := by rw [hW]; go_grown
  have c0 : W.cell? ⟨w.heap.size, 0, none⟩ = some (.slice (some ⟨bS, oS, none⟩) S.length cap) := by
    rw [hW]; exact kept_cell ((Below.refl _ (w.alloc (.cells #[.slice (some ⟨bS, oS, none⟩) S.length cap] 26))).alloc (Nat.le_refl _) _) (cell_new _ _ _) (by simp)
  have r1 : W.heap[w.heap.size + 1]? = some (.cells #[.slice none 0 0] 26 (0, 0)) := by
    have e : (w.alloc (.cells #[.slice (some ⟨bS, oS, none⟩) S.length cap] 26)).heap.size = w.heap.size + 1 := by simp
    rw [hW, ← e]; exact heap_alloc_new _ _
  have HW := Lib.hid hW
  have hlw : w.heap.size + 1 < W.heap.size := by omega
  have hlw0 : w.heap.size < W.heap.size := by omega
  clear hW hWs
  go_enter Tryz.func84, Tryz.ntmps84
  go_wp2_with (first | (at_make; refine wpList_make_full _ rfl _ _ 24 rfl W.heap.size 2 i0 (.int .i64 0) 1 Tryz.underlying24 hi hz0 hz1 .i64 .i64 (t : Int) (t : Int) t rfl rfl rfl rfl (by rw [hz2]; omega) (by unfold maxLen; omega) (by rw [HW.out]; exact Nat.le_refl _) ?_; rw [← HW.out]; intro w2 hown hgrow) | fail)
  have B2 : Below W.heap.size W w2 := below_grown0 hgrow
  replace hown := own_made hown
  have lg := hown.base_le
  clear hgrow hi hz0 hz1 hz2
  go_loopw [13] (fun i wr => ∃ (k : Nat) (T : List Int), k ≤ t ∧ i = .int .i64 (k : Int) ∧ OwnInts wr W.heap.size (.slice (some ⟨W.heap.size, 0, none⟩) t t) T ∧ Hid (T.length = t ∧ ∀ j, j < k → gi T j = gi Q j) ∧ Below W.heap.size W wr ∧ W.heap.size < wr.heap.size) (fun i _ => t - (intOf i).toNat)
  case atStart => exact ⟨0, _, Nat.zero_le _, rfl, hown, Lib.hid ⟨by simp, fun j hj => by omega⟩, B2, lg.2⟩
  case round =>
    clear hown B2 lg
    obtain ⟨k, T, hk, rfl, own, HT, B, lW⟩ := hrel
    have c1 := kept_cell B c0 (by omega)
    by_cases hlt : k < t
    · have hkI : (k : Int) < (t : Int) := by omega
      obtain ⟨p, hq, hpS, lbp, k1, k2⟩ := HC.out k hlt
      have hpI : (p : Int) < (S.length : Int) := by omega
      have hp0 : (0 : Int) ≤ (p : Int) := by omega
      replace k1 := kept_cell B (kept_cell B0 k1 lbp) (by omega)
      replace k2 := kept_cell B (kept_cell B0 k2 hbS) (by omega)
      obtain ⟨x, hx⟩ : ∃ x, x = gi S p := ⟨_, rfl⟩
      rw [← hx] at hq k2
      have hcell := own.cell (k := k) (by rw [HT.out.1]; exact hlt)
      have hfree := own.free k
      have own2 := own.stored k x
      have HT2 : Hid ((T.set k x).length = t ∧ ∀ j, j < k + 1 → gi (T.set k x) j = gi Q j) := Lib.hid ⟨by rw [List.length_set]; exact HT.out.1, fun j hj => by
        rw [gi_set _ _ _ _ (by rw [HT.out.1]; exact hlt)]
        by_cases e : j = k
        · subst e; rw [if_pos rfl, hq]
        · rw [if_neg e]; exact HT.out.2 j (by omega)⟩
      have B3 : Below W.heap.size W (wr.setCell ⟨W.heap.size, k, none⟩ (.int .i64 x)) := B.setCell (Nat.le_refl _) _
      have l3 : W.heap.size < (wr.setCell ⟨W.heap.size, k, none⟩ (.int .i64 x)).heap.size := by simpa using lW
      clear hx hq own
      go_wp2_with fail
      go_roundw
      case rel => exact ⟨k + 1, _, by omega, by go_num, own2, HT2, B3, l3⟩
      case measure => simp [intOf]; omega
    · have hkI : ¬ (k : Int) < (t : Int) := by omega
      have HTe : Hid (T = Q) := Lib.hid (ext_gi (by rw [HT.out.1, HQl.out]) fun j hj => by rw [HT.out.1] at hj; exact HT.out.2 j (by omega))
      have rr2 := (B.block _ hlw).trans r1
      have hc1 : wr.cell? ⟨w.heap.size + 1, 0, none⟩ = some (.slice none 0 0) := by rw [cell_of_row wr _ 0 _ _ _ rr2]; rfl
      have hf1 := frozen_of_row wr (w.heap.size + 1) 0 _ _ rr2
      have hz : w.heap.size + 1 < wr.heap.size := by omega
      have B5 := B0.trans (B.mono (Nat.le_of_lt hlw0))
      rw [HTe.out] at own
      go_wp2_with fail
      refine bodyPost_ret (v := .agg #[.slice (some ⟨W.heap.size, 0, none⟩) t t]) (by simp [results, Tryz.results84, go_sem, hc1, hf1, hz]) rfl ?_
      exact ⟨_, rfl, (own.setBelow (a := ⟨w.heap.size + 1, 0, none⟩) (by simp; omega) _).rebase (by omega), B5.setCell (by simp) _⟩

end Go.Proofs.YtpmfedllbiblbaaGreat

namespace Go.Proofs.YtpmfedllbiblbaaGreat
open Go.RowKit Cv
set_option linter.unusedVariables false
set_option linter.unusedSimpArgs false
set_option maxRecDepth 100000

/-- what may follow the first j lists -/
def exJ (L : List (List Int)) (n j : Nat) : List (List Int) := (L.take j).flatMap fun l => extTo l n
theorem exJ_succ (L : List (List Int)) (n j : Nat) (h : j < L.length) : exJ L n (j + 1) = exJ L n j ++ extTo (rr L j) n := by
  unfold exJ; rw [take_rr L j h, List.flatMap_append]; simp
theorem exJ_all (n t : Nat) : exJ (plP n t) n (plP n t).length = plP n (t + 1) := by unfold exJ; rw [List.take_length]; rfl
theorem extTo_len (l : List Int) (k : Nat) : (extTo l k).length ≤ k := by
  unfold extTo; rw [List.length_map]; exact Nat.le_trans (List.length_filter_le _ _) (by simp)
theorem exJ_len (L : List (List Int)) (n j : Nat) (h : j ≤ L.length) : (exJ L n j).length ≤ n * j := by
  induction j with
  | zero => simp [exJ]
  | succ j ih =>
    rw [exJ_succ L n j (by omega), List.length_append, Nat.mul_succ]
    have := extTo_len (rr L j) n
    have := ih (by omega)
    omega
theorem plP_len (n t : Nat) : ∀ l, l ∈ plP n t → l.length = t := fun l h => (plM_len n t 0 l (by rw [← plP_eq]; exact h)).1

set_option maxHeartbeats 4000000 in
theorem placesTogether_any (ao : Option Addr) (S : List Int) (cap : Nat) (hl : S.length ≤ 8) (t : Nat) (ht : t ≤ 3) (w : World) (hS : Ints w ao S) :
    Calls Tryz.prog 83 #[.agg #[.slice ao S.length cap], .int .i64 (t : Int)] w fun e w' => ∃ g c, e = .returned (.slice (some ⟨g, 0, none⟩) (plM S.length 0 t).length c) ∧ LsAt w' w.heap.size (.slice (some ⟨g, 0, none⟩) (plM S.length 0 t).length c) (plM S.length 0 t) ∧ Below w.heap.size w w' := by
  obtain ⟨n, hn⟩ : ∃ n, n = S.length := ⟨_, rfl⟩
  have HN := Lib.hid fun k (hk : k ≤ 3) => show (plP n k).length ≤ 512 by rw [plP_eq]; exact plM_512 n (by omega) k hk 0
  have HLn : Hid (∀ k j, j < (plP n k).length → (rr (plP n k) j).length = k) := Lib.hid fun k j hj => plP_len n k _ (rr_mem hj)
  have HJA := Lib.hid fun k => exJ_all n k
  have HF : Hid (plP n t = plM n 0 t) := Lib.hid (plP_eq n t)
  have HP0 : Hid (plP n 0 = [[]]) := Lib.hid rfl
  rw [← hn]
  have hn8 : n ≤ 8 := by omega
  have B0 : Below w.heap.size w (w.alloc (.cells #[.slice ao n cap] 26)) := by go_grown
  have c0 := cell_new w (.slice ao n cap) 26
  have l0 := lt_alloc w (.cells #[.slice ao n cap] 26)
  have B1 := B0.alloc B0.size (.cells #[] 2)
  have c1 := kept_cell ((Below.refl _ (w.alloc (.cells #[.slice ao n cap] 26))).alloc (Nat.le_refl _) (.cells #[] 2)) c0 l0
  have l1 : w.heap.size < ((w.alloc (.cells #[.slice ao n cap] 26)).alloc (.cells #[] 2)).heap.size := by simp; try omega
  have o1 := own_empty (w.alloc (.cells #[.slice ao n cap] 26)) (w.heap.size + 1) (by simp) (n := w.heap.size + 1) (by simp)
  have ls1 := LsAt.one (lo := w.heap.size + 1) (n := 0) (L := []) (by simp; try omega) rfl o1 (b := w.heap.size + 2) (by simp)
  have B2 := B1.alloc B1.size (.cells #[.slice (some ⟨w.heap.size + 1, 0, none⟩) 0 0] 24)
  have c2 := kept_cell ((Below.refl _ ((w.alloc (.cells #[.slice ao n cap] 26)).alloc (.cells #[] 2))).alloc (Nat.le_refl _) (.cells #[.slice (some ⟨w.heap.size + 1, 0, none⟩) 0 0] 24)) c1 l1
  obtain ⟨W1, hW1⟩ : ∃ W1, W1 = ((w.alloc (.cells #[.slice ao n cap] 26)).alloc (.cells #[] 2)).alloc (.cells #[.slice (some ⟨w.heap.size + 1, 0, none⟩) 0 0] 24) := ⟨_, rfl⟩
  have l2 : w.heap.size < W1.heap.size := by rw [hW1]; simp; try omega
  rw [← hW1] at B2 ls1 c2
  have HW1 := Lib.hid hW1
  clear hW1 B0 B1 c0 l0 c1 l1 o1 hn
  go_enter Tryz.func83, Tryz.ntmps83
  go_wp2_with fail
  rw [← HW1.out]
  go_loopw [5, 13] (fun o i wr => ∃ k g c : Nat, k ≤ t ∧ i = .int .i64 (k : Int) ∧ o = .slice (some ⟨g, 0, none⟩) (plP n k).length c ∧ LsAt wr (w.heap.size + 1) (.slice (some ⟨g, 0, none⟩) (plP n k).length c) (plP n k) ∧ wr.cell? ⟨w.heap.size, 0, none⟩ = some (.slice ao n cap) ∧ w.heap.size < wr.heap.size ∧ Below w.heap.size w wr) (fun _ i _ => t - (intOf i).toNat)
  case atStart => exact ⟨0, _, 1, by omega, rfl, rfl, ls1, c2, l2, B2⟩
  case round =>
    clear ls1 c2 l2 B2
    obtain ⟨k, g, c, hk, rfl, rfl, ls, c1, l1, B⟩ := hrel
    have hNk := HN.out k (by omega)
    have HLk := Lib.hid (HLn.out k)
    have HJk := Lib.hid (HJA.out k)
    obtain ⟨D, hD⟩ : ∃ D, D = plP n k := ⟨_, rfl⟩
    rw [← hD] at hNk HLk HJk ls ⊢
    have HD := Lib.hid hD
    clear hD
    by_cases hlt : k < t
    · have hlI : (k : Int) < (t : Int) := by omega
      have hk2 : k ≤ 2 := by omega
      have HJL := Lib.hid fun j (h : j ≤ D.length) => exJ_len D n j h
      have HJS := Lib.hid fun j (h : j < D.length) => exJ_succ D n j h
      obtain ⟨w0, rfl⟩ : ∃ w0, w0 = wr := ⟨_, rfl⟩
      have lsE := LsAt.empty w0 (w.heap.size + 1) l1 (n := w0.heap.size) rfl
      have lsA := ls.alloc (.cells #[] 24)
      have hgl := ls.lo_le g rfl
      have hgg : w0.heap.size ≠ g := by omega
      have cA := kept_cell ((Below.refl _ w0).alloc (Nat.le_refl _) (.cells #[] 24)) c1 l1
      have lA : w.heap.size < (w0.alloc (.cells #[] 24)).heap.size := by simp; try omega
      have BA := B.alloc B.size (.cells #[] 24)
      clear ls c1 B
      go_wp2_with fail
      go_loopw [6, 18] (fun o x wk => ∃ j g' c' : Nat, j ≤ D.length ∧ x = .int .i64 (j : Int) ∧ o = .slice (some ⟨g', 0, none⟩) (exJ D n j).length c' ∧ LsAt wk (w.heap.size + 1) (.slice (some ⟨g', 0, none⟩) (exJ D n j).length c') (exJ D n j) ∧ LsAt wk (w.heap.size + 1) (.slice (some ⟨g, 0, none⟩) D.length c) D ∧ g' ≠ g ∧ wk.cell? ⟨w.heap.size, 0, none⟩ = some (.slice ao n cap) ∧ w.heap.size < wk.heap.size ∧ Below w.heap.size w wk) (fun _ x _ => D.length - (intOf x).toNat)
      case atStart => exact ⟨0, _, 0, Nat.zero_le _, rfl, rfl, lsE, lsA, hgg, cA, lA, BA⟩
      case round =>
        clear lsE lsA hgg hgl cA lA BA
        obtain ⟨j, g', c', hj, rfl, rfl, lsN, lsD, hgg, c1, l1, B⟩ := hrel
        have hJl := HJL.out j hj
        have HJs := Lib.hid (HJS.out j)
        obtain ⟨R, hR⟩ : ∃ R, R = exJ D n j := ⟨_, rfl⟩
        rw [← hR] at hJl HJs lsN ⊢
        have HR := Lib.hid hR
        have hRl : R.length ≤ 8192 := Nat.le_trans hJl (Nat.le_trans (Nat.mul_le_mul hn8 (show j ≤ 512 by omega)) (by omega))
        clear hR hJl
        by_cases hlj : j < D.length
        · have hjI : (j : Int) < (D.length : Int) := by omega
          obtain ⟨gq, gr, cr, hgq, hlq, hcq, hoq⟩ := lsD.at hlj
          obtain rfl : g = gq := by simpa using hgq
          have HSj := Lib.hid (HJs.out hlj)
          have hLl := HLk.out j hlj
          obtain ⟨L, hL⟩ : ∃ L, L = rr D j := ⟨_, rfl⟩
          rw [← hL] at HSj hLl hcq hoq
          rw [hLl] at hcq hoq
          have HLl := Lib.hid hLl
          have HRE := Lib.hid fun m => extTo_succ L m
          have HREl := Lib.hid fun m => extTo_len L m
          obtain ⟨v0, rfl⟩ : ∃ v0, v0 = wr := ⟨_, rfl⟩
          clear hgq hL hLl
          go_wp2_with fail
          go_loopw [6, 25] (fun o x wk => ∃ d g5 c5 : Nat, d ≤ n ∧ x = .int .i64 (d : Int) ∧ o = .slice (some ⟨g5, 0, none⟩) (R ++ extTo L d).length c5 ∧ LsAt wk (w.heap.size + 1) (.slice (some ⟨g5, 0, none⟩) (R ++ extTo L d).length c5) (R ++ extTo L d) ∧ LsAt wk (w.heap.size + 1) (.slice (some ⟨g, 0, none⟩) D.length c) D ∧ OwnInts wk (w.heap.size + 1) (.slice (some ⟨gr, 0, none⟩) k cr) L ∧ g5 ≠ g ∧ wk.cell? ⟨w.heap.size, 0, none⟩ = some (.slice ao n cap) ∧ w.heap.size < wk.heap.size ∧ Below w.heap.size w wk) (fun _ x _ => n - (intOf x).toNat)
          case atStart => exact ⟨0, g', c', Nat.zero_le _, rfl, by simp [extTo], by simpa [extTo] using lsN, lsD, hoq, hgg, c1, l1, B⟩
          case round =>
            clear lsN lsD hgg c1 l1 B hcq hoq hlq
            obtain ⟨d, g5, c5, hd, rfl, rfl, lsN, lsD, hoq, hgg, c1, l1, B⟩ := hrel
            have hEl := HREl.out d
            have HEs := Lib.hid (HRE.out d)
            obtain ⟨T, hT⟩ : ∃ T, T = R ++ extTo L d := ⟨_, rfl⟩
            have HTs : Hid (okE L d = true → R ++ extTo L (d + 1) = T ++ [L ++ [(d : Int)]]) := Lib.hid fun h => by rw [HEs.out, if_pos h, hT, List.append_assoc]
            have HTn : Hid (okE L d = false → R ++ extTo L (d + 1) = T) := Lib.hid fun h => by rw [HEs.out, if_neg (by rw [h]; decide), hT, List.append_nil]
            have HTa : Hid (d = n → exJ D n (j + 1) = T) := Lib.hid fun h => by rw [HSj.out, hT, h]
            have hTl : T.length ≤ 8200 := by rw [hT, List.length_append]; omega
            rw [← hT] at lsN ⊢
            clear hT hEl
            by_cases hld : d < n
            · have hdI : (d : Int) < (n : Int) := by omega
              obtain hk0 | hk0 : k = 0 ∨ 0 < k := by omega
              · have hok : okE L d = true := by
                  have : L = [] := List.eq_nil_of_length_eq_zero (by rw [HLl.out]; exact hk0)
                  rw [this]; rfl
                have kb : ((k : Int) == 0) = true := by simp [hk0]
                clear hk0
                have hcl := clone_any 0 L cr 0 wr (by rw [HLl.out]; omega) (Nat.zero_le _) ⟨gr, 0, none⟩ (own_ints hoq)
                rw [HLl.out] at hcl
                have HT2 := Lib.hid (HTs.out hok)
                have hL3 : L.length ≤ 3 := by rw [HLl.out]; omega
                have hgl5 := (lsN.lo_le g5 rfl).1
                clear hok HTs HTn HTa
                go_wp2_with fail
                refine hcl.mono ?_
                rintro e w6 ⟨g6, c6, rfl, own6, hb6⟩
                have l6 : w.heap.size + 1 ≤ w6.heap.size := Nat.le_trans l1 hb6.size
                clear hcl
                go_wp2_with (first
                  | (at_builtin; refine wpList_append_int rfl _ _ rfl wr.heap.size _ L rfl (own6.alloc _) w6.heap.size (d : Int) rfl (cell_new _ _ _) (by omega) (by have := hb6.size; simp; omega) ?_; intro v3 w7 own7 hgrow7; obtain ⟨g7, c7, hv7, _⟩ := own_some own7 (by simp); have b7 := grown_below (hb6.alloc hb6.size (.cells #[.int .i64 (d : Int)] 2)) (by have := hb6.size; simp; omega) hgrow7 (own6.alloc _) (Nat.le_refl _); rw [show (L ++ [(d : Int)]).length = k + 1 by simp [HLl.out]] at hv7; subst hv7)
                  | (at_builtin; refine wpList_append_ls rfl _ _ rfl (w.heap.size + 1) _ T rfl ((lsN.below b7).alloc _) w7.heap.size g7 c7 (k + 1) (L ++ [(d : Int)]) (by simp [HLl.out]) ((own7.rebase (show w.heap.size + 1 ≤ wr.heap.size from l1)).alloc _) rfl (cell_new _ _ _) (by omega) (by have := b7.size; simp; omega) ?_; intro g9 c9 w9 ls9 hg9 hat9)
                  | fail)
                have lsN8 := (lsN.below b7).alloc (.cells #[.slice (some ⟨g7, 0, none⟩) (k + 1) c7] 24)
                have B8 := (b7.mono (show w.heap.size + 1 ≤ wr.heap.size from l1)).alloc (Nat.le_trans l1 b7.size) (.cells #[.slice (some ⟨g7, 0, none⟩) (k + 1) c7] 24)
                have B9 := ls_grown B8 (Nat.le_trans l1 B8.size) hg9 lsN8 (Nat.le_refl _)
                have lsD9 := ((lsD.below b7).alloc (.cells #[.slice (some ⟨g7, 0, none⟩) (k + 1) c7] 24)).kept2 lsN8 hg9 (.inr (by simp only [Value.ownBlock]; intro e; exact hgg (Option.some.inj e).symm))
                have hoq9 : OwnInts w9 (w.heap.size + 1) (.slice (some ⟨gr, 0, none⟩) k cr) L := by
                  obtain ⟨hs, _, e2, _⟩ := lsN8
                  exact ((hoq.below b7).alloc (.cells #[.slice (some ⟨g7, 0, none⟩) (k + 1) c7] 24)).kept hg9 (ls_apart e2 ((hoq.below b7).alloc _))
                have c9b := kept_cell B9 c1 (Nat.lt_succ_self _)
                have l9 := Nat.lt_of_lt_of_le l1 B9.size
                have hne9 : g9 ≠ g := by
                  rcases hat9 with e | e
                  · have e' : g5 = g9 := Option.some.inj e
                    omega
                  · have h1 := (lsD.lo_le g rfl).2; have h2 := b7.size; rw [World.size_alloc] at e; omega
                have BB := B.trans (B9.mono (Nat.le_succ _))
                have HTl : Hid (T.length + 1 = (R ++ extTo L (d + 1)).length) := Lib.hid (by rw [HT2.out]; simp)
                rw [← HT2.out, HTl.out] at ls9
                rw [HTl.out]
                clear lsN lsD c1 l1 B hoq hb6 lsN8 B8 B9 hg9 hat9 b7 own6 own7 hgrow7 hgg
                go_wp2_with fail
                go_roundw
                case rel => exact ⟨d + 1, g9, c9, by omega, by go_num, rfl, ls9, lsD9, hoq9, hne9, c9b, l9, BB⟩
                case measure => simp [intOf]; omega
              · have kb : ((k : Int) == 0) = false := by simp; omega
                obtain ⟨k1, hk1⟩ : ∃ k1 : Nat, (k : Int) - 1 = (k1 : Int) := ⟨k - 1, by omega⟩
                have hkk : k1 < k := by omega
                have hcx := hoq.cell (k := k1) (by rw [HLl.out]; exact hkk)
                have hkI : (k1 : Int) < (k : Int) := by omega
                have hk10 : (0 : Int) ≤ (k1 : Int) := by omega
                have hOE : Hid (okE L d = decide (gi L k1 < (d : Int))) := Lib.hid (by
                  unfold okE
                  have e1 : L.isEmpty = false := by
                    cases L with
                    | nil => have := HLl.out; simp at this; omega
                    | cons a l => rfl
                  have e2 : L.length - 1 = k1 := by rw [HLl.out]; omega
                  rw [e1, e2, Bool.false_or])
                obtain ⟨x, hx⟩ : ∃ x, x = gi L k1 := ⟨_, rfl⟩
                rw [← hx] at hcx hOE
                clear hx
                by_cases hxd : x < (d : Int)
                · have hok : okE L d = true := by rw [hOE.out]; simpa using hxd
                  have hcl := clone_any 0 L cr 0 wr (by rw [HLl.out]; omega) (Nat.zero_le _) ⟨gr, 0, none⟩ (own_ints hoq)
                  rw [HLl.out] at hcl
                  have HT2 := Lib.hid (HTs.out hok)
                  have hL3 : L.length ≤ 3 := by rw [HLl.out]; omega
                  have hgl5 := (lsN.lo_le g5 rfl).1
                  clear hok HTs HTn HTa
                  go_wp2_with fail
                  refine hcl.mono ?_
                  rintro e w6 ⟨g6, c6, rfl, own6, hb6⟩
                  have l6 : w.heap.size + 1 ≤ w6.heap.size := Nat.le_trans l1 hb6.size
                  clear hcl
                  go_wp2_with (first
                    | (at_builtin; refine wpList_append_int rfl _ _ rfl wr.heap.size _ L rfl (own6.alloc _) w6.heap.size (d : Int) rfl (cell_new _ _ _) (by omega) (by have := hb6.size; simp; omega) ?_; intro v3 w7 own7 hgrow7; obtain ⟨g7, c7, hv7, _⟩ := own_some own7 (by simp); have b7 := grown_below (hb6.alloc hb6.size (.cells #[.int .i64 (d : Int)] 2)) (by have := hb6.size; simp; omega) hgrow7 (own6.alloc _) (Nat.le_refl _); rw [show (L ++ [(d : Int)]).length = k + 1 by simp [HLl.out]] at hv7; subst hv7)
                    | (at_builtin; refine wpList_append_ls rfl _ _ rfl (w.heap.size + 1) _ T rfl ((lsN.below b7).alloc _) w7.heap.size g7 c7 (k + 1) (L ++ [(d : Int)]) (by simp [HLl.out]) ((own7.rebase (show w.heap.size + 1 ≤ wr.heap.size from l1)).alloc _) rfl (cell_new _ _ _) (by omega) (by have := b7.size; simp; omega) ?_; intro g9 c9 w9 ls9 hg9 hat9)
                    | fail)
                  have lsN8 := (lsN.below b7).alloc (.cells #[.slice (some ⟨g7, 0, none⟩) (k + 1) c7] 24)
                  have B8 := (b7.mono (show w.heap.size + 1 ≤ wr.heap.size from l1)).alloc (Nat.le_trans l1 b7.size) (.cells #[.slice (some ⟨g7, 0, none⟩) (k + 1) c7] 24)
                  have B9 := ls_grown B8 (Nat.le_trans l1 B8.size) hg9 lsN8 (Nat.le_refl _)
                  have lsD9 := ((lsD.below b7).alloc (.cells #[.slice (some ⟨g7, 0, none⟩) (k + 1) c7] 24)).kept2 lsN8 hg9 (.inr (by simp only [Value.ownBlock]; intro e; exact hgg (Option.some.inj e).symm))
                  have hoq9 : OwnInts w9 (w.heap.size + 1) (.slice (some ⟨gr, 0, none⟩) k cr) L := by
                    obtain ⟨hs, _, e2, _⟩ := lsN8
                    exact ((hoq.below b7).alloc (.cells #[.slice (some ⟨g7, 0, none⟩) (k + 1) c7] 24)).kept hg9 (ls_apart e2 ((hoq.below b7).alloc _))
                  have c9b := kept_cell B9 c1 (Nat.lt_succ_self _)
                  have l9 := Nat.lt_of_lt_of_le l1 B9.size
                  have hne9 : g9 ≠ g := by
                    rcases hat9 with e | e
                    · have e' : g5 = g9 := Option.some.inj e
                      omega
                    · have h1 := (lsD.lo_le g rfl).2; have h2 := b7.size; rw [World.size_alloc] at e; omega
                  have BB := B.trans (B9.mono (Nat.le_succ _))
                  have HTl : Hid (T.length + 1 = (R ++ extTo L (d + 1)).length) := Lib.hid (by rw [HT2.out]; simp)
                  rw [← HT2.out, HTl.out] at ls9
                  rw [HTl.out]
                  clear lsN lsD c1 l1 B hoq hb6 lsN8 B8 B9 hg9 hat9 b7 own6 own7 hgrow7 hgg
                  go_wp2_with fail
                  go_roundw
                  case rel => exact ⟨d + 1, g9, c9, by omega, by go_num, rfl, ls9, lsD9, hoq9, hne9, c9b, l9, BB⟩
                  case measure => simp [intOf]; omega
                · have HT2 := Lib.hid (HTn.out (by rw [hOE.out]; simpa using hxd))
                  clear HTs HTn HTa
                  go_wp2_with fail
                  go_roundw
                  case rel => exact ⟨d + 1, g5, c5, by omega, by go_num, by rw [HT2.out], by rw [HT2.out]; exact lsN, lsD, hoq, hgg, c1, l1, B⟩
                  case measure => simp [intOf]; omega
            · have hdI : ¬ (d : Int) < (n : Int) := by omega
              have HTe := Lib.hid (HTa.out (by omega))
              go_wp2_with fail
              go_roundw
              case rel => exact ⟨j + 1, g5, c5, by omega, by go_num, by rw [HTe.out], by rw [HTe.out]; exact lsN, lsD, hgg, c1, l1, B⟩
              case measure => simp [intOf]; omega
        · have hjI : ¬ (j : Int) < (D.length : Int) := by omega
          have HRn : Hid (plP n (k + 1) = R) := Lib.hid (by rw [← HJk.out, HR.out, show j = D.length by omega])
          go_wp2_with fail
          go_roundw
          case rel => exact ⟨k + 1, g', c', by omega, by go_num, by rw [HRn.out], by rw [HRn.out]; exact lsN, c1, l1, B⟩
          case measure => simp [intOf]; omega
    · have hlI : ¬ (k : Int) < (t : Int) := by omega
      have HE : Hid (D = plM n 0 t) := Lib.hid (by rw [HD.out, ← HF.out, show k = t by omega])
      rw [HE.out] at ls
      go_wp2_with fail
      go_ret
      exact ⟨g, c, by rw [HE.out]; rfl, ls.rebase (Nat.le_succ _), B⟩

end Go.Proofs.YtpmfedllbiblbaaGreat

namespace Go.Proofs.YtpmfedllbiblbaaGreat
open Go.RowKit Cv
set_option linter.unusedVariables false
set_option linter.unusedSimpArgs false
set_option maxRecDepth 100000

theorem wordCount_nat (ao : Option Addr) (S : List Int) (cap : Nat) (N : Nat) (hN : Hid (nW S = (N : Int))) (w : World) (h : Sp S) (hS : Ints w ao S) :
    Calls Tryz.prog 71 #[.agg #[.slice ao S.length cap]] w fun e w' => e = .returned (.int .i64 (N : Int)) ∧ Below w.heap.size w w' := by
  rw [← hN.out]; exact wordCount_sp ao S cap w h hS

set_option maxHeartbeats 1000000 in
theorem allWords_any (ao : Option Addr) (S : List Int) (cap : Nat) (hSp : Sp S) (N : Nat) (hN : Hid (nW S = (N : Int))) (w : World) (hS : Ints w ao S) :
    Calls Tryz.prog 52 #[.agg #[.slice ao S.length cap]] w fun e w' =>
      ∃ q, e = .returned (.slice (some ⟨q, 0, none⟩) N N) ∧ OwnInts w' w.heap.size (.slice (some ⟨q, 0, none⟩) N N) (upto N) ∧ Below w.heap.size w w' := by
  obtain ⟨i0, hi, hz0, hz1, hz2⟩ := info_parts infoI64
  have N2 : N ≤ 1024 := by have := (nW_bd hSp).2; have := hN.out; omega
  have HSp := Lib.hid hSp
  clear hSp
  go_enter Tryz.func52, Tryz.ntmps52
  go_wp2_with fail
  have B0 : Below w.heap.size w (w.alloc (.cells #[.slice ao S.length cap] 26)) := by go_grown
  refine (wordCount_nat ao S cap N hN _ HSp.out (hS.below B0)).mono ?_
  rintro e w1 ⟨rfl, hb1⟩
  have B1 := B0.trans (hb1.mono B0.size)
  have hs1 : w.heap.size < w1.heap.size := lt_of_below hb1 (lt_alloc _ _)
  clear hb1 B0
  go_wp2_with (at_make; refine wpList_make_full _ rfl _ _ 24 rfl w.heap.size 2 i0 (.int .i64 0) 1 Tryz.underlying24 hi hz0 hz1 .i64 .i64 _ _ N rfl rfl rfl rfl (by rw [hz2]; omega) (by unfold maxLen; omega) (by omega) ?_; intro w2 hown hgrow)
  have B2 : Below w.heap.size w w2 := B1.grown hgrow B1.size (by intro k h; cases h)
  replace hown := own_made hown
  have g1 : w1.heap.size ≠ w.heap.size := by omega
  clear hgrow
  go_loopw [10] (fun i wr => ∃ (k : Nat) (D : List Int), k ≤ N ∧ i = .int .i64 k ∧ OwnInts wr w.heap.size (.slice (some ⟨w1.heap.size, 0, none⟩) N N) D ∧ Hid (D.length = N ∧ ∀ j, j < k → gi D j = j) ∧ Below w.heap.size w wr)
    (fun i _ => N - (intOf i).toNat)
  case atStart => exact ⟨0, _, Nat.zero_le _, rfl, hown, Lib.hid ⟨by simp, fun j h => by omega⟩, B2⟩
  case round =>
    clear hown B2
    obtain ⟨k, D, hk, rfl, hown, HD, B⟩ := hrel
    by_cases hlt : k < N
    · have hcell := hown.cell (k := k) (by rw [HD.out.1]; exact hlt)
      have hfree := hown.free k
      go_wp2
      go_roundw
      case rel =>
        refine ⟨k + 1, _, by omega, by go_num, hown.stored k (k : Int), Lib.hid ⟨by rw [List.length_set]; exact HD.out.1, ?_⟩, B.setCell (by simp; omega) _⟩
        intro j hj
        rw [gi_set _ _ _ _ (by rw [HD.out.1]; exact hlt)]
        by_cases e : j = k
        · rw [if_pos e, e]
        · rw [if_neg e]; exact HD.out.2 j (by omega)
      case measure => simp [intOf]; omega
    · go_wp2
      go_ret
      have e : D = upto N := ext_gi (by rw [HD.out.1, upto_len]) fun i hi => by rw [HD.out.1] at hi; rw [HD.out.2 i (by omega), gi_upto _ _ hi]
      rw [e] at hown
      exact ⟨_, rfl, hown, B⟩

end Go.Proofs.YtpmfedllbiblbaaGreat
