/-
  The program's changedCode, for a change that writes into the digits that it is given. By an AI agent.
-/
import Derived.Test.YtdacokgmcenjoaaCmp
import Derived.Test.YtdacokgmcenjoaaSort
import Derived.Test.YtdacokgmcenjoaaParts
import Derived.Test.YtdacokgmcenjoaaDigits
import Derived.Deep.RegionHeld3
namespace Go.Proofs.Ytdacokgmcenjoaa
open Go.RowKit Cv
set_option linter.unusedVariables false
set_option linter.unusedSimpArgs false
set_option maxRecDepth 100000

/-- a function value that makes of the digits T the digits D T, in their own memory -/
def ChgW (f : Nat) (pre post : Array Value) (S : List Int) (D : List Int → List Int) (w : World) : Prop :=
  ∀ (W : World) (base g o : Nat) (U T : List Int), Below w.heap.size w W → w.heap.size ≤ g → OwnInts W base (.slice (some ⟨g, 0, none⟩) U.length U.length) U → o + S.length ≤ U.length → Dg S T → (∀ i, i < S.length → gi U (o + i) = gi T i) →
    Calls Try.prog f (pre.push (.slice (some ⟨g, o, none⟩) S.length S.length) ++ post) W fun e w' => ∃ U', e = .returned (.slice (some ⟨g, o, none⟩) S.length S.length) ∧ OwnInts w' base (.slice (some ⟨g, 0, none⟩) U.length U.length) U' ∧ U'.length = U.length ∧ (∀ i, i < S.length → gi U' (o + i) = gi (D T) i) ∧ (∀ j, (j < o ∨ o + S.length ≤ j) → gi U' j = gi U j) ∧ Dg S (D T) ∧ W.grownBy w' (some g)

set_option maxHeartbeats 2000000 in
theorem changedCode_w (ao : Option Addr) (S : List Int) (cap : Nat) (hl0 : 1 ≤ S.length) (hl : S.length ≤ 8) (hbd : ∀ i, i < S.length → 2 ≤ gi S i ∧ gi S i ≤ 4) (ac : Option Addr) (C : List Int) (capc : Nat) (hlen : C.length ≤ 1048576) (hC0 : ∀ i, i < C.length → 0 ≤ gi C i ∧ gi C i ≤ 9223372036854775807) (f : Nat) (eg : ∀ args w, (callFunc f args).run Try.prog w = .ok (.enter f args) w) (pre post : Array Value) (D : List Int → List Int) (w : World) (hS : Ints w ao S) (hC : Ints w ac C) (hch : ChgW f pre post S D w) :
    Calls Try.prog 46 #[.agg #[.slice ao S.length cap], .slice ac C.length capc, .agg #[.slice ao S.length cap], .func (.func f) pre post] w fun e w' => ∃ v, e = .returned v ∧ OwnInts w' w.heap.size v (cmpT (sorted (C.map fun c => wordTo S (D (digs S c)) S.length)) C.length) ∧ Below w.heap.size w w' := by
  obtain ⟨i0, hi, hz0, hz1, hz2⟩ := info_parts infoI64
  have HB := Lib.hid hbd
  have HC0 := Lib.hid hC0
  have HCH := Lib.hid hch
  clear hbd hC0 hch
  have B0 : Below w.heap.size w ((w.alloc (.cells #[.slice ao S.length cap] 28)).alloc (.cells #[.slice ao S.length cap] 28)) := by go_grown
  have cx : ((w.alloc (.cells #[.slice ao S.length cap] 28)).alloc (.cells #[.slice ao S.length cap] 28)).cell? ⟨w.heap.size + 1, 0, none⟩ = some (.slice ao S.length cap) := by simp
  have cs : ((w.alloc (.cells #[.slice ao S.length cap] 28)).alloc (.cells #[.slice ao S.length cap] 28)).cell? ⟨w.heap.size, 0, none⟩ = some (.slice ao S.length cap) := by simp
  go_enter Try.func46, Try.ntmps46
  go_wp2_with (at_make; refine wpList_make_full _ rfl _ _ 22 rfl w.heap.size 2 i0 (.int .i64 0) 1 Try.underlying22 hi hz0 hz1 .i64 .i64 _ _ C.length rfl rfl rfl rfl (by rw [hz2]; omega) (by unfold maxLen; omega) (by simp; omega) ?_; intro w1 hown hgrow; have cx1 := kept_cell (below_grown0 hgrow) cx (by simp); have cs1 := kept_cell (below_grown0 hgrow) cs (by simp; omega))
  replace hown := own_made hown
  have B1 := B0.trans ((below_grown0 hgrow).mono (by simp; omega))
  obtain ⟨q, hq⟩ : ∃ q, q = w.heap.size + 1 + 1 := ⟨_, rfl⟩
  have hq1 := hown.base_le
  simp only [World.size_alloc] at hown hq1
  rw [← hq] at hown hq1
  try rw [← hq]
  have hqw : w.heap.size + 2 ≤ q := by omega
  have s1 := B1.size
  clear hgrow hq cx cs B0
  refine (digitParts_any ao S cap hl0 hl HB.out ac C capc (by omega) HC0.out _ (hS.below B1) (hC.below B1)).mono ?_
  rintro e w2 ⟨P, g, U, rfl, hp, hb2⟩
  have own := hown.below hb2
  have B2 := B1.trans (hb2.mono s1)
  have cx2 := kept_cell hb2 cx1 (by omega)
  have lP : w1.heap.size ≤ P := hp.bp
  have og := hp.own
  have hU := Lib.hid (And.intro hp.len hp.dg)
  have HR := Lib.hid hp.row
  have lg := og.base_le
  have lP2 := hp.pl
  have hPg := hp.ne
  clear hown B1 cx1 cs1 hb2 hp
  go_wp2_with fail
  go_loopw [19] (fun i wr => ∃ (k : Nat) (R V : List Int), k ≤ C.length ∧ i = .int .i64 k ∧ OwnInts wr w.heap.size (.slice (some ⟨q, 0, none⟩) C.length C.length) R ∧ Hid (R.length = C.length ∧ ∀ j, j < k → gi R j = wordTo S (D (digs S (gi C j))) S.length) ∧ OwnInts wr w1.heap.size (.slice (some ⟨g, 0, none⟩) U.length U.length) V ∧ Hid (V.length = U.length ∧ ∀ j i, k ≤ j → j < C.length → i < S.length → gi V (j * S.length + i) = dig S (gi C j) i) ∧ Hid (∀ j, j < C.length → wr.cell? ⟨P, j, none⟩ = some (.slice (some ⟨g, j * S.length, none⟩) S.length S.length)) ∧ wr.cell? ⟨w.heap.size + 1, 0, none⟩ = some (.slice ao S.length cap) ∧ P < wr.heap.size ∧ Below w.heap.size w wr) (fun i _ => C.length - (intOf i).toNat)
  case atStart => exact ⟨0, _, _, Nat.zero_le _, rfl, own, Lib.hid ⟨by simp, fun j hj => by omega⟩, og, Lib.hid ⟨rfl, fun j i _ hj hi => hU.out.2 j i hj hi⟩, HR, cx2, lP2, B2⟩
  case round =>
    clear own og HR cx2 B2 lP2
    obtain ⟨k, R, V, hk, rfl, own, HRk, og, HV, HR, cx, lP2, B⟩ := hrel
    by_cases hlt : k < C.length
    · have hrow := HR.out k hlt
      have hl1 : (k : Int) < (C.length : Int) := by omega
      have hlen2 : k * S.length + S.length ≤ U.length := by
        have := Nat.mul_le_mul_right S.length (show k + 1 ≤ C.length by omega)
        rw [Nat.add_mul, Nat.one_mul] at this; rw [hU.out.1]; exact this
      have hDg : Dg S (digs S (gi C k)) := ⟨digs_length _ _, fun j hj => by rw [gi_digs _ _ _ hj]; exact dig_bd S (gi C k) HB.out j hj⟩
      have hgw : w.heap.size ≤ g := by omega
      have og' : OwnInts wr.drew w1.heap.size (.slice (some ⟨g, 0, none⟩) V.length V.length) V := by rw [HV.out.1]; exact og.drew
      have hcall := HCH.out wr.drew w1.heap.size g (k * S.length) V (digs S (gi C k)) B.drew hgw og' (by rw [HV.out.1]; exact hlen2) hDg (fun i hi => by rw [gi_digs _ _ _ hi]; exact HV.out.2 k i (Nat.le_refl _) hlt hi)
      rw [HV.out.1] at hcall
      have hsg := og.base_le
      have HDg := Lib.hid hDg
      have sB := B.size
      have lcx : w.heap.size + 1 < wr.heap.size := by omega
      clear hDg og'
      go_wp2_with fail
      refine wp_region_held_drew (S := fun w' => w'.cell? ⟨w.heap.size + 1, 0, none⟩ = some (.slice ao S.length cap)) (by kernel_rfl) cx (fun hHeld => ?_)
      refine wpAnyH_take (i := 0) (v := ?_) rfl (by kernel_rfl) (by kernel_rfl) (by kernel_rfl) (fun _ _ _ h => h) (Or.inl ⟨by rfl, ?_⟩) (by assumption) ?_
      rotate_left
      · (intro W hSw; (try dsimp only at hSw); go_simp; try (with_reducible rfl))
      (try simp only [Act.put, List.setIfInBounds_toArray, List.set_cons_zero, List.set_cons_succ])
      refine wpAnyH_take (i := 1) (v := ?_) rfl (by kernel_rfl) (by kernel_rfl) (by kernel_rfl) (fun _ _ _ h => h) (Or.inl ⟨by rfl, ?_⟩) (by assumption) ?_
      rotate_left
      · (intro W hSw; (try dsimp only at hSw); go_simp; try (with_reducible rfl))
      (try simp only [Act.put, List.setIfInBounds_toArray, List.set_cons_zero, List.set_cons_succ])
      refine wpAnyH_take (i := 2) (v := ?_) rfl (by kernel_rfl) (by kernel_rfl) (by kernel_rfl) (fun _ _ _ h => h) (Or.inl ⟨by rfl, ?_⟩) (by assumption) ?_
      rotate_left
      · (intro W hSw; (try dsimp only at hSw); go_simp; try (with_reducible rfl))
      (try simp only [Act.put, List.setIfInBounds_toArray, List.set_cons_zero, List.set_cons_succ])
      refine wpAnyH_take (i := 3) (v := ?_) rfl (by kernel_rfl) (by kernel_rfl) (by kernel_rfl) (fun _ _ _ h => h) (Or.inl ⟨by rfl, ?_⟩) (by assumption) ?_
      rotate_left
      · (intro W hSw; (try dsimp only at hSw); go_simp; try (with_reducible rfl))
      (try simp only [Act.put, List.setIfInBounds_toArray, List.set_cons_zero, List.set_cons_succ])
      refine wpAnyH_take (i := 4) (v := ?_) rfl (by kernel_rfl) (by kernel_rfl) (by kernel_rfl) (fun _ _ _ h => h) (Or.inl ⟨by rfl, ?_⟩) (by assumption) ?_
      rotate_left
      · (intro W hSw; (try dsimp only at hSw); go_simp; try (with_reducible rfl))
      (try simp only [Act.put, List.setIfInBounds_toArray, List.set_cons_zero, List.set_cons_succ])
      refine wpAnyH_ready (rs := [5]) (by kernel_rfl) (by simp) ?_
      refine AllReadyH.cons rfl (fun K hK => ?_) AllReadyH.nil
      go_simp
      refine hcall.mono ?_
      rintro e w3 ⟨V', rfl, og3, hl3, hs3, hk3, hD3, hg3'⟩
      have hg3 : wr.grownBy w3 (some g) := grown_trans (grown_of_below ((Below.refl wr.heap.size wr).drew) _) hg3'
      have cx3 := hg3.cell (a := ⟨w.heap.size + 1, 0, none⟩) cx (fun e => by have := Option.some.inj e; simp at this; omega)
      have hqg : q ≠ g := by omega
      have own3 := own.kept hg3 (.inr (show some q ≠ some g from fun e => hqg (by injection e)))
      have HR3 : Hid (∀ j, j < C.length → w3.cell? ⟨P, j, none⟩ = some (.slice (some ⟨g, j * S.length, none⟩) S.length S.length)) := Lib.hid fun j hj => hg3.cell (a := ⟨P, j, none⟩) (HR.out j hj) (fun e => by have := Option.some.inj e; simp at this; exact hPg this)
      have B3 := B.grown hg3 B.size (fun z hz => by cases hz; exact hgw)
      have s3 := hg3.size
      have hI3 : Ints w3 (some ⟨g, k * S.length, none⟩) (D (digs S (gi C k))) := by
        refine .inr ⟨g, k * S.length, rfl, og3.base_le.2, fun i hi => ?_⟩
        rw [hD3.1] at hi
        have h := og3.cell (k := k * S.length + i) (by rw [hl3]; omega)
        rw [hs3 i hi] at h
        exact h
      have HV3 : Hid (V'.length = U.length ∧ ∀ j i, k + 1 ≤ j → j < C.length → i < S.length → gi V' (j * S.length + i) = dig S (gi C j) i) := Lib.hid ⟨hl3, fun j i h1 h2 h3 => by
        have := Nat.mul_le_mul_right S.length h1
        rw [Nat.add_mul, Nat.one_mul] at this
        rw [hk3 _ (.inr (by omega))]
        exact HV.out.2 j i (by omega) h2 h3⟩
      clear hg3' hcall hl3 hs3 hk3
      refine hK.out _ _ (cx3) (fun hHeld => ?_)
      clear hK K
      (try simp only [Act.put, List.setIfInBounds_toArray, List.set_cons_zero, List.set_cons_succ])
      refine wpAnyH_ready (rs := [6]) (by kernel_rfl) (by simp) ?_
      refine AllReadyH.cons rfl (fun K hK => ?_) AllReadyH.nil
      go_simp
      (go_at_call 80; refine (wordWithDigits_any ao S cap hl HB.out (some ⟨g, k * S.length, none⟩) (D (digs S (gi C k))) S.length S.length rfl hD3 _ (hS.below B3) hI3).mono ?_)
      rintro e w4 ⟨rfl, hb4⟩
      have lP3 : P < w3.heap.size := by omega
      clear hI3 hD3 own og HR cx B lP2
      have cx := kept_cell hb4 cx3 (by omega)
      have own := own3.below hb4
      have og := og3.below hb4
      have HR4 : Hid (∀ j, j < C.length → w4.cell? ⟨P, j, none⟩ = some (.slice (some ⟨g, j * S.length, none⟩) S.length S.length)) := Lib.hid fun j hj => kept_cell hb4 (HR3.out j hj) (by omega)
      have B := B3.trans (hb4.mono B3.size)
      have lP2 : P < w4.heap.size := by have := hb4.size; omega
      clear cx3 own3 og3 HR3 B3 hb4 hrow
      have hc := own.cell (k := k) (by rw [HRk.out.1]; exact hlt)
      have hf := own.free k
      refine hK.out _ _ (cx) (fun hHeld => ?_)
      clear hK K
      (try simp only [Act.put, List.setIfInBounds_toArray, List.set_cons_zero, List.set_cons_succ])
      refine wpAnyH_take (i := 7) (v := .pointer (some ⟨q, k, none⟩)) rfl (by kernel_rfl) (by kernel_rfl) (by kernel_rfl) (fun _ _ _ h => h) (Or.inl ⟨by rfl, ?_⟩) (by assumption) ?_
      · (intro W hSw; go_simp)
      (try simp only [Act.put, List.setIfInBounds_toArray, List.set_cons_zero, List.set_cons_succ])
      refine wpAnyH_ready (rs := [8]) (by kernel_rfl) (by simp) ?_
      refine AllReadyH.cons rfl (fun K hK => ?_) AllReadyH.nil
      go_simp
      refine hK.out _ _ (cell_set_other cx (by simp; omega)) (fun hHeld => ?_)
      clear hK K
      (try simp only [Act.put, List.setIfInBounds_toArray, List.set_cons_zero, List.set_cons_succ])
      refine wpAnyH_done (by kernel_rfl) ?_ _
      go_wp2_with fail
      go_roundw
      case rel =>
        refine ⟨k + 1, _, V', by omega, by go_num, own.stored k (wordTo S (D (digs S (gi C k))) S.length), Lib.hid ⟨by rw [List.length_set]; exact HRk.out.1, fun j hj => ?_⟩, og.setBelow (by simp; omega) _, HV3, Lib.hid fun j hj => cell_set_other (HR4.out j hj) (by simp; omega), cell_set_other cx (by simp; omega), by simpa using lP2, B.setCell (by simp; omega) _⟩
        rw [gi_set _ _ _ _ (by rw [HRk.out.1]; exact hlt)]
        by_cases e : j = k
        · subst e; rw [if_pos rfl]
        · rw [if_neg e]; exact HRk.out.2 j (by omega)
      case measure => simp [intOf]; omega
    · have hM : Hid (R = C.map fun c => wordTo S (D (digs S c)) S.length) := Lib.hid (ext_gi (by simp; exact HRk.out.1) fun j hj => by
        rw [HRk.out.1] at hj
        rw [HRk.out.2 j (by omega)]
        unfold gi; simp [List.getD_eq_getElem?_getD, hj])
      have hRl : R.length = C.length := HRk.out.1
      rw [← hRl] at own
      have h5 := sort_any w.heap.size q R.length R wr (by omega) own
      rw [hRl] at h5
      clear hRl own og
      go_wp2_with fail
      refine h5.mono ?_
      rintro e w5 ⟨rfl, own5, g5⟩
      have hsl : (sorted R).length = C.length := by rw [sorted_len]; exact HRk.out.1
      rw [← hsl] at own5
      have h6 := compact_any w.heap.size q (sorted R).length (sorted R) w5 (by omega) own5
      rw [hsl] at h6
      have B5 := B.grown g5 B.size (fun j e => by cases e; omega)
      clear own5 hsl
      go_wp2_with fail
      refine h6.mono ?_
      rintro e w6 ⟨v, rfl, own6, g6⟩
      go_wp2_with fail
      go_ret
      exact ⟨_, rfl, by rw [← hM.out]; exact own6, B5.grown g6 B5.size (fun j e => by cases e; omega)⟩

end Go.Proofs.Ytdacokgmcenjoaa
