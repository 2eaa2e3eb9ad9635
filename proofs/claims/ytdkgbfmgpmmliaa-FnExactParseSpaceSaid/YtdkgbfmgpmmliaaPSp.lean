/-
  The contract of the program's ParseSpace. By an AI agent.
-/
import Derived.Test.YtdkgbfmgpmmliaaText
import Derived.Laws.ResultCell
namespace Go.Proofs.Ytdkgbfmgpmmliaa
open Go.RowKit Cv
set_option linter.unusedVariables false
set_option linter.unusedSimpArgs false
set_option maxRecDepth 100000

/-- the sizes that a text says -/
def pS (t : ByteArray) : List Int := t.data.toList.map fun b => (b.toNat : Int) - 48
theorem pS_len (t : ByteArray) : (pS t).length = t.size := by
  unfold pS
  rw [List.length_map, Array.length_toList]
  rfl
theorem pS_at (t : ByteArray) (k : Nat) (h : k < t.size) : gi (pS t) k = ((t[k]).toNat : Int) - 48 := by
  have h' : k < t.data.size := h
  simp [gi, pS, List.getD]
  rw [Array.getElem?_eq_getElem h']
  rfl
theorem isSpace_n (ao : Option Addr) (S : List Int) (n cap : Nat) (w : World) (e : S.length = n) (hn : n ≤ 4294967296) (hS : Ints w ao S) :
    Calls Try.prog 77 #[.agg #[.slice ao n cap]] w fun e w' => e = .returned (.bool (isSp S)) ∧ Below w.heap.size w w' := by
  subst e; exact IsSpace_any ao S cap w hn hS
def okP (t : ByteArray) : Bool := decide (t.size ≤ 8) && isSp (pS t)
def ePS (t : ByteArray) : Int := if okP t = true then 0 else 6
def vPS (t : ByteArray) : List Int := if okP t = true then pS t else []

set_option maxHeartbeats 1000000 in
theorem impl_ParseSpace (t : ByteArray) (ht : t.size ≤ maxLen) (w : World) :
    Calls Try.prog 42 #[.string t] w fun e w' => ∃ v, e = .returned (.tuple #[.agg #[v], .int .i64 (ePS t)]) ∧ OwnInts w' w.heap.size v (vPS t) ∧ Below w.heap.size w w' := by
  obtain ⟨i0, hi, hz0, hz1, hz2⟩ := info_parts infoI64
  unfold maxLen at ht
  by_cases h8 : t.size ≤ 8
  · go_enter Try.func42, Try.ntmps42
    go_wp2_with (at_make; refine wpList_make_full _ rfl _ _ 22 rfl w.heap.size 2 i0 (.int .i64 0) 1 Try.underlying22 hi hz0 hz1 .i64 .i64 _ _ t.size rfl rfl rfl rfl (by rw [hz2]; omega) (by unfold maxLen; omega) (by simp) ?_; intro w1 hown hgrow)
    have B1 : Below w.heap.size w w1 := Below.trans (by go_grown) ((below_grown0 hgrow).mono (by simp))
    have hbg := below_grown0 hgrow
    have c1 := kept_cell hbg (cell_new w (.slice none 0 0) 28) (lt_alloc _ _)
    have f1 : w1.frozen? ⟨w.heap.size, 0, none⟩ = false := (hbg.frozen (p := ⟨w.heap.size, 0, none⟩) (by simp)).trans (by simp)
    replace hown := own_made hown
    rw [show (w.alloc (.cells #[.slice none 0 0] 28)).heap.size = w.heap.size + 1 from by simp] at hown
    have hb1 := hown.base_le
    go_loopw [16] (fun i wr => ∃ (k : Nat) (L : List Int), k ≤ t.size ∧ i = .int .i64 k ∧ OwnInts wr w.heap.size (.slice (some ⟨w.heap.size + 1, 0, none⟩) t.size t.size) L ∧ Hid (L.length = t.size ∧ ∀ j, j < k → gi L j = gi (pS t) j) ∧ wr.cell? ⟨w1.heap.size, 0, none⟩ = some (.slice (some ⟨w.heap.size + 1, 0, none⟩) t.size t.size) ∧ w1.heap.size < wr.heap.size ∧ Below w.heap.size w wr ∧ wr.cell? ⟨w.heap.size, 0, none⟩ = some (.slice none 0 0) ∧ wr.frozen? ⟨w.heap.size, 0, none⟩ = false) (fun i _ => t.size - (intOf i).toNat)
    case atStart => exact ⟨0, _, Nat.zero_le _, rfl, hown.alloc _, Lib.hid ⟨by simp, fun j h => by omega⟩, cell_new _ _ _, lt_alloc _ _, B1.alloc B1.size _, kept_cell ((Below.refl w1.heap.size w1).alloc (Nat.le_refl _) _) c1 (by omega), ((Below.refl w1.heap.size w1).alloc (Nat.le_refl _) _).frozen (p := ⟨w.heap.size, 0, none⟩) (by simp; omega) |>.trans f1⟩
    case round =>
      clear hown B1
      obtain ⟨k, L, hk, rfl, own, HL, c, l, B, c0, f0⟩ := hrel
      by_cases hlt : k < t.size
      · have hcell := own.cell (k := k) (by rw [HL.out.1]; exact hlt)
        have hfree := own.free k
        go_wp2_with fail
        go_still_tail 9, (by kernel_rfl)
        change wpList _ _ _ _ _ wr.drew
        go_wp2
        have hbt : (t[k]).toNat < 256 := UInt8.toNat_lt _
        have EW : wrap64 (wrap64 ((t[k]).toNat : Int) - 48) = ((t[k]).toNat : Int) - 48 := by unfold wrap64; omega
        go_roundw
        case rel =>
          rw [EW]
          refine ⟨k + 1, _, by omega, by go_num, (own.stored k (((t[k]).toNat : Int) - 48)).drew, Lib.hid ⟨by rw [List.length_set]; exact HL.out.1, fun j hj => ?_⟩, cell_set_other c (by simp; omega), by simpa using l, (B.setCell (Nat.le_succ _) _).drew, cell_set_other c0 (by simp), by simpa using f0⟩
          rw [gi_set _ _ _ _ (by rw [HL.out.1]; exact hlt)]
          by_cases e : j = k
          · subst e; rw [if_pos rfl, pS_at t j hlt]
          · rw [if_neg e]; exact HL.out.2 j (by omega)
        case measure => simp [intOf]; omega
      · have ek : k = t.size := by omega
        have hLe : L = pS t := by
          apply List.ext_getElem
          · rw [HL.out.1, pS_len]
          · intro j h1 h2
            have h3 := HL.out.2 j (by rw [HL.out.1] at h1; omega)
            simpa [gi, List.getD, h1, h2] using h3
        subst hLe
        have c2 := c
        by_cases hsp : isSp (pS t) = true
        · have HE : Hid (ePS t = 0) := Lib.hid (by simp [ePS, okP, h8, hsp])
          have HV : Hid (vPS t = pS t) := Lib.hid (by simp [vPS, okP, h8, hsp])
          go_wp2_with fail
          refine (isSpace_n _ (pS t) t.size _ _ (pS_len t) (by omega) (own_ints own)).mono ?_
          rintro e w2 ⟨rfl, hb2⟩
          have c3 := kept_cell hb2 c l
          have own2 := own.below hb2
          have c4 := kept_cell hb2 c0 (by omega)
          have f4 : w2.frozen? ⟨w.heap.size, 0, none⟩ = false := (hb2.frozen (p := ⟨w.heap.size, 0, none⟩) (by simp; omega)).trans f0
          go_wp2_with fail
          refine bodyPost_ret (by rw [results_cell_tmp rfl]; go_simp; try rfl) rfl ?_
          exact ⟨_, by rw [HE.out], by rw [HV.out]; exact own2.kept (grown_setCell (grown_of_below (Below.refl _ _) (some w.heap.size)) _ _) (.inr (by simp [Value.ownBlock])), (B.trans (hb2.mono B.size)).setCell (Nat.le_refl _) _⟩
        · have HE : Hid (ePS t = 6) := Lib.hid (by simp [ePS, okP, h8, hsp])
          have HV : Hid (vPS t = []) := Lib.hid (by simp [vPS, okP, h8, hsp])
          have hsp' : isSp (pS t) = false := by simpa using hsp
          clear hsp
          go_wp2_with fail
          refine (isSpace_n _ (pS t) t.size _ _ (pS_len t) (by omega) (own_ints own)).mono ?_
          rintro e w2 ⟨rfl, hb2⟩
          have c4 := kept_cell hb2 c0 (by omega)
          have f4 : w2.frozen? ⟨w.heap.size, 0, none⟩ = false := (hb2.frozen (p := ⟨w.heap.size, 0, none⟩) (by simp; omega)).trans f0
          go_wp2_with fail
          refine bodyPost_ret (by rw [results_cell_tmp rfl]; go_simp; try rfl) rfl ?_
          exact ⟨_, by rw [HE.out], by rw [HV.out]; exact own_nil _ _, (B.trans (hb2.mono B.size)).setCell (Nat.le_refl _) _⟩
  · have HE : Hid (ePS t = 6) := Lib.hid (by simp [ePS, okP, h8])
    have HV : Hid (vPS t = []) := Lib.hid (by simp [vPS, okP, h8])
    have hd : decide ((8 : Int) < (t.size : Int)) = true := by simp; omega
    go_enter Try.func42, Try.ntmps42
    go_wp2_with fail
    refine bodyPost_ret (by rw [results_cell_tmp rfl]; go_simp; try rfl) rfl ?_
    exact ⟨.slice none 0 0, by rw [HE.out], by rw [HV.out]; exact own_nil _ _, by go_grown⟩

end Go.Proofs.Ytdkgbfmgpmmliaa
