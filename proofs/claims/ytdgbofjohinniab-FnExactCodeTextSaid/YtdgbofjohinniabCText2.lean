/-
  The contracts of CodeText, both sides. By an AI agent.
-/
import Derived.Test.YtdgbofjohinniabCText
namespace Go.Proofs.Ytdgbofjohinniab
open Go.RowKit Cv
set_option linter.unusedVariables false
set_option linter.unusedSimpArgs false
set_option maxRecDepth 100000

theorem infoStr : (Try.prog.info? 9).map (fun i => (i.zero, i.size, i.bytes)) = some (some (.string ⟨#[]⟩), 1, 16) := by kernel_rfl

theorem ret_str {a b : ByteArray} (h : a = b) : Ending.returned (.string a) = .returned (.string b) := by rw [h]

set_option maxHeartbeats 2000000 in
theorem codeText_any (ao : Option Addr) (S : List Int) (cap : Nat) (hSp : Sp S) (ac : Option Addr) (C : List Int) (capc : Nat) (hl : C.length ≤ 1024) (hC0 : ∀ i, i < C.length → 0 ≤ gi C i ∧ gi C i ≤ 9223372036854775807) (w : World) (hS : Ints w ao S) (hC : Ints w ac C) :
    Calls Try.prog 87 #[.agg #[.slice ao S.length cap], .slice ac C.length capc] w fun e w' => e = .returned (.string (cTxt S C C.length)) ∧ Below w.heap.size w w' := by
  obtain ⟨i0, hi, hz0, hz1, hz2⟩ := info_parts infoStr
  have HSp := Lib.hid hSp
  have HC0 := Lib.hid hC0
  have hlo := hSp.lo
  have hhi := hSp.hi
  clear hSp hC0
  go_enter Try.func87, Try.ntmps87
  go_wp2_with (at_make; refine wpList_make_full _ rfl _ _ 101 rfl w.heap.size 9 i0 (.string ⟨#[]⟩) 1 Try.underlying101 hi hz0 hz1 .i64 .i64 _ _ C.length rfl rfl rfl rfl (by rw [hz2]; omega) (by unfold maxLen; omega) (by simp) ?_; intro w1 hown hgrow; have c1 := kept_cell (below_grown0 hgrow) (cell_new w (.slice ao S.length cap) 28) (lt_alloc _ _))
  have B1 : Below w.heap.size w w1 := Below.trans (by go_grown) ((below_grown0 hgrow).mono (by simp))
  rw [show (w.alloc (.cells #[.slice ao S.length cap] 28)).heap.size = w.heap.size + 1 from by simp] at hown
  obtain ⟨V0, hV0⟩ : ∃ V0, V0 = (madeCells (Value.string ⟨#[]⟩).cells (C.length * 1)).toList := ⟨_, rfl⟩
  rw [← hV0] at hown
  have hVl : V0.length = C.length := by simpa using hown.1
  have hG : w.heap.size + 1 < w1.heap.size := by
    rcases hown.2 with ⟨h, _⟩ | ⟨g', cap', cur, h', _, hh, _⟩
    · simp at h
    · simp only [Value.slice.injEq, Option.some.injEq, Addr.mk.injEq, and_true, true_and] at h'
      rw [h'.1]; exact (Array.getElem?_eq_some_iff.1 hh).1
  clear hgrow hV0
  refine (digitParts_any ao S cap hlo hhi HSp.out.bd ac C capc (by omega) HC0.out _ (hS.below B1) (hC.below B1)).mono ?_
  rintro e w3 ⟨P, g, U, rfl, hp, hb3⟩
  replace hown := hown.kept (grown_of_below hb3 none) (.inr (by simp [Value.ownBlock]))
  have B3 : Below w.heap.size w w3 := B1.trans (hb3.mono B1.size)
  have hG3 := lt_of_below hb3 hG
  have hbp := hp.bp
  have hgu := hp.own.base_le
  clear hb3 B1 c1
  go_wp2_with fail
  go_loopw [15] (fun i wr => ∃ (k : Nat) (V : List Value), k ≤ C.length ∧ i = .int .i64 k ∧ wr.ownsRow w.heap.size 9 1 (.slice (some ⟨w.heap.size + 1, 0, none⟩) C.length C.length) C.length V ∧ Hid (V.length = C.length ∧ ∀ j, j < k → V[j]? = some (.string (wTxt S (gi C j)))) ∧ w3.grownBy wr (some (w.heap.size + 1))) (fun i _ => C.length - (intOf i).toNat)
  case atStart => exact ⟨0, V0, Nat.zero_le _, rfl, hown, Lib.hid ⟨hVl, fun j h => by omega⟩, grown_of_below (Below.refl _ _) _⟩
  case round =>
    clear hown hVl
    obtain ⟨k, V, hk, rfl, hown, HV, B⟩ := hrel
    by_cases hlt : k < C.length
    · have hck := B.cell (a := ⟨P, k, none⟩) (hp.row k hlt) (by simp; omega)
      have HI := Lib.hid ((hp.ints hlt).grown B (by intro b o h; cases h; omega))
      have HD := Lib.hid (digs_small HSp.out (gi C k))
      go_wp2_with fail
      refine (digitsText_n _ (digs S (gi C k)) S.length _ (digs_length _ _) (by omega) HD.out _ HI.out).mono ?_
      rintro e w4 ⟨rfl, hb4⟩
      have hown4 := hown.kept (grown_of_below hb4 none) (.inr (by simp [Value.ownBlock]))
      have B4 := grown_trans B (grown_of_below hb4 (some (w.heap.size + 1)))
      obtain ⟨vk, hcellV⟩ : ∃ vk, w4.cell? ⟨w.heap.size + 1, k, none⟩ = some vk := by
        rw [hown4.cellAt k (by omega)]
        exact ⟨_, List.getElem?_eq_getElem (by rw [HV.out.1]; exact hlt)⟩
      have hfreeV := hown4.frozenAt k
      have st := (hown4.stored k (.string (txt (digs S (gi C k)) S.length))).1
      clear hb4 hown hck
      go_wp2_with fail
      go_roundw
      case rel =>
        refine ⟨k + 1, _, by omega, by go_num, st, Lib.hid ⟨by rw [List.length_set]; exact HV.out.1, fun j hj => ?_⟩, grown_setCell B4 _ _⟩
        by_cases e : j = k
        · subst e; rw [List.getElem?_set_self (by rw [HV.out.1]; exact hlt)]; rfl
        · rw [List.getElem?_set_ne (fun h => e h.symm)]; exact HV.out.2 j (by omega)
      case measure => simp [intOf]; omega
    · have ek : k = C.length := by omega
      have hsz := cTxt_size S C hhi C.length
      have hj := cTxt_join S C C.length
      have HX : Hid (((List.range C.length).map fun j => wTxt S (gi C j)).map (·.data.toList) = (List.range C.length).map fun j => (wTxt S (gi C j)).data.toList) := Lib.hid (by rw [List.map_map]; rfl)
      have HJ : Hid ((⟨(Lib.join (((List.range C.length).map fun j => wTxt S (gi C j)).map (·.data.toList)) comma.data.toList).toArray⟩ : ByteArray) = cTxt S C C.length) := Lib.hid (by rw [HX.out, ← hj])
      have HL : Hid ((Lib.join (((List.range C.length).map fun j => wTxt S (gi C j)).map (·.data.toList)) comma.data.toList).length ≤ 140737488355328) := Lib.hid (by
        rw [hj] at hsz
        have : (Lib.join ((List.range C.length).map fun j => (wTxt S (gi C j)).data.toList) comma.data.toList).toArray.size ≤ 9 * C.length := hsz
        rw [HX.out]
        simp only [List.size_toArray] at this
        omega)
      clear hj hsz
      have hGr : w.heap.size + 1 < wr.heap.size := Nat.lt_of_lt_of_le hG3 B.size
      go_wp2_with fail
      refine (join_n (w.heap.size + 1) C.length C.length ((List.range C.length).map fun j => wTxt S (gi C j)) (by simp) _ (fun j x hx => by
        have hjl : j < C.length := by
          have := (List.getElem?_eq_some_iff.1 hx).1
          simpa using this
        rw [List.getElem?_map, List.getElem?_range hjl] at hx
        simp only [Option.map_some, Option.some.injEq] at hx
        rw [Nat.zero_add, hown.cellAt j (by omega), HV.out.2 j (by omega), hx]) hGr (by omega) (Nat.le_refl _) HL.out).mono ?_
      rintro e w5 ⟨rfl, hb5⟩
      go_wp2
      go_ret
      exact ⟨ret_str (by rw [← List.map_map]; exact HJ.out), (B3.grown B B3.size (by intro q hq; simp at hq; omega)).trans (hb5.mono (Nat.le_trans B3.size B.size))⟩

end Go.Proofs.Ytdgbofjohinniab
