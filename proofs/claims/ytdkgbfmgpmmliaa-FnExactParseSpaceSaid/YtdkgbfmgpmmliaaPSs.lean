/-
  The contract of the statement's reading of a space: a slice that grows in a struct's field. By an AI agent.
-/
import Derived.Test.YtdkgbfmgpmmliaaPSp
import Derived.Test.YtdkgbfmgpmmliaaAppend
import Derived.Deep.AppendLies
import Derived.Deep.RegionLaw
namespace Go.Proofs.Ytdkgbfmgpmmliaa
open Go.RowKit Cv
set_option linter.unusedVariables false
set_option linter.unusedSimpArgs false
set_option maxRecDepth 100000

theorem frozen_new (X : World) (v : Value) (T : TypeId) : (X.alloc (.cells #[v] T)).frozen? ⟨X.heap.size, 0, none⟩ = false := by simp

theorem step_append_int {ops : Array Oper} {o : Oper} {a : Act} {w : World} {K : Act → World → Prop} {Q : Exit → Act → World → Prop} {E : Prop} (hgd : o.guard = none) (s x : Operand)
    (ho : o.op = .call { callee := .builtin .append, args := #[s, x], argTypes := #[22, 22] })
    (base : Nat) (v : Value) (L : List Int) (hs : a.eval s = v) (hown : OwnInts w base v L) (b : Nat) (y : Int) (hx : a.eval x = .slice (some ⟨b, 0, none⟩) 1 1) (hc : w.cell? ⟨b, 0, none⟩ = some (.int .i64 y))
    (hlen : L.length ≤ 1073741824) (hbase : base ≤ w.heap.size)
    (h : ∀ g cap w', OwnInts w' base (.slice (some ⟨g, 0, none⟩) (L.length + 1) cap) (L ++ [y]) → w.grownBy w' v.ownBlock → (v.ownBlock = some g ∨ g = w.heap.size) → K (a.put o.dst (.slice (some ⟨g, 0, none⟩) (L.length + 1) cap)) w') :
    if Region.wanted o (yielded ops a.tmps) = true then Oper.wp Try.prog o a w K Q else E := by
  obtain ⟨i0, hi, hz0, hz1, hz2⟩ := info_parts infoI64
  refine step_append_lies w hgd s x 22 ho base 2 i0 (.int .i64 0) 1 8 Try.underlying22 hi hz0 hz1 hz2 rfl (by decide) v L.length (L.map (Value.int .i64)) hs hown ⟨b, 0, none⟩ 1 1 [.int .i64 y] hx rfl ?_ ?_ (by decide) (by unfold maxLen; omega) (by omega) hbase _ rfl ?_
  · intro j u hj
    match j, hj with
    | 0, hj => simp at hj; subst hj; simpa [Addr.add] using hc
  · intro u hu; simp at hu; subst hu; rfl
  · intro g cap w' h1 h2 h3 _
    have e : (L ++ [y]).length = L.length + 1 := by simp
    exact h g cap w' (by
      unfold OwnInts
      rw [e, List.map_append]
      exact h1) h2 h3

theorem pS_take_succ (t : ByteArray) (k : Nat) (h : k < t.size) : (pS t).take (k + 1) = (pS t).take k ++ [((t[k]).toNat : Int) - 48] := by
  have h2 : k < (pS t).length := by rw [pS_len]; exact h
  have e := pS_at t k h
  rw [List.take_add_one, List.getElem?_eq_getElem h2]
  have : (pS t)[k] = ((t[k]).toNat : Int) - 48 := by rw [← e]; simp [gi, List.getD, h2]
  simp [this]

set_option maxHeartbeats 1000000 in
theorem l01ReadSpace_any (t : ByteArray) (ht : t.size ≤ 1073741823) (w : World) :
    Calls Try.prog 76 #[.string t] w fun e w' => ∃ v, e = .returned (.tuple #[.agg #[v], .bool (isSp (pS t))]) ∧ OwnInts w' w.heap.size v (pS t) ∧ Below w.heap.size w w' := by
  go_enter Try.func76, Try.ntmps76
  go_wp2_with fail
  have b1 : Below (w.alloc (.cells #[.slice none 0 0] 28)).heap.size (w.alloc (.cells #[.slice none 0 0] 28)) (((w.alloc (.cells #[.slice none 0 0] 28)).alloc (.cells #[] 2)).alloc (.cells #[.slice (some ⟨w.heap.size + 1, 0, none⟩) 0 0] 28)) := ((Below.refl _ (w.alloc (.cells #[.slice none 0 0] 28))).alloc (Nat.le_refl _) _).alloc (by simp) _
  have q6 := kept_cell b1 (cell_new w (.slice none 0 0) 28) (lt_alloc _ _)
  have q7 : (((w.alloc (.cells #[.slice none 0 0] 28)).alloc (.cells #[] 2)).alloc (.cells #[.slice (some ⟨w.heap.size + 1, 0, none⟩) 0 0] 28)).frozen? ⟨w.heap.size, 0, none⟩ = false := (b1.frozen (p := ⟨w.heap.size, 0, none⟩) (lt_alloc _ _)).trans (by simp)
  have q4 := cell_new ((w.alloc (.cells #[.slice none 0 0] 28)).alloc (.cells #[] 2)) (.slice (some ⟨w.heap.size + 1, 0, none⟩) 0 0) 28
  have q5 := frozen_new ((w.alloc (.cells #[.slice none 0 0] 28)).alloc (.cells #[] 2)) (.slice (some ⟨w.heap.size + 1, 0, none⟩) 0 0) 28
  have q8 : w.heap.size + 1 + 1 < (((w.alloc (.cells #[.slice none 0 0] 28)).alloc (.cells #[] 2)).alloc (.cells #[.slice (some ⟨w.heap.size + 1, 0, none⟩) 0 0] 28)).heap.size := by simp
  rw [show ((w.alloc (.cells #[.slice none 0 0] 28)).alloc (.cells #[] 2)).heap.size = w.heap.size + 1 + 1 from by simp] at q4 q5
  go_loopw [5] (fun i wr => ∃ (k : Nat) (v : Value), k ≤ t.size ∧ i = .int .i64 k ∧ OwnInts wr (w.heap.size + 1) v ((pS t).take k) ∧ wr.cell? ⟨w.heap.size + 1 + 1, 0, none⟩ = some v ∧ wr.frozen? ⟨w.heap.size + 1 + 1, 0, none⟩ = false ∧ wr.cell? ⟨w.heap.size, 0, none⟩ = some (.slice none 0 0) ∧ wr.frozen? ⟨w.heap.size, 0, none⟩ = false ∧ w.heap.size + 1 + 1 < wr.heap.size ∧ v.ownBlock ≠ some (w.heap.size + 1 + 1) ∧ Below w.heap.size w wr) (fun i _ => t.size - (intOf i).toNat)
  case atStart => exact ⟨0, .slice (some ⟨w.heap.size + 1, 0, none⟩) 0 0, Nat.zero_le _, rfl, ((own_empty (w.alloc (.cells #[.slice none 0 0] 28)) (w.heap.size + 1) (by simp) (by simp)).alloc _), q4, q5, q6, q7, q8, by simp [Value.ownBlock], by go_grown⟩
  case round =>
    clear q4 q5 q6 q7 q8 b1
    obtain ⟨k, v, hk, rfl, own, c4, f4, c0, f0, l, hv, B⟩ := hrel
    by_cases hlt : k < t.size
    · have hbt : (t[k]).toNat < 256 := UInt8.toNat_lt _
      have EW : wrap64 (wrap64 ((t[k]).toNat : Int) - 48) = ((t[k]).toNat : Int) - 48 := by unfold wrap64; omega
      have HL1 := Lib.hid (pS_take_succ t k hlt)
      obtain ⟨y, hy⟩ : ∃ y, y = ((t[k]).toNat : Int) - 48 := ⟨_, rfl⟩
      rw [← hy] at EW HL1
      have EW2 : IntKind.i64.wrap (IntKind.i64.wrap ((t[k]).toNat : Int) - 48) = y := by rw [hy, IntWalk.i64_in ((t[k]).toNat : Int) ⟨by omega, by omega⟩, IntWalk.i64_in _ ⟨by omega, by omega⟩]
      have HEW := Lib.hid EW2
      have hlen : ((pS t).take k).length ≤ 1073741824 := by rw [List.length_take, pS_len]; omega
      obtain ⟨L, hL⟩ : ∃ L, L = (pS t).take k := ⟨_, rfl⟩
      rw [← hL] at own hlen HL1
      clear hy hL
      go_wp2_with fail
      go_region_law (refine step_append_int rfl (.tmp 15) (.tmp 21) rfl (w.heap.size + 1) v L (by simp [Act.eval, Act.put]) (own.alloc _) wr.heap.size y (by simp [Act.eval, Act.put]) (by simp [HEW.out]) hlen (by simp; omega) ?_; intro g cap w5 hown5 hgrow hat; have c5 := hgrow.cell (a := ⟨w.heap.size + 1 + 1, 0, none⟩) (kept_cell (((Below.refl wr.heap.size wr).alloc (Nat.le_refl _) _).drew) c4 l) (fun e => hv e.symm); have f5 : w5.frozen? ⟨w.heap.size + 1 + 1, 0, none⟩ = false := (hgrow.frozen_far ⟨w.heap.size + 1 + 1, 0, none⟩ (show w.heap.size + 1 + 1 < _ by simp; omega) (fun e => hv e.symm)).trans (((((Below.refl wr.heap.size wr).alloc (Nat.le_refl _) _).drew).frozen (p := ⟨w.heap.size + 1 + 1, 0, none⟩) l).trans f4); have n0 : some w.heap.size ≠ v.ownBlock := (fun e => by have := World.ownsRow.lt own _ e.symm; omega); have c50 := hgrow.cell (a := ⟨w.heap.size, 0, none⟩) (kept_cell (((Below.refl wr.heap.size wr).alloc (Nat.le_refl _) _).drew) c0 (by omega)) n0; have f50 : w5.frozen? ⟨w.heap.size, 0, none⟩ = false := (hgrow.frozen_far ⟨w.heap.size, 0, none⟩ (show w.heap.size < _ by simp; omega) n0).trans (((((Below.refl wr.heap.size wr).alloc (Nat.le_refl _) _).drew).frozen (p := ⟨w.heap.size, 0, none⟩) (show w.heap.size < wr.heap.size by omega)).trans f0))
      all_goals
        have hl5 : w.heap.size + 1 + 1 < w5.heap.size := by have := hgrow.size; simp at this; omega
        have hg5 : g ≠ w.heap.size + 1 + 1 := by
          rcases hat with h | h
          · intro e; rw [e] at h; exact hv h
          · simp at h; omega
        have B5 := grown_below (B.alloc B.size _).drew (by simp; omega) hgrow (own.alloc _).drew (Nat.le_succ _)
        go_wp2
        go_roundw
        case rel => exact ⟨k + 1, _, by omega, by go_num, by rw [HL1.out]; exact hown5.kept (grown_setCell (grown_of_below (Below.refl _ _) (some (w.heap.size + 1 + 1))) 0 _) (.inr (by simp [Value.ownBlock]; exact hg5)), World.cell?_setCell_same _ _ _ c5, by simpa using f5, cell_set_other c50 (by simp; omega), by simpa using f50, by simpa using hl5, by simp [Value.ownBlock]; exact hg5, B5.setCell (by simp; omega) _⟩
        case measure => simp [intOf]; omega
    · have ek : k = t.size := by omega
      rw [ek, List.take_of_length_le (by rw [pS_len]; exact Nat.le_refl _)] at own
      obtain ⟨ao, cp, rfl, hI⟩ := own.ints
      go_wp2_with fail
      go_region_held3 (fun w' => w'.cell? ⟨w.heap.size + 1 + 1, 0, none⟩ = some (.slice ao (pS t).length cp)) (first | exact c4 | exact kept_cell hb2 c4 l | exact cell_set_other (kept_cell hb2 c4 l) (by simp; omega)) (first | (go_at_call 88; refine (l01Is_any ao (pS t) cp _ (by rw [pS_len]; omega) (by exact hI)).mono ?_; rintro e w2 ⟨rfl, hb2'⟩; have hb2 : Below wr.heap.size wr w2 := (Below.refl _ wr).drew.trans hb2'; have c2 := kept_cell hb2 c0 (by omega); have f2 : w2.frozen? ⟨w.heap.size, 0, none⟩ = false := (hb2.frozen (p := ⟨w.heap.size, 0, none⟩) (show w.heap.size < wr.heap.size by omega)).trans f0))
      go_wp2
      refine bodyPost_ret (by rw [results_cell_tmp rfl]; go_simp; try rfl) rfl ?_
      exact ⟨_, rfl, ((own.below hb2).kept (grown_setCell (grown_of_below (Below.refl _ _) (some w.heap.size)) 0 _) (.inr (fun e => by have := World.ownsRow.lt own _ e; omega))).rebase (Nat.le_succ _), (B.trans (hb2.mono B.size)).setCell (Nat.le_refl _) _⟩

end Go.Proofs.Ytdkgbfmgpmmliaa
