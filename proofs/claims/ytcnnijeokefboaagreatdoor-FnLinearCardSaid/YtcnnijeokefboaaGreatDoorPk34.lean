/-
  Texts put together: Chk, ChkF, AllW. By an AI agent.
-/
import Derived.Test.YtcnnijeokefboaaGreatDoorPk33
import Derived.Maps.AppendAt
import Derived.Test.YtcnnijeokefboaaGreatDoorAppendAt
import Derived.Test.YtcnnijeokefboaaGreatDoorPk21
import Derived.Test.YtcnnijeokefboaaGreatDoorPk14
import Derived.Test.YtcnnijeokefboaaGreatDoorAppend
namespace Go.Proofs.YtcnnijeokefboaaGreatDoor
open Go.RowKit Cv
set_option linter.unusedVariables false
set_option linter.unusedSimpArgs false
set_option maxRecDepth 100000

/-- the check by word k of a list whose digits lie at g -/
def chkVal (ao : Option Addr) (S : List Int) (cap g : Nat) (G : List Int) (k : Nat) : Value :=
  if gi S 0 = 2 then .iface 108 (.int .i64 (gi G k)) else .iface 110 (.agg #[.slice ao S.length cap, .slice (some ⟨g, k * S.length, none⟩) S.length S.length])
def chkVals (ao : Option Addr) (S : List Int) (cap g : Nat) (G : List Int) (k : Nat) : List Value := (List.range k).map (chkVal ao S cap g G)
theorem chkVals_len (ao : Option Addr) (S : List Int) (cap g : Nat) (G : List Int) (k : Nat) : (chkVals ao S cap g G k).length = k := by simp [chkVals]
theorem chkVals_step (ao : Option Addr) (S : List Int) (cap g : Nat) (G : List Int) (k : Nat) : chkVals ao S cap g G (k + 1) = chkVals ao S cap g G k ++ [chkVal ao S cap g G k] := by
  unfold chkVals; rw [List.range_succ, List.map_append]; rfl
theorem chkVals_at (ao : Option Addr) (S : List Int) (cap g : Nat) (G : List Int) (k j : Nat) (h : j < k) : (chkVals ao S cap g G k)[j]? = some (chkVal ao S cap g G j) := by simp [chkVals, h]

theorem ownsRow_rebase {w : World} {base base' n : Nat} {e : TypeId} {v : Value} {L : List Value} (h : w.ownsRow base e 1 v n L) (hb : base' ≤ base) : w.ownsRow base' e 1 v n L := by
  refine ⟨h.1, ?_⟩
  rcases h.2 with h2 | ⟨g, cap, cur, hv, hg, r⟩
  · exact .inl h2
  · exact .inr ⟨g, cap, cur, hv, by omega, r⟩
/-- the checks of a list, as they lie in memory -/
structure ChksAt (w : World) (base : Nat) (v : Value) (ao : Option Addr) (S : List Int) (cap g : Nat) (G : List Int) : Prop where
  row : w.ownsRow base 73 1 v G.length (chkVals ao S cap g G G.length)
  ints : ∀ k, k < G.length → Ints w (some ⟨g, k * S.length, none⟩) (digs S (gi G k))
  gb : base ≤ g
theorem ChksAt.below {w w' : World} {base : Nat} {v : Value} {ao : Option Addr} {S : List Int} {cap g : Nat} {G : List Int} (h : ChksAt w base v ao S cap g G) (hb : Below w.heap.size w w') : ChksAt w' base v ao S cap g G :=
  ⟨World.ownsRow.kept h.row (grown_of_below hb none) (by rcases h.row.2 with ⟨h, _⟩ | ⟨_, _, _, h, _⟩ <;> rw [h] <;> simp [Value.ownBlock]), fun k hk => (h.ints k hk).below hb, h.gb⟩
theorem ChksAt.set {w : World} {base : Nat} {v : Value} {ao : Option Addr} {S : List Int} {cap g : Nat} {G : List Int} (h : ChksAt w base v ao S cap g G) {p : Nat} (hp : p < base) (u : Value) : ChksAt (w.setCell ⟨p, 0, none⟩ u) base v ao S cap g G :=
  ⟨ownsRow_setCell_below h.row hp u, fun k hk => ints_set_other (h.ints k hk) (by intro b o e; simp at e; have := h.gb; show b ≠ p; omega), h.gb⟩

theorem infoChk : (Tryz.prog.info? 73).map (fun i => (i.zero, i.size, i.bytes)) = some (some .nilIface, 1, 16) := by kernel_rfl

theorem wpList_append_chk {w : World} {ops : Array Oper} {rest : List Oper} {o : Oper} {a : Act} {Q : Exit → Act → World → Prop} (hgd : o.guard = none) (s x : Operand)
    (ho : o.op = .call { callee := .builtin .append, args := #[s, x], argTypes := #[69, 69] })
    (base : Nat) (v : Value) (L : List Value) (hs : a.eval s = v) (hown : w.ownsRow base 73 1 v L.length L) (b : Nat) (y : Value) (hx : a.eval x = .slice (some ⟨b, 0, none⟩) 1 1) (hc : w.cell? ⟨b, 0, none⟩ = some y) (hy : y.oneCell' = true)
    (hlen : L.length ≤ 1073741824) (hbase : base ≤ w.heap.size)
    (h : ∀ v' w', w'.ownsRow base 73 1 v' (L ++ [y]).length (L ++ [y]) → w.grownBy w' v.ownBlock → (v'.ownBlock = v.ownBlock ∨ v'.ownBlock = some w.heap.size) → wpList Tryz.prog ops Q rest (a.put o.dst v') w') : wpList Tryz.prog ops Q (o :: rest) a w := by
  obtain ⟨i0, hi, hz0, hz1, hz2⟩ := info_parts infoChk
  refine wpList_append_own_at w hgd s x 69 ho base 73 i0 .nilIface 1 16 Tryz.underlying69 hi hz0 hz1 hz2 rfl (by decide) v L.length L hs hown ⟨b, 0, none⟩ 1 1 [y] hx rfl ?_ ?_ (by unfold maxLen; omega) (by omega) hbase ?_
  · intro j u hj
    match j, hj with
    | 0, hj => simp at hj; subst hj; simpa [Addr.add] using hc
  · intro u hu; simp at hu; subst hu; exact hy
  · intro v' w' h1 h2 _ h3
    refine h v' w' ?_ h2 h3
    rw [List.length_append]
    exact h1

set_option maxHeartbeats 2000000 in
theorem checksOf_any (ao : Option Addr) (S : List Int) (cap : Nat) (hP : Pl S) (ag : Option Addr) (G : List Int) (capg : Nat) (hlg : G.length ≤ 1048576) (hG : ∀ i, i < G.length → Wd S (gi G i)) (w : World) (hS : Ints w ao S) (hGI : Ints w ag G) :
    Calls Tryz.prog 67 #[.agg #[.slice ao S.length cap], .slice ag G.length capg] w fun e w' => ∃ v, e = .returned v ∧ (∃ g, ChksAt w' w.heap.size v ao S cap g G) ∧ Below w.heap.size w w' := by
  have hlo := hP.sp.lo
  have hhi := hP.sp.hi
  have N := nW_bd hP.sp
  have HSp := Lib.hid hP.sp
  have HG0 : Hid (∀ i, i < G.length → 0 ≤ gi G i ∧ gi G i ≤ 9223372036854775807) := Lib.hid fun i hi => by have := hG i hi; unfold Wd at this; omega
  obtain ⟨bS, oS, rfl, hbS, hcS⟩ := hS.at (show 0 < S.length by omega)
  have hcS0 := hcS 0 (by omega)
  rw [Nat.add_zero] at hcS0
  have B0 : Below w.heap.size w (w.alloc (.cells #[.slice (some ⟨bS, oS, none⟩) S.length cap] 26)) := by go_grown
  have c0 := cell_new w (.slice (some ⟨bS, oS, none⟩) S.length cap) 26
  have l0 := lt_alloc w (.cells #[.slice (some ⟨bS, oS, none⟩) S.length cap] 26)
  have own0 : ((w.alloc (.cells #[.slice (some ⟨bS, oS, none⟩) S.length cap] 26)).alloc (.cells #[] 73)).ownsRow (w.heap.size + 1) 73 1 (.slice (some ⟨w.heap.size + 1, 0, none⟩) 0 0) 0 [] := by
    have h := World.ownsRow_made (w.alloc (.cells #[.slice (some ⟨bS, oS, none⟩) S.length cap] 26)) (base := w.heap.size + 1) (e := 73) (size := 1) #[] 0 (by simp) (by simp [maxLen]) (by simp)
    rw [World.size_alloc] at h
    exact h
  have b1 : Below (w.alloc (.cells #[.slice (some ⟨bS, oS, none⟩) S.length cap] 26)).heap.size (w.alloc (.cells #[.slice (some ⟨bS, oS, none⟩) S.length cap] 26)) ((w.alloc (.cells #[.slice (some ⟨bS, oS, none⟩) S.length cap] 26)).alloc (.cells #[] 73)) := (Below.refl _ _).alloc (Nat.le_refl _) _
  have c1 := kept_cell b1 c0 l0
  have B1 := B0.alloc B0.size (.cells #[] 73)
  obtain ⟨W1, hW1⟩ : ∃ W1, W1 = (w.alloc (.cells #[.slice (some ⟨bS, oS, none⟩) S.length cap] 26)).alloc (.cells #[] 73) := ⟨_, rfl⟩
  have s1 : W1.heap.size = w.heap.size + 2 := by rw [hW1]; simp
  rw [← hW1] at own0 c1 B1
  have HW1 := Lib.hid hW1
  obtain ⟨q, hqq⟩ : ∃ q, q = gi S 0 := ⟨_, rfl⟩
  rw [← hqq] at hcS0
  have HQQ := Lib.hid hqq
  have hd := digitParts_any (some ⟨bS, oS, none⟩) S cap hlo hhi HSp.out.bd ag G capg (by omega) HG0.out W1 (hS.below B1) (hGI.below B1)
  have HD := Lib.hid hd
  have hcS1 := kept_cell B1 hcS0 hbS
  clear hP hcS b1 c0 l0 B0 hW1 hqq hd
  go_enter Tryz.func67, Tryz.ntmps67
  go_wp2_with fail
  rw [← HW1.out]
  refine HD.out.mono ?_
  rintro e w2 ⟨P, g, U, rfl, hp, hb2⟩
  have c2 := kept_cell hb2 c1 (by omega)
  have own2 := World.ownsRow.kept own0 (grown_of_below hb2 none) (.inr (by simp [Value.ownBlock]))
  have B2 := B1.trans (hb2.mono B1.size)
  have lP : W1.heap.size ≤ P := hp.bp
  have og := hp.own
  have hU := Lib.hid (And.intro hp.len hp.dg)
  have HR := Lib.hid hp.row
  have lg := og.base_le
  have lP2 := hp.pl
  have hPg := hp.ne
  clear HD hb2 hp c1 own0 B1 hcS1
  go_wp2_with fail
  go_loopw [5, 13] (fun v' i wr => ∃ (k : Nat) (v : Value), k ≤ G.length ∧ i = .int .i64 k ∧ v = v' ∧ wr.ownsRow (w.heap.size + 1) 73 1 v k (chkVals (some ⟨bS, oS, none⟩) S cap g G k) ∧ OwnInts wr W1.heap.size (.slice (some ⟨g, 0, none⟩) U.length U.length) U ∧ Hid (∀ j, j < G.length → wr.cell? ⟨P, j, none⟩ = some (.slice (some ⟨g, j * S.length, none⟩) S.length S.length)) ∧ (∀ b, v.ownBlock = some b → b ≠ P ∧ b ≠ g) ∧ wr.cell? ⟨w.heap.size, 0, none⟩ = some (.slice (some ⟨bS, oS, none⟩) S.length cap) ∧ P < wr.heap.size ∧ Below w.heap.size w wr) (fun _ i _ => G.length - (intOf i).toNat)
  case atStart => exact ⟨0, _, Nat.zero_le _, rfl, rfl, own2, og, HR, fun b hb => by simp [Value.ownBlock] at hb; omega, c2, lP2, B2⟩
  case round =>
    clear own2 og HR c2 B2 lP2
    obtain ⟨k, v, hk, rfl, rfl, own, og, HR, hvb, c, lP2, B⟩ := hrel
    have HL : Hid ((chkVals (some ⟨bS, oS, none⟩) S cap g G k).length = k) := Lib.hid (chkVals_len _ _ _ _ _ _)
    have HST : Hid (chkVals (some ⟨bS, oS, none⟩) S cap g G (k + 1) = chkVals (some ⟨bS, oS, none⟩) S cap g G k ++ [chkVal (some ⟨bS, oS, none⟩) S cap g G k]) := Lib.hid (chkVals_step _ _ _ _ _ _)
    obtain ⟨V, hV⟩ : ∃ V, V = chkVals (some ⟨bS, oS, none⟩) S cap g G k := ⟨_, rfl⟩
    rw [← hV] at own HL HST
    have hsr := B.size
    have own' : wr.ownsRow (w.heap.size + 1) 73 1 v V.length V := by rw [HL.out]; exact own
    by_cases hlt : k < G.length
    · have hrow := HR.out k hlt
      obtain ⟨bG, oG, rfl, hbG, hcG⟩ := hGI.at hlt
      have hck := kept_cell B (hcG k hlt) hbG
      have hcq := kept_cell B hcS0 hbS
      have kI : (k : Int) < (G.length : Int) := by omega
      have k0 : (0 : Int) ≤ (k : Int) := by omega
      obtain ⟨x1, x2⟩ := HG0.out k hlt
      obtain ⟨x, hx⟩ : ∃ x, x = gi G k := ⟨_, rfl⟩
      rw [← hx] at hck x1 x2
      have HX := Lib.hid hx
      have l0 : w.heap.size < wr.heap.size := by omega
      have hVl : V.length ≤ 1073741824 := by rw [HL.out]; omega
      clear hcG hx own hV
      by_cases hq2 : q = 2
      · have hq2b : (q == 2) = true := by simp [hq2]
        have HV : Hid (chkVal (some ⟨bS, oS, none⟩) S cap g G k = .iface 108 (.int .i64 x)) := Lib.hid (by unfold chkVal; rw [← HQQ.out, if_pos hq2, HX.out])
        clear hq2
        go_wp2_with (at_builtin; refine wpList_append_chk rfl _ _ rfl (w.heap.size + 1) v V rfl (World.ownsRow.alloc own' _) wr.heap.size (.iface 108 (.int .i64 x)) rfl (cell_new _ _ _) rfl hVl (by rw [World.size_alloc]; omega) ?_; intro v' w5 hown' hgrow hblk)
        have hbT : Below wr.heap.size wr (wr.alloc (.cells #[.iface 108 (.int .i64 x)] 73)) := (Below.refl _ _).alloc (Nat.le_refl _) _
        have hrin := World.ownsRow.lt own'
        have c5 := hgrow.cell (a := ⟨w.heap.size, 0, none⟩) (kept_cell hbT c l0) (fun e => by have := (hrin w.heap.size e.symm).1; omega)
        have og5 := OwnInts.kept (og.alloc (.cells #[.iface 108 (.int .i64 x)] 73)) hgrow (.inr fun e => (hvb g e.symm).2 rfl)
        have HR5 : Hid (∀ j, j < G.length → w5.cell? ⟨P, j, none⟩ = some (.slice (some ⟨g, j * S.length, none⟩) S.length S.length)) := Lib.hid fun j hj => hgrow.cell (a := ⟨P, j, none⟩) (kept_cell hbT (HR.out j hj) lP2) (fun e => (hvb P e.symm).1 rfl)
        have B5 := (B.alloc B.size (.cells #[.iface 108 (.int .i64 x)] 73)).grown hgrow (by rw [World.size_alloc]; omega) (fun k hk => by have := hrin k hk; omega)
        have gl := og.base_le.2
        have blk5 : ∀ b, v'.ownBlock = some b → b ≠ P ∧ b ≠ g := fun b hb => by
          rcases hblk with h | h
          · exact hvb b (by rw [← h]; exact hb)
          · rw [h] at hb; simp at hb; omega
        have lP5 : P < w5.heap.size := by have := hgrow.size; rw [World.size_alloc] at this; omega
        rw [← HV.out, ← HST.out, chkVals_len] at hown'
        clear own' hgrow hbT hrin c og HR B hck hcq
        go_roundw
        case rel => exact ⟨k + 1, _, by omega, by go_num, rfl, hown', og5, HR5, blk5, c5, lP5, B5⟩
        case measure => simp [intOf]; omega
      · have hq2b : (q == 2) = false := by simp [hq2]
        have HV : Hid (chkVal (some ⟨bS, oS, none⟩) S cap g G k = .iface 110 (.agg #[.slice (some ⟨bS, oS, none⟩) S.length cap, .slice (some ⟨g, k * S.length, none⟩) S.length S.length])) := Lib.hid (by unfold chkVal; rw [← HQQ.out, if_neg hq2])
        clear hq2
        go_wp2_with (at_builtin; refine wpList_append_chk rfl _ _ rfl (w.heap.size + 1) v V rfl (World.ownsRow.alloc own' _) wr.heap.size (.iface 110 (.agg #[.slice (some ⟨bS, oS, none⟩) S.length cap, .slice (some ⟨g, k * S.length, none⟩) S.length S.length])) rfl (cell_new _ _ _) rfl hVl (by rw [World.size_alloc]; omega) ?_; intro v' w5 hown' hgrow hblk)
        have hbT : Below wr.heap.size wr (wr.alloc (.cells #[.iface 110 (.agg #[.slice (some ⟨bS, oS, none⟩) S.length cap, .slice (some ⟨g, k * S.length, none⟩) S.length S.length])] 73)) := (Below.refl _ _).alloc (Nat.le_refl _) _
        have hrin := World.ownsRow.lt own'
        have c5 := hgrow.cell (a := ⟨w.heap.size, 0, none⟩) (kept_cell hbT c l0) (fun e => by have := (hrin w.heap.size e.symm).1; omega)
        have og5 := OwnInts.kept (og.alloc (.cells #[.iface 110 (.agg #[.slice (some ⟨bS, oS, none⟩) S.length cap, .slice (some ⟨g, k * S.length, none⟩) S.length S.length])] 73)) hgrow (.inr fun e => (hvb g e.symm).2 rfl)
        have HR5 : Hid (∀ j, j < G.length → w5.cell? ⟨P, j, none⟩ = some (.slice (some ⟨g, j * S.length, none⟩) S.length S.length)) := Lib.hid fun j hj => hgrow.cell (a := ⟨P, j, none⟩) (kept_cell hbT (HR.out j hj) lP2) (fun e => (hvb P e.symm).1 rfl)
        have B5 := (B.alloc B.size (.cells #[.iface 110 (.agg #[.slice (some ⟨bS, oS, none⟩) S.length cap, .slice (some ⟨g, k * S.length, none⟩) S.length S.length])] 73)).grown hgrow (by rw [World.size_alloc]; omega) (fun k hk => by have := hrin k hk; omega)
        have gl := og.base_le.2
        have blk5 : ∀ b, v'.ownBlock = some b → b ≠ P ∧ b ≠ g := fun b hb => by
          rcases hblk with h | h
          · exact hvb b (by rw [← h]; exact hb)
          · rw [h] at hb; simp at hb; omega
        have lP5 : P < w5.heap.size := by have := hgrow.size; rw [World.size_alloc] at this; omega
        rw [← HV.out, ← HST.out, chkVals_len] at hown'
        clear own' hgrow hbT hrin c og HR B hck hcq
        go_roundw
        case rel => exact ⟨k + 1, _, by omega, by go_num, rfl, hown', og5, HR5, blk5, c5, lP5, B5⟩
        case measure => simp [intOf]; omega
    · have ek : k = G.length := by omega
      subst ek
      have kI : ¬ (G.length : Int) < (G.length : Int) := by omega
      have HI : Hid (∀ k, k < G.length → Ints wr (some ⟨g, k * S.length, none⟩) (digs S (gi G k))) := Lib.hid fun k hk => by
        refine .inr ⟨g, k * S.length, rfl, og.base_le.2, fun j hj => ?_⟩
        rw [digs_length] at hj
        have hlen2 : k * S.length + S.length ≤ G.length * S.length := by
          have := Nat.mul_le_mul_right S.length (show k + 1 ≤ G.length by omega)
          rw [Nat.add_mul, Nat.one_mul] at this; exact this
        have h := og.cell (k := k * S.length + j) (by rw [hU.out.1]; omega)
        rw [hU.out.2 k j hk hj, ← gi_digs S (gi G k) j hj] at h
        exact h
      rw [HL.out] at own'
      have HV := Lib.hid hV
      clear hV
      go_wp2_with fail
      go_ret
      exact ⟨v, rfl, ⟨g, by rw [← HV.out]; exact ownsRow_rebase own' (by omega), HI.out, by have := lg.1; omega⟩, B⟩

end Go.Proofs.YtcnnijeokefboaaGreatDoor

namespace Go.Proofs.YtcnnijeokefboaaGreatDoor
open Go.RowKit Go.Shelf Cv
set_option linter.unusedVariables false
set_option linter.unusedSimpArgs false
set_option maxRecDepth 100000

/-- the values V lie at a -/
def Vals (w : World) (a : Option Addr) (V : List Value) : Prop :=
  V.length = 0 ∨ ∃ b o, a = some ⟨b, o, none⟩ ∧ b < w.heap.size ∧ ∀ i v, V[i]? = some v → w.cell? ⟨b, o + i, none⟩ = some v
theorem Vals.below {w w' : World} {a : Option Addr} {V : List Value} (h : Vals w a V) (hb : Below w.heap.size w w') : Vals w' a V := by
  rcases h with h | ⟨b, o, rfl, hlt, hc⟩
  · exact .inl h
  · exact .inr ⟨b, o, rfl, Nat.lt_of_lt_of_le hlt hb.size, fun i v hi => (hb.cell (p := ⟨b, o + i, none⟩) hlt).trans (hc i v hi)⟩
theorem vals_row {w : World} {base n : Nat} {e : TypeId} {v : Value} {V : List Value} (h : w.ownsRow base e 1 v n V) (hn : V.length = n) : ∃ a cap, v = .slice a n cap ∧ Vals w a V := by
  rcases h.2 with ⟨hv, h0⟩ | ⟨g, cap, cur, rfl, hb, hh, r⟩
  · exact ⟨none, 0, by rw [h0]; exact hv, .inl (by omega)⟩
  · refine ⟨_, cap, rfl, .inr ⟨g, 0, rfl, (Array.getElem?_eq_some_iff.1 hh).1, fun i v hi => ?_⟩⟩
    have hlt : i < V.length := (List.getElem?_eq_some_iff.1 hi).1
    rw [Nat.zero_add, World.ownsRow.cellAt h i (by omega), hi]

theorem indexFunc_chks (a : Option Addr) (cap : Nat) (V : List Value) (f : Nat) (eg : ∀ args w, (callFunc f args).run Tryz.prog w = .ok (.enter f args) w) (pre post : Array Value) (p : Nat → Bool) (w : World) (hl : V.length ≤ 4294967296)
    (hV : Vals w a V) (hp : ∀ (W : World) (j : Nat) (v : Value), Below w.heap.size w W → V[j]? = some v → Calls Tryz.prog f (pre.push v ++ post) W fun e w' => e = .returned (.bool (p j)) ∧ Below W.heap.size W w') :
    Calls Tryz.prog 142 #[.slice a V.length cap, .func (.func f) pre post] w fun e w' => ∃ r : Int, e = .returned (.int .i64 r) ∧ Below w.heap.size w w' ∧
      Hid ((r = -1 ∧ ∀ j, j < V.length → p j = false) ∨ ∃ k : Nat, k < V.length ∧ r = k ∧ p k = true ∧ ∀ j, j < k → p j = false) := by
  have HP := Lib.hid hp
  have HV := Lib.hid hV
  obtain ⟨n, hn⟩ : ∃ n, n = V.length := ⟨_, rfl⟩
  rw [← hn] at hl ⊢
  have HN := Lib.hid hn
  clear hp hV hn
  go_enter Tryz.func142, Tryz.ntmps142
  go_wp2_with fail
  go_loopw [8] (fun i wr => ∃ k : Nat, k ≤ n ∧ i = .int .i64 k ∧ Below w.heap.size w wr ∧ Hid (∀ j, j < k → p j = false)) (fun i _ => n - (intOf i).toNat)
  case atStart => exact ⟨0, Nat.zero_le _, rfl, Below.refl _ _, Lib.hid fun j hj => by omega⟩
  case round =>
    obtain ⟨k, hk, rfl, B, HA⟩ := hrel
    by_cases hlt : k < n
    · obtain ⟨v, hv⟩ : ∃ v, V[k]? = some v := ⟨_, List.getElem?_eq_getElem (by rw [← HN.out]; exact hlt)⟩
      obtain ⟨b, o, ha, hbl, hc0⟩ : ∃ b o, a = some ⟨b, o, none⟩ ∧ b < w.heap.size ∧ ∀ i v, V[i]? = some v → w.cell? ⟨b, o + i, none⟩ = some v := by
        rcases HV.out with h | h
        · have := HN.out; omega
        · exact h
      subst ha
      have hc := kept_cell B (hc0 k v hv) hbl
      have hcall := HP.out wr k v B hv
      have hs := B.size
      clear hc0 hv
      cases hq : p k with
      | true =>
        rw [hq] at hcall
        have HQ := Lib.hid hq
        clear hq
        go_wp2_with fail
        refine hcall.mono ?_
        rintro e w2 ⟨rfl, hb⟩
        go_wp2_with fail
        go_ret
        exact ⟨k, rfl, B.trans (hb.mono hs), Lib.hid (.inr ⟨k, hlt, rfl, HQ.out, HA.out⟩)⟩
      | false =>
        rw [hq] at hcall
        have HQ := Lib.hid hq
        clear hq
        go_wp2_with fail
        refine hcall.mono ?_
        rintro e w2 ⟨rfl, hb⟩
        go_wp2_with fail
        go_roundw
        case rel =>
          refine ⟨k + 1, by omega, by go_num, B.trans (hb.mono hs), Lib.hid fun j hj => ?_⟩
          by_cases e : j = k
          · subst e; exact HQ.out
          · exact HA.out j (by omega)
        case measure => simp [intOf]; omega
    · have ek : Hid (k = n) := Lib.hid (by omega)
      go_wp2_with fail
      go_ret
      exact ⟨-1, rfl, B, Lib.hid (.inl ⟨rfl, by rw [← ek.out]; exact HA.out⟩)⟩

theorem containsFunc_chks (a : Option Addr) (cap : Nat) (V : List Value) (f : Nat) (eg : ∀ args w, (callFunc f args).run Tryz.prog w = .ok (.enter f args) w) (pre post : Array Value) (p : Nat → Bool) (w : World) (hl : V.length ≤ 4294967296)
    (hV : Vals w a V) (hp : ∀ (W : World) (j : Nat) (v : Value), Below w.heap.size w W → V[j]? = some v → Calls Tryz.prog f (pre.push v ++ post) W fun e w' => e = .returned (.bool (p j)) ∧ Below W.heap.size W w') :
    Calls Tryz.prog 115 #[.slice a V.length cap, .func (.func f) pre post] w fun e w' => e = .returned (.bool (decide (∃ j, j < V.length ∧ p j = true))) ∧ Below w.heap.size w w' := by
  have hidx := indexFunc_chks a cap V f eg pre post p w hl hV hp
  clear hp hV
  go_enter Tryz.func115, Tryz.ntmps115
  go_wp2_with fail
  refine hidx.mono ?_
  rintro e w1 ⟨r, rfl, hb, H⟩
  have hany : Hid (decide (∃ j, j < V.length ∧ p j = true) = decide (0 ≤ r)) := Lib.hid (by
    rw [Bool.eq_iff_iff, decide_eq_true_eq, decide_eq_true_eq]
    rcases H.out with ⟨h1, h2⟩ | ⟨k, h1, h2, h3, _⟩
    · constructor
      · rintro ⟨j, hj, hp⟩
        rw [h2 j hj] at hp; cases hp
      · omega
    · exact ⟨fun _ => by omega, fun _ => ⟨k, h1, h3⟩⟩)
  go_wp2_with fail
  go_ret
  exact ⟨ret_bool hany.out.symm, hb⟩

end Go.Proofs.YtcnnijeokefboaaGreatDoor

namespace Go.Proofs.YtcnnijeokefboaaGreatDoor
open Go.RowKit Cv
set_option linter.unusedVariables false
set_option linter.unusedSimpArgs false
set_option maxRecDepth 100000

theorem wordCount_nat (ao : Option Addr) (S : List Int) (cap : Nat) (N : Nat) (hN : Hid (nW S = (N : Int))) (w : World) (h : Sp S) (hS : Ints w ao S) :
    Calls Tryz.prog 66 #[.agg #[.slice ao S.length cap]] w fun e w' => e = .returned (.int .i64 (N : Int)) ∧ Below w.heap.size w w' := by
  rw [← hN.out]; exact wordCount_sp ao S cap w h hS

set_option maxHeartbeats 1000000 in
theorem allWords_any (ao : Option Addr) (S : List Int) (cap : Nat) (hSp : Sp S) (N : Nat) (hN : Hid (nW S = (N : Int))) (w : World) (hS : Ints w ao S) :
    Calls Tryz.prog 113 #[.agg #[.slice ao S.length cap]] w fun e w' =>
      ∃ q, e = .returned (.slice (some ⟨q, 0, none⟩) N N) ∧ OwnInts w' w.heap.size (.slice (some ⟨q, 0, none⟩) N N) (upto N) ∧ Below w.heap.size w w' := by
  obtain ⟨i0, hi, hz0, hz1, hz2⟩ := info_parts infoI64
  have N2 : N ≤ 1024 := by have := (nW_bd hSp).2; have := hN.out; omega
  have HSp := Lib.hid hSp
  clear hSp
  go_enter Tryz.func113, Tryz.ntmps113
  go_wp2_with fail
  have B0 : Below w.heap.size w (w.alloc (.cells #[.slice ao S.length cap] 26)) := by go_grown
  refine (wordCount_nat ao S cap N hN _ HSp.out (hS.below B0)).mono ?_
  rintro e w1 ⟨rfl, hb1⟩
  have B1 := B0.trans (hb1.mono B0.size)
  have hs1 : w.heap.size < w1.heap.size := lt_of_below hb1 (lt_alloc _ _)
  clear hb1 B0
  go_wp2_with (at_make; refine wpList_make_full _ rfl _ _ 24 rfl w.heap.size 2 i0 (.int .i64 0) 1 Tryz.underlying24 hi hz0 hz1 .i64 .i64 _ _ N rfl rfl rfl rfl (by rw [hz2]; omega) (by unfold maxLen; omega) (by omega) ?_; intro w2 hown hgrow)
  have B2 : Below w.heap.size w w2 := B1.grown hgrow B1.size (by intro k h; cases h)
  replace hown := own_made hown
  have g1 : w1.heap.size ≠ w.heap.size := by omega
  clear hgrow
  go_loopw [10] (fun i wr => ∃ (k : Nat) (D : List Int), k ≤ N ∧ i = .int .i64 k ∧ OwnInts wr w.heap.size (.slice (some ⟨w1.heap.size, 0, none⟩) N N) D ∧ Hid (D.length = N ∧ ∀ j, j < k → gi D j = j) ∧ Below w.heap.size w wr)
    (fun i _ => N - (intOf i).toNat)
  case atStart => exact ⟨0, _, Nat.zero_le _, rfl, hown, Lib.hid ⟨by simp, fun j h => by omega⟩, B2⟩
  case round =>
    clear hown B2
    obtain ⟨k, D, hk, rfl, hown, HD, B⟩ := hrel
    by_cases hlt : k < N
    · have hcell := hown.cell (k := k) (by rw [HD.out.1]; exact hlt)
      have hfree := hown.free k
      go_wp2
      go_roundw
      case rel =>
        refine ⟨k + 1, _, by omega, by go_num, hown.stored k (k : Int), Lib.hid ⟨by rw [List.length_set]; exact HD.out.1, ?_⟩, B.setCell (by simp; omega) _⟩
        intro j hj
        rw [gi_set _ _ _ _ (by rw [HD.out.1]; exact hlt)]
        by_cases e : j = k
        · rw [if_pos e, e]
        · rw [if_neg e]; exact HD.out.2 j (by omega)
      case measure => simp [intOf]; omega
    · go_wp2
      go_ret
      have e : D = upto N := ext_gi (by rw [HD.out.1, upto_len]) fun i hi => by rw [HD.out.1] at hi; rw [HD.out.2 i (by omega), gi_upto _ _ hi]
      rw [e] at hown
      exact ⟨_, rfl, hown, B⟩

end Go.Proofs.YtcnnijeokefboaaGreatDoor
