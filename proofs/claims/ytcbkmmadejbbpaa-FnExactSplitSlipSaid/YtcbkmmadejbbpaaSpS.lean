/-
  The contract of the model of SplitSlip. By an AI agent.
-/
import Derived.Test.YtcbkmmadejbbpaaSpI
namespace Go.Proofs.Ytcbkmmadejbbpaa
open Go.RowKit Cv
set_option linter.unusedVariables false
set_option linter.unusedSimpArgs false
set_option maxRecDepth 100000

set_option maxHeartbeats 2000000 in
theorem spec_SplitSlip (ao : Option Addr) (S : List Int) (cap : Nat) (hn : S.length ≤ 4294967296) (at' : Option Addr) (T : List Int) (capt : Nat) (hnt : T.length ≤ 4294967296) (i : Int) (hi : -9223372036854775808 ≤ i ∧ i ≤ 9223372036854775807) (w : World) (hS : Ints w ao S) (hT : Ints w at' T) :
    Calls Try.prog 35 #[.agg #[.slice ao S.length cap], .slice at' T.length capt, .int .i64 i] w fun e w' => ∃ v, e = .returned (.tuple #[v, .int .i64 (eSpl S T i)]) ∧ OwnRws w' w.heap.size w'.heap.size v (vSpl S T i) ∧ Below w.heap.size w w' := by
  obtain ⟨W, hW⟩ : ∃ W, W = w.alloc (.cells #[.slice ao S.length cap] 26) := ⟨_, rfl⟩
  have hWs : W.heap.size = w.heap.size + 1 := by rw [hW]; simp
  have B0 : Below w.heap.size w W := by rw [hW]; go_grown
  have HW := Lib.hid hW
  clear hW
  have hsl := slips_one (c := capt) hnt (hT.below B0) 51 hWs.symm
  have B1 := B0.alloc B0.size (.cells #[.slice at' T.length capt] 51)
  clear hWs
  by_cases hs0 : eSls S [T] = 0
  case neg =>
    have HE : Hid (eSpl S T i = eSls S [T]) := Lib.hid (by unfold eSpl; rw [if_neg hs0])
    have HV : Hid (vSpl S T i = []) := Lib.hid (by unfold vSpl; rw [HE.out, if_neg hs0])
    have hzn : (eSls S [T] != 0) = true := by simpa using hs0
    have hzb : (eSls S [T] == 0) = false := by simpa using hs0
    clear hs0
    go_enter Try.func35, Try.ntmps35
    go_wp2_with fail
    rw [← HW.out]
    refine (l07Code_any ao S cap hn _ [T] 1 1 rfl (by simp) _ (hS.below B1) hsl).mono ?_
    rintro e w1 ⟨rfl, hb⟩
    go_wp2_with fail
    go_ret2
    exact ⟨_, by rw [HE.out]; rfl, by rw [HV.out]; exact OwnRws.nil _ _ _, B1.trans (hb.mono B1.size)⟩
  obtain ⟨hSp, hSl⟩ := eSls1 hs0
  have hTn := hSl.len
  have hhi := hSp.hi
  have hT8 : T.length ≤ 8 := by omega
  have HSl := Lib.hid hSl
  have hzb : (eSls S [T] == 0) = true := by simp [hs0]
  have hzn : (eSls S [T] != 0) = false := by simp [hs0]
  by_cases hir : 0 ≤ i ∧ i < (T.length : Int)
  case neg =>
    have HE : Hid (eSpl S T i = 2) := Lib.hid (by unfold eSpl; rw [if_pos hs0, if_neg (by rw [← hTn]; exact hir)])
    have HV : Hid (vSpl S T i = []) := Lib.hid (by unfold vSpl; rw [HE.out, if_neg (by decide)])
    have Q1 := inB_false (n := i) (low := 0) (high := (T.length : Int) - 1) (by omega)
    clear hs0 hir hSp hSl hTn
    go_enter Try.func35, Try.ntmps35
    go_wp2_with fail
    rw [← HW.out]
    refine (l07Code_any ao S cap hn _ [T] 1 1 rfl (by simp) _ (hS.below B1) hsl).mono ?_
    rintro e w1 ⟨rfl, hb⟩
    replace B1 := B1.trans (hb.mono B1.size)
    clear hb hsl
    go_wp2_with (go_at_call 61; refine (l01In_any _ _ _ _).mono ?_; rintro e w' ⟨rfl, rfl⟩)
    go_ret2
    exact ⟨_, by rw [HE.out]; rfl, by rw [HV.out]; exact OwnRws.nil _ _ _, B1⟩
  have HZ : Hid (eSpl S T i = 0) := Lib.hid (by unfold eSpl; rw [if_pos hs0, if_pos (by rw [← hTn]; exact hir)])
  have HV : Hid (vSpl S T i = spL T i.toNat) := Lib.hid (by unfold vSpl; rw [if_pos HZ.out])
  obtain ⟨i0, i1⟩ := hir
  obtain ⟨k, rfl⟩ := Int.eq_ofNat_of_zero_le i0
  have hk : k < T.length := by omega
  rw [show ((k : Int)).toNat = k by simp] at HV
  obtain ⟨t0, t1⟩ := sl_bdp hSl hk
  obtain ⟨b, o, rfl, hbl, hc⟩ := hT.at hk
  have hck0 := hc k hk
  have Q1 := inB_true (n := (k : Int)) (low := 0) (high := (T.length : Int) - 1) (by omega) (by omega)
  clear hs0 hSp hSl hc hTn
  go_enter Try.func35, Try.ntmps35
  go_wp2_with fail
  rw [← HW.out]
  refine (l07Code_any ao S cap hn _ [T] 1 1 rfl (by simp) _ (hS.below B1) hsl).mono ?_
  rintro e W1 ⟨rfl, hb⟩
  replace B1 := B1.trans (hb.mono B1.size)
  clear hb hsl
  have s1 := B1.size
  have hck1 := kept_cell (B1.alloc B1.size (.cells #[] 51)) hck0 hbl
  go_wp2_with (go_at_call 61; refine (l01In_any _ _ _ _).mono ?_; rintro e w' ⟨rfl, rfl⟩)
  refine (l07Signs_any (gi T k) t0 t1 _).mono ?_
  rintro e w5 ⟨v, rfl, own, hb⟩
  have hR0 := (OwnRws.empty W1 w.heap.size s1 rfl).below hb
  replace hR0 := hR0.top
  have B5 : Below w.heap.size w w5 := (B1.alloc B1.size _).trans (hb.mono (by simp; omega))
  have hdis : ∀ q, v.ownBlock = some q → q ≠ W1.heap.size := fun q hq => by have := (World.ownsRow.lt own q hq).1; simp at this; omega
  replace own := own.rebase (base' := w.heap.size) (by simp; omega)
  obtain ⟨av, cv, hv⟩ := own.shape
  subst hv
  have HLB := Lib.hid (sgL_bdp (gi T k))
  have HL4 : (sgL (gi T k)).length ≤ 4 := selL_len _ _
  have HSU := Lib.hid (spT_succ T k)
  have HAL := Lib.hid (spT_all T k)
  have hR00 : OwnRws w5 w.heap.size w5.heap.size (.slice (some ⟨W1.heap.size, 0, none⟩) 0 0) (spT T k 0) := hR0
  obtain ⟨L, hL⟩ : ∃ L, L = sgL (gi T k) := ⟨_, rfl⟩
  rw [← hL] at own HLB HL4 HSU HAL hdis ⊢
  have hd0 : (Value.slice av L.length cv).ownBlock = none ∨ (Value.slice av L.length cv).ownBlock ≠ (Value.slice (some ⟨W1.heap.size, 0, none⟩) 0 0).ownBlock := by
    cases hq : (Value.slice av L.length cv).ownBlock with
    | none => exact .inl rfl
    | some q => exact .inr fun e => hdis q hq (Option.some.inj e)
  clear hb hL hck1 hR0 hdis
  go_wp2_with fail
  go_loopw [9, 38] (fun z j wr => ∃ m : Nat, m ≤ L.length ∧ j = .int .i64 m ∧ OwnRws wr w.heap.size wr.heap.size z (spT T k m) ∧ OwnInts wr w.heap.size (.slice av L.length cv) L ∧ ((Value.slice av L.length cv).ownBlock = none ∨ (Value.slice av L.length cv).ownBlock ≠ z.ownBlock) ∧ Below w.heap.size w wr) (fun _ j _ => L.length - (intOf j).toNat)
  case atStart => exact ⟨0, Nat.zero_le _, rfl, hR00, own, hd0, B5⟩
  case round =>
    clear hR00 own hd0 B5
    obtain ⟨m, hm, rfl, hR, own, hd, B⟩ := hrel
    by_cases hlm : m < L.length
    · obtain ⟨b5, o5, hav, hb5, hc5⟩ := (own_ints own).at hlm
      have hcm := hc5 m hlm
      obtain ⟨d0, d1⟩ := HLB.out m hlm
      have HS1 := Lib.hid (HSU.out m hlm)
      have hRl := spT_len T k m
      have hs := B.size
      subst hav
      have o0 := own_empty wr wr.heap.size (Nat.le_refl _) rfl
      have hbe : Below wr.heap.size wr (wr.alloc (.cells #[] 2)) := (Below.refl _ wr).alloc (Nat.le_refl _) _
      clear hc5
      obtain ⟨d, hd'⟩ : ∃ d, d = gi L m := ⟨_, rfl⟩
      have HD := Lib.hid hd'
      rw [← hd'] at d0 d1 hcm
      clear hd'
      go_wp2_with (first | (at_builtin; refine wpList_append_slips rfl _ _ rfl wr.heap.size _ [] rfl o0 ⟨b, o, none⟩ T T.length capt rfl rfl (hT.below (B.trans (hbe.mono hs))) (by simp; omega) hbe.size ?_; intro v6 w6 own6 hgrow hnil; have hb6 := grown_below hbe hbe.size hgrow o0 (Nat.le_refl _); rw [List.nil_append] at own6; obtain ⟨g6, c6, hv6⟩ := own_made_slip own6 hnil (fun h => absurd (Value.slice.inj h).1 (by simp)); subst hv6; have hg6 := own6.base_le; have hcell := own6.cell (k := k) hk; have hfree := own6.free k; have hcm6 := kept_cell hb6 hcm hb5; obtain ⟨e1, e2, e3, e4, e5⟩ := shl_pq ⟨d0, d1⟩; have own7 := own6.stored k (pw d); have hb7 : Below wr.heap.size wr (w6.setCell ⟨g6, k, none⟩ (.int .i64 (pw d))) := hb6.setCell (by simp; omega) _; have HR7 := Lib.hid (hR.below hb7); have HL7 := Lib.hid (own.below hb7); have HB7 := Lib.hid (B.trans (hb7.mono hs)); have HCX : Hid (((w6.setCell ⟨g6, k, none⟩ (.int .i64 (pw d))).alloc (.cells #[.slice (some ⟨g6, 0, none⟩) T.length c6] 51)).cell? ⟨w6.heap.size, 0, none⟩ = some (.slice (some ⟨g6, 0, none⟩) T.length c6)) := Lib.hid (by have h9 := cell_new (w6.setCell ⟨g6, k, none⟩ (.int .i64 (pw d))) (.slice (some ⟨g6, 0, none⟩) T.length c6) 51; simpa using h9); clear hgrow hnil hb6 own6) | (at_builtin; clear e1 e2 e3 e4 e5; refine wpList_append_rw rfl _ _ rfl w.heap.size wr.heap.size _ (spT T k m) rfl (HR7.out.below ((Below.refl _ _).alloc (Nat.le_refl _) _)) w6.heap.size _ (T.set k (pw d)) ((own7.rebase (base' := w.heap.size) hs).alloc _) (fun q hq => by have h9 := (World.ownsRow.lt own7 q hq).1; exact h9) rfl HCX.out (by omega) (by simp; omega) ?_; intro v' w8 hR8 hgrow hnew))
      have hgb := (HB7.out.alloc HB7.out.size _).grown hgrow (by simp; omega) (fun q hq => (OwnRws.lo HR7.out) q hq)
      have ownL8 := World.ownsRow.kept (HL7.out.alloc _) hgrow hd
      have hd8 : (Value.slice (some ⟨b5, o5, none⟩) L.length cv).ownBlock = none ∨ (Value.slice (some ⟨b5, o5, none⟩) L.length cv).ownBlock ≠ v'.ownBlock := by
        rcases hnew with e | e
        · rw [e]; exact hd
        · rw [e]
          refine .inr fun e9 => ?_
          have := World.ownsRow.lt HL7.out _ e9
          simp at this
          omega
      clear hgrow hnew own7 hb7 hR own hd hcell hfree hcm6
      go_wp2_with fail
      go_roundw
      case rel => exact ⟨m + 1, by omega, by go_num, by rw [HS1.out, ← HD.out]; exact hR8, ownL8, hd8, hgb⟩
      case measure => simp [intOf]; omega
    · have HE := Lib.hid (HAL.out m (by omega))
      go_wp2_with fail
      go_ret2
      exact ⟨_, by rw [HZ.out]; rfl, by rw [HV.out, ← HE.out]; exact hR, B⟩

end Go.Proofs.Ytcbkmmadejbbpaa
