/-
  The contracts of NumbersOf. By an AI agent.
-/
import Derived.Test.YtclahcnkkkgdhaaLen8
import Derived.Test.YtclahcnkkkgdhaaCh8
import Derived.Test.YtclahcnkkkgdhaaPz8
namespace Go.Proofs.Ytclahcnkkkgdhaa
open Go.RowKit Cv
set_option linter.unusedVariables false
set_option linter.unusedSimpArgs false
set_option maxRecDepth 100000

def eNo (v p d h s : Int) : Int := if lotB v p d h = true then (if 0 ≤ s ∧ s < tw v then 0 else 2) else 1
def vNo (v p d h s : Int) : List Int := if eNo v p d h s = 0 then memL s.toNat else []
theorem vNo_len (v p d h s : Int) : (vNo v p d h s).length ≤ 12 := by
  unfold vNo
  split
  · exact selL_len _ _
  · simp
theorem eNo_inv {v p d h : Int} (g : lotB v p d h = false) (s : Int) : eNo v p d h s = 1 ∧ vNo v p d h s = [] := by
  have e : eNo v p d h s = 1 := by unfold eNo; rw [g]; rfl
  exact ⟨e, by unfold vNo; rw [e]; rfl⟩
theorem eNo_bad {v p d h s : Int} (g : lotB v p d h = true) (b : ¬ (0 ≤ s ∧ s < tw v)) : eNo v p d h s = 2 ∧ vNo v p d h s = [] := by
  have e : eNo v p d h s = 2 := by unfold eNo; rw [if_pos g, if_neg b]
  exact ⟨e, by unfold vNo; rw [e]; rfl⟩
theorem eNo_ok {v p d h s : Int} (g : lotB v p d h = true) (b : 0 ≤ s ∧ s < tw v) : eNo v p d h s = 0 ∧ vNo v p d h s = memL s.toNat := by
  have e : eNo v p d h s = 0 := by unfold eNo; rw [if_pos g, if_pos b]
  exact ⟨e, by unfold vNo; rw [if_pos e]⟩

set_option maxHeartbeats 2000000 in
theorem impl_NumbersOf (v p d h s : Int) (hs : -9223372036854775808 ≤ s ∧ s ≤ 9223372036854775807) (w : World) :
    Calls Try.prog 24 #[.agg #[.int .i64 v, .int .i64 p, .int .i64 d, .int .i64 h], .int .i64 s] w fun e w' => ∃ y, e = .returned (.tuple #[y, .int .i64 (eNo v p d h s)]) ∧ OwnInts w' w.heap.size y (vNo v p d h s) ∧ Below w.heap.size w w' := by
  have B0 : Below w.heap.size w (w.alloc (.cells #[.int .i64 v, .int .i64 p, .int .i64 d, .int .i64 h] 25)) := by go_grown
  have l0 := lotAt_new w v p d h 25
  obtain ⟨c0, c1, c2, c3, l1⟩ := lotAt_new w v p d h 25
  have hc := lotteryError_any v p d h (w.alloc (.cells #[.int .i64 v, .int .i64 p, .int .i64 d, .int .i64 h] 25))
  cases hb : lotB v p d h with
  | false =>
    obtain ⟨e1, e2⟩ := eNo_inv hb s
    have HE := Lib.hid e1
    have HV := Lib.hid e2
    rw [lot_inv hb] at hc
    clear hb e1 e2
    go_enter Try.func24, Try.ntmps24
    go_wp2_with fail
    refine hc.mono ?_
    rintro e w1 ⟨rfl, hb⟩
    go_wp2_with fail
    go_ret2
    exact ⟨_, by rw [HE.out]; rfl, by rw [HV.out]; exact own_nil0 _ _, B0.trans (hb.mono B0.size)⟩
  | true =>
    have HG := Lib.hid hb
    have hv := lot_v hb
    have HVV := Lib.hid hv
    obtain ⟨t1, t2⟩ := tw_bd hv
    obtain ⟨v1, v2⟩ := hv
    rw [lot_val hb] at hc
    clear hb
    obtain ⟨s1, s2⟩ := shl_tw HVV.out
    obtain ⟨s3, s4, s5, s6, s7⟩ := shl_tw2 HVV.out
    by_cases h0 : 0 ≤ s
    case neg =>
      obtain ⟨e1, e2⟩ := eNo_bad HG.out (s := s) (fun g => h0 g.1)
      have HE := Lib.hid e1
      have HV := Lib.hid e2
      clear e1 e2
      go_enter Try.func24, Try.ntmps24
      go_wp2_with fail
      refine hc.mono ?_
      rintro e w1 ⟨rfl, hb⟩
      have B1 := B0.trans (hb.mono B0.size)
      have l2 := l0.below hb
      clear c0 c1 c2 c3 l1
      obtain ⟨c0, c1, c2, c3, l1⟩ := l0.below hb
      clear hc l0 hb B0
      go_wp2_with fail
      go_ret2
      exact ⟨_, by rw [HE.out]; rfl, by rw [HV.out]; exact own_nil0 _ _, B1⟩
    by_cases h1 : s < tw v
    case neg =>
      obtain ⟨e1, e2⟩ := eNo_bad HG.out (s := s) (fun g => h1 g.2)
      have HE := Lib.hid e1
      have HV := Lib.hid e2
      clear e1 e2
      go_enter Try.func24, Try.ntmps24
      go_wp2_with fail
      refine hc.mono ?_
      rintro e w1 ⟨rfl, hb⟩
      have B1 := B0.trans (hb.mono B0.size)
      have l2 := l0.below hb
      clear c0 c1 c2 c3 l1
      obtain ⟨c0, c1, c2, c3, l1⟩ := l0.below hb
      clear hc l0 hb B0
      go_wp2_with fail
      go_ret2
      exact ⟨_, by rw [HE.out]; rfl, by rw [HV.out]; exact own_nil0 _ _, B1⟩
    obtain ⟨m, rfl⟩ : ∃ m : Nat, s = m := ⟨s.toNat, by omega⟩
    have hm : m < 4096 := by omega
    obtain ⟨e1, e2⟩ := eNo_ok HG.out (s := (m : Int)) ⟨h0, h1⟩
    rw [Int.toNat_natCast] at e2
    have HE := Lib.hid e1
    have HV := Lib.hid e2
    clear e1 e2
    go_enter Try.func24, Try.ntmps24
    go_wp2_with fail
    refine hc.mono ?_
    rintro e w1 ⟨rfl, hb⟩
    have B1 := B0.trans (hb.mono B0.size)
    have l2 := l0.below hb
    clear c0 c1 c2 c3 l1
    obtain ⟨c0, c1, c2, c3, l1⟩ := l0.below hb
    clear hc l0 hb B0
    go_wp2_with fail
    clear s1 s2 s3 s4 s5 s6 s7
    refine (membersOf_any m hm _).mono ?_
    rintro e w2 ⟨y, rfl, own, hb⟩
    go_wp2_with fail
    go_ret2
    exact ⟨_, by rw [HE.out]; rfl, by rw [HV.out]; exact own.rebase B1.size, B1.trans (hb.mono B1.size)⟩

set_option maxHeartbeats 2000000 in
theorem spec_NumbersOf (v p d h s : Int) (hs : -9223372036854775808 ≤ s ∧ s ≤ 9223372036854775807) (w : World) :
    Calls Try.prog 23 #[.agg #[.int .i64 v, .int .i64 p, .int .i64 d, .int .i64 h], .int .i64 s] w fun e w' => ∃ y, e = .returned (.tuple #[y, .int .i64 (eNo v p d h s)]) ∧ OwnInts w' w.heap.size y (vNo v p d h s) ∧ Below w.heap.size w w' := by
  have B0 : Below w.heap.size w (w.alloc (.cells #[.int .i64 v, .int .i64 p, .int .i64 d, .int .i64 h] 25)) := by go_grown
  have l0 := lotAt_new w v p d h 25
  obtain ⟨c0, c1, c2, c3, l1⟩ := lotAt_new w v p d h 25
  have hc := l08Is_any v p d h (w.alloc (.cells #[.int .i64 v, .int .i64 p, .int .i64 d, .int .i64 h] 25))
  cases hb : lotB v p d h with
  | false =>
    obtain ⟨e1, e2⟩ := eNo_inv hb s
    have HE := Lib.hid e1
    have HV := Lib.hid e2
    rw [hb] at hc
    clear hb e1 e2
    go_enter Try.func23, Try.ntmps23
    go_wp2_with fail
    refine hc.mono ?_
    rintro e w1 ⟨rfl, hb⟩
    go_wp2_with fail
    go_ret2
    exact ⟨_, by rw [HE.out]; rfl, by rw [HV.out]; exact own_nil0 _ _, B0.trans (hb.mono B0.size)⟩
  | true =>
    have HG := Lib.hid hb
    have hv := lot_v hb
    have HVV := Lib.hid hv
    obtain ⟨t1, t2⟩ := tw_bd hv
    obtain ⟨v1, v2⟩ := hv
    rw [hb] at hc
    clear hb
    by_cases h0 : 0 ≤ s ∧ s ≤ tw v - 1
    case neg =>
      obtain ⟨e1, e2⟩ := eNo_bad HG.out (s := s) (fun g => h0 ⟨g.1, by omega⟩)
      have HE := Lib.hid e1
      have HV := Lib.hid e2
      have BI := inB_false (n := s) (low := 0) (high := tw v - 1) h0
      obtain ⟨s1, s2⟩ := shl_tw HVV.out
      obtain ⟨s3, s4, s5, s6, s7⟩ := shl_tw2 HVV.out
      clear e1 e2 h0
      go_enter Try.func23, Try.ntmps23
      go_wp2_with fail
      refine hc.mono ?_
      rintro e w1 ⟨rfl, hb⟩
      have B1 := B0.trans (hb.mono B0.size)
      have l2 := l0.below hb
      clear c0 c1 c2 c3 l1
      obtain ⟨c0, c1, c2, c3, l1⟩ := l0.below hb
      clear hc l0 hb B0
      go_wp2_with (go_at_call 40; refine (l01In_any _ _ _ _).mono ?_; rintro e w' ⟨rfl, rfl⟩)
      go_ret2
      exact ⟨_, by rw [HE.out]; rfl, by rw [HV.out]; exact own_nil0 _ _, B1⟩
    have BI := inB_true (n := s) (low := 0) (high := tw v - 1) h0.1 h0.2
    obtain ⟨m, rfl⟩ : ∃ m : Nat, s = m := ⟨s.toNat, by omega⟩
    have hm : m < 4096 := by omega
    obtain ⟨e1, e2⟩ := eNo_ok HG.out (s := (m : Int)) ⟨h0.1, by omega⟩
    rw [Int.toNat_natCast] at e2
    obtain ⟨V, hV⟩ : ∃ V : Nat, v = V := ⟨v.toNat, by omega⟩
    have hml : m < 2 ^ V := by have h2 := h0.2; rw [hV, tw_nat, Int.toNat_natCast] at h2; omega
    have HM := Lib.hid (memL_of hml (by omega))
    have HE := Lib.hid e1
    have HV := Lib.hid e2
    have HVn := Lib.hid hV
    obtain ⟨s1, s2⟩ := shl_tw HVV.out
    obtain ⟨s3, s4, s5, s6, s7⟩ := shl_tw2 HVV.out
    clear e1 e2 h0 hV hml
    go_enter Try.func23, Try.ntmps23
    go_wp2_with fail
    refine hc.mono ?_
    rintro e w1 ⟨rfl, hb⟩
    have B1 := B0.trans (hb.mono B0.size)
    have l2 := l0.below hb
    clear c0 c1 c2 c3 l1
    obtain ⟨c0, c1, c2, c3, l1⟩ := l0.below hb
    clear hc l0 hb B0
    go_wp2_with (go_at_call 40; refine (l01In_any _ _ _ _).mono ?_; rintro e w' ⟨rfl, rfl⟩)
    clear s1 s2 s3 s4 s5 s6 s7 c0 c1 c2 c3 l1 BI
    obtain ⟨G, hG⟩ : ∃ G, G = w1.heap.size := ⟨_, rfl⟩
    have sG := B1.size
    have lG := l2.lt
    rw [← hG] at sG lG ⊢
    have HGz := Lib.hid hG
    clear hG
    go_loopw [6, 7] (fun x i wr => ∃ k : Nat, k ≤ V ∧ i = .int .i64 k ∧ OwnInts wr G x (selL (bitN m) k) ∧ G ≤ wr.heap.size ∧ LotAt wr w.heap.size v p d h ∧ Below w.heap.size w wr) (fun _ i _ => V - (intOf i).toNat)
    case atStart => exact ⟨0, Nat.zero_le _, rfl, own_empty w1 G (by have := HGz.out; omega) HGz.out, by have := HGz.out; simp; omega, l2.below ((Below.refl _ w1).alloc (Nat.le_refl _) _), B1.alloc B1.size _⟩
    case round =>
      clear B1 l2
      obtain ⟨k, hk, rfl, own, hz, l, B⟩ := hrel
      have HLT := Lib.hid l
      obtain ⟨c0, c1, c2, c3, l1⟩ := l
      have hl := selL_len (bitN m) k
      have hzB := B.size
      by_cases hlt : k < V
      · have i1 : (k : Int) < v := by have := HVn.out; omega
        have i0 : (0 : Int) ≤ (k : Int) := by omega
        have i2 : IntKind.u64.wrap (k : Int) = (k : Int) := by unfold IntKind.wrap; simp [IntKind.signed, IntKind.bits]; omega
        have i3 : min k 64 = k := by omega
        have hs := selL_succ (bitN m) k
        have hsh : ((m : Int) / 2 ^ k) = ((m / 2 ^ k : Nat) : Int) := by push_cast; rfl
        have hlo : m / 2 ^ k < 4096 := Nat.lt_of_le_of_lt (Nat.div_le_self _ _) hm
        have hb : bits .and .i64 ((m : Int) / 2 ^ k) 1 = ((m / 2 ^ k % 2 : Nat) : Int) := by
          rw [hsh]
          have := bits_andN (a := m / 2 ^ k) (b := 1) (by omega) (by omega)
          rw [Nat.and_one_is_mod] at this
          exact this
        clear hsh hlo
        cases hbt : bitN m k with
        | true =>
          have e1 : m / 2 ^ k % 2 = 1 := by unfold bitN at hbt; simpa using hbt
          rw [e1] at hb
          rw [hbt, if_pos rfl] at hs
          have HS := Lib.hid hs
          clear hs e1
          go_wp2_with (at_builtin; refine wpList_append_int rfl _ _ rfl G _ _ rfl (own.alloc _) wr.heap.size _ rfl (cell_new _ _ _) (by omega) (by simp; omega) ?_; intro v' w4 hown' hgrow)
          have hgb := grown_below (B.alloc B.size _) (by simp; omega) hgrow (own.alloc _) (show w.heap.size ≤ G by omega)
          have hgl := grown_below ((Below.refl wr.heap.size wr).alloc (Nat.le_refl _) _ |>.mono hz) (by simp; omega) hgrow (own.alloc _) (Nat.le_refl G)
          clear hb own hgrow
          go_wp2_with fail
          go_roundw
          case rel => exact ⟨k + 1, by omega, by go_num, by rw [HS.out]; exact hown', by have := hgl.size; omega, HLT.out.belowB hgl lG, hgb⟩
          case measure => simp [intOf]; omega
        | false =>
          have e1 : m / 2 ^ k % 2 = 0 := by unfold bitN at hbt; simp at hbt; omega
          rw [e1] at hb
          rw [hbt, if_neg (by decide), List.append_nil] at hs
          have HS := Lib.hid hs
          clear hs e1
          go_wp2_with fail
          clear hb
          go_roundw
          case rel => exact ⟨k + 1, by omega, by go_num, by rw [HS.out]; exact own, hz, HLT.out, B⟩
          case measure => simp [intOf]; omega
      · have ek : Hid (k = V) := Lib.hid (by omega)
        have i1 : ¬ (k : Int) < v := by have := HVn.out; omega
        go_wp2_with fail
        go_ret2
        exact ⟨_, by rw [HE.out]; rfl, by rw [HV.out, ← HM.out, ← ek.out]; exact own.rebase sG, B⟩

end Go.Proofs.Ytclahcnkkkgdhaa
