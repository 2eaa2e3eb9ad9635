/-
  The contracts of the model's errors of tickets and draws. By an AI agent.
-/
import Derived.Test.YtgaelpcghljihaaTk8
import Derived.Deep.RegionHeld3
namespace Go.Proofs.Ytgaelpcghljihaa
open Go.RowKit Cv
set_option linter.unusedVariables false
set_option linter.unusedSimpArgs false
set_option maxRecDepth 100000

set_option maxHeartbeats 1000000 in
theorem l08Set_any (v p d h x k : Int) (hv : 1 ≤ v ∧ v ≤ 12) (w : World) :
    Calls Try.prog 115 #[.agg #[.int .i64 v, .int .i64 p, .int .i64 d, .int .i64 h], .int .i64 x, .int .i64 k] w fun e w' => e = .returned (.bool (setB v k x)) ∧ Below w.heap.size w w' := by
  have B0 : Below w.heap.size w (w.alloc (.cells #[.int .i64 v, .int .i64 p, .int .i64 d, .int .i64 h] 26)) := by go_grown
  obtain ⟨c0, c1, c2, c3, l0⟩ := lotAt_new w v p d h 26
  obtain ⟨t1, t2⟩ := tw_bd hv
  by_cases h0 : 0 ≤ x ∧ x ≤ tw v - 1
  case neg =>
    have HQ := Lib.hid (setB_out (v := v) (k := k) (x := x) (fun g => h0 ⟨g.1, by omega⟩))
    have BI := inB_false (n := x) (low := 0) (high := tw v - 1) h0
    obtain ⟨s1, s2⟩ := shl_tw hv
    obtain ⟨s3, s4, s5, s6, s7⟩ := shl_tw2 hv
    obtain ⟨v1, v2⟩ := hv
    clear h0
    go_enter Try.func115, Try.ntmps115
    go_wp2_with (go_at_call 62; refine (l01In_any _ _ _ _).mono ?_; rintro e w' ⟨rfl, rfl⟩)
    go_ret
    exact ⟨ret_bool HQ.out.symm, B0⟩
  obtain ⟨m, rfl⟩ : ∃ m : Nat, x = m := ⟨x.toNat, by omega⟩
  have hm : m < 4096 := by omega
  have hs := setB_in (v := v) (k := k) (x := (m : Int)) ⟨h0.1, by omega⟩
  rw [Int.toNat_natCast] at hs
  have BI := inB_true (n := (m : Int)) (low := 0) (high := tw v - 1) h0.1 h0.2
  clear h0
  by_cases h2 : (pc m : Int) = k
  · have HQ := Lib.hid (hs.trans (decide_eq_true h2))
    subst h2
    clear hs
    obtain ⟨s1, s2⟩ := shl_tw hv
    obtain ⟨s3, s4, s5, s6, s7⟩ := shl_tw2 hv
    obtain ⟨v1, v2⟩ := hv
    go_enter Try.func115, Try.ntmps115
    go_wp2_with (first | (go_at_call 62; refine (l01In_any _ _ _ _).mono ?_; rintro e w' ⟨rfl, rfl⟩) | (go_at_call 149; refine (l08Size_any m hm _).mono ?_; rintro e w2 ⟨rfl, rfl⟩))
    go_ret
    exact ⟨ret_bool HQ.out.symm, B0⟩
  · have HQ := Lib.hid (hs.trans (decide_eq_false h2))
    have hbe : ((pc m : Int) == k) = false := by simpa using h2
    clear hs
    obtain ⟨s1, s2⟩ := shl_tw hv
    obtain ⟨s3, s4, s5, s6, s7⟩ := shl_tw2 hv
    obtain ⟨v1, v2⟩ := hv
    go_enter Try.func115, Try.ntmps115
    go_wp2_with (first | (go_at_call 62; refine (l01In_any _ _ _ _).mono ?_; rintro e w' ⟨rfl, rfl⟩) | (go_at_call 149; refine (l08Size_any m hm _).mono ?_; rintro e w2 ⟨rfl, rfl⟩))
    go_ret
    exact ⟨ret_bool HQ.out.symm, B0⟩

/-- what the model answers for tickets -/
def eTm (v p d h : Int) (T : List Int) : Int := if lotB v p d h = true then (if decide (T.length ≤ 200) && tkB v p T then 0 else 2) else 1
theorem eTm_inv {v p d h : Int} (g : lotB v p d h = false) (T : List Int) : eTm v p d h T = 1 := by unfold eTm; rw [g]; rfl
theorem eTm_bad {v p d h : Int} (g : lotB v p d h = true) {T : List Int} (e : ¬ (T.length ≤ 200 ∧ tkB v p T = true)) : eTm v p d h T = 2 := by
  unfold eTm
  rw [if_pos g, if_neg]
  intro hh
  simp only [Bool.and_eq_true, decide_eq_true_iff] at hh
  exact e hh
theorem eTm_ok {v p d h : Int} (g : lotB v p d h = true) {T : List Int} (h1 : T.length ≤ 200) (h2 : tkB v p T = true) : eTm v p d h T = 0 := by
  unfold eTm
  rw [if_pos g, if_pos]
  simp only [Bool.and_eq_true, decide_eq_true_iff]
  exact ⟨h1, h2⟩
theorem tkB_iff (v k : Int) (T : List Int) : tkB v k T = true ↔ (∀ i, 0 < i → i < T.length → gi T (i - 1) < gi T i) ∧ ∀ j, j < T.length → setB v k (gi T j) = true := by
  unfold tkB
  rw [Bool.and_eq_true, ascB_iff, all_gi]
theorem eTk_eTm (v p d h : Int) (T : List Int) (x : Int) : eTk v p d h T [x] = if eTm v p d h T = 0 then (if setB v d x = true then 0 else 2) else eTm v p d h T := by
  unfold eTk eTm
  by_cases g : lotB v p d h = true
  · rw [if_pos g, if_pos g]
    cases decide (T.length ≤ 200) <;> cases tkB v p T <;> cases hs : setB v d x <;> simp [hs]
  · rw [if_neg g, if_neg g]; rfl

set_option maxHeartbeats 4000000 in
theorem l08Tickets_any (v p d h : Int) (a : Option Addr) (T : List Int) (cap : Nat) (hn : T.length ≤ 4294967296) (w : World) (hT : Ints w a T) :
    Calls Try.prog 57 #[.agg #[.int .i64 v, .int .i64 p, .int .i64 d, .int .i64 h], .slice a T.length cap] w fun e w' => e = .returned (.int .i64 (eTm v p d h T)) ∧ Below w.heap.size w w' := by
  have B0 : Below w.heap.size w (w.alloc (.cells #[.int .i64 v, .int .i64 p, .int .i64 d, .int .i64 h] 26)) := by go_grown
  have l0 := lotAt_new w v p d h 26
  obtain ⟨c0, c1, c2, c3, l1⟩ := lotAt_new w v p d h 26
  have hc := l08Is_any v p d h (w.alloc (.cells #[.int .i64 v, .int .i64 p, .int .i64 d, .int .i64 h] 26))
  cases hb : lotB v p d h with
  | false =>
    have HE := Lib.hid (eTm_inv hb T)
    rw [hb] at hc
    clear hb
    go_enter Try.func57, Try.ntmps57
    go_wp2_with fail
    refine hc.mono ?_
    rintro e w1 ⟨rfl, hb⟩
    go_wp2_with fail
    go_ret
    exact ⟨ret_int HE.out.symm, B0.trans (hb.mono B0.size)⟩
  | true =>
    have hv : 1 ≤ v ∧ v ≤ 12 := by have l := (lot_iff v p d h).1 hb; exact ⟨l.v1, l.v2⟩
    have HV := Lib.hid hv
    have HB := Lib.hid hb
    rw [hb] at hc
    clear hb hv
    go_enter Try.func57, Try.ntmps57
    go_wp2_with fail
    refine hc.mono ?_
    rintro e w1 ⟨rfl, hb⟩
    have B1 := B0.trans (hb.mono B0.size)
    have l2 := l0.below hb
    clear hb c0 c1 c2 c3 l1 l0 B0 hc
    go_wp2_with fail
    go_loopw [5] (fun i wr => ∃ k : Nat, k ≤ T.length ∧ i = .int .i64 k ∧ Hid (∀ j, j < k → setB v p (gi T j) = true) ∧ Hid (∀ j, 0 < j → j < k → gi T (j - 1) < gi T j) ∧ LotAt wr w.heap.size v p d h ∧ Below w.heap.size w wr)
      (fun i _ => T.length - (intOf i).toNat)
    case atStart => exact ⟨0, Nat.zero_le _, rfl, Lib.hid fun j h => by omega, Lib.hid fun j _ h => by omega, l2, B1⟩
    case round =>
      clear l2 B1
      obtain ⟨k, hk, rfl, HK, HA, l, B⟩ := hrel
      obtain ⟨c0, c1, c2, c3, l1⟩ := l
      by_cases hlt : k < T.length
      · obtain ⟨b, o, rfl, hbl, hc⟩ := hT.at hlt
        have hck : wr.cell? ⟨b, o + k, none⟩ = some (.int .i64 (gi T k)) := kept_cell B (hc k hlt) hbl
        have hbr : b < wr.heap.size := lt_of_below B hbl
        have hset := fun W => l08Set_any v p d h (gi T k) p HV.out W
        cases hq : setB v p (gi T k) with
        | true =>
          rw [hq] at hset
          have HQ := Lib.hid hq
          clear hq
          by_cases h0 : k = 0
          · have hd : decide ((0 : Int) < (k : Int)) = false := by simp; omega
            have hdN : decide (0 < k) = false := by simp; omega
            have H0 := Lib.hid h0
            clear hc h0
            go_wp2_with fail
            have f0 := fam_cell c0
            have f1 := fam_cell c1
            have f2 := fam_cell c2
            have f3 := fam_cell c3
            have fk := fam_cell hck
            refine wp_region_fam (by kernel_rfl) (by kernel_rfl) ?_
            repeat (go_big_quiet_step ((go_at_call 115; exact fam_calls (hset _))))
            refine wpQuiet_nil ?_
            rintro _ ⟨x, rfl⟩
            have hb2 := fam_below x
            generalize fam wr x = w2 at hb2 ⊢
            clear f0 f1 f2 f3 fk
            go_wp2
            go_roundw
            case rel =>
              refine ⟨k + 1, by omega, by go_num, Lib.hid fun j hj => ?_, Lib.hid fun j h0 hj => by have := H0.out; omega, (LotAt.mk c0 c1 c2 c3 l1).below hb2, B.trans (hb2.mono B.size)⟩
              by_cases e : j = k
              · subst e; exact HQ.out
              · exact HK.out j (by omega)
            case measure => simp [intOf]; omega
          · obtain ⟨m, rfl⟩ : ∃ m, k = m + 1 := ⟨k - 1, by omega⟩
            have hcm : wr.cell? ⟨b, o + m, none⟩ = some (.int .i64 (gi T m)) := kept_cell B (hc m (by omega)) hbl
            have hd : decide ((0 : Int) < ((m + 1 : Nat) : Int)) = true := by simp; try omega
            have hd2 : decide ((0 : Int) < (m : Int) + 1) = true := by simp; try omega
            have hdN : decide (0 < m + 1) = true := by simp
            have E1 : IntKind.i64.wrap ((m : Int) + 1 - 1) = (m : Int) := by rw [IntWalk.i64_in _ ⟨by omega, by omega⟩]; omega
            have E2 : IntKind.i64.wrap (m : Int) = (m : Int) := IntWalk.i64_in _ ⟨by omega, by omega⟩
            have i1 : (0 : Int) ≤ (m : Int) := by omega
            have i2 : (m : Int) < (T.length : Int) := by omega
            have i3 : (m : Int) + 1 < (T.length : Int) := by omega
            have i4 : (0 : Int) ≤ (m : Int) + 1 := by omega
            clear hc h0
            by_cases ha : gi T m < gi T (m + 1)
            · have hda : decide (gi T (m + 1) ≤ gi T m) = false := by simpa using ha
              have HD := Lib.hid ha
              clear ha
              go_wp2_with fail
              go_region_held3 (fun w' => w'.cell? ⟨b, o + (m + 1), none⟩ = some (.int .i64 (gi T (m + 1))) ∧ w'.cell? ⟨w.heap.size, 0, none⟩ = some (.int .i64 v) ∧ w'.cell? ⟨w.heap.size, 1, none⟩ = some (.int .i64 p) ∧ w'.cell? ⟨w.heap.size, 2, none⟩ = some (.int .i64 d) ∧ w'.cell? ⟨w.heap.size, 3, none⟩ = some (.int .i64 h) ∧ w'.cell? ⟨b, o + m, none⟩ = some (.int .i64 (gi T m))) (first | exact ⟨hck, c0, c1, c2, c3, hcm⟩ | exact ⟨kept_cell hb2 hck hbr, kept_cell hb2 c0 l1, kept_cell hb2 c1 l1, kept_cell hb2 c2 l1, kept_cell hb2 c3 l1, kept_cell hb2 hcm hbr⟩) (first | (go_at_call 115; refine (hset _).mono ?_; rintro e w2 ⟨rfl, hb2'⟩; have hb2 : Below wr.heap.size wr w2 := (Below.refl wr.heap.size wr).drew.trans hb2'))
              clear E1 E2
              go_wp2
              go_roundw
              case rel =>
                refine ⟨m + 1 + 1, by omega, by go_num, Lib.hid fun j hj => ?_, Lib.hid fun j h0 hj => ?_, (LotAt.mk c0 c1 c2 c3 l1).below hb2, B.trans (hb2.mono B.size)⟩
                · by_cases e : j = m + 1
                  · subst e; exact HQ.out
                  · exact HK.out j (by omega)
                · by_cases e : j = m + 1
                  · subst e; exact HD.out
                  · exact HA.out j h0 (by omega)
              case measure => simp [intOf]; omega
            · have hda : decide (gi T (m + 1) ≤ gi T m) = true := by simpa using ha
              have HE := Lib.hid (eTm_bad HB.out (T := T) fun g => ha (((tkB_iff v p T).1 g.2).1 (m + 1) (by omega) hlt))
              clear ha
              go_wp2_with fail
              go_region_held3 (fun w' => w'.cell? ⟨b, o + (m + 1), none⟩ = some (.int .i64 (gi T (m + 1))) ∧ w'.cell? ⟨w.heap.size, 0, none⟩ = some (.int .i64 v) ∧ w'.cell? ⟨w.heap.size, 1, none⟩ = some (.int .i64 p) ∧ w'.cell? ⟨w.heap.size, 2, none⟩ = some (.int .i64 d) ∧ w'.cell? ⟨w.heap.size, 3, none⟩ = some (.int .i64 h) ∧ w'.cell? ⟨b, o + m, none⟩ = some (.int .i64 (gi T m))) (first | exact ⟨hck, c0, c1, c2, c3, hcm⟩ | exact ⟨kept_cell hb2 hck hbr, kept_cell hb2 c0 l1, kept_cell hb2 c1 l1, kept_cell hb2 c2 l1, kept_cell hb2 c3 l1, kept_cell hb2 hcm hbr⟩) (first | (go_at_call 115; refine (hset _).mono ?_; rintro e w2 ⟨rfl, hb2'⟩; have hb2 : Below wr.heap.size wr w2 := (Below.refl wr.heap.size wr).drew.trans hb2'))
              clear E1 E2
              go_wp2
              go_ret
              exact ⟨ret_int HE.out.symm, B.trans (hb2.mono B.size)⟩
        | false =>
          rw [hq] at hset
          have HE := Lib.hid (eTm_bad HB.out (T := T) fun g => by have := ((tkB_iff v p T).1 g.2).2 k hlt; rw [hq] at this; cases this)
          clear hq hc
          go_wp2_with fail
          have f0 := fam_cell c0
          have f1 := fam_cell c1
          have f2 := fam_cell c2
          have f3 := fam_cell c3
          have fk := fam_cell hck
          refine wp_region_fam (by kernel_rfl) (by kernel_rfl) ?_
          repeat (go_big_quiet_step ((go_at_call 115; exact fam_calls (hset _))))
          refine wpQuiet_nil ?_
          rintro _ ⟨x, rfl⟩
          have hb2 := fam_below x
          generalize fam wr x = w2 at hb2 ⊢
          clear f0 f1 f2 f3 fk
          go_wp2
          go_ret
          exact ⟨ret_int HE.out.symm, B.trans (hb2.mono B.size)⟩
      · have hall : tkB v p T = true := (tkB_iff v p T).2 ⟨fun i h0 hi => HA.out i h0 (by omega), fun i hi => HK.out i (by omega)⟩
        by_cases h2 : T.length ≤ 200
        · have HE := Lib.hid (eTm_ok HB.out h2 hall)
          have i1 : ¬ (200 : Int) < (T.length : Int) := by omega
          clear hall
          go_wp2_with fail
          go_ret
          exact ⟨ret_int HE.out.symm, B⟩
        · have HE := Lib.hid (eTm_bad HB.out (T := T) fun g => h2 g.1)
          have i1 : (200 : Int) < (T.length : Int) := by omega
          clear hall
          go_wp2_with fail
          go_ret
          exact ⟨ret_int HE.out.symm, B⟩

end Go.Proofs.Ytgaelpcghljihaa
