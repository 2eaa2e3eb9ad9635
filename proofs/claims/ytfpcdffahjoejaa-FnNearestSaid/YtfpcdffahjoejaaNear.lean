/-
  The contract of the model's nearest words. By an AI agent.
-/
import Derived.Test.YtfpcdffahjoejaaFar3
import Derived.Test.YtfpcdffahjoejaaAppend
namespace Go.Proofs.Ytfpcdffahjoejaa
open Go.RowKit Cv
set_option linter.unusedVariables false
set_option linter.unusedSimpArgs false
set_option maxRecDepth 100000

theorem own_cut0 {w : World} {base : Nat} {ao : Option Addr} {n cap : Nat} {L : List Int} (h : OwnInts w base (.slice ao n cap) L) : OwnInts w base (.slice ao 0 cap) [] := by
  refine ⟨rfl, ?_⟩
  rcases h.2 with ⟨hv, hn⟩ | ⟨g, cap', cur, hv, hg, hh, hle, hm, hs, ht⟩
  · simp only [Value.slice.injEq] at hv
    obtain ⟨rfl, rfl, rfl⟩ := hv
    exact .inl ⟨rfl, rfl⟩
  · simp only [Value.slice.injEq] at hv
    obtain ⟨rfl, rfl, rfl⟩ := hv
    exact .inr ⟨g, cap, cur, rfl, hg, hh, Nat.zero_le _, hm, hs, by simp⟩

set_option maxHeartbeats 2000000 in
theorem spec_NearestWords (ao : Option Addr) (S : List Int) (cap : Nat) (hn : S.length ≤ 4294967296) (ac : Option Addr) (C : List Int) (capc : Nat) (hnc : C.length ≤ 4294967296) (x : Int) (hx : -9223372036854775808 ≤ x ∧ x ≤ 9223372036854775807) (w : World) (hS : Ints w ao S) (hC : Ints w ac C) :
    Calls Try.prog 36 #[.agg #[.slice ao S.length cap], .slice ac C.length capc, .int .i64 x] w fun e w' => ∃ v, e = .returned (.tuple #[v, .int .i64 (eNear S C x)]) ∧ OwnInts w' w.heap.size v (vNear S C x) ∧ Below w.heap.size w w' := by
  have B0 : Below w.heap.size w (w.alloc (.cells #[.slice ao S.length cap] 26)) := by go_grown
  by_cases hz : eCode S C = 0
  · obtain ⟨hSp, hc1, hc2⟩ := eCode_zero hz
    obtain ⟨N1, N2⟩ := nW_bd hSp
    have hlen := code_len hSp hc1 hc2
    have HSp := Lib.hid hSp
    have HC1 : Hid (∀ i, i < C.length → 0 ≤ gi C i ∧ gi C i ≤ 9223372036854775807) := Lib.hid fun i h => by have := hc1 i h; omega
    clear hc1 hc2 hSp
    have hzb : (eCode S C == 0) = true := by simp [hz]
    have hhi := HSp.out.hi
    by_cases hxr : 0 ≤ x ∧ x < nW S
    · obtain ⟨x1, x2⟩ := hxr
      have BI := inB_true (n := x) (low := 0) (high := nW S - 1) x1 (by omega)
      have HZ := Lib.hid hz
      have HE := Lib.hid (eNear_ok hz ⟨x1, x2⟩)
      have HV : Hid (vNear S C x = nearOut S C x (toW S C x) C.length) := Lib.hid (by unfold vNear; rw [if_pos HE.out])
      have hzn : (eCode S C != 0) = false := by simp [hz]
      clear hz
      go_enter Try.func36, Try.ntmps36
      go_wp2_with fail
      refine (l01Given_any ao S cap hn ac C capc hnc _ (hS.below B0) (hC.below B0)).mono ?_
      rintro e w1 ⟨rfl, hb⟩
      have c1 := kept_cell hb (cell_new w (.slice ao S.length cap) 26) (lt_alloc _ _)
      have l1 := lt_of_below hb (lt_alloc w (.cells #[.slice ao S.length cap] 26))
      have B1 : Below w.heap.size w w1 := B0.trans (hb.mono B0.size)
      clear hb B0
      go_wp2_with (first | (go_at_call 62; refine (l01N_sp ao S cap _ HSp.out (hS.below B1)).mono ?_; rintro e w2 ⟨rfl, hb2⟩; have c2 := kept_cell hb2 c1 l1; have l2 := lt_of_below hb2 l1; have B2 := B1.trans (hb2.mono B1.size); clear c1 l1) | (go_at_call 69; refine (l01In_any _ _ _ _).mono ?_; rintro e w' ⟨rfl, rfl⟩) | fail)
      go_wp2_with fail
      go_loopw [9, 10] (fun v i wr => ∃ k : Nat, k ≤ C.length ∧ i = .int .i64 k ∧ OwnInts wr (w.heap.size + 1) v (nearOut S C x (toW S C x) k) ∧ wr.cell? ⟨w.heap.size, 0, none⟩ = some (.slice ao S.length cap) ∧ w.heap.size < wr.heap.size ∧ Below w.heap.size w wr) (fun _ i _ => C.length - (intOf i).toNat)
      case atStart => exact ⟨0, Nat.zero_le _, rfl, own_empty w2 _ (by omega) rfl, kept_cell ((Below.refl w2.heap.size w2).alloc (Nat.le_refl _) _) c2 l2, by simp; omega, B2.alloc B2.size _⟩
      case round =>
        clear c2 l2 B2
        obtain ⟨k, hk, rfl, own, c, l, B⟩ := hrel
      
        by_cases hlt : k < C.length
        · obtain ⟨b, o, rfl, hbl, hc⟩ := hC.at hlt
          have hck : wr.cell? ⟨b, o + k, none⟩ = some (.int .i64 (gi C k)) := kept_cell B (hc k hlt) hbl
          obtain ⟨z1, z2⟩ := HC1.out k hlt
          have HCm := Lib.hid hC
          clear hc
          by_cases hd : dist S (gi C k) x = toW S C x
          · have hdb : (dist S (gi C k) x == toW S C x) = true := by simp [hd]
            have H2 : Hid (nearOut S C x (toW S C x) (k + 1) = nearOut S C x (toW S C x) k ++ [gi C k]) := Lib.hid (by rw [nearOut, if_pos hd])
            clear hd
            go_wp2_with fail
            have fc := fam_cell c
            have fk := fam_cell hck
            refine wp_region_fam (by kernel_rfl) (by kernel_rfl) ?_
            repeat (go_big_quiet_step (first | (go_at_call 49; exact fam_calls (l01Distance_any ao S cap hhi HSp.out.bd (gi C k) x z1 z2 x1 (by omega) _ (hS.below (B.trans ((fam_below _).mono B.size))))) | (go_at_call 75; exact fam_calls (l02To_any ao S cap HSp.out (some ⟨b, o, none⟩) C capc (by omega) (by omega) HC1.out x x1 (by omega) _ (hS.below (B.trans ((fam_below _).mono B.size))) (HCm.out.below (B.trans ((fam_below _).mono B.size)))))))
            refine wpQuiet_nil ?_
            rintro _ ⟨y, rfl⟩
            have hb2 := fam_below y
            generalize fam wr y = w5 at hb2 ⊢
            replace c := kept_cell hb2 c l
            replace hck := kept_cell hb2 hck (lt_of_below B hbl)
            replace l := lt_of_below hb2 l
            replace own := own.below hb2
            replace B := B.trans (hb2.mono B.size)
            clear fc fk hb2
            go_wp2_with (at_builtin; refine wpList_append_int rfl _ _ rfl (w.heap.size + 1) _ _ rfl (own.alloc _) w5.heap.size _ rfl (cell_new _ _ _) (by have := nearOut_len S C x (toW S C x) k; omega) (by simp; omega) ?_; intro v' w4 hown' hgrow)
            have hgb := grown_below (B.alloc B.size _) (by simp; omega) hgrow (own.alloc _) (Nat.le_succ _)
            have hc4 := hgrow.cell (a := ⟨w.heap.size, 0, none⟩) (kept_cell ((Below.refl w5.heap.size w5).alloc (Nat.le_refl _) _) c l) (fun e => by have := World.ownsRow.lt own _ e.symm; simp at this; omega)
            have hl4 : w.heap.size < w4.heap.size := by have := hgrow.size; simp at this; omega
            clear own hgrow
            go_wp2_with fail
            go_roundw
            case rel => exact ⟨k + 1, by omega, by go_num, by rw [H2.out]; exact hown', hc4, hl4, hgb⟩
            case measure => simp [intOf]; omega
          · have hdb : (dist S (gi C k) x == toW S C x) = false := by simpa using hd
            have H2 : Hid (nearOut S C x (toW S C x) (k + 1) = nearOut S C x (toW S C x) k) := Lib.hid (by rw [nearOut, if_neg hd, List.append_nil])
            clear hd
            go_wp2_with fail
            have fc := fam_cell c
            have fk := fam_cell hck
            refine wp_region_fam (by kernel_rfl) (by kernel_rfl) ?_
            repeat (go_big_quiet_step (first | (go_at_call 49; exact fam_calls (l01Distance_any ao S cap hhi HSp.out.bd (gi C k) x z1 z2 x1 (by omega) _ (hS.below (B.trans ((fam_below _).mono B.size))))) | (go_at_call 75; exact fam_calls (l02To_any ao S cap HSp.out (some ⟨b, o, none⟩) C capc (by omega) (by omega) HC1.out x x1 (by omega) _ (hS.below (B.trans ((fam_below _).mono B.size))) (HCm.out.below (B.trans ((fam_below _).mono B.size)))))))
            refine wpQuiet_nil ?_
            rintro _ ⟨y, rfl⟩
            have hb2 := fam_below y
            generalize fam wr y = w5 at hb2 ⊢
            clear fc fk hck
            go_wp2
            go_roundw
            case rel => exact ⟨k + 1, by omega, by go_num, by rw [H2.out]; exact own.below hb2, kept_cell hb2 c l, lt_of_below hb2 l, B.trans (hb2.mono B.size)⟩
            case measure => simp [intOf]; omega
        · have ek : Hid (k = C.length) := Lib.hid (by omega)
          go_wp2
          go_ret2
          exact ⟨u9, by rw [HE.out]; try rfl, by rw [HV.out, ← ek.out]; exact own.rebase (by omega), B⟩
    · have BI := inB_false (n := x) (low := 0) (high := nW S - 1) (by omega)
      have HE := Lib.hid (eNear_out hz hxr)
      have HV : Hid (vNear S C x = []) := Lib.hid (by unfold vNear; rw [HE.out]; rfl)
      clear hz hxr
      go_enter Try.func36, Try.ntmps36
      go_wp2_with fail
      refine (l01Given_any ao S cap hn ac C capc hnc _ (hS.below B0) (hC.below B0)).mono ?_
      rintro e w1 ⟨rfl, hb⟩
      have c1 := kept_cell hb (cell_new w (.slice ao S.length cap) 26) (lt_alloc _ _)
      have l1 := lt_of_below hb (lt_alloc w (.cells #[.slice ao S.length cap] 26))
      have B1 : Below w.heap.size w w1 := B0.trans (hb.mono B0.size)
      clear hb B0
      go_wp2_with (first | (go_at_call 62; refine (l01N_sp ao S cap _ HSp.out (hS.below B1)).mono ?_; rintro e w2 ⟨rfl, hb2⟩; have c2 := kept_cell hb2 c1 l1; have l2 := lt_of_below hb2 l1; have B2 := B1.trans (hb2.mono B1.size); clear c1 l1) | (go_at_call 69; refine (l01In_any _ _ _ _).mono ?_; rintro e w' ⟨rfl, rfl⟩) | fail)
      go_wp2_with fail
      go_ret2
      exact ⟨_, by rw [HE.out]; try rfl, by rw [HV.out]; exact World.ownsRow_nil _ _ _ _, B2⟩
  · have hzb : (eCode S C == 0) = false := by simpa using hz
    have hzn : (eCode S C != 0) = true := by simpa using hz
    have HE := Lib.hid (eNear_bad (x := x) hz)
    have HV : Hid (vNear S C x = []) := Lib.hid (by unfold vNear; rw [HE.out, if_neg hz])
    clear hz
    go_enter Try.func36, Try.ntmps36
    go_wp2_with fail
    refine (l01Given_any ao S cap hn ac C capc hnc _ (hS.below B0) (hC.below B0)).mono ?_
    rintro e w1 ⟨rfl, hb⟩
    have c1 := kept_cell hb (cell_new w (.slice ao S.length cap) 26) (lt_alloc _ _)
    have l1 := lt_of_below hb (lt_alloc w (.cells #[.slice ao S.length cap] 26))
    have B1 : Below w.heap.size w w1 := B0.trans (hb.mono B0.size)
    clear hb B0
    go_wp2_with fail
    go_ret2
    exact ⟨_, by rw [HE.out]; try rfl, by rw [HV.out]; exact World.ownsRow_nil _ _ _ _, B1⟩

end Go.Proofs.Ytfpcdffahjoejaa
