/-
  The contracts of the program's nearest words and of how often it tells a word to be covered. By an AI agent.
-/
import Derived.Test.YtfpcdffahjoejaaFar2
import Derived.Test.YtfpcdffahjoejaaNear
import Derived.Test.YtfpcdffahjoejaaAppendAt
namespace Go.Proofs.Ytfpcdffahjoejaa
open Go.RowKit Cv
set_option linter.unusedVariables false
set_option linter.unusedSimpArgs false
set_option maxRecDepth 100000

set_option maxHeartbeats 2000000 in
theorem impl_NearestWords (ao : Option Addr) (S : List Int) (cap : Nat) (hn : S.length ≤ 4294967296) (ac : Option Addr) (C : List Int) (capc : Nat) (hnc : C.length ≤ 4294967296) (x : Int) (hx : -9223372036854775808 ≤ x ∧ x ≤ 9223372036854775807) (w : World) (hS : Ints w ao S) (hC : Ints w ac C) :
    Calls Try.prog 35 #[.agg #[.slice ao S.length cap], .slice ac C.length capc, .int .i64 x] w fun e w' => ∃ v, e = .returned (.tuple #[v, .int .i64 (eNear S C x)]) ∧ OwnInts w' w.heap.size v (vNear S C x) ∧ Below w.heap.size w w' := by
  have B1 : Below w.heap.size w ((w.alloc (.cells #[.slice ao S.length cap] 26)).alloc (.cells #[.int .i64 x] 2)) := by go_grown
  by_cases he : eNear S C x = 0
  · obtain ⟨hz, x1, x2⟩ := eNear_zero he
    have HE := Lib.hid he
    have HV : Hid (vNear S C x = nearOut S C x (toW S C x) C.length) := Lib.hid (by unfold vNear; rw [if_pos he])
    have hzn : (eCW S C [x] != 0) = false := by have : eCW S C [x] = 0 := he; simp [this]
    obtain ⟨hSp, hc1, hc2⟩ := eCode_zero hz
    obtain ⟨N1, N2⟩ := nW_bd hSp
    have hlen := code_len hSp hc1 hc2
    have HSp := Lib.hid hSp
    have HC1 : Hid (∀ i, i < C.length → 0 ≤ gi C i ∧ gi C i ≤ 9223372036854775807) := Lib.hid fun i h => by have := hc1 i h; omega
    clear hc1 hc2 hSp
    have hhi := HSp.out.hi
    clear hz he
    go_enter Try.func35, Try.ntmps35
    go_wp2_with fail
    refine (codeAndWordsError_n ao S cap hn ac C capc hnc _ [x] 1 _ rfl (by omega) _ (hS.below B1) (hC.below B1) (ints_new1 _ x _ (by simp))).mono ?_
    rintro e w1 ⟨rfl, hb⟩
    have lw1 : w.heap.size < w1.heap.size := lt_of_below hb (by simp; try omega)
    have c1 := kept_cell hb (b := w.heap.size) (o := 0) (v := .slice ao S.length cap) (by simp) (by simp; try omega)
    have B2 : Below w.heap.size w w1 := B1.trans (hb.mono B1.size)
    clear hb B1
    have s1 := B2.size
    have c2 := kept_cell ((Below.refl w1.heap.size w1).alloc (Nat.le_refl _) (.cells #[] 2)) c1 lw1
    go_wp2_with fail
    refine (codeDistances_any ao S cap HSp.out ac C capc (by omega) HC1.out x x1 (by omega) _ (hS.below (B2.alloc B2.size _)) (hC.below (B2.alloc B2.size _))).mono ?_
    rintro e w2 ⟨q, rfl, oq, hb2⟩
    have own0 := (own_empty w1 (w.heap.size) s1 rfl).below hb2
    have hq1 := oq.base_le.1
    rw [World.size_alloc] at hq1 oq
    replace hb2 := Below.trans ((Below.refl w1.heap.size w1).alloc (Nat.le_refl _) (.cells #[] 2)) (hb2.mono (by simp))
    have B3 := B2.trans (hb2.mono B2.size)
    have HL := Lib.hid (dFrom_len S C x)
    clear hb2 B2 c1 c2
    go_wp2_with fail
    go_loopw [9, 10, 27] (fun v t i wr => ∃ (k g cv : Nat), k ≤ C.length ∧ i = .int .i64 k ∧ v = .slice (some ⟨g, 0, none⟩) (nearOut S C x (min8 (dAt S C x) k) k).length cv ∧ g ≠ q ∧ OwnInts wr w.heap.size (.slice (some ⟨g, 0, none⟩) (nearOut S C x (min8 (dAt S C x) k) k).length cv) (nearOut S C x (min8 (dAt S C x) k) k) ∧ t = .int .i64 (min8 (dAt S C x) k) ∧ OwnInts wr (w1.heap.size + 1) (.slice (some ⟨q, 0, none⟩) C.length C.length) (dFrom S C x) ∧ Below w.heap.size w wr) (fun _ _ i _ => C.length - (intOf i).toNat)
    case atStart => exact ⟨0, w1.heap.size, 0, Nat.zero_le _, rfl, rfl, by omega, own0, rfl, oq, B3⟩
    case round =>
      clear own0 oq B3
      obtain ⟨k, g, cv, hk, rfl, rfl, hne, own, rfl, oq, B⟩ := hrel
      by_cases hlt : k < C.length
      · obtain ⟨b, o, rfl, hbl, hc⟩ := hC.at hlt
        have hkC : wr.cell? ⟨b, o + k, none⟩ = some (.int .i64 (gi C k)) := kept_cell B (hc k hlt) hbl
        have hck : wr.cell? ⟨q, k, none⟩ = some (.int .i64 (dAt S C x k)) := by rw [oq.cell (k := k) (by rw [HL.out]; exact hlt), gi_dFrom _ _ _ _ hlt]; rfl
        have hgl := own.base_le
        have hql := oq.base_le.2
        have hnl := nearOut_len S C x (min8 (dAt S C x) k) k
        clear hc
        by_cases h1 : dAt S C x k < min8 (dAt S C x) k
        · have HN := Lib.hid (near_lt S C x k h1)
          have HM := Lib.hid (min8_yes (dAt S C x) k h1)
          have own' := own_cut0 own
          go_wp2_with (at_builtin; refine wpList_append_int_at rfl _ _ rfl w.heap.size _ [] rfl (own'.alloc _) wr.heap.size _ rfl (cell_new _ _ _) (by simp) (by simp; omega) ?_; intro v' w4 hown' hgrow hat)
          obtain ⟨g', cap', rfl, hb'⟩ := own_some hown' (by simp)
          have B4 : Below w.heap.size w w4 := (B.alloc B.size _).grown hgrow (by simp; omega) (fun z hz => by have hz' : some g = some z := hz; injection hz' with hz'; omega)
          have oq4 : OwnInts w4 (w1.heap.size + 1) (.slice (some ⟨q, 0, none⟩) C.length C.length) (dFrom S C x) := (oq.alloc _).kept hgrow (.inr (show some q ≠ some g from fun e => by injection e with e; omega))
          have hne' : g' ≠ q := by
                rcases hat with h | h
                · rw [hb'] at h; have h' : some g' = some g := h; injection h' with h'; omega
                · rw [hb'] at h; injection h with h; simp at h; omega
          rw [List.nil_append, ← HN.out] at hown'
          have HLn : Hid ((nearOut S C x (min8 (dAt S C x) (k + 1)) (k + 1)).length = 1) := Lib.hid (by rw [HN.out]; rfl)
          clear own own' oq hgrow hat hb' hkC hck hnl
          go_wp2
          go_roundw
          case rel => exact ⟨k + 1, g', cap', by omega, by go_num, by rw [HLn.out]; rfl, hne', hown', by rw [HM.out], oq4, B4⟩
          case measure => simp [intOf]; omega
        · by_cases h2 : dAt S C x k = min8 (dAt S C x) k
          · have hqb : (dAt S C x k == min8 (dAt S C x) k) = true := by simp [h2]
            have HN := Lib.hid (near_eq S C x k h2)
            have HM := Lib.hid (min8_no (dAt S C x) k h1)
            clear h2
            go_wp2_with (at_builtin; refine wpList_append_int_at rfl _ _ rfl w.heap.size _ _ rfl (own.alloc _) wr.heap.size _ rfl (cell_new _ _ _) (by omega) (by simp; omega) ?_; intro v' w4 hown' hgrow hat)
            obtain ⟨g', cap', rfl, hb'⟩ := own_some hown' (by simp)
            have B4 : Below w.heap.size w w4 := (B.alloc B.size _).grown hgrow (by simp; omega) (fun z hz => by have hz' : some g = some z := hz; injection hz' with hz'; omega)
            have oq4 : OwnInts w4 (w1.heap.size + 1) (.slice (some ⟨q, 0, none⟩) C.length C.length) (dFrom S C x) := (oq.alloc _).kept hgrow (.inr (show some q ≠ some g from fun e => by injection e with e; omega))
            have hne' : g' ≠ q := by
                rcases hat with h | h
                · rw [hb'] at h; have h' : some g' = some g := h; injection h' with h'; omega
                · rw [hb'] at h; injection h with h; simp at h; omega
            rw [← HN.out] at hown'
            have HLn : Hid ((nearOut S C x (min8 (dAt S C x) k) k ++ [gi C k]).length = (nearOut S C x (min8 (dAt S C x) (k + 1)) (k + 1)).length) := Lib.hid (by rw [HN.out])
            clear own oq hgrow hat hb' hkC hck hnl
            go_wp2
            go_roundw
            case rel => exact ⟨k + 1, g', cap', by omega, by go_num, by rw [← HLn.out], hne', hown', by rw [HM.out], oq4, B4⟩
            case measure => simp [intOf]; omega
          · have hqb : (dAt S C x k == min8 (dAt S C x) k) = false := by simpa using h2
            have HN := Lib.hid (near_gt S C x k (by omega))
            have HM := Lib.hid (min8_no (dAt S C x) k h1)
            clear h2
            go_wp2
            go_roundw
            case rel => exact ⟨k + 1, g, cv, by omega, by go_num, by rw [HN.out], hne, by rw [HN.out]; exact own, by rw [HM.out], oq, B⟩
            case measure => simp [intOf]; omega
      · have ek : Hid (k = C.length) := Lib.hid (by omega)
        have HN := Lib.hid (near_end S C x hhi)
        go_wp2
        go_ret2
        refine ⟨_, by rw [HE.out]; try rfl, ?_, B⟩
        rw [HV.out, ← HN.out, ← ek.out]; exact own
  · have HE : Hid (eNear S C x = eCW S C [x]) := Lib.hid rfl
    have HV : Hid (vNear S C x = []) := Lib.hid (by unfold vNear; rw [if_neg he])
    have hzn : (eCW S C [x] != 0) = true := by have : eCW S C [x] ≠ 0 := he; simpa using this
    clear he
    go_enter Try.func35, Try.ntmps35
    go_wp2_with fail
    refine (codeAndWordsError_n ao S cap hn ac C capc hnc _ [x] 1 _ rfl (by omega) _ (hS.below B1) (hC.below B1) (ints_new1 _ x _ (by simp))).mono ?_
    rintro e w1 ⟨rfl, hb⟩
    go_wp2_with fail
    go_ret2
    exact ⟨_, by rw [HE.out]; try rfl, by rw [HV.out]; exact World.ownsRow_nil _ _ _ _, B1.trans (hb.mono B1.size)⟩

end Go.Proofs.Ytfpcdffahjoejaa
