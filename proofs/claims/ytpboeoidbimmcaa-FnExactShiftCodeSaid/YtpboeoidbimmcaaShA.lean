/-
  The contracts of ShiftCode. By an AI agent.
-/
import Derived.Test.YtpboeoidbimmcaaSort
import Derived.Test.YtpboeoidbimmcaaDel
import Derived.Test.YtpboeoidbimmcaaPut
import Derived.Test.YtpboeoidbimmcaaErr
import Derived.Test.YtpboeoidbimmcaaSums
import Derived.Test.YtpboeoidbimmcaaSums2
namespace Go.Proofs.Ytpboeoidbimmcaa
open Go.RowKit Cv
set_option linter.unusedVariables false
set_option linter.unusedSimpArgs false
set_option maxRecDepth 100000

theorem shifted_any (ao : Option Addr) (S : List Int) (cap : Nat) (hSp : Sp S) (ac : Addr) (C : List Int) (capc : Nat) (hl : C.length ≤ 1024) (hC : ∀ i, i < C.length → 0 ≤ gi C i ∧ gi C i ≤ 9223372036854775807) (x : Int) (hx : 0 ≤ x ∧ x ≤ 9223372036854775807) (w : World) (hS : Ints w ao S) (hCI : Ints w (some ac) C) :
    Calls Try.prog 91 #[.agg #[.slice ao S.length cap], .slice (some ac) C.length capc, .int .i64 x] w fun e w' => ∃ v, e = .returned v ∧ OwnInts w' w.heap.size v (putTo [] (fun i => sumW S (gi C i) x) C.length) ∧ Below w.heap.size w w' := by
  go_enter Try.func91, Try.ntmps91
  go_wp2_with fail
  have HC := Lib.hid hC
  have B0 : Below w.heap.size w (w.alloc (.cells #[.slice ao S.length cap] 26)) := by go_grown
  clear hC
  go_loopw [7, 12] (fun vo i wr => ∃ (k g' c' : Nat), k ≤ C.length ∧ i = .int .i64 k ∧ vo = .slice (some ⟨g', 0, none⟩) (putTo [] (fun i => sumW S (gi C i) x) k).length c' ∧ OwnInts wr (w.heap.size + 1) (.slice (some ⟨g', 0, none⟩) (putTo [] (fun i => sumW S (gi C i) x) k).length c') (putTo [] (fun i => sumW S (gi C i) x) k) ∧ wr.cell? ⟨w.heap.size, 0, none⟩ = some (.slice ao S.length cap) ∧ w.heap.size < wr.heap.size ∧ Below w.heap.size w wr) (fun _ i _ => C.length - (intOf i).toNat)
  case atStart => exact ⟨0, w.heap.size + 1, 0, Nat.zero_le _, rfl, rfl, own_empty _ _ (by simp) (by simp), kept_cell ((Below.refl _ (w.alloc (.cells #[.slice ao S.length cap] 26))).alloc (Nat.le_refl _) _) (cell_new _ _ _) (lt_alloc _ _), by simp; omega, by go_grown⟩
  case round =>
    obtain ⟨k, g1, c1, hk, rfl, rfl, own, c, l, B⟩ := hrel
    have hpl := putTo_len [] (fun i => sumW S (gi C i) x) k
    simp only [List.length_nil, Nat.zero_add] at hpl
    by_cases hlt : k < C.length
    · obtain ⟨b, o, he, hbl, hc⟩ := hCI.at hlt
      obtain rfl : ac = ⟨b, o, none⟩ := by simpa using he
      have hck := kept_cell B (hc k hlt) hbl
      obtain ⟨u1, u2⟩ := HC.out k hlt
      have hs := B.size
      clear hc he
      obtain ⟨P, hP⟩ : ∃ P, P = (putTo [] (fun i => sumW S (gi C i) x) k).length := ⟨_, rfl⟩
      rw [← hP] at own ⊢
      have HP := Lib.hid hP
      have hP2 : P ≤ 1024 := by omega
      clear hP
      go_wp2_with fail
      go_region_held3 (fun w' => w'.cell? ⟨w.heap.size, 0, none⟩ = some (.slice ao S.length cap) ∧ w'.cell? ⟨b, o + k, none⟩ = some (.int .i64 (gi C k))) (first | exact ⟨c, hck⟩ | exact ⟨k2, m2⟩ | exact ⟨k3, m3⟩) (first | (go_at_call 114; refine (l01Sum_any ao S cap hSp (gi C k) x u1 u2 hx.1 hx.2 _ (hS.below B.drew)).mono ?_; rintro e w2 ⟨rfl, hb2'⟩; have hb2 : Below wr.heap.size wr w2 := (Below.refl _ wr).drew.trans hb2'; have k2 := kept_cell hb2 c l; have l2 := lt_of_below hb2 l; have m2 := kept_cell hb2 hck (Nat.lt_of_lt_of_le hbl hs); have n2 : b < w2.heap.size := Nat.lt_of_lt_of_le hbl (Nat.le_trans hs hb2.size); have own1 := own.below hb2; have B2 := B.trans (hb2.mono hs); have hp := l01Put_any (w.heap.size + 1) g1 c1 (putTo [] (fun i => sumW S (gi C i) x) k) (sumW S (gi C k) x) w2 (by rw [← HP.out]; omega) (by rw [← HP.out]; exact own1); rw [← HP.out] at hp) | (go_at_call 79; refine hp.mono ?_; rintro e w3 ⟨g2, c2, rfl, own2, hb3⟩; have k3 := kept_cell hb3 k2 l2; have l3 := lt_of_below hb3 l2; have m3 := kept_cell hb3 m2 n2; have B3 := B2.trans (hb3.mono B2.size)))
      have e1 : Hid (putL (putTo [] (fun i => sumW S (gi C i) x) k) (sumW S (gi C k) x) = putTo [] (fun i => sumW S (gi C i) x) (k + 1)) := Lib.hid rfl
      rw [e1.out] at own2 ⊢
      clear own hp hck m2 m3 k2
      obtain ⟨P2, hP2⟩ : ∃ P, P = (putTo [] (fun i => sumW S (gi C i) x) (k + 1)).length := ⟨_, rfl⟩
      rw [← hP2] at own2 ⊢
      go_wp2_with fail
      go_roundw
      case rel => exact ⟨k + 1, g2, c2, by omega, by go_num, by rw [← hP2], by rw [← hP2]; exact own2, k3, l3, B3⟩
      case measure => simp [intOf]; omega
    · have ek : Hid (k = C.length) := Lib.hid (by omega)
      obtain ⟨P, hP⟩ : ∃ P, P = (putTo [] (fun i => sumW S (gi C i) x) k).length := ⟨_, rfl⟩
      rw [← hP] at own ⊢
      go_wp2_with fail
      go_ret
      exact ⟨_, rfl, by rw [← ek.out]; exact own.rebase (by omega), B⟩


set_option maxHeartbeats 1000000 in
theorem spec_ShiftCode (ao : Option Addr) (S : List Int) (cap : Nat) (hn : S.length ≤ 4294967296) (ac : Addr) (C : List Int) (capc : Nat) (hnc : C.length ≤ 4294967296) (x : Int) (hx : -9223372036854775808 ≤ x ∧ x ≤ 9223372036854775807) (w : World) (hS : Ints w ao S) (hC : Ints w (some ac) C) :
    Calls Try.prog 40 #[.agg #[.slice ao S.length cap], .slice (some ac) C.length capc, .int .i64 x] w fun e w' => ∃ v, e = .returned (.tuple #[v, .int .i64 (eShift S C x)]) ∧ OwnInts w' w.heap.size v (vShift S C x) ∧ Below w.heap.size w w' := by
  have c0 := cell_new w (.slice ao S.length cap) 26
  have l0 := lt_alloc w (.cells #[.slice ao S.length cap] 26)
  have B0 : Below w.heap.size w (w.alloc (.cells #[.slice ao S.length cap] 26)) := by go_grown
  have B1 : Below w.heap.size w ((w.alloc (.cells #[.slice ao S.length cap] 26)).alloc (.cells #[.int .i64 x] 2)) := by go_grown
  by_cases hw : eWords S [x] = 0
  · have hwb : (eWords S [x] == 0) = true := by simp [hw]
    by_cases hz : eCode S C = 0
    · have hzn : (eCode S C != 0) = false := by simp [hz]
      have hE : eShift S C x = 0 := by rw [eShift_w hw, hz]
      have HE := Lib.hid hE
      have HZ := Lib.hid hz
      obtain ⟨hs, d1, d2⟩ := eCode_zero hz
      obtain ⟨_, x1, x2⟩ := eWords1 hw
      have lc := code_len0 hz
      have HSp := Lib.hid hs
      have N1 := nW_bd hs
      have HC : Hid (∀ i, i < C.length → 0 ≤ gi C i ∧ gi C i ≤ 9223372036854775807) := Lib.hid fun i hi => by have := d1 i hi; omega
      have HV : Hid (vShift S C x = putTo [] (fun i => sumW S (gi C i) x) C.length) := Lib.hid (by unfold vShift; rw [if_pos hE]; exact sums_put hz x)
      have hx9 : 0 ≤ x ∧ x ≤ 9223372036854775807 := by omega
      clear hz hw hE hs d1 d2 x1 x2 N1
      go_enter Try.func40, Try.ntmps40
      go_wp2_with fail
      refine (l01Words_n ao S cap hn _ [x] 1 _ rfl (by omega) _ (hS.below B1) (ints_new1 _ x _ (by simp))).mono ?_
      rintro e w1 ⟨rfl, hb⟩
      have hq := Below.trans ((Below.refl _ (w.alloc (.cells #[.slice ao S.length cap] 26))).alloc (Nat.le_refl _) (.cells #[.int .i64 x] 2)) (hb.mono (by simp))
      replace c0 := kept_cell hq c0 l0
      replace l0 := lt_of_below hq l0
      have B2 := B1.trans (hb.mono B1.size)
      clear hb hq B0 B1
      go_wp2_with fail
      refine (l01Given_any ao S cap hn (some ac) C capc hnc _ (hS.below B2) (hC.below B2)).mono ?_
      rintro e w2 ⟨rfl, hb⟩
      replace c0 := kept_cell hb c0 l0
      replace l0 := lt_of_below hb l0
      have B3 := B2.trans (hb.mono B2.size)
      have hs3 := B3.size
      clear hb B2
      go_wp2_with fail
      refine (shifted_any ao S cap HSp.out ac C capc lc HC.out x hx9 _ (hS.below B3) (hC.below B3)).mono ?_
      rintro e w3 ⟨v, rfl, own, hb⟩
      go_wp2_with fail
      go_ret2
      exact ⟨_, by rw [HE.out]; rfl, by rw [HV.out]; exact own.rebase hs3, B3.trans (hb.mono hs3)⟩
    · have hzn : (eCode S C != 0) = true := by simpa using hz
      have hE : eShift S C x = eCode S C := eShift_w hw
      have HE := Lib.hid hE
      have HV : Hid (vShift S C x = []) := Lib.hid (by unfold vShift; rw [if_neg (by rw [hE]; exact hz)])
      clear hz hw hE
      go_enter Try.func40, Try.ntmps40
      go_wp2_with fail
      refine (l01Words_n ao S cap hn _ [x] 1 _ rfl (by omega) _ (hS.below B1) (ints_new1 _ x _ (by simp))).mono ?_
      rintro e w1 ⟨rfl, hb⟩
      have hq := Below.trans ((Below.refl _ (w.alloc (.cells #[.slice ao S.length cap] 26))).alloc (Nat.le_refl _) (.cells #[.int .i64 x] 2)) (hb.mono (by simp))
      replace c0 := kept_cell hq c0 l0
      have B2 := B1.trans (hb.mono B1.size)
      clear hb hq B0 B1
      go_wp2_with fail
      refine (l01Given_any ao S cap hn (some ac) C capc hnc _ (hS.below B2) (hC.below B2)).mono ?_
      rintro e w2 ⟨rfl, hb⟩
      have B3 := B2.trans (hb.mono B2.size)
      go_wp2_with fail
      go_ret2
      exact ⟨_, by rw [HE.out]; rfl, by rw [HV.out]; exact own_nil _ _, B3⟩
  · have hwb : (eWords S [x] == 0) = false := by simpa using hw
    have hwn : (eWords S [x] != 0) = true := by simpa using hw
    have hE : eShift S C x = eWords S [x] := eShift_bad hw
    have HE := Lib.hid hE
    have HV : Hid (vShift S C x = []) := Lib.hid (by unfold vShift; rw [if_neg (by rw [hE]; exact hw)])
    clear hw hE
    go_enter Try.func40, Try.ntmps40
    go_wp2_with fail
    refine (l01Words_n ao S cap hn _ [x] 1 _ rfl (by omega) _ (hS.below B1) (ints_new1 _ x _ (by simp))).mono ?_
    rintro e w1 ⟨rfl, hb⟩
    have B2 := B1.trans (hb.mono B1.size)
    go_wp2_with fail
    go_ret2
    exact ⟨_, by rw [HE.out]; rfl, by rw [HV.out]; exact own_nil _ _, B2⟩

end Go.Proofs.Ytpboeoidbimmcaa
