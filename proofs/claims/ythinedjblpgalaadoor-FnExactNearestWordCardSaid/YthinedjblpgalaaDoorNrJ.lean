/-
  The contract of the program's NearestWord: the function itself. By an AI agent.
-/
import Derived.Test.YthinedjblpgalaaDoorNrI
namespace Go.Proofs.YthinedjblpgalaaDoor
open Go.RowKit Go.Shelf Cv
set_option linter.unusedVariables false
set_option linter.unusedSimpArgs false
set_option maxRecDepth 100000

set_option maxHeartbeats 2000000 in
theorem impl_NearestWord (ao : Option Addr) (S : List Int) (cap : Nat) (hn : S.length ≤ 4294967296) (ac : Option Addr) (C : List Int) (capc : Nat) (hnc : C.length ≤ 4294967296) (x : Int) (hx : -9223372036854775808 ≤ x ∧ x ≤ 9223372036854775807) (pv : Value) (w : World) (hG : Glob pv w) (hS : Ints w ao S) (hC : Ints w ac C) :
    Calls Tryd.prog 10 #[.agg #[.slice ao S.length cap], .slice ac C.length capc, .int .i64 x] w fun e w' => e = .returned (.tuple #[.int .i64 (vNrW S C x), .int .i64 (eNrW S C x)]) ∧ Below w.heap.size w w' := by
  obtain ⟨W0, hW0, cS, rX, z0, B0⟩ := box2i w (.slice ao S.length cap) (.int .i64 x) 28 2
  have HW0 := Lib.hid hW0
  have z0a : w.heap.size + 2 ≤ W0.heap.size := by omega
  have cX : W0.cell? ⟨w.heap.size + 1, 0, none⟩ = some (.int .i64 x) := by rw [cell_of_row W0 (w.heap.size + 1) 0 _ _ _ rX]; rfl
  have hpos := hG.2
  have b01 : Below W0.heap.size W0 (W0.alloc (.cells #[.int .i64 x] 2)) := (Below.refl _ _).alloc (Nat.le_refl _) _
  have h1 := codeAndWordsError_n ao S cap hn ac C capc hnc (some ⟨w.heap.size + 1 + 1, 0, none⟩) [x] 1 1 rfl (by omega) (W0.alloc (.cells #[.int .i64 x] 2)) ((hS.below B0).below b01) ((hC.below B0).below b01) (ints_new1 W0 x 2 (by omega))
  have B01 := B0.trans (b01.mono (by omega))
  have cS1 := kept_cell b01 cS (by omega)
  have cX1 := kept_cell b01 cX (by omega)
  have s01 : w.heap.size + 2 ≤ (W0.alloc (.cells #[.int .i64 x] 2)).heap.size := by simp; omega
  have HF := Lib.hid (And.intro cS1 (And.intro cX1 (And.intro B01 s01)))
  clear cS1 cX1 B01 s01 b01 cS cX B0 z0a
  by_cases hz : eCW S C [x] = 0
  · rw [hz] at h1
    have H1 := Lib.hid h1
    obtain ⟨hc0, hw0⟩ := eCW_zero hz
    have hxw := (eWords1 hw0).2
    have hlen := code_len0 hc0
    cases hlb : linB S C with
    | true =>
      obtain ⟨hP, hg⟩ := lin_gp hc0 hlb
      have HE : Hid (eNrW S C x = 0) := Lib.hid (by unfold eNrW; rw [if_pos hz, if_pos hlb])
      have HV : Hid (vNrW S C x = nrW S C x) := Lib.hid (by unfold vNrW; rw [if_pos HE.out])
      have HA := Lib.hid (fun (W : World) (h1 : Ints W ao S) (h2 : Ints W ac C) (h3 : w.heap.size + 1 < W.heap.size) (h4 : W.cell? ⟨w.heap.size + 1, 0, none⟩ = some (.int .i64 x)) => askLinear_yes ao S cap hn ac C capc hnc hc0 hlb 27 (enters_of Tryd.func27 (by kernel_rfl) rfl) #[] #[.pointer (some ⟨w.heap.size + 1, 0, none⟩)] (nrW S C x) W h1 h2 (nearest_fun (w.heap.size + 1) ao S cap ac C capc hP hg hlen x hxw W h3 h4 h1 h2))
      clear hW0 z0 h1 hz hc0 hw0 hxw hP hg rX
      go_enter Tryd.func10, Tryd.ntmps10
      go_wp2_with fail
      rw [← HW0.out]
      refine H1.out.mono ?_
      rintro e w2 ⟨rfl, hb2⟩
      obtain ⟨cS1, cX1, B01, s01⟩ := HF.out
      have cS2 := kept_cell hb2 cS1 (by omega)
      have cX2 := kept_cell hb2 cX1 (by omega)
      have B3 := B01.trans (hb2.mono (by omega))
      have s2 := hb2.size
      clear hb2 cS1 cX1 B01 H1
      go_wp2_with fail
      refine (HA.out w2 (hS.below B3) (hC.below B3) (by omega) cX2).mono ?_
      rintro e w4 ⟨rfl, hb4⟩
      go_wp2_with fail
      go_ret2
      exact ⟨by rw [HE.out, HV.out]; rfl, B3.trans (hb4.mono (by omega))⟩
    | false =>
      have HE : Hid (eNrW S C x = 5) := Lib.hid (by unfold eNrW; rw [if_pos hz, if_neg (by rw [hlb]; decide)])
      have HV : Hid (vNrW S C x = 0) := Lib.hid (by unfold vNrW; rw [if_neg (by rw [HE.out]; decide)])
      have HA := Lib.hid (fun (W : World) (h1 : Ints W ao S) (h2 : Ints W ac C) (h3 : Glob pv W) => askLinear_no ao S cap hn ac C capc hnc hc0 hlb 27 #[] #[.pointer (some ⟨w.heap.size + 1, 0, none⟩)] pv W h1 h2 h3)
      clear hW0 z0 h1 hz hc0 hw0 hxw rX
      go_enter Tryd.func10, Tryd.ntmps10
      go_wp2_with fail
      rw [← HW0.out]
      refine H1.out.mono ?_
      rintro e w2 ⟨rfl, hb2⟩
      obtain ⟨cS1, cX1, B01, s01⟩ := HF.out
      have cS2 := kept_cell hb2 cS1 (by omega)
      have cX2 := kept_cell hb2 cX1 (by omega)
      have B3 := B01.trans (hb2.mono (by omega))
      have s2 := hb2.size
      clear hb2 cS1 cX1 B01 H1
      go_wp2_with fail
      refine (HA.out w2 (hS.below B3) (hC.below B3) (hG.below B3 hpos)).mono ?_
      rintro e w4 ⟨rfl, hb4⟩
      go_wp2_with fail
      go_ret2
      exact ⟨by rw [HE.out, HV.out]; rfl, B3.trans (hb4.mono (by omega))⟩
  · have HE : Hid (eNrW S C x = eCW S C [x]) := Lib.hid (by unfold eNrW; rw [if_neg hz])
    have HV : Hid (vNrW S C x = 0) := Lib.hid (by unfold vNrW; rw [if_neg (by rw [HE.out]; exact hz)])
    have hzn : (eCW S C [x] != 0) = true := by simpa using hz
    have H1 := Lib.hid h1
    clear hW0 z0 h1 hz rX
    go_enter Tryd.func10, Tryd.ntmps10
    go_wp2_with fail
    rw [← HW0.out]
    refine H1.out.mono ?_
    rintro e w2 ⟨rfl, hb2⟩
    obtain ⟨cS1, cX1, B01, s01⟩ := HF.out
    go_wp2_with fail
    go_ret2
    exact ⟨by rw [HE.out, HV.out]; rfl, B01.trans (hb2.mono (by omega))⟩

end Go.Proofs.YthinedjblpgalaaDoor
