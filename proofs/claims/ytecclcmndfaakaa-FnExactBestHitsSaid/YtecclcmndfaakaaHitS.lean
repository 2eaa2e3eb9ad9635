/-
  The contracts of the models of HitsOf and BestHits. By an AI agent.
-/
import Derived.Test.YtecclcmndfaakaaMathU
import Derived.Test.YtecclcmndfaakaaCode2
import Derived.Test.YtecclcmndfaakaaDist
namespace Go.Proofs.Ytecclcmndfaakaa
open Go.RowKit Cv
set_option linter.unusedVariables false
set_option linter.unusedSimpArgs false
set_option maxRecDepth 100000

theorem ret_iis {a b c d : Int} (h1 : a = b) (h2 : c = d) : Ending.returned (.tuple #[.int .i64 a, .int .i64 c]) = .returned (.tuple #[.int .i64 b, .int .i64 d]) := by rw [h1, h2]

set_option maxHeartbeats 1000000 in
theorem spec_HitsOf (ao : Option Addr) (S : List Int) (cap : Nat) (hn : S.length ≤ 4294967296) (u : Int) (hu : -9223372036854775808 ≤ u ∧ u ≤ 9223372036854775807) (x : Int) (hx : -9223372036854775808 ≤ x ∧ x ≤ 9223372036854775807) (w : World) (hS : Ints w ao S) :
    Calls Try.prog 45 #[.agg #[.slice ao S.length cap], .int .i64 u, .int .i64 x] w fun e w' => e = .returned (.tuple #[.int .i64 (vHits S u x), .int .i64 (eWords S [u, x])]) ∧ Below w.heap.size w w' := by
  obtain ⟨W, hW⟩ : ∃ W, W = w.alloc (.cells #[.slice ao S.length cap] 28) := ⟨_, rfl⟩
  have hWs : W.heap.size = w.heap.size + 1 := by rw [hW]; simp
  have B0 : Below w.heap.size w W := by rw [hW]; go_grown
  have c0 : W.cell? ⟨w.heap.size, 0, none⟩ = some (.slice ao S.length cap) := by rw [hW]; exact cell_new _ _ _
  have l0 : w.heap.size < W.heap.size := by omega
  have HW := Lib.hid hW
  clear hW
  have hb0 : Below W.heap.size W (W.alloc (.cells #[.int .i64 u, .int .i64 x] 2)) := (Below.refl _ W).alloc (Nat.le_refl _) _
  have B0' : Below w.heap.size w (W.alloc (.cells #[.int .i64 u, .int .i64 x] 2)) := B0.trans (hb0.mono B0.size)
  have c0' := kept_cell hb0 c0 l0
  have l0' := lt_of_below hb0 l0
  by_cases hz : eWords S [u, x] = 0
  · obtain ⟨hSp, ⟨u1, u2⟩, x1, x2⟩ := eWords2 hz
    obtain ⟨N1, N2⟩ := nW_bd hSp
    have HV : Hid (vHits S u x = hitW S u x) := Lib.hid (by unfold vHits; rw [if_pos hz])
    have HE := Lib.hid hz
    have HSp := Lib.hid hSp
    have hhi := hSp.hi
    have hzn : (eWords S [u, x] != 0) = false := by simp [hz]
    have HH : Hid (hitW S u x = (S.length : Int) - dist S u x) := Lib.hid rfl
    obtain ⟨db0, db1⟩ := dist_bd S u x
    obtain ⟨d, hd⟩ : ∃ d, d = dist S u x := ⟨_, rfl⟩
    rw [← hd] at db0 db1 HH
    have HD := Lib.hid hd
    have HX := Lib.hid (show IntKind.i64.wrap ((S.length : Int) - d) = (S.length : Int) - d from IntWalk.i64_in _ ⟨by omega, by omega⟩)
    clear hz hSp hd
    go_enter Try.func45, Try.ntmps45
    go_wp2_with fail
    rw [← HW.out]
    refine (l01Words_n ao S cap hn _ [u, x] 2 _ rfl (by omega) _ (hS.below B0') (ints_new2 W u x _ hWs.symm)).mono ?_
    rintro e w1 ⟨rfl, hb⟩
    have c1 := kept_cell hb c0' l0'
    have l1 := lt_of_below hb l0'
    have B1 : Below w.heap.size w w1 := B0'.trans (hb.mono B0'.size)
    clear hb c0' l0' B0' hb0 c0 l0 B0
    go_wp2_with fail
    go_region_held3 (fun w' => w'.cell? ⟨w.heap.size, 0, none⟩ = some (.slice ao S.length cap)) (first | exact c1 | exact kept_cell hb c1 l1) ((go_at_call 77; refine (l01Distance_any ao S cap hhi HSp.out.bd u x u1 (by omega) x1 (by omega) _ (hS.below B1.drew)).mono ?_; rintro e w4 ⟨rfl, hb'⟩; have hb : Below w1.heap.size w1 w4 := (Below.refl w1.heap.size w1).drew.trans hb'; rw [← HD.out]))
    go_wp2_with fail
    go_ret2
    exact ⟨ret_iis (by rw [HV.out, HH.out]; exact HX.out) HE.out.symm, B1.trans (hb.mono B1.size)⟩
  · have HV : Hid (vHits S u x = 0) := Lib.hid (by unfold vHits; rw [if_neg hz])
    have hzn : (eWords S [u, x] != 0) = true := by simpa using hz
    clear hz
    go_enter Try.func45, Try.ntmps45
    go_wp2_with fail
    rw [← HW.out]
    refine (l01Words_n ao S cap hn _ [u, x] 2 _ rfl (by omega) _ (hS.below B0') (ints_new2 W u x _ hWs.symm)).mono ?_
    rintro e w1 ⟨rfl, hb⟩
    go_wp2_with fail
    go_ret2
    exact ⟨ret_iis HV.out.symm rfl, B0'.trans (hb.mono B0'.size)⟩

theorem max_if (a b : Int) : max a b = if a < b then b else a := by split <;> omega
theorem bsTo_bd (S C : List Int) (x : Int) (k : Nat) : 0 ≤ bsTo S C x k ∧ bsTo S C x k ≤ S.length := by
  induction k with
  | zero => rw [bsTo]; omega
  | succ k ih =>
    have := dist_bd S (gi C k) x
    rw [bsTo]; unfold hitW; omega

set_option maxHeartbeats 1000000 in
theorem l07Best_any (ao : Option Addr) (S : List Int) (cap : Nat) (hSp : Sp S) (ac : Option Addr) (C : List Int) (capc : Nat) (hlen : C.length ≤ 1048576) (hC0 : ∀ i, i < C.length → 0 ≤ gi C i ∧ gi C i ≤ 9223372036854775807) (x : Int) (x1 : 0 ≤ x) (x2 : x ≤ 9223372036854775807) (w : World) (hS : Ints w ao S) (hC : Ints w ac C) :
    Calls Try.prog 80 #[.agg #[.slice ao S.length cap], .slice ac C.length capc, .int .i64 x] w fun e w' => e = .returned (.int .i64 (bsTo S C x C.length)) ∧ Below w.heap.size w w' := by
  have hhi := hSp.hi
  have HSp := Lib.hid hSp
  have HC0 := Lib.hid hC0
  clear hSp hC0
  have B0 : Below w.heap.size w (w.alloc (.cells #[.slice ao S.length cap] 28)) := by go_grown
  have c0 := cell_new w (.slice ao S.length cap) 28
  have l0 := lt_alloc w (.cells #[.slice ao S.length cap] 28)
  go_enter Try.func80, Try.ntmps80
  go_wp2_with fail
  go_loopw [7, 11] (fun v i wr => ∃ k : Nat, k ≤ C.length ∧ i = .int .i64 k ∧ v = .int .i64 (bsTo S C x k) ∧ wr.cell? ⟨w.heap.size, 0, none⟩ = some (.slice ao S.length cap) ∧ w.heap.size < wr.heap.size ∧ Below w.heap.size w wr) (fun _ i _ => C.length - (intOf i).toNat)
  case atStart => exact ⟨0, Nat.zero_le _, rfl, rfl, c0, l0, B0⟩
  case round =>
    clear c0 l0 B0
    obtain ⟨k, hk, rfl, rfl, c, l, B⟩ := hrel
    by_cases hlt : k < C.length
    · obtain ⟨b, o, rfl, hbl, hc⟩ := hC.at hlt
      have hck := kept_cell B (hc k hlt) hbl
      have hbw : b < wr.heap.size := Nat.lt_of_lt_of_le hbl B.size
      obtain ⟨u1, u2⟩ := HC0.out k hlt
      obtain ⟨db0, db1⟩ := dist_bd S (gi C k) x
      obtain ⟨bb0, bb1⟩ := bsTo_bd S C x k
      have HH : Hid (bsTo S C x (k + 1) = max (bsTo S C x k) ((S.length : Int) - dist S (gi C k) x)) := Lib.hid rfl
      obtain ⟨d, hd⟩ : ∃ d, d = dist S (gi C k) x := ⟨_, rfl⟩
      rw [← hd] at db0 db1 HH
      have HD := Lib.hid hd
      obtain ⟨p, hp⟩ : ∃ p, p = bsTo S C x k := ⟨_, rfl⟩
      rw [← hp] at bb0 bb1 HH ⊢
      have hX : IntKind.i64.wrap ((S.length : Int) - d) = (S.length : Int) - d := IntWalk.i64_in _ ⟨by omega, by omega⟩
      have i1 : (0 : Int) ≤ (k : Int) := by omega
      have i2 : (k : Int) < (C.length : Int) := by omega
      clear hc hd hp
      go_wp2_with fail
      go_region_held3 (fun w' => w'.cell? ⟨w.heap.size, 0, none⟩ = some (.slice ao S.length cap) ∧ w'.cell? ⟨b, o + k, none⟩ = some (.int .i64 (gi C k))) (first | exact ⟨c, hck⟩ | exact ⟨kept_cell hb c l, kept_cell hb hck hbw⟩) ((go_at_call 77; refine (l01Distance_any ao S cap hhi HSp.out.bd (gi C k) x u1 u2 x1 x2 _ (hS.below B.drew)).mono ?_; rintro e w4 ⟨rfl, hb'⟩; have hb : Below wr.heap.size wr w4 := (Below.refl wr.heap.size wr).drew.trans hb'; rw [← HD.out]))
      replace c := kept_cell hb c l
      replace l := lt_of_below hb l
      replace B := B.trans (hb.mono B.size)
      clear hb hb' hck
      go_wp2_with fail
      go_roundw
      case rel => exact ⟨k + 1, by omega, by go_num, by rw [HH.out, max_if], c, l, B⟩
      case measure => simp [intOf]; omega
    · have ek : Hid (k = C.length) := Lib.hid (by omega)
      go_wp2_with fail
      go_ret
      exact ⟨ret_int (by rw [ek.out]), B⟩

set_option maxHeartbeats 1000000 in
theorem spec_BestHits (ao : Option Addr) (S : List Int) (cap : Nat) (hn : S.length ≤ 4294967296) (ac : Option Addr) (C : List Int) (capc : Nat) (hnc : C.length ≤ 4294967296) (x : Int) (hx : -9223372036854775808 ≤ x ∧ x ≤ 9223372036854775807) (w : World) (hS : Ints w ao S) (hC : Ints w ac C) :
    Calls Try.prog 47 #[.agg #[.slice ao S.length cap], .slice ac C.length capc, .int .i64 x] w fun e w' => e = .returned (.tuple #[.int .i64 (vBest S C x), .int .i64 (eBest S C x)]) ∧ Below w.heap.size w w' := by
  obtain ⟨W, hW⟩ : ∃ W, W = w.alloc (.cells #[.slice ao S.length cap] 28) := ⟨_, rfl⟩
  have hWs : W.heap.size = w.heap.size + 1 := by rw [hW]; simp
  have B0 : Below w.heap.size w W := by rw [hW]; go_grown
  have c0 : W.cell? ⟨w.heap.size, 0, none⟩ = some (.slice ao S.length cap) := by rw [hW]; exact cell_new _ _ _
  have l0 : w.heap.size < W.heap.size := by omega
  have HW := Lib.hid hW
  clear hW
  have hb0 : Below W.heap.size W (W.alloc (.cells #[.int .i64 x] 2)) := (Below.refl _ W).alloc (Nat.le_refl _) _
  have B0' : Below w.heap.size w (W.alloc (.cells #[.int .i64 x] 2)) := B0.trans (hb0.mono B0.size)
  have c0' := kept_cell hb0 c0 l0
  have l0' := lt_of_below hb0 l0
  have hIn := ints_new1 W x 2 hWs.symm
  clear hb0 c0 l0 B0
  by_cases hz : eWords S [x] = 0
  case neg =>
    have HE : Hid (eBest S C x = eWords S [x]) := Lib.hid (by
      unfold eBest eSome
      have h1 : eCW S C [x] = eWords S [x] := by rw [eCW_comm]; unfold orI; rw [if_neg hz]
      rw [h1, if_neg (fun h => hz h.1)])
    have HV : Hid (vBest S C x = 0) := Lib.hid (by unfold vBest; rw [HE.out, if_neg hz])
    have hzn : (eWords S [x] != 0) = true := by simpa using hz
    have hzb : (eWords S [x] == 0) = false := by simpa using hz
    clear hz
    go_enter Try.func47, Try.ntmps47
    go_wp2_with fail
    rw [← HW.out]
    refine (l01Words_n ao S cap hn _ [x] 1 _ rfl (by omega) _ (hS.below B0') hIn).mono ?_
    rintro e w1 ⟨rfl, hb⟩
    go_wp2_with fail
    go_ret2
    exact ⟨ret_iis HV.out.symm HE.out.symm, B0'.trans (hb.mono B0'.size)⟩
  have hzb : (eWords S [x] == 0) = true := by simp [hz]
  have HC0 : Hid (eCW S C [x] = eCode S C) := Lib.hid (by rw [eCW_comm]; unfold orI; rw [if_pos hz])
  obtain ⟨hSp0, x1, x2⟩ := eWords1 hz
  obtain ⟨N1, N2⟩ := nW_bd hSp0
  clear hz
  by_cases hc : eCode S C = 0
  case neg =>
    have HE : Hid (eBest S C x = eCode S C) := Lib.hid (by unfold eBest eSome; rw [HC0.out, if_neg (fun h => hc h.1)])
    have HV : Hid (vBest S C x = 0) := Lib.hid (by unfold vBest; rw [HE.out, if_neg hc])
    have hcn : (eCode S C != 0) = true := by simpa using hc
    have hcb : (eCode S C == 0) = false := by simpa using hc
    clear hc hSp0
    go_enter Try.func47, Try.ntmps47
    go_wp2_with fail
    rw [← HW.out]
    refine (l01Words_n ao S cap hn _ [x] 1 _ rfl (by omega) _ (hS.below B0') hIn).mono ?_
    rintro e w1 ⟨rfl, hb⟩
    have c1 := kept_cell hb c0' l0'
    have l1 := lt_of_below hb l0'
    have B1 : Below w.heap.size w w1 := B0'.trans (hb.mono B0'.size)
    clear hb c0' l0' B0' hIn
    go_wp2_with fail
    refine (l01Given_any ao S cap hn ac C capc hnc _ (hS.below B1) (hC.below B1)).mono ?_
    rintro e w2 ⟨rfl, hb⟩
    go_wp2_with fail
    go_ret2
    exact ⟨ret_iis HV.out.symm HE.out.symm, B1.trans (hb.mono B1.size)⟩
  have hcb : (eCode S C == 0) = true := by simp [hc]
  have hcn : (eCode S C != 0) = false := by simp [hc]
  have HCz := Lib.hid hc
  have hlen := code_len0 hc
  obtain ⟨_, hc1, _⟩ := eCode_zero hc
  have HC1 : Hid (∀ i, i < C.length → 0 ≤ gi C i ∧ gi C i ≤ 9223372036854775807) := Lib.hid fun i h => by have := hc1 i h; omega
  have HSp := Lib.hid hSp0
  clear hSp0 hc1
  by_cases hl : C.length = 0
  · have HE : Hid (eBest S C x = 5) := Lib.hid (by unfold eBest eSome; rw [HC0.out, if_pos ⟨hc, hl⟩])
    have HV : Hid (vBest S C x = 0) := Lib.hid (by unfold vBest; rw [HE.out, if_neg (by decide)])
    have hl0 : ((C.length : Int) == 0) = true := by simp [hl]
    clear hc hl
    go_enter Try.func47, Try.ntmps47
    go_wp2_with fail
    rw [← HW.out]
    refine (l01Words_n ao S cap hn _ [x] 1 _ rfl (by omega) _ (hS.below B0') hIn).mono ?_
    rintro e w1 ⟨rfl, hb⟩
    have c1 := kept_cell hb c0' l0'
    have l1 := lt_of_below hb l0'
    have B1 : Below w.heap.size w w1 := B0'.trans (hb.mono B0'.size)
    clear hb c0' l0' B0' hIn
    go_wp2_with fail
    refine (l01Given_any ao S cap hn ac C capc hnc _ (hS.below B1) (hC.below B1)).mono ?_
    rintro e w2 ⟨rfl, hb⟩
    go_wp2_with fail
    go_ret2
    exact ⟨ret_iis HV.out.symm HE.out.symm, B1.trans (hb.mono B1.size)⟩
  · have HE : Hid (eBest S C x = 0) := Lib.hid (by unfold eBest eSome; rw [HC0.out, if_neg (fun h => hl h.2)]; exact hc)
    have HV : Hid (vBest S C x = bsTo S C x C.length) := Lib.hid (by unfold vBest; rw [HE.out, if_pos rfl])
    have hl0 : ((C.length : Int) == 0) = false := by simpa using hl
    clear hc hl
    go_enter Try.func47, Try.ntmps47
    go_wp2_with fail
    rw [← HW.out]
    refine (l01Words_n ao S cap hn _ [x] 1 _ rfl (by omega) _ (hS.below B0') hIn).mono ?_
    rintro e w1 ⟨rfl, hb⟩
    have c1 := kept_cell hb c0' l0'
    have l1 := lt_of_below hb l0'
    have B1 : Below w.heap.size w w1 := B0'.trans (hb.mono B0'.size)
    clear hb c0' l0' B0' hIn
    go_wp2_with fail
    refine (l01Given_any ao S cap hn ac C capc hnc _ (hS.below B1) (hC.below B1)).mono ?_
    rintro e w2 ⟨rfl, hb⟩
    replace c1 := kept_cell hb c1 l1
    replace B1 := B1.trans (hb.mono B1.size)
    clear hb
    go_wp2_with fail
    refine (l07Best_any ao S cap HSp.out ac C capc (by omega) HC1.out x x1 (by omega) _ (hS.below B1) (hC.below B1)).mono ?_
    rintro e w3 ⟨rfl, hb⟩
    go_wp2_with fail
    go_ret2
    exact ⟨ret_iis HV.out.symm HE.out.symm, B1.trans (hb.mono B1.size)⟩

end Go.Proofs.Ytecclcmndfaakaa
