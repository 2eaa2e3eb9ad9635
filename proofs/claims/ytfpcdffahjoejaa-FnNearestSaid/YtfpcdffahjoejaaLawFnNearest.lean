/-
  The law FnNearest holds at every list of bytes. By an AI agent.
-/
import Derived.Test.YtfpcdffahjoejaaDrwY
import Derived.Test.YtfpcdffahjoejaaNear
import Derived.Test.YtfpcdffahjoejaaNear2
import Derived.Test.YtfpcdffahjoejaaFar4
import Derived.Test.YtfpcdffahjoejaaFar5
import Derived.Test.YtfpcdffahjoejaaF1
namespace Go.Proofs.Ytfpcdffahjoejaa
open Go.RowKit Cv
set_option linter.unusedVariables false
set_option linter.unusedSimpArgs false
set_option maxRecDepth 100000

set_option maxHeartbeats 8000000 in
theorem law_FnNearest (a : Option Addr) (n cap : Nat) (W : World) (hY : Byts W W.heap.size a n) :
    Calls Try.prog 4 #[.slice a n cap] W fun e w' => e = .returned (.bool true) ∧ Below W.heap.size W w' := by
  have hbig := big_any a n cap W
  by_cases hn4 : 4096 < n
  · rw [decide_eq_true hn4] at hbig
    clear hY hn4
    go_enter Try.func4, Try.ntmps4
    go_wp2_with fail
    refine hbig.mono ?_
    rintro e w1 ⟨rfl, hb⟩
    clear hbig
    go_wp2_with fail
    go_ret
    exact ⟨rfl, hb⟩
  rw [decide_eq_false hn4] at hbig
  have hn : n ≤ 4096 := by omega
  clear hn4
  go_enter Try.func4, Try.ntmps4
  go_wp2_with fail
  refine hbig.mono ?_
  rintro e w1 ⟨rfl, B1⟩
  clear hbig
  have hY1 : Byts w1 w1.heap.size a n := (hY.keep fun b o v hb h => kept_cell B1 h hb).mono B1.size
  have hd := drawNear_any a n cap hn w1 hY1
  go_wp2_with fail
  refine hd.mono ?_
  rintro e w2 ⟨ax, S, cx, g, cg, C, x, rfl, hI, hax, hS8, own, hCl, hx, hb2⟩
  have B2 := B1.trans (hb2.mono B1.size)
  have IC := own_ints own
  clear hd hY1 hax own hb2 B1
  obtain ⟨X, hX⟩ : ∃ X, X = w2.heap.size := ⟨_, rfl⟩
  obtain ⟨w3, hw3⟩ : ∃ w3, w3 = w2.alloc (.cells #[.slice ax S.length cx] 26) := ⟨_, rfl⟩
  have RX3 : w3.heap[X]? = some (.cells #[.slice ax S.length cx] 26 (0, 0)) := by rw [hw3, hX]; exact heap_alloc_new _ _
  have I3 : Ints w3 ax S := by rw [hw3]; exact hI.below ((Below.refl _ _).alloc (Nat.le_refl _) _)
  have C3 : Ints w3 (some ⟨g, 0, none⟩) C := by rw [hw3]; exact IC.below ((Below.refl _ _).alloc (Nat.le_refl _) _)
  have B3 : Below W.heap.size W w3 := by rw [hw3]; exact B2.alloc B2.size _
  have hX3 : X < w3.heap.size := row_lt RX3
  have HX := Lib.hid hX
  have HW3 := Lib.hid hw3
  clear hX hw3 hI IC B2
  have c3 := cell_of1' RX3
  have B := Below.refl w3.heap.size w3
  have hc := impl_NearestWords ax S cx (by omega) (some ⟨g, 0, none⟩) C cg (by omega) x hx w3 I3 C3
  go_wp2_with fail
  rw [← HW3.out, ← HX.out]
  refine hc.mono ?_
  rintro e w4 ⟨v1, rfl, own1, hb⟩
  obtain ⟨a1, c1, hv1⟩ := own_shp own1
  subst hv1
  have J1 := own_ints own1
  replace B := B.trans hb
  have c4 := kept_cell B c3 hX3
  clear hc hb own1
  have hc := spec_NearestWords ax S cx (by omega) (some ⟨g, 0, none⟩) C cg (by omega) x hx w4 (I3.below B) (C3.below B)
  go_wp2_with fail
  refine hc.mono ?_
  rintro e w5 ⟨v2, rfl, own2, hb⟩
  obtain ⟨a2, c2, hv2⟩ := own_shp own2
  subst hv2
  have J2 := own_ints own2
  replace J1 := J1.below hb
  replace B := B.trans (hb.mono B.size)
  have c5 := kept_cell B c3 hX3
  clear hc hb own2 c4
  have hNl : (vNear S C x).length ≤ 1048577 := by unfold vNear; split; exact Nat.le_trans (nearOut_len _ _ _ _ _) hCl; simp
  have hc := likeInts_same a1 a2 (vNear S C x) c1 c2 w5 (by omega) J1 J2
  go_wp2_with fail
  refine hc.mono ?_
  rintro e w6 ⟨rfl, hb⟩
  replace J1 := J1.below hb
  replace B := B.trans (hb.mono B.size)
  have c6 := kept_cell B c3 hX3
  clear hc hb J2 c5
  have hc := impl_DistanceTo ax S cx (by omega) (some ⟨g, 0, none⟩) C cg (by omega) x hx w6 (I3.below B) (C3.below B)
  go_wp2_with fail
  refine hc.mono ?_
  rintro e w7 ⟨rfl, hb⟩
  replace J1 := J1.below hb
  replace B := B.trans (hb.mono B.size)
  have c7 := kept_cell B c3 hX3
  clear hc hb c6
  have hc := spec_DistanceTo ax S cx (by omega) (some ⟨g, 0, none⟩) C cg (by omega) x hx w7 (I3.below B) (C3.below B)
  go_wp2_with fail
  refine hc.mono ?_
  rintro e w8 ⟨rfl, hb⟩
  replace J1 := J1.below hb
  replace B := B.trans (hb.mono B.size)
  clear hc hb c7
  have B8 : Below W.heap.size W w8 := B3.trans (B.mono B3.size)
  have hY8 : Byts w8 w8.heap.size a n := (hY.keep fun b o v hb h => kept_cell B8 h hb).mono B8.size
  have hc := drawFarthest_any a n cap hn w8 hY8
  go_wp2_with fail
  refine hc.mono ?_
  rintro e w9 ⟨ay, T, cy, g2, cg2, D, rfl, hI, hax, hT8, own, hDl, hb⟩
  have IC := own_ints own
  replace J1 := J1.below hb
  replace B := B.trans (hb.mono B.size)
  clear hc hb hax own hY8 B8
  obtain ⟨Y, hY'⟩ : ∃ Y, Y = w9.heap.size := ⟨_, rfl⟩
  obtain ⟨u, hu⟩ : ∃ u, u = w9.alloc (.cells #[.slice ay T.length cy] 26) := ⟨_, rfl⟩
  have RY : u.heap[Y]? = some (.cells #[.slice ay T.length cy] 26 (0, 0)) := by rw [hu, hY']; exact heap_alloc_new _ _
  have I4 : Ints u ay T := by rw [hu]; exact hI.below ((Below.refl _ _).alloc (Nat.le_refl _) _)
  have C4 : Ints u (some ⟨g2, 0, none⟩) D := by rw [hu]; exact IC.below ((Below.refl _ _).alloc (Nat.le_refl _) _)
  have Bu : Below w3.heap.size w3 u := by rw [hu]; exact B.alloc B.size _
  replace J1 : Ints u a1 (vNear S C x) := by rw [hu]; exact J1.below ((Below.refl _ _).alloc (Nat.le_refl _) _)
  have hYu : Y < u.heap.size := row_lt RY
  have HY := Lib.hid hY'
  have HU := Lib.hid hu
  clear hY' hu hI IC B
  have cu := cell_of1' RY
  have B := Below.refl u.heap.size u
  have hc := impl_FarthestWord ay T cy (by omega) (some ⟨g2, 0, none⟩) D cg2 (by omega) u I4 C4
  go_wp2_with fail
  rw [← HU.out, ← HY.out]
  refine hc.mono ?_
  rintro e w10 ⟨rfl, hb⟩
  replace J1 := J1.below hb
  replace B := B.trans (hb.mono B.size)
  have c10 := kept_cell B cu hYu
  clear hc hb
  have hc := spec_FarthestWord ay T cy (by omega) (some ⟨g2, 0, none⟩) D cg2 (by omega) w10 (I4.below B) (C4.below B)
  go_wp2_with fail
  refine hc.mono ?_
  rintro e w11 ⟨rfl, hb⟩
  replace J1 := J1.below hb
  replace B := B.trans (hb.mono B.size)
  have c11 := kept_cell B cu hYu
  clear hc hb c10
  have B3W := B3
  by_cases hF : eFull T D = 0
  · have b0 : (eFull T D == 0) = true := by simpa using hF
    obtain ⟨t1, t2, t3, t4⟩ := far_to hF
    have hNb := nW_bd (eCode_zero (eFull_zero hF).1).1
    have hr := impl_RadiusOf ay T cy (by omega) (some ⟨g2, 0, none⟩) D cg2 (by omega) w11 (I4.below B) (C4.below B)
    rw [hF] at hr
    go_wp2_with fail
    refine hr.mono ?_
    rintro e w12 ⟨rfl, hb⟩
    replace J1 := J1.below hb
    replace B := B.trans (hb.mono B.size)
    have c12 := kept_cell B cu hYu
    clear hr hb c11
    have hd := impl_DistanceTo ay T cy (by omega) (some ⟨g2, 0, none⟩) D cg2 (by omega) (vFarthest T D) (by omega) w12 (I4.below B) (C4.below B)
    rw [t1, t2] at hd
    clear t1 t2 t3 t4 hNb hF
    go_wp2_with fail
    refine hd.mono ?_
    rintro e w13 ⟨rfl, hb⟩
    replace J1 := J1.below hb
    replace B := B.trans (hb.mono B.size)
    clear hd hb c12
    have BB : Below w3.heap.size w3 w13 := Bu.trans (B.mono Bu.size)
    have BW : Below W.heap.size W w13 := B3.trans (BB.mono B3.size)
    clear B Bu B3 I4 C4 cu hYu hY hDl hT8
    by_cases hE : eNear S C x = 0
    rotate_left
    · have b1 : (eNear S C x == 0) = false := by simpa using hE
      obtain ⟨n1, n2⟩ := near_no hE
      have b2 : (((vNear S C x).length : Int) == 0) = true := by rw [n1]; rfl
      have b3 : (eTo S C x == eNear S C x) = true := by rw [n2]; simp
      have b4 : (eNear S C x != 0) = true := by simpa using hE
      clear hE n1 n2
      go_wp2_with fail
      go_ret
      exact ⟨rfl, BW⟩
    have b1 : (eNear S C x == 0) = true := by simpa using hE
    by_cases hC0 : C.length = 0
    · obtain ⟨n1, n2⟩ := near_nil hE hC0
      have b2 : (((vNear S C x).length : Int) == 0) = true := by rw [n1]; rfl
      have b3 : (eTo S C x == 5) = true := by rw [n2]; rfl
      have b5 : ((C.length : Int) == 0) = true := by rw [hC0]; rfl
      have b4 : (eNear S C x != 0) = false := by simpa using hE
      clear hE n1 n2 hC0
      go_wp2_with fail
      go_ret
      exact ⟨rfl, BW⟩
    have hCp : 0 < C.length := by omega
    obtain ⟨n1, n2⟩ := near_to hE hCp
    have hlen := near_some hE hCp
    have b5 : ((C.length : Int) == 0) = false := by rw [beq_eq_false_iff_ne]; omega
    have b4 : (eNear S C x != 0) = false := by simpa using hE
    have HN := Lib.hid (And.intro n1 (And.intro n2 hlen))
    have HE := Lib.hid hE
    clear n1 n2 hlen hE hC0
    go_wp2_with fail
    go_loopw [24] (fun i wr => ∃ k : Nat, k ≤ C.length ∧ i = .int .i64 (k : Int) ∧ Ints wr a1 (vNear S C x) ∧ Below w3.heap.size w3 wr) (fun i _ => C.length - (intOf i).toNat)
    case atStart => exact ⟨0, Nat.zero_le _, rfl, J1, BB⟩
    case round =>
      clear J1 BB BW
      obtain ⟨k, hk, rfl, J1, BB⟩ := hrel
      have BW : Below W.heap.size W wr := B3W.trans (BB.mono B3W.size)
      have cX := kept_cell BB c3 hX3
      by_cases hlt : k < C.length
      · have hck : wr.cell? ⟨g, k, none⟩ = some (.int .i64 (gi C k)) := by simpa using ints_at (C3.below BB) rfl hlt
        obtain ⟨f1, f2, f3, f4⟩ := near_own HE.out hlt
        have hcb := (eCode_zero (eCW_zero HE.out).1).2.1 k hlt
        have hSp := (eCode_zero (eCW_zero HE.out).1).1
        have hNb := nW_bd hSp
        have hdist := fun V hI => impl_DistanceOf ax S cx (by omega) (gi C k) (by omega) x hx V hI
        rw [f1, f2] at hdist
        obtain ⟨y, hy⟩ : ∃ y, y = gi C k := ⟨_, rfl⟩
        rw [← hy] at hck hdist f3 f4
        obtain ⟨D1, hD1⟩ : ∃ D1, D1 = dist S y x := ⟨_, rfl⟩
        rw [← hD1] at hdist f3 f4
        have i1 : (0 : Int) ≤ (k : Int) := by omega
        have i2 : (k : Int) < (C.length : Int) := by omega
        have IXr := I3.below BB
        have HF := Lib.hid (And.intro f3 f4)
        have sB := BB.size
        clear f1 f2 f3 f4 hcb hSp hNb hy hD1
        go_wp2_with fail
        have fX := fam_cell cX
        have fC := fam_cell hck
        refine wp_region_fam (by kernel_rfl) (by kernel_rfl) ?_
        repeat (go_big_quiet_step ((go_at_call 9; exact fam_calls (hdist _ (IXr.below (fam_below _))))))
        refine wpQuiet_nil ?_
        rintro _ ⟨z, rfl⟩
        have hb2 := fam_below z
        generalize fam wr z = w2 at hb2 ⊢
        clear fX fC hdist IXr cX
        have J2 := J1.below hb2
        have hck2 := hck
        replace hck2 : w2.cell? ⟨g, k, none⟩ = some (.int .i64 y) := kept_cell hb2 hck (World.block_lt_of_cell? wr _ hck)
        have hh := hasInt_any a1 (vNear S C x) c1 y w2 (by omega) J2
        have j1 : ¬ (D1 < vTo S C x) := by rw [HN.out.2.1]; have := HF.out.1; omega
        clear hck J1
        by_cases hq : D1 = toW S C x
        · have hv : hasTo (vNear S C x) y (vNear S C x).length = true := by obtain ⟨j, hj, e⟩ := mem_gi (HF.out.2.1 hq); exact (hasTo_iff _ _ _).2 ⟨j, hj, e⟩
          have bq : (D1 == vTo S C x) = true := by rw [HN.out.2.1]; simpa using hq
          rw [hv] at hh
          clear hq hv
          go_wp2_with fail
          refine hh.mono ?_
          rintro e w9' ⟨rfl, hb3⟩
          clear hh
          go_wp2_with fail
          go_roundw
          case rel => exact ⟨k + 1, by omega, by go_num, J2.below hb3, (BB.trans (hb2.mono sB)).trans (hb3.mono (by have := hb2.size; omega))⟩
          case measure => simp [intOf]; omega
        · have hv : hasTo (vNear S C x) y (vNear S C x).length = false := Bool.eq_false_iff.2 fun hz => by obtain ⟨j, hj, e⟩ := (hasTo_iff _ _ _).1 hz; exact hq (HF.out.2.2 (by rw [← e]; exact gi_mem hj))
          have bq : (D1 == vTo S C x) = false := by rw [HN.out.2.1]; simpa using hq
          rw [hv] at hh
          clear hq hv
          go_wp2_with fail
          refine hh.mono ?_
          rintro e w9' ⟨rfl, hb3⟩
          clear hh
          go_wp2_with fail
          go_roundw
          case rel => exact ⟨k + 1, by omega, by go_num, J2.below hb3, (BB.trans (hb2.mono sB)).trans (hb3.mono (by have := hb2.size; omega))⟩
          case measure => simp [intOf]; omega
      · have i2 : ¬ (k : Int) < (C.length : Int) := by omega
        have b6 : (eTo S C x == 0) = true := by rw [HN.out.1]; rfl
        have b7 : (0 : Int) < ((vNear S C x).length : Int) := by have := HN.out.2.2; omega
        go_wp2_with fail
        go_ret
        exact ⟨by show Ending.returned (.bool (decide (0 < (vNear S C x).length))) = _; rw [decide_eq_true HN.out.2.2], BW⟩
  · have b0 : (eFull T D == 0) = false := by simpa using hF
    clear hF c11
    have BB : Below w3.heap.size w3 w11 := Bu.trans (B.mono Bu.size)
    have BW : Below W.heap.size W w11 := B3.trans (BB.mono B3.size)
    clear B Bu B3 I4 C4 cu hYu hY hDl hT8
    by_cases hE : eNear S C x = 0
    rotate_left
    · have b1 : (eNear S C x == 0) = false := by simpa using hE
      obtain ⟨n1, n2⟩ := near_no hE
      have b2 : (((vNear S C x).length : Int) == 0) = true := by rw [n1]; rfl
      have b3 : (eTo S C x == eNear S C x) = true := by rw [n2]; simp
      have b4 : (eNear S C x != 0) = true := by simpa using hE
      clear hE n1 n2
      go_wp2_with fail
      go_ret
      exact ⟨rfl, BW⟩
    have b1 : (eNear S C x == 0) = true := by simpa using hE
    by_cases hC0 : C.length = 0
    · obtain ⟨n1, n2⟩ := near_nil hE hC0
      have b2 : (((vNear S C x).length : Int) == 0) = true := by rw [n1]; rfl
      have b3 : (eTo S C x == 5) = true := by rw [n2]; rfl
      have b5 : ((C.length : Int) == 0) = true := by rw [hC0]; rfl
      have b4 : (eNear S C x != 0) = false := by simpa using hE
      clear hE n1 n2 hC0
      go_wp2_with fail
      go_ret
      exact ⟨rfl, BW⟩
    have hCp : 0 < C.length := by omega
    obtain ⟨n1, n2⟩ := near_to hE hCp
    have hlen := near_some hE hCp
    have b5 : ((C.length : Int) == 0) = false := by rw [beq_eq_false_iff_ne]; omega
    have b4 : (eNear S C x != 0) = false := by simpa using hE
    have HN := Lib.hid (And.intro n1 (And.intro n2 hlen))
    have HE := Lib.hid hE
    clear n1 n2 hlen hE hC0
    go_wp2_with fail
    go_loopw [24] (fun i wr => ∃ k : Nat, k ≤ C.length ∧ i = .int .i64 (k : Int) ∧ Ints wr a1 (vNear S C x) ∧ Below w3.heap.size w3 wr) (fun i _ => C.length - (intOf i).toNat)
    case atStart => exact ⟨0, Nat.zero_le _, rfl, J1, BB⟩
    case round =>
      clear J1 BB BW
      obtain ⟨k, hk, rfl, J1, BB⟩ := hrel
      have BW : Below W.heap.size W wr := B3W.trans (BB.mono B3W.size)
      have cX := kept_cell BB c3 hX3
      by_cases hlt : k < C.length
      · have hck : wr.cell? ⟨g, k, none⟩ = some (.int .i64 (gi C k)) := by simpa using ints_at (C3.below BB) rfl hlt
        obtain ⟨f1, f2, f3, f4⟩ := near_own HE.out hlt
        have hcb := (eCode_zero (eCW_zero HE.out).1).2.1 k hlt
        have hSp := (eCode_zero (eCW_zero HE.out).1).1
        have hNb := nW_bd hSp
        have hdist := fun V hI => impl_DistanceOf ax S cx (by omega) (gi C k) (by omega) x hx V hI
        rw [f1, f2] at hdist
        obtain ⟨y, hy⟩ : ∃ y, y = gi C k := ⟨_, rfl⟩
        rw [← hy] at hck hdist f3 f4
        obtain ⟨D1, hD1⟩ : ∃ D1, D1 = dist S y x := ⟨_, rfl⟩
        rw [← hD1] at hdist f3 f4
        have i1 : (0 : Int) ≤ (k : Int) := by omega
        have i2 : (k : Int) < (C.length : Int) := by omega
        have IXr := I3.below BB
        have HF := Lib.hid (And.intro f3 f4)
        have sB := BB.size
        clear f1 f2 f3 f4 hcb hSp hNb hy hD1
        go_wp2_with fail
        have fX := fam_cell cX
        have fC := fam_cell hck
        refine wp_region_fam (by kernel_rfl) (by kernel_rfl) ?_
        repeat (go_big_quiet_step ((go_at_call 9; exact fam_calls (hdist _ (IXr.below (fam_below _))))))
        refine wpQuiet_nil ?_
        rintro _ ⟨z, rfl⟩
        have hb2 := fam_below z
        generalize fam wr z = w2 at hb2 ⊢
        clear fX fC hdist IXr cX
        have J2 := J1.below hb2
        have hck2 := hck
        replace hck2 : w2.cell? ⟨g, k, none⟩ = some (.int .i64 y) := kept_cell hb2 hck (World.block_lt_of_cell? wr _ hck)
        have hh := hasInt_any a1 (vNear S C x) c1 y w2 (by omega) J2
        have j1 : ¬ (D1 < vTo S C x) := by rw [HN.out.2.1]; have := HF.out.1; omega
        clear hck J1
        by_cases hq : D1 = toW S C x
        · have hv : hasTo (vNear S C x) y (vNear S C x).length = true := by obtain ⟨j, hj, e⟩ := mem_gi (HF.out.2.1 hq); exact (hasTo_iff _ _ _).2 ⟨j, hj, e⟩
          have bq : (D1 == vTo S C x) = true := by rw [HN.out.2.1]; simpa using hq
          rw [hv] at hh
          clear hq hv
          go_wp2_with fail
          refine hh.mono ?_
          rintro e w9' ⟨rfl, hb3⟩
          clear hh
          go_wp2_with fail
          go_roundw
          case rel => exact ⟨k + 1, by omega, by go_num, J2.below hb3, (BB.trans (hb2.mono sB)).trans (hb3.mono (by have := hb2.size; omega))⟩
          case measure => simp [intOf]; omega
        · have hv : hasTo (vNear S C x) y (vNear S C x).length = false := Bool.eq_false_iff.2 fun hz => by obtain ⟨j, hj, e⟩ := (hasTo_iff _ _ _).1 hz; exact hq (HF.out.2.2 (by rw [← e]; exact gi_mem hj))
          have bq : (D1 == vTo S C x) = false := by rw [HN.out.2.1]; simpa using hq
          rw [hv] at hh
          clear hq hv
          go_wp2_with fail
          refine hh.mono ?_
          rintro e w9' ⟨rfl, hb3⟩
          clear hh
          go_wp2_with fail
          go_roundw
          case rel => exact ⟨k + 1, by omega, by go_num, J2.below hb3, (BB.trans (hb2.mono sB)).trans (hb3.mono (by have := hb2.size; omega))⟩
          case measure => simp [intOf]; omega
      · have i2 : ¬ (k : Int) < (C.length : Int) := by omega
        have b6 : (eTo S C x == 0) = true := by rw [HN.out.1]; rfl
        have b7 : (0 : Int) < ((vNear S C x).length : Int) := by have := HN.out.2.2; omega
        go_wp2_with fail
        go_ret
        exact ⟨by show Ending.returned (.bool (decide (0 < (vNear S C x).length))) = _; rw [decide_eq_true HN.out.2.2], BW⟩

end Go.Proofs.Ytfpcdffahjoejaa
