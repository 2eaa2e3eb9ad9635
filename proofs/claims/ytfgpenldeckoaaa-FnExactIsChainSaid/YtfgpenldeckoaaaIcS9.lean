/-
  The contract of the model's IsChain. By an AI agent.
-/
import Derived.Test.YtfgpenldeckoaaaMic9
import Derived.Test.YtfgpenldeckoaaaTog3h
import Derived.Test.YtfgpenldeckoaaaSpace
import Derived.Test.YtfgpenldeckoaaaAppend
import Derived.Deep.RegionLaw
namespace Go.Proofs.Ytfgpenldeckoaaa
open Go.RowKit Cv
set_option linter.unusedVariables false
set_option linter.unusedSimpArgs false
set_option maxRecDepth 100000

theorem tup_ic {b c : Bool} {x y : Int} (hb : b = c) (hx : x = y) : Ending.returned (.tuple #[.bool b, .int .i64 x]) = Ending.returned (.tuple #[.bool c, .int .i64 y]) := by rw [hb, hx]
set_option maxHeartbeats 4000000 in
theorem spec_IsChain_1 (ao : Option Addr) (S : List Int) (cap : Nat) (hn : S.length ≤ 4294967296) (ar : Option Addr) (R : List (List Int)) (capr : Nat) (hnr : R.length ≤ 4294967296) (hRl : ∀ i, i < R.length → (rr R i).length ≤ 4294967296) (lo hi : Nat) (w : World) (hS : Ints w ao S) (hR : RdRws w lo hi (.slice ar R.length capr) R) (h1 : isSp S = false) :
    Calls Try.prog 32 #[.agg #[.slice ao S.length cap], .slice ar R.length capr] w fun e w' => e = .returned (.tuple #[.bool (vIc S R), .int .i64 (eIc S R)]) ∧ Below w.heap.size w w' := by
  obtain ⟨x1, x2⟩ := eIc_1 (R := R) h1
  have HE := Lib.hid x1
  have HV := Lib.hid x2
  have H1 := Lib.hid h1
  clear x1 x2 h1
  have B0 : Below w.heap.size w (w.alloc (.cells #[.slice ao S.length cap] 28)) := by go_grown
  have c := cell_new w (.slice ao S.length cap) 28
  have l := lt_alloc w (.cells #[.slice ao S.length cap] 28)
  go_enter Try.func32, Try.ntmps32
  go_wp2_with fail
  refine (l01Is_any ao S cap _ hn (hS.below B0)).mono ?_
  rw [H1.out]
  rintro e w1 ⟨rfl, hb1⟩
  replace c := kept_cell hb1 c l
  replace l := lt_of_below hb1 l
  have B1 := B0.trans (hb1.mono B0.size)
  clear hb1 B0
  go_wp2_with fail
  go_ret2
  exact ⟨tup_ic HV.out.symm HE.out.symm, B1⟩

set_option maxHeartbeats 4000000 in
theorem spec_IsChain_n (ao : Option Addr) (S : List Int) (cap : Nat) (hn : S.length ≤ 4294967296) (ar : Option Addr) (R : List (List Int)) (capr : Nat) (hnr : R.length ≤ 4294967296) (hRl : ∀ i, i < R.length → (rr R i).length ≤ 4294967296) (lo hi : Nat) (w : World) (hS : Ints w ao S) (hR : RdRws w lo hi (.slice ar R.length capr) R) (h1 : isSp S = true) (h2 : ¬ R.length ≤ 10) :
    Calls Try.prog 32 #[.agg #[.slice ao S.length cap], .slice ar R.length capr] w fun e w' => e = .returned (.tuple #[.bool (vIc S R), .int .i64 (eIc S R)]) ∧ Below w.heap.size w w' := by
  obtain ⟨x1, x2⟩ := eIc_n h1 h2
  have HE := Lib.hid x1
  have HV := Lib.hid x2
  have H1 := Lib.hid h1
  have i1 : (10 : Int) < (R.length : Int) := by omega
  clear x1 x2 h1
  have B0 : Below w.heap.size w (w.alloc (.cells #[.slice ao S.length cap] 28)) := by go_grown
  have c := cell_new w (.slice ao S.length cap) 28
  have l := lt_alloc w (.cells #[.slice ao S.length cap] 28)
  go_enter Try.func32, Try.ntmps32
  go_wp2_with fail
  refine (l01Is_any ao S cap _ hn (hS.below B0)).mono ?_
  rw [H1.out]
  rintro e w1 ⟨rfl, hb1⟩
  replace c := kept_cell hb1 c l
  replace l := lt_of_below hb1 l
  have B1 := B0.trans (hb1.mono B0.size)
  clear hb1 B0
  go_wp2_with fail
  go_ret2
  exact ⟨tup_ic HV.out.symm HE.out.symm, B1⟩

set_option maxHeartbeats 4000000 in
theorem spec_IsChain (ao : Option Addr) (S : List Int) (cap : Nat) (hn : S.length ≤ 4294967296) (ar : Option Addr) (R : List (List Int)) (capr : Nat) (hnr : R.length ≤ 4294967296) (hRl : ∀ i, i < R.length → (rr R i).length ≤ 4294967296) (lo hi : Nat) (w : World) (hS : Ints w ao S) (hR : RdRws w lo hi (.slice ar R.length capr) R)  :
    Calls Try.prog 32 #[.agg #[.slice ao S.length cap], .slice ar R.length capr] w fun e w' => e = .returned (.tuple #[.bool (vIc S R), .int .i64 (eIc S R)]) ∧ Below w.heap.size w w' := by
  cases h1 : isSp S with
  | false => exact spec_IsChain_1 ao S cap hn ar R capr hnr hRl lo hi w hS hR h1
  | true =>
  by_cases h2 : R.length ≤ 10
  case neg => exact spec_IsChain_n ao S cap hn ar R capr hnr hRl lo hi w hS hR h1 h2
  have H1 := Lib.hid h1
  have HSp := Lib.hid ((isSp_iff S).1 h1)
  have HC2 : Hid (alC S R R.length = false → eIc S R = 2 ∧ vIc S R = false) := Lib.hid fun h => eIc_c h1 h2 h
  have HC0 : Hid (alC S R R.length = true → eIc S R = 0 ∧ vIc S R = chB R (R.length - 1)) := Lib.hid fun h => eIc_0 h1 h2 h
  have i1 : ¬ (10 : Int) < (R.length : Int) := by omega
  clear h1
  have B0 : Below w.heap.size w (w.alloc (.cells #[.slice ao S.length cap] 28)) := by go_grown
  have c := cell_new w (.slice ao S.length cap) 28
  have l := lt_alloc w (.cells #[.slice ao S.length cap] 28)
  go_enter Try.func32, Try.ntmps32
  go_wp2_with fail
  refine (l01Is_any ao S cap _ hn (hS.below B0)).mono ?_
  rw [H1.out]
  rintro e w1 ⟨rfl, hb1⟩
  replace c := kept_cell hb1 c l
  replace l := lt_of_below hb1 l
  have B1 := B0.trans (hb1.mono B0.size)
  clear hb1 B0
  go_wp2_with fail
  go_loopw [17] (fun i wr => ∃ k : Nat, k ≤ R.length ∧ i = .int .i64 k ∧ Hid (alC S R k = true) ∧ wr.cell? ⟨w.heap.size, 0, none⟩ = some (.slice ao S.length cap) ∧ w.heap.size < wr.heap.size ∧ Below w.heap.size w wr) (fun i _ => R.length - (intOf i).toNat)
  case atStart => exact ⟨0, Nat.zero_le _, rfl, Lib.hid rfl, c, l, B1⟩
  case round =>
    clear c l B1
    obtain ⟨k, hk, rfl, HA, c, l, B⟩ := hrel
    by_cases hlt : k < R.length
    · obtain ⟨g, z, rfl, hgl, hcz, hz⟩ := (hR.below B).at hlt
      obtain ⟨za, zk, rfl⟩ := hz.shape
      have hzl := hRl k hlt
      have HN : Hid (alC S R (k + 1) = codeB S (rr R k)) := Lib.hid (by simp [alC, HA.out])
      cases hck : codeB S (rr R k) with
      | true =>
        have HCK := Lib.hid hck
        clear hck
        go_wp2_with fail
        refine wp_region_held_drew (S := fun w' => w'.cell? ⟨w.heap.size, 0, none⟩ = some (.slice ao S.length cap) ∧ w'.cell? ⟨g, k, none⟩ = some (.slice za (rr R k).length zk)) (by kernel_rfl) (⟨c, hcz⟩) (fun hHeld => ?_)
        refine wpAnyH_take (i := 0) (v := ?_) rfl (by kernel_rfl) (by kernel_rfl) (by kernel_rfl) (fun _ _ _ h => h) (Or.inl ⟨by rfl, ?_⟩) (by assumption) ?_
        rotate_left
        · (intro w hSw; obtain ⟨hSw0, hSw1⟩ := hSw; (try dsimp only at hSw0 hSw1); go_simp; try (with_reducible rfl))
        (try simp only [Act.put, List.setIfInBounds_toArray, List.set_cons_zero, List.set_cons_succ, List.getElem_toArray, List.getElem_cons_succ, List.getElem_cons_zero])
        refine wpAnyH_take (i := 1) (v := ?_) rfl (by kernel_rfl) (by kernel_rfl) (by kernel_rfl) (fun _ _ _ h => h) (Or.inl ⟨by rfl, ?_⟩) (by assumption) ?_
        rotate_left
        · (intro w hSw; obtain ⟨hSw0, hSw1⟩ := hSw; (try dsimp only at hSw0 hSw1); go_simp; try (with_reducible rfl))
        (try simp only [Act.put, List.setIfInBounds_toArray, List.set_cons_zero, List.set_cons_succ, List.getElem_toArray, List.getElem_cons_succ, List.getElem_cons_zero])
        refine wpAnyH_take (i := 2) (v := ?_) rfl (by kernel_rfl) (by kernel_rfl) (by kernel_rfl) (fun _ _ _ h => h) (Or.inl ⟨by rfl, ?_⟩) (by assumption) ?_
        rotate_left
        · (intro w hSw; obtain ⟨hSw0, hSw1⟩ := hSw; (try dsimp only at hSw0 hSw1); go_simp; try (with_reducible rfl))
        (try simp only [Act.put, List.setIfInBounds_toArray, List.set_cons_zero, List.set_cons_succ, List.getElem_toArray, List.getElem_cons_succ, List.getElem_cons_zero])
        refine wpAnyH_take (i := 3) (v := ?_) rfl (by kernel_rfl) (by kernel_rfl) (by kernel_rfl) (fun _ _ _ h => h) (Or.inl ⟨by rfl, ?_⟩) (by assumption) ?_
        rotate_left
        · (intro w hSw; obtain ⟨hSw0, hSw1⟩ := hSw; (try dsimp only at hSw0 hSw1); go_simp; try (with_reducible rfl))
        (try simp only [Act.put, List.setIfInBounds_toArray, List.set_cons_zero, List.set_cons_succ, List.getElem_toArray, List.getElem_cons_succ, List.getElem_cons_zero])
        refine wpAnyH_take (i := 4) (v := ?_) rfl (by kernel_rfl) (by kernel_rfl) (by kernel_rfl) (fun _ _ _ h => h) (Or.inl ⟨by rfl, ?_⟩) (by assumption) ?_
        rotate_left
        · (intro w hSw; obtain ⟨hSw0, hSw1⟩ := hSw; (try dsimp only at hSw0 hSw1); go_simp; try (with_reducible rfl))
        (try simp only [Act.put, List.setIfInBounds_toArray, List.set_cons_zero, List.set_cons_succ, List.getElem_toArray, List.getElem_cons_succ, List.getElem_cons_zero])
        refine wpAnyH_ready (rs := [5]) (by kernel_rfl) (by simp) ?_
        refine AllReadyH.cons rfl (fun K hK => ?_) AllReadyH.nil
        go_simp
        (go_at_call 58; refine (l01Code_any ao S cap HSp.out za (rr R k) zk hzl _ ((hS.below B).below (Below.refl wr.heap.size wr).drew) ((own_ints hz).below (Below.refl wr.heap.size wr).drew)).mono ?_)
        rintro e x1 ⟨rfl, hb1⟩
        have H1 : Below wr.heap.size wr x1 := Below.trans (Below.refl wr.heap.size wr).drew (hb1.mono (Below.size (Below.refl wr.heap.size wr).drew))
        refine hK.out _ _ (⟨kept_cell H1 c l, kept_cell H1 hcz hgl⟩) (fun hHeld => ?_)
        clear hK K
        (try simp only [Act.put, List.setIfInBounds_toArray, List.set_cons_zero, List.set_cons_succ, List.getElem_toArray, List.getElem_cons_succ, List.getElem_cons_zero])
        refine wpAnyH_take (i := 6) (v := ?_) rfl (by kernel_rfl) (by kernel_rfl) (by kernel_rfl) (fun _ _ _ h => h) (Or.inl ⟨by rfl, ?_⟩) (by assumption) ?_
        rotate_left
        · (intro w hSw; obtain ⟨hSw0, hSw1⟩ := hSw; (try dsimp only at hSw0 hSw1); go_simp; try (with_reducible rfl))
        (try simp only [Act.put, List.setIfInBounds_toArray, List.set_cons_zero, List.set_cons_succ, List.getElem_toArray, List.getElem_cons_succ, List.getElem_cons_zero])
        refine wpAnyH_done (by kernel_rfl) ?_ _
        (try simp only [Act.put, List.setIfInBounds_toArray, List.set_cons_zero, List.set_cons_succ, List.getElem_toArray, List.getElem_cons_succ, List.getElem_cons_zero])
        rw [HCK.out]
        have Hn := B.trans (Below.mono H1 B.size)
        replace c := kept_cell H1 c l
        replace l := lt_of_below H1 l
        obtain ⟨wn, hwn⟩ : ∃ z, z = x1 := ⟨_, rfl⟩
        rw [← hwn] at Hn c l ⊢
        clear hwn hcz hgl hz B
        go_wp2_with fail
        go_roundw
        case rel => exact ⟨k + 1, by omega, by go_num, Lib.hid (by rw [HN.out, HCK.out]), c, l, Hn⟩
        case measure => simp [intOf]; omega
      | false =>
        have HCK := Lib.hid hck
        obtain ⟨x1, x2⟩ := HC2.out (alC_stop (by rw [HN.out, hck]) _ hlt)
        have HE := Lib.hid x1
        have HV := Lib.hid x2
        clear hck x1 x2
        go_wp2_with fail
        refine wp_region_held_drew (S := fun w' => w'.cell? ⟨w.heap.size, 0, none⟩ = some (.slice ao S.length cap) ∧ w'.cell? ⟨g, k, none⟩ = some (.slice za (rr R k).length zk)) (by kernel_rfl) (⟨c, hcz⟩) (fun hHeld => ?_)
        refine wpAnyH_take (i := 0) (v := ?_) rfl (by kernel_rfl) (by kernel_rfl) (by kernel_rfl) (fun _ _ _ h => h) (Or.inl ⟨by rfl, ?_⟩) (by assumption) ?_
        rotate_left
        · (intro w hSw; obtain ⟨hSw0, hSw1⟩ := hSw; (try dsimp only at hSw0 hSw1); go_simp; try (with_reducible rfl))
        (try simp only [Act.put, List.setIfInBounds_toArray, List.set_cons_zero, List.set_cons_succ, List.getElem_toArray, List.getElem_cons_succ, List.getElem_cons_zero])
        refine wpAnyH_take (i := 1) (v := ?_) rfl (by kernel_rfl) (by kernel_rfl) (by kernel_rfl) (fun _ _ _ h => h) (Or.inl ⟨by rfl, ?_⟩) (by assumption) ?_
        rotate_left
        · (intro w hSw; obtain ⟨hSw0, hSw1⟩ := hSw; (try dsimp only at hSw0 hSw1); go_simp; try (with_reducible rfl))
        (try simp only [Act.put, List.setIfInBounds_toArray, List.set_cons_zero, List.set_cons_succ, List.getElem_toArray, List.getElem_cons_succ, List.getElem_cons_zero])
        refine wpAnyH_take (i := 2) (v := ?_) rfl (by kernel_rfl) (by kernel_rfl) (by kernel_rfl) (fun _ _ _ h => h) (Or.inl ⟨by rfl, ?_⟩) (by assumption) ?_
        rotate_left
        · (intro w hSw; obtain ⟨hSw0, hSw1⟩ := hSw; (try dsimp only at hSw0 hSw1); go_simp; try (with_reducible rfl))
        (try simp only [Act.put, List.setIfInBounds_toArray, List.set_cons_zero, List.set_cons_succ, List.getElem_toArray, List.getElem_cons_succ, List.getElem_cons_zero])
        refine wpAnyH_take (i := 3) (v := ?_) rfl (by kernel_rfl) (by kernel_rfl) (by kernel_rfl) (fun _ _ _ h => h) (Or.inl ⟨by rfl, ?_⟩) (by assumption) ?_
        rotate_left
        · (intro w hSw; obtain ⟨hSw0, hSw1⟩ := hSw; (try dsimp only at hSw0 hSw1); go_simp; try (with_reducible rfl))
        (try simp only [Act.put, List.setIfInBounds_toArray, List.set_cons_zero, List.set_cons_succ, List.getElem_toArray, List.getElem_cons_succ, List.getElem_cons_zero])
        refine wpAnyH_take (i := 4) (v := ?_) rfl (by kernel_rfl) (by kernel_rfl) (by kernel_rfl) (fun _ _ _ h => h) (Or.inl ⟨by rfl, ?_⟩) (by assumption) ?_
        rotate_left
        · (intro w hSw; obtain ⟨hSw0, hSw1⟩ := hSw; (try dsimp only at hSw0 hSw1); go_simp; try (with_reducible rfl))
        (try simp only [Act.put, List.setIfInBounds_toArray, List.set_cons_zero, List.set_cons_succ, List.getElem_toArray, List.getElem_cons_succ, List.getElem_cons_zero])
        refine wpAnyH_ready (rs := [5]) (by kernel_rfl) (by simp) ?_
        refine AllReadyH.cons rfl (fun K hK => ?_) AllReadyH.nil
        go_simp
        (go_at_call 58; refine (l01Code_any ao S cap HSp.out za (rr R k) zk hzl _ ((hS.below B).below (Below.refl wr.heap.size wr).drew) ((own_ints hz).below (Below.refl wr.heap.size wr).drew)).mono ?_)
        rintro e x1 ⟨rfl, hb1⟩
        have H1 : Below wr.heap.size wr x1 := Below.trans (Below.refl wr.heap.size wr).drew (hb1.mono (Below.size (Below.refl wr.heap.size wr).drew))
        refine hK.out _ _ (⟨kept_cell H1 c l, kept_cell H1 hcz hgl⟩) (fun hHeld => ?_)
        clear hK K
        (try simp only [Act.put, List.setIfInBounds_toArray, List.set_cons_zero, List.set_cons_succ, List.getElem_toArray, List.getElem_cons_succ, List.getElem_cons_zero])
        refine wpAnyH_take (i := 6) (v := ?_) rfl (by kernel_rfl) (by kernel_rfl) (by kernel_rfl) (fun _ _ _ h => h) (Or.inl ⟨by rfl, ?_⟩) (by assumption) ?_
        rotate_left
        · (intro w hSw; obtain ⟨hSw0, hSw1⟩ := hSw; (try dsimp only at hSw0 hSw1); go_simp; try (with_reducible rfl))
        (try simp only [Act.put, List.setIfInBounds_toArray, List.set_cons_zero, List.set_cons_succ, List.getElem_toArray, List.getElem_cons_succ, List.getElem_cons_zero])
        refine wpAnyH_done (by kernel_rfl) ?_ _
        (try simp only [Act.put, List.setIfInBounds_toArray, List.set_cons_zero, List.set_cons_succ, List.getElem_toArray, List.getElem_cons_succ, List.getElem_cons_zero])
        rw [HCK.out]
        have Hn := B.trans (Below.mono H1 B.size)
        replace c := kept_cell H1 c l
        replace l := lt_of_below H1 l
        obtain ⟨wn, hwn⟩ : ∃ z, z = x1 := ⟨_, rfl⟩
        rw [← hwn] at Hn c l ⊢
        clear hwn hcz hgl hz B
        go_wp2_with fail
        go_ret2
        exact ⟨tup_ic HV.out.symm HE.out.symm, Hn⟩
    · have ek : Hid (k = R.length) := Lib.hid (by omega)
      rw [ek.out] at HA
      obtain ⟨x1, x2⟩ := HC0.out HA.out
      have HE := Lib.hid x1
      have HV := Lib.hid x2
      obtain ⟨wo, hwo⟩ : ∃ z, z = wr := ⟨_, rfl⟩
      subst hwo
      clear x1 x2 HA c l
      go_wp2_with fail
      go_loopw [7] (fun i wr => ∃ k : Nat, k ≤ R.length - 1 ∧ i = .int .i64 ((k : Int) + 1) ∧ Hid (chB R k = true) ∧ Below w.heap.size w wr) (fun i _ => R.length - (intOf i).toNat)
      case atStart => exact ⟨0, Nat.zero_le _, by simp, Lib.hid rfl, B⟩
      case round =>
        clear B
        obtain ⟨k, hk, rfl, HA, B⟩ := hrel
        by_cases hlt : k + 1 < R.length
        · have i2 : (k : Int) + 1 < (R.length : Int) := by omega
          have i3 : (0 : Int) ≤ (k : Int) + 1 := by omega
          have i4 : ((k : Int) + 1).toNat = k + 1 := by omega
          have i5 : (k : Int) < (R.length : Int) := by omega
          have EWK : IntKind.i64.wrap (k : Int) = (k : Int) := IntWalk.i64_in _ ⟨by omega, by omega⟩
          have i0 : (0 : Int) ≤ (k : Int) := by omega
          obtain ⟨g, z, rfl, hgl, hca, ha⟩ := (hR.below B).at (show k < R.length by omega)
          obtain ⟨za, zk, rfl⟩ := ha.shape
          have hal := hRl k (by omega)
          have HN : Hid (chB R (k + 1) = sbB (rr R k) (rr R (k + 1)) (rr R k).length) := Lib.hid (by simp [chB, HA.out])
          have HK : Hid (chB R (k + 1) = false → chB R (R.length - 1) = false) := Lib.hid fun h => chB_stop h _ (by omega)
          obtain ⟨wo, hwo⟩ : ∃ z, z = wr := ⟨_, rfl⟩
          subst hwo
          go_wp2_with fail
          go_loopw [40] (fun u wr => ∃ i : Nat, i ≤ (rr R k).length ∧ u = .int .i64 i ∧ Hid (sbB (rr R k) (rr R (k + 1)) i = true) ∧ Below w.heap.size w wr) (fun u _ => (rr R k).length - (intOf u).toNat)
          case atStart => exact ⟨0, Nat.zero_le _, rfl, Lib.hid rfl, B⟩
          case round =>
            clear B hca ha hgl
            obtain ⟨i, hi', rfl, HS, B⟩ := hrel
            by_cases hli : i < (rr R k).length
            · obtain ⟨g1, z1, e1, hgl, hca, ha⟩ := (hR.below B).at (show k < R.length by omega)
              obtain ⟨zc, zl, rfl⟩ := ha.shape
              simp only [Option.some.injEq, Addr.mk.injEq, and_true] at e1
              subst e1
              have hca0 := hca
              obtain ⟨cb, co, e2, hxl, hcx⟩ := (own_ints ha).at hli
              obtain rfl := e2
              replace hcx := hcx i hli
              obtain ⟨g2, z2, e3, hgl2, hcb, hb⟩ := (hR.below B).at hlt
              obtain ⟨zb, zm, rfl⟩ := hb.shape
              simp only [Option.some.injEq, Addr.mk.injEq, and_true] at e3
              subst e3
              have hbl := hRl (k + 1) hlt
              have HNi : Hid (sbB (rr R k) (rr R (k + 1)) (i + 1) = decide (gi (rr R k) i ∈ rr R (k + 1))) := Lib.hid (by simp [sbB, HS.out])
              have HKi : Hid (sbB (rr R k) (rr R (k + 1)) (i + 1) = false → sbB (rr R k) (rr R (k + 1)) (rr R k).length = false) := Lib.hid fun h => sbB_stop h _ (by omega)
              obtain ⟨x, hx⟩ : ∃ x, x = gi (rr R k) i := ⟨_, rfl⟩
              rw [← hx] at hcx HNi
              have i6 : (i : Int) < ((rr R k).length : Int) := by omega
              have i7 : (0 : Int) ≤ (i : Int) := by omega
              clear hx ha hgl2 hca0 HS
              cases hck : decide (x ∈ rr R (k + 1)) with
              | true =>
                have HCK := Lib.hid hck
                clear hck
                go_wp2_with fail
                refine wp_region_held_drew (S := fun w' => w'.cell? ⟨g, k + 1, none⟩ = some (.slice zb (rr R (k + 1)).length zm) ∧ w'.cell? ⟨g, k, none⟩ = some (.slice (some ⟨cb, co, none⟩) (rr R k).length zl) ∧ w'.cell? ⟨cb, co + i, none⟩ = some (.int .i64 x)) (by kernel_rfl) (⟨hcb, hca, hcx⟩) (fun hHeld => ?_)
                refine wpAnyH_take (i := 0) (v := ?_) rfl (by kernel_rfl) (by kernel_rfl) (by kernel_rfl) (fun _ _ _ h => h) (Or.inl ⟨by rfl, ?_⟩) (by assumption) ?_
                rotate_left
                · (intro w hSw; obtain ⟨hSw0, hSw1, hSw2⟩ := hSw; (try dsimp only at hSw0 hSw1 hSw2); go_simp; try (with_reducible rfl))
                (try simp only [Act.put, List.setIfInBounds_toArray, List.set_cons_zero, List.set_cons_succ, List.getElem_toArray, List.getElem_cons_succ, List.getElem_cons_zero])
                refine wpAnyH_take (i := 1) (v := ?_) rfl (by kernel_rfl) (by kernel_rfl) (by kernel_rfl) (fun _ _ _ h => h) (Or.inl ⟨by rfl, ?_⟩) (by assumption) ?_
                rotate_left
                · (intro w hSw; obtain ⟨hSw0, hSw1, hSw2⟩ := hSw; (try dsimp only at hSw0 hSw1 hSw2); go_simp; try (with_reducible rfl))
                (try simp only [Act.put, List.setIfInBounds_toArray, List.set_cons_zero, List.set_cons_succ, List.getElem_toArray, List.getElem_cons_succ, List.getElem_cons_zero])
                refine wpAnyH_take (i := 2) (v := ?_) rfl (by kernel_rfl) (by kernel_rfl) (by kernel_rfl) (fun _ _ _ h => h) (Or.inl ⟨by rfl, ?_⟩) (by assumption) ?_
                rotate_left
                · (intro w hSw; obtain ⟨hSw0, hSw1, hSw2⟩ := hSw; (try dsimp only at hSw0 hSw1 hSw2); go_simp; try (with_reducible rfl))
                (try simp only [Act.put, List.setIfInBounds_toArray, List.set_cons_zero, List.set_cons_succ, List.getElem_toArray, List.getElem_cons_succ, List.getElem_cons_zero])
                refine wpAnyH_take (i := 3) (v := ?_) rfl (by kernel_rfl) (by kernel_rfl) (by kernel_rfl) (fun _ _ _ h => h) (Or.inl ⟨by rfl, ?_⟩) (by assumption) ?_
                rotate_left
                · (intro w hSw; obtain ⟨hSw0, hSw1, hSw2⟩ := hSw; (try dsimp only at hSw0 hSw1 hSw2); go_simp; try (with_reducible rfl))
                (try simp only [Act.put, List.setIfInBounds_toArray, List.set_cons_zero, List.set_cons_succ, List.getElem_toArray, List.getElem_cons_succ, List.getElem_cons_zero])
                refine wpAnyH_take (i := 4) (v := ?_) rfl (by kernel_rfl) (by kernel_rfl) (by kernel_rfl) (fun _ _ _ h => h) (Or.inl ⟨by rfl, ?_⟩) (by assumption) ?_
                rotate_left
                · (intro w hSw; obtain ⟨hSw0, hSw1, hSw2⟩ := hSw; (try dsimp only at hSw0 hSw1 hSw2); go_simp; try (with_reducible rfl))
                (try simp only [Act.put, List.setIfInBounds_toArray, List.set_cons_zero, List.set_cons_succ, List.getElem_toArray, List.getElem_cons_succ, List.getElem_cons_zero])
                refine wpAnyH_take (i := 5) (v := ?_) rfl (by kernel_rfl) (by kernel_rfl) (by kernel_rfl) (fun _ _ _ h => h) (Or.inl ⟨by rfl, ?_⟩) (by assumption) ?_
                rotate_left
                · (intro w hSw; obtain ⟨hSw0, hSw1, hSw2⟩ := hSw; (try dsimp only at hSw0 hSw1 hSw2); go_simp; try (with_reducible rfl))
                (try simp only [Act.put, List.setIfInBounds_toArray, List.set_cons_zero, List.set_cons_succ, List.getElem_toArray, List.getElem_cons_succ, List.getElem_cons_zero])
                refine wpAnyH_take (i := 6) (v := ?_) rfl (by kernel_rfl) (by kernel_rfl) (by kernel_rfl) (fun _ _ _ h => h) (Or.inl ⟨by rfl, ?_⟩) (by assumption) ?_
                rotate_left
                · (intro w hSw; obtain ⟨hSw0, hSw1, hSw2⟩ := hSw; (try dsimp only at hSw0 hSw1 hSw2); go_simp; try (with_reducible rfl))
                (try simp only [Act.put, List.setIfInBounds_toArray, List.set_cons_zero, List.set_cons_succ, List.getElem_toArray, List.getElem_cons_succ, List.getElem_cons_zero])
                refine wpAnyH_take (i := 7) (v := ?_) rfl (by kernel_rfl) (by kernel_rfl) (by kernel_rfl) (fun _ _ _ h => h) (Or.inl ⟨by rfl, ?_⟩) (by assumption) ?_
                rotate_left
                · (intro w hSw; obtain ⟨hSw0, hSw1, hSw2⟩ := hSw; (try dsimp only at hSw0 hSw1 hSw2); go_simp; try (with_reducible rfl))
                (try simp only [Act.put, List.setIfInBounds_toArray, List.set_cons_zero, List.set_cons_succ, List.getElem_toArray, List.getElem_cons_succ, List.getElem_cons_zero])
                refine wpAnyH_take (i := 8) (v := ?_) rfl (by kernel_rfl) (by kernel_rfl) (by kernel_rfl) (fun _ _ _ h => h) (Or.inl ⟨by rfl, ?_⟩) (by assumption) ?_
                rotate_left
                · (intro w hSw; obtain ⟨hSw0, hSw1, hSw2⟩ := hSw; (try dsimp only at hSw0 hSw1 hSw2); go_simp; try (with_reducible rfl))
                (try simp only [Act.put, List.setIfInBounds_toArray, List.set_cons_zero, List.set_cons_succ, List.getElem_toArray, List.getElem_cons_succ, List.getElem_cons_zero])
                refine wpAnyH_take (i := 9) (v := ?_) rfl (by kernel_rfl) (by kernel_rfl) (by kernel_rfl) (fun _ _ _ h => h) (Or.inl ⟨by rfl, ?_⟩) (by assumption) ?_
                rotate_left
                · (intro w hSw; obtain ⟨hSw0, hSw1, hSw2⟩ := hSw; (try dsimp only at hSw0 hSw1 hSw2); go_simp; try (with_reducible rfl))
                (try simp only [Act.put, List.setIfInBounds_toArray, List.set_cons_zero, List.set_cons_succ, List.getElem_toArray, List.getElem_cons_succ, List.getElem_cons_zero])
                refine wpAnyH_take (i := 10) (v := ?_) rfl (by kernel_rfl) (by kernel_rfl) (by kernel_rfl) (fun _ _ _ h => h) (Or.inl ⟨by rfl, ?_⟩) (by assumption) ?_
                rotate_left
                · (intro w hSw; obtain ⟨hSw0, hSw1, hSw2⟩ := hSw; (try dsimp only at hSw0 hSw1 hSw2); go_simp; try (with_reducible rfl))
                (try simp only [Act.put, List.setIfInBounds_toArray, List.set_cons_zero, List.set_cons_succ, List.getElem_toArray, List.getElem_cons_succ, List.getElem_cons_zero])
                refine wpAnyH_take (i := 11) (v := ?_) rfl (by kernel_rfl) (by kernel_rfl) (by kernel_rfl) (fun _ _ _ h => h) (Or.inl ⟨by rfl, ?_⟩) (by assumption) ?_
                rotate_left
                · (intro w hSw; obtain ⟨hSw0, hSw1, hSw2⟩ := hSw; (try dsimp only at hSw0 hSw1 hSw2); go_simp; try (with_reducible rfl))
                (try simp only [Act.put, List.setIfInBounds_toArray, List.set_cons_zero, List.set_cons_succ, List.getElem_toArray, List.getElem_cons_succ, List.getElem_cons_zero])
                refine wpAnyH_ready (rs := [12]) (by kernel_rfl) (by simp) ?_
                refine AllReadyH.cons rfl (fun K hK => ?_) AllReadyH.nil
                go_simp
                (go_at_call 66; refine (l01Has_any zb (rr R (k + 1)) zm x hbl _ ((own_ints hb).below (Below.refl wr.heap.size wr).drew)).mono ?_)
                rintro e x1 ⟨rfl, rfl⟩
                refine hK.out _ _ (⟨kept_cell (Below.refl wr.heap.size wr).drew hcb hgl, kept_cell (Below.refl wr.heap.size wr).drew hca hgl, kept_cell (Below.refl wr.heap.size wr).drew hcx hxl⟩) (fun hHeld => ?_)
                clear hK K
                (try simp only [Act.put, List.setIfInBounds_toArray, List.set_cons_zero, List.set_cons_succ, List.getElem_toArray, List.getElem_cons_succ, List.getElem_cons_zero])
                refine wpAnyH_take (i := 13) (v := ?_) rfl (by kernel_rfl) (by kernel_rfl) (by kernel_rfl) (fun _ _ _ h => h) (Or.inl ⟨by rfl, ?_⟩) (by assumption) ?_
                rotate_left
                · (intro w hSw; obtain ⟨hSw0, hSw1, hSw2⟩ := hSw; (try dsimp only at hSw0 hSw1 hSw2); go_simp; try (with_reducible rfl))
                (try simp only [Act.put, List.setIfInBounds_toArray, List.set_cons_zero, List.set_cons_succ, List.getElem_toArray, List.getElem_cons_succ, List.getElem_cons_zero])
                refine wpAnyH_done (by kernel_rfl) ?_ _
                (try simp only [Act.put, List.setIfInBounds_toArray, List.set_cons_zero, List.set_cons_succ, List.getElem_toArray, List.getElem_cons_succ, List.getElem_cons_zero])
                rw [HCK.out]
                have Hn := B.trans (Below.mono (Below.refl wr.heap.size wr).drew B.size)
                obtain ⟨wn, hwn⟩ : ∃ z, z = wr.drew := ⟨_, rfl⟩
                rw [← hwn] at Hn ⊢
                clear hwn hca hcb hcx hgl hxl hb B
                go_wp2_with fail
                go_roundw
                case rel => exact ⟨i + 1, by omega, by go_num, Lib.hid (by rw [HNi.out, HCK.out]), Hn⟩
                case measure => simp [intOf]; omega
              | false =>
                have HCK := Lib.hid hck
                have HVf : Hid (vIc S R = false) := Lib.hid (by rw [HV.out]; exact HK.out (by rw [HN.out]; exact HKi.out (by rw [HNi.out, hck])))
                clear hck
                go_wp2_with fail
                refine wp_region_held_drew (S := fun w' => w'.cell? ⟨g, k + 1, none⟩ = some (.slice zb (rr R (k + 1)).length zm) ∧ w'.cell? ⟨g, k, none⟩ = some (.slice (some ⟨cb, co, none⟩) (rr R k).length zl) ∧ w'.cell? ⟨cb, co + i, none⟩ = some (.int .i64 x)) (by kernel_rfl) (⟨hcb, hca, hcx⟩) (fun hHeld => ?_)
                refine wpAnyH_take (i := 0) (v := ?_) rfl (by kernel_rfl) (by kernel_rfl) (by kernel_rfl) (fun _ _ _ h => h) (Or.inl ⟨by rfl, ?_⟩) (by assumption) ?_
                rotate_left
                · (intro w hSw; obtain ⟨hSw0, hSw1, hSw2⟩ := hSw; (try dsimp only at hSw0 hSw1 hSw2); go_simp; try (with_reducible rfl))
                (try simp only [Act.put, List.setIfInBounds_toArray, List.set_cons_zero, List.set_cons_succ, List.getElem_toArray, List.getElem_cons_succ, List.getElem_cons_zero])
                refine wpAnyH_take (i := 1) (v := ?_) rfl (by kernel_rfl) (by kernel_rfl) (by kernel_rfl) (fun _ _ _ h => h) (Or.inl ⟨by rfl, ?_⟩) (by assumption) ?_
                rotate_left
                · (intro w hSw; obtain ⟨hSw0, hSw1, hSw2⟩ := hSw; (try dsimp only at hSw0 hSw1 hSw2); go_simp; try (with_reducible rfl))
                (try simp only [Act.put, List.setIfInBounds_toArray, List.set_cons_zero, List.set_cons_succ, List.getElem_toArray, List.getElem_cons_succ, List.getElem_cons_zero])
                refine wpAnyH_take (i := 2) (v := ?_) rfl (by kernel_rfl) (by kernel_rfl) (by kernel_rfl) (fun _ _ _ h => h) (Or.inl ⟨by rfl, ?_⟩) (by assumption) ?_
                rotate_left
                · (intro w hSw; obtain ⟨hSw0, hSw1, hSw2⟩ := hSw; (try dsimp only at hSw0 hSw1 hSw2); go_simp; try (with_reducible rfl))
                (try simp only [Act.put, List.setIfInBounds_toArray, List.set_cons_zero, List.set_cons_succ, List.getElem_toArray, List.getElem_cons_succ, List.getElem_cons_zero])
                refine wpAnyH_take (i := 3) (v := ?_) rfl (by kernel_rfl) (by kernel_rfl) (by kernel_rfl) (fun _ _ _ h => h) (Or.inl ⟨by rfl, ?_⟩) (by assumption) ?_
                rotate_left
                · (intro w hSw; obtain ⟨hSw0, hSw1, hSw2⟩ := hSw; (try dsimp only at hSw0 hSw1 hSw2); go_simp; try (with_reducible rfl))
                (try simp only [Act.put, List.setIfInBounds_toArray, List.set_cons_zero, List.set_cons_succ, List.getElem_toArray, List.getElem_cons_succ, List.getElem_cons_zero])
                refine wpAnyH_take (i := 4) (v := ?_) rfl (by kernel_rfl) (by kernel_rfl) (by kernel_rfl) (fun _ _ _ h => h) (Or.inl ⟨by rfl, ?_⟩) (by assumption) ?_
                rotate_left
                · (intro w hSw; obtain ⟨hSw0, hSw1, hSw2⟩ := hSw; (try dsimp only at hSw0 hSw1 hSw2); go_simp; try (with_reducible rfl))
                (try simp only [Act.put, List.setIfInBounds_toArray, List.set_cons_zero, List.set_cons_succ, List.getElem_toArray, List.getElem_cons_succ, List.getElem_cons_zero])
                refine wpAnyH_take (i := 5) (v := ?_) rfl (by kernel_rfl) (by kernel_rfl) (by kernel_rfl) (fun _ _ _ h => h) (Or.inl ⟨by rfl, ?_⟩) (by assumption) ?_
                rotate_left
                · (intro w hSw; obtain ⟨hSw0, hSw1, hSw2⟩ := hSw; (try dsimp only at hSw0 hSw1 hSw2); go_simp; try (with_reducible rfl))
                (try simp only [Act.put, List.setIfInBounds_toArray, List.set_cons_zero, List.set_cons_succ, List.getElem_toArray, List.getElem_cons_succ, List.getElem_cons_zero])
                refine wpAnyH_take (i := 6) (v := ?_) rfl (by kernel_rfl) (by kernel_rfl) (by kernel_rfl) (fun _ _ _ h => h) (Or.inl ⟨by rfl, ?_⟩) (by assumption) ?_
                rotate_left
                · (intro w hSw; obtain ⟨hSw0, hSw1, hSw2⟩ := hSw; (try dsimp only at hSw0 hSw1 hSw2); go_simp; try (with_reducible rfl))
                (try simp only [Act.put, List.setIfInBounds_toArray, List.set_cons_zero, List.set_cons_succ, List.getElem_toArray, List.getElem_cons_succ, List.getElem_cons_zero])
                refine wpAnyH_take (i := 7) (v := ?_) rfl (by kernel_rfl) (by kernel_rfl) (by kernel_rfl) (fun _ _ _ h => h) (Or.inl ⟨by rfl, ?_⟩) (by assumption) ?_
                rotate_left
                · (intro w hSw; obtain ⟨hSw0, hSw1, hSw2⟩ := hSw; (try dsimp only at hSw0 hSw1 hSw2); go_simp; try (with_reducible rfl))
                (try simp only [Act.put, List.setIfInBounds_toArray, List.set_cons_zero, List.set_cons_succ, List.getElem_toArray, List.getElem_cons_succ, List.getElem_cons_zero])
                refine wpAnyH_take (i := 8) (v := ?_) rfl (by kernel_rfl) (by kernel_rfl) (by kernel_rfl) (fun _ _ _ h => h) (Or.inl ⟨by rfl, ?_⟩) (by assumption) ?_
                rotate_left
                · (intro w hSw; obtain ⟨hSw0, hSw1, hSw2⟩ := hSw; (try dsimp only at hSw0 hSw1 hSw2); go_simp; try (with_reducible rfl))
                (try simp only [Act.put, List.setIfInBounds_toArray, List.set_cons_zero, List.set_cons_succ, List.getElem_toArray, List.getElem_cons_succ, List.getElem_cons_zero])
                refine wpAnyH_take (i := 9) (v := ?_) rfl (by kernel_rfl) (by kernel_rfl) (by kernel_rfl) (fun _ _ _ h => h) (Or.inl ⟨by rfl, ?_⟩) (by assumption) ?_
                rotate_left
                · (intro w hSw; obtain ⟨hSw0, hSw1, hSw2⟩ := hSw; (try dsimp only at hSw0 hSw1 hSw2); go_simp; try (with_reducible rfl))
                (try simp only [Act.put, List.setIfInBounds_toArray, List.set_cons_zero, List.set_cons_succ, List.getElem_toArray, List.getElem_cons_succ, List.getElem_cons_zero])
                refine wpAnyH_take (i := 10) (v := ?_) rfl (by kernel_rfl) (by kernel_rfl) (by kernel_rfl) (fun _ _ _ h => h) (Or.inl ⟨by rfl, ?_⟩) (by assumption) ?_
                rotate_left
                · (intro w hSw; obtain ⟨hSw0, hSw1, hSw2⟩ := hSw; (try dsimp only at hSw0 hSw1 hSw2); go_simp; try (with_reducible rfl))
                (try simp only [Act.put, List.setIfInBounds_toArray, List.set_cons_zero, List.set_cons_succ, List.getElem_toArray, List.getElem_cons_succ, List.getElem_cons_zero])
                refine wpAnyH_take (i := 11) (v := ?_) rfl (by kernel_rfl) (by kernel_rfl) (by kernel_rfl) (fun _ _ _ h => h) (Or.inl ⟨by rfl, ?_⟩) (by assumption) ?_
                rotate_left
                · (intro w hSw; obtain ⟨hSw0, hSw1, hSw2⟩ := hSw; (try dsimp only at hSw0 hSw1 hSw2); go_simp; try (with_reducible rfl))
                (try simp only [Act.put, List.setIfInBounds_toArray, List.set_cons_zero, List.set_cons_succ, List.getElem_toArray, List.getElem_cons_succ, List.getElem_cons_zero])
                refine wpAnyH_ready (rs := [12]) (by kernel_rfl) (by simp) ?_
                refine AllReadyH.cons rfl (fun K hK => ?_) AllReadyH.nil
                go_simp
                (go_at_call 66; refine (l01Has_any zb (rr R (k + 1)) zm x hbl _ ((own_ints hb).below (Below.refl wr.heap.size wr).drew)).mono ?_)
                rintro e x1 ⟨rfl, rfl⟩
                refine hK.out _ _ (⟨kept_cell (Below.refl wr.heap.size wr).drew hcb hgl, kept_cell (Below.refl wr.heap.size wr).drew hca hgl, kept_cell (Below.refl wr.heap.size wr).drew hcx hxl⟩) (fun hHeld => ?_)
                clear hK K
                (try simp only [Act.put, List.setIfInBounds_toArray, List.set_cons_zero, List.set_cons_succ, List.getElem_toArray, List.getElem_cons_succ, List.getElem_cons_zero])
                refine wpAnyH_take (i := 13) (v := ?_) rfl (by kernel_rfl) (by kernel_rfl) (by kernel_rfl) (fun _ _ _ h => h) (Or.inl ⟨by rfl, ?_⟩) (by assumption) ?_
                rotate_left
                · (intro w hSw; obtain ⟨hSw0, hSw1, hSw2⟩ := hSw; (try dsimp only at hSw0 hSw1 hSw2); go_simp; try (with_reducible rfl))
                (try simp only [Act.put, List.setIfInBounds_toArray, List.set_cons_zero, List.set_cons_succ, List.getElem_toArray, List.getElem_cons_succ, List.getElem_cons_zero])
                refine wpAnyH_done (by kernel_rfl) ?_ _
                (try simp only [Act.put, List.setIfInBounds_toArray, List.set_cons_zero, List.set_cons_succ, List.getElem_toArray, List.getElem_cons_succ, List.getElem_cons_zero])
                rw [HCK.out]
                have Hn := B.trans (Below.mono (Below.refl wr.heap.size wr).drew B.size)
                obtain ⟨wn, hwn⟩ : ∃ z, z = wr.drew := ⟨_, rfl⟩
                rw [← hwn] at Hn ⊢
                clear hwn hca hcb hcx hgl hxl hb B
                go_wp2_with fail
                go_ret2
                exact ⟨tup_ic HVf.out.symm HE.out.symm, Hn⟩
            · have ei : Hid (i = (rr R k).length) := Lib.hid (by omega)
              rw [ei.out] at HS
              have HT : Hid (chB R (k + 1) = true) := Lib.hid (by rw [HN.out, HS.out])
              go_wp2_with fail
              go_roundw
              case rel => exact ⟨k + 1, by omega, by go_num, HT, B⟩
              case measure => simp [intOf]; omega
        · have ek : Hid (k = R.length - 1) := Lib.hid (by omega)
          rw [ek.out] at HA
          have i2 : ¬ (k : Int) + 1 < (R.length : Int) := by omega
          go_wp2_with fail
          go_ret2
          exact ⟨tup_ic (by rw [HV.out, HA.out]) HE.out.symm, B⟩


end Go.Proofs.Ytfgpenldeckoaaa
