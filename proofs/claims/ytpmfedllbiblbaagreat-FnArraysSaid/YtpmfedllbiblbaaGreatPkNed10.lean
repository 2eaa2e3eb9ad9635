/-
  The program's neededOf. By an AI agent.
-/
import Derived.Test.YtpmfedllbiblbaaGreatPk34
import Derived.Test.YtpmfedllbiblbaaGreatPk35
import Derived.Test.YtpmfedllbiblbaaGreatPkMark
import Derived.Test.YtpmfedllbiblbaaGreatPkErr
namespace Go.Proofs.YtpmfedllbiblbaaGreat
open Go.RowKit Cv
set_option linter.unusedVariables false
set_option linter.unusedSimpArgs false
set_option maxRecDepth 100000

def needS (PS : List (Nat → Bool)) (bf : Nat → Bool) (k : Nat) : Bool := !eqS (fun u => (bf u || behU PS k u) || pAt PS k u) (fun u => bf u || behU PS k u)
def befT (PS : List (Nat → Bool)) (lo : Bool) : Nat → Nat → Bool
  | 0 => fun _ => false
  | k + 1 => if (needS PS (befT PS lo k) k || !lo) = true then fun u => befT PS lo k u || pAt PS k u else befT PS lo k
def outT (PS : List (Nat → Bool)) (C : List Int) (lo : Bool) : Nat → List Int
  | 0 => []
  | k + 1 => if needS PS (befT PS lo k) k = true then outT PS C lo k ++ [gi C k] else outT PS C lo k
theorem outT_len (PS : List (Nat → Bool)) (C : List Int) (lo : Bool) (k : Nat) : (outT PS C lo k).length ≤ k := by
  induction k with
  | zero => simp [outT]
  | succ k ih =>
    rw [outT]
    split
    · rw [List.length_append]; simp; omega
    · omega
theorem OwnSets.kept {w w' : World} {base : Nat} {v : Value} {ps : List (Nat → Bool)} {row : Option Nat} (h : OwnSets w base v ps) (hg : w.grownBy w' row) (hne : v.ownBlock = none ∨ v.ownBlock ≠ row) : OwnSets w' base v ps := World.ownsRow.kept h hg hne
/-- a list of numbers lies in no list of sets -/
theorem own_ne_sets {w : World} {base bs g n c : Nat} {v : Value} {L : List Int} {ps : List (Nat → Bool)} (h : OwnInts w base v L) (hs : OwnSets w bs (.slice (some ⟨g, 0, none⟩) n c) ps) : v.ownBlock ≠ some g := by
  rcases hs.2 with ⟨hv, _⟩ | ⟨g', c', cur, hv, hb, hh, _⟩
  · simp at hv
  · simp only [Value.slice.injEq, Option.some.injEq, Addr.mk.injEq, and_true, true_and] at hv
    obtain ⟨rfl, rfl, rfl⟩ := hv
    rcases h.2 with ⟨rfl, _⟩ | ⟨g2, c2, cur2, rfl, _, hh2, _⟩
    · simp [Value.ownBlock]
    · intro e
      simp only [Value.ownBlock, Option.some.injEq] at e
      subst e
      rw [hh] at hh2
      simp at hh2
theorem setsBehind_n (bs : Nat) (av : Option Addr) (K cap : Nat) (PS : List (Nat → Bool)) (hK : K = PS.length) (hl : K ≤ 1048576) (w : World) (hbs : bs ≤ w.heap.size) (hS : OwnSets w bs (.slice av K cap) PS) :
    Calls Tryz.prog 81 #[.slice av K cap] w fun e w' => ∃ g L, e = .returned (.slice (some ⟨g, 0, none⟩) K K) ∧ OwnSets w' w.heap.size (.slice (some ⟨g, 0, none⟩) K K) L ∧ L.length = K ∧ (∀ j, j < K → pAt L j = behU PS j) ∧ Below w.heap.size w w' := by
  subst hK; exact setsBehind_any bs av cap PS hl w hbs hS

theorem OwnSets.rebase11 {w : World} {base base' : Nat} {v : Value} {ps : List (Nat → Bool)} (h : OwnSets w base v ps) (hb : base' ≤ base) : OwnSets w base' v ps := by
  obtain ⟨h1, h2⟩ := h
  refine ⟨h1, ?_⟩
  rcases h2 with h2 | ⟨g, cap, cur, hv, hg, r⟩
  · exact Or.inl h2
  · exact Or.inr ⟨g, cap, cur, hv, by omega, r⟩

set_option maxHeartbeats 4000000 in
theorem neededOf_any (ac : Option Addr) (C : List Int) (capc : Nat) (hlen : C.length ≤ 1048576) (bs : Nat) (av : Option Addr) (cs : Nat) (PS : List (Nat → Bool)) (hKP0 : PS.length = C.length) (lo : Bool) (w : World) (hbs : bs ≤ w.heap.size) (hC : Ints w ac C) (oS0 : OwnSets w bs (.slice av C.length cs) PS) :
    Calls Tryz.prog 39 #[.slice ac C.length capc, .slice av C.length cs, .bool lo] w fun e w' => ∃ v, e = .returned v ∧ OwnInts w' w.heap.size v (outT PS C lo C.length) ∧ Below w.heap.size w w' := by
  have hKP : Hid (PS.length = C.length) := Lib.hid hKP0
  clear hKP0
  have hls : RowIn (.slice av C.length cs) bs w.heap.size := World.ownsRow.lt oS0
  have B0 : Below w.heap.size w (w.alloc (.cells #[] 2)) := by go_grown
  have oo := own_empty w w.heap.size (by simp) (n := w.heap.size) (by simp)
  have oS := oS0.below B0
  have hq1 : w.heap.size < (w.alloc (.cells #[] 2)).heap.size := by simp
  obtain ⟨w3, hw3⟩ : ∃ w3, w3 = w.alloc (.cells #[] 2) := ⟨_, rfl⟩
  have HW3 := Lib.hid hw3
  go_enter Tryz.func39, Tryz.ntmps39
  go_wp2_with fail
  refine (setsBehind_n bs av C.length cs PS hKP.out.symm hlen _ (by simp; omega) oS).mono ?_
  rintro e w4 ⟨gb, LB, rfl, oB, hLl, hLB, hb4⟩
  have HL := Lib.hid (And.intro hLl hLB)
  have B4 := B0.trans (hb4.mono B0.size)
  replace oo := oo.below hb4
  replace oS := oS.below hb4
  have lgb := oB.base_le
  have hz := rowz_new w4 rfl
  clear hLl hLB hb4 B0 hq1 hw3 HW3 w3
  go_wp2_with (first | (refine wpList_st16 rfl _ _ rfl hz (fun _ => false) rfl (by rw [setA_none]; rfl) ?_))
  obtain ⟨W5, bq, hW5⟩ : ∃ W5 bq, W5 = (w4.alloc (.cells #[.int .u64 0, .int .u64 0, .int .u64 0, .int .u64 0, .int .u64 0, .int .u64 0, .int .u64 0, .int .u64 0, .int .u64 0, .int .u64 0, .int .u64 0, .int .u64 0, .int .u64 0, .int .u64 0, .int .u64 0, .int .u64 0] 68)).setRow w4.heap.size (setA fun _ => false) ∧ bq = w4.heap.size := ⟨_, _, rfl, rfl⟩
  have r5 : RowAt W5 bq (fun _ => false) := by rw [hW5.1, hW5.2]; exact row_set hz
  have h45 : Below w4.heap.size w4 W5 := by rw [hW5.1]; exact ((Below.refl _ w4).alloc (Nat.le_refl _) _).grown (grown_setRow _) (by simp) (fun j e => by cases e; exact Nat.le_refl _)
  rw [← hW5.1, ← hW5.2]
  have hlb : gb < bq := by omega
  have hwb : w.heap.size ≤ bq := by have := B4.size; omega
  have hgw : w.heap.size ≤ gb := by have := lgb.1; simp at this; omega
  clear hW5 hz
  replace oo := oo.below h45
  replace oS := oS.below h45
  replace oB := (oB.below h45).rebase11 (base' := w.heap.size) (by simp)
  have B5 := B4.trans (h45.mono B4.size)
  clear B4 h45 lgb oS0
  go_loopw [7, 20] (fun v i wr => ∃ k : Nat, k ≤ C.length ∧ i = .int .i64 k ∧ OwnInts wr w.heap.size v (outT PS C lo k) ∧ RowAt wr bq (befT PS lo k) ∧ OwnSets wr bs (.slice av C.length cs) PS ∧ OwnSets wr w.heap.size (.slice (some ⟨gb, 0, none⟩) C.length C.length) LB ∧ Below w.heap.size w wr) (fun _ i _ => C.length - (intOf i).toNat)
  case atStart => exact ⟨0, Nat.zero_le _, rfl, oo, r5, oS, oB, B5⟩
  case round =>
    clear oo r5 oS oB B5
    obtain ⟨k, hk, rfl, oo, rb, oS, oB, B⟩ := hrel
    by_cases hlt : k < C.length
    · obtain ⟨b, o, rfl, hbl, hc⟩ := hC.at hlt
      have hck : wr.cell? ⟨b, o + k, none⟩ = some (.int .i64 (gi C k)) := kept_cell B (hc k hlt) hbl
      obtain ⟨gs, cs', hv⟩ := sets_some oS (by intro h; rw [h] at hKP; have := hKP.out; simp at this; omega)
      simp only [Value.slice.injEq] at hv
      obtain ⟨rfl, hv2, rfl⟩ := hv
      clear hv2
      have lgs := hls gs rfl
      have cS := oS.cells k (by rw [hKP.out]; exact hlt)
      have cB := oB.cells k (by rw [HL.out.1]; exact hlt)
      rw [HL.out.2 k hlt] at cB
      have b1 : (k : Int) < (C.length : Int) := by omega
      have b2 : (0 : Int) ≤ (k : Int) := by omega
      have hpl := outT_len PS C lo k
      obtain ⟨bf, hbf⟩ : ∃ bf, bf = befT PS lo k := ⟨_, rfl⟩
      obtain ⟨BU, hBU⟩ : ∃ BU, BU = behU PS k := ⟨_, rfl⟩
      obtain ⟨PK, hPK⟩ : ∃ PK, PK = pAt PS k := ⟨_, rfl⟩
      rw [← hbf] at rb
      rw [← hBU] at cB
      rw [← hPK] at cS
      have Hbf := Lib.hid hbf
      have HBU := Lib.hid hBU
      have HPK := Lib.hid hPK
      have sB := B.size
      clear hbf hBU hPK hc
      go_wp2_with fail
      refine wp_region_held_drew (S := fun w' => RowAt w' bq bf ∧ (∀ j, j < 16 → w'.cell? ⟨gb, k * 16 + j, none⟩ = some (.int .u64 (partN BU j)))) (by kernel_rfl) ⟨rb, cB⟩ (fun hHeld => ?_)
      refine wpAnyH_take (i := 0) (v := .agg (setA bf)) rfl (by kernel_rfl) (by kernel_rfl) (by kernel_rfl) (fun _ _ _ h => h) (Or.inl ⟨by rfl, ?_⟩) (by assumption) ?_
      · (intro W hSw; exact exec_ldRow hSw.1 _ (.tmp 9) (by kernel_rfl) (by kernel_rfl))
      (try simp only [Act.put, List.setIfInBounds_toArray, List.set_cons_zero, List.set_cons_succ])
      refine wpAnyH_take (i := 1) (v := ?_) rfl (by kernel_rfl) (by kernel_rfl) (by kernel_rfl) (fun _ _ _ h => h) (Or.inl ⟨by rfl, ?_⟩) (by assumption) ?_
      rotate_left
      · (intro W hSw; go_simp; try (with_reducible rfl))
      (try simp only [Act.put, List.setIfInBounds_toArray, List.set_cons_zero, List.set_cons_succ])
      refine wpAnyH_take (i := 2) (v := ?_) rfl (by kernel_rfl) (by kernel_rfl) (by kernel_rfl) (fun _ _ _ h => h) (Or.inl ⟨by rfl, ?_⟩) (by assumption) ?_
      rotate_left
      · (intro W hSw; go_simp; try (with_reducible rfl))
      (try simp only [Act.put, List.setIfInBounds_toArray, List.set_cons_zero, List.set_cons_succ])
      refine wpAnyH_take (i := 3) (v := .pointer (some ⟨gb, k * 16, none⟩)) rfl (by kernel_rfl) (by kernel_rfl) (by kernel_rfl) (fun _ _ _ h => h) (Or.inl ⟨by rfl, ?_⟩) (by assumption) ?_
      · (intro W hSw; go_simp)
      (try simp only [Act.put, List.setIfInBounds_toArray, List.set_cons_zero, List.set_cons_succ])
      refine wpAnyH_take (i := 4) (v := .agg (setA BU)) rfl (by kernel_rfl) (by kernel_rfl) (by kernel_rfl) (fun _ _ _ h => h) (Or.inl ⟨by rfl, ?_⟩) (by assumption) ?_
      · (intro W hSw; exact exec_ldAt hSw.2 _ (.tmp 28) (by kernel_rfl) (by kernel_rfl))
      (try simp only [Act.put, List.setIfInBounds_toArray, List.set_cons_zero, List.set_cons_succ])
      refine wpAnyH_ready (rs := [5, 6]) (by kernel_rfl) (by simp) ?_
      refine AllReadyH.cons rfl (fun K hK => ?_) ?_
      · go_simp
        (go_at_call 49; refine (with_any bf BU _).mono ?_)
        rintro e x1 ⟨rfl, h1'⟩
        have h1 : Below wr.heap.size wr x1 := (Below.refl _ wr).drew.trans h1'
        clear h1'
        refine hK.out _ _ (⟨rb.below h1 rb.lt, fun j hj => (h1.cell (p := ⟨gb, k * 16 + j, none⟩) oB.base_le.2).trans (cB j hj)⟩) (fun hHeld => ?_)
        clear hK K
        (try simp only [Act.put, List.setIfInBounds_toArray, List.set_cons_zero, List.set_cons_succ])
        have z1 := rowz_new x1 rfl
        have h2 : Below wr.heap.size wr (x1.alloc (.cells #[.int .u64 0, .int .u64 0, .int .u64 0, .int .u64 0, .int .u64 0, .int .u64 0, .int .u64 0, .int .u64 0, .int .u64 0, .int .u64 0, .int .u64 0, .int .u64 0, .int .u64 0, .int .u64 0, .int .u64 0, .int .u64 0] 68)) := h1.alloc h1.size _
        refine wpAnyH_ready (rs := [6]) (by kernel_rfl) (by simp) ?_
        refine AllReadyH.cons rfl (fun K hK => ?_) AllReadyH.nil
        go_simp
        refine hK.out _ _ (⟨rb.below h2 rb.lt, fun j hj => (h2.cell (p := ⟨gb, k * 16 + j, none⟩) oB.base_le.2).trans (cB j hj)⟩) (fun hHeld => ?_)
        clear hK K
        (try simp only [Act.put, List.setIfInBounds_toArray, List.set_cons_zero, List.set_cons_succ])
        refine wpAnyH_ready (rs := [7]) (by kernel_rfl) (by simp) ?_
        refine AllReadyH.cons rfl (fun K hK => ?_) AllReadyH.nil
        rw [if_pos (by kernel_rfl)]
        refine wp_st16 (.tmp 12) (.tmp 30) (by kernel_rfl) z1 (fun u => bf u || BU u) (by kernel_rfl) (by kernel_rfl) ?_
        have h3 : Below wr.heap.size wr ((x1.alloc (.cells #[.int .u64 0, .int .u64 0, .int .u64 0, .int .u64 0, .int .u64 0, .int .u64 0, .int .u64 0, .int .u64 0, .int .u64 0, .int .u64 0, .int .u64 0, .int .u64 0, .int .u64 0, .int .u64 0, .int .u64 0, .int .u64 0] 68)).setRow x1.heap.size (setA fun u => bf u || BU u)) := h2.grown (grown_setRow _) h2.size (fun j e => by cases e; exact h1.size)
        have r3 := row_set (q := fun u => bf u || BU u) z1
        refine hK.out _ _ (⟨rb.below h3 rb.lt, fun j hj => (h3.cell (p := ⟨gb, k * 16 + j, none⟩) oB.base_le.2).trans (cB j hj)⟩) (fun hHeld => ?_)
        clear hK K
        (try simp only [Act.put, List.setIfInBounds_toArray, List.set_cons_zero, List.set_cons_succ])
        refine wpAnyH_done (by kernel_rfl) ?_ _
        obtain ⟨W4, q, hW4⟩ : ∃ W4 q, W4 = (x1.alloc (.cells #[.int .u64 0, .int .u64 0, .int .u64 0, .int .u64 0, .int .u64 0, .int .u64 0, .int .u64 0, .int .u64 0, .int .u64 0, .int .u64 0, .int .u64 0, .int .u64 0, .int .u64 0, .int .u64 0, .int .u64 0, .int .u64 0] 68)).setRow x1.heap.size (setA fun u => bf u || BU u) ∧ q = x1.heap.size := ⟨_, _, rfl, rfl⟩
        rw [← hW4.1] at h3 r3 ⊢
        rw [← hW4.2] at r3 ⊢
        clear z1 h1 h2 hW4 hHeld
        have hgsW := oS.base_le.2
        replace cS : ∀ j, j < 16 → W4.cell? ⟨gs, k * 16 + j, none⟩ = some (.int .u64 (partN PK j)) := fun j hj => (h3.cell (p := ⟨gs, k * 16 + j, none⟩) hgsW).trans (cS j hj)
        replace hck := kept_cell h3 hck (lt_of_below B hbl)
        replace oo := oo.below h3
        replace rb := rb.below h3 rb.lt
        replace oS := oS.below h3
        replace oB := oB.below h3
        replace B := B.trans (h3.mono B.size)
        clear h3 cB sB hgsW
        have sB := B.size
        obtain ⟨nd, hnd⟩ : ∃ nd, nd = !eqS (fun u => (bf u || BU u) || PK u) (fun u => bf u || BU u) := ⟨_, rfl⟩
        have HND : Hid (nd = needS PS (befT PS lo k) k) := Lib.hid (by rw [hnd, Hbf.out, HBU.out, HPK.out]; rfl)
        have Hnd := Lib.hid hnd
        clear hnd
        go_wp2_with fail
        refine wp_region_held_drew (S := fun w' => RowAt w' q (fun u => bf u || BU u) ∧ (∀ j, j < 16 → w'.cell? ⟨gs, k * 16 + j, none⟩ = some (.int .u64 (partN PK j)))) (by kernel_rfl) ⟨r3, cS⟩ (fun hHeld => ?_)
        refine wpAnyH_take (i := 0) (v := .agg (setA (fun u => bf u || BU u))) rfl (by kernel_rfl) (by kernel_rfl) (by kernel_rfl) (fun _ _ _ h => h) (Or.inl ⟨by rfl, ?_⟩) (by assumption) ?_
        · (intro W hSw; exact exec_ldRow hSw.1 _ (.tmp 12) (by kernel_rfl) (by kernel_rfl))
        (try simp only [Act.put, List.setIfInBounds_toArray, List.set_cons_zero, List.set_cons_succ])
        refine wpAnyH_take (i := 1) (v := ?_) rfl (by kernel_rfl) (by kernel_rfl) (by kernel_rfl) (fun _ _ _ h => h) (Or.inl ⟨by rfl, ?_⟩) (by assumption) ?_
        rotate_left
        · (intro W hSw; go_simp; try (with_reducible rfl))
        (try simp only [Act.put, List.setIfInBounds_toArray, List.set_cons_zero, List.set_cons_succ])
        refine wpAnyH_take (i := 2) (v := ?_) rfl (by kernel_rfl) (by kernel_rfl) (by kernel_rfl) (fun _ _ _ h => h) (Or.inl ⟨by rfl, ?_⟩) (by assumption) ?_
        rotate_left
        · (intro W hSw; go_simp; try (with_reducible rfl))
        (try simp only [Act.put, List.setIfInBounds_toArray, List.set_cons_zero, List.set_cons_succ])
        refine wpAnyH_take (i := 3) (v := .pointer (some ⟨gs, k * 16, none⟩)) rfl (by kernel_rfl) (by kernel_rfl) (by kernel_rfl) (fun _ _ _ h => h) (Or.inl ⟨by rfl, ?_⟩) (by assumption) ?_
        · (intro W hSw; go_simp)
        (try simp only [Act.put, List.setIfInBounds_toArray, List.set_cons_zero, List.set_cons_succ])
        refine wpAnyH_take (i := 4) (v := .agg (setA PK)) rfl (by kernel_rfl) (by kernel_rfl) (by kernel_rfl) (fun _ _ _ h => h) (Or.inl ⟨by rfl, ?_⟩) (by assumption) ?_
        · (intro W hSw; exact exec_ldAt hSw.2 _ (.tmp 34) (by kernel_rfl) (by kernel_rfl))
        (try simp only [Act.put, List.setIfInBounds_toArray, List.set_cons_zero, List.set_cons_succ])
        refine wpAnyH_take (i := 6) (v := .agg (setA (fun u => bf u || BU u))) rfl (by kernel_rfl) (by kernel_rfl) (by kernel_rfl) (fun _ _ _ h => h) (Or.inl ⟨by rfl, ?_⟩) (by assumption) ?_
        · (intro W hSw; exact exec_ldRow hSw.1 _ (.tmp 12) (by kernel_rfl) (by kernel_rfl))
        (try simp only [Act.put, List.setIfInBounds_toArray, List.set_cons_zero, List.set_cons_succ])
        refine wpAnyH_ready (rs := [5]) (by kernel_rfl) (by simp) ?_
        refine AllReadyH.cons rfl (fun K hK => ?_) AllReadyH.nil
        go_simp
        (go_at_call 49; refine (with_any (fun u => bf u || BU u) PK _).mono ?_)
        rintro e x2 ⟨rfl, h4'⟩
        have h4 : Below W4.heap.size W4 x2 := (Below.refl _ W4).drew.trans h4'
        clear h4'
        have hgsW := oS.base_le.2
        replace cS : ∀ j, j < 16 → x2.cell? ⟨gs, k * 16 + j, none⟩ = some (.int .u64 (partN PK j)) := fun j hj => (h4.cell (p := ⟨gs, k * 16 + j, none⟩) hgsW).trans (cS j hj)
        refine hK.out _ _ (⟨r3.below h4 r3.lt, cS⟩) (fun hHeld => ?_)
        clear hK K
        (try simp only [Act.put, List.setIfInBounds_toArray, List.set_cons_zero, List.set_cons_succ])
        refine wpAnyH_take (i := 7) (v := .bool nd) rfl (by kernel_rfl) (by kernel_rfl) (by kernel_rfl) (fun _ _ _ h => h) (Or.inl ⟨by rfl, ?_⟩) (by assumption) ?_
        · (intro W hSw; rw [Hnd.out]; exact exec_neSet (t := 68) (p := (fun u => (bf u || BU u) || PK u)) (q := (fun u => bf u || BU u)) _ (.tmp 36) (.tmp 37) (by kernel_rfl) (by kernel_rfl) (by kernel_rfl))
        (try simp only [Act.put, List.setIfInBounds_toArray, List.set_cons_zero, List.set_cons_succ])
        refine wpAnyH_take (i := 8) (v := ?_) rfl (by kernel_rfl) (by kernel_rfl) (by kernel_rfl) (fun _ _ _ h => h) (Or.inl ⟨by rfl, ?_⟩) (by assumption) ?_
        rotate_left
        · (intro W hSw; go_simp; try (with_reducible rfl))
        (try simp only [Act.put, List.setIfInBounds_toArray, List.set_cons_zero, List.set_cons_succ])
        refine wpAnyH_done (by kernel_rfl) ?_ _
        (try simp only [List.getElem_toArray, List.getElem_cons_succ, List.getElem_cons_zero, Act.put, List.setIfInBounds_toArray, List.set_cons_zero, List.set_cons_succ])
        replace hck := kept_cell h4 hck (lt_of_below B hbl)
        replace oo := oo.below h4
        replace rb := rb.below h4 rb.lt
        replace oS := oS.below h4
        replace oB := oB.below h4
        replace B := B.trans (h4.mono B.size)
        clear h4 hgsW r3 hHeld Hnd
        replace sB := B.size
        cases nd with
        | true =>
          have H2 : Hid (outT PS C lo (k + 1) = outT PS C lo k ++ [gi C k]) := Lib.hid (by rw [outT, ← HND.out]; rfl)
          have H3 : Hid (befT PS lo (k + 1) = fun u => bf u || PK u) := Lib.hid (by rw [befT, ← HND.out, Hbf.out, HPK.out]; rfl)
          clear HND
          go_wp2_with (at_builtin; refine wpList_append_int rfl _ _ rfl w.heap.size _ _ rfl (oo.alloc _) x2.heap.size _ rfl (cell_new _ _ _) (by omega) (by rw [World.size_alloc]; omega) ?_; intro v' x3 hown' hgrow)
          replace B := grown_below (B.alloc B.size _) (by rw [World.size_alloc]; omega) hgrow (oo.alloc _) (by omega)
          replace rb : RowAt x3 bq bf := (hgrow.block bq (rb.alloc _).lt (fun e => own_not_set oo rb e.symm)).trans (rb.alloc _)
          have nS := own_ne_sets oo oS
          have nB := own_ne_sets oo oB
          replace oS := (oS.alloc _).kept hgrow (.inr (fun e => nS e.symm))
          replace oB := (oB.alloc _).kept hgrow (.inr (fun e => nB e.symm))
          replace oo := hown'
          replace cS := oS.cells k (by rw [hKP.out]; exact hlt)
          rw [← HPK.out] at cS
          clear hown' hgrow nS nB hck sB
          go_wp2_with fail
          refine wp_region_held_drew (S := fun w' => ∀ j, j < 16 → w'.cell? ⟨gs, k * 16 + j, none⟩ = some (.int .u64 (partN PK j))) (by kernel_rfl) cS (fun hHeld => ?_)
          refine wpAnyH_take (i := 1) (v := ?_) rfl (by kernel_rfl) (by kernel_rfl) (by kernel_rfl) (fun _ _ _ h => h) (Or.inl ⟨by rfl, ?_⟩) (by assumption) ?_
          rotate_left
          · (intro W hSw; go_simp; try (with_reducible rfl))
          (try simp only [Act.put, List.setIfInBounds_toArray, List.set_cons_zero, List.set_cons_succ])
          refine wpAnyH_take (i := 2) (v := ?_) rfl (by kernel_rfl) (by kernel_rfl) (by kernel_rfl) (fun _ _ _ h => h) (Or.inl ⟨by rfl, ?_⟩) (by assumption) ?_
          rotate_left
          · (intro W hSw; go_simp; try (with_reducible rfl))
          (try simp only [Act.put, List.setIfInBounds_toArray, List.set_cons_zero, List.set_cons_succ])
          refine wpAnyH_take (i := 3) (v := .pointer (some ⟨gs, k * 16, none⟩)) rfl (by kernel_rfl) (by kernel_rfl) (by kernel_rfl) (fun _ _ _ h => h) (Or.inl ⟨by rfl, ?_⟩) (by assumption) ?_
          · (intro W hSw; go_simp)
          (try simp only [Act.put, List.setIfInBounds_toArray, List.set_cons_zero, List.set_cons_succ])
          refine wpAnyH_take (i := 4) (v := .agg (setA PK)) rfl (by kernel_rfl) (by kernel_rfl) (by kernel_rfl) (fun _ _ _ h => h) (Or.inl ⟨by rfl, ?_⟩) (by assumption) ?_
          · (intro W hSw; exact exec_ldAt hSw _ (.tmp 52) (by kernel_rfl) (by kernel_rfl))
          (try simp only [Act.put, List.setIfInBounds_toArray, List.set_cons_zero, List.set_cons_succ])
          refine wpAnyH_ready (rs := [0]) (by kernel_rfl) (by simp) ?_
          refine AllReadyH.cons rfl (fun K hK => ?_) AllReadyH.nil
          have rbd : RowAt x3.drew bq bf := rb
          (first | (rw [if_pos (by kernel_rfl)]; refine wp_ld16 (.tmp 9) (by kernel_rfl) rbd (by kernel_rfl) ?_) | (refine wp_ld16 (.tmp 9) (by kernel_rfl) rbd (by kernel_rfl) ?_))
          clear rbd
          refine hK.out _ _ (cS) (fun hHeld => ?_)
          clear hK K
          (try simp only [Act.put, List.setIfInBounds_toArray, List.set_cons_zero, List.set_cons_succ])
          refine wpAnyH_ready (rs := [5]) (by kernel_rfl) (by simp) ?_
          refine AllReadyH.cons rfl (fun K hK => ?_) AllReadyH.nil
          go_simp
          (go_at_call 49; refine (with_any bf PK _).mono ?_)
          rintro e x5 ⟨rfl, h5'⟩
          have h5 : Below x3.heap.size x3 x5 := (Below.refl _ x3).drew.trans h5'
          clear h5'
          have hgsW := oS.base_le.2
          replace cS : ∀ j, j < 16 → x5.cell? ⟨gs, k * 16 + j, none⟩ = some (.int .u64 (partN PK j)) := fun j hj => (h5.cell (p := ⟨gs, k * 16 + j, none⟩) hgsW).trans (cS j hj)
          replace oo := oo.below h5
          replace rb := rb.below h5 rb.lt
          replace oS := oS.below h5
          replace oB := oB.below h5
          replace B := B.trans (h5.mono B.size)
          clear h5 hgsW
          refine hK.out _ _ (cS) (fun hHeld => ?_)
          clear hK K
          (try simp only [Act.put, List.setIfInBounds_toArray, List.set_cons_zero, List.set_cons_succ])
          refine wpAnyH_ready (rs := [6]) (by kernel_rfl) (by simp) ?_
          refine AllReadyH.cons rfl (fun K hK => ?_) AllReadyH.nil
          rw [if_pos (by kernel_rfl)]
          refine wp_st16 (.tmp 9) (.tmp 54) (by kernel_rfl) rb (fun u => bf u || PK u) (by kernel_rfl) (by kernel_rfl) ?_
          have g6 := grown_setRow (w := x5) (b := bq) (setA (fun u => bf u || PK u))
          have hne1 : gs ≠ bq := by omega
          have hne2 : gb ≠ bq := by omega
          replace cS : ∀ j, j < 16 → (x5.setRow bq (setA (fun u => bf u || PK u))).cell? ⟨gs, k * 16 + j, none⟩ = some (.int .u64 (partN PK j)) := fun j hj => g6.cell (a := ⟨gs, k * 16 + j, none⟩) (cS j hj) (fun e => hne1 (Option.some.inj e))
          replace oo := oo.kept g6 (.inr (own_not_set oo rb))
          replace oS := oS.kept g6 (.inr (fun e => hne1 (Option.some.inj e)))
          replace oB := oB.kept g6 (.inr (fun e => hne2 (Option.some.inj e)))
          replace B := B.grown g6 B.size (fun j e => by cases e; omega)
          replace rb := row_set (q := (fun u => bf u || PK u)) rb
          clear g6
          refine hK.out _ _ cS (fun hHeld => ?_)
          clear hK K
          (try simp only [Act.put, List.setIfInBounds_toArray, List.set_cons_zero, List.set_cons_succ])
          refine wpAnyH_done (by kernel_rfl) ?_ _
          go_wp2_with fail
          go_roundw
          case rel => exact ⟨k + 1, by omega, by go_num, by rw [H2.out]; exact oo, by rw [H3.out]; exact rb, oS, oB, B⟩
          case measure => simp [intOf]; omega
        | false =>
          have H2 : Hid (outT PS C lo (k + 1) = outT PS C lo k) := Lib.hid (by rw [outT, ← HND.out]; rfl)
          cases lo with
          | false =>
            have H3 : Hid (befT PS false (k + 1) = fun u => bf u || PK u) := Lib.hid (by rw [befT, ← HND.out, Hbf.out, HPK.out]; rfl)
            clear HND
            go_wp2_with fail
            refine wp_region_held_drew (S := fun w' => ∀ j, j < 16 → w'.cell? ⟨gs, k * 16 + j, none⟩ = some (.int .u64 (partN PK j))) (by kernel_rfl) cS (fun hHeld => ?_)
            refine wpAnyH_take (i := 1) (v := ?_) rfl (by kernel_rfl) (by kernel_rfl) (by kernel_rfl) (fun _ _ _ h => h) (Or.inl ⟨by rfl, ?_⟩) (by assumption) ?_
            rotate_left
            · (intro W hSw; go_simp; try (with_reducible rfl))
            (try simp only [Act.put, List.setIfInBounds_toArray, List.set_cons_zero, List.set_cons_succ])
            refine wpAnyH_take (i := 2) (v := ?_) rfl (by kernel_rfl) (by kernel_rfl) (by kernel_rfl) (fun _ _ _ h => h) (Or.inl ⟨by rfl, ?_⟩) (by assumption) ?_
            rotate_left
            · (intro W hSw; go_simp; try (with_reducible rfl))
            (try simp only [Act.put, List.setIfInBounds_toArray, List.set_cons_zero, List.set_cons_succ])
            refine wpAnyH_take (i := 3) (v := .pointer (some ⟨gs, k * 16, none⟩)) rfl (by kernel_rfl) (by kernel_rfl) (by kernel_rfl) (fun _ _ _ h => h) (Or.inl ⟨by rfl, ?_⟩) (by assumption) ?_
            · (intro W hSw; go_simp)
            (try simp only [Act.put, List.setIfInBounds_toArray, List.set_cons_zero, List.set_cons_succ])
            refine wpAnyH_take (i := 4) (v := .agg (setA PK)) rfl (by kernel_rfl) (by kernel_rfl) (by kernel_rfl) (fun _ _ _ h => h) (Or.inl ⟨by rfl, ?_⟩) (by assumption) ?_
            · (intro W hSw; exact exec_ldAt hSw _ (.tmp 52) (by kernel_rfl) (by kernel_rfl))
            (try simp only [Act.put, List.setIfInBounds_toArray, List.set_cons_zero, List.set_cons_succ])
            refine wpAnyH_ready (rs := [0]) (by kernel_rfl) (by simp) ?_
            refine AllReadyH.cons rfl (fun K hK => ?_) AllReadyH.nil
            have rbd : RowAt x2.drew bq bf := rb
            (first | (rw [if_pos (by kernel_rfl)]; refine wp_ld16 (.tmp 9) (by kernel_rfl) rbd (by kernel_rfl) ?_) | (refine wp_ld16 (.tmp 9) (by kernel_rfl) rbd (by kernel_rfl) ?_))
            clear rbd
            refine hK.out _ _ (cS) (fun hHeld => ?_)
            clear hK K
            (try simp only [Act.put, List.setIfInBounds_toArray, List.set_cons_zero, List.set_cons_succ])
            refine wpAnyH_ready (rs := [5]) (by kernel_rfl) (by simp) ?_
            refine AllReadyH.cons rfl (fun K hK => ?_) AllReadyH.nil
            go_simp
            (go_at_call 49; refine (with_any bf PK _).mono ?_)
            rintro e x5 ⟨rfl, h5'⟩
            have h5 : Below x2.heap.size x2 x5 := (Below.refl _ x2).drew.trans h5'
            clear h5'
            have hgsW := oS.base_le.2
            replace cS : ∀ j, j < 16 → x5.cell? ⟨gs, k * 16 + j, none⟩ = some (.int .u64 (partN PK j)) := fun j hj => (h5.cell (p := ⟨gs, k * 16 + j, none⟩) hgsW).trans (cS j hj)
            replace oo := oo.below h5
            replace rb := rb.below h5 rb.lt
            replace oS := oS.below h5
            replace oB := oB.below h5
            replace B := B.trans (h5.mono B.size)
            clear h5 hgsW
            refine hK.out _ _ (cS) (fun hHeld => ?_)
            clear hK K
            (try simp only [Act.put, List.setIfInBounds_toArray, List.set_cons_zero, List.set_cons_succ])
            refine wpAnyH_ready (rs := [6]) (by kernel_rfl) (by simp) ?_
            refine AllReadyH.cons rfl (fun K hK => ?_) AllReadyH.nil
            rw [if_pos (by kernel_rfl)]
            refine wp_st16 (.tmp 9) (.tmp 54) (by kernel_rfl) rb (fun u => bf u || PK u) (by kernel_rfl) (by kernel_rfl) ?_
            have g6 := grown_setRow (w := x5) (b := bq) (setA (fun u => bf u || PK u))
            have hne1 : gs ≠ bq := by omega
            have hne2 : gb ≠ bq := by omega
            replace cS : ∀ j, j < 16 → (x5.setRow bq (setA (fun u => bf u || PK u))).cell? ⟨gs, k * 16 + j, none⟩ = some (.int .u64 (partN PK j)) := fun j hj => g6.cell (a := ⟨gs, k * 16 + j, none⟩) (cS j hj) (fun e => hne1 (Option.some.inj e))
            replace oo := oo.kept g6 (.inr (own_not_set oo rb))
            replace oS := oS.kept g6 (.inr (fun e => hne1 (Option.some.inj e)))
            replace oB := oB.kept g6 (.inr (fun e => hne2 (Option.some.inj e)))
            replace B := B.grown g6 B.size (fun j e => by cases e; omega)
            replace rb := row_set (q := (fun u => bf u || PK u)) rb
            clear g6
            refine hK.out _ _ cS (fun hHeld => ?_)
            clear hK K
            (try simp only [Act.put, List.setIfInBounds_toArray, List.set_cons_zero, List.set_cons_succ])
            refine wpAnyH_done (by kernel_rfl) ?_ _
            go_wp2_with fail
            go_roundw
            case rel => exact ⟨k + 1, by omega, by go_num, by rw [H2.out]; exact oo, by rw [H3.out]; exact rb, oS, oB, B⟩
            case measure => simp [intOf]; omega
          | true =>
            have H3 : Hid (befT PS true (k + 1) = bf) := Lib.hid (by rw [befT, ← HND.out, Hbf.out]; rfl)
            clear HND
            go_wp2_with fail
            go_roundw
            case rel => exact ⟨k + 1, by omega, by go_num, by rw [H2.out]; exact oo, by rw [H3.out]; exact rb, oS, oB, B⟩
            case measure => simp [intOf]; omega
      refine AllReadyH.cons rfl (fun K hK => ?_) AllReadyH.nil
      have z0 := rowz_new wr rfl
      have h0 : Below wr.heap.size wr (wr.alloc (.cells #[.int .u64 0, .int .u64 0, .int .u64 0, .int .u64 0, .int .u64 0, .int .u64 0, .int .u64 0, .int .u64 0, .int .u64 0, .int .u64 0, .int .u64 0, .int .u64 0, .int .u64 0, .int .u64 0, .int .u64 0, .int .u64 0] 68)) := (Below.refl _ wr).alloc (Nat.le_refl _) _
      go_simp
      refine hK.out _ _ (⟨rb.below h0.drew rb.lt, fun j hj => (h0.drew.cell (p := ⟨gb, k * 16 + j, none⟩) oB.base_le.2).trans (cB j hj)⟩) (fun hHeld => ?_)
      clear hK K
      (try simp only [Act.put, List.setIfInBounds_toArray, List.set_cons_zero, List.set_cons_succ])
      refine wpAnyH_ready (rs := [5]) (by kernel_rfl) (by simp) ?_
      refine AllReadyH.cons rfl (fun K hK => ?_) AllReadyH.nil
      go_simp
      (go_at_call 49; refine (with_any bf BU _).mono ?_)
      rintro e x1 ⟨rfl, h1'⟩
      have h1 : Below (wr.alloc (.cells #[.int .u64 0, .int .u64 0, .int .u64 0, .int .u64 0, .int .u64 0, .int .u64 0, .int .u64 0, .int .u64 0, .int .u64 0, .int .u64 0, .int .u64 0, .int .u64 0, .int .u64 0, .int .u64 0, .int .u64 0, .int .u64 0] 68)).heap.size (wr.alloc (.cells #[.int .u64 0, .int .u64 0, .int .u64 0, .int .u64 0, .int .u64 0, .int .u64 0, .int .u64 0, .int .u64 0, .int .u64 0, .int .u64 0, .int .u64 0, .int .u64 0, .int .u64 0, .int .u64 0, .int .u64 0, .int .u64 0] 68)) x1 := (Below.refl _ (wr.alloc (.cells #[.int .u64 0, .int .u64 0, .int .u64 0, .int .u64 0, .int .u64 0, .int .u64 0, .int .u64 0, .int .u64 0, .int .u64 0, .int .u64 0, .int .u64 0, .int .u64 0, .int .u64 0, .int .u64 0, .int .u64 0, .int .u64 0] 68))).drew.trans h1'
      have h2 : Below wr.heap.size wr x1 := h0.trans (h1.mono h0.size)
      have z1 : RowAt x1 wr.heap.size (fun _ => false) := z0.below h1 z0.lt
      clear h1' h0 h1 z0
      refine hK.out _ _ (⟨rb.below h2 rb.lt, fun j hj => (h2.cell (p := ⟨gb, k * 16 + j, none⟩) oB.base_le.2).trans (cB j hj)⟩) (fun hHeld => ?_)
      clear hK K
      (try simp only [Act.put, List.setIfInBounds_toArray, List.set_cons_zero, List.set_cons_succ])
      refine wpAnyH_ready (rs := [7]) (by kernel_rfl) (by simp) ?_
      refine AllReadyH.cons rfl (fun K hK => ?_) AllReadyH.nil
      rw [if_pos (by kernel_rfl)]
      refine wp_st16 (.tmp 12) (.tmp 30) (by kernel_rfl) z1 (fun u => bf u || BU u) (by kernel_rfl) (by kernel_rfl) ?_
      have h3 : Below wr.heap.size wr (x1.setRow wr.heap.size (setA fun u => bf u || BU u)) := h2.grown (grown_setRow _) h2.size (fun j e => by cases e; exact Nat.le_refl _)
      have r3 := row_set (q := fun u => bf u || BU u) z1
      refine hK.out _ _ (⟨rb.below h3 rb.lt, fun j hj => (h3.cell (p := ⟨gb, k * 16 + j, none⟩) oB.base_le.2).trans (cB j hj)⟩) (fun hHeld => ?_)
      clear hK K
      (try simp only [Act.put, List.setIfInBounds_toArray, List.set_cons_zero, List.set_cons_succ])
      refine wpAnyH_done (by kernel_rfl) ?_ _
      obtain ⟨W4, q, hW4⟩ : ∃ W4 q, W4 = x1.setRow wr.heap.size (setA fun u => bf u || BU u) ∧ q = wr.heap.size := ⟨_, _, rfl, rfl⟩
      rw [← hW4.1] at h3 r3 ⊢
      rw [← hW4.2] at r3 ⊢
      clear z1 h2 hW4 hHeld
      have hgsW := oS.base_le.2
      replace cS : ∀ j, j < 16 → W4.cell? ⟨gs, k * 16 + j, none⟩ = some (.int .u64 (partN PK j)) := fun j hj => (h3.cell (p := ⟨gs, k * 16 + j, none⟩) hgsW).trans (cS j hj)
      replace hck := kept_cell h3 hck (lt_of_below B hbl)
      replace oo := oo.below h3
      replace rb := rb.below h3 rb.lt
      replace oS := oS.below h3
      replace oB := oB.below h3
      replace B := B.trans (h3.mono B.size)
      clear h3 cB sB hgsW
      have sB := B.size
      obtain ⟨nd, hnd⟩ : ∃ nd, nd = !eqS (fun u => (bf u || BU u) || PK u) (fun u => bf u || BU u) := ⟨_, rfl⟩
      have HND : Hid (nd = needS PS (befT PS lo k) k) := Lib.hid (by rw [hnd, Hbf.out, HBU.out, HPK.out]; rfl)
      have Hnd := Lib.hid hnd
      clear hnd
      go_wp2_with fail
      refine wp_region_held_drew (S := fun w' => RowAt w' q (fun u => bf u || BU u) ∧ (∀ j, j < 16 → w'.cell? ⟨gs, k * 16 + j, none⟩ = some (.int .u64 (partN PK j)))) (by kernel_rfl) ⟨r3, cS⟩ (fun hHeld => ?_)
      refine wpAnyH_take (i := 0) (v := .agg (setA (fun u => bf u || BU u))) rfl (by kernel_rfl) (by kernel_rfl) (by kernel_rfl) (fun _ _ _ h => h) (Or.inl ⟨by rfl, ?_⟩) (by assumption) ?_
      · (intro W hSw; exact exec_ldRow hSw.1 _ (.tmp 12) (by kernel_rfl) (by kernel_rfl))
      (try simp only [Act.put, List.setIfInBounds_toArray, List.set_cons_zero, List.set_cons_succ])
      refine wpAnyH_take (i := 1) (v := ?_) rfl (by kernel_rfl) (by kernel_rfl) (by kernel_rfl) (fun _ _ _ h => h) (Or.inl ⟨by rfl, ?_⟩) (by assumption) ?_
      rotate_left
      · (intro W hSw; go_simp; try (with_reducible rfl))
      (try simp only [Act.put, List.setIfInBounds_toArray, List.set_cons_zero, List.set_cons_succ])
      refine wpAnyH_take (i := 2) (v := ?_) rfl (by kernel_rfl) (by kernel_rfl) (by kernel_rfl) (fun _ _ _ h => h) (Or.inl ⟨by rfl, ?_⟩) (by assumption) ?_
      rotate_left
      · (intro W hSw; go_simp; try (with_reducible rfl))
      (try simp only [Act.put, List.setIfInBounds_toArray, List.set_cons_zero, List.set_cons_succ])
      refine wpAnyH_take (i := 3) (v := .pointer (some ⟨gs, k * 16, none⟩)) rfl (by kernel_rfl) (by kernel_rfl) (by kernel_rfl) (fun _ _ _ h => h) (Or.inl ⟨by rfl, ?_⟩) (by assumption) ?_
      · (intro W hSw; go_simp)
      (try simp only [Act.put, List.setIfInBounds_toArray, List.set_cons_zero, List.set_cons_succ])
      refine wpAnyH_take (i := 4) (v := .agg (setA PK)) rfl (by kernel_rfl) (by kernel_rfl) (by kernel_rfl) (fun _ _ _ h => h) (Or.inl ⟨by rfl, ?_⟩) (by assumption) ?_
      · (intro W hSw; exact exec_ldAt hSw.2 _ (.tmp 34) (by kernel_rfl) (by kernel_rfl))
      (try simp only [Act.put, List.setIfInBounds_toArray, List.set_cons_zero, List.set_cons_succ])
      refine wpAnyH_take (i := 6) (v := .agg (setA (fun u => bf u || BU u))) rfl (by kernel_rfl) (by kernel_rfl) (by kernel_rfl) (fun _ _ _ h => h) (Or.inl ⟨by rfl, ?_⟩) (by assumption) ?_
      · (intro W hSw; exact exec_ldRow hSw.1 _ (.tmp 12) (by kernel_rfl) (by kernel_rfl))
      (try simp only [Act.put, List.setIfInBounds_toArray, List.set_cons_zero, List.set_cons_succ])
      refine wpAnyH_ready (rs := [5]) (by kernel_rfl) (by simp) ?_
      refine AllReadyH.cons rfl (fun K hK => ?_) AllReadyH.nil
      go_simp
      (go_at_call 49; refine (with_any (fun u => bf u || BU u) PK _).mono ?_)
      rintro e x2 ⟨rfl, h4'⟩
      have h4 : Below W4.heap.size W4 x2 := (Below.refl _ W4).drew.trans h4'
      clear h4'
      have hgsW := oS.base_le.2
      replace cS : ∀ j, j < 16 → x2.cell? ⟨gs, k * 16 + j, none⟩ = some (.int .u64 (partN PK j)) := fun j hj => (h4.cell (p := ⟨gs, k * 16 + j, none⟩) hgsW).trans (cS j hj)
      refine hK.out _ _ (⟨r3.below h4 r3.lt, cS⟩) (fun hHeld => ?_)
      clear hK K
      (try simp only [Act.put, List.setIfInBounds_toArray, List.set_cons_zero, List.set_cons_succ])
      refine wpAnyH_take (i := 7) (v := .bool nd) rfl (by kernel_rfl) (by kernel_rfl) (by kernel_rfl) (fun _ _ _ h => h) (Or.inl ⟨by rfl, ?_⟩) (by assumption) ?_
      · (intro W hSw; rw [Hnd.out]; exact exec_neSet (t := 68) (p := (fun u => (bf u || BU u) || PK u)) (q := (fun u => bf u || BU u)) _ (.tmp 36) (.tmp 37) (by kernel_rfl) (by kernel_rfl) (by kernel_rfl))
      (try simp only [Act.put, List.setIfInBounds_toArray, List.set_cons_zero, List.set_cons_succ])
      refine wpAnyH_take (i := 8) (v := ?_) rfl (by kernel_rfl) (by kernel_rfl) (by kernel_rfl) (fun _ _ _ h => h) (Or.inl ⟨by rfl, ?_⟩) (by assumption) ?_
      rotate_left
      · (intro W hSw; go_simp; try (with_reducible rfl))
      (try simp only [Act.put, List.setIfInBounds_toArray, List.set_cons_zero, List.set_cons_succ])
      refine wpAnyH_done (by kernel_rfl) ?_ _
      (try simp only [List.getElem_toArray, List.getElem_cons_succ, List.getElem_cons_zero, Act.put, List.setIfInBounds_toArray, List.set_cons_zero, List.set_cons_succ])
      replace hck := kept_cell h4 hck (lt_of_below B hbl)
      replace oo := oo.below h4
      replace rb := rb.below h4 rb.lt
      replace oS := oS.below h4
      replace oB := oB.below h4
      replace B := B.trans (h4.mono B.size)
      clear h4 hgsW r3 hHeld Hnd
      replace sB := B.size
      cases nd with
      | true =>
        have H2 : Hid (outT PS C lo (k + 1) = outT PS C lo k ++ [gi C k]) := Lib.hid (by rw [outT, ← HND.out]; rfl)
        have H3 : Hid (befT PS lo (k + 1) = fun u => bf u || PK u) := Lib.hid (by rw [befT, ← HND.out, Hbf.out, HPK.out]; rfl)
        clear HND
        go_wp2_with (at_builtin; refine wpList_append_int rfl _ _ rfl w.heap.size _ _ rfl (oo.alloc _) x2.heap.size _ rfl (cell_new _ _ _) (by omega) (by rw [World.size_alloc]; omega) ?_; intro v' x3 hown' hgrow)
        replace B := grown_below (B.alloc B.size _) (by rw [World.size_alloc]; omega) hgrow (oo.alloc _) (by omega)
        replace rb : RowAt x3 bq bf := (hgrow.block bq (rb.alloc _).lt (fun e => own_not_set oo rb e.symm)).trans (rb.alloc _)
        have nS := own_ne_sets oo oS
        have nB := own_ne_sets oo oB
        replace oS := (oS.alloc _).kept hgrow (.inr (fun e => nS e.symm))
        replace oB := (oB.alloc _).kept hgrow (.inr (fun e => nB e.symm))
        replace oo := hown'
        replace cS := oS.cells k (by rw [hKP.out]; exact hlt)
        rw [← HPK.out] at cS
        clear hown' hgrow nS nB hck sB
        go_wp2_with fail
        refine wp_region_held_drew (S := fun w' => ∀ j, j < 16 → w'.cell? ⟨gs, k * 16 + j, none⟩ = some (.int .u64 (partN PK j))) (by kernel_rfl) cS (fun hHeld => ?_)
        refine wpAnyH_take (i := 1) (v := ?_) rfl (by kernel_rfl) (by kernel_rfl) (by kernel_rfl) (fun _ _ _ h => h) (Or.inl ⟨by rfl, ?_⟩) (by assumption) ?_
        rotate_left
        · (intro W hSw; go_simp; try (with_reducible rfl))
        (try simp only [Act.put, List.setIfInBounds_toArray, List.set_cons_zero, List.set_cons_succ])
        refine wpAnyH_take (i := 2) (v := ?_) rfl (by kernel_rfl) (by kernel_rfl) (by kernel_rfl) (fun _ _ _ h => h) (Or.inl ⟨by rfl, ?_⟩) (by assumption) ?_
        rotate_left
        · (intro W hSw; go_simp; try (with_reducible rfl))
        (try simp only [Act.put, List.setIfInBounds_toArray, List.set_cons_zero, List.set_cons_succ])
        refine wpAnyH_take (i := 3) (v := .pointer (some ⟨gs, k * 16, none⟩)) rfl (by kernel_rfl) (by kernel_rfl) (by kernel_rfl) (fun _ _ _ h => h) (Or.inl ⟨by rfl, ?_⟩) (by assumption) ?_
        · (intro W hSw; go_simp)
        (try simp only [Act.put, List.setIfInBounds_toArray, List.set_cons_zero, List.set_cons_succ])
        refine wpAnyH_take (i := 4) (v := .agg (setA PK)) rfl (by kernel_rfl) (by kernel_rfl) (by kernel_rfl) (fun _ _ _ h => h) (Or.inl ⟨by rfl, ?_⟩) (by assumption) ?_
        · (intro W hSw; exact exec_ldAt hSw _ (.tmp 52) (by kernel_rfl) (by kernel_rfl))
        (try simp only [Act.put, List.setIfInBounds_toArray, List.set_cons_zero, List.set_cons_succ])
        refine wpAnyH_ready (rs := [0]) (by kernel_rfl) (by simp) ?_
        refine AllReadyH.cons rfl (fun K hK => ?_) AllReadyH.nil
        have rbd : RowAt x3.drew bq bf := rb
        (first | (rw [if_pos (by kernel_rfl)]; refine wp_ld16 (.tmp 9) (by kernel_rfl) rbd (by kernel_rfl) ?_) | (refine wp_ld16 (.tmp 9) (by kernel_rfl) rbd (by kernel_rfl) ?_))
        clear rbd
        refine hK.out _ _ (cS) (fun hHeld => ?_)
        clear hK K
        (try simp only [Act.put, List.setIfInBounds_toArray, List.set_cons_zero, List.set_cons_succ])
        refine wpAnyH_ready (rs := [5]) (by kernel_rfl) (by simp) ?_
        refine AllReadyH.cons rfl (fun K hK => ?_) AllReadyH.nil
        go_simp
        (go_at_call 49; refine (with_any bf PK _).mono ?_)
        rintro e x5 ⟨rfl, h5'⟩
        have h5 : Below x3.heap.size x3 x5 := (Below.refl _ x3).drew.trans h5'
        clear h5'
        have hgsW := oS.base_le.2
        replace cS : ∀ j, j < 16 → x5.cell? ⟨gs, k * 16 + j, none⟩ = some (.int .u64 (partN PK j)) := fun j hj => (h5.cell (p := ⟨gs, k * 16 + j, none⟩) hgsW).trans (cS j hj)
        replace oo := oo.below h5
        replace rb := rb.below h5 rb.lt
        replace oS := oS.below h5
        replace oB := oB.below h5
        replace B := B.trans (h5.mono B.size)
        clear h5 hgsW
        refine hK.out _ _ (cS) (fun hHeld => ?_)
        clear hK K
        (try simp only [Act.put, List.setIfInBounds_toArray, List.set_cons_zero, List.set_cons_succ])
        refine wpAnyH_ready (rs := [6]) (by kernel_rfl) (by simp) ?_
        refine AllReadyH.cons rfl (fun K hK => ?_) AllReadyH.nil
        rw [if_pos (by kernel_rfl)]
        refine wp_st16 (.tmp 9) (.tmp 54) (by kernel_rfl) rb (fun u => bf u || PK u) (by kernel_rfl) (by kernel_rfl) ?_
        have g6 := grown_setRow (w := x5) (b := bq) (setA (fun u => bf u || PK u))
        have hne1 : gs ≠ bq := by omega
        have hne2 : gb ≠ bq := by omega
        replace cS : ∀ j, j < 16 → (x5.setRow bq (setA (fun u => bf u || PK u))).cell? ⟨gs, k * 16 + j, none⟩ = some (.int .u64 (partN PK j)) := fun j hj => g6.cell (a := ⟨gs, k * 16 + j, none⟩) (cS j hj) (fun e => hne1 (Option.some.inj e))
        replace oo := oo.kept g6 (.inr (own_not_set oo rb))
        replace oS := oS.kept g6 (.inr (fun e => hne1 (Option.some.inj e)))
        replace oB := oB.kept g6 (.inr (fun e => hne2 (Option.some.inj e)))
        replace B := B.grown g6 B.size (fun j e => by cases e; omega)
        replace rb := row_set (q := (fun u => bf u || PK u)) rb
        clear g6
        refine hK.out _ _ cS (fun hHeld => ?_)
        clear hK K
        (try simp only [Act.put, List.setIfInBounds_toArray, List.set_cons_zero, List.set_cons_succ])
        refine wpAnyH_done (by kernel_rfl) ?_ _
        go_wp2_with fail
        go_roundw
        case rel => exact ⟨k + 1, by omega, by go_num, by rw [H2.out]; exact oo, by rw [H3.out]; exact rb, oS, oB, B⟩
        case measure => simp [intOf]; omega
      | false =>
        have H2 : Hid (outT PS C lo (k + 1) = outT PS C lo k) := Lib.hid (by rw [outT, ← HND.out]; rfl)
        cases lo with
        | false =>
          have H3 : Hid (befT PS false (k + 1) = fun u => bf u || PK u) := Lib.hid (by rw [befT, ← HND.out, Hbf.out, HPK.out]; rfl)
          clear HND
          go_wp2_with fail
          refine wp_region_held_drew (S := fun w' => ∀ j, j < 16 → w'.cell? ⟨gs, k * 16 + j, none⟩ = some (.int .u64 (partN PK j))) (by kernel_rfl) cS (fun hHeld => ?_)
          refine wpAnyH_take (i := 1) (v := ?_) rfl (by kernel_rfl) (by kernel_rfl) (by kernel_rfl) (fun _ _ _ h => h) (Or.inl ⟨by rfl, ?_⟩) (by assumption) ?_
          rotate_left
          · (intro W hSw; go_simp; try (with_reducible rfl))
          (try simp only [Act.put, List.setIfInBounds_toArray, List.set_cons_zero, List.set_cons_succ])
          refine wpAnyH_take (i := 2) (v := ?_) rfl (by kernel_rfl) (by kernel_rfl) (by kernel_rfl) (fun _ _ _ h => h) (Or.inl ⟨by rfl, ?_⟩) (by assumption) ?_
          rotate_left
          · (intro W hSw; go_simp; try (with_reducible rfl))
          (try simp only [Act.put, List.setIfInBounds_toArray, List.set_cons_zero, List.set_cons_succ])
          refine wpAnyH_take (i := 3) (v := .pointer (some ⟨gs, k * 16, none⟩)) rfl (by kernel_rfl) (by kernel_rfl) (by kernel_rfl) (fun _ _ _ h => h) (Or.inl ⟨by rfl, ?_⟩) (by assumption) ?_
          · (intro W hSw; go_simp)
          (try simp only [Act.put, List.setIfInBounds_toArray, List.set_cons_zero, List.set_cons_succ])
          refine wpAnyH_take (i := 4) (v := .agg (setA PK)) rfl (by kernel_rfl) (by kernel_rfl) (by kernel_rfl) (fun _ _ _ h => h) (Or.inl ⟨by rfl, ?_⟩) (by assumption) ?_
          · (intro W hSw; exact exec_ldAt hSw _ (.tmp 52) (by kernel_rfl) (by kernel_rfl))
          (try simp only [Act.put, List.setIfInBounds_toArray, List.set_cons_zero, List.set_cons_succ])
          refine wpAnyH_ready (rs := [0]) (by kernel_rfl) (by simp) ?_
          refine AllReadyH.cons rfl (fun K hK => ?_) AllReadyH.nil
          have rbd : RowAt x2.drew bq bf := rb
          (first | (rw [if_pos (by kernel_rfl)]; refine wp_ld16 (.tmp 9) (by kernel_rfl) rbd (by kernel_rfl) ?_) | (refine wp_ld16 (.tmp 9) (by kernel_rfl) rbd (by kernel_rfl) ?_))
          clear rbd
          refine hK.out _ _ (cS) (fun hHeld => ?_)
          clear hK K
          (try simp only [Act.put, List.setIfInBounds_toArray, List.set_cons_zero, List.set_cons_succ])
          refine wpAnyH_ready (rs := [5]) (by kernel_rfl) (by simp) ?_
          refine AllReadyH.cons rfl (fun K hK => ?_) AllReadyH.nil
          go_simp
          (go_at_call 49; refine (with_any bf PK _).mono ?_)
          rintro e x5 ⟨rfl, h5'⟩
          have h5 : Below x2.heap.size x2 x5 := (Below.refl _ x2).drew.trans h5'
          clear h5'
          have hgsW := oS.base_le.2
          replace cS : ∀ j, j < 16 → x5.cell? ⟨gs, k * 16 + j, none⟩ = some (.int .u64 (partN PK j)) := fun j hj => (h5.cell (p := ⟨gs, k * 16 + j, none⟩) hgsW).trans (cS j hj)
          replace oo := oo.below h5
          replace rb := rb.below h5 rb.lt
          replace oS := oS.below h5
          replace oB := oB.below h5
          replace B := B.trans (h5.mono B.size)
          clear h5 hgsW
          refine hK.out _ _ (cS) (fun hHeld => ?_)
          clear hK K
          (try simp only [Act.put, List.setIfInBounds_toArray, List.set_cons_zero, List.set_cons_succ])
          refine wpAnyH_ready (rs := [6]) (by kernel_rfl) (by simp) ?_
          refine AllReadyH.cons rfl (fun K hK => ?_) AllReadyH.nil
          rw [if_pos (by kernel_rfl)]
          refine wp_st16 (.tmp 9) (.tmp 54) (by kernel_rfl) rb (fun u => bf u || PK u) (by kernel_rfl) (by kernel_rfl) ?_
          have g6 := grown_setRow (w := x5) (b := bq) (setA (fun u => bf u || PK u))
          have hne1 : gs ≠ bq := by omega
          have hne2 : gb ≠ bq := by omega
          replace cS : ∀ j, j < 16 → (x5.setRow bq (setA (fun u => bf u || PK u))).cell? ⟨gs, k * 16 + j, none⟩ = some (.int .u64 (partN PK j)) := fun j hj => g6.cell (a := ⟨gs, k * 16 + j, none⟩) (cS j hj) (fun e => hne1 (Option.some.inj e))
          replace oo := oo.kept g6 (.inr (own_not_set oo rb))
          replace oS := oS.kept g6 (.inr (fun e => hne1 (Option.some.inj e)))
          replace oB := oB.kept g6 (.inr (fun e => hne2 (Option.some.inj e)))
          replace B := B.grown g6 B.size (fun j e => by cases e; omega)
          replace rb := row_set (q := (fun u => bf u || PK u)) rb
          clear g6
          refine hK.out _ _ cS (fun hHeld => ?_)
          clear hK K
          (try simp only [Act.put, List.setIfInBounds_toArray, List.set_cons_zero, List.set_cons_succ])
          refine wpAnyH_done (by kernel_rfl) ?_ _
          go_wp2_with fail
          go_roundw
          case rel => exact ⟨k + 1, by omega, by go_num, by rw [H2.out]; exact oo, by rw [H3.out]; exact rb, oS, oB, B⟩
          case measure => simp [intOf]; omega
        | true =>
          have H3 : Hid (befT PS true (k + 1) = bf) := Lib.hid (by rw [befT, ← HND.out, Hbf.out]; rfl)
          clear HND
          go_wp2_with fail
          go_roundw
          case rel => exact ⟨k + 1, by omega, by go_num, by rw [H2.out]; exact oo, by rw [H3.out]; exact rb, oS, oB, B⟩
          case measure => simp [intOf]; omega
    · have ek : Hid (k = C.length) := Lib.hid (by omega)
      go_wp2_with fail
      go_ret
      exact ⟨_, rfl, by rw [← ek.out]; exact oo, B⟩

end Go.Proofs.YtpmfedllbiblbaaGreat
