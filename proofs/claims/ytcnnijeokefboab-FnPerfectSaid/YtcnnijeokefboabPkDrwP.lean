/-
  The draws of chapter 6: perfect codes. By an AI agent.
-/
import Derived.Test.YtcnnijeokefboabPkDrw6
import Derived.Test.YtcnnijeokefboabPk20
import Derived.Test.YtcnnijeokefboabPkHamS
namespace Go.Proofs.Ytcnnijeokefboab
open Go.RowKit Cv
set_option linter.unusedVariables false
set_option linter.unusedSimpArgs false
set_option maxRecDepth 100000

theorem own_cap0p {w : World} {base n cap : Nat} {a : Option Addr} {T : List Int} (h : OwnInts w base (.slice a n cap) T) (e : a = none) : cap = 0 := by
  subst e
  rcases h.2 with ⟨hv, _⟩ | ⟨g', _, _, hv, _⟩
  · simp only [Value.slice.injEq] at hv; exact hv.2.2
  · simp at hv
theorem putTo_lenp (f : Nat → Int) (k : Nat) : (putTo [] f k).length ≤ k := by
  induction k with
  | zero => simp [putTo]
  | succ k ih => rw [putTo]; have := putL_len (putTo [] f k) (f k); omega
theorem IntsX.lower {A b : Nat} {w : World} {ao : Option Addr} {S : List Int} (h : IntsX A w ao S) (hb : b ≤ A) : IntsX b w ao S := ⟨h.1, fun g o e => by have := h.2 g o e; omega⟩
theorem bd_031 : ∀ i, i < ([0, 31] : List Int).length → 0 ≤ gi [0, 31] i ∧ gi [0, 31] i ≤ 9223372036854775807 := fun i hi => by
  have : i = 0 ∨ i = 1 := by simp at hi; omega
  rcases this with rfl | rfl <;> decide
theorem bd_one {r : Int} (h : 0 ≤ r ∧ r ≤ 9223372036854775807) : ∀ i, i < ([r] : List Int).length → 0 ≤ gi [r] i ∧ gi [r] i ≤ 9223372036854775807 := fun i hi => by
  have : i = 0 := by simpa using hi
  subst this; exact h
theorem sp_22222 : Sp [2, 2, 2, 2, 2] := (isSp_iff _).1 (by decide)
theorem ham_len {q : Int} {m : Nat} (h : goodQM q m) : 0 < (selL (hamP q m) (nW (hS q (colL q m).length)).toNat).length ∧ (selL (hamP q m) (nW (hS q (colL q m).length)).toNat).length ≤ 1024 := by
  have h1 := nW_bd (good_sp h)
  have h2 := selL_len (hamP q m) (nW (hS q (colL q m).length)).toNat
  refine ⟨List.length_pos_of_mem (a := ((0 : Nat) : Int)) ((mem_selL _ _ _).2 ⟨0, by omega, ?_, rfl⟩), by omega⟩
  rcases h with ⟨rfl, rfl⟩ | ⟨rfl, rfl⟩ | ⟨rfl, rfl⟩ <;> decide +kernel
theorem selL_bdp (p : Nat → Bool) {n : Nat} (h : n ≤ 1024) : ∀ i, i < (selL p n).length → 0 ≤ gi (selL p n) i ∧ gi (selL p n) i ≤ 9223372036854775807 := fun i hi => by
  obtain ⟨j, hj, _, e⟩ := (mem_selL _ _ _).1 (gi_mem hi)
  omega

set_option maxHeartbeats 4000000 in
theorem perfDraw_any (b : Nat) (a : Option Addr) (n cap : Nat) (hn : n ≤ 4096) (w : World) (hs : Src w b a n cap) :
    Calls Try.prog 51 #[.pointer (some ⟨b, 0, none⟩)] w fun e w' => ∃ x S c g C cg r, e = .returned (.tuple #[.agg #[.slice x S.length c], .slice g C.length cg, .int .i64 r]) ∧ IntsX b w' x S ∧ Sp S ∧ IntsX b w' g C ∧ (g = none → cg = 0) ∧ 0 < C.length ∧ C.length ≤ 1024 ∧ (∀ i, i < C.length → 0 ≤ gi C i ∧ gi C i ≤ 9223372036854775807) ∧ (0 ≤ r ∧ r ≤ 8) ∧ Src w' b a n cap ∧ w.grownBy w' (some b) := by
  have hbl := hs.lt
  have G := World.grownBy.refl w (some b)
  obtain ⟨A, hA⟩ : ∃ z, z = w.heap.size := ⟨_, rfl⟩
  obtain ⟨u1, hu1⟩ : ∃ z, z = w.alloc (.cells #[.slice none 0 0] 26) := ⟨_, rfl⟩
  have RA : u1.heap[A]? = some (.cells #[.slice none 0 0] 26 (0, 0)) := by rw [hu1, hA]; exact heap_alloc_new _ _
  replace hs : Src u1 b a n cap := by rw [hu1]; exact hs.alloc _
  replace G : w.grownBy u1 (some b) := by rw [hu1]; exact grown_alloc G _
  have HA := Lib.hid hA
  have Hu1 := Lib.hid hu1
  have hAb : b < A := by rw [hA]; exact hbl
  have hnx := next_any b a n cap hn 6 (by omega) u1 hs
  clear hA hu1
  go_enter Try.func51, Try.ntmps51
  go_wp2_with fail
  rw [← Hu1.out, ← HA.out]
  refine hnx.mono ?_
  rintro e u2 ⟨q, rfl, q0, q1, q2, hs', hg⟩
  replace G : w.grownBy u2 (some b) := grown_trans G hg
  replace RA : u2.heap[A]? = some (.cells #[.slice none 0 0] 26 (0, 0)) := row_g RA hg (by simp; omega)
  replace hs := hs'
  clear hnx hg hs' q0 q1 q2
  by_cases hq0 : q = 0
  · have e0 : (q == 0) = true := by simpa using hq0
    clear hq0
    have hg6 : goodQM 2 3 := by unfold goodQM; omega
    have hL := ham_len hg6
    have hSp := good_sp hg6
    have hbd := selL_bdp (hamP 2 3) (n := (nW (hS 2 (colL 2 3).length)).toNat) (by have := nW_bd hSp; omega)
    have hc := l06Hamming_any 2 3 hg6 u2
    obtain ⟨C, hCe⟩ : ∃ C, C = selL (hamP 2 3) (nW (hS 2 (colL 2 3).length)).toNat := ⟨_, rfl⟩
    rw [← hCe] at hc hL hbd
    obtain ⟨S, hSe⟩ : ∃ S, S = hS 2 (colL 2 3).length := ⟨_, rfl⟩
    rw [← hSe] at hc hSp
    clear hCe hSe hg6
    have zA0 := row_lt RA
    go_wp2_with fail
    refine hc.mono ?_
    rintro e u3 ⟨vS, vC, rfl, oS, oC, hb⟩
    obtain ⟨x, cx, hvS⟩ := own_shp oS
    obtain ⟨aC, cg, hvC⟩ := own_shp oC
    subst hvS hvC
    have hX := intsX_own (b := A) oS zA0
    have hC := intsX_own (b := A) oC zA0
    have hcap := own_cap0p oC
    obtain ⟨hL1, hL2⟩ := hL
    replace hs : Src u3 b a n cap := hs.below hb hs.lt
    replace G : w.grownBy u3 (some b) := grown_trans G (grown_of_below hb _)
    replace RA : u3.heap[A]? = some (.cells #[.slice none 0 0] 26 (0, 0)) := row_g RA (grown_of_below hb none) (by simp)
    clear hc hb oS oC zA0
    have RX : (u3.alloc (.cells #[.slice x S.length cx] 26)).heap[u3.heap.size]? = some (.cells #[.slice x S.length cx] 26 (0, 0)) := heap_alloc_new _ _
    replace hs : Src (u3.alloc (.cells #[.slice x S.length cx] 26)) b a n cap := hs.alloc _
    replace G : w.grownBy (u3.alloc (.cells #[.slice x S.length cx] 26)) (some b) := grown_alloc G _
    replace RA : (u3.alloc (.cells #[.slice x S.length cx] 26)).heap[A]? = some (.cells #[.slice none 0 0] 26 (0, 0)) := row_g RA (World.grownBy_alloc _ _ none) (by simp)
    replace hX : IntsX A (u3.alloc (.cells #[.slice x S.length cx] 26)) x S := hX.below (B := 0) ((Below.refl _ _).alloc (Nat.le_refl _) _)
    replace hC : IntsX A (u3.alloc (.cells #[.slice x S.length cx] 26)) aC C := hC.below (B := 0) ((Below.refl _ _).alloc (Nat.le_refl _) _)
    have xX := cell_of1' RX
    have xA := cell_of1' RA
    have fA := frozen_of_row (u3.alloc (.cells #[.slice x S.length cx] 26)) A 0 _ _ RA
    have zA := row_lt RA
    have nX : ∀ g o, (x : Option Addr) = some ⟨g, o, none⟩ → g ≠ A := fun g o e => by have := hX.2 g o e; omega
    have nC : ∀ g o, (aC : Option Addr) = some ⟨g, o, none⟩ → g ≠ A := fun g o e => by have := hC.2 g o e; omega
    have IXe := (hX.set A (.slice x S.length cx) nX).lower (Nat.le_of_lt hAb)
    have ICe := (hC.set A (.slice x S.length cx) nC).lower (Nat.le_of_lt hAb)
    have hse := hs.setO ⟨A, 0, none⟩ (by simp; omega) (.slice x S.length cx)
    have Ge := grown_set G ⟨A, 0, none⟩ (by simp; have := HA.out; omega) (.slice x S.length cx)
    have hpos' := hL1
    have h24' := hL2
    have hbd' := hbd
    have hcap' : (aC : Option Addr) = none → cg = 0 := hcap
    go_wp2_with fail
    refine bodyPost_ret (by rw [results_cell_tmp2w rfl]; go_simp; try rfl) rfl ?_
    exact ⟨x, S, cx, aC, C, cg, 1, (by first | rfl | simp), IXe, hSp, ICe, hcap', hpos', h24', hbd', by omega, hse, Ge⟩
  · have e0 : (q == 0) = false := by simpa using hq0
    clear hq0
    by_cases hq1 : q = 1
    · have e0 : (q == 1) = true := by simpa using hq1
      clear hq1
      have hg6 : goodQM 3 2 := by unfold goodQM; omega
      have hL := ham_len hg6
      have hSp := good_sp hg6
      have hbd := selL_bdp (hamP 3 2) (n := (nW (hS 3 (colL 3 2).length)).toNat) (by have := nW_bd hSp; omega)
      have hc := l06Hamming_any 3 2 hg6 u2
      obtain ⟨C, hCe⟩ : ∃ C, C = selL (hamP 3 2) (nW (hS 3 (colL 3 2).length)).toNat := ⟨_, rfl⟩
      rw [← hCe] at hc hL hbd
      obtain ⟨S, hSe⟩ : ∃ S, S = hS 3 (colL 3 2).length := ⟨_, rfl⟩
      rw [← hSe] at hc hSp
      clear hCe hSe hg6
      have zA0 := row_lt RA
      go_wp2_with fail
      refine hc.mono ?_
      rintro e u3 ⟨vS, vC, rfl, oS, oC, hb⟩
      obtain ⟨x, cx, hvS⟩ := own_shp oS
      obtain ⟨aC, cg, hvC⟩ := own_shp oC
      subst hvS hvC
      have hX := intsX_own (b := A) oS zA0
      have hC := intsX_own (b := A) oC zA0
      have hcap := own_cap0p oC
      obtain ⟨hL1, hL2⟩ := hL
      replace hs : Src u3 b a n cap := hs.below hb hs.lt
      replace G : w.grownBy u3 (some b) := grown_trans G (grown_of_below hb _)
      replace RA : u3.heap[A]? = some (.cells #[.slice none 0 0] 26 (0, 0)) := row_g RA (grown_of_below hb none) (by simp)
      clear hc hb oS oC zA0
      have RX : (u3.alloc (.cells #[.slice x S.length cx] 26)).heap[u3.heap.size]? = some (.cells #[.slice x S.length cx] 26 (0, 0)) := heap_alloc_new _ _
      replace hs : Src (u3.alloc (.cells #[.slice x S.length cx] 26)) b a n cap := hs.alloc _
      replace G : w.grownBy (u3.alloc (.cells #[.slice x S.length cx] 26)) (some b) := grown_alloc G _
      replace RA : (u3.alloc (.cells #[.slice x S.length cx] 26)).heap[A]? = some (.cells #[.slice none 0 0] 26 (0, 0)) := row_g RA (World.grownBy_alloc _ _ none) (by simp)
      replace hX : IntsX A (u3.alloc (.cells #[.slice x S.length cx] 26)) x S := hX.below (B := 0) ((Below.refl _ _).alloc (Nat.le_refl _) _)
      replace hC : IntsX A (u3.alloc (.cells #[.slice x S.length cx] 26)) aC C := hC.below (B := 0) ((Below.refl _ _).alloc (Nat.le_refl _) _)
      have xX := cell_of1' RX
      have xA := cell_of1' RA
      have fA := frozen_of_row (u3.alloc (.cells #[.slice x S.length cx] 26)) A 0 _ _ RA
      have zA := row_lt RA
      have nX : ∀ g o, (x : Option Addr) = some ⟨g, o, none⟩ → g ≠ A := fun g o e => by have := hX.2 g o e; omega
      have nC : ∀ g o, (aC : Option Addr) = some ⟨g, o, none⟩ → g ≠ A := fun g o e => by have := hC.2 g o e; omega
      have IXe := (hX.set A (.slice x S.length cx) nX).lower (Nat.le_of_lt hAb)
      have ICe := (hC.set A (.slice x S.length cx) nC).lower (Nat.le_of_lt hAb)
      have hse := hs.setO ⟨A, 0, none⟩ (by simp; omega) (.slice x S.length cx)
      have Ge := grown_set G ⟨A, 0, none⟩ (by simp; have := HA.out; omega) (.slice x S.length cx)
      have hpos' := hL1
      have h24' := hL2
      have hbd' := hbd
      have hcap' : (aC : Option Addr) = none → cg = 0 := hcap
      go_wp2_with fail
      refine bodyPost_ret (by rw [results_cell_tmp2w rfl]; go_simp; try rfl) rfl ?_
      exact ⟨x, S, cx, aC, C, cg, 1, (by first | rfl | simp), IXe, hSp, ICe, hcap', hpos', h24', hbd', by omega, hse, Ge⟩
    · have e1 : (q == 1) = false := by simpa using hq1
      clear hq1
      by_cases hq2 : q = 2
      · have e0 : (q == 2) = true := by simpa using hq2
        clear hq2
        have zA0 := row_lt RA
        have hX : IntsX A (u2.alloc (.cells #[.int .i64 2, .int .i64 2, .int .i64 2, .int .i64 2, .int .i64 2] 2)) (some ⟨u2.heap.size, 0, none⟩) [2, 2, 2, 2, 2] := ⟨ints_new _ [2, 2, 2, 2, 2] _, fun g o e => by cases e; exact zA0⟩
        replace hs : Src (u2.alloc (.cells #[.int .i64 2, .int .i64 2, .int .i64 2, .int .i64 2, .int .i64 2] 2)) b a n cap := hs.alloc _
        replace G : w.grownBy (u2.alloc (.cells #[.int .i64 2, .int .i64 2, .int .i64 2, .int .i64 2, .int .i64 2] 2)) (some b) := grown_alloc G _
        replace RA : (u2.alloc (.cells #[.int .i64 2, .int .i64 2, .int .i64 2, .int .i64 2, .int .i64 2] 2)).heap[A]? = some (.cells #[.slice none 0 0] 26 (0, 0)) := row_g RA (World.grownBy_alloc _ _ none) (by simp)
        have RX : ((u2.alloc (.cells #[.int .i64 2, .int .i64 2, .int .i64 2, .int .i64 2, .int .i64 2] 2)).alloc (.cells #[.slice (some ⟨u2.heap.size, 0, none⟩) 5 5] 26)).heap[(u2.alloc (.cells #[.int .i64 2, .int .i64 2, .int .i64 2, .int .i64 2, .int .i64 2] 2)).heap.size]? = some (.cells #[.slice (some ⟨u2.heap.size, 0, none⟩) 5 5] 26 (0, 0)) := heap_alloc_new _ _
        replace hs : Src ((u2.alloc (.cells #[.int .i64 2, .int .i64 2, .int .i64 2, .int .i64 2, .int .i64 2] 2)).alloc (.cells #[.slice (some ⟨u2.heap.size, 0, none⟩) 5 5] 26)) b a n cap := hs.alloc _
        replace G : w.grownBy ((u2.alloc (.cells #[.int .i64 2, .int .i64 2, .int .i64 2, .int .i64 2, .int .i64 2] 2)).alloc (.cells #[.slice (some ⟨u2.heap.size, 0, none⟩) 5 5] 26)) (some b) := grown_alloc G _
        replace RA : ((u2.alloc (.cells #[.int .i64 2, .int .i64 2, .int .i64 2, .int .i64 2, .int .i64 2] 2)).alloc (.cells #[.slice (some ⟨u2.heap.size, 0, none⟩) 5 5] 26)).heap[A]? = some (.cells #[.slice none 0 0] 26 (0, 0)) := row_g RA (World.grownBy_alloc _ _ none) (by simp)
        replace hX : IntsX A ((u2.alloc (.cells #[.int .i64 2, .int .i64 2, .int .i64 2, .int .i64 2, .int .i64 2] 2)).alloc (.cells #[.slice (some ⟨u2.heap.size, 0, none⟩) 5 5] 26)) (some ⟨u2.heap.size, 0, none⟩) [2, 2, 2, 2, 2] := hX.below (B := 0) ((Below.refl _ _).alloc (Nat.le_refl _) _)
        have zA1 := row_lt RA
        have hC : IntsX A (((u2.alloc (.cells #[.int .i64 2, .int .i64 2, .int .i64 2, .int .i64 2, .int .i64 2] 2)).alloc (.cells #[.slice (some ⟨u2.heap.size, 0, none⟩) 5 5] 26)).alloc (.cells #[.int .i64 0, .int .i64 31] 2)) (some ⟨((u2.alloc (.cells #[.int .i64 2, .int .i64 2, .int .i64 2, .int .i64 2, .int .i64 2] 2)).alloc (.cells #[.slice (some ⟨u2.heap.size, 0, none⟩) 5 5] 26)).heap.size, 0, none⟩) [0, 31] := ⟨ints_new _ [0, 31] _, fun g o e => by cases e; exact zA1⟩
        replace hs : Src (((u2.alloc (.cells #[.int .i64 2, .int .i64 2, .int .i64 2, .int .i64 2, .int .i64 2] 2)).alloc (.cells #[.slice (some ⟨u2.heap.size, 0, none⟩) 5 5] 26)).alloc (.cells #[.int .i64 0, .int .i64 31] 2)) b a n cap := hs.alloc _
        replace G : w.grownBy (((u2.alloc (.cells #[.int .i64 2, .int .i64 2, .int .i64 2, .int .i64 2, .int .i64 2] 2)).alloc (.cells #[.slice (some ⟨u2.heap.size, 0, none⟩) 5 5] 26)).alloc (.cells #[.int .i64 0, .int .i64 31] 2)) (some b) := grown_alloc G _
        replace RA : (((u2.alloc (.cells #[.int .i64 2, .int .i64 2, .int .i64 2, .int .i64 2, .int .i64 2] 2)).alloc (.cells #[.slice (some ⟨u2.heap.size, 0, none⟩) 5 5] 26)).alloc (.cells #[.int .i64 0, .int .i64 31] 2)).heap[A]? = some (.cells #[.slice none 0 0] 26 (0, 0)) := row_g RA (World.grownBy_alloc _ _ none) (by simp)
        replace hX : IntsX A (((u2.alloc (.cells #[.int .i64 2, .int .i64 2, .int .i64 2, .int .i64 2, .int .i64 2] 2)).alloc (.cells #[.slice (some ⟨u2.heap.size, 0, none⟩) 5 5] 26)).alloc (.cells #[.int .i64 0, .int .i64 31] 2)) (some ⟨u2.heap.size, 0, none⟩) [2, 2, 2, 2, 2] := hX.below (B := 0) ((Below.refl _ _).alloc (Nat.le_refl _) _)
        replace RX : (((u2.alloc (.cells #[.int .i64 2, .int .i64 2, .int .i64 2, .int .i64 2, .int .i64 2] 2)).alloc (.cells #[.slice (some ⟨u2.heap.size, 0, none⟩) 5 5] 26)).alloc (.cells #[.int .i64 0, .int .i64 31] 2)).heap[(u2.alloc (.cells #[.int .i64 2, .int .i64 2, .int .i64 2, .int .i64 2, .int .i64 2] 2)).heap.size]? = some (.cells #[.slice (some ⟨u2.heap.size, 0, none⟩) 5 5] 26 (0, 0)) := row_g RX (World.grownBy_alloc _ _ none) (by simp)
        have hSp := sp_22222
        have xX := cell_of1' RX
        have xA := cell_of1' RA
        have fA := frozen_of_row (((u2.alloc (.cells #[.int .i64 2, .int .i64 2, .int .i64 2, .int .i64 2, .int .i64 2] 2)).alloc (.cells #[.slice (some ⟨u2.heap.size, 0, none⟩) 5 5] 26)).alloc (.cells #[.int .i64 0, .int .i64 31] 2)) A 0 _ _ RA
        have zA := row_lt RA
        have nX : ∀ g o, ((some ⟨u2.heap.size, 0, none⟩) : Option Addr) = some ⟨g, o, none⟩ → g ≠ A := fun g o e => by have := hX.2 g o e; omega
        have nC : ∀ g o, ((some ⟨((u2.alloc (.cells #[.int .i64 2, .int .i64 2, .int .i64 2, .int .i64 2, .int .i64 2] 2)).alloc (.cells #[.slice (some ⟨u2.heap.size, 0, none⟩) 5 5] 26)).heap.size, 0, none⟩) : Option Addr) = some ⟨g, o, none⟩ → g ≠ A := fun g o e => by have := hC.2 g o e; omega
        have IXe := (hX.set A (.slice (some ⟨u2.heap.size, 0, none⟩) [2, 2, 2, 2, 2].length 5) nX).lower (Nat.le_of_lt hAb)
        have ICe := (hC.set A (.slice (some ⟨u2.heap.size, 0, none⟩) [2, 2, 2, 2, 2].length 5) nC).lower (Nat.le_of_lt hAb)
        have hse := hs.setO ⟨A, 0, none⟩ (by simp; omega) (.slice (some ⟨u2.heap.size, 0, none⟩) [2, 2, 2, 2, 2].length 5)
        have Ge := grown_set G ⟨A, 0, none⟩ (by simp; have := HA.out; omega) (.slice (some ⟨u2.heap.size, 0, none⟩) [2, 2, 2, 2, 2].length 5)
        have hpos' := (show 0 < ([0, 31] : List Int).length by decide)
        have h24' := (show ([0, 31] : List Int).length ≤ 1024 by decide)
        have hbd' := bd_031
        have hcap' : ((some ⟨((u2.alloc (.cells #[.int .i64 2, .int .i64 2, .int .i64 2, .int .i64 2, .int .i64 2] 2)).alloc (.cells #[.slice (some ⟨u2.heap.size, 0, none⟩) 5 5] 26)).heap.size, 0, none⟩) : Option Addr) = none → 2 = 0 := (fun e => by cases e)
        go_wp2_with fail
        refine bodyPost_ret (by rw [results_cell_tmp2w rfl]; go_simp; try rfl) rfl ?_
        exact ⟨(some ⟨u2.heap.size, 0, none⟩), [2, 2, 2, 2, 2], 5, (some ⟨((u2.alloc (.cells #[.int .i64 2, .int .i64 2, .int .i64 2, .int .i64 2, .int .i64 2] 2)).alloc (.cells #[.slice (some ⟨u2.heap.size, 0, none⟩) 5 5] 26)).heap.size, 0, none⟩), [0, 31], 2, 2, (by first | rfl | simp), IXe, hSp, ICe, hcap', hpos', h24', hbd', by omega, hse, Ge⟩
      · have e2 : (q == 2) = false := by simpa using hq2
        clear hq2
        by_cases hq3 : q = 3
        · have e0 : (q == 3) = true := by simpa using hq3
          clear hq3
          have zA0 := row_lt RA
          have zlt := hs.lt
          have hc := small_any b a n cap hn u2 hs
          go_wp2_with fail
          refine hc.mono ?_
          rintro e u3 ⟨vS, S, rfl, oS, hSp, hs', hg⟩
          obtain ⟨x, cx, hvS⟩ := own_shp oS
          subst hvS
          have hX := intsX_own (b := A) oS zA0
          replace G : w.grownBy u3 (some b) := grown_trans G hg
          replace RA : u3.heap[A]? = some (.cells #[.slice none 0 0] 26 (0, 0)) := row_g RA hg (by simp; omega)
          replace hs := hs'
          clear hc hg hs' zA0 zlt oS
          have hAl := row_lt RA
          obtain ⟨Xb, hXb⟩ : ∃ z, z = u3.heap.size := ⟨_, rfl⟩
          obtain ⟨u4, hu4⟩ : ∃ z, z = u3.alloc (.cells #[.slice x S.length cx] 26) := ⟨_, rfl⟩
          have RX : u4.heap[Xb]? = some (.cells #[.slice x S.length cx] 26 (0, 0)) := by rw [hu4, hXb]; exact heap_alloc_new _ _
          replace hs : Src u4 b a n cap := by rw [hu4]; exact hs.alloc _
          replace G : w.grownBy u4 (some b) := by rw [hu4]; exact grown_alloc G _
          replace RA : u4.heap[A]? = some (.cells #[.slice none 0 0] 26 (0, 0)) := by rw [hu4]; exact row_g RA (World.grownBy_alloc _ _ none) (by simp)
          replace hX : IntsX A u4 x S := by rw [hu4]; exact hX.below (B := 0) ((Below.refl _ _).alloc (Nat.le_refl _) _)
          have HXb := Lib.hid hXb
          have Hu4 := Lib.hid hu4
          have hAX : A < Xb := by rw [hXb]; exact hAl
          clear hXb hu4 hAl
          obtain ⟨N1, N2⟩ := nW_bd hSp
          have S8 := hSp.hi
          unfold nW at N1 N2
          go_wp2_with fail
          rw [← Hu4.out, ← HXb.out]
          refine wp_region_held_drew (S := fun w' => w'.cell? ⟨Xb, 0, none⟩ = some (.slice x S.length cx)) (by kernel_rfl) (cell_of1' RX) (fun hHeld => ?_)
          refine wpAnyH_take (i := 0) (v := ?_) rfl (by kernel_rfl) (by kernel_rfl) (by kernel_rfl) (fun _ _ _ h => h) (Or.inl ⟨by rfl, ?_⟩) (by assumption) ?_
          rotate_left
          · (intro w hSw; obtain hSw := hSw; (try dsimp only at hSw); go_simp; try (with_reducible rfl))
          (try simp only [Act.put, List.setIfInBounds_toArray, List.set_cons_zero, List.set_cons_succ, List.getElem_toArray, List.getElem_cons_succ, List.getElem_cons_zero])
          refine wpAnyH_take (i := 1) (v := ?_) rfl (by kernel_rfl) (by kernel_rfl) (by kernel_rfl) (fun _ _ _ h => h) (Or.inl ⟨by rfl, ?_⟩) (by assumption) ?_
          rotate_left
          · (intro w hSw; obtain hSw := hSw; (try dsimp only at hSw); go_simp; try (with_reducible rfl))
          (try simp only [Act.put, List.setIfInBounds_toArray, List.set_cons_zero, List.set_cons_succ, List.getElem_toArray, List.getElem_cons_succ, List.getElem_cons_zero])
          refine wpAnyH_take (i := 2) (v := ?_) rfl (by kernel_rfl) (by kernel_rfl) (by kernel_rfl) (fun _ _ _ h => h) (Or.inl ⟨by rfl, ?_⟩) (by assumption) ?_
          rotate_left
          · (intro w hSw; obtain hSw := hSw; (try dsimp only at hSw); go_simp; try (with_reducible rfl))
          (try simp only [Act.put, List.setIfInBounds_toArray, List.set_cons_zero, List.set_cons_succ, List.getElem_toArray, List.getElem_cons_succ, List.getElem_cons_zero])
          refine wpAnyH_take (i := 6) (v := ?_) rfl (by kernel_rfl) (by kernel_rfl) (by kernel_rfl) (fun _ _ _ h => h) (Or.inl ⟨by rfl, ?_⟩) (by assumption) ?_
          rotate_left
          · (intro w hSw; obtain hSw := hSw; (try dsimp only at hSw); go_simp; try (with_reducible rfl))
          (try simp only [Act.put, List.setIfInBounds_toArray, List.set_cons_zero, List.set_cons_succ, List.getElem_toArray, List.getElem_cons_succ, List.getElem_cons_zero])
          refine wpAnyH_take (i := 7) (v := ?_) rfl (by kernel_rfl) (by kernel_rfl) (by kernel_rfl) (fun _ _ _ h => h) (Or.inl ⟨by rfl, ?_⟩) (by assumption) ?_
          rotate_left
          · (intro w hSw; obtain hSw := hSw; (try dsimp only at hSw); go_simp; try (with_reducible rfl))
          (try simp only [Act.put, List.setIfInBounds_toArray, List.set_cons_zero, List.set_cons_succ, List.getElem_toArray, List.getElem_cons_succ, List.getElem_cons_zero])
          refine wpAnyH_take (i := 8) (v := ?_) rfl (by kernel_rfl) (by kernel_rfl) (by kernel_rfl) (fun _ _ _ h => h) (Or.inl ⟨by rfl, ?_⟩) (by assumption) ?_
          rotate_left
          · (intro w hSw; obtain hSw := hSw; (try dsimp only at hSw); go_simp; try (with_reducible rfl))
          (try simp only [Act.put, List.setIfInBounds_toArray, List.set_cons_zero, List.set_cons_succ, List.getElem_toArray, List.getElem_cons_succ, List.getElem_cons_zero])
          replace hs : Src u4.drew b a n cap := hs.drewN 1
          replace G : w.grownBy u4.drew (some b) := grown_drewN G 1
          replace RA : u4.drew.heap[A]? = some (.cells #[.slice none 0 0] 26 (0, 0)) := RA
          replace hX : IntsX A u4.drew x S := hX
          replace RX : u4.drew.heap[Xb]? = some (.cells #[.slice x S.length cx] 26 (0, 0)) := RX
          refine wpAnyH_ready (rs := [3]) (by kernel_rfl) (by simp) ?_
          refine AllReadyH.cons rfl (fun K hK => ?_) AllReadyH.nil
          go_simp
          (go_at_call 26; refine (l01N_any x S cx u4.drew hSp.hi hSp.bd hX.1).mono ?_)
          rintro e u5 ⟨rfl, hb⟩
          replace hs : Src u5 b a n cap := hs.below hb hs.lt
          replace G : w.grownBy u5 (some b) := grown_trans G (grown_of_below hb _)
          replace RA : u5.heap[A]? = some (.cells #[.slice none 0 0] 26 (0, 0)) := row_g RA (grown_of_below hb none) (by simp)
          replace hX : IntsX A u5 x S := hX.below (B := 0) hb
          replace RX : u5.heap[Xb]? = some (.cells #[.slice x S.length cx] 26 (0, 0)) := row_g RX (grown_of_below hb none) (by simp)
          clear hb
          refine hK.out _ _ (cell_of1' RX) (fun hHeld => ?_)
          clear hK K
          (try simp only [Act.put, List.setIfInBounds_toArray, List.set_cons_zero, List.set_cons_succ, List.getElem_toArray, List.getElem_cons_succ, List.getElem_cons_zero])
          refine wpAnyH_ready (rs := [4]) (by kernel_rfl) (by simp) ?_
          refine AllReadyH.cons rfl (fun K hK => ?_) AllReadyH.nil
          go_simp
          (go_at_call 52; refine (next_any b a n cap hn (prodTo S S.length) (by omega) u5 hs).mono ?_)
          have zlt := hs.lt
          rintro e u6 ⟨r, rfl, r0, r1, r2, hs', hg⟩
          replace G : w.grownBy u6 (some b) := grown_trans G hg
          replace RA : u6.heap[A]? = some (.cells #[.slice none 0 0] 26 (0, 0)) := row_g RA hg (by simp; omega)
          replace hX : IntsX A u6 x S := hX.grownR hg (by intro g o e; have := hX.2 g o e; simp; omega)
          replace RX : u6.heap[Xb]? = some (.cells #[.slice x S.length cx] 26 (0, 0)) := row_g RX hg (by simp; omega)
          replace hs := hs'
          clear hg zlt hs'
          refine hK.out _ _ (cell_of1' RX) (fun hHeld => ?_)
          clear hK K
          (try simp only [Act.put, List.setIfInBounds_toArray, List.set_cons_zero, List.set_cons_succ, List.getElem_toArray, List.getElem_cons_succ, List.getElem_cons_zero])
          refine wpAnyH_ready (rs := [5, 9]) (by kernel_rfl) (by simp) ?_
          refine AllReadyH.cons rfl (fun K hK => ?_) ?_
          · have RA0 := RA
            go_simp
            replace hs : Src (u6.alloc (.cells #[.int .i64 r] 2)) b a n cap := hs.alloc _
            replace G : w.grownBy (u6.alloc (.cells #[.int .i64 r] 2)) (some b) := grown_alloc G _
            replace RA : (u6.alloc (.cells #[.int .i64 r] 2)).heap[A]? = some (.cells #[.slice none 0 0] 26 (0, 0)) := row_g RA (World.grownBy_alloc _ _ none) (by simp)
            replace hX : IntsX A (u6.alloc (.cells #[.int .i64 r] 2)) x S := hX.below (B := 0) ((Below.refl _ _).alloc (Nat.le_refl _) _)
            replace RX : (u6.alloc (.cells #[.int .i64 r] 2)).heap[Xb]? = some (.cells #[.slice x S.length cx] 26 (0, 0)) := row_g RX (World.grownBy_alloc _ _ none) (by simp)
            have hC : IntsX A (u6.alloc (.cells #[.int .i64 r] 2)) (some ⟨u6.heap.size, 0, none⟩) [r] := ⟨ints_new _ [r] _, fun g o e => by cases e; exact row_lt RA0⟩
            refine hK.out _ _ (cell_of1' RX) (fun hHeld => ?_)
            clear hK K
            (try simp only [Act.put, List.setIfInBounds_toArray, List.set_cons_zero, List.set_cons_succ, List.getElem_toArray, List.getElem_cons_succ, List.getElem_cons_zero])
            refine wpAnyH_ready (rs := [9]) (by kernel_rfl) (by simp) ?_
            refine AllReadyH.cons rfl (fun K hK => ?_) AllReadyH.nil
            have xSt := cell_of1' RA
            have fSt := frozen_of_row (u6.alloc (.cells #[.int .i64 r] 2)) A 0 _ _ RA
            have zSt := row_lt RA
            go_simp
            replace hs : Src ((u6.alloc (.cells #[.int .i64 r] 2)).setCell ⟨A, 0, none⟩ (.slice x S.length cx)) b a n cap := hs.setO _ (by simp; omega) _
            replace G : w.grownBy ((u6.alloc (.cells #[.int .i64 r] 2)).setCell ⟨A, 0, none⟩ (.slice x S.length cx)) (some b) := grown_set G _ (by simp; have := HA.out; omega) _
            replace RA : ((u6.alloc (.cells #[.int .i64 r] 2)).setCell ⟨A, 0, none⟩ (.slice x S.length cx)).heap[A]? = some (.cells #[.slice x S.length cx] 26 (0, 0)) := row_store1' _ RA
            replace hX : IntsX A ((u6.alloc (.cells #[.int .i64 r] 2)).setCell ⟨A, 0, none⟩ (.slice x S.length cx)) x S := hX.set _ _ (by intro g o e; have := hX.2 g o e; omega)
            replace RX : ((u6.alloc (.cells #[.int .i64 r] 2)).setCell ⟨A, 0, none⟩ (.slice x S.length cx)).heap[Xb]? = some (.cells #[.slice x S.length cx] 26 (0, 0)) := row_setO RX (by simp; omega) _
            replace hC : IntsX A ((u6.alloc (.cells #[.int .i64 r] 2)).setCell ⟨A, 0, none⟩ (.slice x S.length cx)) (some ⟨u6.heap.size, 0, none⟩) [r] := hC.set _ _ (by intro g o e; have := hC.2 g o e; omega)
            clear xSt fSt zSt
            refine hK.out _ _ (cell_of1' RX) (fun hHeld => ?_)
            clear hK K
            (try simp only [Act.put, List.setIfInBounds_toArray, List.set_cons_zero, List.set_cons_succ, List.getElem_toArray, List.getElem_cons_succ, List.getElem_cons_zero])
            refine wpAnyH_take (i := 10) (v := ?_) rfl (by kernel_rfl) (by kernel_rfl) (by kernel_rfl) (fun _ _ _ h => h) (Or.inl ⟨by rfl, ?_⟩) (by assumption) ?_
            rotate_left
            · (intro w hSw; obtain hSw := hSw; (try dsimp only at hSw); go_simp; try (with_reducible rfl))
            (try simp only [Act.put, List.setIfInBounds_toArray, List.set_cons_zero, List.set_cons_succ, List.getElem_toArray, List.getElem_cons_succ, List.getElem_cons_zero])
            refine wpAnyH_take (i := 11) (v := ?_) rfl (by kernel_rfl) (by kernel_rfl) (by kernel_rfl) (fun _ _ _ h => h) (Or.inl ⟨by rfl, ?_⟩) (by assumption) ?_
            rotate_left
            · (intro w hSw; obtain hSw := hSw; (try dsimp only at hSw); go_simp; try (with_reducible rfl))
            (try simp only [Act.put, List.setIfInBounds_toArray, List.set_cons_zero, List.set_cons_succ, List.getElem_toArray, List.getElem_cons_succ, List.getElem_cons_zero])
            refine wpAnyH_done (by kernel_rfl) ?_ _
            (try simp only [Act.put, List.setIfInBounds_toArray, List.set_cons_zero, List.set_cons_succ, List.getElem_toArray, List.getElem_cons_succ, List.getElem_cons_zero])
            have xA := cell_of1' RA
            have zA := row_lt RA
            have IXe := hX.lower (Nat.le_of_lt hAb)
            have ICe := hC.lower (Nat.le_of_lt hAb)
            have hbd' := bd_one (r := r) (by omega)
            go_wp2_with fail
            refine bodyPost_ret (by rw [results_cell_tmp2w rfl]; go_simp; try rfl) rfl ?_
            exact ⟨x, S, cx, (some ⟨u6.heap.size, 0, none⟩), [r], 1, S.length, rfl, IXe, hSp, (by simpa using ICe), (fun e => by cases e), by simp, by simp, hbd', by omega, hs, G⟩
          refine AllReadyH.cons rfl (fun K hK => ?_) AllReadyH.nil
          have xSt := cell_of1' RA
          have fSt := frozen_of_row u6 A 0 _ _ RA
          have zSt := row_lt RA
          go_simp
          replace hs : Src (u6.setCell ⟨A, 0, none⟩ (.slice x S.length cx)) b a n cap := hs.setO _ (by simp; omega) _
          replace G : w.grownBy (u6.setCell ⟨A, 0, none⟩ (.slice x S.length cx)) (some b) := grown_set G _ (by simp; have := HA.out; omega) _
          replace RA : (u6.setCell ⟨A, 0, none⟩ (.slice x S.length cx)).heap[A]? = some (.cells #[.slice x S.length cx] 26 (0, 0)) := row_store1' _ RA
          replace hX : IntsX A (u6.setCell ⟨A, 0, none⟩ (.slice x S.length cx)) x S := hX.set _ _ (by intro g o e; have := hX.2 g o e; omega)
          replace RX : (u6.setCell ⟨A, 0, none⟩ (.slice x S.length cx)).heap[Xb]? = some (.cells #[.slice x S.length cx] 26 (0, 0)) := row_setO RX (by simp; omega) _
          clear xSt fSt zSt
          refine hK.out _ _ (cell_of1' RX) (fun hHeld => ?_)
          clear hK K
          (try simp only [Act.put, List.setIfInBounds_toArray, List.set_cons_zero, List.set_cons_succ, List.getElem_toArray, List.getElem_cons_succ, List.getElem_cons_zero])
          refine wpAnyH_ready (rs := [5]) (by kernel_rfl) (by simp) ?_
          refine AllReadyH.cons rfl (fun K hK => ?_) AllReadyH.nil
          have RA0 := RA
          go_simp
          replace hs : Src ((u6.setCell ⟨A, 0, none⟩ (.slice x S.length cx)).alloc (.cells #[.int .i64 r] 2)) b a n cap := hs.alloc _
          replace G : w.grownBy ((u6.setCell ⟨A, 0, none⟩ (.slice x S.length cx)).alloc (.cells #[.int .i64 r] 2)) (some b) := grown_alloc G _
          replace RA : ((u6.setCell ⟨A, 0, none⟩ (.slice x S.length cx)).alloc (.cells #[.int .i64 r] 2)).heap[A]? = some (.cells #[.slice x S.length cx] 26 (0, 0)) := row_g RA (World.grownBy_alloc _ _ none) (by simp)
          replace hX : IntsX A ((u6.setCell ⟨A, 0, none⟩ (.slice x S.length cx)).alloc (.cells #[.int .i64 r] 2)) x S := hX.below (B := 0) ((Below.refl _ _).alloc (Nat.le_refl _) _)
          replace RX : ((u6.setCell ⟨A, 0, none⟩ (.slice x S.length cx)).alloc (.cells #[.int .i64 r] 2)).heap[Xb]? = some (.cells #[.slice x S.length cx] 26 (0, 0)) := row_g RX (World.grownBy_alloc _ _ none) (by simp)
          have hC : IntsX A ((u6.setCell ⟨A, 0, none⟩ (.slice x S.length cx)).alloc (.cells #[.int .i64 r] 2)) (some ⟨(u6.setCell ⟨A, 0, none⟩ (.slice x S.length cx)).heap.size, 0, none⟩) [r] := ⟨ints_new _ [r] _, fun g o e => by cases e; exact row_lt RA0⟩
          refine hK.out _ _ (cell_of1' RX) (fun hHeld => ?_)
          clear hK K
          (try simp only [Act.put, List.setIfInBounds_toArray, List.set_cons_zero, List.set_cons_succ, List.getElem_toArray, List.getElem_cons_succ, List.getElem_cons_zero])
          refine wpAnyH_take (i := 10) (v := ?_) rfl (by kernel_rfl) (by kernel_rfl) (by kernel_rfl) (fun _ _ _ h => h) (Or.inl ⟨by rfl, ?_⟩) (by assumption) ?_
          rotate_left
          · (intro w hSw; obtain hSw := hSw; (try dsimp only at hSw); go_simp; try (with_reducible rfl))
          (try simp only [Act.put, List.setIfInBounds_toArray, List.set_cons_zero, List.set_cons_succ, List.getElem_toArray, List.getElem_cons_succ, List.getElem_cons_zero])
          refine wpAnyH_take (i := 11) (v := ?_) rfl (by kernel_rfl) (by kernel_rfl) (by kernel_rfl) (fun _ _ _ h => h) (Or.inl ⟨by rfl, ?_⟩) (by assumption) ?_
          rotate_left
          · (intro w hSw; obtain hSw := hSw; (try dsimp only at hSw); go_simp; try (with_reducible rfl))
          (try simp only [Act.put, List.setIfInBounds_toArray, List.set_cons_zero, List.set_cons_succ, List.getElem_toArray, List.getElem_cons_succ, List.getElem_cons_zero])
          refine wpAnyH_done (by kernel_rfl) ?_ _
          (try simp only [Act.put, List.setIfInBounds_toArray, List.set_cons_zero, List.set_cons_succ, List.getElem_toArray, List.getElem_cons_succ, List.getElem_cons_zero])
          have xA := cell_of1' RA
          have zA := row_lt RA
          have IXe := hX.lower (Nat.le_of_lt hAb)
          have ICe := hC.lower (Nat.le_of_lt hAb)
          have hbd' := bd_one (r := r) (by omega)
          go_wp2_with fail
          refine bodyPost_ret (by rw [results_cell_tmp2w rfl]; go_simp; try rfl) rfl ?_
          exact ⟨x, S, cx, (some ⟨u6.heap.size, 0, none⟩), [r], 1, S.length, rfl, IXe, hSp, (by simpa using ICe), (fun e => by cases e), by simp, by simp, hbd', by omega, hs, G⟩
        · have e3 : (q == 3) = false := by simpa using hq3
          clear hq3
          have hg6 : goodQM 2 2 := by unfold goodQM; omega
          have hL := ham_len hg6
          have hSp := good_sp hg6
          have hbd := selL_bdp (hamP 2 2) (n := (nW (hS 2 (colL 2 2).length)).toNat) (by have := nW_bd hSp; omega)
          have hc := l06Hamming_any 2 2 hg6 u2
          obtain ⟨C, hCe⟩ : ∃ C, C = selL (hamP 2 2) (nW (hS 2 (colL 2 2).length)).toNat := ⟨_, rfl⟩
          rw [← hCe] at hc hL hbd
          obtain ⟨S, hSe⟩ : ∃ S, S = hS 2 (colL 2 2).length := ⟨_, rfl⟩
          rw [← hSe] at hc hSp
          clear hCe hSe hg6
          have zA0 := row_lt RA
          go_wp2_with fail
          refine hc.mono ?_
          rintro e u3 ⟨vS, vC, rfl, oS, oC, hb⟩
          obtain ⟨x, cx, hvS⟩ := own_shp oS
          obtain ⟨aC, cg, hvC⟩ := own_shp oC
          subst hvS hvC
          have hX := intsX_own (b := A) oS zA0
          have hC := intsX_own (b := A) oC zA0
          have hcap := own_cap0p oC
          obtain ⟨hL1, hL2⟩ := hL
          replace hs : Src u3 b a n cap := hs.below hb hs.lt
          replace G : w.grownBy u3 (some b) := grown_trans G (grown_of_below hb _)
          replace RA : u3.heap[A]? = some (.cells #[.slice none 0 0] 26 (0, 0)) := row_g RA (grown_of_below hb none) (by simp)
          clear hc hb oS oC zA0
          have RX : (u3.alloc (.cells #[.slice x S.length cx] 26)).heap[u3.heap.size]? = some (.cells #[.slice x S.length cx] 26 (0, 0)) := heap_alloc_new _ _
          replace hs : Src (u3.alloc (.cells #[.slice x S.length cx] 26)) b a n cap := hs.alloc _
          replace G : w.grownBy (u3.alloc (.cells #[.slice x S.length cx] 26)) (some b) := grown_alloc G _
          replace RA : (u3.alloc (.cells #[.slice x S.length cx] 26)).heap[A]? = some (.cells #[.slice none 0 0] 26 (0, 0)) := row_g RA (World.grownBy_alloc _ _ none) (by simp)
          replace hX : IntsX A (u3.alloc (.cells #[.slice x S.length cx] 26)) x S := hX.below (B := 0) ((Below.refl _ _).alloc (Nat.le_refl _) _)
          replace hC : IntsX A (u3.alloc (.cells #[.slice x S.length cx] 26)) aC C := hC.below (B := 0) ((Below.refl _ _).alloc (Nat.le_refl _) _)
          have xX := cell_of1' RX
          have xA := cell_of1' RA
          have fA := frozen_of_row (u3.alloc (.cells #[.slice x S.length cx] 26)) A 0 _ _ RA
          have zA := row_lt RA
          have nX : ∀ g o, (x : Option Addr) = some ⟨g, o, none⟩ → g ≠ A := fun g o e => by have := hX.2 g o e; omega
          have nC : ∀ g o, (aC : Option Addr) = some ⟨g, o, none⟩ → g ≠ A := fun g o e => by have := hC.2 g o e; omega
          have IXe := (hX.set A (.slice x S.length cx) nX).lower (Nat.le_of_lt hAb)
          have ICe := (hC.set A (.slice x S.length cx) nC).lower (Nat.le_of_lt hAb)
          have hse := hs.setO ⟨A, 0, none⟩ (by simp; omega) (.slice x S.length cx)
          have Ge := grown_set G ⟨A, 0, none⟩ (by simp; have := HA.out; omega) (.slice x S.length cx)
          have hpos' := hL1
          have h24' := hL2
          have hbd' := hbd
          have hcap' : (aC : Option Addr) = none → cg = 0 := hcap
          go_wp2_with fail
          refine bodyPost_ret (by rw [results_cell_tmp2w rfl]; go_simp; try rfl) rfl ?_
          exact ⟨x, S, cx, aC, C, cg, 1, (by first | rfl | simp), IXe, hSp, ICe, hcap', hpos', h24', hbd', by omega, hse, Ge⟩

end Go.Proofs.Ytcnnijeokefboab
