/-
  The contracts of the program's balls, coveredWords, wholeSet. By an AI agent.
-/
import Derived.Test.YtgaelpcghljihaaTgt
namespace Go.Proofs.Ytgaelpcghljihaa
open Go.RowKit Go.Shelf Cv
set_option linter.unusedVariables false
set_option linter.unusedSimpArgs false
set_option maxRecDepth 100000

attribute [local go_sem] Oper.semAt_some

theorem balls_any (ao : Option Addr) (S : List Int) (cap : Nat) (ac : Option Addr) (C : List Int) (capc : Nat) (r : Int) (w : World) :
    Calls Try.prog 98 #[.agg #[.slice ao S.length cap], .slice ac C.length capc, .int .i64 r] w fun e w' =>
      ∃ wb sb rb, e = .returned (.func (.func 142) #[] #[.pointer (some ⟨wb, 0, none⟩), .pointer (some ⟨sb, 0, none⟩), .pointer (some ⟨rb, 0, none⟩)]) ∧ (w.heap.size ≤ wb ∧ w.heap.size ≤ sb ∧ w.heap.size ≤ rb) ∧ w'.heap[wb]? = some (.cells #[.slice ac C.length capc] 22 (0, 0)) ∧ w'.heap[sb]? = some (.cells #[.slice ao S.length cap] 24 (0, 0)) ∧ w'.heap[rb]? = some (.cells #[.int .i64 r] 2 (0, 0)) ∧ Below w.heap.size w w' := by
  obtain ⟨a1, a2, a3⟩ := alloc3 w (.cells #[.slice ao S.length cap] 24) (.cells #[.slice ac C.length capc] 22) (.cells #[.int .i64 r] 2)
  have H1 := Lib.hid a1
  have H2 := Lib.hid a2
  have H3 := Lib.hid a3
  clear a1 a2 a3
  go_enter Try.func98, Try.ntmps98
  go_wp2_with fail
  go_ret
  exact ⟨w.heap.size + 1, w.heap.size, w.heap.size + 1 + 1, rfl, ⟨by omega, by omega, by omega⟩, H2.out, H1.out, H3.out, by go_grown⟩

theorem kpC_b {n₀ wb sb rb N : Nat} {A B : World} (h : Below N A B) (hN : n₀ ≤ N) (h1 : wb < N) (h2 : sb < N) (h3 : rb < N) : KpC n₀ wb sb rb A B :=
  ⟨h.mono hN, fun _ _ e => (h.block wb h1).trans e, fun _ _ e => (h.block sb h2).trans e, fun _ _ e => (h.block rb h3).trans e⟩
/-- the words that a code covers -/
def covN (S C : List Int) (r : Int) : Nat → Bool := unionL (C.map (ballN S r))

set_option maxHeartbeats 4000000 in
theorem coveredWords_any (ao : Option Addr) (S : List Int) (cap : Nat) (hSp : Sp S) (ac : Option Addr) (C : List Int) (capc : Nat) (hlen : C.length ≤ 1048576) (hC0 : ∀ i, i < C.length → 0 ≤ gi C i ∧ gi C i ≤ 9223372036854775807) (r : Int) (hr0 : 0 ≤ r) (hr8 : r ≤ 8) (w : World) (hS : Ints w ao S) (hC : Ints w ac C) :
    Calls Try.prog 90 #[.agg #[.slice ao S.length cap], .slice ac C.length capc, .int .i64 r] w fun e w' => e = .returned (.agg (setA (covN S C r))) ∧ Below w.heap.size w w' := by
  have HSp := Lib.hid hSp
  have HC0 := Lib.hid hC0
  clear hSp hC0
  have hz1 := rowz_new (w.alloc (.cells #[.slice ao S.length cap] 24)) rfl
  simp only [World.size_alloc] at hz1
  have HZ := Lib.hid hz1
  clear hz1
  go_enter Try.func90, Try.ntmps90
  go_wp2_with fail
  refine (balls_any ao S cap ac C capc r _).mono ?_
  rintro e w2 ⟨wb, sb, rb, rfl, hbb, hwb, hsb, hrb, hb2⟩
  have s2 := hb2.size
  simp only [World.size_alloc] at s2 hbb
  have B2 : Below w.heap.size w w2 := Below.trans (by go_grown) (hb2.mono (by simp; omega))
  have lw := (Array.getElem?_eq_some_iff.1 hwb).1
  have ls := (Array.getElem?_eq_some_iff.1 hsb).1
  have lr := (Array.getElem?_eq_some_iff.1 hrb).1
  have ht := together_any 142 #[.pointer (some ⟨wb, 0, none⟩), .pointer (some ⟨sb, 0, none⟩), .pointer (some ⟨rb, 0, none⟩)] (enters_of Try.func142 (by kernel_rfl) rfl) (KpC w.heap.size wb sb rb) (C.map (ballN S r)) C.length w2 kpC_t
    (fun A B h => kpC_b h B2.size lw ls lr) (fun n hn => balls_gives n hn S HSp.out ao cap ac C capc hlen HC0.out r hr0 hr8 wb sb rb w w2 B2 hS hC hwb hsb hrb)
  go_wp2_with fail
  refine ht.mono ?_
  rintro e w3 ⟨rfl, hb3⟩
  have B3 := B2.trans (hb3.mono B2.size)
  have r1 := (HZ.out.below hb2 (by simp)).below hb3 (by omega)
  clear hb2 hb3 ht hwb hsb hrb
  go_wp2_with (first | (refine wpList_st16 rfl _ _ rfl r1 (unionL (C.map (ballN S r))) rfl rfl ?_))
  (try simp only [Exit.inBlock, Exit.then])
  refine bodyPost_ret (results16 rfl _ (row_set r1) rfl) rfl ?_
  exact ⟨rfl, B3.grown (grown_setRow _) B3.size fun j hj => by cases hj; omega⟩

theorem ballN_in (S : List Int) (r c : Int) (u : Nat) : ballN S r c u = decide (u < (nW S).toNat ∧ dist S u c ≤ r) := by
  unfold ballN inL ballW
  rw [Bool.eq_iff_iff, decide_eq_true_eq, decide_eq_true_eq, selTo_eq, List.mem_map]
  constructor
  · rintro ⟨i, hi, e⟩
    have hi' : i = u := by have : (i : Int) = (u : Int) := e; omega
    subst hi'
    rw [List.mem_filter, List.mem_range] at hi
    exact ⟨hi.1, by simpa [ballB] using hi.2⟩
  · rintro ⟨h1, h2⟩
    exact ⟨u, by rw [List.mem_filter, List.mem_range]; exact ⟨h1, by simpa [ballB] using h2⟩, rfl⟩
theorem covN_in (S C : List Int) (r : Int) (u : Nat) : covN S C r u = decide (u < (nW S).toNat ∧ ∃ c ∈ C, dist S u c ≤ r) := by
  unfold covN unionL
  rw [Bool.eq_iff_iff, decide_eq_true_eq, List.any_eq_true]
  constructor
  · rintro ⟨p, hp, h⟩
    obtain ⟨c, hc, rfl⟩ := List.mem_map.1 hp
    rw [ballN_in, decide_eq_true_eq] at h
    exact ⟨h.1, c, hc, h.2⟩
  · rintro ⟨h1, c, hc, h2⟩
    exact ⟨_, List.mem_map.2 ⟨c, hc, rfl⟩, by rw [ballN_in, decide_eq_true_eq]; exact ⟨h1, h2⟩⟩
/-- the set of all words -/
def allN (S : List Int) : Nat → Bool := fun u => decide (u < (nW S).toNat)
theorem covN_whole {S : List Int} (h : Sp S) : covN S [0] 8 = allN S := by
  funext u
  rw [covN_in, allN, Bool.eq_iff_iff, decide_eq_true_eq, decide_eq_true_eq]
  exact ⟨fun g => g.1, fun g => ⟨g, 0, by simp, by have := (dist_bd S u 0).2; have := h.hi; omega⟩⟩

theorem zero_code : ∀ i, i < ([0] : List Int).length → 0 ≤ gi [0] i ∧ gi [0] i ≤ 9223372036854775807 := fun i hi => by
  have e : i = 0 := by simpa using hi
  subst e
  exact ⟨Int.le_refl 0, by decide⟩
set_option maxHeartbeats 1000000 in
theorem wholeSet_any (ao : Option Addr) (S : List Int) (cap : Nat) (hSp : Sp S) (w : World) (hS : Ints w ao S) :
    Calls Try.prog 91 #[.agg #[.slice ao S.length cap]] w fun e w' => e = .returned (.agg (setA (allN S))) ∧ Below w.heap.size w w' := by
  rw [← covN_whole hSp]
  have hz1 := rowz_new (w.alloc (.cells #[.slice ao S.length cap] 24)) rfl
  simp only [World.size_alloc] at hz1
  have HZ := Lib.hid hz1
  clear hz1
  go_enter Try.func91, Try.ntmps91
  go_wp2_with fail
  have B1 : Below w.heap.size w (((w.alloc (.cells #[.slice ao S.length cap] 24)).alloc (.cells #[.int .u64 0, .int .u64 0, .int .u64 0, .int .u64 0, .int .u64 0, .int .u64 0, .int .u64 0, .int .u64 0, .int .u64 0, .int .u64 0, .int .u64 0, .int .u64 0, .int .u64 0, .int .u64 0, .int .u64 0, .int .u64 0] 96)).alloc (.cells #[.int .i64 0] 2)) := by go_grown
  refine (coveredWords_any ao S cap hSp (some ⟨w.heap.size + 1 + 1, 0, none⟩) [0] 1 (by simp) zero_code 8 (by omega) (by omega) _ (hS.below B1) (ints_new1 _ 0 _ (by simp))).mono ?_
  rintro e w1 ⟨rfl, hb⟩
  have r1 := (HZ.out.alloc (.cells #[.int .i64 0] 2)).below hb (by simp)
  have B2 := B1.trans (hb.mono (by simp; omega))
  clear hb B1
  go_wp2_with (first | (refine wpList_st16 rfl _ _ rfl r1 (covN S [0] 8) rfl rfl ?_))
  (try simp only [Exit.inBlock, Exit.then])
  refine bodyPost_ret (results16 rfl _ (row_set r1) rfl) rfl ?_
  exact ⟨rfl, B2.grown (grown_setRow _) B2.size fun j hj => by cases hj; omega⟩

end Go.Proofs.Ytgaelpcghljihaa
