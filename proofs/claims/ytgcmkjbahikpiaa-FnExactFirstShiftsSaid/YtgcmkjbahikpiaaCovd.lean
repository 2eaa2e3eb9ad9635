/-
  The contracts of the program's balls, coveredWords, wholeSet. By an AI agent.
-/
import Derived.Test.YtgcmkjbahikpiaaBalls
namespace Go.Proofs.Ytgcmkjbahikpiaa
open Go.RowKit Go.Shelf Cv
set_option linter.unusedVariables false
set_option linter.unusedSimpArgs false
set_option maxRecDepth 100000

attribute [local go_sem] Oper.semAt_some

theorem balls_any (ao : Option Addr) (S : List Int) (cap : Nat) (ac : Option Addr) (C : List Int) (capc : Nat) (r : Int) (w : World) :
    Calls Try.prog 117 #[.agg #[.slice ao S.length cap], .slice ac C.length capc, .int .i64 r] w fun e w' =>
      ∃ wb sb rb, e = .returned (.func (.func 140) #[] #[.pointer (some ⟨wb, 0, none⟩), .pointer (some ⟨sb, 0, none⟩), .pointer (some ⟨rb, 0, none⟩)]) ∧ (w.heap.size ≤ wb ∧ w.heap.size ≤ sb ∧ w.heap.size ≤ rb) ∧ w'.heap[wb]? = some (.cells #[.slice ac C.length capc] 22 (0, 0)) ∧ w'.heap[sb]? = some (.cells #[.slice ao S.length cap] 28 (0, 0)) ∧ w'.heap[rb]? = some (.cells #[.int .i64 r] 2 (0, 0)) ∧ Below w.heap.size w w' := by
  obtain ⟨a1, a2, a3⟩ := alloc3 w (.cells #[.slice ao S.length cap] 28) (.cells #[.slice ac C.length capc] 22) (.cells #[.int .i64 r] 2)
  have H1 := Lib.hid a1
  have H2 := Lib.hid a2
  have H3 := Lib.hid a3
  clear a1 a2 a3
  go_enter Try.func117, Try.ntmps117
  go_wp2_with fail
  go_ret
  exact ⟨w.heap.size + 1, w.heap.size, w.heap.size + 1 + 1, rfl, ⟨by omega, by omega, by omega⟩, H2.out, H1.out, H3.out, by go_grown⟩

/-- the words of all sets of a list together -/
def unionL (ps : List (Nat → Bool)) : Nat → Bool := fun u => ps.any (fun p => p u)
theorem unionL_snoc (ps : List (Nat → Bool)) (p : Nat → Bool) : unionL (ps ++ [p]) = fun u => unionL ps u || p u := by
  funext u; simp [unionL]
/-- the words that a code covers -/
def covN (S C : List Int) (r : Int) : Nat → Bool := unionL (C.map (ballN S r))

set_option maxHeartbeats 4000000 in
theorem coveredWords_any (ao : Option Addr) (S : List Int) (cap : Nat) (hSp : Sp S) (ac : Option Addr) (C : List Int) (capc : Nat) (hlen : C.length ≤ 1048576) (hC0 : ∀ i, i < C.length → 0 ≤ gi C i ∧ gi C i ≤ 9223372036854775807) (r : Int) (hr0 : 0 ≤ r) (hr8 : r ≤ 8) (w : World) (hS : Ints w ao S) (hC : Ints w ac C) :
    Calls Try.prog 103 #[.agg #[.slice ao S.length cap], .slice ac C.length capc, .int .i64 r] w fun e w' => e = .returned (.agg (setA (covN S C r))) ∧ Below w.heap.size w w' := by
  have HSp := Lib.hid hSp
  have HC0 := Lib.hid hC0
  clear hSp hC0
  refine (callsIn_wide (n := 6)).1 ?_
  refine callsIn_of_wp_marks Try.func103 rfl trivial ?_ rfl
  simp only [Try.ntmps103, List.size_toArray, List.length_cons, List.length_nil, Nat.reduceAdd, Nat.reduceSub, Array.replicate_succ, Array.replicate_zero, List.push_toArray, List.append_toArray, List.nil_append, List.cons_append]
  have hz1 := rowz_new (w.alloc (.cells #[.slice ao S.length cap] 28)) rfl
  have hz2 := rowz_new ((w.alloc (.cells #[.slice ao S.length cap] 28)).alloc (.cells #[.int .u64 0, .int .u64 0, .int .u64 0, .int .u64 0, .int .u64 0, .int .u64 0, .int .u64 0, .int .u64 0, .int .u64 0, .int .u64 0, .int .u64 0, .int .u64 0, .int .u64 0, .int .u64 0, .int .u64 0, .int .u64 0] 91)) rfl
  simp only [World.size_alloc] at hz1 hz2
  gi_wp2_with (first
    | (refine ⟨trivial, ?_⟩; gi_at_call 117; refine (callsIn_wide.2 (balls_any ao S cap ac C capc r _)).mono ?_; rintro e w2 ⟨wb, sb, rb, rfl, hbb, hwb, hsb, hrb, hb2⟩)
    | fail)
  simp only [World.size_alloc] at hbb
  have s2 := hb2.size
  simp only [World.size_alloc] at s2
  have B2 : Below w.heap.size w w2 := Below.trans (by go_grown) (hb2.mono (by simp; omega))
  have r1 : RowAt w2 (w.heap.size + 1) (fun _ => false) := (hz1.alloc _).below hb2 (by simp)
  have r2 : RowAt w2 (w.heap.size + 1 + 1) (fun _ => false) := hz2.below hb2 (by simp)
  clear hb2 hz1 hz2
  refine range_gives rfl (by omega) (gf := 140) (lb := #[.pointer (some ⟨wb, 0, none⟩), .pointer (some ⟨sb, 0, none⟩), .pointer (some ⟨rb, 0, none⟩)]) rfl trivial (enters_of Try.func140 (by kernel_rfl) rfl)
    (balls_gives (6 - 1) (by omega) S HSp.out ao cap ac C capc hlen HC0.out r hr0 hr8 wb sb rb w w2 B2 hS hC hwb hsb hrb) kpC_t (kpC_g B2.size) (Below.refl _ _) (fun _ => rfl)
    (fun (pre : List (Nat → Bool)) W => RowAt W (w.heap.size + 1 + 1) (unionL pre) ∧ RowAt W (w.heap.size + 1) (fun _ => false) ∧ (Below w.heap.size w W ∧ w2.heap.size ≤ W.heap.size))
    (fun q W => ∃ bb, w2.heap.size ≤ bb ∧ RowAt W bb q.2.1 ∧ RowAt W (w.heap.size + 1 + 1) (unionL q.1) ∧ RowAt W (w.heap.size + 1) (fun _ => false) ∧ (Below w.heap.size w W ∧ w2.heap.size ≤ W.heap.size) ∧ q.2.2 = { tmps := #[.agg #[.slice ao S.length cap], .slice ac C.length capc, .int .i64 r, .pointer (some ⟨w.heap.size, 0, none⟩), undef, undef, .pointer (some ⟨w.heap.size + 1, 0, none⟩), .pointer (some ⟨w.heap.size + 1 + 1, 0, none⟩), .pointer (some ⟨bb, 0, none⟩), .agg #[.int .u64 0, .int .u64 0, .int .u64 0, .int .u64 0, .int .u64 0, .int .u64 0, .int .u64 0, .int .u64 0, .int .u64 0, .int .u64 0, .int .u64 0, .int .u64 0, .int .u64 0, .int .u64 0, .int .u64 0, .int .u64 0], .agg #[.slice ao S.length cap], .slice ac C.length capc, .int .i64 r, .func (.func 140) #[] #[.pointer (some ⟨wb, 0, none⟩), .pointer (some ⟨sb, 0, none⟩), .pointer (some ⟨rb, 0, none⟩)], .agg (setA q.2.1), undef, undef, undef, undef], defers := [] })
    ?ownI ?ownA ⟨r2, r1, B2, Nat.le_refl _⟩ ?assign ?body ?done
  case assign =>
    intro l pre x W K ⟨h1, h2, h3, h4⟩ hK
    dsimp only [encP]
    have hzW := rowz_new W rfl
    have hxW : RowAt ((W.alloc (.cells #[.int .u64 0, .int .u64 0, .int .u64 0, .int .u64 0, .int .u64 0, .int .u64 0, .int .u64 0, .int .u64 0, .int .u64 0, .int .u64 0, .int .u64 0, .int .u64 0, .int .u64 0, .int .u64 0, .int .u64 0, .int .u64 0] 91)).setRow W.heap.size (setA x)) W.heap.size x := row_set hzW
    have gW : (W.alloc (.cells #[.int .u64 0, .int .u64 0, .int .u64 0, .int .u64 0, .int .u64 0, .int .u64 0, .int .u64 0, .int .u64 0, .int .u64 0, .int .u64 0, .int .u64 0, .int .u64 0, .int .u64 0, .int .u64 0, .int .u64 0, .int .u64 0] 91)).grownBy ((W.alloc (.cells #[.int .u64 0, .int .u64 0, .int .u64 0, .int .u64 0, .int .u64 0, .int .u64 0, .int .u64 0, .int .u64 0, .int .u64 0, .int .u64 0, .int .u64 0, .int .u64 0, .int .u64 0, .int .u64 0, .int .u64 0, .int .u64 0] 91)).setRow W.heap.size (setA x)) (some W.heap.size) := grown_setRow _
    have bW : Below W.heap.size W ((W.alloc (.cells #[.int .u64 0, .int .u64 0, .int .u64 0, .int .u64 0, .int .u64 0, .int .u64 0, .int .u64 0, .int .u64 0, .int .u64 0, .int .u64 0, .int .u64 0, .int .u64 0, .int .u64 0, .int .u64 0, .int .u64 0, .int .u64 0] 91)).setRow W.heap.size (setA x)) := ((Below.refl _ W).alloc (Nat.le_refl _) _).grown gW (by simp) (fun j e => by cases e; exact Nat.le_refl _)
    gi_wp2_with (first | (refine wpListIn_st16 rfl _ _ rfl hzW x rfl rfl ?_) | fail)
    refine hK _ _ ⟨W.heap.size, h4, hxW, h1.below bW h1.lt, h2.below bW h2.lt, ⟨h3.trans (bW.mono h3.size), Nat.le_trans h4 bW.size⟩, rfl⟩ bW
  case body =>
    rintro l pre x a' W ⟨bb, hbb2, hx, hc, hr, ⟨hB, hsz⟩, ha⟩ hlt
    dsimp only at ha hx hc
    subst ha
    gi_wp2_with (first
      | (refine wpListIn_ld16 rfl _ rfl hc rfl ?_)
      | (refine wpListIn_ld16 rfl _ rfl hx rfl ?_)
      | (refine ⟨trivial, ?_⟩; gi_at_call 82; refine (CallsIn.inRound l (callsIn_wide.2 (with_any (unionL pre) x W))).mono ?_; rintro e w4 ⟨rfl, hb4⟩; have hc4 := hc.below hb4 hc.lt)
      | (refine wpListIn_st16 rfl _ _ rfl hc4 (fun u => unionL pre u || x u) rfl rfl ?_)
      | fail)
    have g4 := grown_setRow (w := w4) (b := w.heap.size + 1 + 1) (setA fun u => unionL pre u || x u)
    have c4 : RowAt (w4.setRow (w.heap.size + 1 + 1) (setA fun u => unionL pre u || x u)) (w.heap.size + 1 + 1) (unionL (pre ++ [x])) := by rw [unionL_snoc]; exact row_set hc4
    refine ⟨(keepsFrom_below hb4).trans (KeepsFrom.of_grownBy g4 (fun j e => by cases e; omega)), ⟨(hb4.mono (by omega)).grown g4 (by have := hb4.size; omega) (fun j e => by cases e; omega), (keepsAt_below hb4).trans (keepsAt_row g4 (by omega)), (keepsAt_below hb4).trans (keepsAt_row g4 (by omega)), (keepsAt_below hb4).trans (keepsAt_row g4 (by omega))⟩, c4, (hr.below hb4 hr.lt).kept g4 (by omega), ?_, by have := hb4.size; have := g4.size; omega⟩
    exact (hB.trans (hb4.mono hB.size)).grown g4 (by have := hb4.size; omega) (fun j e => by cases e; omega)
  case done =>
    rintro D xs W hD rfl ⟨hc, hr, hB, hsz⟩ hK
    gi_wp2_with (first
      | (refine wpListIn_ld16 rfl _ rfl hc rfl ?_)
      | (refine wpListIn_st16 rfl _ _ rfl hr (unionL (C.map (ballN S r))) rfl rfl ?_)
      | fail)
    have g4 := grown_setRow (w := W) (b := w.heap.size + 1) (setA (unionL (C.map (ballN S r))))
    have hK' : (W.setRow (w.heap.size + 1) (setA (unionL (C.map (ballN S r))))).heap[D]? = some (.deferred (some [])) := (g4.block D (Array.getElem?_eq_some_iff.1 hK).1 (fun e => by rcases e with e; simp only [Option.some.injEq] at e; omega)).trans hK
    have r4 : RowAt (W.setRow (w.heap.size + 1) (setA (unionL (C.map (ballN S r))))) (w.heap.size + 1) (covN S C r) := row_set hr
    have b4 : Below w.heap.size w (W.setRow (w.heap.size + 1) (setA (unionL (C.map (ballN S r))))) := hB.grown g4 hB.size (fun j e => by cases e; omega)
    refine leaves_marksJ (B := w2.heap.size) (J := fun W => RowAt W (w.heap.size + 1) (covN S C r) ∧ (Below w.heap.size w W ∧ w2.heap.size ≤ W.heap.size)) (fun W r o o' hj' hr hh ho => ⟨(row_own (w.heap.size + 1) (fun _ : Unit => covN S C _)) () W _ (some r) hj'.1 (grownBy_putObj' _ _ _) (fun r' e => by cases e; exact ⟨o, hh, ho⟩), hj'.2.1.grown (grownBy_putObj' _ _ _) hj'.2.1.size (fun j e => by cases e; omega), by simpa using hj'.2.2⟩)
      (fun W' h' => ⟨_, results16 rfl _ h'.1 rfl, rfl, h'.2.1⟩) _ _ ⟨⟨D, rfl, hD, hK', by simp⟩, trivial⟩ ⟨r4, b4, by have := g4.size; omega⟩
  case ownI => exact OwnFrom.and (Own.from (row_own _ (fun pre : List (Nat → Bool) => unionL pre)) _) (OwnFrom.and (Own.from (row_own _ (fun pre : List (Nat → Bool) => fun _ => false)) _) (OwnFrom.and (ownFrom_below (Nat.le_refl _) B2.size) (fun _ _ _ _ hs hg _ => Nat.le_trans hs hg.size)))
  case ownA =>
    rintro q A B row ⟨bb, h1, h2, h3, h4, ⟨h5, h6⟩, h7⟩ hg hr
    have own := fun (b : Nat) (p : Nat → Bool) (h : RowAt A b p) => (row_own b (fun _ : Unit => p)) () A B row h hg (fun r e => (hr r e).2)
    exact ⟨bb, h1, own _ _ h2, own _ _ h3, own _ _ h4, ⟨h5.grown hg h5.size (fun j e => by have := (hr j e).1; have := B2.size; omega), Nat.le_trans h6 hg.size⟩, h7⟩

theorem ballN_in (S : List Int) (r c : Int) (u : Nat) : ballN S r c u = decide (u < (nW S).toNat ∧ dist S u c ≤ r) := by
  unfold ballN inL ballW
  rw [Bool.eq_iff_iff, decide_eq_true_eq, decide_eq_true_eq, selTo_eq, List.mem_map]
  constructor
  · rintro ⟨i, hi, e⟩
    have hi' : i = u := by have : (i : Int) = (u : Int) := e; omega
    subst hi'
    rw [List.mem_filter, List.mem_range] at hi
    exact ⟨hi.1, by simpa [ballB] using hi.2⟩
  · rintro ⟨h1, h2⟩
    exact ⟨u, by rw [List.mem_filter, List.mem_range]; exact ⟨h1, by simpa [ballB] using h2⟩, rfl⟩
theorem covN_in (S C : List Int) (r : Int) (u : Nat) : covN S C r u = decide (u < (nW S).toNat ∧ ∃ c ∈ C, dist S u c ≤ r) := by
  unfold covN unionL
  rw [Bool.eq_iff_iff, decide_eq_true_eq, List.any_eq_true]
  constructor
  · rintro ⟨p, hp, h⟩
    obtain ⟨c, hc, rfl⟩ := List.mem_map.1 hp
    rw [ballN_in, decide_eq_true_eq] at h
    exact ⟨h.1, c, hc, h.2⟩
  · rintro ⟨h1, c, hc, h2⟩
    exact ⟨_, List.mem_map.2 ⟨c, hc, rfl⟩, by rw [ballN_in, decide_eq_true_eq]; exact ⟨h1, h2⟩⟩
/-- the set of all words -/
def allN (S : List Int) : Nat → Bool := fun u => decide (u < (nW S).toNat)
theorem covN_whole {S : List Int} (h : Sp S) : covN S [0] 8 = allN S := by
  funext u
  rw [covN_in, allN, Bool.eq_iff_iff, decide_eq_true_eq, decide_eq_true_eq]
  exact ⟨fun g => g.1, fun g => ⟨g, 0, by simp, by have := (dist_bd S u 0).2; have := h.hi; omega⟩⟩

theorem zero_code : ∀ i, i < ([0] : List Int).length → 0 ≤ gi [0] i ∧ gi [0] i ≤ 9223372036854775807 := fun i hi => by
  have e : i = 0 := by simpa using hi
  subst e
  exact ⟨Int.le_refl 0, by decide⟩
set_option maxHeartbeats 1000000 in
theorem wholeSet_any (ao : Option Addr) (S : List Int) (cap : Nat) (hSp : Sp S) (w : World) (hS : Ints w ao S) :
    Calls Try.prog 84 #[.agg #[.slice ao S.length cap]] w fun e w' => e = .returned (.agg (setA (allN S))) ∧ Below w.heap.size w w' := by
  rw [← covN_whole hSp]
  have hz1 := rowz_new (w.alloc (.cells #[.slice ao S.length cap] 28)) rfl
  simp only [World.size_alloc] at hz1
  have HZ := Lib.hid hz1
  clear hz1
  go_enter Try.func84, Try.ntmps84
  go_wp2_with fail
  have B1 : Below w.heap.size w (((w.alloc (.cells #[.slice ao S.length cap] 28)).alloc (.cells #[.int .u64 0, .int .u64 0, .int .u64 0, .int .u64 0, .int .u64 0, .int .u64 0, .int .u64 0, .int .u64 0, .int .u64 0, .int .u64 0, .int .u64 0, .int .u64 0, .int .u64 0, .int .u64 0, .int .u64 0, .int .u64 0] 91)).alloc (.cells #[.int .i64 0] 2)) := by go_grown
  refine (coveredWords_any ao S cap hSp (some ⟨w.heap.size + 1 + 1, 0, none⟩) [0] 1 (by simp) zero_code 8 (by omega) (by omega) _ (hS.below B1) (ints_new1 _ 0 _ (by simp))).mono ?_
  rintro e w1 ⟨rfl, hb⟩
  have r1 := (HZ.out.alloc (.cells #[.int .i64 0] 2)).below hb (by simp)
  have B2 := B1.trans (hb.mono (by simp; omega))
  clear hb B1
  go_wp2_with (first | (refine wpList_st16 rfl _ _ rfl r1 (covN S [0] 8) rfl rfl ?_))
  (try simp only [Exit.inBlock, Exit.then])
  refine bodyPost_ret (results16 rfl _ (row_set r1) rfl) rfl ?_
  exact ⟨rfl, B2.grown (grown_setRow _) B2.size fun j hj => by cases hj; omega⟩

end Go.Proofs.Ytgcmkjbahikpiaa
