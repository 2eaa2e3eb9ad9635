/-
  Texts put together: Tgt, Covd. By an AI agent.
-/
import Derived.Test.YtamebfbddoeflaaPkBalls
namespace Go.Proofs.Ytamebfbddoeflaa
open Go.RowKit Go.Shelf Cv
set_option linter.unusedVariables false
set_option linter.unusedSimpArgs false
set_option maxRecDepth 100000

/-- the words of all sets of a list together -/
def unionL (ps : List (Nat → Bool)) : Nat → Bool := fun u => ps.any (fun p => p u)
theorem unionL_snoc (ps : List (Nat → Bool)) (p : Nat → Bool) : unionL (ps ++ [p]) = fun u => unionL ps u || p u := by
  funext u; simp [unionL]

section
attribute [local go_sem] Oper.semAt_some

set_option maxHeartbeats 2000000 in
/-- the union of what an iterator yields -/
theorem together_any (gf : Nat) (lb : Array Value) (eg : ∀ args w, (callFunc gf args).run Try.prog w = .ok (.enter gf args) w) (Kp : World → World → Prop) (PS : List (Nat → Bool)) (N : Nat) (w : World)
    (hKt : ∀ {A B C : World}, Kp A B → Kp B C → Kp A C) (hKb : ∀ A B : World, Below w.heap.size A B → Kp A B)
    (hseq : ∀ n, 1 ≤ n → Gives0 Fence.wide n Try.prog gf lb encP Kp (fun ys => ys = PS) N w) :
    Calls Try.prog 68 #[.func (.func gf) #[] lb] w fun e w' => e = .returned (.agg (setA (unionL PS))) ∧ Below w.heap.size w w' := by
  refine (callsIn_wide (n := 6)).1 ?_
  refine callsIn_of_wp_marks Try.func68 rfl trivial ?_ rfl
  simp only [Try.ntmps68, List.size_toArray, List.length_cons, List.length_nil, Nat.reduceAdd, Nat.reduceSub, Array.replicate_succ, Array.replicate_zero, List.push_toArray, List.append_toArray, List.nil_append, List.cons_append]
  have hz1 := rowz_new w rfl
  have hz2 := rowz_new (w.alloc (.cells #[.int .u64 0, .int .u64 0, .int .u64 0, .int .u64 0, .int .u64 0, .int .u64 0, .int .u64 0, .int .u64 0, .int .u64 0, .int .u64 0, .int .u64 0, .int .u64 0, .int .u64 0, .int .u64 0, .int .u64 0, .int .u64 0] 58)) rfl
  simp only [World.size_alloc] at hz2
  gi_wp2
  obtain ⟨w2, hw2⟩ : ∃ w2, w2 = (w.alloc (.cells #[.int .u64 0, .int .u64 0, .int .u64 0, .int .u64 0, .int .u64 0, .int .u64 0, .int .u64 0, .int .u64 0, .int .u64 0, .int .u64 0, .int .u64 0, .int .u64 0, .int .u64 0, .int .u64 0, .int .u64 0, .int .u64 0] 58)).alloc (.cells #[.int .u64 0, .int .u64 0, .int .u64 0, .int .u64 0, .int .u64 0, .int .u64 0, .int .u64 0, .int .u64 0, .int .u64 0, .int .u64 0, .int .u64 0, .int .u64 0, .int .u64 0, .int .u64 0, .int .u64 0, .int .u64 0] 58) := ⟨_, rfl⟩
  have r1 : RowAt w2 w.heap.size (fun _ => false) := by rw [hw2]; exact hz1.alloc _
  have r2 : RowAt w2 (w.heap.size + 1) (fun _ => false) := by rw [hw2]; exact hz2
  have B2 : Below w.heap.size w w2 := by rw [hw2]; go_grown
  have s2 : w2.heap.size = w.heap.size + 2 := by rw [hw2]; simp
  rw [← hw2]
  clear hw2 hz1 hz2
  have HB := Lib.hid hKb
  refine range_gives rfl (by omega) (gf := gf) (lb := lb) rfl trivial eg (hseq (6 - 1) (by omega)) hKt
    (fun A B row hg hr hA => hKb A B ((Below.refl w.heap.size A).grown hg (by omega) (fun k e => by have := (hr k e).1; omega))) B2 (fun _ => rfl)
    (fun (pre : List (Nat → Bool)) W => RowAt W (w.heap.size + 1) (unionL pre) ∧ RowAt W w.heap.size (fun _ => false) ∧ (Below w.heap.size w W ∧ w2.heap.size ≤ W.heap.size))
    (fun q W => ∃ bb, w2.heap.size ≤ bb ∧ RowAt W bb q.2.1 ∧ RowAt W (w.heap.size + 1) (unionL q.1) ∧ RowAt W w.heap.size (fun _ => false) ∧ (Below w.heap.size w W ∧ w2.heap.size ≤ W.heap.size) ∧ q.2.2 = { tmps := #[.func (.func gf) #[] lb, undef, .pointer (some ⟨w.heap.size, 0, none⟩), .pointer (some ⟨w.heap.size + 1, 0, none⟩), .pointer (some ⟨bb, 0, none⟩), .agg #[.int .u64 0, .int .u64 0, .int .u64 0, .int .u64 0, .int .u64 0, .int .u64 0, .int .u64 0, .int .u64 0, .int .u64 0, .int .u64 0, .int .u64 0, .int .u64 0, .int .u64 0, .int .u64 0, .int .u64 0, .int .u64 0], .func (.func gf) #[] lb, .agg (setA q.2.1), undef, undef, undef, undef], defers := [] })
    ?ownI ?ownA ⟨r2, r1, B2, Nat.le_refl _⟩ ?assign ?body ?done
  case assign =>
    intro l pre x W K ⟨h1, h2, h3, h4⟩ hK
    dsimp only [encP]
    have hzW := rowz_new W rfl
    have hxW : RowAt ((W.alloc (.cells #[.int .u64 0, .int .u64 0, .int .u64 0, .int .u64 0, .int .u64 0, .int .u64 0, .int .u64 0, .int .u64 0, .int .u64 0, .int .u64 0, .int .u64 0, .int .u64 0, .int .u64 0, .int .u64 0, .int .u64 0, .int .u64 0] 58)).setRow W.heap.size (setA x)) W.heap.size x := row_set hzW
    have gW : (W.alloc (.cells #[.int .u64 0, .int .u64 0, .int .u64 0, .int .u64 0, .int .u64 0, .int .u64 0, .int .u64 0, .int .u64 0, .int .u64 0, .int .u64 0, .int .u64 0, .int .u64 0, .int .u64 0, .int .u64 0, .int .u64 0, .int .u64 0] 58)).grownBy ((W.alloc (.cells #[.int .u64 0, .int .u64 0, .int .u64 0, .int .u64 0, .int .u64 0, .int .u64 0, .int .u64 0, .int .u64 0, .int .u64 0, .int .u64 0, .int .u64 0, .int .u64 0, .int .u64 0, .int .u64 0, .int .u64 0, .int .u64 0] 58)).setRow W.heap.size (setA x)) (some W.heap.size) := grown_setRow _
    have bW : Below W.heap.size W ((W.alloc (.cells #[.int .u64 0, .int .u64 0, .int .u64 0, .int .u64 0, .int .u64 0, .int .u64 0, .int .u64 0, .int .u64 0, .int .u64 0, .int .u64 0, .int .u64 0, .int .u64 0, .int .u64 0, .int .u64 0, .int .u64 0, .int .u64 0] 58)).setRow W.heap.size (setA x)) := ((Below.refl _ W).alloc (Nat.le_refl _) _).grown gW (by simp) (fun j e => by cases e; exact Nat.le_refl _)
    gi_wp2_with (first | (refine wpListIn_st16 rfl _ _ rfl hzW x rfl rfl ?_) | fail)
    refine hK _ _ ⟨W.heap.size, h4, hxW, h1.below bW h1.lt, h2.below bW h2.lt, ⟨h3.trans (bW.mono h3.size), Nat.le_trans h4 bW.size⟩, rfl⟩ bW
  case body =>
    rintro l pre x a' W ⟨bb, hbb2, hx, hc, hr, ⟨hB, hsz⟩, ha⟩ hlt
    dsimp only at ha hx hc
    subst ha
    gi_wp2_with (first
      | (refine wpListIn_ld16 rfl _ rfl hc rfl ?_)
      | (refine wpListIn_ld16 rfl _ rfl hx rfl ?_)
      | (refine ⟨trivial, ?_⟩; gi_at_call 80; refine (CallsIn.inRound l (callsIn_wide.2 (with_any (unionL pre) x W))).mono ?_; rintro e w4 ⟨rfl, hb4⟩; have hc4 := hc.below hb4 hc.lt)
      | (refine wpListIn_st16 rfl _ _ rfl hc4 (fun u => unionL pre u || x u) rfl rfl ?_)
      | fail)
    have g4 := grown_setRow (w := w4) (b := w.heap.size + 1) (setA fun u => unionL pre u || x u)
    have c4 : RowAt (w4.setRow (w.heap.size + 1) (setA fun u => unionL pre u || x u)) (w.heap.size + 1) (unionL (pre ++ [x])) := by rw [unionL_snoc]; exact row_set hc4
    have b4 : Below w.heap.size W (w4.setRow (w.heap.size + 1) (setA fun u => unionL pre u || x u)) := (hb4.mono hB.size).grown g4 (by have := hb4.size; have := hB.size; omega) (fun j e => by cases e; omega)
    refine ⟨(keepsFrom_below hb4).trans (KeepsFrom.of_grownBy g4 (fun j e => by cases e; omega)), HB.out _ _ b4, c4, (hr.below hb4 hr.lt).kept g4 (by omega), hB.trans b4, by have := b4.size; omega⟩
  case done =>
    rintro D xs W hD rfl ⟨hc, hr, hB, hsz⟩ hK
    gi_wp2_with (first
      | (refine wpListIn_ld16 rfl _ rfl hc rfl ?_)
      | (refine wpListIn_st16 rfl _ _ rfl hr (unionL xs) rfl rfl ?_)
      | fail)
    have g4 := grown_setRow (w := W) (b := w.heap.size) (setA (unionL xs))
    have hK' : (W.setRow w.heap.size (setA (unionL xs))).heap[D]? = some (.deferred (some [])) := (g4.block D (Array.getElem?_eq_some_iff.1 hK).1 (fun e => by rcases e with e; simp only [Option.some.injEq] at e; omega)).trans hK
    have r4 : RowAt (W.setRow w.heap.size (setA (unionL xs))) w.heap.size (unionL xs) := row_set hr
    have b4 : Below w.heap.size w (W.setRow w.heap.size (setA (unionL xs))) := hB.grown g4 hB.size (fun j e => by cases e; omega)
    refine leaves_marksJ (B := w2.heap.size) (J := fun W => RowAt W w.heap.size (unionL xs) ∧ (Below w.heap.size w W ∧ w2.heap.size ≤ W.heap.size)) (fun W r o o' hj' hr hh ho => ⟨(row_own w.heap.size (fun _ : Unit => unionL xs)) () W _ (some r) hj'.1 (grownBy_putObj' _ _ _) (fun r' e => by cases e; exact ⟨o, hh, ho⟩), hj'.2.1.grown (grownBy_putObj' _ _ _) hj'.2.1.size (fun j e => by cases e; omega), by simpa using hj'.2.2⟩)
      (fun W' h' => ⟨_, results16 rfl _ h'.1 rfl, rfl, h'.2.1⟩) _ _ ⟨⟨D, rfl, hD, hK', by simp⟩, trivial⟩ ⟨r4, b4, by have := g4.size; omega⟩
  case ownI => exact OwnFrom.and (Own.from (row_own _ (fun pre : List (Nat → Bool) => unionL pre)) _) (OwnFrom.and (Own.from (row_own _ (fun pre : List (Nat → Bool) => fun _ => false)) _) (OwnFrom.and (ownFrom_below (Nat.le_refl _) B2.size) (fun _ _ _ _ hs hg _ => Nat.le_trans hs hg.size)))
  case ownA =>
    rintro q A B row ⟨bb, h1, h2, h3, h4, ⟨h5, h6⟩, h7⟩ hg hr
    have own := fun (b : Nat) (p : Nat → Bool) (h : RowAt A b p) => (row_own b (fun _ : Unit => p)) () A B row h hg (fun r e => (hr r e).2)
    exact ⟨bb, h1, own _ _ h2, own _ _ h3, own _ _ h4, ⟨h5.grown hg h5.size (fun j e => by have := (hr j e).1; have := B2.size; omega), Nat.le_trans h6 hg.size⟩, h7⟩


end

end Go.Proofs.Ytamebfbddoeflaa

namespace Go.Proofs.Ytamebfbddoeflaa
open Go.RowKit Go.Shelf Cv
set_option linter.unusedVariables false
set_option linter.unusedSimpArgs false
set_option maxRecDepth 100000

attribute [local go_sem] Oper.semAt_some

theorem balls_any (ao : Option Addr) (S : List Int) (cap : Nat) (ac : Option Addr) (C : List Int) (capc : Nat) (r : Int) (w : World) :
    Calls Try.prog 69 #[.agg #[.slice ao S.length cap], .slice ac C.length capc, .int .i64 r] w fun e w' =>
      ∃ wb sb rb, e = .returned (.func (.func 81) #[] #[.pointer (some ⟨wb, 0, none⟩), .pointer (some ⟨sb, 0, none⟩), .pointer (some ⟨rb, 0, none⟩)]) ∧ (w.heap.size ≤ wb ∧ w.heap.size ≤ sb ∧ w.heap.size ≤ rb) ∧ w'.heap[wb]? = some (.cells #[.slice ac C.length capc] 24 (0, 0)) ∧ w'.heap[sb]? = some (.cells #[.slice ao S.length cap] 26 (0, 0)) ∧ w'.heap[rb]? = some (.cells #[.int .i64 r] 2 (0, 0)) ∧ Below w.heap.size w w' := by
  obtain ⟨a1, a2, a3⟩ := alloc3 w (.cells #[.slice ao S.length cap] 26) (.cells #[.slice ac C.length capc] 24) (.cells #[.int .i64 r] 2)
  have H1 := Lib.hid a1
  have H2 := Lib.hid a2
  have H3 := Lib.hid a3
  clear a1 a2 a3
  go_enter Try.func69, Try.ntmps69
  go_wp2_with fail
  go_ret
  exact ⟨w.heap.size + 1, w.heap.size, w.heap.size + 1 + 1, rfl, ⟨by omega, by omega, by omega⟩, H2.out, H1.out, H3.out, by go_grown⟩

theorem kpC_b {n₀ wb sb rb N : Nat} {A B : World} (h : Below N A B) (hN : n₀ ≤ N) (h1 : wb < N) (h2 : sb < N) (h3 : rb < N) : KpC n₀ wb sb rb A B :=
  ⟨h.mono hN, fun _ _ e => (h.block wb h1).trans e, fun _ _ e => (h.block sb h2).trans e, fun _ _ e => (h.block rb h3).trans e⟩
/-- the words that a code covers -/
def covN (S C : List Int) (r : Int) : Nat → Bool := unionL (C.map (ballN S r))

set_option maxHeartbeats 4000000 in
theorem coveredWords_any (ao : Option Addr) (S : List Int) (cap : Nat) (hSp : Sp S) (ac : Option Addr) (C : List Int) (capc : Nat) (hlen : C.length ≤ 1048576) (hC0 : ∀ i, i < C.length → 0 ≤ gi C i ∧ gi C i ≤ 9223372036854775807) (r : Int) (hr0 : 0 ≤ r) (hr8 : r ≤ 8) (w : World) (hS : Ints w ao S) (hC : Ints w ac C) :
    Calls Try.prog 47 #[.agg #[.slice ao S.length cap], .slice ac C.length capc, .int .i64 r] w fun e w' => e = .returned (.agg (setA (covN S C r))) ∧ Below w.heap.size w w' := by
  have HSp := Lib.hid hSp
  have HC0 := Lib.hid hC0
  clear hSp hC0
  have hz1 := rowz_new (w.alloc (.cells #[.slice ao S.length cap] 26)) rfl
  simp only [World.size_alloc] at hz1
  have HZ := Lib.hid hz1
  clear hz1
  go_enter Try.func47, Try.ntmps47
  go_wp2_with fail
  refine (balls_any ao S cap ac C capc r _).mono ?_
  rintro e w2 ⟨wb, sb, rb, rfl, hbb, hwb, hsb, hrb, hb2⟩
  have s2 := hb2.size
  simp only [World.size_alloc] at s2 hbb
  have B2 : Below w.heap.size w w2 := Below.trans (by go_grown) (hb2.mono (by simp; omega))
  have lw := (Array.getElem?_eq_some_iff.1 hwb).1
  have ls := (Array.getElem?_eq_some_iff.1 hsb).1
  have lr := (Array.getElem?_eq_some_iff.1 hrb).1
  have ht := together_any 81 #[.pointer (some ⟨wb, 0, none⟩), .pointer (some ⟨sb, 0, none⟩), .pointer (some ⟨rb, 0, none⟩)] (enters_of Try.func81 (by kernel_rfl) rfl) (KpC w.heap.size wb sb rb) (C.map (ballN S r)) C.length w2 kpC_t
    (fun A B h => kpC_b h B2.size lw ls lr) (fun n hn => balls_gives n hn S HSp.out ao cap ac C capc hlen HC0.out r hr0 hr8 wb sb rb w w2 B2 hS hC hwb hsb hrb)
  go_wp2_with fail
  refine ht.mono ?_
  rintro e w3 ⟨rfl, hb3⟩
  have B3 := B2.trans (hb3.mono B2.size)
  have r1 := (HZ.out.below hb2 (by simp)).below hb3 (by omega)
  clear hb2 hb3 ht hwb hsb hrb
  go_wp2_with (first | (refine wpList_st16 rfl _ _ rfl r1 (unionL (C.map (ballN S r))) rfl rfl ?_))
  (try simp only [Exit.inBlock, Exit.then])
  refine bodyPost_ret (results16 rfl _ (row_set r1) rfl) rfl ?_
  exact ⟨rfl, B3.grown (grown_setRow _) B3.size fun j hj => by cases hj; omega⟩

theorem ballN_in (S : List Int) (r c : Int) (u : Nat) : ballN S r c u = decide (u < (nW S).toNat ∧ dist S u c ≤ r) := by
  unfold ballN inL ballW
  rw [Bool.eq_iff_iff, decide_eq_true_eq, decide_eq_true_eq, selTo_eq, List.mem_map]
  constructor
  · rintro ⟨i, hi, e⟩
    have hi' : i = u := by have : (i : Int) = (u : Int) := e; omega
    subst hi'
    rw [List.mem_filter, List.mem_range] at hi
    exact ⟨hi.1, by simpa [ballB] using hi.2⟩
  · rintro ⟨h1, h2⟩
    exact ⟨u, by rw [List.mem_filter, List.mem_range]; exact ⟨h1, by simpa [ballB] using h2⟩, rfl⟩
theorem covN_in (S C : List Int) (r : Int) (u : Nat) : covN S C r u = decide (u < (nW S).toNat ∧ ∃ c ∈ C, dist S u c ≤ r) := by
  unfold covN unionL
  rw [Bool.eq_iff_iff, decide_eq_true_eq, List.any_eq_true]
  constructor
  · rintro ⟨p, hp, h⟩
    obtain ⟨c, hc, rfl⟩ := List.mem_map.1 hp
    rw [ballN_in, decide_eq_true_eq] at h
    exact ⟨h.1, c, hc, h.2⟩
  · rintro ⟨h1, c, hc, h2⟩
    exact ⟨_, List.mem_map.2 ⟨c, hc, rfl⟩, by rw [ballN_in, decide_eq_true_eq]; exact ⟨h1, h2⟩⟩
/-- the set of all words -/
def allN (S : List Int) : Nat → Bool := fun u => decide (u < (nW S).toNat)
theorem covN_whole {S : List Int} (h : Sp S) : covN S [0] 8 = allN S := by
  funext u
  rw [covN_in, allN, Bool.eq_iff_iff, decide_eq_true_eq, decide_eq_true_eq]
  exact ⟨fun g => g.1, fun g => ⟨g, 0, by simp, by have := (dist_bd S u 0).2; have := h.hi; omega⟩⟩

theorem zero_code : ∀ i, i < ([0] : List Int).length → 0 ≤ gi [0] i ∧ gi [0] i ≤ 9223372036854775807 := fun i hi => by
  have e : i = 0 := by simpa using hi
  subst e
  exact ⟨Int.le_refl 0, by decide⟩
set_option maxHeartbeats 1000000 in
theorem wholeSet_any (ao : Option Addr) (S : List Int) (cap : Nat) (hSp : Sp S) (w : World) (hS : Ints w ao S) :
    Calls Try.prog 48 #[.agg #[.slice ao S.length cap]] w fun e w' => e = .returned (.agg (setA (allN S))) ∧ Below w.heap.size w w' := by
  rw [← covN_whole hSp]
  have hz1 := rowz_new (w.alloc (.cells #[.slice ao S.length cap] 26)) rfl
  simp only [World.size_alloc] at hz1
  have HZ := Lib.hid hz1
  clear hz1
  go_enter Try.func48, Try.ntmps48
  go_wp2_with fail
  have B1 : Below w.heap.size w (((w.alloc (.cells #[.slice ao S.length cap] 26)).alloc (.cells #[.int .u64 0, .int .u64 0, .int .u64 0, .int .u64 0, .int .u64 0, .int .u64 0, .int .u64 0, .int .u64 0, .int .u64 0, .int .u64 0, .int .u64 0, .int .u64 0, .int .u64 0, .int .u64 0, .int .u64 0, .int .u64 0] 58)).alloc (.cells #[.int .i64 0] 2)) := by go_grown
  refine (coveredWords_any ao S cap hSp (some ⟨w.heap.size + 1 + 1, 0, none⟩) [0] 1 (by simp) zero_code 8 (by omega) (by omega) _ (hS.below B1) (ints_new1 _ 0 _ (by simp))).mono ?_
  rintro e w1 ⟨rfl, hb⟩
  have r1 := (HZ.out.alloc (.cells #[.int .i64 0] 2)).below hb (by simp)
  have B2 := B1.trans (hb.mono (by simp; omega))
  clear hb B1
  go_wp2_with (first | (refine wpList_st16 rfl _ _ rfl r1 (covN S [0] 8) rfl rfl ?_))
  (try simp only [Exit.inBlock, Exit.then])
  refine bodyPost_ret (results16 rfl _ (row_set r1) rfl) rfl ?_
  exact ⟨rfl, B2.grown (grown_setRow _) B2.size fun j hj => by cases hj; omega⟩

end Go.Proofs.Ytamebfbddoeflaa
