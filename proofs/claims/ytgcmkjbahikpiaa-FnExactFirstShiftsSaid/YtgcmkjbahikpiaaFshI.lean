/-
  The contract of the program's FirstShifts: sets that meet, shifts to a word, and the machine with two labels. By an AI agent.
-/
import Derived.Test.YtgcmkjbahikpiaaMathT
import Derived.Test.YtgcmkjbahikpiaaDoPI
import Derived.Test.YtgcmkjbahikpiaaF3
import Derived.Test.YtgcmkjbahikpiaaAppendAt
import Derived.ScopeJumps
namespace Go.Proofs.Ytgcmkjbahikpiaa
open Go.RowKit Go.Shelf Cv
set_option linter.unusedVariables false
set_option linter.unusedSimpArgs false
set_option maxRecDepth 100000

/-- '&' of two parts -/
theorem part_and (p q : Nat → Bool) (k : Nat) : bits BinOp.and IntKind.u64 (partN p k : Int) (partN q k : Int) = (partN (fun u => p u && q u) k : Int) :=
  have e : ((BitVec.ofInt 64 (partN p k : Int)) &&& (BitVec.ofInt 64 (partN q k : Int))).toNat = partN (fun u => p u && q u) k := by
    rw [BitVec.toNat_and, bv_nat _ (partN_lt p k), bv_nat _ (partN_lt q k)]
    refine Nat.eq_of_testBit_eq fun b => ?_
    rw [Nat.testBit_and]
    by_cases hb : b < 64
    · rw [partN_bit _ _ _ hb, partN_bit _ _ _ hb, partN_bit _ _ _ hb]
    · rw [partN_hi _ _ _ hb, partN_hi _ _ _ hb, partN_hi _ _ _ hb]; rfl
  show IntKind.u64.wrap (((BitVec.ofInt 64 (partN p k : Int)) &&& (BitVec.ofInt 64 (partN q k : Int))).toNat : Int) = _ by
    rw [e, wrap_nat _ (partN_lt _ k)]
theorem partN_zero (r : Nat → Bool) (k : Nat) : partN r k = 0 ↔ ∀ b, b < 64 → r (64 * k + b) = false := by
  constructor
  · intro h b hb
    rw [← partN_bit r k b hb, h]; simp
  · intro h
    refine Nat.eq_of_testBit_eq fun b => ?_
    by_cases hb : b < 64
    · rw [partN_bit _ _ _ hb, h b hb]; simp
    · rw [partN_hi _ _ _ hb]; simp
/-- whether two sets have a word in common -/
def mtP (r : Nat → Bool) : Bool := (List.range 16).any fun k => partN r k != 0
theorem mt_iff (r : Nat → Bool) : mtP r = true ↔ ∃ u, u < 1024 ∧ r u = true := by
  have hx : mtP r = true ↔ ∃ k, k < 16 ∧ partN r k ≠ 0 := by
    unfold mtP
    rw [List.any_eq_true]
    constructor
    · rintro ⟨k, h1, h2⟩; exact ⟨k, by simpa using h1, by simpa using h2⟩
    · rintro ⟨k, h1, h2⟩; exact ⟨k, by simpa using h1, by simpa using h2⟩
  rw [hx]
  constructor
  · rintro ⟨k, hk, h⟩
    have h2 : ¬ ∀ b, b < 64 → r (64 * k + b) = false := fun g => h ((partN_zero r k).2 g)
    obtain ⟨b, hb⟩ := Classical.not_forall.1 h2
    obtain ⟨hb1, hb2⟩ := Classical.not_imp.1 hb
    exact ⟨64 * k + b, by omega, by simpa using hb2⟩
  · rintro ⟨u, hu, h⟩
    refine ⟨u / 64, by omega, fun g => ?_⟩
    have := (partN_zero r (u / 64)).1 g (u % 64) (by omega)
    rw [show 64 * (u / 64) + u % 64 = u by omega, h] at this; cases this
theorem mt_clr {f : Nat → Bool} {L : List Int} (hL : ∀ i, i < L.length → 0 ≤ gi L i ∧ gi L i < 1024) : (mtP fun u => f u && inL L u) = !clrB f L := by
  rw [Bool.eq_iff_iff, mt_iff]
  unfold clrB
  rw [Bool.not_eq_true', decide_eq_false_iff_not]
  constructor
  · rintro ⟨u, hu, h⟩ g
    rw [Bool.and_eq_true] at h
    obtain ⟨i, hi, e⟩ := mem_gi (show (u : Int) ∈ L by simpa [inL] using h.2)
    have := g i hi
    rw [e] at this
    simp [h.1] at this
  · intro h
    obtain ⟨i, hi⟩ := Classical.not_forall.1 h
    obtain ⟨h1, h2⟩ := Classical.not_imp.1 hi
    have hb := hL i h1
    refine ⟨(gi L i).toNat, by omega, ?_⟩
    rw [Bool.and_eq_true]
    refine ⟨by simpa using h2, ?_⟩
    unfold inL
    rw [show (((gi L i).toNat : Nat) : Int) = gi L i by omega]
    simpa using gi_mem h1

set_option maxHeartbeats 2000000 in
theorem meets_any (p q : Nat → Bool) (w : World) :
    Calls Try.prog 123 #[.agg (setA p), .agg (setA q)] w fun e w' => e = .returned (.bool (mtP fun u => p u && q u)) ∧ Below w.heap.size w w' := by
  have hx := (row_new w p).alloc (.cells (setA q) 91)
  have hy := rown_new (w.alloc (.cells (setA p) 91)) q (n := w.heap.size + 1) (by simp)
  have B0 : Below w.heap.size w ((w.alloc (.cells (setA p) 91)).alloc (.cells (setA q) 91)) := by go_grown
  obtain ⟨r, hr⟩ : ∃ r : Nat → Bool, r = fun u => p u && q u := ⟨_, rfl⟩
  have HM : Hid ((mtP fun u => p u && q u) = mtP r) := Lib.hid (by rw [hr])
  have HA : Hid (∀ k, bits BinOp.and IntKind.u64 (partN p k : Int) (partN q k : Int) = (partN r k : Int)) := Lib.hid fun k => by rw [hr]; exact part_and p q k
  have HT : Hid ((∃ k, k < 16 ∧ partN r k ≠ 0) → mtP r = true) := Lib.hid fun ⟨k, hk, g⟩ => by
    unfold mtP; rw [List.any_eq_true]; exact ⟨k, by simpa using hk, by simpa using g⟩
  have HF : Hid ((∀ k, k < 16 → partN r k = 0) → mtP r = false) := Lib.hid fun h => by
    unfold mtP; rw [List.any_eq_false]; intro k hk; rw [h k (by simpa using hk)]; simp
  rw [HM.out]
  obtain ⟨M, hM⟩ : ∃ M, M = mtP r := ⟨_, rfl⟩
  rw [← hM] at HT HF ⊢
  obtain ⟨PN, hPN⟩ : ∃ PN, PN = partN r := ⟨_, rfl⟩
  rw [← hPN] at HA HT HF
  clear hr HM hM hPN
  go_enter Try.func123, Try.ntmps123
  go_wp2_with (first | (refine wpList_ld16 rfl _ rfl hx rfl ?_))
  go_loop [8] (fun i => ∃ k : Nat, k ≤ 16 ∧ i = .int .i64 k ∧ Hid (∀ j, j < k → PN j = 0)) (fun i => 16 - (intOf i).toNat)
  case atStart => exact ⟨0, by omega, rfl, Lib.hid fun j hj => by omega⟩
  case round =>
    obtain ⟨k, hk, rfl, HZ⟩ := hrel
    by_cases hlt : k < 16
    · have hcy := hy.cell k hlt
      have hA := HA.out k
      have hI := idx16 p k hlt ((w.alloc (.cells (setA p) 91)).alloc (.cells (setA q) 91))
      by_cases hz : PN k = 0
      · have hzb : (((PN k : Nat) : Int) != 0) = false := by simp [hz]
        have HZk := Lib.hid hz
        clear hz
        go_wp2
        go_round
        case rel =>
          refine ⟨k + 1, by omega, by go_num, Lib.hid fun j hj => ?_⟩
          by_cases e : j = k
          · subst e; exact HZk.out
          · exact HZ.out j (by omega)
        case measure => simp [intOf]; omega
      · have hzb : (((PN k : Nat) : Int) != 0) = true := by
          rw [bne_iff_ne]; omega
        have HX := Lib.hid (HT.out ⟨k, hlt, hz⟩)
        clear hz
        go_wp2
        go_ret
        exact ⟨by rw [HX.out]; try rfl, B0⟩
    · have HX := Lib.hid (HF.out fun j hj => HZ.out j (by omega))
      go_wp2
      go_ret
      exact ⟨by rw [HX.out]; try rfl, B0⟩

set_option maxHeartbeats 2000000 in
theorem shiftsTo_any (ao : Option Addr) (S : List Int) (cap : Nat) (hSp : Sp S) (ac : Option Addr) (C : List Int) (capc : Nat) (hl : C.length ≤ 1024) (hC : ∀ i, i < C.length → 0 ≤ gi C i ∧ gi C i < nW S) (x : Int) (hx : 0 ≤ x ∧ x < nW S) (w : World) (hS : Ints w ao S) (hCI : Ints w ac C) :
    Calls Try.prog 122 #[.agg #[.slice ao S.length cap], .slice ac C.length capc, .int .i64 x] w fun e w' => ∃ g, e = .returned (.slice (some ⟨g, 0, none⟩) C.length C.length) ∧ OwnInts w' w.heap.size (.slice (some ⟨g, 0, none⟩) C.length C.length) (stL S C x) ∧ Below w.heap.size w w' := by
  obtain ⟨i0, hi, hz0, hz1, hz2⟩ := info_parts infoI64
  obtain ⟨N1, N2⟩ := nW_bd hSp
  have hs8 := hSp.hi
  have HC := Lib.hid hC
  have HSp := Lib.hid hSp
  have HSt : Hid (sorted (C.map fun u => sumW S x (oppW S u)) = stL S C x) := Lib.hid rfl
  have HOp := Lib.hid fun (u : Int) (hu : 0 ≤ u ∧ u < nW S) W h => impl_OppositeWord ao S cap (by omega) u ⟨by omega, by omega⟩ W h
  have HOv : Hid (∀ u : Int, 0 ≤ u ∧ u < nW S → vOpp S u = oppW S u ∧ eWords S [u] = 0) := Lib.hid fun u hu => by
    have h0 : eWords S [u] = 0 := eWords_ok ((isSp_iff S).2 hSp) fun t ht => by match t, ht with | 0, _ => rw [gi1]; exact hu
    exact ⟨by unfold vOpp; rw [if_pos h0], h0⟩
  have HWd : Hid (∀ u : Int, 0 ≤ oppW S u ∧ oppW S u < nW S) := Lib.hid fun u => wd_opp hSp u
  have B0 : Below w.heap.size w (w.alloc (.cells #[.slice ao S.length cap] 28)) := by go_grown
  have c0 := cell_new w (.slice ao S.length cap) 28
  have l0 := lt_alloc w (.cells #[.slice ao S.length cap] 28)
  have x1 := hx.1
  have x2 := hx.2
  clear hC hSp hx
  go_enter Try.func122, Try.ntmps122
  go_wp2_with (first | (at_make; refine wpList_make_full _ rfl _ _ 22 rfl (w.heap.size + 1) 2 i0 (.int .i64 0) 1 Try.underlying22 hi hz0 hz1 .i64 .i64 (C.length : Int) (C.length : Int) C.length rfl rfl rfl rfl (by rw [hz2]; omega) (by unfold maxLen; omega) (by simp) ?_; intro w1 hown hgrow) | fail)
  have hb1 : Below (w.heap.size + 1) (w.alloc (.cells #[.slice ao S.length cap] 28)) w1 := by have := below_grown0 hgrow; simpa using this
  have c1 := kept_cell hb1 c0 (by simp)
  have B1 : Below w.heap.size w w1 := B0.trans (hb1.mono (by omega))
  have l1 : w.heap.size < w1.heap.size := by have := hb1.size; simp at this; omega
  replace hown := own_made hown
  rw [World.size_alloc] at hown
  clear hgrow hb1 c0 l0 B0
  go_loopw [17] (fun i wr => ∃ (k : Nat) (T : List Int), k ≤ C.length ∧ i = .int .i64 k ∧ OwnInts wr (w.heap.size + 1) (.slice (some ⟨w.heap.size + 1, 0, none⟩) C.length C.length) T ∧ Hid (T.length = C.length ∧ ∀ j, j < k → gi T j = sumW S x (oppW S (gi C j))) ∧ wr.cell? ⟨w.heap.size, 0, none⟩ = some (.slice ao S.length cap) ∧ w.heap.size < wr.heap.size ∧ Below w.heap.size w wr) (fun i _ => C.length - (intOf i).toNat)
  case atStart => exact ⟨0, _, Nat.zero_le _, rfl, hown, Lib.hid ⟨by simp, fun j hj => by omega⟩, c1, l1, B1⟩
  case round =>
    clear hown c1 l1 B1
    obtain ⟨k, T, hk, rfl, ow, HT, c, l, B⟩ := hrel
    by_cases hlt : k < C.length
    · obtain ⟨b, o, rfl, hbl, hc⟩ := hCI.at hlt
      have hck := kept_cell B (hc k hlt) hbl
      have hcb := HC.out k hlt
      have hop := HOp.out (gi C k) hcb
      rw [(HOv.out (gi C k) hcb).1, (HOv.out (gi C k) hcb).2] at hop
      obtain ⟨o1, o2⟩ := HWd.out (gi C k)
      have hlI : (k : Int) < (C.length : Int) := by omega
      have k0 : (0 : Int) ≤ (k : Int) := by omega
      have HV : Hid (gi C k = gi C k) := Lib.hid rfl
      obtain ⟨ow0, how⟩ : ∃ z, z = oppW S (gi C k) := ⟨_, rfl⟩
      rw [← how] at hop o1 o2
      have HOW := Lib.hid how
      have HOPP := Lib.hid hop
      obtain ⟨u, hu⟩ : ∃ u, u = gi C k := ⟨_, rfl⟩
      rw [← hu] at hck hcb HOPP HOW
      have HU := Lib.hid hu
      clear hc how hop hu
      go_wp2_with fail
      refine (HOPP.out _ (hS.below B)).mono ?_
      rintro e w2 ⟨rfl, hb2⟩
      have c2 := kept_cell hb2 c l
      have l2 := lt_of_below hb2 l
      have B2 := B.trans (hb2.mono B.size)
      have ow2 := ow.below hb2
      go_wp2_with fail
      refine (sumOfWords_any ao S cap HSp.out x ow0 x1 (by omega) o1 (by omega) _ (hS.below B2)).mono ?_
      rintro e w3 ⟨rfl, hb3⟩
      have c3 := kept_cell hb3 c2 l2
      have l3 := lt_of_below hb3 l2
      have B3 := B2.trans (hb3.mono B2.size)
      have ow3 := ow2.below hb3
      have hcell := ow3.cell (k := k) (by rw [HT.out.1]; exact hlt)
      have hfree := ow3.free k
      have ow4 := ow3.stored k (sumW S x ow0)
      have c4 : (w3.setCell ⟨w.heap.size + 1, k, none⟩ (.int .i64 (sumW S x ow0))).cell? ⟨w.heap.size, 0, none⟩ = some (.slice ao S.length cap) := cell_set_other c3 (by simp)
      have B4 : Below w.heap.size w (w3.setCell ⟨w.heap.size + 1, k, none⟩ (.int .i64 (sumW S x ow0))) := B3.setCell (by (try dsimp only); omega) _
      have l4 : w.heap.size < (w3.setCell ⟨w.heap.size + 1, k, none⟩ (.int .i64 (sumW S x ow0))).heap.size := by simpa using l3
      have HT2 : Hid ((T.set k (sumW S x ow0)).length = C.length ∧ ∀ j, j < k + 1 → gi (T.set k (sumW S x ow0)) j = sumW S x (oppW S (gi C j))) := Lib.hid ⟨by rw [List.length_set]; exact HT.out.1, fun j hj => by
        rw [gi_set _ _ _ _ (by rw [HT.out.1]; exact hlt)]
        by_cases e : j = k
        · subst e; rw [if_pos rfl, HOW.out, HU.out]
        · rw [if_neg e, HT.out.2 j (by omega)]⟩
      clear ow ow2 ow3 c c2 c3 hb2 hb3 B B2 l l2
      go_wp2_with fail
      go_roundw
      case rel => exact ⟨k + 1, _, by omega, by go_num, ow4, HT2, c4, l4, B4⟩
      case measure => simp [intOf]; omega
    · have hlI : ¬ (k : Int) < (C.length : Int) := by omega
      have HE : Hid (sorted T = stL S C x) := Lib.hid (by
        rw [← HSt.out]
        congr 1
        refine ext_gi (by rw [HT.out.1, List.length_map]) fun j hj => ?_
        rw [HT.out.1] at hj
        rw [HT.out.2 j (by omega), gi_lt (C.map fun u => sumW S x (oppW S u)) j (by rw [List.length_map]; exact hj), List.getElem_map, ← gi_lt])
      have hlT : T.length = C.length := HT.out.1
      have hsrt := sort_any (w.heap.size + 1) (w.heap.size + 1) C.length T wr (by omega) (by rw [hlT]; exact ow)
      rw [hlT] at hsrt
      have HSRT := Lib.hid hsrt
      clear hlT hsrt
      go_wp2_with fail
      refine HSRT.out.mono ?_
      rintro e w8 ⟨rfl, own8, hg8⟩
      go_wp2_with fail
      go_ret
      exact ⟨_, rfl, by rw [← HE.out]; exact own8.rebase (by omega), B.grown hg8 B.size (by intro z hz; cases hz; omega)⟩

/-- as Q; by a goto to one of two labels: what holds there -/
def Exit.jump2 (l0 l1 : Nat) (J0 J1 : Act → World → Prop) (Q : Exit → Act → World → Prop) : Exit → Act → World → Prop
  | .goto l', a, w => (l' = l0 ∧ J0 a w) ∨ (l' = l1 ∧ J1 a w)
  | e, a, w => Q e a w

/-- a scope in which the run jumps to two labels -/
theorem wp_scope_two {P : Program} {a : Act} {w : World} {Q : Exit → Act → World → Prop} {c r0 r1 : Code} (l0 l1 : Nat) (J0 J1 : Act → World → Prop) (m0 m1 : Act → World → Nat) (h0 : findLabel c l0 = some r0) (h1 : findLabel c l1 = some r1)
    (first : c.wp P (Exit.jump2 l0 l1 J0 J1 Q) a w)
    (pass0 : ∀ a w, J0 a w → r0.wp P (Exit.jump2 l0 l1 (fun a' w' => J0 a' w' ∧ m0 a' w' < m0 a w) (fun a' w' => J1 a' w' ∧ m1 a' w' < m0 a w) Q) a w)
    (pass1 : ∀ a w, J1 a w → r1.wp P (Exit.jump2 l0 l1 (fun a' w' => J0 a' w' ∧ m0 a' w' < m1 a w) (fun a' w' => J1 a' w' ∧ m1 a' w' < m1 a w) Q) a w) : (Code.scope c).wp P Q a w := by
  intro b k cs
  have hg0 : gotoIn l0 (.inScope c :: k) = some (.code r0 :: .inScope c :: k) := by simp [gotoIn, h0]
  have hg1 : gotoIn l1 (.inScope c :: k) = some (.code r1 :: .inScope c :: k) := by simp [gotoIn, h1]
  have key : ∀ n a w, (m0 a w = n → J0 a w → ∃ e a' w', Q e a' w' ∧ Arrives P (lone (b.at a (.code r0 :: .inScope c :: k)) cs w) b k cs e a' w') ∧ (m1 a w = n → J1 a w → ∃ e a' w', Q e a' w' ∧ Arrives P (lone (b.at a (.code r1 :: .inScope c :: k)) cs w) b k cs e a' w') := by
    intro n
    induction n using Nat.strongRecOn with
    | _ n ih =>
      intro a w
      refine ⟨fun hn hJ => ?_, fun hn hJ => ?_⟩
      · obtain ⟨e, a₁, w₁, hq, harr⟩ := pass0 a w hJ b (.inScope c :: k) cs
        cases e with
        | normal => exact ⟨.normal, a₁, w₁, hq, Steps.trans harr (.one step_inScope)⟩
        | exit id => exact ⟨.exit id, a₁, w₁, hq, fun k' hk => harr k' (by simp [exitTo, hk])⟩
        | goto l' =>
          rcases hq with ⟨rfl, hJ', hlt⟩ | ⟨rfl, hJ', hlt⟩
          · obtain ⟨e₂, a₂, w₂, hq₂, harr₂⟩ := (ih _ (by omega) a₁ w₁).1 rfl hJ'
            exact ⟨e₂, a₂, w₂, hq₂, .of_steps (harr _ hg0) harr₂⟩
          · obtain ⟨e₂, a₂, w₂, hq₂, harr₂⟩ := (ih _ (by omega) a₁ w₁).2 rfl hJ'
            exact ⟨e₂, a₂, w₂, hq₂, .of_steps (harr _ hg1) harr₂⟩
        | ret => exact ⟨_, a₁, w₁, hq, harr⟩
        | panic ch => exact ⟨_, a₁, w₁, hq, harr⟩
        | outgrown => exact ⟨_, a₁, w₁, hq, harr⟩
      · obtain ⟨e, a₁, w₁, hq, harr⟩ := pass1 a w hJ b (.inScope c :: k) cs
        cases e with
        | normal => exact ⟨.normal, a₁, w₁, hq, Steps.trans harr (.one step_inScope)⟩
        | exit id => exact ⟨.exit id, a₁, w₁, hq, fun k' hk => harr k' (by simp [exitTo, hk])⟩
        | goto l' =>
          rcases hq with ⟨rfl, hJ', hlt⟩ | ⟨rfl, hJ', hlt⟩
          · obtain ⟨e₂, a₂, w₂, hq₂, harr₂⟩ := (ih _ (by omega) a₁ w₁).1 rfl hJ'
            exact ⟨e₂, a₂, w₂, hq₂, .of_steps (harr _ hg0) harr₂⟩
          · obtain ⟨e₂, a₂, w₂, hq₂, harr₂⟩ := (ih _ (by omega) a₁ w₁).2 rfl hJ'
            exact ⟨e₂, a₂, w₂, hq₂, .of_steps (harr _ hg1) harr₂⟩
        | ret => exact ⟨_, a₁, w₁, hq, harr⟩
        | panic ch => exact ⟨_, a₁, w₁, hq, harr⟩
        | outgrown => exact ⟨_, a₁, w₁, hq, harr⟩
  obtain ⟨e, a₁, w₁, hq, harr⟩ := first b (.inScope c :: k) cs
  cases e with
  | normal => exact ⟨.normal, a₁, w₁, hq, .head step_scope (Steps.trans harr (.one step_inScope))⟩
  | exit id => exact ⟨.exit id, a₁, w₁, hq, fun k' hk => .head step_scope (harr k' (by simp [exitTo, hk]))⟩
  | goto l' =>
    rcases hq with ⟨rfl, hJ'⟩ | ⟨rfl, hJ'⟩
    · obtain ⟨e₂, a₂, w₂, hq₂, harr₂⟩ := (key _ a₁ w₁).1 rfl hJ'
      exact ⟨e₂, a₂, w₂, hq₂, .of_steps (.head step_scope (harr _ hg0)) harr₂⟩
    · obtain ⟨e₂, a₂, w₂, hq₂, harr₂⟩ := (key _ a₁ w₁).2 rfl hJ'
      exact ⟨e₂, a₂, w₂, hq₂, .of_steps (.head step_scope (harr _ hg1)) harr₂⟩
  | ret => exact ⟨_, a₁, w₁, hq, .of_steps (.one step_scope) harr⟩
  | panic ch => exact ⟨_, a₁, w₁, hq, .of_steps (.one step_scope) harr⟩
  | outgrown => exact ⟨_, a₁, w₁, hq, .of_steps (.one step_scope) harr⟩

/-- the same, where the run comes to the first label from above -/
theorem wp_scope_two' {P : Program} {a : Act} {w : World} {Q : Exit → Act → World → Prop} {c r0 r1 : Code} (l0 l1 : Nat) (J0 J1 : Act → World → Prop) (m0 m1 : Act → World → Nat) (h0 : findLabel c l0 = some (Code.skip.seq r0)) (h1 : findLabel c l1 = some (Code.skip.seq r1))
    (pass0 : ∀ a w, J0 a w → r0.wp P (Exit.jump2 l0 l1 (fun a' w' => J0 a' w' ∧ m0 a' w' < m0 a w) (fun a' w' => J1 a' w' ∧ m1 a' w' < m0 a w) Q) a w)
    (pass1 : ∀ a w, J1 a w → r1.wp P (Exit.jump2 l0 l1 (fun a' w' => J0 a' w' ∧ m0 a' w' < m1 a w) (fun a' w' => J1 a' w' ∧ m1 a' w' < m1 a w) Q) a w)
    (first : (∀ a w, J0 a w → r0.wp P (Exit.jump2 l0 l1 J0 J1 Q) a w) → c.wp P (Exit.jump2 l0 l1 J0 J1 Q) a w) : (Code.scope c).wp P Q a w := by
  refine wp_scope_two l0 l1 J0 J1 m0 m1 h0 h1 (first fun a w h => wp_mono (pass0 a w h) fun e a' w' hq => ?_) (fun a w h => wp_seq (wp_skip (pass0 a w h))) (fun a w h => wp_seq (wp_skip (pass1 a w h)))
  cases e with
  | goto l' =>
    rcases hq with ⟨h, h2, _⟩ | ⟨h, h2, _⟩
    · exact .inl ⟨h, h2⟩
    · exact .inr ⟨h, h2⟩
  | _ => exact hq

theorem msr_lt {D X X' e e0 : Nat} (h : X' < X) (he : e < D) : D * X' + e < D * X + e0 := by
  have h1 : D * (X' + 1) ≤ D * X := Nat.mul_le_mul_left _ h
  rw [Nat.mul_add, Nat.mul_one] at h1
  omega
def slnV : Value → Nat
  | .slice _ n _ => n
  | _ => 0
theorem fs_had' {S C : List Int} {k : Nat} {f : Nat → Bool} {L : List Int} (h : fsTo S C k = ⟨f, L, true⟩) (hf : f k = true) : fsTo S C (k + 1) = ⟨f, L, true⟩ := by
  rw [fs_had (by rw [h]) (by rw [h]; exact hf), h]
theorem fs_len' {S C : List Int} {k : Nat} {f : Nat → Bool} {L : List Int} (h : fsTo S C k = ⟨f, L, true⟩) : L.length ≤ k := by
  have := fs_len S C k
  rw [h] at this; exact this
theorem fs_new' {S C : List Int} (hz : eCode S C = 0) {k j v : Nat} {f : Nat → Bool} {L : List Int} (hk : k < (nW S).toNat) (h : fsTo S C k = ⟨f, L, true⟩) (hf : f k = false) (hj : j < C.length) (hv : gi (stL S C (k : Int)) j = (v : Int)) (hc : clrB f (shW S C (v : Int)) = true)
    (h0 : ∀ i, i < j → clrB f (shW S C (gi (stL S C (k : Int)) i)) = false) : fsTo S C (k + 1) = ⟨orL f (shW S C (v : Int)), L ++ [(v : Int)], true⟩ ∧ orL f (shW S C (v : Int)) k = true := by
  obtain ⟨a, b, c⟩ := st_first (f := f) hz hk (j := j) (by rw [st_len]; exact hj) hv hc h0
  refine ⟨?_, ?_⟩
  · have := fs_new (w := k) (v := v) (by rw [h]) (by rw [h]; exact hf) a (by rw [h]; exact b) (by rw [h]; exact c)
    rw [this, h]
  · have hin := (st_mem hz hk a).1 (by rw [← hv]; exact gi_mem (by rw [st_len]; exact hj))
    unfold orL; rw [hin, Bool.or_true]
theorem fs_none' {S C : List Int} (hz : eCode S C = 0) {k : Nat} {f : Nat → Bool} {L : List Int} (hk : k < (nW S).toNat) (h : fsTo S C k = ⟨f, L, true⟩) (hf : f k = false) (h0 : ∀ i, i < C.length → clrB f (shW S C (gi (stL S C (k : Int)) i)) = false) : (fsTo S C (nW S).toNat).ok = false := by
  have hv := st_none (f := f) hz hk (fun i hi => h0 i (by rw [st_len] at hi; exact hi))
  exact fs_bad (fs_none (w := k) (by rw [h]) (by rw [h]; exact hf) (by rw [h]; exact hv)) _ (by omega)

set_option maxHeartbeats 8000000 in
theorem firstShifts_any (ao : Option Addr) (S : List Int) (cap : Nat) (ac : Addr) (C : List Int) (capc : Nat) (hz : eCode S C = 0) (h0 : 0 < C.length) (w : World) (hS : Ints w ao S) (hC : Ints w (some ac) C) :
    Calls Try.prog 80 #[.agg #[.slice ao S.length cap], .slice (some ac) C.length capc] w fun e w' => ∃ v, e = .returned (.tuple #[v, .int .i64 (eFsh S C)]) ∧ OwnInts w' w.heap.size v (vFsh S C) ∧ Below w.heap.size w w' := by
  have he : eFull S C = 0 := by unfold eFull; rw [if_neg (by omega), hz]
  obtain ⟨hSp, hc1, hc2⟩ := eCode_zero hz
  obtain ⟨N1, N2⟩ := nW_bd hSp
  have hcl := code_len0 hz
  obtain ⟨N, hN⟩ : ∃ N : Nat, nW S = (N : Int) := ⟨(nW S).toNat, by omega⟩
  have hNt : (nW S).toNat = N := by omega
  have HSp := Lib.hid hSp
  have hshf := fun (v : Int) (hv : 0 ≤ v ∧ v < (N : Int)) W h1 h2 => shiftedSet_any ao S cap ac C capc hz v (by rw [hN]; exact hv) W h1 h2
  have hsto := fun (k : Nat) (hk : k < N) W h1 h2 => shiftsTo_any ao S cap hSp (some ac) C capc hcl hc1 (k : Int) (by rw [hN]; omega) W h1 h2
  have hwc := fun W h => wordCount_sp ao S cap W hSp h
  rw [hN] at hwc
  have hHad := fun k f L => fs_had' (S := S) (C := C) (k := k) (f := f) (L := L)
  have hLen := fun k f L => fs_len' (S := S) (C := C) (k := k) (f := f) (L := L)
  have hNew := fun k j v f L => fs_new' hz (k := k) (j := j) (v := v) (f := f) (L := L)
  have hNone := fun k f L => fs_none' hz (k := k) (f := f) (L := L)
  have hStb := fun k i (hi : i < C.length) => st_bd (S := S) (C := C) hSp k (i := i) (by rw [st_len]; exact hi)
  have hShb := fun v (f : Nat → Bool) => mt_clr (f := f) (L := shW S C v) (fun i hi => by have := shW_bd hSp C v hi; omega)
  have HE4 : Hid ((fsTo S C N).ok = false → eFsh S C = 4 ∧ vFsh S C = []) := Lib.hid fun h => by
    have h1 : eFsh S C = 4 := by unfold eFsh; rw [if_pos he, hNt, if_neg (by rw [h]; simp)]
    exact ⟨h1, by unfold vFsh; rw [if_neg (by rw [h1]; decide)]⟩
  have HE0 : Hid (∀ f L, fsTo S C N = ⟨f, L, true⟩ → eFsh S C = 0 ∧ vFsh S C = L) := Lib.hid fun f L h => by
    have h1 : eFsh S C = 0 := by unfold eFsh; rw [if_pos he, hNt, if_pos (by rw [h])]
    exact ⟨h1, by unfold vFsh; rw [if_pos h1, hNt, h]⟩
  rw [hNt] at hNew hNone
  obtain ⟨E, hE⟩ : ∃ E, E = eFsh S C := ⟨_, rfl⟩
  obtain ⟨V, hV⟩ : ∃ V, V = vFsh S C := ⟨_, rfl⟩
  rw [← hE, ← hV] at HE4 HE0
  rw [← hE, ← hV]
  have HSH := Lib.hid hshf
  have HST := Lib.hid hsto
  have HWC := Lib.hid hwc
  have HHad := Lib.hid hHad
  have HLen := Lib.hid hLen
  have HNew := Lib.hid hNew
  have HNone := Lib.hid hNone
  have HStb : Hid (∀ k i, i < C.length → 0 ≤ gi (stL S C k) i ∧ gi (stL S C k) i < (N : Int)) := Lib.hid fun k i hi => by rw [← hN]; exact hStb k i hi
  have HShb := Lib.hid hShb
  have HStl : Hid (∀ k, (stL S C k).length = C.length) := Lib.hid (st_len S C)
  have hN2 : N ≤ 1024 := by omega
  have hN1 : 1 ≤ N := by omega
  clear he hz h0 hSp hc1 hc2 N1 N2 hN hNt hshf hsto hwc hHad hLen hNew hNone hStb hShb hE hV
  go_enter Try.func80, Try.ntmps80
  go_wp2_with fail
  refine wp_scope_two' 0 1 (fun a W => ∃ (k gs cs : Nat) (vl : Value) (f q : Nat → Bool) (L : List Int) (y11 y12 y13 y14 y15 y16 y17 y18 y19 y20 y21 y22 y23 y24 y25 y26 y27 y28 y29 y30 y31 y32 y33 y34 y35 y36 y37 y38 y39 y40 y41 y42 y43 y44 y45 y46 y47 y48 y49 y50 y51 y52 : Value), k ≤ N ∧ OwnInts W (w.heap.size + 1) (.slice (some ⟨gs, 0, none⟩) L.length cs) L ∧ RowAt W (w.heap.size + 3) f ∧ RowAt W (w.heap.size + 4) q ∧ Hid (fsTo S C k = ⟨f, L, true⟩ ∨ (k < N ∧ fsTo S C (k + 1) = ⟨f, L, true⟩ ∧ f k = true)) ∧ gs ≠ w.heap.size + 3 ∧ gs ≠ w.heap.size + 4 ∧ W.cell? ⟨w.heap.size, 0, none⟩ = some (.slice ao S.length cap) ∧ w.heap.size + 4 < W.heap.size ∧ Below w.heap.size w W ∧ a = { tmps := #[.agg #[.slice ao S.length cap], .slice (some ac) C.length capc, .pointer (some ⟨w.heap.size, 0, none⟩), undef, .slice none 0 0, .int .i64 0, .slice (some ⟨gs, 0, none⟩) L.length cs, vl, .pointer (some ⟨w.heap.size + 3, 0, none⟩), .pointer (some ⟨w.heap.size + 4, 0, none⟩), .int .i64 (k : Int), y11, y12, y13, y14, y15, y16, y17, y18, y19, y20, y21, y22, y23, y24, y25, y26, y27, y28, y29, y30, y31, y32, y33, y34, y35, y36, y37, y38, y39, y40, y41, y42, y43, y44, y45, y46, y47, y48, y49, y50, y51, y52], defers := [] }) (fun a W => ∃ (k gs cs gl j : Nat) (ad : Addr) (f q : Nat → Bool) (L : List Int) (y11 y12 y13 y14 y15 y16 y17 y18 y19 y20 y21 y22 y23 y24 y25 y26 y27 y28 y29 y30 y31 y32 y33 y34 y35 y36 y37 y38 y39 y40 y41 y42 y43 y44 y45 y46 y47 y48 y49 y50 y51 y52 : Value), k < N ∧ j ≤ C.length ∧ OwnInts W (w.heap.size + 1) (.slice (some ⟨gs, 0, none⟩) L.length cs) L ∧ OwnInts W (w.heap.size + 1) (.slice (some ⟨gl, 0, none⟩) C.length C.length) (stL S C (k : Int)) ∧ RowAt W (w.heap.size + 3) f ∧ RowAt W (w.heap.size + 4) q ∧ Hid (fsTo S C k = ⟨f, L, true⟩ ∧ f k = false ∧ ∀ i, i < j → clrB f (shW S C (gi (stL S C (k : Int)) i)) = false) ∧ gs ≠ w.heap.size + 3 ∧ gs ≠ w.heap.size + 4 ∧ (j < C.length → ad = ⟨gl, j, none⟩) ∧ gl ≠ w.heap.size + 3 ∧ gl ≠ w.heap.size + 4 ∧ gl ≠ gs ∧ W.cell? ⟨w.heap.size, 0, none⟩ = some (.slice ao S.length cap) ∧ w.heap.size + 4 < W.heap.size ∧ Below w.heap.size w W ∧ a = { tmps := #[.agg #[.slice ao S.length cap], .slice (some ac) C.length capc, .pointer (some ⟨w.heap.size, 0, none⟩), undef, .slice none 0 0, .int .i64 0, .slice (some ⟨gs, 0, none⟩) L.length cs, .slice (some ad) (C.length - j) (C.length - j), .pointer (some ⟨w.heap.size + 3, 0, none⟩), .pointer (some ⟨w.heap.size + 4, 0, none⟩), .int .i64 (k : Int), y11, y12, y13, y14, y15, y16, y17, y18, y19, y20, y21, y22, y23, y24, y25, y26, y27, y28, y29, y30, y31, y32, y33, y34, y35, y36, y37, y38, y39, y40, y41, y42, y43, y44, y45, y46, y47, y48, y49, y50, y51, y52], defers := [] }) (fun a W => (C.length + 2) * ((N - (intOf (a.tmps.getD 10 undef)).toNat) + (N + 1 - slnV (a.tmps.getD 6 undef))) + (C.length + 1)) (fun a W => (C.length + 2) * ((N - (intOf (a.tmps.getD 10 undef)).toNat) + (N + 1 - slnV (a.tmps.getD 6 undef))) + slnV (a.tmps.getD 7 undef)) rfl rfl ?pass0 ?pass1 ?first
  case first =>
    intro H0
    go_wp2_with fail
    go_step3
    rename_i KK hKK
    refine hKK _ _ (H0 _ _ ⟨0, w.heap.size + 1, 0, .slice (some ⟨w.heap.size + 2, 0, none⟩) 0 0, fun _ => false, fun _ => false, [], _, _, _, _, _, _, _, _, _, _, _, _, _, _, _, _, _, _, _, _, _, _, _, _, _, _, _, _, _, _, _, _, _, _, _, _, _, _, _, _, _, _, Nat.zero_le _, ?_, ?_, ?_, Lib.hid (.inl rfl), by omega, by omega, ?_, ?_, ?_, rfl⟩)
    · exact (((own_empty (w.alloc (.cells #[.slice ao S.length cap] 28)) (w.heap.size + 1) (by simp) (n := w.heap.size + 1) (by simp)).alloc _).alloc _).alloc _
    · exact (rowz_new (((w.alloc (.cells #[.slice ao S.length cap] 28)).alloc (.cells #[] 2)).alloc (.cells #[] 2)) (n := w.heap.size + 3) (by simp)).alloc _
    · exact rowz_new _ (n := w.heap.size + 4) (by simp)
    · exact kept_cell (((((Below.refl _ (w.alloc (.cells #[.slice ao S.length cap] 28))).alloc (Nat.le_refl _) _).alloc (by simp) _).alloc (by simp; try omega) _).alloc (by simp; try omega) _) (cell_new w _ _) (lt_alloc _ _)
    · simp
    · go_grown
  case pass0 =>
    rintro a W ⟨k, gs, cs, vl, f, q, L, y11, y12, y13, y14, y15, y16, y17, y18, y19, y20, y21, y22, y23, y24, y25, y26, y27, y28, y29, y30, y31, y32, y33, y34, y35, y36, y37, y38, y39, y40, y41, y42, y43, y44, y45, y46, y47, y48, y49, y50, y51, y52, hk, own, rt, rq, HF, g1, g2, c, l, B, rfl⟩
    have hs := B.size
    have hLN : L.length ≤ N := by
      rcases HF.out with h | ⟨h1, h2, _⟩
      · have := HLen.out _ _ _ h; omega
      · have := HLen.out _ _ _ h2; omega
    obtain ⟨P, hP⟩ : ∃ P, P = L.length := ⟨_, rfl⟩
    rw [← hP] at own hLN ⊢
    have HP := Lib.hid hP
    clear hP
    have l0 : w.heap.size < W.heap.size := by omega
    by_cases hkN : k = N
    · have hb : (((k : Nat) : Int) == (N : Int)) = true := by rw [hkN]; simp
      have HX : Hid (E = 0 ∧ V = L) := Lib.hid (by
        rcases HF.out with h | ⟨h1, _⟩
        · rw [hkN] at h; exact HE0.out _ _ h
        · omega)
      have ob := own.base_le
      clear hkN
      go_wp2_with fail
      refine (HWC.out _ (hS.below B)).mono ?_
      rintro e w2 ⟨rfl, hb2⟩
      go_wp2_with fail
      simp only [Exit.jump2]
      go_ret2
      exact ⟨_, by rw [HX.out.1]; rfl, by rw [HX.out.2]; exact (own.below hb2).rebase (by omega), B.trans (hb2.mono hs)⟩
    · have hb : (((k : Nat) : Int) == (N : Int)) = false := by rw [beq_eq_false_iff_ne]; omega
      have hkl : k < N := by omega
      have kI : (k : Int) + 1 ≤ 1024 := by omega
      clear hkN
      cases hfk : f k with
      | true =>
        have HX : Hid (fsTo S C (k + 1) = ⟨f, L, true⟩) := Lib.hid (by
          rcases HF.out with h | ⟨_, h2, _⟩
          · exact HHad.out _ _ _ h hfk
          · exact h2)
        have hlk : Calls Try.prog 121 #[.agg (setA f), .int .i64 (k : Int)] = Calls Try.prog 121 #[.agg (setA f), .int .i64 (k : Int)] := rfl
        have HLK := Lib.hid fun W' => lacks_any f k (by omega) W'
        rw [hfk] at HLK
        clear hfk hlk
        go_wp2_with fail
        refine (HWC.out _ (hS.below B)).mono ?_
        rintro e w2 ⟨rfl, hb2⟩
        have rt2 := rt.below hb2 (by omega)
        have rq2 := rq.below hb2 (by omega)
        have own2 := own.below hb2
        have c2 := kept_cell hb2 c l0
        have l2 := lt_of_below hb2 l
        have B2 := B.trans (hb2.mono hs)
        go_wp2_with (first | (refine wpList_ld16 rfl _ rfl rt2 rfl ?_) | fail)
        refine (HLK.out _).mono ?_
        rintro e w3 ⟨rfl, hb3⟩
        have rt3 := rt2.below hb3 (by omega)
        have rq3 := rq2.below hb3 (by omega)
        have own3 := own2.below hb3
        have c3 := kept_cell hb3 c2 (by omega)
        have l3 := lt_of_below hb3 l2
        have B3 := B2.trans (hb3.mono B2.size)
        go_wp2_with fail
        go_step3
        refine .inl ⟨rfl, ⟨k + 1, gs, cs, vl, f, q, L, _, _, _, _, _, _, _, _, _, _, _, _, _, _, _, _, _, _, _, _, _, _, _, _, _, _, _, _, _, _, _, _, _, _, _, _, _, _, _, _, _, _, by omega, by rw [← HP.out]; exact own3, rt3, rq3, Lib.hid (.inl HX.out), g1, g2, c3, l3, B3, by rw [← HP.out]; try rfl⟩, ?_⟩
        show (C.length + 2) * ((N - (intOf (.int .i64 ((k : Int) + 1))).toNat) + (N + 1 - P)) + (C.length + 1) < (C.length + 2) * ((N - (intOf (.int .i64 ((k : Int)))).toNat) + (N + 1 - P)) + (C.length + 1)
        exact msr_lt (by simp [intOf]; omega) (by omega)
      | false =>
        have HX : Hid (fsTo S C k = ⟨f, L, true⟩) := Lib.hid (by
          rcases HF.out with h | ⟨_, _, h3⟩
          · exact h
          · rw [hfk] at h3; cases h3)
        have HFK := Lib.hid hfk
        have HLK := Lib.hid fun W' => lacks_any f k (by omega) W'
        rw [hfk] at HLK
        have HSTk := Lib.hid (HST.out k hkl)
        clear hfk
        go_wp2_with fail
        refine (HWC.out _ (hS.below B)).mono ?_
        rintro e w2 ⟨rfl, hb2⟩
        have rt2 := rt.below hb2 (by omega)
        have rq2 := rq.below hb2 (by omega)
        have own2 := own.below hb2
        have c2 := kept_cell hb2 c l0
        have l2 := lt_of_below hb2 l
        have B2 := B.trans (hb2.mono hs)
        go_wp2_with (first | (refine wpList_ld16 rfl _ rfl rt2 rfl ?_) | fail)
        refine (HLK.out _).mono ?_
        rintro e w3 ⟨rfl, hb3⟩
        have rt3 := rt2.below hb3 (by omega)
        have rq3 := rq2.below hb3 (by omega)
        have own3 := own2.below hb3
        have c3 := kept_cell hb3 c2 (by omega)
        have l3 := lt_of_below hb3 l2
        have B3 := B2.trans (hb3.mono B2.size)
        go_wp2_with fail
        refine (HSTk.out _ (hS.below B3) (hC.below B3)).mono ?_
        rintro e w4 ⟨gl, rfl, ol, hb4⟩
        have rt4 := rt3.below hb4 (by omega)
        have rq4 := rq3.below hb4 (by omega)
        have own4 := own3.below hb4
        have c4 := kept_cell hb4 c3 (by omega)
        have l4 := lt_of_below hb4 l3
        have B4 := B3.trans (hb4.mono B3.size)
        have gb := ol.base_le
        have gs3 := own3.base_le
        go_wp2_with fail
        go_step3
        refine .inr ⟨rfl, ⟨k, gs, cs, gl, 0, ⟨gl, 0, none⟩, f, q, L, _, _, _, _, _, _, _, _, _, _, _, _, _, _, _, _, _, _, _, _, _, _, _, _, _, _, _, _, _, _, _, _, _, _, _, _, _, _, _, _, _, _, hkl, Nat.zero_le _, by rw [← HP.out]; exact own4, ol.rebase (by omega), rt4, rq4, Lib.hid ⟨HX.out, HFK.out, fun i hi => by omega⟩, g1, g2, fun _ => rfl, by omega, by omega, by omega, c4, l4, B4, by rw [← HP.out]; try rfl⟩, ?_⟩
        show (C.length + 2) * ((N - (intOf (.int .i64 ((k : Int)))).toNat) + (N + 1 - P)) + (C.length) < (C.length + 2) * ((N - (intOf (.int .i64 ((k : Int)))).toNat) + (N + 1 - P)) + (C.length + 1)
        exact Nat.add_lt_add_left (by omega) _
  case pass1 =>
    rintro a W ⟨k, gs, cs, gl, j, ad, f, q, L, y11, y12, y13, y14, y15, y16, y17, y18, y19, y20, y21, y22, y23, y24, y25, y26, y27, y28, y29, y30, y31, y32, y33, y34, y35, y36, y37, y38, y39, y40, y41, y42, y43, y44, y45, y46, y47, y48, y49, y50, y51, y52, hk, hj, own, ol, rt, rq, HF, g1, g2, had, g3, g4, g5, c, l, B, rfl⟩
    have hs := B.size
    have hLk : L.length ≤ k := HLen.out _ _ _ HF.out.1
    obtain ⟨P, hP⟩ : ∃ P, P = L.length := ⟨_, rfl⟩
    rw [← hP] at own hLk ⊢
    have HP := Lib.hid hP
    have hP9 : L.length ≤ 1073741824 := by omega
    clear hP
    have l0 : w.heap.size < W.heap.size := by omega
    by_cases hjC : j = C.length
    · have hb : (((C.length - j : Nat) : Int) == 0) = true := by rw [hjC]; simp
      have HX : Hid (E = 4 ∧ V = []) := Lib.hid (HE4.out (HNone.out k f L hk HF.out.1 HF.out.2.1 (fun i hi => HF.out.2.2 i (by omega))))
      clear hjC had
      go_wp2_with fail
      simp only [Exit.jump2]
      go_ret2
      exact ⟨_, by rw [HX.out.1]; rfl, by rw [HX.out.2]; exact own_nil _ _, B⟩
    · have hjl : j < C.length := by omega
      have hb : (((C.length - j : Nat) : Int) == 0) = false := by rw [beq_eq_false_iff_ne]; omega
      have hae := had hjl
      subst hae
      obtain ⟨v0, v9⟩ := HStb.out (k : Int) j hjl
      obtain ⟨v, hv⟩ : ∃ v : Nat, gi (stL S C (k : Int)) j = (v : Int) := ⟨(gi (stL S C (k : Int)) j).toNat, by omega⟩
      have hcv := ol.cell (k := j) (by rw [HStl.out]; exact hjl)
      rw [hv] at hcv v0 v9
      have HVv := Lib.hid hv
      have hshv := HSH.out (v : Int) ⟨v0, v9⟩
      have hmt := HShb.out (v : Int) f
      have hnew := HNew.out k j v f L hk HF.out.1 HF.out.2.1 hjl hv
      have hlenI : (0 : Int) < ((C.length - j : Nat) : Int) := by omega
      have HNw := Lib.hid hnew
      obtain ⟨Lv, hLv⟩ : ∃ Lv, Lv = shW S C (v : Int) := ⟨_, rfl⟩
      rw [← hLv] at hshv hmt HNw
      have HSHv := Lib.hid hshv
      have HLv := Lib.hid hLv
      have HMt := Lib.hid hmt
      have hne0 : ¬ C.length - j = 0 := by omega
      clear hjC had hv hshv hnew hLv hmt
      go_wp2_with fail
      refine wp_region_held_drew (S := fun w' => w'.cell? ⟨w.heap.size, 0, none⟩ = some (.slice ao S.length cap) ∧ w'.cell? ⟨gl, j, none⟩ = some (.int .i64 (v : Int))) (by kernel_rfl) ⟨c, hcv⟩ (fun hHeld => ?_)
      refine wpAnyH_take (i := 0) (v := .agg #[.slice ao S.length cap]) rfl (by kernel_rfl) (by kernel_rfl) (by kernel_rfl) (fun _ _ _ h => h) (Or.inl ⟨by rfl, ?_⟩) (by assumption) ?_
      · (intro W' hSw; obtain ⟨h1, _⟩ := hSw; (try dsimp only at h1); go_simp)
      (try simp only [Act.put, List.setIfInBounds_toArray, List.set_cons_zero, List.set_cons_succ])
      refine wpAnyH_take (i := 1) (v := ?_) rfl (by kernel_rfl) (by kernel_rfl) (by kernel_rfl) (fun _ _ _ h => h) (Or.inl ⟨by rfl, ?_⟩) (by assumption) ?_
      rotate_left
      · (intro w hSw; (try dsimp only at hSw); go_simp; try (with_reducible rfl))
      (try simp only [Act.put, List.setIfInBounds_toArray, List.set_cons_zero, List.set_cons_succ])
      refine wpAnyH_take (i := 2) (v := ?_) rfl (by kernel_rfl) (by kernel_rfl) (by kernel_rfl) (fun _ _ _ h => h) (Or.inl ⟨by rfl, ?_⟩) (by assumption) ?_
      rotate_left
      · (intro w hSw; (try dsimp only at hSw); go_simp; try (with_reducible rfl))
      (try simp only [Act.put, List.setIfInBounds_toArray, List.set_cons_zero, List.set_cons_succ])
      refine wpAnyH_take (i := 3) (v := .pointer (some ⟨gl, j, none⟩)) rfl (by kernel_rfl) (by kernel_rfl) (by kernel_rfl) (fun _ _ _ h => h) (Or.inl ⟨by rfl, ?_⟩) (by assumption) ?_
      · (intro W' hSw; go_simp)
      (try simp only [Act.put, List.setIfInBounds_toArray, List.set_cons_zero, List.set_cons_succ])
      refine wpAnyH_take (i := 4) (v := .int .i64 (v : Int)) rfl (by kernel_rfl) (by kernel_rfl) (by kernel_rfl) (fun _ _ _ h => h) (Or.inl ⟨by rfl, ?_⟩) (by assumption) ?_
      · (intro W' hSw; obtain ⟨_, h2⟩ := hSw; (try dsimp only at h2); go_simp)
      (try simp only [Act.put, List.setIfInBounds_toArray, List.set_cons_zero, List.set_cons_succ])
      refine wpAnyH_ready (rs := [5]) (by kernel_rfl) (by simp) ?_
      refine AllReadyH.cons rfl (fun K hK => ?_) AllReadyH.nil
      go_simp
      (go_at_call 83; refine (HSHv.out _ (hS.below B.drew) (hC.below B.drew)).mono ?_)
      rintro e w2 ⟨rfl, hb2'⟩
      have hb2 : Below W.heap.size W w2 := (Below.refl _ W).drew.trans hb2'
      have c2 := kept_cell hb2 c l0
      have lol := ol.base_le
      have lown := own.base_le
      have hcv2 := kept_cell hb2 hcv lol.2
      have rt2 := rt.below hb2 (by omega)
      have rq2 := rq.below hb2 (by omega)
      have own2 := own.below hb2
      have ol2 := ol.below hb2
      have l2 := lt_of_below hb2 l
      have B2 := B.trans (hb2.mono hs)
      refine hK.out _ _ ⟨c2, hcv2⟩ (fun hHeld => ?_)
      clear hK K
      (try simp only [Act.put, List.setIfInBounds_toArray, List.set_cons_zero, List.set_cons_succ])
      refine wpAnyH_ready (rs := [6]) (by kernel_rfl) (by simp) ?_
      refine AllReadyH.cons rfl (fun K hK => ?_) AllReadyH.nil
      refine wp_st16 (.tmp 9) (.tmp 37) rfl rq2 (inL Lv) (by kernel_rfl) (by rfl) ?_
      have hgq := grown_setRow (w := w2) (b := w.heap.size + 4) (setA (inL Lv))
      have rq3 := row_set (q := inL Lv) rq2
      have rt3 := rt2.kept hgq (by omega)
      have c3 := hgq.cell (a := ⟨w.heap.size, 0, none⟩) c2 (fun e => by have := Option.some.inj e; simp at this)
      have hcv3 := hgq.cell (a := ⟨gl, j, none⟩) hcv2 (fun e => by have := Option.some.inj e; simp at this; omega)
      have own3 : OwnInts (w2.setRow (w.heap.size + 4) (setA (inL Lv))) (w.heap.size + 1) (.slice (some ⟨gs, 0, none⟩) P cs) L := World.ownsRow.kept own2 hgq (.inr (show some gs ≠ some (w.heap.size + 4) from fun e => g2 (Option.some.inj e)))
      have ol3 : OwnInts (w2.setRow (w.heap.size + 4) (setA (inL Lv))) (w.heap.size + 1) (.slice (some ⟨gl, 0, none⟩) C.length C.length) (stL S C (k : Int)) := World.ownsRow.kept ol2 hgq (.inr (show some gl ≠ some (w.heap.size + 4) from fun e => g4 (Option.some.inj e)))
      have B3 : Below w.heap.size w (w2.setRow (w.heap.size + 4) (setA (inL Lv))) := B2.grown hgq B2.size (by intro z hz; cases hz; omega)
      have l3 : w.heap.size + 4 < (w2.setRow (w.heap.size + 4) (setA (inL Lv))).heap.size := by simp; omega
      obtain ⟨w3, hw3⟩ : ∃ w3, w3 = w2.setRow (w.heap.size + 4) (setA (inL Lv)) := ⟨_, rfl⟩
      rw [← hw3] at rq3 rt3 c3 hcv3 own3 ol3 B3 l3 ⊢
      clear hgq hw3
      refine hK.out _ _ ⟨c3, hcv3⟩ (fun hHeld => ?_)
      clear hK K
      (try simp only [Act.put, List.setIfInBounds_toArray, List.set_cons_zero, List.set_cons_succ])
      refine wpAnyH_done (by kernel_rfl) ?_ _
      have hme := Lib.hid fun W' => meets_any f (inL Lv) W'
      rw [HMt.out] at hme
      clear rt rq own ol c l B rt2 rq2 own2 ol2 c2 l2 B2 hb2 hb2' hcv hcv2
      cases hcl : clrB f Lv with
      | true =>
        rw [hcl] at hme
        have HX := Lib.hid (HNw.out hcl HF.out.2.2)
        have HOr : Hid (setA (fun u => f u || inL Lv u) = setA (orL f Lv)) := Lib.hid rfl
        have HWi := Lib.hid fun W' => with_any f (inL Lv) W'
        rw [HOr.out] at HWi
        clear hcl
        go_wp2_with (first | (refine wpList_ld16 rfl _ rfl rt3 rfl ?_) | (refine wpList_ld16 rfl _ rfl rq3 rfl ?_) | fail)
        refine (hme.out _).mono ?_
        rintro e w4 ⟨rfl, hb4⟩
        have rt4 := rt3.below hb4 (by omega)
        have rq4 := rq3.below hb4 (by omega)
        have own4 := own3.below hb4
        have c4 := kept_cell hb4 c3 (by omega)
        have hcv4 := kept_cell hb4 hcv3 (by have := ol3.base_le; omega)
        have l4 := lt_of_below hb4 l3
        have B4 := B3.trans (hb4.mono B3.size)
        clear rt3 rq3 own3 ol3 c3 hcv3 l3 B3 hb4
        go_wp2_with (first | (at_builtin; refine wpList_append_int_at rfl _ _ rfl (w.heap.size + 1) (.slice (some ⟨gs, 0, none⟩) P cs) L rfl (own4.alloc _) w4.heap.size (v : Int) rfl (cell_new _ _ _) hP9 (by rw [World.size_alloc]; omega) ?_; intro v' w5 hown' hgrow hblk; have hbT : Below w4.heap.size w4 (w4.alloc (.cells #[.int .i64 (v : Int)] 2)) := (Below.refl _ _).alloc (Nat.le_refl _) _; have rt5 := (rt4.below hbT (by omega)).kept (c := gs) hgrow (by omega); have rq5 := (rq4.below hbT (by omega)).kept (c := gs) hgrow (by omega)) | (refine wpList_ld16 rfl _ rfl rt5 rfl ?_) | (refine wpList_ld16 rfl _ rfl rq5 rfl ?_) | fail)
        obtain ⟨g', cp', hv', _⟩ := own_some hown' (by simp)
        subst hv'
        have c5 := hgrow.cell (a := ⟨w.heap.size, 0, none⟩) (kept_cell hbT c4 (by omega)) (fun e => by have := Option.some.inj e; simp at this; omega)
        have B5 := (B4.alloc B4.size (.cells #[.int .i64 (v : Int)] 2)).grown hgrow (by rw [World.size_alloc]; have := B4.size; omega) (fun z hz => by cases hz; (try dsimp only); omega)
        have l5 : w.heap.size + 4 < w5.heap.size := by have := hgrow.size; rw [World.size_alloc] at this; omega
        have hg1 : g' ≠ w.heap.size + 3 ∧ g' ≠ w.heap.size + 4 := by rcases hblk with h | h <;> simp [Value.ownBlock] at h <;> omega
        have hL3 : (L ++ [(v : Int)]).length = P + 1 := by rw [List.length_append, ← HP.out]; rfl
        have HL3 := Lib.hid hL3
        rw [hL3] at hown' ⊢
        clear hblk hgrow hbT rt4 rq4 own4 c4 B4 l4 hL3
        refine (HWi.out _).mono ?_
        rintro e w6 ⟨rfl, hb6⟩
        have rt6 := rt5.below hb6 (by omega)
        have rq6 := rq5.below hb6 (by omega)
        have own6 := hown'.below hb6
        have c6 := kept_cell hb6 c5 (by omega)
        have l6 := lt_of_below hb6 l5
        have B6 := B5.trans (hb6.mono B5.size)
        go_wp2_with (first | (refine wpList_st16 rfl _ _ rfl rt6 (orL f Lv) rfl rfl ?_) | fail)
        go_step3
        have hgt := grown_setRow (w := w6) (b := w.heap.size + 3) (setA (orL f Lv))
        have c7 := hgt.cell (a := ⟨w.heap.size, 0, none⟩) c6 (fun e => by have := Option.some.inj e; simp at this)
        have own7 : OwnInts (w6.setRow (w.heap.size + 3) (setA (orL f Lv))) (w.heap.size + 1) (.slice (some ⟨g', 0, none⟩) (P + 1) cp') (L ++ [(v : Int)]) := World.ownsRow.kept own6 hgt (.inr (show some g' ≠ some (w.heap.size + 3) from fun e => hg1.1 (Option.some.inj e)))
        refine .inl ⟨rfl, ⟨k, g', cp', _, orL f Lv, inL Lv, L ++ [(v : Int)], _, _, _, _, _, _, _, _, _, _, _, _, _, _, _, _, _, _, _, _, _, _, _, _, _, _, _, _, _, _, _, _, _, _, _, _, _, _, _, _, _, _, by omega, by rw [HL3.out]; exact own7, row_set rt6, rq6.kept hgt (by omega), Lib.hid (.inr ⟨hk, HX.out.1, HX.out.2⟩), hg1.1, hg1.2, c7, by simp; omega, B6.grown hgt B6.size (by intro z hz; cases hz; omega), by rw [HL3.out]; try rfl⟩, ?_⟩
        show (C.length + 2) * ((N - (intOf (.int .i64 (k : Int))).toNat) + (N + 1 - (P + 1))) + (C.length + 1) < (C.length + 2) * ((N - (intOf (.int .i64 (k : Int))).toNat) + (N + 1 - P)) + (C.length - j)
        exact msr_lt (by omega) (by omega)
      | false =>
        rw [hcl] at hme
        have HN2 : Hid (∀ i, i < j + 1 → clrB f (shW S C (gi (stL S C (k : Int)) i)) = false) := Lib.hid fun i hi => by
          by_cases e : i = j
          · rw [e, HVv.out, ← HLv.out, hcl]
          · exact HF.out.2.2 i (by omega)
        clear hcl
        go_wp2_with (first | (refine wpList_ld16 rfl _ rfl rt3 rfl ?_) | (refine wpList_ld16 rfl _ rfl rq3 rfl ?_) | fail)
        refine (hme.out _).mono ?_
        rintro e w4 ⟨rfl, hb4⟩
        have rt4 := rt3.below hb4 (by omega)
        have rq4 := rq3.below hb4 (by omega)
        have own4 := own3.below hb4
        have ol4 := ol3.below hb4
        have c4 := kept_cell hb4 c3 (by omega)
        have l4 := lt_of_below hb4 l3
        have B4 := B3.trans (hb4.mono B3.size)
        clear rt3 rq3 own3 ol3 c3 hcv3 l3 B3 hb4
        by_cases hj1 : C.length - j = 1
        · go_wp2_with fail
          go_step3
          refine .inr ⟨rfl, ⟨k, gs, cs, gl, j + 1, ⟨gl, j, none⟩, f, inL Lv, L, _, _, _, _, _, _, _, _, _, _, _, _, _, _, _, _, _, _, _, _, _, _, _, _, _, _, _, _, _, _, _, _, _, _, _, _, _, _, _, _, _, _, hk, by omega, by rw [← HP.out]; exact own4, ol4, rt4, rq4, Lib.hid ⟨HF.out.1, HF.out.2.1, HN2.out⟩, g1, g2, fun h => by omega, g3, g4, g5, c4, l4, B4, by rw [← HP.out, show C.length - (j + 1) = 0 by omega]; try rfl⟩, ?_⟩
          show (C.length + 2) * ((N - (intOf (.int .i64 (k : Int))).toNat) + (N + 1 - P)) + 0 < (C.length + 2) * ((N - (intOf (.int .i64 (k : Int))).toNat) + (N + 1 - P)) + (C.length - j)
          exact Nat.add_lt_add_left (by omega) _
        · go_wp2_with fail
          rw [show C.length - j - 1 = C.length - (j + 1) by omega]
          go_step3
          refine .inr ⟨rfl, ⟨k, gs, cs, gl, j + 1, ⟨gl, j + 1, none⟩, f, inL Lv, L, _, _, _, _, _, _, _, _, _, _, _, _, _, _, _, _, _, _, _, _, _, _, _, _, _, _, _, _, _, _, _, _, _, _, _, _, _, _, _, _, _, _, hk, by omega, by rw [← HP.out]; exact own4, ol4, rt4, rq4, Lib.hid ⟨HF.out.1, HF.out.2.1, HN2.out⟩, g1, g2, fun h => rfl, g3, g4, g5, c4, l4, B4, by rw [← HP.out]; try rfl⟩, ?_⟩
          show (C.length + 2) * ((N - (intOf (.int .i64 (k : Int))).toNat) + (N + 1 - P)) + (C.length - (j + 1)) < (C.length + 2) * ((N - (intOf (.int .i64 (k : Int))).toNat) + (N + 1 - P)) + (C.length - j)
          exact Nat.add_lt_add_left (by omega) _


end Go.Proofs.Ytgcmkjbahikpiaa
