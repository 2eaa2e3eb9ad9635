/-
  Texts put together: Drw3, Dist, Fam. By an AI agent.
-/
import Derived.Test.YtcnnijeokefboaaGreatDoorPkDrw2
import Derived.Test.YtcnnijeokefboaaGreatDoorPk14
import Derived.Test.YtcnnijeokefboaaGreatDoorMem
namespace Go.Proofs.YtcnnijeokefboaaGreatDoor
open Go.RowKit Cv
set_option linter.unusedVariables false
set_option linter.unusedSimpArgs false
set_option maxRecDepth 100000

theorem below_g {A b : Nat} {w w1 w2 : World} (B : Below A w w1) (hA : A ≤ w1.heap.size) (hg : w1.grownBy w2 (some b)) (hb : A ≤ b) : Below A w w2 := B.grown hg hA (fun k hk => by cases hk; exact hb)
theorem own_blk {base : Nat} {w : World} {a : Option Addr} {n cap : Nat} {S : List Int} (h : OwnInts w base (.slice a n cap) S) : ∀ g o, a = some ⟨g, o, none⟩ → g < w.heap.size := fun g o e => by
  subst e
  rcases h.2 with ⟨hv, _⟩ | ⟨g', _, _, hv, _, hh, _⟩
  · simp at hv
  · simp only [Value.slice.injEq, Option.some.injEq, Addr.mk.injEq] at hv
    have := (Array.getElem?_eq_some_iff.1 hh).1
    omega
theorem IntsX.grownO {b g' : Nat} {w w' : World} {ao : Option Addr} {S : List Int} (h : IntsX b w ao S) (hg : w.grownBy w' (some g')) (hne : ∀ g o, ao = some ⟨g, o, none⟩ → g ≠ g') : IntsX b w' ao S := by
  obtain ⟨h1, h2⟩ := h
  refine ⟨?_, h2⟩
  rcases h1 with h | ⟨g, o, rfl, hlt, hc⟩
  · exact .inl h
  · exact .inr ⟨g, o, rfl, Nat.lt_of_lt_of_le hlt hg.size, fun i hi => grown_cell hg (hc i hi) (hne g o rfl)⟩
theorem results_cell_tmp2w {fn : Func} {p u1 u2 : Tmp} {ty : TypeId} (h : fn.results = #[.cell p ty, .tmp u1, .tmp u2]) (tmps : Array Value) (P : Program) (w : World) :
    (results fn tmps).run P w =
      ((asAddr (tmps.getD p undef)).run P w).andThen fun a w₁ => ((loadVar ty a).run P w₁).andThen fun v w₂ => .ok (.tuple #[v, tmps.getD u1 undef, tmps.getD u2 undef]) w₂ := by
  simp only [results, h]
  simp [Sem.run_bind, Result.andThen]
theorem results_cell_tmp3w {fn : Func} {p u1 u2 u3 : Tmp} {ty : TypeId} (h : fn.results = #[.cell p ty, .tmp u1, .tmp u2, .tmp u3]) (tmps : Array Value) (P : Program) (w : World) :
    (results fn tmps).run P w =
      ((asAddr (tmps.getD p undef)).run P w).andThen fun a w₁ => ((loadVar ty a).run P w₁).andThen fun v w₂ => .ok (.tuple #[v, tmps.getD u1 undef, tmps.getD u2 undef, tmps.getD u3 undef]) w₂ := by
  simp only [results, h]
  simp [Sem.run_bind, Result.andThen]

theorem ints_setA {w : World} {ax : Option Addr} {T : List Int} {A : Nat} {u : Value} (h : Ints w ax T) (hA : ∀ g o, ax = some ⟨g, o, none⟩ → g ≠ A) : Ints (w.setCell ⟨A, 0, none⟩ u) ax T := by
  rcases h with h | ⟨g, o, e, hl, hcc⟩
  · exact .inl h
  · exact .inr ⟨g, o, e, by simpa using hl, fun i hi => cell_set_other (hcc i hi) (hA g o e)⟩

end Go.Proofs.YtcnnijeokefboaaGreatDoor

namespace Go.Proofs.YtcnnijeokefboaaGreatDoor
open Go.RowKit Cv
set_option linter.unusedVariables false
set_option linter.unusedSimpArgs false
set_option maxRecDepth 100000

set_option maxHeartbeats 1000000 in
theorem l01Distance_any (ao : Option Addr) (S : List Int) (cap : Nat) (hl : S.length ≤ 8) (hbd : ∀ i, i < S.length → 2 ≤ gi S i ∧ gi S i ≤ 4) (u x : Int) (hu : 0 ≤ u) (hu2 : u ≤ 9223372036854775807) (hx : 0 ≤ x) (hx2 : x ≤ 9223372036854775807) (w : World) (hS : Ints w ao S) :
    Calls Tryz.prog 91 #[.agg #[.slice ao S.length cap], .int .i64 u, .int .i64 x] w fun e w' => e = .returned (.int .i64 (dist S u x)) ∧ Below w.heap.size w w' := by
  have HB := Lib.hid hbd
  clear hbd
  have HQ := Lib.hid (quo_all S u)
  have HX := Lib.hid (quo_all S x)
  go_enter Tryz.func91, Tryz.ntmps91
  go_wp2
  go_loopw [1, 2, 7, 8] (fun p q t i wr => ∃ m : Nat, m ≤ S.length ∧ i = .int .i64 ((m : Int) - 1) ∧ p = .int .i64 (quo S u m) ∧ q = .int .i64 (quo S x m) ∧ t = .int .i64 (distFrom S u x m) ∧ wr.cell? ⟨w.heap.size, 0, none⟩ = some (.slice ao S.length cap) ∧ Below w.heap.size w wr) (fun _ _ _ i _ => (intOf i + 1).toNat)
  case atStart => exact ⟨S.length, Nat.le_refl _, rfl, by rw [HQ.out], by rw [HX.out], by rw [distFrom_all], cell_new _ _ _, by go_grown⟩
  case round =>
    obtain ⟨m, hm, rfl, rfl, rfl, rfl, c, B⟩ := hrel
    by_cases hlt : 0 < m
    · obtain ⟨j, rfl⟩ : ∃ j, m = j + 1 := ⟨m - 1, by omega⟩
      obtain ⟨b, o, rfl, hbl, hc⟩ := hS.at (i := j) (by omega)
      have hck : wr.cell? ⟨b, o + j, none⟩ = some (.int .i64 (gi S j)) := kept_cell B (hc j (by omega)) hbl
      have hck2 : ∀ n, (wr.drewN n).cell? ⟨b, o + j, none⟩ = some (.int .i64 (gi S j)) := fun n => kept_cell (below_drewN B n) (hc j (by omega)) hbl
      obtain ⟨q1, q2⟩ := quo_bd S u HB.out hu (j + 1)
      obtain ⟨q3, q4⟩ := quo_bd S x HB.out hx (j + 1)
      obtain ⟨s1, s2⟩ := HB.out j (by omega)
      obtain ⟨t1, t2⟩ := distFrom_bd S u x (j + 1)
      have ei : ((j + 1 : Nat) : Int) - 1 = (j : Int) := by omega
      rw [ei]
      have HD := Lib.hid (distFrom_step S u x j (by omega))
      have HU := Lib.hid (quo_step S u j (by omega))
      have HV := Lib.hid (quo_step S x j (by omega))
      have D1 := Lib.hid (dig_quo S u j (by omega))
      have D2 := Lib.hid (dig_quo S x j (by omega))
      clear ei hc
      have E1 : (quo S u (j + 1)).tmod (gi S j) = quo S u (j + 1) % gi S j := Int.tmod_eq_emod_of_nonneg q1
      have E2 : (quo S x (j + 1)).tmod (gi S j) = quo S x (j + 1) % gi S j := Int.tmod_eq_emod_of_nonneg q3
      have hz : (gi S j == 0) = false := by simp; omega
      have hz2 : ¬ gi S j = 0 := by omega
      by_cases hq : quo S u (j + 1) % gi S j = quo S x (j + 1) % gi S j
      · have hqb : (quo S u (j + 1) % gi S j == quo S x (j + 1) % gi S j) = true := by simp [hq]
        have hqn : (quo S u (j + 1) % gi S j != quo S x (j + 1) % gi S j) = false := by simp [hq]
        have HE : Hid (distFrom S u x j = distFrom S u x (j + 1)) := Lib.hid (by rw [HD.out, D1.out, D2.out, hq]; simp)
        clear hq
        go_wp2
        go_quiet (fail)
        clear E1 E2 hqb
        go_wp2
        go_roundw
        case rel => exact ⟨j, by omega, rfl, by rw [HU.out], by rw [HV.out], by rw [HE.out], c, below_drewN B _⟩
        case measure => simp [intOf]
      · have hqb : (quo S u (j + 1) % gi S j == quo S x (j + 1) % gi S j) = false := by simpa using hq
        have hqn : (quo S u (j + 1) % gi S j != quo S x (j + 1) % gi S j) = true := by simpa using hq
        have HE : Hid (distFrom S u x j = distFrom S u x (j + 1) + 1) := Lib.hid (by rw [HD.out, D1.out, D2.out]; simp [hq])
        clear hq
        go_wp2
        go_quiet (fail)
        clear E1 E2 hqb
        go_wp2
        go_roundw
        case rel => exact ⟨j, by omega, rfl, by rw [HU.out], by rw [HV.out], by rw [HE.out], c, below_drewN B _⟩
        case measure => simp [intOf]
    · have em : m = 0 := by omega
      subst em
      go_wp2
      go_ret
      exact ⟨by rw [← distFrom_zero S u x]; rfl, B⟩

/-- digits laid into a part of a row of the call's own -/
theorem putDigits_any (ao : Option Addr) (S : List Int) (cap : Nat) (hl : S.length ≤ 8) (hbd : ∀ i, i < S.length → 2 ≤ gi S i ∧ gi S i ≤ 4) (x : Int) (hx : 0 ≤ x) (hx2 : x ≤ 9223372036854775807) (g off N base capU : Nat) (U : List Int) (hoff : off + S.length ≤ U.length) (hU : U.length ≤ 4294967296) (w : World) (hS : Ints w ao S)
    (hgb : ∀ b o, ao = some ⟨b, o, none⟩ → b ≠ g) (hown : OwnInts w base (.slice (some ⟨g, 0, none⟩) N capU) U) :
    Calls Tryz.prog 147 #[.agg #[.slice ao S.length cap], .int .i64 x, .slice (some ⟨g, off, none⟩) S.length S.length] w fun e w' => e = .returned (.tuple #[]) ∧
      (∃ U', U'.length = U.length ∧ (∀ j, j < S.length → gi U' (off + j) = dig S x j) ∧ (∀ i, i < off ∨ off + S.length ≤ i → gi U' i = gi U i) ∧ OwnInts w' base (.slice (some ⟨g, 0, none⟩) N capU) U') ∧ w.grownBy w' (some g) := by
  have HB := Lib.hid hbd
  have HG := Lib.hid hgb
  clear hbd hgb
  have HQ := Lib.hid (quo_all S x)
  have hgl := hown.base_le.2
  go_enter Tryz.func147, Tryz.ntmps147
  go_wp2
  go_loopw [1, 6] (fun q i wr => ∃ (m : Nat) (T : List Int), m ≤ S.length ∧ i = .int .i64 ((m : Int) - 1) ∧ q = .int .i64 (quo S x m) ∧ Hid (T.length = U.length ∧ (∀ j, m ≤ j → j < S.length → gi T (off + j) = dig S x j) ∧ (∀ i, i < off ∨ off + S.length ≤ i → gi T i = gi U i)) ∧ OwnInts wr base (.slice (some ⟨g, 0, none⟩) N capU) T ∧
      wr.cell? ⟨w.heap.size, 0, none⟩ = some (.slice ao S.length cap) ∧ w.grownBy wr (some g)) (fun _ i _ => (intOf i + 1).toNat)
  case atStart => exact ⟨S.length, U, Nat.le_refl _, rfl, by rw [HQ.out], Lib.hid ⟨rfl, fun j h h' => by omega, fun _ _ => rfl⟩, hown.alloc _, cell_new _ _ _, World.grownBy_alloc _ _ _⟩
  case round =>
    clear hown
    obtain ⟨m, T, hm, rfl, rfl, HT, hown, c, B⟩ := hrel
    by_cases hlt : 0 < m
    · obtain ⟨j, rfl⟩ : ∃ j, m = j + 1 := ⟨m - 1, by omega⟩
      obtain ⟨b, o, rfl, hbl, hc⟩ := hS.at (i := j) (by omega)
      have hbg := HG.out b o rfl
      have hck : wr.cell? ⟨b, o + j, none⟩ = some (.int .i64 (gi S j)) := B.cell (a := ⟨b, o + j, none⟩) (hc j (by omega)) (by simpa using hbg)
      obtain ⟨q1, q2⟩ := quo_bd S x HB.out hx (j + 1)
      obtain ⟨s1, s2⟩ := HB.out j (by omega)
      have hcell := hown.cell (k := off + j) (by rw [HT.out.1]; omega)
      have hfree := hown.free (off + j)
      have ei : ((j + 1 : Nat) : Int) - 1 = (j : Int) := by omega
      rw [ei]
      clear ei hc
      go_wp2
      go_roundw
      case rel =>
        refine ⟨j, _, by omega, rfl, ?_, Lib.hid ⟨?_, ?_, ?_⟩, hown.stored (off + j) (quo S x (j + 1) % gi S j), ?_, grown_setCell B _ _⟩
        · rw [quo_step S x j (by omega)]
        · rw [List.length_set]; exact HT.out.1
        · intro i h1 h2
          rw [gi_set _ _ _ _ (by rw [HT.out.1]; omega)]
          by_cases e : i = j
          · rw [if_pos (by omega), e, dig_quo S x j (by omega)]
          · rw [if_neg (by omega)]; exact HT.out.2.1 i (by omega) h2
        · intro i hi
          rw [gi_set _ _ _ _ (by rw [HT.out.1]; omega), if_neg (by omega)]
          exact HT.out.2.2 i hi
        · exact cell_set_other c (by simp; omega)
      case measure => simp [intOf]
    · have em : m = 0 := by omega
      subst em
      go_wp2
      go_end0
      exact ⟨rfl, ⟨T, HT.out.1, fun j hj => HT.out.2.1 j (by omega) hj, HT.out.2.2, hown⟩, B⟩

end Go.Proofs.YtcnnijeokefboaaGreatDoor

namespace Go.Proofs.YtcnnijeokefboaaGreatDoor
open Go.RowKit Cv
set_option linter.unusedVariables false

/-- a world in which all that was there in w is as it was -/
def Fam (w : World) : Type := { w' : World // Below w.heap.size w w' }
def fam (w : World) (x : Fam w) : World := x.1
instance famNonempty (w : World) : Nonempty (Fam w) := ⟨⟨w, Below.refl _ _⟩⟩
theorem fam_below {w : World} (x : Fam w) : Below w.heap.size w (fam w x) := x.2
theorem fam_cell {w : World} {b o : Nat} {v : Value} (h : w.cell? ⟨b, o, none⟩ = some v) : ∀ x : Fam w, (fam w x).cell? ⟨b, o, none⟩ = some v :=
  fun x => kept_cell (fam_below x) h (World.block_lt_of_cell? w _ h)
theorem fam_calls {P : Program} {f : FuncId} {args : Array Value} {w : World} {x : Fam w} {v : Value}
    (h : Calls P f args (fam w x) fun e w' => e = .returned v ∧ Below (fam w x).heap.size (fam w x) w') : Calls P f args (fam w x) fun e w'' => e = .returned v ∧ ∃ y : Fam w, w'' = fam w y :=
  h.mono fun _ w' ⟨he, hb⟩ => ⟨he, ⟨w', (fam_below x).trans (hb.mono (fam_below x).size)⟩, rfl⟩
theorem fam_same {P : Program} {f : FuncId} {args : Array Value} {w : World} {x : Fam w} {v : Value}
    (h : Calls P f args (fam w x) fun e w' => e = .returned v ∧ fam w x = w') : Calls P f args (fam w x) fun e w'' => e = .returned v ∧ ∃ y : Fam w, w'' = fam w y :=
  h.mono fun _ w' ⟨he, hb⟩ => ⟨he, x, hb.symm⟩
theorem wp_region_fam {P : Program} {id : Nat} {Q : Exit → Act → World → Prop} {a : Act} {w : World} {l : List Oper} (hm : P.follows .mixedOrders = true) (hB : Region.lexB .any l.toArray = true)
    (h : wpQuiet P l.toArray (fun w' => ∃ x : Fam w, w' = fam w x) (fun a' => ∀ w', (∃ x : Fam w, w' = fam w x) → Q .normal a' w') l a) : (Code.region id l.toArray true).wp P Q a w :=
  wp_region_quiet (C := fun w' => ∃ x : Fam w, w' = fam w x) hm hB ⟨⟨w.drew, (Below.refl _ _).drew⟩, rfl⟩ (by simpa using h)

end Go.Proofs.YtcnnijeokefboaaGreatDoor
