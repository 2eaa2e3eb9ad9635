/-
  The contracts of the errors of slips: a list of slips, given in its cells. By an AI agent.
-/
import Derived.Test.YtcbkmmadejbbpaaSlA
namespace Go.Proofs.Ytcbkmmadejbbpaa
open Go.RowKit Cv
set_option linter.unusedVariables false
set_option linter.unusedSimpArgs false
set_option maxRecDepth 100000

/-- slips that lie in the cells of a block -/
structure SlipsAt (w : World) (b : Nat) (Ts : List (List Int)) : Prop where
  lt : b < w.heap.size
  at' : ∀ k, k < Ts.length → (Ts.getD k []).length ≤ 4294967296 ∧ ∃ a c, w.cell? ⟨b, k, none⟩ = some (.slice a (Ts.getD k []).length c) ∧ Ints w a (Ts.getD k [])
theorem SlipsAt.below {w w' : World} {b : Nat} {Ts : List (List Int)} (h : SlipsAt w b Ts) (hb : Below w.heap.size w w') : SlipsAt w' b Ts :=
  ⟨lt_of_below hb h.lt, fun k hk => by
    obtain ⟨h0, a, c, h1, h2⟩ := h.at' k hk
    exact ⟨h0, a, c, kept_cell hb h1 h.lt, h2.below hb⟩⟩
theorem slips_one {w : World} {a : Option Addr} {T : List Int} {c : Nat} (hn : T.length ≤ 4294967296) (h : Ints w a T) (t : TypeId) {n : Nat} (e : n = w.heap.size) : SlipsAt (w.alloc (.cells #[.slice a T.length c] t)) n [T] := by
  subst e
  refine ⟨lt_alloc _ _, fun k hk => ?_⟩
  obtain rfl : k = 0 := by simp at hk; exact hk
  exact ⟨hn, a, c, cell_new _ _ _, h.below ((Below.refl _ w).alloc (Nat.le_refl _) _)⟩
theorem slips_two {w : World} {a a' : Option Addr} {T U : List Int} {c c' : Nat} (hn : T.length ≤ 4294967296) (hn' : U.length ≤ 4294967296) (h : Ints w a T) (h' : Ints w a' U) (t : TypeId) {n : Nat} (e : n = w.heap.size) : SlipsAt (w.alloc (.cells #[.slice a T.length c, .slice a' U.length c'] t)) n [T, U] := by
  subst e
  have hb : Below w.heap.size w (w.alloc (.cells #[.slice a T.length c, .slice a' U.length c'] t)) := (Below.refl _ w).alloc (Nat.le_refl _) _
  refine ⟨lt_alloc _ _, fun k hk => ?_⟩
  rcases (show k = 0 ∨ k = 1 by simp at hk; omega) with rfl | rfl
  · exact ⟨hn, a, c, by simp, h.below hb⟩
  · exact ⟨hn', a', c', by simp, h'.below hb⟩

set_option maxHeartbeats 1000000 in
theorem slipsError_any (ao : Option Addr) (S : List Int) (cap : Nat) (hn : S.length ≤ 4294967296) (b : Nat) (Ts : List (List Int)) (K c : Nat) (hK : K = Ts.length) (hT : Ts.length ≤ 1000) (w : World) (hS : Ints w ao S) (hTs : SlipsAt w b Ts) :
    Calls Try.prog 90 #[.agg #[.slice ao S.length cap], .slice (some ⟨b, 0, none⟩) K c] w fun e w' => e = .returned (.int .i64 (eSls S Ts)) ∧ Below w.heap.size w w' := by
  subst hK
  have B0 : Below w.heap.size w (w.alloc (.cells #[.slice ao S.length cap] 26)) := by go_grown
  have c0 := cell_new w (.slice ao S.length cap) 26
  have l0 := lt_alloc w (.cells #[.slice ao S.length cap] 26)
  cases hsp : isSp S with
  | false =>
    have HE := Lib.hid (eSls_inv (Ts := Ts) hsp)
    go_enter Try.func90, Try.ntmps90
    go_wp2_with fail
    refine (IsSpace_any ao S cap _ hn (hS.below B0)).mono ?_
    rintro e w1 ⟨rfl, hb⟩
    go_wp2_with fail
    go_ret
    exact ⟨ret_int HE.out.symm, B0.trans (hb.mono B0.size)⟩
  | true =>
    have HSp := Lib.hid ((isSp_iff S).1 hsp)
    have HI := Lib.hid hsp
    go_enter Try.func90, Try.ntmps90
    go_wp2_with fail
    refine (IsSpace_any ao S cap _ hn (hS.below B0)).mono ?_
    rintro e w1 ⟨rfl, hb⟩
    have c1 := kept_cell hb c0 l0
    have l1 := lt_of_below hb l0
    have B1 : Below w.heap.size w w1 := B0.trans (hb.mono B0.size)
    clear hb c0 B0 l0
    go_wp2_with fail
    clear hsp
    go_loopw [12] (fun i wr => ∃ k : Nat, k ≤ Ts.length ∧ i = .int .i64 k ∧ Hid (∀ j, j < k → slB S (Ts.getD j []) = true) ∧ wr.cell? ⟨w.heap.size, 0, none⟩ = some (.slice ao S.length cap) ∧ w.heap.size < wr.heap.size ∧ Below w.heap.size w wr) (fun i _ => Ts.length - (intOf i).toNat)
    case atStart => exact ⟨0, Nat.zero_le _, rfl, Lib.hid fun j h => by omega, c1, l1, B1⟩
    case round =>
      clear c1 l1 B1
      obtain ⟨k, hk, rfl, HK, c, l, B⟩ := hrel
      by_cases hlt : k < Ts.length
      · obtain ⟨hl0, a, ca, hc, hI⟩ := (hTs.below B).at' k hlt
        obtain ⟨T, hTk⟩ : ∃ T, T = Ts.getD k [] := ⟨_, rfl⟩
        rw [← hTk] at hl0 hc hI
        have HTk := Lib.hid hTk
        clear hTk
        go_wp2_with fail
        refine (isSlip_any ao S cap HSp.out a T ca hl0 _ (hS.below B) hI).mono ?_
        rintro e w2 ⟨rfl, hb⟩
        replace c := kept_cell hb c l
        replace l := lt_of_below hb l
        replace B := B.trans (hb.mono B.size)
        clear hb hc
        cases hs : slB S T with
        | false =>
          have HQ := Lib.hid (eSls_bad (Ts := Ts) HI.out hlt (by rw [← HTk.out]; exact hs))
          go_wp2_with fail
          go_ret
          exact ⟨ret_int HQ.out.symm, B⟩
        | true =>
          have HQ : Hid (slB S (Ts.getD k []) = true) := Lib.hid (by rw [← HTk.out]; exact hs)
          go_wp2_with fail
          go_roundw
          case rel =>
            refine ⟨k + 1, by omega, by go_num, Lib.hid fun j hj => ?_, c, l, B⟩
            by_cases e : j = k
            · subst e; exact HQ.out
            · exact HK.out j (by omega)
          case measure => simp [intOf]; omega
      · have HQ := Lib.hid (eSls_ok (Ts := Ts) HI.out fun j hj => HK.out j (by omega))
        go_wp2_with fail
        go_ret
        exact ⟨ret_int HQ.out.symm, B⟩

set_option maxHeartbeats 1000000 in
theorem l07Code_any (ao : Option Addr) (S : List Int) (cap : Nat) (hn : S.length ≤ 4294967296) (b : Nat) (Ts : List (List Int)) (K c : Nat) (hK : K = Ts.length) (hT : Ts.length ≤ 1000) (w : World) (hS : Ints w ao S) (hTs : SlipsAt w b Ts) :
    Calls Try.prog 87 #[.agg #[.slice ao S.length cap], .slice (some ⟨b, 0, none⟩) K c] w fun e w' => e = .returned (.int .i64 (eSls S Ts)) ∧ Below w.heap.size w w' := by
  subst hK
  have B0 : Below w.heap.size w (w.alloc (.cells #[.slice ao S.length cap] 26)) := by go_grown
  have c0 := cell_new w (.slice ao S.length cap) 26
  have l0 := lt_alloc w (.cells #[.slice ao S.length cap] 26)
  cases hsp : isSp S with
  | false =>
    have HE := Lib.hid (eSls_inv (Ts := Ts) hsp)
    go_enter Try.func87, Try.ntmps87
    go_wp2_with fail
    refine (l01Is_any ao S cap _ hn (hS.below B0)).mono ?_
    rintro e w1 ⟨rfl, hb⟩
    go_wp2_with fail
    go_ret
    exact ⟨ret_int HE.out.symm, B0.trans (hb.mono B0.size)⟩
  | true =>
    have HSp := Lib.hid ((isSp_iff S).1 hsp)
    have HI := Lib.hid hsp
    go_enter Try.func87, Try.ntmps87
    go_wp2_with fail
    refine (l01Is_any ao S cap _ hn (hS.below B0)).mono ?_
    rintro e w1 ⟨rfl, hb⟩
    have c1 := kept_cell hb c0 l0
    have l1 := lt_of_below hb l0
    have B1 : Below w.heap.size w w1 := B0.trans (hb.mono B0.size)
    clear hb c0 B0 l0
    go_wp2_with fail
    clear hsp
    go_loopw [11] (fun i wr => ∃ k : Nat, k ≤ Ts.length ∧ i = .int .i64 k ∧ Hid (∀ j, j < k → slB S (Ts.getD j []) = true) ∧ wr.cell? ⟨w.heap.size, 0, none⟩ = some (.slice ao S.length cap) ∧ w.heap.size < wr.heap.size ∧ Below w.heap.size w wr) (fun i _ => Ts.length - (intOf i).toNat)
    case atStart => exact ⟨0, Nat.zero_le _, rfl, Lib.hid fun j h => by omega, c1, l1, B1⟩
    case round =>
      clear c1 l1 B1
      obtain ⟨k, hk, rfl, HK, c, l, B⟩ := hrel
      by_cases hlt : k < Ts.length
      · obtain ⟨hl0, a, ca, hc, hI⟩ := (hTs.below B).at' k hlt
        obtain ⟨T, hTk⟩ : ∃ T, T = Ts.getD k [] := ⟨_, rfl⟩
        rw [← hTk] at hl0 hc hI
        have HTk := Lib.hid hTk
        have hlb := hTs.lt
        have i1 : (0 : Int) ≤ (k : Int) := by omega
        have i2 : (k : Int) < (Ts.length : Int) := by omega
        clear hTk
        go_wp2_with fail
        go_region_held3 (fun w' => w'.cell? ⟨w.heap.size, 0, none⟩ = some (.slice ao S.length cap) ∧ w'.cell? ⟨b, k, none⟩ = some (.slice a T.length ca)) (first | exact ⟨c, hc⟩ | exact ⟨kept_cell hb c l, kept_cell hb hc (by have := B.size; omega)⟩) ((go_at_call 120; refine (l07Is_any ao S cap HSp.out a T ca hl0 _ (hS.below B.drew) (hI.below (Below.refl _ wr).drew)).mono ?_; rintro e w2 ⟨rfl, hb'⟩; have hb : Below wr.heap.size wr w2 := (Below.refl wr.heap.size wr).drew.trans hb'))
        replace c := kept_cell hb c l
        replace l := lt_of_below hb l
        replace B := B.trans (hb.mono B.size)
        clear hb hb' hc
        cases hs : slB S T with
        | false =>
          have HQ := Lib.hid (eSls_bad (Ts := Ts) HI.out hlt (by rw [← HTk.out]; exact hs))
          go_wp2_with fail
          go_ret
          exact ⟨ret_int HQ.out.symm, B⟩
        | true =>
          have HQ : Hid (slB S (Ts.getD k []) = true) := Lib.hid (by rw [← HTk.out]; exact hs)
          go_wp2_with fail
          go_roundw
          case rel =>
            refine ⟨k + 1, by omega, by go_num, Lib.hid fun j hj => ?_, c, l, B⟩
            by_cases e : j = k
            · subst e; exact HQ.out
            · exact HK.out j (by omega)
          case measure => simp [intOf]; omega
      · have HQ := Lib.hid (eSls_ok (Ts := Ts) HI.out fun j hj => HK.out j (by omega))
        go_wp2_with fail
        go_ret
        exact ⟨ret_int HQ.out.symm, B⟩

end Go.Proofs.Ytcbkmmadejbbpaa
