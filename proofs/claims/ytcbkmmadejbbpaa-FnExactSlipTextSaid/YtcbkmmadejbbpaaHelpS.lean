/-
  The contracts of the laws' helpers on slips: copied, compared, marked, held. By an AI agent.
-/
import Derived.Test.YtcbkmmadejbbpaaMark
namespace Go.Proofs.Ytcbkmmadejbbpaa
open Go.RowKit Cv
set_option linter.unusedVariables false
set_option linter.unusedSimpArgs false

theorem toSlip_any (ao : Option Addr) (S : List Int) (cap : Nat) (w : World) (hn : S.length ≤ 1048576) (hS : Ints w ao S) :
    Calls Try.prog 36 #[.slice ao S.length cap] w fun e w' =>
      ∃ b, e = .returned (.slice (some ⟨b, 0, none⟩) S.length S.length) ∧ OwnInts w' w.heap.size (.slice (some ⟨b, 0, none⟩) S.length S.length) S ∧ Below w.heap.size w w' := by
  obtain ⟨i0, hi, hz0, hz1, hz2⟩ := info_parts infoI64
  go_enter Try.func36, Try.ntmps36
  go_wp2_with (at_make; refine wpList_make_full _ rfl _ _ 51 rfl w.heap.size 2 i0 (.int .i64 0) 1 Try.underlying51 hi hz0 hz1 .i64 .i64 _ _ S.length rfl rfl rfl rfl (by rw [hz2]; omega) (by unfold maxLen; omega) (Nat.le_refl _) ?_; intro w1 hown hgrow)
  have hbel : Below w.heap.size w w1 := (Below.refl _ _).grown hgrow (Nat.le_refl _) (by intro k h; cases h)
  replace hown := own_made hown
  clear hgrow
  go_loopw [4] (fun i wr => ∃ (k : Nat) (T : List Int), k ≤ S.length ∧ T.length = S.length ∧ i = .int .i64 k ∧ OwnInts wr w.heap.size (.slice (some ⟨w.heap.size, 0, none⟩) S.length S.length) T ∧ (∀ j, j < k → gi T j = gi S j) ∧ Below w.heap.size w wr)
    (fun i _ => S.length - (intOf i).toNat)
  case atStart => exact ⟨0, _, Nat.zero_le _, by simp, rfl, hown, fun j h => by omega, hbel⟩
  case round =>
    obtain ⟨k, T, hk, hT, rfl, hown, hx, hbel⟩ := hrel
    have HT := Lib.hid hT
    have HX := Lib.hid hx
    by_cases hlt : k < S.length
    · obtain ⟨b, o, rfl, hb, hc⟩ := hS.at hlt
      have hck : wr.cell? ⟨b, o + k, none⟩ = some (.int .i64 (gi S k)) := (hbel.cell (p := ⟨b, o + k, none⟩) hb).trans (hc k hlt)
      have hcell := hown.cell (k := k) (by omega)
      have hfree := hown.free k
      clear hc hx hT
      go_wp2
      go_roundw
      case rel =>
        refine ⟨k + 1, _, by omega, ?_, by go_num, hown.stored k (gi S k), ?_, hbel.setCell (Nat.le_refl _) _⟩
        · rw [List.length_set]; exact HT.out
        · intro j hj
          rw [gi_set _ _ _ _ (by rw [HT.out]; exact hlt)]
          by_cases e : j = k
          · rw [if_pos e, e]
          · rw [if_neg e]; exact HX.out j (by omega)
      case measure => simp [intOf]; omega
    · clear hx hT
      go_wp2
      go_ret
      have e : T = S := ext_gi HT.out fun i hi => HX.out i (by rw [HT.out] at hi; omega)
      rw [e] at hown
      exact ⟨_, rfl, hown, hbel⟩

theorem eqSlip_same (a a' : Option Addr) (S : List Int) (c c' : Nat) (w : World) (hn : S.length ≤ 4294967296) (h : Ints w a S) (h' : Ints w a' S) :
    Calls Try.prog 39 #[.slice a S.length c, .slice a' S.length c'] w fun e w' => e = .returned (.bool true) ∧ Below w.heap.size w w' := by
  go_enter Try.func39, Try.ntmps39
  go_wp2
  go_loopw [5] (fun i wr => ∃ k : Nat, k ≤ S.length ∧ i = .int .i64 k ∧ Below w.heap.size w wr) (fun i _ => S.length - (intOf i).toNat)
  case atStart => exact ⟨0, Nat.zero_le _, rfl, Below.refl _ _⟩
  case round =>
    obtain ⟨k, hk, rfl, hbel⟩ := hrel
    by_cases hlt : k < S.length
    · obtain ⟨b, o, rfl, hb, hc⟩ := h.at hlt
      obtain ⟨b', o', rfl, hb', hc'⟩ := h'.at hlt
      have hck : wr.cell? ⟨b, o + k, none⟩ = some (.int .i64 (gi S k)) := (hbel.cell (p := ⟨b, o + k, none⟩) hb).trans (hc k hlt)
      have hck' : wr.cell? ⟨b', o' + k, none⟩ = some (.int .i64 (gi S k)) := (hbel.cell (p := ⟨b', o' + k, none⟩) hb').trans (hc' k hlt)
      clear hc hc'
      go_wp2
      go_quiet (fail)
      go_wp2
      go_roundw
      case rel => exact ⟨k + 1, by omega, by go_num, below_drewN hbel _⟩
      case measure => simp [intOf]; omega
    · go_wp2
      go_ret
      exact ⟨rfl, hbel⟩

theorem markSlip_any (g base cap n : Nat) (T : List Int) (k0 : Int) (w : World) (hn : n ≤ 4294967296) (h0 : 0 ≤ k0) (h1 : k0 ≤ 4294967296) (hT : T.length = n) (h : OwnInts w base (.slice (some ⟨g, 0, none⟩) n cap) T) :
    Calls Try.prog 40 #[.slice (some ⟨g, 0, none⟩) n cap, .int .i64 k0] w fun e w' => e = .returned (.int .i64 (k0 + n)) ∧
      OwnInts w' base (.slice (some ⟨g, 0, none⟩) n cap) (marks k0 n) ∧ w.grownBy w' (some g) := by
  have HN := Lib.hid hT
  clear hT
  go_enter Try.func40, Try.ntmps40
  go_wp2
  go_loopw [1, 5] (fun q i wr => ∃ (k : Nat) (U : List Int), k ≤ n ∧ U.length = n ∧ i = .int .i64 k ∧ q = .int .i64 (k0 + k) ∧ OwnInts wr base (.slice (some ⟨g, 0, none⟩) n cap) U ∧ (∀ j, j < k → gi U j = k0 + j) ∧ w.grownBy wr (some g))
    (fun _ i _ => n - (intOf i).toNat)
  case atStart => exact ⟨0, T, Nat.zero_le _, HN.out, rfl, by simp, h, fun j hj => by omega, World.grownBy.refl _ _⟩
  case round =>
    obtain ⟨k, U, hk, hU, rfl, rfl, hown, hx, hbel⟩ := hrel
    have HU := Lib.hid hU
    have HX := Lib.hid hx
    by_cases hlt : k < n
    · have hcell := hown.cell (k := k) (by omega)
      have hfree := hown.free k
      clear hx hU
      go_wp2
      go_roundw
      case rel =>
        refine ⟨k + 1, _, by omega, ?_, by go_num, by go_num, hown.stored k (k0 + k), ?_, ?_⟩
        · rw [List.length_set]; exact HU.out
        · intro j hj
          rw [gi_set _ _ _ _ (by rw [HU.out]; exact hlt)]
          by_cases e : j = k
          · rw [if_pos e, e]
          · rw [if_neg e]; exact HX.out j (by omega)
        · exact grown_setCell hbel k _
      case measure => simp [intOf]; omega
    · clear hx hU
      go_wp2
      go_ret
      have ek : k = n := by omega
      clear hlt hk
      subst ek
      have e : U = marks k0 k := ext_gi (by rw [HU.out, marks_length]) fun i hi => by rw [HU.out] at hi; rw [HX.out i hi, gi_marks _ _ _ hi]
      rw [e] at hown
      exact ⟨rfl, hown, hbel⟩

theorem markSlip_nil (cap : Nat) (ao : Option Addr) (k0 : Int) (w : World) (h0 : 0 ≤ k0) (h1 : k0 ≤ 4294967296) :
    Calls Try.prog 40 #[.slice ao 0 cap, .int .i64 k0] w fun e w' => e = .returned (.int .i64 k0) ∧ w = w' := by
  go_enter Try.func40, Try.ntmps40
  go_wp2
  go_rounds 1
  go_ret
  exact ⟨rfl, rfl⟩

theorem markSlip_own (ao : Option Addr) (base cap n : Nat) (T : List Int) (k0 : Int) (w : World) (hn : n ≤ 4294967296) (h0 : 0 ≤ k0) (h1 : k0 ≤ 4294967296) (hT : T.length = n) (h : OwnInts w base (.slice ao n cap) T) :
    Calls Try.prog 40 #[.slice ao n cap, .int .i64 k0] w fun e w' => e = .returned (.int .i64 (k0 + n)) ∧
      OwnInts w' base (.slice ao n cap) (marks k0 n) ∧ w.grownBy w' (Value.slice ao n cap).ownBlock := by
  rcases h.2 with ⟨hv, hz⟩ | ⟨g, cap', cur, hv, _⟩
  · simp only [Value.slice.injEq] at hv
    obtain ⟨rfl, rfl, rfl⟩ := hv
    refine (markSlip_nil 0 none k0 w h0 h1).mono ?_
    rintro e w' ⟨rfl, rfl⟩
    exact ⟨by simp, by show OwnInts w base (.slice none 0 0) (marks k0 0); simp only [marks, List.range_zero, List.map_nil]; exact World.ownsRow_nil _ _ _ _, World.grownBy.refl _ _⟩
  · simp only [Value.slice.injEq] at hv
    obtain ⟨rfl, _, _⟩ := hv
    exact markSlip_any g base cap n T k0 w hn h0 h1 hT h

theorem heldSlip_any (ao : Option Addr) (cap n : Nat) (k0 : Int) (w : World) (hn : n ≤ 4294967296) (h0 : 0 ≤ k0) (h1 : k0 ≤ 4294967296) (h : Ints w ao (marks k0 n)) :
    Calls Try.prog 94 #[.slice ao n cap, .int .i64 k0] w fun e w' => e = .returned (.int .i64 (k0 + n)) ∧ w = w' := by
  go_enter Try.func94, Try.ntmps94
  go_wp2
  go_loop [1, 5] (fun q i => ∃ k : Nat, k ≤ n ∧ i = .int .i64 k ∧ q = .int .i64 (k0 + k)) (fun _ i => n - (intOf i).toNat)
  case atStart => exact ⟨0, Nat.zero_le _, rfl, by simp⟩
  case round =>
    obtain ⟨k, hk, rfl, rfl⟩ := hrel
    by_cases hlt : k < n
    · obtain ⟨b, o, rfl, hb, hc⟩ := h.at (i := k) (by rw [marks_length]; exact hlt)
      have hck := hc k (by rw [marks_length]; exact hlt)
      rw [gi_marks _ _ _ hlt] at hck
      clear hc
      go_wp2
      go_round
      case rel => exact ⟨k + 1, by omega, by go_num, by go_num⟩
      case measure => simp [intOf]; omega
    · go_wp2
      go_ret
      have ek : k = n := by omega
      subst ek
      exact ⟨rfl, rfl⟩

end Go.Proofs.Ytcbkmmadejbbpaa
