/-
  The contracts of distances and sums of words. By an AI agent.
-/
import Derived.Test.YtamebfbddoeflaaPkDigits
namespace Go.Proofs.Ytamebfbddoeflaa
open Go.RowKit Cv
set_option linter.unusedVariables false
set_option linter.unusedSimpArgs false
set_option maxRecDepth 100000

/-- digits laid into a part of a row of the call's own -/
theorem putDigits_any (ao : Option Addr) (S : List Int) (cap : Nat) (hl : S.length ≤ 8) (hbd : ∀ i, i < S.length → 2 ≤ gi S i ∧ gi S i ≤ 4) (x : Int) (hx : 0 ≤ x) (hx2 : x ≤ 9223372036854775807) (g off N base capU : Nat) (U : List Int) (hoff : off + S.length ≤ U.length) (hU : U.length ≤ 4294967296) (w : World) (hS : Ints w ao S)
    (hgb : ∀ b o, ao = some ⟨b, o, none⟩ → b ≠ g) (hown : OwnInts w base (.slice (some ⟨g, 0, none⟩) N capU) U) :
    Calls Try.prog 84 #[.agg #[.slice ao S.length cap], .int .i64 x, .slice (some ⟨g, off, none⟩) S.length S.length] w fun e w' => e = .returned (.tuple #[]) ∧
      (∃ U', U'.length = U.length ∧ (∀ j, j < S.length → gi U' (off + j) = dig S x j) ∧ (∀ i, i < off ∨ off + S.length ≤ i → gi U' i = gi U i) ∧ OwnInts w' base (.slice (some ⟨g, 0, none⟩) N capU) U') ∧ w.grownBy w' (some g) := by
  have HB := Lib.hid hbd
  have HG := Lib.hid hgb
  clear hbd hgb
  have HQ := Lib.hid (quo_all S x)
  have hgl := hown.base_le.2
  go_enter Try.func84, Try.ntmps84
  go_wp2
  go_loopw [1, 6] (fun q i wr => ∃ (m : Nat) (T : List Int), m ≤ S.length ∧ i = .int .i64 ((m : Int) - 1) ∧ q = .int .i64 (quo S x m) ∧ Hid (T.length = U.length ∧ (∀ j, m ≤ j → j < S.length → gi T (off + j) = dig S x j) ∧ (∀ i, i < off ∨ off + S.length ≤ i → gi T i = gi U i)) ∧ OwnInts wr base (.slice (some ⟨g, 0, none⟩) N capU) T ∧
      wr.cell? ⟨w.heap.size, 0, none⟩ = some (.slice ao S.length cap) ∧ w.grownBy wr (some g)) (fun _ i _ => (intOf i + 1).toNat)
  case atStart => exact ⟨S.length, U, Nat.le_refl _, rfl, by rw [HQ.out], Lib.hid ⟨rfl, fun j h h' => by omega, fun _ _ => rfl⟩, hown.alloc _, cell_new _ _ _, World.grownBy_alloc _ _ _⟩
  case round =>
    clear hown
    obtain ⟨m, T, hm, rfl, rfl, HT, hown, c, B⟩ := hrel
    by_cases hlt : 0 < m
    · obtain ⟨j, rfl⟩ : ∃ j, m = j + 1 := ⟨m - 1, by omega⟩
      obtain ⟨b, o, rfl, hbl, hc⟩ := hS.at (i := j) (by omega)
      have hbg := HG.out b o rfl
      have hck : wr.cell? ⟨b, o + j, none⟩ = some (.int .i64 (gi S j)) := B.cell (a := ⟨b, o + j, none⟩) (hc j (by omega)) (by simpa using hbg)
      obtain ⟨q1, q2⟩ := quo_bd S x HB.out hx (j + 1)
      obtain ⟨s1, s2⟩ := HB.out j (by omega)
      have hcell := hown.cell (k := off + j) (by rw [HT.out.1]; omega)
      have hfree := hown.free (off + j)
      have ei : ((j + 1 : Nat) : Int) - 1 = (j : Int) := by omega
      rw [ei]
      clear ei hc
      go_wp2
      go_roundw
      case rel =>
        refine ⟨j, _, by omega, rfl, ?_, Lib.hid ⟨?_, ?_, ?_⟩, hown.stored (off + j) (quo S x (j + 1) % gi S j), ?_, grown_setCell B _ _⟩
        · rw [quo_step S x j (by omega)]
        · rw [List.length_set]; exact HT.out.1
        · intro i h1 h2
          rw [gi_set _ _ _ _ (by rw [HT.out.1]; omega)]
          by_cases e : i = j
          · rw [if_pos (by omega), e, dig_quo S x j (by omega)]
          · rw [if_neg (by omega)]; exact HT.out.2.1 i (by omega) h2
        · intro i hi
          rw [gi_set _ _ _ _ (by rw [HT.out.1]; omega), if_neg (by omega)]
          exact HT.out.2.2 i hi
        · exact cell_set_other c (by simp; omega)
      case measure => simp [intOf]
    · have em : m = 0 := by omega
      subst em
      go_wp2
      go_end0
      exact ⟨rfl, ⟨T, HT.out.1, fun j hj => HT.out.2.1 j (by omega) hj, HT.out.2.2, hown⟩, B⟩

end Go.Proofs.Ytamebfbddoeflaa
