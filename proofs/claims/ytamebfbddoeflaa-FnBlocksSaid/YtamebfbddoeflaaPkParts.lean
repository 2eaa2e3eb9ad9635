/-
  The contract of the digits of some words, as parts of one list. By an AI agent.
-/
import Derived.Test.YtamebfbddoeflaaPkDist
namespace Go.Proofs.Ytamebfbddoeflaa
open Go.RowKit Cv
set_option linter.unusedVariables false
set_option linter.unusedSimpArgs false

theorem infoSl : (Try.prog.info? 24).map (fun i => (i.zero, i.size, i.bytes)) = some (some (.slice none 0 0), 1, 24) := by kernel_rfl

/-- the parts of a list: their rows, and the digits of the words in them -/
structure PartsAt (w : World) (base P g : Nat) (S T U : List Int) : Prop where
  len : U.length = T.length * S.length
  dg : ∀ k j, k < T.length → j < S.length → gi U (k * S.length + j) = dig S (gi T k) j
  own : OwnInts w base (.slice (some ⟨g, 0, none⟩) U.length U.length) U
  row : ∀ k, k < T.length → w.cell? ⟨P, k, none⟩ = some (.slice (some ⟨g, k * S.length, none⟩) S.length S.length)
  bp : base ≤ P
  pl : P < w.heap.size
  ne : P ≠ g

set_option maxHeartbeats 2000000 in
theorem digitParts_any (ao : Option Addr) (S : List Int) (cap : Nat) (hl0 : 1 ≤ S.length) (hl : S.length ≤ 8) (hbd : ∀ i, i < S.length → 2 ≤ gi S i ∧ gi S i ≤ 4) (at' : Option Addr) (T : List Int) (capt : Nat) (hnt : T.length ≤ 16777216) (hT0 : ∀ i, i < T.length → 0 ≤ gi T i ∧ gi T i ≤ 9223372036854775807) (w : World) (hS : Ints w ao S) (hT : Ints w at' T) :
    Calls Try.prog 77 #[.agg #[.slice ao S.length cap], .slice at' T.length capt] w fun e w' =>
      ∃ P g U, e = .returned (.slice (some ⟨P, 0, none⟩) T.length T.length) ∧ PartsAt w' w.heap.size P g S T U ∧ Below w.heap.size w w' := by
  obtain ⟨i0, hi, hz0, hz1, hz2⟩ := info_parts infoI64
  obtain ⟨i1, hi', hz0', hz1', hz2'⟩ := info_parts infoSl
  have HB := Lib.hid hbd
  have HT0 := Lib.hid hT0
  clear hbd hT0
  obtain ⟨bs, os, rfl, hbs, _⟩ := hS.at hl0
  obtain ⟨n, hn⟩ : ∃ n, n = S.length := ⟨_, rfl⟩
  obtain ⟨K, hK⟩ : ∃ K, K = T.length := ⟨_, rfl⟩
  have m1 : n * K ≤ 8 * K := Nat.mul_le_mul_right _ (by omega)
  rw [hn, hK] at m1
  clear hn hK
  have m2 : (0 : Int) ≤ (S.length : Int) * (T.length : Int) := Int.mul_nonneg (by omega) (by omega)
  have m3 : (S.length : Int) * (T.length : Int) ≤ 8 * (T.length : Int) := by exact_mod_cast m1
  go_enter Try.func77, Try.ntmps77
  go_wp2_with (first | (at_make; refine wpList_make_full _ rfl _ _ 24 rfl w.heap.size 2 i0 (.int .i64 0) 1 Try.underlying24 hi hz0 hz1 .i64 .i64 ((S.length : Int) * (T.length : Int)) ((S.length : Int) * (T.length : Int)) (S.length * T.length) rfl rfl (by simp) (by simp) (by rw [hz2]; omega) (by unfold maxLen; omega) (by simp) ?_; intro w1 hown hgrow; have c1 := kept_cell (below_grown0 hgrow) (cell_new w (.slice (some ⟨bs, os, none⟩) S.length cap) 26) (lt_alloc _ _)) | (at_make; refine wpList_make_full _ rfl _ _ 96 rfl w.heap.size 24 i1 (.slice none 0 0) 1 Try.underlying96 hi' hz0' hz1' .i64 .i64 _ _ T.length rfl rfl rfl rfl (by rw [hz2']; omega) (by unfold maxLen; omega) (by have := (own_made hown).base_le; omega) ?_; intro w2 hown' hgrow'))
  have B1 : Below w.heap.size w w1 := Below.trans (by go_grown) ((below_grown0 hgrow).mono (by simp))
  have hb12 := below_grown0 hgrow'
  have B2 : Below w.heap.size w w2 := B1.trans (hb12.mono B1.size)
  replace hown := (own_made hown)
  have hg1 := hown.base_le
  replace c1 := kept_cell hb12 c1 (by omega)
  replace hown := hown.below hb12
  rw [show (w.alloc (.cells #[.slice (some ⟨bs, os, none⟩) S.length cap] 26)).heap.size = w.heap.size + 1 from by simp] at hown hg1
  have hlt2 : w1.heap.size < w2.heap.size := by
    rcases hown'.2 with ⟨h, _⟩ | ⟨g', cap', cur, h', _, hh, _⟩
    · simp at h
    · simp only [Value.slice.injEq, Option.some.injEq, Addr.mk.injEq, and_true, true_and] at h'
      rw [h'.1]; exact (Array.getElem?_eq_some_iff.1 hh).1
  obtain ⟨V0, hV0⟩ : ∃ V0, V0 = (madeCells (Value.slice none 0 0).cells (T.length * 1)).toList := ⟨_, rfl⟩
  rw [← hV0] at hown'
  have hVl : V0.length = T.length := by simpa using hown'.1
  clear hgrow hgrow' hb12 hV0
  go_loopw [23] (fun i wr => ∃ (k : Nat) (U : List Int) (V : List Value), k ≤ T.length ∧ i = .int .i64 k ∧ Hid (U.length = S.length * T.length ∧ ∀ k' j, k' < k → j < S.length → gi U (k' * S.length + j) = dig S (gi T k') j) ∧
      OwnInts wr w.heap.size (.slice (some ⟨w.heap.size + 1, 0, none⟩) (S.length * T.length) (S.length * T.length)) U ∧ wr.ownsRow w.heap.size 24 1 (.slice (some ⟨w1.heap.size, 0, none⟩) T.length T.length) T.length V ∧
      Hid (V.length = T.length ∧ ∀ k', k' < k → V[k']? = some (.slice (some ⟨w.heap.size + 1, k' * S.length, none⟩) S.length S.length)) ∧ wr.cell? ⟨w.heap.size, 0, none⟩ = some (.slice (some ⟨bs, os, none⟩) S.length cap) ∧ w1.heap.size < wr.heap.size ∧ Below w.heap.size w wr) (fun i _ => T.length - (intOf i).toNat)
  case atStart => exact ⟨0, _, V0, Nat.zero_le _, rfl, Lib.hid ⟨by simp, fun _ _ h => by omega⟩, hown, hown', Lib.hid ⟨hVl, fun _ h => by omega⟩, c1, hlt2, B2⟩
  case round =>
    clear hown hown' hVl c1 hlt2 B2
    obtain ⟨k, U, V, hk, rfl, HU, hown, hown', HV, c, hlt2, B⟩ := hrel
    by_cases hlt : k < T.length
    · obtain ⟨b, o, rfl, hbl, hc⟩ := hT.at hlt
      have hck : wr.cell? ⟨b, o + k, none⟩ = some (.int .i64 (gi T k)) := kept_cell B (hc k hlt) hbl
      obtain ⟨x1, x2⟩ := HT0.out k hlt
      have n1 : k * S.length + S.length ≤ S.length * T.length := by
        have : (k + 1) * S.length ≤ T.length * S.length := Nat.mul_le_mul_right _ hlt
        rw [Nat.add_mul, Nat.one_mul, Nat.mul_comm T.length] at this; exact this
      have p1 : (0 : Int) ≤ (k : Int) * (S.length : Int) := Int.mul_nonneg (by omega) (by omega)
      have p2 : (k : Int) * (S.length : Int) + (S.length : Int) ≤ (S.length : Int) * (T.length : Int) := by exact_mod_cast n1
      have p3 : ((k : Int) + 1) * (S.length : Int) ≤ (k : Int) * (S.length : Int) + (S.length : Int) := by rw [Int.add_mul, Int.one_mul]; omega
      have p4 : (k : Int) * (S.length : Int) + (S.length : Int) ≤ ((k : Int) + 1) * (S.length : Int) := by rw [Int.add_mul, Int.one_mul]; omega
      obtain ⟨vk, hcellV⟩ : ∃ vk, wr.cell? ⟨w1.heap.size, k, none⟩ = some vk := by
        rw [hown'.cellAt k (by omega)]
        exact ⟨_, List.getElem?_eq_getElem (by rw [HV.out.1]; exact hlt)⟩
      have hfreeV := hown'.frozenAt k
      clear hc
      go_wp2_with fail
      rw [show (k + 1) * S.length - k * S.length = S.length from by rw [Nat.add_mul, Nat.one_mul, Nat.add_sub_cancel_left]]
      have st := hown'.stored k (.slice (some ⟨w.heap.size + 1, k * S.length, none⟩) S.length S.length)
      have hV2 := st.1
      have hG2 := st.2
      have c2 := cell_set_other (a := ⟨w1.heap.size, k, none⟩) (u := .slice (some ⟨w.heap.size + 1, k * S.length, none⟩) S.length S.length) c (by simp; omega)
      have hp2 : (wr.setCell ⟨w1.heap.size, k, none⟩ (.slice (some ⟨w.heap.size + 1, k * S.length, none⟩) S.length S.length)).cell? ⟨w1.heap.size, k, none⟩ = some (.slice (some ⟨w.heap.size + 1, k * S.length, none⟩) S.length S.length) := by
        rw [hV2.cellAt k (by omega)]; simp [HV.out.1, hlt]
      have hU2 := hown.kept hG2 (by simp [Value.ownBlock]; omega)
      have B2 : Below w.heap.size w (wr.setCell ⟨w1.heap.size, k, none⟩ (.slice (some ⟨w.heap.size + 1, k * S.length, none⟩) S.length S.length)) := B.setCell (by simp; omega) _
      have hs2 : (wr.setCell ⟨w1.heap.size, k, none⟩ (.slice (some ⟨w.heap.size + 1, k * S.length, none⟩) S.length S.length)).heap.size = wr.heap.size := by simp
      clear st hG2 hown hown' hcellV hfreeV
      obtain ⟨wx, hwx⟩ : ∃ wx, wx = wr.setCell ⟨w1.heap.size, k, none⟩ (.slice (some ⟨w.heap.size + 1, k * S.length, none⟩) S.length S.length) := ⟨_, rfl⟩
      rw [← hwx] at hV2 c2 hp2 hU2 B2 hs2 ⊢
      have HS2 := Lib.hid hs2
      clear hwx hs2 hck c p3 p4
      go_region_held3 (fun w' => w'.cell? ⟨w.heap.size, 0, none⟩ = some (.slice (some ⟨bs, os, none⟩) S.length cap) ∧ w'.cell? ⟨w1.heap.size, k, none⟩ = some (.slice (some ⟨w.heap.size + 1, k * S.length, none⟩) S.length S.length)) (first | exact ⟨c2, hp2⟩ | exact ⟨hg3.cell (a := ⟨w.heap.size, 0, none⟩) c2 (by simp), hg3.cell (a := ⟨w1.heap.size, k, none⟩) hp2 (by simp; omega)⟩) (first | (go_at_call 84; refine (putDigits_any (some ⟨bs, os, none⟩) S cap hl HB.out (gi T k) x1 x2 (w.heap.size + 1) (k * S.length) (S.length * T.length) w.heap.size (S.length * T.length) U (by rw [HU.out.1]; exact n1) (by rw [HU.out.1]; omega) _ (hS.below B2.drew) (by intro b o h; cases h; omega) hU2.drew).mono ?_; rintro e w3 ⟨rfl, ⟨U', hU'1, hU'2, hU'3, hU'4⟩, hg3'⟩; have hg3 : wx.grownBy w3 (some (w.heap.size + 1)) := grown_trans (grown_of_below (below_drewN (Below.refl wx.heap.size wx) 1) _) hg3'))
      go_wp2
      go_roundw
      case rel =>
        have hw1 : w1.heap.size ≠ w.heap.size + 1 := by omega
        refine ⟨k + 1, U', _, by omega, by go_num, Lib.hid ⟨by rw [hU'1]; exact HU.out.1, ?_⟩, hU'4, hV2.kept hg3 (by simp [Value.ownBlock]; omega), Lib.hid ⟨by rw [List.length_set]; exact HV.out.1, ?_⟩, ?_, ?_, ?_⟩
        · intro k' j h1 h2
          by_cases e : k' = k
          · subst e; exact hU'2 j h2
          · have hkk : (k' + 1) * S.length ≤ k * S.length := Nat.mul_le_mul_right _ (by omega)
            rw [Nat.add_mul, Nat.one_mul] at hkk
            rw [hU'3 _ (by omega)]
            exact HU.out.2 k' j (by omega) h2
        · intro k' h1
          by_cases e : k' = k
          · subst e; rw [List.getElem?_set_self (by rw [HV.out.1]; exact hlt)]
          · rw [List.getElem?_set_ne (fun h => e h.symm)]; exact HV.out.2 k' (by omega)
        · exact hg3.cell (a := ⟨w.heap.size, 0, none⟩) c2 (by simp)
        · have := hg3.size; have := HS2.out; omega
        · exact B2.grown hg3 B2.size (by intro q hq; simp at hq; omega)
      case measure => simp [intOf]; omega
    · have ek : k = T.length := by omega
      go_wp2
      go_ret
      have hU1 := HU.out.1
      have hUe : U.length = T.length * S.length := by rw [hU1, Nat.mul_comm]
      refine ⟨_, w.heap.size + 1, U, rfl, ⟨hUe, fun k' j h1 h2 => HU.out.2 k' j (by omega) h2, by rw [hU1]; exact hown, fun k' h1 => ?_, by omega, by omega, by omega⟩, B⟩
      rw [hown'.cellAt k' (by omega)]
      exact HV.out.2 k' (by omega)

theorem digitParts_n (ao : Option Addr) (S : List Int) (cap : Nat) (hl0 : 1 ≤ S.length) (hl : S.length ≤ 8) (hbd : ∀ i, i < S.length → 2 ≤ gi S i ∧ gi S i ≤ 4) (at' : Option Addr) (T : List Int) (K capt : Nat) (hK : K = T.length) (hnt : K ≤ 16777216) (hT0 : ∀ i, i < T.length → 0 ≤ gi T i ∧ gi T i ≤ 9223372036854775807) (w : World) (hS : Ints w ao S) (hT : Ints w at' T) :
    Calls Try.prog 77 #[.agg #[.slice ao S.length cap], .slice at' K capt] w fun e w' =>
      ∃ P g U, e = .returned (.slice (some ⟨P, 0, none⟩) K K) ∧ PartsAt w' w.heap.size P g S T U ∧ Below w.heap.size w w' := by
  subst hK; exact digitParts_any ao S cap hl0 hl hbd at' T capt hnt hT0 w hS hT

end Go.Proofs.Ytamebfbddoeflaa
